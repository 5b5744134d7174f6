/- The walk of LexJoin. -/
import Derived.Test.YtcncbdnnakfgcaaLexQ3
namespace Go.Proofs.Ytcncbdnnakfgcaa
open Go.ChangeShapes Go.WideShapes Go.ChangeAt Go.RowKit
set_option linter.unusedVariables false

def joinT (l : List (Tok × Nat)) : Bs := l.flatMap fun q => q.1.text ++ [32]
def place : Nat → List (Tok × Nat) → List (Tok × Nat)
  | _, [] => []
  | p, q :: qs => (q.1, p) :: place (p + q.1.text.length + 1) qs
theorem joinT_cons (q : Tok × Nat) (l : List (Tok × Nat)) : joinT (q :: l) = q.1.text ++ 32 :: joinT l := by simp [joinT]
theorem joinT_snoc (l : List (Tok × Nat)) (q : Tok × Nat) : joinT (l ++ [q]) = joinT l ++ (q.1.text ++ [32]) := by simp [joinT]
theorem place_snoc (l : List (Tok × Nat)) (q : Tok × Nat) : ∀ p, place p (l ++ [q]) = place p l ++ [(q.1, p + (joinT l).length)] := by
  induction l with
  | nil => intro p; rfl
  | cons r l ih =>
    intro p
    rw [List.cons_append, place, ih, place, joinT_cons, List.length_append, List.length_cons, List.cons_append,
      show p + r.1.text.length + 1 + (joinT l).length = p + (r.1.text.length + ((joinT l).length + 1)) by omega]
theorem place_length (l : List (Tok × Nat)) : ∀ p, (place p l).length = l.length := by
  induction l with
  | nil => intro p; rfl
  | cons q l ih => intro p; rw [place, List.length_cons, List.length_cons, ih]
def GoodT (t : Tok) : Prop := ∃ c z, t.text = c :: z ∧ isSp c = false ∧ c.toNat ≠ 35 ∧ tokT (c :: z) = (t, 0)
theorem goodT_of {c : UInt8} {r : Bs} (h : isSp c = false) (h35 : c.toNat ≠ 35) (e : (tokT (c :: r)).2 = 0) : GoodT (tokT (c :: r)).1 := by
  have hx := tok_text e
  have hcut := tok_cut (m := (tokT (c :: r)).1.text.length) e (Nat.le_refl _)
  rw [← hx.2] at hcut
  obtain ⟨m, hm⟩ : ∃ m, (tokT (c :: r)).1.text.length = m + 1 := ⟨(tokT (c :: r)).1.text.length - 1, by omega⟩
  have htx : (tokT (c :: r)).1.text = c :: r.take m := by
    have h2 := hx.2
    rw [hm, List.take_succ_cons] at h2
    exact h2
  refine ⟨c, r.take m, htx, h, h35, ?_⟩
  rw [← htx, hcut, ← e]
theorem lx_goods {l : Bs} {at_ cnt : Nat} {R : Res} (h : Lx l at_ cnt R) : ∀ {ts : List (Tok × Nat)}, R = .ok ts → cnt ≤ 2000 → ∃ ts' e, ts = ts' ++ [(zT, e)] ∧ (∀ q ∈ ts', GoodT q.1 ∧ q.1.text.length ≤ 19) ∧ cnt + ts'.length ≤ 2000 := by
  induction h with
  | nil at_ cnt => intro ts e hc; injection e with e; exact ⟨[], at_, by rw [← e]; rfl, by simp, by simp; omega⟩
  | sp h t ih => exact ih
  | rem h h35 t ih => exact ih
  | bad h h35 e => intro ts e'; cases e'
  | full h h35 e hc => intro ts e'; cases e'
  | @tok c r at_ cnt R h h35 e hc t ih =>
    intro ts e' hc'
    cases R with
    | bad c2 a2 => cases e'
    | ok ts1 =>
      injection e' with e'
      obtain ⟨ts', e1, h1, h2, h3⟩ := ih rfl (by omega)
      refine ⟨((tokT (c :: r)).1, at_) :: ts', e1, by rw [← e', h1]; rfl, ?_, by simp; omega⟩
      intro q hq
      rcases List.mem_cons.1 hq with rfl | hq
      · exact ⟨goodT_of h h35 e, tok_len e⟩
      · exact h2 q hq
theorem lx_join (l : List (Tok × Nat)) (hg : ∀ q ∈ l, GoodT q.1) : ∀ p cnt, cnt + l.length ≤ 2000 → Lx (joinT l ++ [32]) p cnt (.ok (place p l ++ [(zT, p + (joinT l).length + 1)])) := by
  induction l with
  | nil => intro p cnt h; exact .sp (by decide) (.nil _ _)
  | cons q l ih =>
    intro p cnt h
    simp only [List.length_cons] at h
    obtain ⟨c, z, h1, h2, h3, h4⟩ := hg q (by simp)
    have hi := ih (fun q' hq' => hg q' (by simp [hq'])) (p + q.1.text.length + 1) (cnt + 1) (by omega)
    have hform : joinT (q :: l) ++ [32] = c :: (z ++ 32 :: (joinT l ++ [32])) := by rw [joinT_cons, h1]; simp
    have htok : tokT (c :: (z ++ 32 :: (joinT l ++ [32]))) = (q.1, 0) := by rw [tok_ext stop32]; exact h4
    rw [hform]
    have := Lx.tok (c := c) (r := z ++ 32 :: (joinT l ++ [32])) (at_ := p) (cnt := cnt) (R := .ok (place (p + q.1.text.length + 1) l ++ [(zT, p + q.1.text.length + 1 + (joinT l).length + 1)])) h2 h3 (by rw [htok]) (by omega) (by
      rw [htok]
      simp only
      rw [show (c :: (z ++ 32 :: (joinT l ++ [32]))).drop q.1.text.length = 32 :: (joinT l ++ [32]) by
        rw [← List.cons_append, ← h1]
        exact List.drop_left]
      exact .sp (by decide) hi)
    rw [htok] at this
    rw [place, joinT_cons, List.length_append, List.length_cons]
    rw [show p + q.1.text.length + 1 + (joinT l).length + 1 = p + (q.1.text.length + ((joinT l).length + 1)) + 1 by omega] at this
    exact this
theorem join_len (l : List (Tok × Nat)) (h : ∀ q ∈ l, q.1.text.length ≤ 19) : (joinT l).length ≤ l.length * 20 := by
  induction l with
  | nil => simp [joinT]
  | cons q l ih =>
    have h1 := h q (by simp)
    have h2 := ih (fun q' hq' => h q' (by simp [hq']))
    rw [joinT_cons, List.length_append, List.length_cons, List.length_cons]
    omega
theorem RT.setAt {w : World} {g n1 : Nat} {l : List (Tok × Nat)} {t : Tok} {a b : Nat} (hl : l.length = n1) (h : RT w (some ⟨g, 0, none⟩) (n1 + 1) (l ++ [(t, a)])) :
    RT (w.setCell ⟨g, n1 * 4 + 3, none⟩ (.int .i64 b)) (some ⟨g, 0, none⟩) (n1 + 1) (l ++ [(t, b)]) := by
  refine ⟨by rw [List.length_append, hl]; rfl, fun hn => ?_⟩
  obtain ⟨g', hg', hlt, hc⟩ := h.2 hn
  injection hg' with hg'
  injection hg' with hg'
  subst hg'
  have other : ∀ j u, j ≠ n1 * 4 + 3 → w.cell? ⟨g, j, none⟩ = some u → (w.setCell ⟨g, n1 * 4 + 3, none⟩ (.int .i64 b)).cell? ⟨g, j, none⟩ = some u := by
    intro j u hj hu
    rw [World.cell?_setCell_other _ _ _ _ (fun e => by injection e with _ e; omega)]
    exact hu
  refine ⟨g, rfl, by simpa [World.setCell] using hlt, fun i t' a' hi => ?_⟩
  rcases Nat.lt_or_ge i n1 with hin | hin
  · rw [List.getElem?_append_left (by omega)] at hi
    obtain ⟨h0, h1, h2, h3⟩ := hc i t' a' (by rw [List.getElem?_append_left (by omega)]; exact hi)
    exact ⟨other _ _ (by omega) h0, other _ _ (by omega) h1, other _ _ (by omega) h2, other _ _ (by omega) h3⟩
  · have hin2 : i = n1 := by
      have := (List.getElem?_eq_some_iff.1 hi).1
      rw [List.length_append] at this
      simp at this
      omega
    subst hin2
    rw [List.getElem?_append_right (by omega), hl, Nat.sub_self] at hi
    simp at hi
    obtain ⟨rfl, rfl⟩ := hi
    obtain ⟨h0, h1, h2, h3⟩ := hc i t a (by rw [List.getElem?_append_right (by omega), hl, Nat.sub_self]; rfl)
    refine ⟨other _ _ (by omega) h0, other _ _ (by omega) h1, other _ _ (by omega) h2, ?_⟩
    exact World.cell?_setCell_same' _ _ _ (by rw [h3]; rfl)
theorem All_own (s : ByteArray) (w : World) (ts : List (Tok × Nat)) (n : Nat) (hs : s.size ≤ 100000) (hx : Lx (bl s) 0 0 (.ok ts)) (hn : ts.length = n) :
    Calls Try.prog 18 #[.string s] w fun e w' => ∃ A cap, e = .returned (.tuple #[.slice A n cap, .agg #[.int .i64 0, .int .i64 0]]) ∧ w'.ownsRow w.heap.size 33 4 (.slice A n cap) n (cellsT ts) ∧ Below w.heap.size w w' := by
  subst hn
  exact All_any s w _ hs hx
theorem rt_n' {w : World} {b n : Nat} {A : Option Addr} {cap : Nat} {ts : List (Tok × Nat)} (hn : ts.length = n) (h : w.ownsRow b 33 4 (.slice A n cap) n (cellsT ts)) : RT w A n ts := by
  subst hn
  exact RT.of_own h
theorem own_at {w : World} {b n : Nat} {v : Value} {xs : List Value} (h : w.ownsRow b 33 4 v n xs) (hn : 0 < n) :
    ∃ g cap, v = .slice (some ⟨g, 0, none⟩) n cap ∧ b ≤ g ∧ g < w.heap.size ∧ n ≤ cap ∧ (∀ j, w.frozen? ⟨g, j, none⟩ = false) ∧ ∀ j u, xs[j]? = some u → w.cell? ⟨g, j, none⟩ = some u := by
  rcases h.2 with ⟨_, h0⟩ | ⟨g, cap, cur, hv, hb, hg, hnc, _, hsz, htk⟩
  · omega
  · have hblk : Blk w g 33 cur := hg
    refine ⟨g, cap, hv, hb, hblk.lt, hnc, hblk.frozen, fun j u hu => ?_⟩
    rw [hblk.cell j]
    rw [← htk, List.getElem?_take] at hu
    split at hu
    · simpa using hu
    · cases hu
/-- the loop's memory -/
structure Sj (W wr : World) (v : Value) (l : List (Tok × Nat)) : Prop where
  below : Below W.heap.size W wr
  own : wr.ownsRow W.heap.size 33 4 v l.length (cellsT (place 0 l))

set_option maxHeartbeats 4000000 in
set_option maxRecDepth 100000 in
theorem lexJoin_walk (s : ByteArray) (hs : s.size ≤ maxLen) (w : World) : Calls Try.prog 7 #[.string s] w fun e w' => e = .returned (.bool true) ∧ Below w.heap.size w w' := by
  obtain ⟨x, hx⟩ : ∃ x, x = s.extract 0 (min s.size 100100) := ⟨_, rfl⟩
  have hxs : x.size ≤ 100100 := by rw [hx, ByteArray.size_extract]; omega
  have hcut : ∀ W, Calls Try.prog 17 #[.string s] W fun e w' => e = .returned (.string x) ∧ W = w' := by rw [hx]; exact fun W => Cut_any s W hs
  have HCut := Lib.hid hcut
  clear hcut hx
  rcases told2 x hxs with ⟨ts, hx1, hlx, hlen, hq, hA⟩ | ⟨c, a, hd, hA⟩
  · obtain ⟨ts', e1, hts, hgood, hcnt⟩ := lx_goods hlx rfl (by omega)
    obtain ⟨n1, hn1⟩ : ∃ n1, n1 = ts'.length := ⟨_, rfl⟩
    have hn : ts.length = n1 + 1 := by rw [hts, List.length_append, hn1]; rfl
    have HA := Lib.hid (hA (n1 + 1) hn)
    have hjl := join_len ts' (fun q hq' => (hgood q hq').2)
    have hjs : joinT ts = joinT ts' ++ [32] := by rw [hts, joinT_snoc]; rfl
    have hjsl : (joinT ts).length = (joinT ts').length + 1 := by rw [hjs, List.length_append]; rfl
    have HJ : Lx (bl (bs (joinT ts))) 0 0 (.ok (place 0 ts' ++ [(zT, (joinT ts).length)])) := by
      have HJ' := lx_join ts' (fun q hq' => (hgood q hq').1) 0 0 (by omega)
      rw [Nat.zero_add] at HJ'
      rw [bl_bs, hjsl, hjs]
      exact HJ'
    have hM : (place 0 ts' ++ [(zT, (joinT ts).length)]).length = n1 + 1 := by rw [List.length_append, place_length, hn1]; rfl
    have HA2 : Hid (∀ W, Calls Try.prog 18 #[.string (bs (joinT ts))] W fun e w' => ∃ A cap, e = .returned (.tuple #[.slice A (n1 + 1) cap, .agg #[.int .i64 0, .int .i64 0]]) ∧ w'.ownsRow W.heap.size 33 4 (.slice A (n1 + 1) cap) (n1 + 1) (cellsT (place 0 ts' ++ [(zT, (joinT ts).length)])) ∧ Below W.heap.size W w') :=
      Lib.hid (fun W => All_own (bs (joinT ts)) W _ (n1 + 1) (by rw [size_bl, bl_bs, hjsl]; omega) HJ hM)
    have HPL : Hid (place 0 ts = place 0 ts' ++ [(zT, (joinT ts').length)]) := Lib.hid (by rw [hts, place_snoc]; simp)
    have HTL : Hid (∀ k, (joinT (ts.take k)).length ≤ 60000) := Lib.hid (fun k => by
      have h1 := join_len (ts.take k) (fun q hq' => by
        have h2 := List.mem_of_mem_take hq'
        rw [hts] at h2
        rcases List.mem_append.1 h2 with h3 | h3
        · exact (hgood q h3).2
        · simp at h3; rw [h3]; simp [zT])
      have h2 : (ts.take k).length ≤ 2001 := by rw [List.length_take]; omega
      omega)
    have HM := Lib.hid hM
    have HN := Lib.hid hn
    have HJL : Hid ((joinT ts).length ≤ 60000) := Lib.hid (by omega)
    have hn2 : n1 ≤ 2000 := by omega
    have HPN : Hid ((place 0 ts').length = n1) := Lib.hid (by rw [place_length, hn1])
    have HSH : Hid (Shifted 0 (place 0 ts' ++ [(zT, (joinT ts).length)]) (place 0 ts' ++ [(zT, (joinT ts).length)])) := Lib.hid (shifted_self _ (fun q hq' => by
      have h2 := lx_bound HJ q hq'
      rw [bl_bs, hjsl] at h2
      omega))
    obtain ⟨i0, hi0, hz0, hz1, hz2⟩ := info_parts info_tok
    have HI : Hid (Try.prog.info? 33 = some i0 ∧ i0.zero = some (.agg #[.int .i64 0, .string ⟨#[]⟩, .int .i64 0, .int .i64 0]) ∧ i0.size = 4 ∧ i0.bytes = 40) := Lib.hid ⟨hi0, hz0, hz1, hz2⟩
    clear hlx hq hA hts hgood hcnt hn1 hn hjl hjs hjsl HJ hM hi0 hz0 hz1 hz2 hlen
    go_enter Try.func7, Try.ntmps7
    go_wp2_with (first
      | (go_at_call 16; refine (lexed_any _).mono ?_; rintro e w0 ⟨rfl, hb⟩; have HB0 := Lib.hid hb; clear hb)
      | (go_at_call 17; refine (HCut.out _).mono ?_; rintro e w' ⟨rfl, rfl⟩)
      | (go_at_call 18; refine (HA.out _).mono ?_; rintro e w1 ⟨A, cap, rfl, hrt, hb⟩; have HB1 := Lib.hid hb; have HT1 := Lib.hid hrt; have hz1 := hb.size; obtain ⟨g, rfl, hg, hc⟩ := hrt.at_ (by omega); clear hb hrt hc))
    have HT := Lib.hid (HT1.out.below ((Below.refl _ _).alloc (Nat.le_refl _) (.cells #[.int .i64 0, .int .i64 0] 27)))
    have HB := Lib.hid ((below_then HB0.out HB1.out).alloc (below_then HB0.out HB1.out).size (.cells #[.int .i64 0, .int .i64 0] 27))
    generalize w1.alloc _ = W at HT HB ⊢
    go_loopw [5, 6, 25] (fun sv v i wr => ∃ k : Nat, k ≤ n1 + 1 ∧ i = .int .i64 k ∧ sv = .string (bs (joinT (ts.take k))) ∧ Hid (Sj W wr v (ts.take k))) (fun _ _ i _ => n1 + 1 - (intOf i).toNat)
    case atStart => exact ⟨0, Nat.zero_le _, rfl, rfl, Lib.hid ⟨Below.refl _ _, World.ownsRow_nil _ _ _ _⟩⟩
    case round =>
      obtain ⟨k, hk, rfl, rfl, HS⟩ := hrel
      by_cases hlt : k < n1 + 1
      · have hkt : k < ts.length := by rw [HN.out]; exact hlt
        obtain ⟨⟨t, a⟩, hta⟩ : ∃ q, ts[k]? = some q := ⟨_, List.getElem?_eq_getElem hkt⟩
        have hrt := HT.out.below HS.out.below
        obtain ⟨g', hg', hgl, hc⟩ := hrt.at_ (by omega)
        injection hg' with hg'
        injection hg' with hg'
        subst hg'
        obtain ⟨p0, p1, p2, p3⟩ := hc k t a hta
        have htake : ts.take (k + 1) = ts.take k ++ [(t, a)] := by
          rw [List.take_succ_eq_append_getElem hkt]
          rw [List.getElem?_eq_getElem hkt] at hta
          injection hta with hta
          rw [hta]
        have hl1 := HTL.out k
        have hl2 := HTL.out (k + 1)
        rw [htake, joinT_snoc, List.length_append, List.length_append] at hl2
        simp only [List.length_cons, List.length_nil] at hl2
        obtain ⟨js, hjs⟩ : ∃ js, js = bs (joinT (ts.take k)) := ⟨_, rfl⟩
        have hjsz : js.size = (joinT (ts.take k)).length := by rw [hjs, size_bl, bl_bs]
        have htsz : (bs t.text).size = t.text.length := by rw [size_bl, bl_bs]
        have hln : (ts.take k).length = k := by rw [List.length_take]; omega
        have HJS := Lib.hid hjs
        rw [← hjs]
        have hown := HS.out.own
        rw [hln] at hown
        have hbz := HS.out.below.size
        have HTK := Lib.hid htake
        have HJZ := Lib.hid hjsz
        have HLN := Lib.hid hln
        have HOWN := Lib.hid hown
        have hj1 : js.size ≤ 60000 := by omega
        have hj2 : js.size + (bs t.text).size ≤ 70000 := by omega
        obtain ⟨hi0, hz0, hz1', hz2⟩ := HI.out
        clear hc hrt hta htake hjs hjsz htsz hln hown hl1 hl2
        go_wp2_with (at_builtin; refine wpList_append_own _ rfl (.tmp 32) (.tmp 34) 24 rfl W.heap.size 33 i0 _ 4 40 Try.underlying24 hi0 hz0 hz1' hz2 rfl (by decide) _ k (cellsT (place 0 (ts.take k))) rfl ((HOWN.out.alloc _).alloc _) ⟨wr.heap.size + 1, 0, none⟩ 1 1 [.int .i64 t.kind, .string (bs t.text), .int .i64 t.n, .int .i64 js.size] rfl rfl (four_cells' (by simp) _ _ _ _ _) (four_one _ _ _ _) (by unfold maxLen; omega) (by omega) (by simp; omega) ?_)
        intro v' w2 hown' hgrow _
        have hne : some wr.heap.size ≠ u6.ownBlock := fun he => by have := (HOWN.out.lt _ he.symm).2; omega
        have hto2 := ((Blk.new wr 33 #[.int .i64 t.kind, .string (bs t.text), .int .i64 t.n, .int .i64 js.size]).alloc _).grown hgrow hne
        have r1 : w2.cell? ⟨wr.heap.size, 1, none⟩ = some (.string (bs t.text)) := hto2.cell 1
        have hbel2 : Below W.heap.size W w2 := ((HS.out.below.alloc hbz _).alloc (by simp; omega) _).grown hgrow (by simp; omega) (fun q hq' => (HOWN.out.lt _ hq').1)
        have HSJ : Hid (Sj W w2 v' (ts.take (k + 1))) := Lib.hid ⟨hbel2, by
          rw [HTK.out, place_snoc, cellsT_append, List.length_append, HLN.out]
          have h := hown'
          rw [HJZ.out] at h
          simpa [cellsT] using h⟩
        have HST : Hid (bs (joinT (ts.take (k + 1))) = js ++ (bs t.text ++ ⟨#[32]⟩)) := Lib.hid (by
          rw [HTK.out, joinT_snoc, HJS.out]
          rw [← bs_bl (bs (joinT (ts.take k)) ++ (bs t.text ++ ⟨#[32]⟩)), bl_append, bl_append, bl_bs, bl_bs])
        have hs3 : (bs t.text ++ ⟨#[32]⟩ : ByteArray).size = (bs t.text).size + 1 := by rw [size_bl, bl_append, List.length_append, ← size_bl]; rfl
        have hs4 : (bs t.text ++ ⟨#[32]⟩ : ByteArray).size ≤ 70001 := by omega
        clear hown' hgrow hne hto2 hbel2 hi0 hz0 hz1' hz2 p0 p1 p2 p3 hs3
        go_wp2_with fail
        go_roundw
        case rel => exact ⟨k + 1, by omega, by go_num, by rw [HST.out], HSJ⟩
        case measure => simp [intOf]; omega
      · obtain rfl : k = n1 + 1 := by omega
        have hwhole : ts.take (n1 + 1) = ts := List.take_of_length_le (by rw [HN.out]; exact Nat.le_refl _)
        rw [hwhole] at HS ⊢
        have hown := HS.out.own
        rw [HN.out] at hown
        obtain ⟨g6, cap6, rfl, hb6, hl6, hc6, hf6, hcell6⟩ := own_at hown (by omega)
        have HOWN := Lib.hid hown
        have hjsz : (bs (joinT ts)).size = (joinT ts).length := by rw [size_bl, bl_bs]
        have HJZ := Lib.hid hjsz
        have hjle : (bs (joinT ts)).size ≤ 60000 := by have := HJL.out; omega
        have hbz := HS.out.below.size
        have q1 : (((n1 : Nat) : Int) + 1 == 0) = false := by simp; omega
        have hlast : wr.cell? ⟨g6, n1 * 4 + 3, none⟩ = some (.int .i64 (joinT ts').length) := hcell6 _ _ (by
          have h1 := (cellsT_get (place 0 ts) n1 zT (joinT ts').length (by rw [HPL.out, List.getElem?_append_right (by rw [HPN.out]; exact Nat.le_refl _), HPN.out, Nat.sub_self]; rfl)).2.2.2
          exact h1)
        have hfl := hf6 (n1 * 4 + 3)
        clear hwhole hown hcell6 hf6 hjsz
        go_wp2_with (first
          | (go_at_call 18; refine (HA2.out _).mono ?_; rintro e w3 ⟨A3, cap3, rfl, hown3, hb⟩; have HB3 := Lib.hid hb; have HO3 := Lib.hid hown3; have hz3 := hb.size; have l3 : g6 < w3.heap.size := (by omega); have c3 : w3.cell? ⟨g6, n1 * 4 + 3, none⟩ = some (.int .i64 (joinT ts').length) := (hb.cell (p := ⟨g6, n1 * 4 + 3, none⟩) hl6).trans hlast; have d3 : w3.frozen? ⟨g6, n1 * 4 + 3, none⟩ = false := (hb.frozen (p := ⟨g6, n1 * 4 + 3, none⟩) hl6).trans hfl; clear hb hown3))
        have HW : Hid (RT (w3.setCell ⟨g6, n1 * 4 + 3, none⟩ (.int .i64 (bs (joinT ts)).size)) (some ⟨g6, 0, none⟩) (n1 + 1) (place 0 ts' ++ [(zT, (joinT ts).length)])) := Lib.hid (by
          have h1 : RT w3 (some ⟨g6, 0, none⟩) (n1 + 1) (place 0 ts) := rt_n' (by rw [place_length]; exact HN.out) (own_below HOWN.out HB3.out)
          rw [HPL.out] at h1
          rw [HJZ.out]
          exact RT.setAt HPN.out h1)
        have HM3 : Hid (RT (w3.setCell ⟨g6, n1 * 4 + 3, none⟩ (.int .i64 (bs (joinT ts)).size)) A3 (n1 + 1) (place 0 ts' ++ [(zT, (joinT ts).length)])) := Lib.hid (rt_n' HM.out (own_set HO3.out (p := ⟨g6, n1 * 4 + 3, none⟩) hl6 _))
        have HBf : Hid (Below W.heap.size W (w3.setCell ⟨g6, n1 * 4 + 3, none⟩ (.int .i64 (bs (joinT ts)).size))) := Lib.hid ((below_then HS.out.below HB3.out).setCell hb6 _)
        generalize w3.setCell _ _ = w4 at HW HM3 HBf ⊢
        go_wp2_with (go_at_call 20; refine (same_true _ _ (n1 + 1) cap6 cap3 _ _ 0 _ (by omega) (HW.out.below ((Below.refl _ _).alloc (Nat.le_refl _) _)) (HM3.out.below ((Below.refl _ _).alloc (Nat.le_refl _) _)) HSH.out).mono ?_; rintro e w5 ⟨rfl, kk, rfl⟩)
        go_ret
        exact ⟨rfl, drew_below ((HB.out.trans (HBf.out.mono HB.out.size)).alloc (HB.out.trans (HBf.out.mono HB.out.size)).size _) kk⟩
  · have HA := Lib.hid hA
    have hc0 : c ≠ 0 := by
      rcases hd with ⟨_, h⟩ | ⟨_, h, _⟩
      · have := (lx_bad h rfl).1; omega
      · omega
    have q0 : (((c : Nat) : Int) != 0) = true := by simp; omega
    clear hA hd hc0
    go_enter Try.func7, Try.ntmps7
    go_wp2_with (first
      | (go_at_call 16; refine (lexed_any _).mono ?_; rintro e w0 ⟨rfl, hb⟩; have HB0 := Lib.hid hb; clear hb)
      | (go_at_call 17; refine (HCut.out _).mono ?_; rintro e w' ⟨rfl, rfl⟩)
      | (go_at_call 18; refine (HA.out _).mono ?_; rintro e w1 ⟨A, cap, rfl, hb⟩; have HB1 := Lib.hid hb; have hz1 := hb.size; clear hb))
    go_ret
    exact ⟨rfl, (below_then HB0.out HB1.out).alloc (below_then HB0.out HB1.out).size _⟩
end Go.Proofs.Ytcncbdnnakfgcaa
