/- The walk of LexNames. -/
import Derived.Test.YtcncbdnnakfgcaaLexAllW
namespace Go.Proofs.Ytcncbdnnakfgcaa
open Go.ChangeShapes Go.WideShapes Go.ChangeAt Go.RowKit
set_option linter.unusedVariables false

def OkPost (n : Nat) (ts : List (Tok × Nat)) (W : World) (e : Ending) (w' : World) : Prop := ∃ A cap, e = .returned (.tuple #[.slice A n cap, .agg #[.int .i64 0, .int .i64 0]]) ∧ RT w' A n ts ∧ Below W.heap.size W w'
def BadPost (c a : Nat) (W : World) (e : Ending) (w' : World) : Prop := ∃ A cap, e = .returned (.tuple #[.slice A 0 cap, .agg #[.int .i64 c, .int .i64 a]]) ∧ Below W.heap.size W w'
/-- what All tells of a text that is cut: tokens, or a fault -/
theorem told2 (x : ByteArray) (hx : x.size ≤ 100100) :
    (∃ ts, x.size ≤ 100000 ∧ Lx (bl x) 0 0 (.ok ts) ∧ ts.length ≤ 2001 ∧ (∀ q ∈ ts, q.2 + q.1.text.length ≤ x.size) ∧ ∀ n, ts.length = n → ∀ W, Calls Try.prog 18 #[.string x] W (OkPost n ts W)) ∨
    (∃ c a, ((x.size ≤ 100000 ∧ Lx (bl x) 0 0 (.bad c a)) ∨ (100000 < x.size ∧ c = 4 ∧ a = 0)) ∧ ∀ W, Calls Try.prog 18 #[.string x] W (BadPost c a W)) := by
  obtain ⟨R, hA, _, hq, hd⟩ := told x hx
  have hlen := toks_len hd
  rcases hd with ⟨h, hR⟩ | ⟨h, rfl⟩
  · cases R with
    | ok ts =>
      refine .inl ⟨ts, h, hR, hlen, fun q hq => ?_, fun n hn W => ?_⟩
      · have := lx_bound hR q hq
        rw [← size_bl] at this
        omega
      · exact All_ok x W ts n h hR hn
    | bad c a => exact .inr ⟨c, a, .inl ⟨h, hR⟩, fun W => All_bad x W c a h hR⟩
  · exact .inr ⟨4, 0, .inr ⟨h, rfl, rfl⟩, fun W => All_far x W h (by unfold maxLen; omega)⟩
theorem tok_bad_code {l : Bs} : (tokT l).2 = 0 ∨ (tokT l).2 = 2 ∨ (tokT l).2 = 4 := by
  unfold tokT
  split
  · simp
  · split
    · unfold wordT; split
      · simp
      · split <;> simp
    · split
      · unfold numT; split
        · simp
        · split <;> simp
      · unfold signT; split <;> simp
theorem lx_bad {l : Bs} {at_ cnt c a : Nat} {R : Res} (h : Lx l at_ cnt R) : R = .bad c a → (c = 2 ∨ c = 4) ∧ at_ ≤ a ∧ a < at_ + l.length := by
  induction h with
  | nil => intro e; cases e
  | sp h t ih => intro e; have := ih e; simp only [List.length_cons]; omega
  | @rem c1 r at_ cnt R h h35 t ih =>
    intro e
    have h1 := ih e
    have h2 : (r.takeWhile notNl).length + (r.dropWhile notNl).length = r.length := by rw [← List.length_append, List.takeWhile_append_dropWhile]
    simp only [List.length_cons]
    omega
  | @bad c1 r at_ cnt h h35 e0 =>
    intro e
    injection e with e1 e2
    have := tok_bad_code (l := c1 :: r)
    simp only [List.length_cons]
    omega
  | full h h35 e0 hc => intro e; injection e with e1 e2; simp only [List.length_cons]; omega
  | @tok c1 r at_ cnt R h h35 e0 hc t ih =>
    intro e
    cases R with
    | ok ts => cases e
    | bad c2 a2 =>
      have := ih e
      rw [List.length_drop] at this
      omega
theorem all_tw {l : Bs} (h : l.all isLD = true) : l.takeWhile isLD = l := by
  induction l with
  | nil => rfl
  | cons c r ih =>
    simp only [List.all_cons, Bool.and_eq_true] at h
    rw [takeWhile_ne h.1, ih h.2]
theorem tw_all {p : UInt8 → Bool} {l : Bs} (h : l.takeWhile p = l) : l.all p = true := by rw [← h]; exact List.all_takeWhile
theorem word_form {l : Bs} (h : isWd l = true) : (∃ c r, l = c :: r ∧ isLo c = true) ∧ l.all isLD = true ∧ l.length ≤ 8 := by
  simp only [isWd, wds, List.any_cons, List.any_nil, Bool.or_false, Bool.or_eq_true, beq_iff_eq] at h
  rcases h with h | h | h | h | h | h | h | h | h | h | h | h | h <;> rw [h] <;> exact ⟨⟨_, _, rfl, by decide⟩, by decide, by decide⟩
theorem lo_first {c : UInt8} (h : isLo c = true) : isSp c = false ∧ c.toNat ≠ 35 := by
  simp only [isLo, Bool.and_eq_true, decide_eq_true_eq] at h
  refine ⟨?_, by omega⟩
  simp only [isSp, Bool.or_eq_false_iff, beq_eq_false_iff_ne]
  omega
theorem lx_one {c : UInt8} {r : Bs} {k : Nat} (h : isLo c = true) (he : wordT (c :: r) = (⟨k, c :: r, 0⟩, 0)) (ha : (c :: r).all isLD = true) : Lx (c :: r) 0 0 (.ok [(⟨k, c :: r, 0⟩, 0), (zT, (c :: r).length)]) := by
  have ht : tokT (c :: r) = (⟨k, c :: r, 0⟩, 0) := by
    simp only [tokT, h, if_true]
    rw [all_tw ha]
    exact he
  have hn := Lx.nil (0 + (tokT (c :: r)).1.text.length) 1
  have := Lx.tok (c := c) (r := r) (at_ := 0) (cnt := 0) (R := .ok [(zT, 0 + (tokT (c :: r)).1.text.length)]) (lo_first h).1 (lo_first h).2 (by rw [ht]) (by omega) (by
    rw [show (c :: r).drop (tokT (c :: r)).1.text.length = [] by rw [ht]; exact List.drop_length]
    exact hn)
  rw [ht] at this
  simpa [Res.app] using this
theorem name_lx {l : Bs} (h : isNm l = true) : Lx l 0 0 (.ok [(⟨1, l, 0⟩, 0), (zT, l.length)]) := by
  cases l with
  | nil => simp [isNm] at h
  | cons c r =>
    simp only [isNm, Bool.and_eq_true, decide_eq_true_eq, Bool.not_eq_true'] at h
    obtain ⟨⟨⟨h1, h2⟩, h3⟩, h4⟩ := h
    exact lx_one h1 (by unfold wordT; rw [if_neg (by rw [h4]; simp), if_neg (by omega)]) h3
theorem word_lx {l : Bs} (h : isWd l = true) : Lx l 0 0 (.ok [(⟨3, l, 0⟩, 0), (zT, l.length)]) := by
  obtain ⟨⟨c, r, rfl, h1⟩, h2, h3⟩ := word_form h
  exact lx_one h1 (by unfold wordT; rw [if_pos h]) h2
theorem alone {l : Bs} {t : Tok} {a : Nat} {q : Tok × Nat} (h : Lx l 0 0 (.ok [(t, a), q])) (ht : t.text = l) : (t.kind = 1 → isNm l = true) ∧ (t.kind = 3 → isWd l = true) := by
  generalize hR : Res.ok [(t, a), q] = R at h
  cases h with
  | nil => cases hR
  | sp h t' =>
    have hb := lx_bound t' (t, a) (by rw [← hR]; simp [Res.toks])
    simp only [ht, List.length_cons] at hb
    omega
  | @rem c r _ _ _ h h35 t' =>
    have hb := lx_bound t' (t, a) (by rw [← hR]; simp [Res.toks])
    have h2 : (r.takeWhile notNl).length + (r.dropWhile notNl).length = r.length := by rw [← List.length_append, List.takeWhile_append_dropWhile]
    simp only [ht, List.length_cons] at hb
    omega
  | bad h h35 e => cases hR
  | full h h35 e hc => cases hR
  | @tok c r _ _ R1 h h35 e hc t' =>
    cases R1 with
    | bad c2 a2 => cases hR
    | ok ts =>
      simp only [Res.app, List.singleton_append, Res.ok.injEq, List.cons.injEq, Prod.mk.injEq] at hR
      obtain ⟨⟨h1, _⟩, _⟩ := hR
      rw [h1] at ht ⊢
      revert e ht
      unfold tokT
      simp only
      split
      · rename_i hlo
        unfold wordT
        split
        · rename_i hw
          intro _ ht
          simp only at ht
          rw [ht] at hw
          exact ⟨fun h => by simp at h, fun _ => hw⟩
        · rename_i hw
          split
          · intro e; simp at e
          · rename_i h8
            intro _ ht
            simp only at ht
            refine ⟨fun _ => ?_, fun h => by simp at h⟩
            have hall := tw_all ht
            rw [ht] at hw h8
            simp only [isNm, hlo, hall, Bool.true_and, Bool.and_true, Bool.and_eq_true, decide_eq_true_eq, Bool.not_eq_true']
            exact ⟨by omega, by simpa using hw⟩
      · split
        · unfold numT
          split
          · intro e; simp at e
          · split
            · intro e; simp at e
            · intro _ _; exact ⟨fun h => by simp at h, fun h => by simp at h⟩
        · unfold signT
          split
          · intro e; simp at e
          · intro _ _; exact ⟨fun h => by simp at h, fun h => by simp at h⟩
theorem nm_not_wd {l : Bs} (h : isNm l = true) : isWd l = false := by
  cases l with
  | nil => simp [isNm] at h
  | cons c r =>
    simp only [isNm, Bool.and_eq_true, Bool.not_eq_true'] at h
    exact h.2

/-- one token alone, of kind k -/
theorem names_one (s x : ByteArray) (hxs : x.size ≤ 100100) (w : World) (HCut : Hid (∀ W, Calls Try.prog 17 #[.string s] W fun e w' => e = .returned (.string x) ∧ W = w')) (t : Tok) (a : Nat) (q : Tok × Nat) (hk0 : t.text = bl x)
    (HA : Hid (∀ W, Calls Try.prog 18 #[.string x] W (OkPost 2 [(t, a), q] W))) (h1 : isNm (bl x) = (((t.kind : Nat) : Int) == 1)) (h3 : isWd (bl x) = (((t.kind : Nat) : Int) == 3)) :
    Calls Try.prog 4 #[.string s] w fun e w' => e = .returned (.bool true) ∧ Below w.heap.size w w' := by
  have HG : Hid ([(t, a), q][0]? = some (t, a)) := Lib.hid rfl
  have ht : ((bs t.text).toList == x.toList) = true := by rw [hk0, bs_bl]; simp
  have H1 := Lib.hid h1
  have H3 := Lib.hid h3
  clear h1 h3 hk0
  cases k1 : (((t.kind : Nat) : Int) == 1) <;> cases k3 : (((t.kind : Nat) : Int) == 3)
  all_goals
    have n1 := H1.out
    have n3 := H3.out
    rw [k1] at n1
    rw [k3] at n3
    go_enter Try.func4, Try.ntmps4
    go_wp2_with (first
      | (go_at_call 16; refine (lexed_any _).mono ?_; rintro e w0 ⟨rfl, hb⟩; have HB0 := Lib.hid hb; clear hb)
      | (go_at_call 17; refine (HCut.out _).mono ?_; rintro e w' ⟨rfl, rfl⟩)
      | (go_at_call 18; refine (HA.out _).mono ?_; rintro e w1 ⟨A, cap, rfl, hrt, hb⟩; have HB1 := Lib.hid hb; obtain ⟨g, rfl, hg, hc⟩ := hrt.at_ (by omega); have c0 := hc 0 _ _ HG.out; obtain ⟨p0, p1, p2, p3⟩ := c0; clear hc hb hrt)
      | (go_at_call 21; refine (Name_any _ _ (by unfold maxLen; omega)).mono ?_; rintro e w' ⟨rfl, rfl⟩)
      | (go_at_call 22; refine (Word_any _ _).mono ?_; rintro e w' ⟨rfl, rfl⟩))
    go_ret
    exact ⟨rfl, (below_then HB0.out HB1.out).alloc (below_then HB0.out HB1.out).size _⟩

set_option maxHeartbeats 4000000 in
theorem lexNames_walk (s : ByteArray) (hs : s.size ≤ maxLen) (w : World) : Calls Try.prog 4 #[.string s] w fun e w' => e = .returned (.bool true) ∧ Below w.heap.size w w' := by
  obtain ⟨x, hx⟩ : ∃ x, x = s.extract 0 (min s.size 100100) := ⟨_, rfl⟩
  have hxs : x.size ≤ 100100 := by rw [hx, ByteArray.size_extract]; omega
  have hcut : ∀ W, Calls Try.prog 17 #[.string s] W fun e w' => e = .returned (.string x) ∧ W = w' := by rw [hx]; exact fun W => Cut_any s W hs
  have HCut := Lib.hid hcut
  clear hcut hx
  rcases told2 x hxs with ⟨ts, hx1, hlx, hlen, hq, hA⟩ | ⟨c, a, hd, hA⟩
  · by_cases h2 : ts.length = 2
    · match ts, h2 with
      | [(t, a), q], _ =>
        have HA := Lib.hid (hA 2 rfl)
        by_cases htx : t.text = bl x
        · have hal := alone hlx htx
          refine names_one s x hxs w HCut t a q htx HA ?_ ?_
          · cases hn : isNm (bl x) with
            | true =>
              have h := lx_det (name_lx hn) hlx
              simp only [Res.ok.injEq, List.cons.injEq, Prod.mk.injEq] at h
              rw [h.1.1]
              rfl
            | false =>
              cases hk : (((t.kind : Nat) : Int) == 1) with
              | false => rfl
              | true => rw [hal.1 (by simp at hk; omega)] at hn; cases hn
          · cases hn : isWd (bl x) with
            | true =>
              have h := lx_det (word_lx hn) hlx
              simp only [Res.ok.injEq, List.cons.injEq, Prod.mk.injEq] at h
              rw [h.1.1]
              rfl
            | false =>
              cases hk : (((t.kind : Nat) : Int) == 3) with
              | false => rfl
              | true => rw [hal.2 (by simp at hk; omega)] at hn; cases hn
        · have n1 : isNm (bl x) = false := by
            cases hn : isNm (bl x) with
            | false => rfl
            | true =>
              have h := lx_det (name_lx hn) hlx
              simp only [Res.ok.injEq, List.cons.injEq, Prod.mk.injEq] at h
              rw [h.1.1] at htx
              exact absurd rfl htx
          have n3 : isWd (bl x) = false := by
            cases hn : isWd (bl x) with
            | false => rfl
            | true =>
              have h := lx_det (word_lx hn) hlx
              simp only [Res.ok.injEq, List.cons.injEq, Prod.mk.injEq] at h
              rw [h.1.1] at htx
              exact absurd rfl htx
          have ht : ((bs t.text).toList == x.toList) = false := by rw [bl_toList, bl_toList, bl_bs]; simpa using htx
          have HG : Hid ([(t, a), q][0]? = some (t, a)) := Lib.hid rfl
          clear hlx hq hA htx hlen
          go_enter Try.func4, Try.ntmps4
          go_wp2_with (first
            | (go_at_call 16; refine (lexed_any _).mono ?_; rintro e w0 ⟨rfl, hb⟩; have HB0 := Lib.hid hb; clear hb)
            | (go_at_call 17; refine (HCut.out _).mono ?_; rintro e w' ⟨rfl, rfl⟩)
            | (go_at_call 18; refine (HA.out _).mono ?_; rintro e w1 ⟨A, cap, rfl, hrt, hb⟩; have HB1 := Lib.hid hb; obtain ⟨g, rfl, hg, hc⟩ := hrt.at_ (by omega); have c0 := hc 0 _ _ HG.out; obtain ⟨p0, p1, p2, p3⟩ := c0; clear hc hb hrt)
            | (go_at_call 21; refine (Name_any _ _ (by unfold maxLen; omega)).mono ?_; rintro e w' ⟨rfl, rfl⟩)
            | (go_at_call 22; refine (Word_any _ _).mono ?_; rintro e w' ⟨rfl, rfl⟩))
          go_ret
          exact ⟨rfl, (below_then HB0.out HB1.out).alloc (below_then HB0.out HB1.out).size _⟩
    · have n1 : isNm (bl x) = false := by
        cases hn : isNm (bl x) with
        | false => rfl
        | true =>
          have h := lx_det (name_lx hn) hlx
          simp only [Res.ok.injEq] at h
          rw [h] at h2
          exact absurd rfl h2
      have n3 : isWd (bl x) = false := by
        cases hn : isWd (bl x) with
        | false => rfl
        | true =>
          have h := lx_det (word_lx hn) hlx
          simp only [Res.ok.injEq] at h
          rw [h] at h2
          exact absurd rfl h2
      obtain ⟨n, hn⟩ : ∃ n, n = ts.length := ⟨_, rfl⟩
      have HA := Lib.hid (hA n hn.symm)
      have q2 : (((n : Nat) : Int) == 2) = false := by simp; omega
      clear hlx hq hA h2 hlen hn
      go_enter Try.func4, Try.ntmps4
      go_wp2_with (first
        | (go_at_call 16; refine (lexed_any _).mono ?_; rintro e w0 ⟨rfl, hb⟩; have HB0 := Lib.hid hb; clear hb)
        | (go_at_call 17; refine (HCut.out _).mono ?_; rintro e w' ⟨rfl, rfl⟩)
        | (go_at_call 18; refine (HA.out _).mono ?_; rintro e w1 ⟨A, cap, rfl, hrt, hb⟩; have HB1 := Lib.hid hb; have HT1 := Lib.hid hrt; have hz1 := hb.size; clear hb hrt)
        | (go_at_call 21; refine (Name_any _ _ (by unfold maxLen; omega)).mono ?_; rintro e w' ⟨rfl, rfl⟩)
        | (go_at_call 22; refine (Word_any _ _).mono ?_; rintro e w' ⟨rfl, rfl⟩))
      go_ret
      exact ⟨rfl, (below_then HB0.out HB1.out).alloc (below_then HB0.out HB1.out).size _⟩
  · have hc0 : c ≠ 0 := by
      rcases hd with ⟨_, h⟩ | ⟨_, h, _⟩
      · have := (lx_bad h rfl).1; omega
      · omega
    have n1 : isNm (bl x) = false := by
      cases hn : isNm (bl x) with
      | false => rfl
      | true =>
        rcases hd with ⟨_, h⟩ | ⟨h, _⟩
        · cases lx_det (name_lx hn) h
        · have := nm_short hn; omega
    have n3 : isWd (bl x) = false := by
      cases hn : isWd (bl x) with
      | false => rfl
      | true =>
        rcases hd with ⟨_, h⟩ | ⟨h, _⟩
        · cases lx_det (word_lx hn) h
        · have := (word_form hn).2.2; rw [← size_bl] at this; omega
    have q0 : (((c : Nat) : Int) == 0) = false := by simp; omega
    have HA := Lib.hid hA
    clear hd hA hc0
    go_enter Try.func4, Try.ntmps4
    go_wp2_with (first
      | (go_at_call 16; refine (lexed_any _).mono ?_; rintro e w0 ⟨rfl, hb⟩; have HB0 := Lib.hid hb; clear hb)
      | (go_at_call 17; refine (HCut.out _).mono ?_; rintro e w' ⟨rfl, rfl⟩)
      | (go_at_call 18; refine (HA.out _).mono ?_; rintro e w1 ⟨A, cap, rfl, hb⟩; have HB1 := Lib.hid hb; have hz1 := hb.size; clear hb)
      | (go_at_call 21; refine (Name_any _ _ (by unfold maxLen; omega)).mono ?_; rintro e w' ⟨rfl, rfl⟩)
      | (go_at_call 22; refine (Word_any _ _).mono ?_; rintro e w' ⟨rfl, rfl⟩))
    go_ret
    exact ⟨rfl, (below_then HB0.out HB1.out).alloc (below_then HB0.out HB1.out).size _⟩
end Go.Proofs.Ytcncbdnnakfgcaa
