/- Texts, merged by a program; only what is used. -/
import Derived.Test.YtcocilpifdjibaaK1
import Derived.Test.YtcocilpifdjibaaK2
import Derived.Test.YtcocilpifdjibaaK3
import Derived.Test.YtcocilpifdjibaaK4
import Derived.Test.YtcocilpifdjibaaK5
import Derived.Test.YtcocilpifdjibaaK6
import Derived.Test.YtcocilpifdjibaaK7
import Derived.Test.YtcocilpifdjibaaK8
import Derived.Test.YtcocilpifdjibaaK9
import Derived.Test.YtcocilpifdjibaaK10
import Derived.Test.YtcocilpifdjibaaK25
namespace Go.Proofs.Ytcocilpifdjibaa.U
open Go.ChangeShapes Go.WideShapes Go.ChangeAt Go.RowKit Go.Deep
set_option linter.unusedVariables false
section
variable {α : Type} {C : Nat} {R : World → (Nat → Prop) → α → List Value → Prop} {w W W' : World} {Q : Nat → Prop} {base : Nat} {G : World → Prop} {hs : List (Hole α)} {T : Nat → Prop}
/-- a block more that stays as it is -/
theorem Copy.also {k : Nat} (h : Copy C R w Q base G W hs T) (hk : base ≤ k ∧ k < W.heap.size) (hn : ∀ h ∈ hs, h.b ≠ k) : Copy C R w Q base (fun V => G V ∧ ∀ off, V.cell? ⟨k, off, none⟩ = W.cell? ⟨k, off, none⟩) W hs (fun b => T b ∨ b = k) := by
  refine ⟨fun b hb => ?_, fun x hx => ?_, h.dis, fun V hs' hv hu hd => ⟨h.compl V hs' (fun p ht hc => hv p (.inl ht) hc) (fun b hb => hu b (.inl hb)) hd, fun off => hv ⟨k, off, none⟩ (.inr rfl) (fun ⟨x, hx, e, _⟩ => hn x hx e)⟩⟩
  · rcases hb with h1 | rfl
    · exact h.tb b h1
    · exact hk
  · obtain ⟨h1, h2⟩ := h.raw x hx
    exact ⟨.inl h1, h2⟩
theorem Copy.start0 {l : List α} {A : Option Addr} {cap : Nat} (hl : l = []) (hc : l.length ≤ cap ∧ cap ≤ 9223372036854775807) : Copy C R w Q base (fun V => SliceI V (nb base V) C (R V (nb base V)) l (.slice A l.length cap)) W [] (fun _ => False) := by
  subst hl
  exact ⟨fun _ h => h.elim, fun _ h => absurd h (by simp), .nil, fun V _ _ _ _ => ⟨A, cap, fun _ => [], rfl, hc, fun h => absurd h (by simp), fun i h => absurd h (by simp)⟩⟩
end
/-- what is to hold of the copy in the end -/
def GE (base ob : Nat) (op n : Int) (nm : ByteArray) (ks : List E) (A : Option Addr) (cap : Nat) (V : World) : Prop :=
  SliceI V (nb base V) 4 (RE V (nb base V)) ks (.slice A ks.length cap) ∧ V.cell? ⟨ob, 0, none⟩ = some (.int .i64 op) ∧ V.cell? ⟨ob, 1, none⟩ = some (.int .i64 n) ∧ V.cell? ⟨ob, 2, none⟩ = some (.string nm) ∧ V.cell? ⟨ob, 3, none⟩ = some (.slice A ks.length cap)
theorem RelX.start {w V W w' : World} {Q : Nat → Prop} {op n : Int} {nm : ByteArray} {ks : List E} {ob : Nat} {A : Option Addr} {cap : Nat} (h : RelX w Q V op n nm ks ob A cap W) (hb : Below W.heap.size W w') (hl : ks.length ≤ 1000000) :
    ∃ hs T, hs.map slH = pushS [] A ks.length cap ∧ CopyE w Q V.heap.size (GE V.heap.size ob op n nm ks A cap) w' hs T ∧ szH hs = sizL ks ∧ ∀ b, T b → b < W.heap.size := by
  have hB' := h.blk.below hb h.blk.lt
  have fin : ∀ {hs : List (Hole E)} {T : Nat → Prop}, Copy 4 RE w Q V.heap.size (fun V' => SliceI V' (nb V.heap.size V') 4 (RE V' (nb V.heap.size V')) ks (.slice A ks.length cap)) w' hs T → (∀ k ∈ hs, k.b ≠ ob) → CopyE w Q V.heap.size (GE V.heap.size ob op n nm ks A cap) w' hs (fun b => T b ∨ b = ob) := fun hc hn => by
    have h1 := hc.also (k := ob) ⟨h.le, hB'.lt⟩ hn
    refine ⟨h1.tb, h1.raw, h1.dis, fun V' hs' hv hu hd => ?_⟩
    obtain ⟨h2, h3⟩ := h1.compl V' hs' hv hu hd
    exact ⟨h2, (h3 0).trans (by rw [hB'.cell]; rfl), (h3 1).trans (by rw [hB'.cell]; rfl), (h3 2).trans (by rw [hB'.cell]; rfl), (h3 3).trans (by rw [hB'.cell]; rfl)⟩
  obtain ⟨h1, h2⟩ := h.kid
  rcases h2 with rfl | ⟨b, css, rfl, rfl, h3, h4, h5, h6⟩
  · exact ⟨[], _, by rw [List.length_nil, pushS_zero]; rfl, fin (Copy.start0 rfl h1) (fun _ h => absurd h (by simp)), by rw [szH, sizL], fun b hb' => by rcases hb' with h | rfl; exact h.elim; exact h.blk.lt⟩
  · have hc := Copy.start (base := V.heap.size) (w := w) (Q := Q) (R := RE) h3 (h5.below hb h5.lt) h6 reOk (by omega) hl
    refine ⟨_, _, ?_, fin hc (fun k hk => ?_), ?_, fun b' hb' => by rcases hb' with rfl | rfl; exact h5.lt; exact h.blk.lt⟩
    · split
      · rename_i h0; rw [h0, pushS_zero]; rfl
      · rw [pushS_pos _ _ _ (by omega)]; rfl
    · split at hk
      · simp at hk
      · have : k = ⟨b, 0, ks, ks.length⟩ := by simpa using hk
        subst this; exact h4
    · split
      · rename_i h0; rw [List.length_eq_zero_iff.1 h0, szH, sizL]
      · rw [szH, szH]; simp
/-- the cursor's answer, while the copy is under way -/
def NextCE (w : World) (Q : Nat → Prop) (base bs c : Nat) (G : World → Prop) (n : Nat) (W : World) (e : Ending) (w' : World) : Prop :=
  ∃ p, e = .returned (.pointer p) ∧ AtCE w Q base bs c G w' p n ∧ Below bs W w'
theorem nextCE_first {w W : World} {Q : Nat → Prop} {base bs c : Nat} {G : World → Prop} {v : Value} {hs : List (Hole E)} {T : Nat → Prop} (hc : CurE W bs c v none (hs.map slH)) (hcp : CopyE w Q base G W hs T) (hd : ∀ b, T b → ¬ ownE c v b) (hbc : bs ≤ c) (hbW : bs ≤ W.heap.size) (hl : szH hs ≤ 1000000) :
    Calls Try.prog 113 #[.pointer (some ⟨c, 0, none⟩)] W (NextCE w Q base bs c G (szH hs) W) := by
  refine (nextE_none bs c v _ W hc (by have := len_szH hc.good; rw [List.length_map]; omega)).mono ?_
  rintro e w' ⟨v', rfl, hc', hm, hj⟩
  exact ⟨_, rfl, pop_copyE (.inl hc) hcp hd hc' hm hj, hm.below hbW (fun j hj => by rcases hj with rfl | hj; exact hbc; exact own_ge hc.row hj)⟩
theorem nextCE_again {w W : World} {Q : Nat → Prop} {base bs c : Nat} {G : World → Prop} {v : Value} {hs new : List (Hole E)} {T : Nat → Prop} {b o : Nat} {A : Option Addr} {n cap : Nat} (hc : CurE W bs c v (some ⟨b, o, none⟩) (hs.map slH)) (hk : W.cell? ⟨b, o + 3, none⟩ = some (.slice A n cap)) (hA : 0 < n → A ≠ none) (hn : n ≤ cap) (hcap : cap ≤ 9223372036854775807)
    (hp : pushS (hs.map slH) A n cap = (new ++ hs).map slH) (hcp : CopyE w Q base G W (new ++ hs) T) (hd : ∀ b, T b → ¬ ownE c v b) (hbc : bs ≤ c) (hbW : bs ≤ W.heap.size) (hl : szH hs ≤ 1000000) :
    Calls Try.prog 113 #[.pointer (some ⟨c, 0, none⟩)] W (NextCE w Q base bs c G (szH (new ++ hs)) W) := by
  refine (nextE_some bs c v _ ⟨b, o, none⟩ A n cap W hc hk hA hn hcap hbW (by have := len_szH hc.good; rw [List.length_map]; omega)).mono ?_
  rintro e w' ⟨v', rfl, hc', hm, hj⟩
  rw [hp] at hc' ⊢
  exact ⟨_, rfl, pop_copyE (last := none) (.inr (by rw [← hp]; exact pushS_goodE hc.good hn hcap)) hcp hd hc' hm hj, hm.below hbW (fun j hj => by rcases hj with rfl | hj; exact hbc; exact own_ge hc.row hj)⟩
set_option maxHeartbeats 4000000 in
theorem cloneExpr_any {w W : World} {Q : Nat → Prop} {x : E} {c0 c1 c2 c3 : Value} (h : ExprI w Q x [c0, c1, c2, c3]) (hI : In Q w W) (hw : wE x ≤ 1000000) :
    Calls Try.prog 177 #[.agg #[c0, c1, c2, c3]] W fun e w' => ∃ v0 v1 v2 v3, e = .returned (.agg #[v0, v1, v2, v3]) ∧ Below W.heap.size W w' ∧ ExprI w' (nw W w') x [v0, v1, v2, v3] := by
  obtain ⟨op, n, nm, ks⟩ := x
  obtain ⟨kv, hcs, hk, hop, hn, hnm⟩ := h.to_slice
  simp only [List.cons.injEq, and_true] at hcs
  obtain ⟨rfl, rfl, rfl, rfl⟩ := hcs
  obtain ⟨A, cap, rfl, hl1, hl2⟩ := hk.shape
  have hwL : wL ks ≤ 1000000 := by rw [wE] at hw; omega
  have hnz : nm.size ≤ 281474976710656 := by rw [wE] at hw; omega
  have HF := Lib.hid (fun V hV => freshE_v (W := V) hk hV hwL)
  have HCl := Lib.hid (fun V => Clone_any nm V hnz)
  have HI := Lib.hid hI
  have HN := Lib.hid (And.intro hop (And.intro hn hnm))
  have hsz : ks.length ≤ 1000000 := Nat.le_trans (wL_len ks) hwL
  clear h hI hk hop hn hnm hnz
  go_enter Try.func177, Try.ntmps177
  go_upto_region 1 with fail
  have HBa : Hid (Blk ((W.alloc (.cells #[.int .i64 op, .int .i64 n, .string nm, .slice A ks.length cap] 45)).alloc (.cells #[.int .i64 0, .int .i64 0, .string ⟨#[]⟩, .slice none 0 0] 45)) W.heap.size 45 #[.int .i64 op, .int .i64 n, .string nm, .slice A ks.length cap]) := Lib.hid ((Blk.new _ _ _).alloc _)
  have HBb : Hid (Blk ((W.alloc (.cells #[.int .i64 op, .int .i64 n, .string nm, .slice A ks.length cap] 45)).alloc (.cells #[.int .i64 0, .int .i64 0, .string ⟨#[]⟩, .slice none 0 0] 45)) (W.heap.size + 1) 45 #[.int .i64 0, .int .i64 0, .string ⟨#[]⟩, .slice none 0 0]) := Lib.hid (by have := Blk.new (W.alloc (.cells #[.int .i64 op, .int .i64 n, .string nm, .slice A ks.length cap] 45)) 45 #[.int .i64 0, .int .i64 0, .string ⟨#[]⟩, .slice none 0 0]; simpa using this)
  have HBW : Hid (Below W.heap.size W ((W.alloc (.cells #[.int .i64 op, .int .i64 n, .string nm, .slice A ks.length cap] 45)).alloc (.cells #[.int .i64 0, .int .i64 0, .string ⟨#[]⟩, .slice none 0 0] 45))) := Lib.hid (below_two _ _)
  generalize World.alloc _ _ = V at HBa HBb HBW ⊢
  have L0 := HBa.out.lt
  have k0 : V.cell? ⟨W.heap.size, 0, none⟩ = some (.int .i64 op) := by rw [HBa.out.cell]; rfl
  have k1 : V.cell? ⟨W.heap.size, 1, none⟩ = some (.int .i64 n) := by rw [HBa.out.cell]; rfl
  have k2 : V.cell? ⟨W.heap.size, 2, none⟩ = some (.string nm) := by rw [HBa.out.cell]; rfl
  have k3 : V.cell? ⟨W.heap.size, 3, none⟩ = some (.slice A ks.length cap) := by rw [HBa.out.cell]; rfl
  have HIV := Lib.hid (HI.out.on HBW.out)
  have HK := Lib.hid (And.intro L0 (And.intro k0 (And.intro k1 (And.intro k2 k3))))
  clear k0 k1 k2 k3
  go_cut [3] from 6 to 16 (fun s wx => ∃ ob A' cap', s = .pointer (some ⟨ob, 0, none⟩) ∧ Hid (RelX w Q V op n nm ks ob A' cap' wx))
  case first =>
    go_region_held3 (fun w' => w'.cell? ⟨W.heap.size, 0, none⟩ = some (.int .i64 op) ∧ w'.cell? ⟨W.heap.size, 1, none⟩ = some (.int .i64 n) ∧ w'.cell? ⟨W.heap.size, 2, none⟩ = some (.string nm) ∧ w'.cell? ⟨W.heap.size, 3, none⟩ = some (.slice A ks.length cap) ∧ Below V.heap.size V w')
      (first | exact sx_of (Below.refl _ _).drew HK.out | exact sx_of (by assumption) HK.out | (go_split_ands; exact sx_of (below_stepA (by assumption) _) HK.out) | (go_split_ands; exact sx_of (below_set4 (by assumption) (by first | exact Nat.le_refl _ | exact hB1.size | exact hB2.size) _ _ _ _) HK.out))
      (first
        | ((go_at_call 108; (with_reducible refine (HCl.out _).mono ?_); rintro e q1 ⟨rfl, hb1⟩; have hB1 := below_step (V := V) (by go_split_ands; assumption) hb1; try (have z1 : Hid (Blk q1 V.heap.size 45 zE) := Lib.hid ((Blk.new V.drew 45 zE).below hb1 (by simp)))))
        | ((go_at_call 199; have hBU := below_step (V := V) (by go_split_ands; assumption) (Below.refl _ _); refine (HF.out _ (HIV.out.on hBU)).mono ?_; rintro e q2 ⟨A', cap', rfl, hf, hb2⟩; have hB2 := below_step (V := V) (by go_split_ands; assumption) hb2; try (first | (have z2 : Hid (Blk q2 V.heap.size 45 zE) := Lib.hid (z1.out.below hb2 z1.out.lt)) | (have z2 : Hid (Blk q2 q1.heap.size 45 zE) := Lib.hid ((Blk.new q1 45 zE).below hb2 (by simp)))); try (obtain ⟨⟨y0, y1, y2, y3⟩, y4, y5, y6, y7⟩ := newE_of z2.out))))
    all_goals
      go_wp2_with fail
      go_meet
      first
        | exact ⟨_, A', cap', rfl, Lib.hid (relX_alloc hB2 hf hsz hB1.size)⟩
        | exact ⟨_, A', cap', rfl, Lib.hid (relX_set z2.out hB2 hf hsz hB1.size (Nat.le_refl _) (Nat.ne_of_gt z1.out.lt))⟩
        | exact ⟨_, A', cap', rfl, Lib.hid (relX_set z2.out hB2 hf hsz hBU.size hB1.size (by simp))⟩
  case rest =>
    obtain ⟨ob, A', cap', rfl, HX⟩ := hcut
    have kk3 : wc.cell? ⟨ob, 3, none⟩ = some (.slice A' ks.length cap') := by rw [HX.out.blk.cell]; rfl
    have HMK := Lib.hid (makeE_any A' ks.length cap' wc (fun h0 => by rcases HX.out.kid.2 with rfl | ⟨b, css, rfl, _⟩; simp at h0; simp) HX.out.kid.1.1 HX.out.kid.1.2)
    have hmx : V.heap.size ≤ wc.heap.size := HX.out.below.size
    go_wp2_with fail
    refine HMK.out.mono ?_
    rintro e w2 ⟨v2, rfl, hc2, hb2, hj2⟩
    obtain ⟨hs, T, e1, hcp, hsh, hT⟩ := U.RelX.start HX.out hb2 hsz
    rw [← e1] at hc2
    have hszL : sizL ks ≤ 1000000 := Nat.le_trans (sizL_w ks) hwL
    have HN1 := Lib.hid (nextCE_first hc2 hcp (fun b hb ho => by have := hT b hb; rcases ho with rfl | ho; omega; have := hj2 b ho; omega) (Nat.le_refl _) hb2.size (by omega))
    rw [hsh] at HN1
    have HB2 : Hid (Below V.heap.size V w2) := Lib.hid (below_step HX.out.below hb2)
    clear hc2 hcp hj2 hT e1 hsh hb2 HMK
    obtain ⟨c, hc⟩ : ∃ c, c = wc.heap.size := ⟨_, rfl⟩
    rw [← hc] at HN1 hmx ⊢
    clear hc
    go_wp2_with fail
    refine HN1.out.mono ?_
    rintro e w3 ⟨p, rfl, hat, hb3⟩
    have HA3 := Lib.hid hat
    have HB3 : Hid (Below V.heap.size V w3) := Lib.hid (HB2.out.trans (hb3.mono hmx))
    clear hat hb3 HN1
    have HBW' := HBW
    go_wp2_with fail
    go_loopg [5] (sizL ks) (fun kk u5 wr => ∃ p, u5 = .pointer p ∧ kk ≤ 1000000 ∧ Hid (AtCE w Q V.heap.size c c (GE V.heap.size ob op n nm ks A' cap') wr p kk) ∧ Hid (Below V.heap.size V wr))
    case atStart => exact ⟨p, rfl, hszL, HA3, HB3⟩
    case round =>
      obtain ⟨p, rfl, hkk, HA, HBr⟩ := hrel
      obtain ⟨v, hs, T, hc, hd, hor⟩ := HA.out
      have HIr := Lib.hid (HIV.out.on HBr.out)
      rcases hor with ⟨rfl, rfl, hcp, rfl⟩ | ⟨b, o, t, rfl, hcp, rfl⟩
      · have hG := hcp.end_
        obtain ⟨hsl, g0, g1, g2, g3⟩ := hG
        have HSl := Lib.hid hsl
        have HBb' := Lib.hid (HBb.out.below HBr.out HBb.out.lt)
        obtain ⟨⟨y0, y1, y2, y3⟩, y4, y5, y6, y7⟩ := newE_of HBb'.out
        clear hsl hc hd hcp
        go_wp2_with fail
        have HBz := Lib.hid ((((HBb'.out.set_ 0 (.int .i64 op)).set_ 1 (.int .i64 n)).set_ 2 (.string nm)).set_ 3 (.slice A' ks.length cap'))
        (try simp only [Exit.inBlock, Exit.then])
        refine bodyPost_ret (results_cell_row rfl _ _ (W.heap.size + 1) 45 _ (0, 0) _ rfl HBz.out Try.underlying45 rfl (by kernel_rfl)) rfl ?_
        have hlb := HBb.out.lt
        have hWV := HBW.out.size
        refine ⟨_, _, _, _, rfl, ?_, ?_⟩
        · exact below_setc (below_setc (below_setc (below_setc (HBW.out.trans (HBr.out.mono hWV)) (by simp) _) (by simp) _) (by simp) _) (by simp) _
        · refine ExprI.of_slice (SliceI.keep (slice_er HSl.out) (Q' := nw W _) (fun b hb => ⟨Nat.le_trans hWV hb.1, (((hb.2.set_ _ _).set_ _ _).set_ _ _).set_ _ _⟩) (fun p hp => ?_) (fun a cs _ h => h.keep (fun b hb => ⟨Nat.le_trans hWV hb.1, (((hb.2.set_ _ _).set_ _ _).set_ _ _).set_ _ _⟩) (fun p hp => ?_))) HN.out.1 HN.out.2.1 HN.out.2.2
          all_goals
            have hne : ∀ j, p ≠ ⟨W.heap.size + 1, j, none⟩ := fun j e => by have := hp.1; rw [e] at this; simp at this; omega
            rw [cell_set_ne _ (hne 3), cell_set_ne _ (hne 2), cell_set_ne _ (hne 1), cell_set_ne _ (hne 0)]
      · obtain ⟨hTb, ⟨bt, bc, hBk⟩, hraw⟩ := hcp.raw _ (List.mem_cons_self ..)
        obtain ⟨cs, ⟨hx, hwx⟩, hcell⟩ := hraw 0 (by simp)
        obtain ⟨op', n', nm', ks'⟩ := t
        simp only [List.getElem_cons_zero] at hx hwx
        obtain ⟨vk, rfl, hk', hop', hn', hnm'⟩ := hx.to_slice
        obtain ⟨A2, cap2, rfl, hl3, hl4⟩ := hk'.shape
        have p0 : wr.cell? ⟨b, o, none⟩ = some (.int .i64 op') := by have := hcell 0 _ rfl; simpa using this
        have p1 : wr.cell? ⟨b, o + 1, none⟩ = some (.int .i64 n') := by have := hcell 1 _ rfl; simpa using this
        have p2 : wr.cell? ⟨b, o + 2, none⟩ = some (.string nm') := by have := hcell 2 _ rfl; simpa using this
        have p3 : wr.cell? ⟨b, o + 3, none⟩ = some (.slice A2 ks'.length cap2) := by have := hcell 3 _ rfl; simpa using this
        have hbl := hBk.lt
        have hwL' : wL ks' ≤ 1000000 := by rw [wE] at hwx; omega
        have HF' := Lib.hid (fun V hV => freshE_v (W := V) hk' hV hwL')
        have HCl' := Lib.hid (fun V => Clone_any nm' V (by rw [wE] at hwx; omega))
        have HBk := Lib.hid hBk
        have HFl := Lib.hid (fun w1 w3 A3 cap3 hb1 hf => fillE (vk := .slice A2 ks'.length cap2) (w1 := w1) (w3 := w3) (v' := .slice A3 ks'.length cap3) (e := .returned (.slice A3 ks'.length cap3)) hcp (Nat.le_trans (Nat.le_refl _) HBr.out.size) hop' hn' hnm' hwx p0 p1 p2 p3 hb1 hf)
        have hVb := (hcp.tb b hTb).1
        have HQ : Hid (¬ Q b) := Lib.hid (fun hq => by have := HIV.out.1 b hq; omega)
        have HC := Lib.hid hc
        have HD := Lib.hid hd
        have HTb := Lib.hid hTb
        have HTl : Hid (∀ k, T k → k < wr.heap.size) := Lib.hid (fun k hk => (hcp.tb k hk).2)
        rw [sizE] at hkk
        clear hx hwx hraw hk' hop' hn' hnm' hcell hBk hc hd hcp hTb
        go_wp2_with (first
          | ((go_at_call 108; (with_reducible refine (HCl'.out _).mono ?_); rintro e q1 ⟨rfl, hb1⟩; have HK1 := Lib.hid (HBk.out.below hb1 HBk.out.lt); have r2 := (hb1.cell (p := ⟨b, o + 2, none⟩) hbl).trans p2; have r3 := (hb1.cell (p := ⟨b, o + 3, none⟩) hbl).trans p3; have f2 := HK1.out.frozen (o + 2); have hz1 : b < q1.heap.size := HK1.out.lt; have HI1 := Lib.hid ((HIr.out.on hb1).setCell (a := ⟨b, o + 2, none⟩) HQ.out (.string nm')); have HB1 := Lib.hid hb1; clear hb1))
          | ((go_at_call 199; (with_reducible refine (HF'.out _ HI1.out).mono ?_); rintro e q3 ⟨A3, cap3, rfl, hf, hb3⟩; have HK3 := Lib.hid ((HK1.out.set_ (o + 2) (.string nm')).below hb3 (HK1.out.set_ (o + 2) (.string nm')).lt); have s3 : q3.cell? ⟨b, o + 3, none⟩ = some (.slice A2 ks'.length cap2) := (by rw [HK3.out.cell, Array.getElem?_setIfInBounds_ne (by omega), ← HK1.out.cell]; exact r3); have f3 := HK3.out.frozen (o + 3); have HF3 := Lib.hid hf; have HB3' := Lib.hid hb3; clear hf hb3)))
        obtain ⟨new, T', A4, cap4, e4, hA4, hl5, hl6, hcp4, hp4, hs4, hT4, hm4, q4⟩ := HFl.out q1 q3 A3 cap3 HB1.out HF3.out
        simp only [Value.slice.injEq, true_and] at e4
        obtain ⟨rfl, rfl⟩ := e4
        have hc4 := HC.out.keep hm4 (fun k hk e => HD.out b HTb.out (e ▸ hk))
        have hd4 : ∀ k, T' k → ¬ ownE c v k := fun k hk ho => by
          rcases hT4 k hk with h1 | h1
          · exact HD.out k h1 ho
          · have := HC.out.own_lt ho; omega
        have hcw : c ≤ wr.heap.size := Nat.le_of_lt HC.out.blk.lt
        refine (nextCE_again hc4 q4 hA4 hl5 hl6 hp4 hcp4 hd4 (Nat.le_refl _) (Nat.le_trans hcw hm4.size) (by omega)).mono ?_
        rintro e w5 ⟨p5, rfl, hat5, hb5⟩
        have HB5 : Hid (Below V.heap.size V w5) := Lib.hid ((HBr.out.trans (hm4.below HBr.out.size (fun j e => by subst e; exact hVb))).trans (hb5.mono hmx))
        have HA5 := Lib.hid hat5
        rw [hs4] at HA5
        clear hat5 hb5 hcp4 hp4 hs4 hT4 hm4 q4 hc4 hd4 HFl
        go_wp2_with fail
        go_roundg (sizL ks' + szH hs)
        case measure => rw [sizE]; omega
        case rel => exact ⟨p5, rfl, by omega, HA5, HB5⟩
end Go.Proofs.Ytcocilpifdjibaa.U
