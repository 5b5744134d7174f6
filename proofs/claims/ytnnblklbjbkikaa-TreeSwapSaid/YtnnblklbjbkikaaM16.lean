/- Texts, merged by a program; only what is used. -/
import Derived.Test.YtnnblklbjbkikaaM1
import Derived.Test.YtnnblklbjbkikaaM2
import Derived.Test.YtnnblklbjbkikaaM3
import Derived.Test.YtnnblklbjbkikaaM4
import Derived.Test.YtnnblklbjbkikaaM5
import Derived.Test.YtnnblklbjbkikaaM6
import Derived.Test.YtnnblklbjbkikaaM7
import Derived.Test.YtnnblklbjbkikaaM8
import Derived.Test.YtnnblklbjbkikaaM9
import Derived.Test.YtnnblklbjbkikaaM10
import Derived.Test.YtnnblklbjbkikaaM12
import Derived.Test.YtnnblklbjbkikaaM13
import Derived.Test.YtnnblklbjbkikaaM14
import Derived.Test.YtnnblklbjbkikaaM15
namespace Go.Proofs.Ytnnblklbjbkikaa
open Go.ChangeShapes Go.WideShapes Go.ChangeAt Go.RowKit Go.Deep
set_option linter.unusedVariables false
set_option maxHeartbeats 1000000 in
theorem EqualT_any {w1 w2 W : World} {Q1 Q2 : Nat → Prop} {l1 l2 : List ByteArray} {v1 v2 : Value} (h1 : TextsI w1 Q1 l1 v1) (h2 : TextsI w2 Q2 l2 v2) (hI1 : In Q1 w1 W) (hI2 : In Q2 w2 W) :
    Calls Try.prog 70 #[v1, v2] W (MayOk (decide (l1 = l2)) W) := by
  obtain ⟨A1, k1, rfl, hlc1, hc1⟩ := h1.shape
  obtain ⟨A2, k2, rfl, hlc2, hc2⟩ := h2.shape
  have H1 := Lib.hid h1
  have H2 := Lib.hid h2
  have HI1 := Lib.hid hI1
  have HI2 := Lib.hid hI2
  clear h1 h2 hI1 hI2
  cases hl : (((l1.length : Nat) : Int) == ((l2.length : Nat) : Int)) with
  | false =>
    have hne : l1.length ≠ l2.length := by intro e; rw [e] at hl; simp at hl
    have HM : Hid (decide (l1 = l2) = false) := Lib.hid (decide_eq_false (by rintro rfl; exact hne rfl))
    have hb : (((l1.length : Nat) : Int) != ((l2.length : Nat) : Int)) = true := by rw [bne, hl]; rfl
    clear hl hne
    go_enter Try.func70, Try.ntmps70
    go_wp2_with fail
    go_ret
    exact ⟨ret_bool HM.out.symm, Below.refl _ _⟩
  | true =>
    have heq : l1.length = l2.length := by have := eq_of_beq hl; omega
    have hb : (((l1.length : Nat) : Int) != ((l2.length : Nat) : Int)) = false := by rw [bne, hl]; rfl
    have he1 : l1.length ≤ l2.length := by omega
    have he2 : l2.length ≤ l1.length := by omega
    clear hl heq
    go_enter Try.func70, Try.ntmps70
    go_wp2_with fail
    go_loopw [13] (fun i wr => ∃ k : Nat, k ≤ l1.length ∧ i = .int .i64 k ∧ Hid (l1.take k = l2.take k) ∧ Hid (Below W.heap.size W wr)) (fun i _ => l1.length - (intOf i).toNat)
    case atStart => exact ⟨0, Nat.zero_le _, rfl, Lib.hid (by simp), Lib.hid (Below.refl _ _)⟩
    case round =>
      obtain ⟨k, hk, rfl, HT, HR⟩ := hrel
      by_cases hlt : k < l1.length
      · obtain ⟨a1, rfl, _, p1, _⟩ := text_at H1.out (HI1.out.on HR.out) hlt
        obtain ⟨a2, rfl, _, p2, _⟩ := text_at H2.out (HI2.out.on HR.out) (show k < l2.length by omega)
        have hk2 : (k : Int) < (l2.length : Int) := by omega
        cases hv : (l1[k].toList == l2[k].toList) with
        | true =>
          have HN : Hid (l1.take (k + 1) = l2.take (k + 1)) := Lib.hid (take_eq_step hlt (by omega) HT.out (by rw [dec_bytes] at hv; simpa using hv))
          obtain ⟨x1, hx1⟩ : ∃ x, x = l1[k] := ⟨_, rfl⟩
          obtain ⟨x2, hx2⟩ : ∃ x, x = l2[k] := ⟨_, rfl⟩
          rw [← hx1] at p1 hv
          rw [← hx2] at p2 hv
          clear hx1 hx2
          go_wp2_with fail
          go_quiet (fail)
          go_wp2_with fail
          go_roundw
          case rel => exact ⟨k + 1, by omega, by go_num, HN, Lib.hid (below_drewN HR.out _)⟩
          case measure => simp [intOf]; omega
        | false =>
          have HN : Hid (decide (l1 = l2) = false) := Lib.hid (decide_eq_false (ne_of_at hlt (by omega) (by rw [dec_bytes] at hv; simpa using hv)))
          obtain ⟨x1, hx1⟩ : ∃ x, x = l1[k] := ⟨_, rfl⟩
          obtain ⟨x2, hx2⟩ : ∃ x, x = l2[k] := ⟨_, rfl⟩
          rw [← hx1] at p1 hv
          rw [← hx2] at p2 hv
          clear hx1 hx2
          go_wp2_with fail
          go_quiet (fail)
          go_wp2_with fail
          go_ret
          exact ⟨ret_bool HN.out.symm, below_drewN HR.out _⟩
      · have HN : Hid (decide (l1 = l2) = true) := Lib.hid (by
          have := HT.out
          rw [List.take_of_length_le (by omega), List.take_of_length_le (by omega)] at this
          exact decide_eq_true this)
        go_wp2_with fail
        go_ret
        exact ⟨ret_bool HN.out.symm, HR.out⟩
set_option maxHeartbeats 1000000 in
theorem EqualP_any {w1 w2 W : World} {Q1 Q2 : Nat → Prop} {l1 l2 : List Pa} {v1 v2 : Value} (h1 : SliceI w1 Q1 2 ParI l1 v1) (h2 : SliceI w2 Q2 2 ParI l2 v2) (hI1 : In Q1 w1 W) (hI2 : In Q2 w2 W) :
    Calls Try.prog 111 #[v1, v2] W (MayOk (eqB l1 l2) W) := by
  obtain ⟨A1, k1, rfl, hlc1, hc1⟩ := h1.shape
  obtain ⟨A2, k2, rfl, hlc2, hc2⟩ := h2.shape
  have H1 := Lib.hid h1
  have H2 := Lib.hid h2
  have HI1 := Lib.hid hI1
  have HI2 := Lib.hid hI2
  clear h1 h2 hI1 hI2
  cases hl : (((l1.length : Nat) : Int) == ((l2.length : Nat) : Int)) with
  | false =>
    have hne : l1.length ≠ l2.length := by intro e; rw [e] at hl; simp at hl
    have HM : Hid (eqB l1 l2 = false) := Lib.hid (eqB_ne (by rintro rfl; exact hne rfl))
    have hb : (((l1.length : Nat) : Int) != ((l2.length : Nat) : Int)) = true := by rw [bne, hl]; rfl
    clear hl hne
    go_enter Try.func111, Try.ntmps111
    go_wp2_with fail
    go_ret
    exact ⟨ret_bool HM.out.symm, Below.refl _ _⟩
  | true =>
    have heq : l1.length = l2.length := by have := eq_of_beq hl; omega
    have hb : (((l1.length : Nat) : Int) != ((l2.length : Nat) : Int)) = false := by rw [bne, hl]; rfl
    have he1 : l1.length ≤ l2.length := by omega
    have he2 : l2.length ≤ l1.length := by omega
    clear hl heq
    go_enter Try.func111, Try.ntmps111
    go_wp2_with fail
    go_loopw [13] (fun i wr => ∃ k : Nat, k ≤ l1.length ∧ i = .int .i64 k ∧ Hid (l1.take k = l2.take k) ∧ Hid (Below W.heap.size W wr)) (fun i _ => l1.length - (intOf i).toNat)
    case atStart => exact ⟨0, Nat.zero_le _, rfl, Lib.hid (by simp), Lib.hid (Below.refl _ _)⟩
    case round =>
      obtain ⟨k, hk, rfl, HT, HR⟩ := hrel
      by_cases hlt : k < l1.length
      · obtain ⟨a1, rfl, _, ⟨p1, p2, _⟩, _⟩ := par_at H1.out (HI1.out.on HR.out) hlt
        obtain ⟨a2, rfl, _, ⟨r1, r2, _⟩, _⟩ := par_at H2.out (HI2.out.on HR.out) (show k < l2.length by omega)
        have hk2 : (k : Int) < (l2.length : Int) := by omega
        obtain ⟨x1, hx1⟩ : ∃ x, x = l1[k] := ⟨_, rfl⟩
        obtain ⟨x2, hx2⟩ : ∃ x, x = l2[k] := ⟨_, rfl⟩
        have HX : Hid (x1 = x2 → l1.take (k + 1) = l2.take (k + 1)) := Lib.hid (fun e => take_eq_step hlt (by omega) HT.out (by rw [← hx1, ← hx2]; exact e))
        have HY : Hid (x1 ≠ x2 → eqB l1 l2 = false) := Lib.hid (fun e => eqB_ne (ne_of_at hlt (by omega) (by rw [← hx1, ← hx2]; exact e)))
        rw [← hx1] at p1 p2
        rw [← hx2] at r1 r2
        clear hx1 hx2
        obtain ⟨n1, f1⟩ := x1
        obtain ⟨n2, f2⟩ := x2
        simp only at p1 p2 r1 r2
        cases hv1 : (n1.toList == n2.toList) with
        | false =>
          have HN := Lib.hid (HY.out (by intro e; injection e with e _; rw [dec_bytes] at hv1; simp [e] at hv1))
          go_wp2_with fail
          go_quiet (fail)
          go_wp2_with fail
          go_ret
          exact ⟨ret_bool HN.out.symm, below_drewN HR.out _⟩
        | true =>
          have hn : n1 = n2 := by rw [dec_bytes] at hv1; simpa using hv1
          cases hv2 : (f1 == f2) with
          | false =>
            have HN := Lib.hid (HY.out (by intro e; injection e with _ e; simp [e] at hv2))
            clear hn
            go_wp2_with fail
            go_quiet (fail)
            go_wp2_with fail
            go_ret
            exact ⟨ret_bool HN.out.symm, below_drewN HR.out _⟩
          | true =>
            have HN := Lib.hid (HX.out (by rw [hn, eq_of_beq hv2]))
            clear hn
            go_wp2_with fail
            go_quiet (fail)
            go_wp2_with fail
            go_roundw
            case rel => exact ⟨k + 1, by omega, by go_num, HN, Lib.hid (below_drewN HR.out _)⟩
            case measure => simp [intOf]; omega
      · have HN : Hid (eqB l1 l2 = true) := Lib.hid (by
          have := HT.out
          rw [List.take_of_length_le (by omega), List.take_of_length_le (by omega)] at this
          exact eqB_iff.2 this)
        go_wp2_with fail
        go_ret
        exact ⟨ret_bool HN.out.symm, HR.out⟩
theorem box_node {w V : World} {Q : Nat → Prop} {e : E} {c0 c1 c2 c3 : Value} {b : Nat} (h : ExprI w Q e [c0, c1, c2, c3]) (hI : In Q w V) (hb : Blk V b 41 #[c0, c1, c2, c3]) : NodeI V (fun k => Q k ∨ k = b) (ExprI V (fun k => Q k ∨ k = b)) ⟨b, 0, none⟩ e := by
  refine ⟨.inr rfl, _, h.keep (fun k hk => .inl hk) hI.2, fun j u hu => ?_⟩
  have hj : j < 4 := by have := (List.getElem?_eq_some_iff.1 hu).1; simpa using this
  have ha : (⟨b, 0, none⟩ : Addr).add j = ⟨b, j, none⟩ := by
    by_cases h0 : j = 0
    · subst h0; rw [add_zero_]
    · rw [add_ne _ h0]; simp
  rw [ha, hb.cell j]
  simpa using hu
theorem in_box {w V : World} {Q : Nat → Prop} {b : Nat} (hI : In Q w V) (hb : b < V.heap.size) : In (fun k => Q k ∨ k = b) V V := ⟨fun k hk => by rcases hk with hk | rfl; exact hI.1 k hk; exact hb, fun _ _ => rfl⟩
theorem below_re {B : Nat} {a W W' : World} (h : Below B a W) (e : W'.heap = W.heap) (e1 : W'.os = W.os) (e2 : W'.tape = W.tape) (e3 : W'.output = W.output) : Below B a W' := ⟨e1.trans h.os, e2.trans h.tape, e3.trans h.output, by rw [e]; exact h.size, fun k hk => by rw [e]; exact h.block k hk⟩
theorem In.heap {Q : Nat → Prop} {w W W' : World} (h : In Q w W) (e : W'.heap = W.heap) : In Q w W' := ⟨fun b hb => by rw [e]; exact h.1 b hb, fun p hp => (World.cell?_of_block (w := W) (by rw [e])).trans (h.2 p hp)⟩
theorem WalkE.heap {w W W' : World} {Q : Nat → Prop} {base c : Nat} {v : Value} {R : List E} (h : WalkE w W Q base c v R) (e : W'.heap = W.heap) : WalkE w W' Q base c v R := by
  obtain ⟨last, s, R0, ⟨h1, h2, h3⟩, hp, hl⟩ := h
  exact ⟨last, s, R0, ⟨by unfold Blk at h1 ⊢; rw [e]; exact h1, by unfold World.ownsRow at h2 ⊢; rw [e]; exact h2, h3⟩, hp, hl⟩
/-- a cursor that was there stays where a call only makes memory -/
theorem WalkE.on {w W U w' : World} {Q : Nat → Prop} {base c : Nat} {v : Value} {R : List E} (h : WalkE w W Q base c v R) (e : U.heap = W.heap) (hb : Below U.heap.size U w') : WalkE w w' Q base c v R := by
  have h' := h.heap e
  exact h'.keep (Below.moves hb) (fun k hk hn => by rcases hk with rfl | hk; have := h'.lt.1; omega; have := (h'.lt.2 k hk).2; omega)
theorem two_apart {w1 w2 W U w' : World} {Q1 Q2 : Nat → Prop} {b1 c1 c2 : Nat} {v1 v2 : Value} {R1 R2 : List E} (h1 : WalkE w1 W Q1 b1 c1 v1 R1) (e : U.heap = W.heap) (hc : U.heap.size ≤ c2) (hj : ∀ j, v2.ownBlock = some j → U.heap.size < j) : ∀ k, ownE c1 v1 k → ¬ ownE c2 v2 k := fun k hk h2 => by
  have hl : k < U.heap.size := by rw [e]; rcases hk with rfl | hk; exact h1.lt.1; exact (h1.lt.2 k hk).2
  rcases h2 with rfl | h2
  · omega
  · have := hj k h2; omega
theorem exprs_c {w W : World} {Q : Nat → Prop} {l : List E} {A : Option Addr} {n cap : Nat} (h : SliceI w Q 4 (ExprI w Q) l (.slice A n cap)) :
    Calls Try.prog 97 #[.slice A n cap] W fun e w' => ∃ c v, e = .returned (.pointer (some ⟨c, 0, none⟩)) ∧ WalkE w w' Q c c v (preL l) ∧ Below W.heap.size W w' ∧ W.heap.size ≤ c ∧ ∀ j, v.ownBlock = some j → W.heap.size < j := by
  refine (exprs_any (W := W) h).mono ?_
  rintro e w' ⟨v, rfl, h1, h2, h3⟩
  exact ⟨W.heap.size, v, rfl, h1, h2, Nat.le_refl _, h3⟩
set_option maxHeartbeats 2000000 in
theorem sameExpr_any {w1 w2 W : World} {Q1 Q2 : Nat → Prop} {x y : E} {a0 a1 a2 a3 b0 b1 b2 b3 : Value} (h1 : ExprI w1 Q1 x [a0, a1, a2, a3]) (h2 : ExprI w2 Q2 y [b0, b1, b2, b3]) (hI1 : In Q1 w1 W) (hI2 : In Q2 w2 W) (hx : sizE x ≤ 1000000000) (hy : sizE y ≤ 1000000000) :
    Calls Try.prog 145 #[.agg #[a0, a1, a2, a3], .agg #[b0, b1, b2, b3]] W (MayOk (eqB x y) W) := by
  cases h1 with
  | @mk op n nm ks A cap css hop hn hnm hcap hA hk =>
  cases h2 with
  | @mk op' n' nm' ks' A' cap' css' hop' hn' hnm' hcap' hA' hk' =>
  have HS1 : Hid (SliceI w1 Q1 4 (ExprI w1 Q1) ks (.slice A ks.length cap)) := Lib.hid ⟨A, cap, css, rfl, hcap, hA, hk⟩
  have HS2 : Hid (SliceI w2 Q2 4 (ExprI w2 Q2) ks' (.slice A' ks'.length cap')) := Lib.hid ⟨A', cap', css', rfl, hcap', hA', hk'⟩
  have HE1 := Lib.hid (ExprI.mk hop hn hnm hcap hA hk)
  have HE2 := Lib.hid (ExprI.mk hop' hn' hnm' hcap' hA' hk')
  have HM := Lib.hid (same_expr (.mk op n nm ks) (.mk op' n' nm' ks'))
  have hp1 : (preL ks).length ≤ 1000000000 := by rw [preL_len]; rw [sizE] at hx; omega
  have hp2 : (preL ks').length ≤ 1000000000 := by rw [preL_len]; rw [sizE] at hy; omega
  have HI1 := Lib.hid hI1
  have HI2 := Lib.hid hI2
  have HBa : Hid (Blk ((W.alloc (.cells #[.int .i64 op, .int .i64 n, .string nm, .slice A ks.length cap] 41)).alloc (.cells #[.int .i64 op', .int .i64 n', .string nm', .slice A' ks'.length cap'] 41)) W.heap.size 41 #[.int .i64 op, .int .i64 n, .string nm, .slice A ks.length cap]) := Lib.hid ((Blk.new _ _ _).alloc _)
  have HBb : Hid (Blk ((W.alloc (.cells #[.int .i64 op, .int .i64 n, .string nm, .slice A ks.length cap] 41)).alloc (.cells #[.int .i64 op', .int .i64 n', .string nm', .slice A' ks'.length cap'] 41)) (W.heap.size + 1) 41 #[.int .i64 op', .int .i64 n', .string nm', .slice A' ks'.length cap']) := Lib.hid (by have := Blk.new (W.alloc (.cells #[.int .i64 op, .int .i64 n, .string nm, .slice A ks.length cap] 41)) 41 #[.int .i64 op', .int .i64 n', .string nm', .slice A' ks'.length cap']; simpa using this)
  have HBW : Hid (Below W.heap.size W ((W.alloc (.cells #[.int .i64 op, .int .i64 n, .string nm, .slice A ks.length cap] 41)).alloc (.cells #[.int .i64 op', .int .i64 n', .string nm', .slice A' ks'.length cap'] 41))) := Lib.hid (below_two _ _)
  have HIa := Lib.hid (HI1.out.on HBW.out)
  have HIb := Lib.hid (HI2.out.on HBW.out)
  have HSH := Lib.hid (fun V hV hV' => sameHead_any (W := V) (box_node HE1.out HIa.out HBa.out) (box_node HE2.out HIb.out HBb.out) hV hV')
  have HP1 := Lib.hid (in_box HIa.out HBa.out.lt)
  have HP2 := Lib.hid (in_box HIb.out HBb.out.lt)
  clear hA hk hA' hk' hI1 hI2 hop hn hop' hn' hx hy
  obtain ⟨hb, hhb⟩ : ∃ b, b = headE (.mk op n nm ks) (.mk op' n' nm' ks') := ⟨_, rfl⟩
  rw [← hhb] at HSH HM
  clear hhb
  cases hb with
  | false =>
    go_enter Try.func145, Try.ntmps145
    go_wp2_with fail
    go_quiet ((go_at_call 153; exact Calls.quiet_of (HSH.out _ HP1.out HP2.out)))
    go_wp2_with fail
    go_ret
    exact ⟨ret_bool (by rw [← HM.out]; rfl), below_drewN HBW.out _⟩
  | true =>
    have HE1' := Lib.hid (fun V => exprs_c (W := V) HS1.out)
    have HE2' := Lib.hid (fun V => exprs_c (W := V) HS2.out)
    have c3 : ((W.alloc (.cells #[.int .i64 op, .int .i64 n, .string nm, .slice A ks.length cap] 41)).alloc (.cells #[.int .i64 op', .int .i64 n', .string nm', .slice A' ks'.length cap'] 41)).cell? ⟨W.heap.size, 3, none⟩ = some (.slice A ks.length cap) := by rw [HBa.out.cell 3]; rfl
    have d3 : ((W.alloc (.cells #[.int .i64 op, .int .i64 n, .string nm, .slice A ks.length cap] 41)).alloc (.cells #[.int .i64 op', .int .i64 n', .string nm', .slice A' ks'.length cap'] 41)).cell? ⟨W.heap.size + 1, 3, none⟩ = some (.slice A' ks'.length cap') := by rw [HBb.out.cell 3]; rfl
    have hl0 := HBa.out.lt
    have hl1 := HBb.out.lt
    go_enter Try.func145, Try.ntmps145
    go_wp2_with fail
    generalize World.alloc _ _ = V at HBa HBb HBW HIa HIb HSH HP1 HP2 c3 d3 hl0 hl1 ⊢
    go_region_held3 (fun w' => w'.cell? ⟨W.heap.size, 3, none⟩ = some (.slice A ks.length cap) ∧ w'.cell? ⟨W.heap.size + 1, 3, none⟩ = some (.slice A' ks'.length cap'))
      (go_keep)
      (first
        | ((go_at_call 153; refine (HSH.out _ (in_drew HP1.out) (in_drew HP2.out)).mono ?_; rintro e w' ⟨rfl, kq, rfl⟩))
        | ((go_at_call 97; (with_reducible refine (HE1'.out _).mono ?_); rintro e w3 ⟨c1, v1, rfl, hw3, hb3, hc3, hj3⟩; have HB3 : Hid (Below W.heap.size W w3) := Lib.hid ((below_re HBW.out (W' := _) (by rfl) (by rfl) (by rfl) (by rfl)).trans (hb3.mono HBW.out.size)); have e3 : w3.cell? ⟨W.heap.size, 3, none⟩ = some (.slice A ks.length cap) := (hb3.cell (p := ⟨W.heap.size, 3, none⟩) hl0).trans c3; have f3 : w3.cell? ⟨W.heap.size + 1, 3, none⟩ = some (.slice A' ks'.length cap') := (hb3.cell (p := ⟨W.heap.size + 1, 3, none⟩) hl1).trans d3))
        | ((go_at_call 97; (with_reducible refine (HE2'.out _).mono ?_); rintro e w4 ⟨c2, v2, rfl, hw4, hb4, hc4, hj4⟩; have HB4 : Hid (Below W.heap.size W w4) := Lib.hid ((below_re HB3.out (W' := _) (by rfl) (by rfl) (by rfl) (by rfl)).trans (hb4.mono HB3.out.size)); have hz3 : V.heap.size ≤ w3.heap.size := hb3.size; have e4 : w4.cell? ⟨W.heap.size, 3, none⟩ = some (.slice A ks.length cap) := (hb4.cell (p := ⟨W.heap.size, 3, none⟩) (Nat.lt_of_lt_of_le hl0 hz3)).trans e3; have f4 : w4.cell? ⟨W.heap.size + 1, 3, none⟩ = some (.slice A' ks'.length cap') := (hb4.cell (p := ⟨W.heap.size + 1, 3, none⟩) (Nat.lt_of_lt_of_le hl1 hz3)).trans f3; have HK1 := Lib.hid (hw3.on (U := _) (by rfl) hb4); have HK2 := Lib.hid hw4; have HKd := Lib.hid (two_apart (w2 := w2) (w' := w4) (Q2 := Q2) (R2 := preL ks') hw3 (U := _) (by rfl) hc4 hj4); have HK3 := Lib.hid ((HIa.out.heap (W' := _) (by rfl)).on hb3 |>.heap (W' := _) (by rfl) |>.on hb4); have HK4 := Lib.hid ((HIb.out.heap (W' := _) (by rfl)).on hb3 |>.heap (W' := _) (by rfl) |>.on hb4); have hc3' : V.heap.size ≤ c1 := hc3; have hc4' : V.heap.size ≤ c2 := Nat.le_trans hz3 hc4; have hc5 := hw4.lt.1; clear hw3 hw4 hb3 hb4 hc3 hc4 hj3 hj4))
        | ((go_at_call 154; refine (sameNodesE_any (W := _) (B := V.heap.size) (b1 := c1) (b2 := c2) (HK1.out.heap (by rfl)) (HK2.out.heap (by rfl)) (HK3.out.heap (by rfl)) (HK4.out.heap (by rfl)) HIa.out.1 HIb.out.1 hc3' hc4' (Nat.le_refl _) (Nat.le_refl _) (Nat.le_of_lt hc5) HKd.out hp1 hp2).mono ?_; rintro e w5 ⟨rfl, hb5⟩; have HB5 : Hid (Below W.heap.size W w5) := Lib.hid ((below_re HB4.out (W' := _) (by rfl) (by rfl) (by rfl) (by rfl)).trans (hb5.mono HBW.out.size)); have e5 : w5.cell? ⟨W.heap.size, 3, none⟩ = some (.slice A ks.length cap) := (hb5.cell (p := ⟨W.heap.size, 3, none⟩) hl0).trans e4; have f5 : w5.cell? ⟨W.heap.size + 1, 3, none⟩ = some (.slice A' ks'.length cap') := (hb5.cell (p := ⟨W.heap.size + 1, 3, none⟩) hl1).trans f4)))
    go_wp2_with fail
    go_ret
    exact ⟨ret_bool (by rw [← HM.out]; rfl), HB5.out⟩
end Go.Proofs.Ytnnblklbjbkikaa
namespace Go.Proofs.Ytnnblklbjbkikaa
open Go.ChangeShapes Go.WideShapes Go.ChangeAt Go.RowKit Go.Deep
set_option linter.unusedVariables false
set_option maxHeartbeats 1000000 in
theorem sameArg_any {w1 w2 W : World} {Q1 Q2 : Nat → Prop} {r r' : Bool} {nm nm' : ByteArray} {x x' : E} {o1 n1 : Int} {s1 : ByteArray} {A1 : Option Addr} {l1 c1 : Nat} {o2 n2 : Int} {s2 : ByteArray} {A2 : Option Addr} {l2 c2 : Nat}
    (h1 : ExprI w1 Q1 x [.int .i64 o1, .int .i64 n1, .string s1, .slice A1 l1 c1]) (h2 : ExprI w2 Q2 x' [.int .i64 o2, .int .i64 n2, .string s2, .slice A2 l2 c2]) (hI1 : In Q1 w1 W) (hI2 : In Q2 w2 W) (hx : sizE x ≤ 1000000000) (hy : sizE x' ≤ 1000000000) :
    Calls Try.prog 147 #[.agg #[.bool r, .string nm, .int .i64 o1, .int .i64 n1, .string s1, .slice A1 l1 c1], .agg #[.bool r', .string nm', .int .i64 o2, .int .i64 n2, .string s2, .slice A2 l2 c2]] W (MayOk (eqB (⟨r, nm, x⟩ : Ar) ⟨r', nm', x'⟩) W) := by
  have HC := Lib.hid (fun V hV hV' => sameExpr_any (W := V) h1 h2 hV hV' hx hy)
  have HI1 := Lib.hid hI1
  have HI2 := Lib.hid hI2
  rw [eqB_arg]
  clear h1 h2 hI1 hI2 hx hy
  obtain ⟨b3, hb3⟩ : ∃ b, b = eqB x x' := ⟨_, rfl⟩
  rw [← hb3] at HC ⊢
  clear hb3
  cases b1 : (r == r') with
  | false =>
    go_enter Try.func147, Try.ntmps147
    go_wp2_with fail
    go_ret
    exact ⟨rfl, below_two _ _⟩
  | true =>
    cases b2 : (nm.toList == nm'.toList) with
    | false =>
      go_enter Try.func147, Try.ntmps147
      go_wp2_with fail
      go_ret
      exact ⟨rfl, below_two _ _⟩
    | true =>
      go_enter Try.func147, Try.ntmps147
      go_wp2_with (go_at_call 145; refine (HC.out _ ((HI1.out.alloc _).alloc _) ((HI2.out.alloc _).alloc _)).mono ?_; rintro e w3 ⟨rfl, hb3⟩)
      go_ret
      exact ⟨rfl, (below_two _ _).trans (hb3.mono (by simp; omega))⟩
set_option maxHeartbeats 2000000 in
theorem EqualA_any {w1 w2 W : World} {Q1 Q2 : Nat → Prop} {l1 l2 : List Ar} {v1 v2 : Value} (h1 : SliceI w1 Q1 6 (ArgI w1 Q1) l1 v1) (h2 : SliceI w2 Q2 6 (ArgI w2 Q2) l2 v2) (hI1 : In Q1 w1 W) (hI2 : In Q2 w2 W) (hz1 : szA l1) (hz2 : szA l2) :
    Calls Try.prog 146 #[v1, v2, .func (.func 147) #[] #[]] W (MayOk (eqB l1 l2) W) := by
  obtain ⟨A1, k1, rfl, hlc1, hc1⟩ := h1.shape
  obtain ⟨A2, k2, rfl, hlc2, hc2⟩ := h2.shape
  have H1 := Lib.hid h1
  have H2 := Lib.hid h2
  have HI1 := Lib.hid hI1
  have HI2 := Lib.hid hI2
  have HZ1 := Lib.hid hz1
  have HZ2 := Lib.hid hz2
  clear h1 h2 hI1 hI2 hz1 hz2
  cases hl : (((l1.length : Nat) : Int) == ((l2.length : Nat) : Int)) with
  | false =>
    have hne : l1.length ≠ l2.length := by intro e; rw [e] at hl; simp at hl
    have HM : Hid (eqB l1 l2 = false) := Lib.hid (eqB_ne (by rintro rfl; exact hne rfl))
    have hb : (((l1.length : Nat) : Int) != ((l2.length : Nat) : Int)) = true := by rw [bne, hl]; rfl
    clear hl hne
    go_enter Try.func146, Try.ntmps146
    go_wp2_with fail
    go_ret
    exact ⟨ret_bool HM.out.symm, Below.refl _ _⟩
  | true =>
    have heq : l1.length = l2.length := by have := eq_of_beq hl; omega
    have hb : (((l1.length : Nat) : Int) != ((l2.length : Nat) : Int)) = false := by rw [bne, hl]; rfl
    have he1 : l1.length ≤ l2.length := by omega
    have he2 : l2.length ≤ l1.length := by omega
    clear hl heq
    go_enter Try.func146, Try.ntmps146
    go_wp2_with fail
    go_loopw [17] (fun i wr => ∃ k : Nat, k ≤ l1.length ∧ i = .int .i64 k ∧ Hid (l1.take k = l2.take k) ∧ Hid (Below W.heap.size W wr)) (fun i _ => l1.length - (intOf i).toNat)
    case atStart => exact ⟨0, Nat.zero_le _, rfl, Lib.hid (by simp), Lib.hid (Below.refl _ _)⟩
    case round =>
      obtain ⟨k, hk, rfl, HT, HR⟩ := hrel
      by_cases hlt : k < l1.length
      · have hlt2 : k < l2.length := by omega
        obtain ⟨a1, o1, n1, s1, B1, m1, d1, rfl, hqa, ⟨p0, p1, p2, p3, p4, p5, _⟩, _, hx1⟩ := arg_at H1.out (HI1.out.on HR.out) hlt
        obtain ⟨a2, o2, n2, s2, B2, m2, d2, rfl, hqb, ⟨r0, r1, r2, r3, r4, r5, _⟩, _, hx2⟩ := arg_at H2.out (HI2.out.on HR.out) hlt2
        have hlb : (a2.add (k * 6)).block < wr.heap.size := by rw [block_add]; exact (HI2.out.on HR.out).1 _ hqb
        have hk2 : (k : Int) < (l2.length : Int) := by omega
        have HC := Lib.hid (fun V hV hV' => sameArg_any (W := V) (r := l1[k].ref) (r' := l2[k].ref) (nm := l1[k].nm) (nm' := l2[k].nm) hx1 hx2 hV hV' (HZ1.out _ (List.getElem_mem hlt)) (HZ2.out _ (List.getElem_mem hlt2)))
        obtain ⟨x, hx⟩ : ∃ x, x = l1[k] := ⟨_, rfl⟩
        obtain ⟨y, hy⟩ : ∃ y, y = l2[k] := ⟨_, rfl⟩
        have HX : Hid (x = y → l1.take (k + 1) = l2.take (k + 1)) := Lib.hid (fun e => take_eq_step hlt hlt2 HT.out (by rw [← hx, ← hy]; exact e))
        have HY : Hid (x ≠ y → eqB l1 l2 = false) := Lib.hid (fun e => eqB_ne (ne_of_at hlt hlt2 (by rw [← hx, ← hy]; exact e)))
        rw [← hx] at p0 p1 HC
        rw [← hy] at r0 r1 HC
        have HIr1 := Lib.hid (HI1.out.on HR.out)
        have HIr2 := Lib.hid (HI2.out.on HR.out)
        clear hx hy hx1 hx2 hqa hqb
        obtain ⟨xr, xn, xx⟩ := x
        obtain ⟨yr, yn, yy⟩ := y
        simp only at p0 p1 r0 r1 HC
        cases hv : eqB (⟨xr, xn, xx⟩ : Ar) ⟨yr, yn, yy⟩ with
        | false =>
          have HN := Lib.hid (HY.out (fun e => by rw [e, eqB_self] at hv; cases hv))
          rw [hv] at HC
          clear hv
          go_wp2_with (go_at_call 147; refine (HC.out _ ((HIr1.out.alloc _).alloc _) ((HIr2.out.alloc _).alloc _)).mono ?_; rintro e w3 ⟨rfl, hb3⟩)
          go_ret
          exact ⟨ret_bool HN.out.symm, HR.out.trans (((below_two _ _).trans (hb3.mono (by simp; omega))).mono HR.out.size)⟩
        | true =>
          have HN := Lib.hid (HX.out (eqB_iff.1 hv))
          rw [hv] at HC
          clear hv
          go_wp2_with (go_at_call 147; refine (HC.out _ ((HIr1.out.alloc _).alloc _) ((HIr2.out.alloc _).alloc _)).mono ?_; rintro e w3 ⟨rfl, hb3⟩)
          go_roundw
          case rel => exact ⟨k + 1, by omega, by go_num, HN, Lib.hid (HR.out.trans (((below_two _ _).trans (hb3.mono (by simp; omega))).mono HR.out.size))⟩
          case measure => simp [intOf]; omega
      · have HN : Hid (eqB l1 l2 = true) := Lib.hid (by
          have := HT.out
          rw [List.take_of_length_le (by omega), List.take_of_length_le (by omega)] at this
          exact eqB_iff.2 this)
        go_wp2_with fail
        go_ret
        exact ⟨ret_bool HN.out.symm, HR.out⟩
end Go.Proofs.Ytnnblklbjbkikaa
