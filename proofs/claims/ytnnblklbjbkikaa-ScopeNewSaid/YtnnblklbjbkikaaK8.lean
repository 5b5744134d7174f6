/- Texts, merged by a program; only what is used. -/
import Derived.Deep.RegionHeld3
import Derived.Maps.AppendAt
import Derived.Maps.Range
import Derived.Test.YtnnblklbjbkikaaK1
import Derived.Test.YtnnblklbjbkikaaK2
import Derived.Test.YtnnblklbjbkikaaK3
namespace Go.Proofs.Ytnnblklbjbkikaa
open Go.ChangeShapes Go.WideShapes Go.ChangeAt Go.RowKit Go.Deep
set_option linter.unusedVariables false
theorem Arity_any (op : Int) (w : World) : Calls Try.prog 158 #[.int .i64 op] w fun e w' => e = .returned (.int .i64 (arN op)) ∧ w = w' := by
  unfold arN opN
  by_cases h1 : op = 1
  · subst h1
    go_enter Try.func158, Try.ntmps158
    go_wp2
    go_ret
    exact ⟨rfl, rfl⟩
  · by_cases h2 : op = 2
    · subst h2
      go_enter Try.func158, Try.ntmps158
      go_wp2
      go_ret
      exact ⟨rfl, rfl⟩
    · by_cases h3 : op = 3
      · subst h3
        go_enter Try.func158, Try.ntmps158
        go_wp2
        go_ret
        exact ⟨rfl, rfl⟩
      · by_cases h4 : op = 4
        · subst h4
          go_enter Try.func158, Try.ntmps158
          go_wp2
          go_ret
          exact ⟨rfl, rfl⟩
        · rw [if_neg (by omega), if_neg (by omega)]
          have q1 : (op == 1) = false := beq_eq_false_iff_ne.2 h1
          have q2 : (op == 2) = false := beq_eq_false_iff_ne.2 h2
          have q3 : (op == 3) = false := beq_eq_false_iff_ne.2 h3
          have q4 : (op == 4) = false := beq_eq_false_iff_ne.2 h4
          clear h1 h2 h3 h4
          by_cases h5 : 5 ≤ op ∧ op ≤ 17
          · rw [if_pos h5]
            obtain ⟨h5, h6⟩ := h5
            go_enter Try.func158, Try.ntmps158
            go_wp2
            go_ret
            exact ⟨rfl, rfl⟩
          · rw [if_neg h5]
            by_cases h6 : 5 ≤ op
            · have h7 : ¬ op ≤ 17 := by omega
              clear h5
              go_enter Try.func158, Try.ntmps158
              go_wp2
              go_ret
              exact ⟨rfl, rfl⟩
            · clear h5
              go_enter Try.func158, Try.ntmps158
              go_wp2
              go_ret
              exact ⟨rfl, rfl⟩
def IntOk (n : Int) (W : World) (e : Ending) (w' : World) : Prop := e = .returned (.int .i64 n) ∧ Below W.heap.size W w'
def deepN (most : Nat) (e : E) : Nat := min (depE e) (most + 1)
set_option maxHeartbeats 1000000 in
theorem deep_any {w : World} {Q : Nat → Prop} {e : E} {cs : List Value} (h : ExprI w Q e cs) : ∀ (c0 c1 c2 c3 : Value), cs = [c0, c1, c2, c3] → ∀ (d : Int) (W : World), 0 ≤ d → d ≤ 100 → In Q w W →
    Calls Try.prog 155 #[.agg #[c0, c1, c2, c3], .int .i64 d] W (IntOk (deepN d.toNat e) W) := by
  induction h with
  | @mk op n nm ks A cap css hop hn hnm hcap hA hk ih =>
    intro c0 c1 c2 c3 hcs d W hdl hd hI
    simp only [List.cons.injEq, and_true] at hcs
    obtain ⟨rfl, rfl, rfl, rfl⟩ := hcs
    unfold i64 at hop hn
    have HA := Lib.hid hA
    have HK := Lib.hid hk
    have IH := Lib.hid ih
    have HI := Lib.hid hI
    clear hA hk ih hI
    by_cases hd0 : d = 0
    · subst hd0
      have HM : Hid (deepN (0 : Int).toNat (.mk op n nm ks) = 1) := Lib.hid (by have := depE_pos (.mk op n nm ks); simp only [deepN]; omega)
      go_enter Try.func155, Try.ntmps155
      go_wp2_with fail
      go_ret
      exact ⟨ret_int (by rw [HM.out]; rfl), below_box _⟩
    · have qd : (d == 0) = false := beq_eq_false_iff_ne.2 hd0
      have hd1 : 1 ≤ d := by omega
      clear hd0
      go_enter Try.func155, Try.ntmps155
      go_wp2_with fail
      have HB1 : Hid (Below W.heap.size W (W.alloc (.cells #[.int .i64 op, .int .i64 n, .string nm, .slice A ks.length cap] 41))) := Lib.hid (below_box _)
      have HQ3 : Hid ((W.alloc (.cells #[.int .i64 op, .int .i64 n, .string nm, .slice A ks.length cap] 41)).cell? ⟨W.heap.size, 3, none⟩ = some (.slice A ks.length cap)) := Lib.hid (by simp)
      have hsz : W.heap.size < (W.alloc (.cells #[.int .i64 op, .int .i64 n, .string nm, .slice A ks.length cap] 41)).heap.size := by simp
      generalize W.alloc _ = W1 at HB1 HQ3 hsz ⊢
      go_loopw [5, 6] (fun m i wr => ∃ (k : Nat) (q : Int), k ≤ ks.length ∧ i = .int .i64 k ∧ m = .int .i64 q ∧ 0 ≤ q ∧ q ≤ d ∧ Hid (max q.toNat (min (depL (ks.drop k)) d.toNat) = min (depL ks) d.toNat) ∧ Hid (Below W1.heap.size W1 wr)) (fun _ i _ => ks.length - (intOf i).toNat)
      case atStart => exact ⟨0, 0, Nat.zero_le _, rfl, rfl, by omega, by omega, Lib.hid (by rw [List.drop_zero]; simp), Lib.hid (Below.refl _ _)⟩
      case round =>
        obtain ⟨k, q, hk, rfl, rfl, hq0, hqd, HW, HR⟩ := hrel
        have q3 : wr.cell? ⟨W.heap.size, 3, none⟩ = some (.slice A ks.length cap) := (HR.out.cell (p := ⟨W.heap.size, 3, none⟩) hsz).trans HQ3.out
        have hrz := HR.out.size
        by_cases hlt : k < ks.length
        · by_cases hq2 : q < d
          · have hIr : In Q w wr := HI.out.on (HB1.out.trans (HR.out.mono HB1.out.size))
            obtain ⟨a, o1, n1, s1, A1, l1, k1, rfl, hd', p0, p1, p2, p3⟩ := kid_at HA.out HK.out hIr hlt
            have HC := Lib.hid (IH.out k hlt _ _ _ _ hd' (d - 1))
            have HIr := Lib.hid hIr
            clear hd' hIr
            have HN : Hid (max q.toNat (min (depL (ks.drop k)) d.toNat) = max (max q.toNat (deepN (d - 1).toNat ks[k])) (min (depL (ks.drop (k + 1))) d.toNat)) := Lib.hid (by rw [depL_drop hlt, deepN]; omega)
            obtain ⟨v, hv⟩ : ∃ v : Nat, v = deepN (d - 1).toNat ks[k] := ⟨_, rfl⟩
            have hv2 : v ≤ d.toNat := by rw [hv, deepN]; omega
            rw [← hv] at HC HN
            clear hv
            by_cases hvq : q < (v : Int)
            · go_wp2_with (go_at_call 155; refine (HC.out _ (by omega) (by omega) HIr.out).mono ?_; rintro e w2 ⟨rfl, hb2⟩)
              go_roundw
              case rel => exact ⟨k + 1, v, by omega, by go_num, rfl, by omega, by omega, Lib.hid (by rw [← HW.out, HN.out]; omega), Lib.hid (HR.out.trans (hb2.mono HR.out.size))⟩
              case measure => simp [intOf]; omega
            · go_wp2_with (go_at_call 155; refine (HC.out _ (by omega) (by omega) HIr.out).mono ?_; rintro e w2 ⟨rfl, hb2⟩)
              go_roundw
              case rel => exact ⟨k + 1, q, by omega, by go_num, rfl, by omega, by omega, Lib.hid (by rw [← HW.out, HN.out]; omega), Lib.hid (HR.out.trans (hb2.mono HR.out.size))⟩
              case measure => simp [intOf]; omega
          · have HN : Hid ((deepN d.toNat (.mk op n nm ks) : Int) = q + 1) := Lib.hid (by have := HW.out; rw [deepN, depE]; omega)
            go_wp2_with fail
            go_ret
            exact ⟨ret_int (by rw [HN.out]), HB1.out.trans (HR.out.mono HB1.out.size)⟩
        · have HN : Hid ((deepN d.toNat (.mk op n nm ks) : Int) = q + 1) := Lib.hid (by have := HW.out; rw [List.drop_of_length_le (by omega), depL] at this; rw [deepN, depE]; omega)
          go_wp2_with fail
          go_ret
          exact ⟨ret_int (by rw [HN.out]), HB1.out.trans (HR.out.mono HB1.out.size)⟩
theorem bne_of {a b : Int} {c : Bool} (h : (a == b) = c) : (a != b) = !c := by rw [bne, h]
theorem form_of {op n : Int} {nm : ByteArray} {ks : List E} {b : Bool} (h : (decide (arN op = ks.length) && decide (op = 1 ∨ n = 0) && decide (0 ≤ n) && (decide (op = 2) == !decide (nm.size = 0)) && (decide (nm.size = 0) || isNm (bl nm))) = b) :
    formE (.mk op n nm ks) = (b && formL ks) := by rw [formE, h]
set_option maxHeartbeats 2000000 in
theorem form_any {w : World} {Q : Nat → Prop} {e : E} {cs : List Value} (h : ExprI w Q e cs) : ∀ (c0 c1 c2 c3 : Value), cs = [c0, c1, c2, c3] → ∀ (W : World), In Q w W →
    Calls Try.prog 156 #[.agg #[c0, c1, c2, c3]] W (MayOk (formE e) W) := by
  induction h with
  | @mk op n nm ks A cap css hop hn hnm hcap hA hk ih =>
    intro c0 c1 c2 c3 hcs W hI
    simp only [List.cons.injEq, and_true] at hcs
    obtain ⟨rfl, rfl, rfl, rfl⟩ := hcs
    unfold i64 at hop hn
    have HA := Lib.hid hA
    have HK := Lib.hid hk
    have IH := Lib.hid ih
    have HI := Lib.hid hI
    clear hA hk ih hI
    have he := toList_emp nm
    have hbn := toList_bne nm
    cases b1 : (arN op == ((ks.length : Nat) : Int)) with
    | false =>
      have HM : Hid (formE (.mk op n nm ks) = false) := Lib.hid (form_of (b := false) (by simp at b1; simp [b1]))
      have c1 := bne_of b1
      rw [Bool.not_false] at c1
      clear he hbn
      go_enter Try.func156, Try.ntmps156
      go_wp2_with fail
      go_quiet ((go_at_call 158; exact quiet_same (Arity_any _ _)))
      go_wp2_with fail
      go_ret
      exact ⟨ret_bool HM.out.symm, below_drewN (below_box _) _⟩
    | true =>
      have c1 := bne_of b1
      rw [Bool.not_true] at c1
      cases b23 : ((op != 1) && (n != 0)) with
      | true =>
        have HM : Hid (formE (.mk op n nm ks) = false) := Lib.hid (form_of (b := false) (by simp at b23; simp [b23]))
        rw [Bool.and_eq_true] at b23
        obtain ⟨b2, b3⟩ := b23
        clear he hbn
        go_enter Try.func156, Try.ntmps156
        go_wp2_with fail
        go_quiet ((go_at_call 158; exact quiet_same (Arity_any _ _)))
        go_wp2_with fail
        go_ret
        exact ⟨ret_bool HM.out.symm, below_drewN (below_box _) _⟩
      | false =>
        have hon : op = 1 ∨ n = 0 := by simp at b23; omega
        cases b4 : decide (n < 0) with
        | true =>
          have HM : Hid (formE (.mk op n nm ks) = false) := Lib.hid (form_of (b := false) (by
            have : ¬ 0 ≤ n := by simpa using b4
            simp [this]))
          cases b2 : (op != 1) with
          | true =>
            have b3 : (n != 0) = false := by rw [b2] at b23; simpa using b23
            clear he hbn b23 hon
            go_enter Try.func156, Try.ntmps156
            go_wp2_with fail
            go_quiet ((go_at_call 158; exact quiet_same (Arity_any _ _)))
            go_wp2_with fail
            go_ret
            exact ⟨ret_bool HM.out.symm, below_drewN (below_box _) _⟩
          | false =>
            clear he hbn b23 hon
            go_enter Try.func156, Try.ntmps156
            go_wp2_with fail
            go_quiet ((go_at_call 158; exact quiet_same (Arity_any _ _)))
            go_wp2_with fail
            go_ret
            exact ⟨ret_bool HM.out.symm, below_drewN (below_box _) _⟩
        | false =>
          have hn0 : 0 ≤ n := by simpa using b4
          have hn1 : decide (0 ≤ n) = true := by simpa using hn0
          cases b6 : decide (nm.size = 0) with
          | true =>
            rw [b6] at he hbn
            rw [Bool.not_true] at hbn
            cases b5 : (op == 2) with
            | true =>
              have HM : Hid (formE (.mk op n nm ks) = false) := Lib.hid (form_of (b := false) (by simp at b5 b6; simp [b5, b6]))
              have b2 : (op != 1) = true := by simp at b5; subst b5; rfl
              have b3 : (n != 0) = false := by rw [b2] at b23; simpa using b23
              clear b23 hon b6
              go_enter Try.func156, Try.ntmps156
              go_wp2_with fail
              go_quiet ((go_at_call 158; exact quiet_same (Arity_any _ _)))
              go_wp2_with fail
              go_ret
              exact ⟨ret_bool HM.out.symm, below_drewN (below_box _) _⟩
            | false =>
              have HM : Hid (formE (.mk op n nm ks) = formL ks) := Lib.hid (by rw [form_of (b := true) (by simp at b5 b6 b1; simp [b5, b6, b1, hon, hn0])]; rfl)
              cases b2 : (op != 1) with
              | true =>
                have b3 : (n != 0) = false := by rw [b2] at b23; simpa using b23
                clear b23 hon b6
                go_enter Try.func156, Try.ntmps156
                go_wp2_with fail
                go_quiet ((go_at_call 158; exact quiet_same (Arity_any _ _)))
                have HB1 : Hid (Below W.heap.size W ((W.alloc (.cells #[.int .i64 op, .int .i64 n, .string nm, .slice A ks.length cap] 41)).drewN nq)) := Lib.hid (below_drewN (below_box _) _)
                have HQ3 : Hid (((W.alloc (.cells #[.int .i64 op, .int .i64 n, .string nm, .slice A ks.length cap] 41)).drewN nq).cell? ⟨W.heap.size, 3, none⟩ = some (.slice A ks.length cap)) := Lib.hid (by simp)
                have hsz : W.heap.size < ((W.alloc (.cells #[.int .i64 op, .int .i64 n, .string nm, .slice A ks.length cap] 41)).drewN nq).heap.size := by simp
                generalize World.drewN _ nq = W1 at HB1 HQ3 hsz ⊢
                have q3' := HQ3.out
                go_wp2_with fail
                clear q3'
                go_loopw [49] (fun i wr => ∃ k : Nat, k ≤ ks.length ∧ i = .int .i64 k ∧ Hid (formL (ks.drop k) = formL ks) ∧ Hid (Below W1.heap.size W1 wr)) (fun i _ => ks.length - (intOf i).toNat)
                case atStart => exact ⟨0, Nat.zero_le _, rfl, Lib.hid (by rw [List.drop_zero]), Lib.hid (Below.refl _ _)⟩
                case round =>
                  obtain ⟨k, hk, rfl, HW, HR⟩ := hrel
                  have q3 : wr.cell? ⟨W.heap.size, 3, none⟩ = some (.slice A ks.length cap) := (HR.out.cell (p := ⟨W.heap.size, 3, none⟩) hsz).trans HQ3.out
                  have hrz := HR.out.size
                  by_cases hlt : k < ks.length
                  · have hIr : In Q w wr := HI.out.on (HB1.out.trans (HR.out.mono HB1.out.size))
                    obtain ⟨a, o1, n1, s1, A1, l1, k1, rfl, hd', p0, p1, p2, p3⟩ := kid_at HA.out HK.out hIr hlt
                    have HC := Lib.hid (IH.out k hlt _ _ _ _ hd')
                    have HIr := Lib.hid hIr
                    clear hd' hIr
                    have HN : Hid (formL ks = (formE ks[k] && formL (ks.drop (k + 1)))) := Lib.hid (by rw [← formL_drop hlt, HW.out])
                    cases hv : formE ks[k] with
                    | true =>
                      rw [hv] at HC HN
                      clear hv
                      go_wp2_with (go_at_call 156; refine (HC.out _ HIr.out).mono ?_; rintro e w2 ⟨rfl, hb2⟩)
                      go_roundw
                      case rel => exact ⟨k + 1, by omega, by go_num, Lib.hid (by rw [HN.out, Bool.true_and]), Lib.hid (HR.out.trans (hb2.mono HR.out.size))⟩
                      case measure => simp [intOf]; omega
                    | false =>
                      rw [hv] at HC HN
                      clear hv
                      go_wp2_with (go_at_call 156; refine (HC.out _ HIr.out).mono ?_; rintro e w2 ⟨rfl, hb2⟩)
                      go_ret
                      exact ⟨ret_bool (by rw [HM.out, HN.out]; rfl), HB1.out.trans ((HR.out.trans (hb2.mono HR.out.size)).mono HB1.out.size)⟩
                  · have HN : Hid (formL ks = true) := Lib.hid (by
                      have h1 := HW.out
                      rw [List.drop_of_length_le (by omega), formL] at h1
                      exact h1.symm)
                    go_wp2_with fail
                    go_ret
                    exact ⟨ret_bool (by rw [HM.out, HN.out]), HB1.out.trans (HR.out.mono HB1.out.size)⟩
              | false =>
                clear b23 hon b6
                go_enter Try.func156, Try.ntmps156
                go_wp2_with fail
                go_quiet ((go_at_call 158; exact quiet_same (Arity_any _ _)))
                have HB1 : Hid (Below W.heap.size W ((W.alloc (.cells #[.int .i64 op, .int .i64 n, .string nm, .slice A ks.length cap] 41)).drewN nq)) := Lib.hid (below_drewN (below_box _) _)
                have HQ3 : Hid (((W.alloc (.cells #[.int .i64 op, .int .i64 n, .string nm, .slice A ks.length cap] 41)).drewN nq).cell? ⟨W.heap.size, 3, none⟩ = some (.slice A ks.length cap)) := Lib.hid (by simp)
                have hsz : W.heap.size < ((W.alloc (.cells #[.int .i64 op, .int .i64 n, .string nm, .slice A ks.length cap] 41)).drewN nq).heap.size := by simp
                generalize World.drewN _ nq = W1 at HB1 HQ3 hsz ⊢
                have q3' := HQ3.out
                go_wp2_with fail
                clear q3'
                go_loopw [49] (fun i wr => ∃ k : Nat, k ≤ ks.length ∧ i = .int .i64 k ∧ Hid (formL (ks.drop k) = formL ks) ∧ Hid (Below W1.heap.size W1 wr)) (fun i _ => ks.length - (intOf i).toNat)
                case atStart => exact ⟨0, Nat.zero_le _, rfl, Lib.hid (by rw [List.drop_zero]), Lib.hid (Below.refl _ _)⟩
                case round =>
                  obtain ⟨k, hk, rfl, HW, HR⟩ := hrel
                  have q3 : wr.cell? ⟨W.heap.size, 3, none⟩ = some (.slice A ks.length cap) := (HR.out.cell (p := ⟨W.heap.size, 3, none⟩) hsz).trans HQ3.out
                  have hrz := HR.out.size
                  by_cases hlt : k < ks.length
                  · have hIr : In Q w wr := HI.out.on (HB1.out.trans (HR.out.mono HB1.out.size))
                    obtain ⟨a, o1, n1, s1, A1, l1, k1, rfl, hd', p0, p1, p2, p3⟩ := kid_at HA.out HK.out hIr hlt
                    have HC := Lib.hid (IH.out k hlt _ _ _ _ hd')
                    have HIr := Lib.hid hIr
                    clear hd' hIr
                    have HN : Hid (formL ks = (formE ks[k] && formL (ks.drop (k + 1)))) := Lib.hid (by rw [← formL_drop hlt, HW.out])
                    cases hv : formE ks[k] with
                    | true =>
                      rw [hv] at HC HN
                      clear hv
                      go_wp2_with (go_at_call 156; refine (HC.out _ HIr.out).mono ?_; rintro e w2 ⟨rfl, hb2⟩)
                      go_roundw
                      case rel => exact ⟨k + 1, by omega, by go_num, Lib.hid (by rw [HN.out, Bool.true_and]), Lib.hid (HR.out.trans (hb2.mono HR.out.size))⟩
                      case measure => simp [intOf]; omega
                    | false =>
                      rw [hv] at HC HN
                      clear hv
                      go_wp2_with (go_at_call 156; refine (HC.out _ HIr.out).mono ?_; rintro e w2 ⟨rfl, hb2⟩)
                      go_ret
                      exact ⟨ret_bool (by rw [HM.out, HN.out]; rfl), HB1.out.trans ((HR.out.trans (hb2.mono HR.out.size)).mono HB1.out.size)⟩
                  · have HN : Hid (formL ks = true) := Lib.hid (by
                      have h1 := HW.out
                      rw [List.drop_of_length_le (by omega), formL] at h1
                      exact h1.symm)
                    go_wp2_with fail
                    go_ret
                    exact ⟨ret_bool (by rw [HM.out, HN.out]), HB1.out.trans (HR.out.mono HB1.out.size)⟩
          | false =>
            rw [b6] at he hbn
            rw [Bool.not_false] at hbn
            cases b5 : (op == 2) with
            | false =>
              have HM : Hid (formE (.mk op n nm ks) = false) := Lib.hid (form_of (b := false) (by simp at b5 b6; simp [b5, b6]))
              cases b2 : (op != 1) with
              | true =>
                have b3 : (n != 0) = false := by rw [b2] at b23; simpa using b23
                clear b23 hon b6
                go_enter Try.func156, Try.ntmps156
                go_wp2_with fail
                go_quiet ((go_at_call 158; exact quiet_same (Arity_any _ _)))
                go_wp2_with fail
                go_ret
                exact ⟨ret_bool HM.out.symm, below_drewN (below_box _) _⟩
              | false =>
                clear b23 hon b6
                go_enter Try.func156, Try.ntmps156
                go_wp2_with fail
                go_quiet ((go_at_call 158; exact quiet_same (Arity_any _ _)))
                go_wp2_with fail
                go_ret
                exact ⟨ret_bool HM.out.symm, below_drewN (below_box _) _⟩
            | true =>
              have b2 : (op != 1) = true := by simp at b5; subst b5; rfl
              have b3 : (n != 0) = false := by rw [b2] at b23; simpa using b23
              have hl0 : ks.length = 0 := by
                have h1 : arN op = (ks.length : Int) := by simpa using b1
                have h2 : op = 2 := by simpa using b5
                rw [h2] at h1
                have h3 : arN 2 = 0 := rfl
                omega
              have hl1 : ks.length ≤ 0 := by omega
              clear hl0
              have HM : Hid (formE (.mk op n nm ks) = (isNm (bl nm) && formL ks)) := Lib.hid (form_of (b := isNm (bl nm)) (by
                rw [decide_eq_true (by simpa using b1), decide_eq_true hon, decide_eq_true hn0, b6, decide_eq_true (by simpa using b5)]; simp))
              clear b23 hon b6
              go_enter Try.func156, Try.ntmps156
              go_wp2_with fail
              go_region_held3 (fun w' => w'.cell? ⟨W.heap.size, 0, none⟩ = some (.int .i64 op) ∧ w'.cell? ⟨W.heap.size, 1, none⟩ = some (.int .i64 n) ∧ w'.cell? ⟨W.heap.size, 2, none⟩ = some (.string nm) ∧ w'.cell? ⟨W.heap.size, 3, none⟩ = some (.slice A ks.length cap))
                (go_keep)
                (first
                  | ((go_at_call 158; refine (Arity_any _ _).mono ?_; rintro e w' ⟨rfl, rfl⟩))
                  | ((go_at_call 159; refine (rName_any _ _ (by unfold maxLen; omega)).mono ?_; rintro e w2 ⟨rfl, hb2⟩; have hc2 := (bcell hb2).1)))
              have HB1 : Hid (Below W.heap.size W w2) := Lib.hid ((below_drewN (below_box _) 1).trans (hb2.mono (by simp)))
              have HQ3 : Hid (w2.cell? ⟨W.heap.size, 3, none⟩ = some (.slice A ks.length cap)) := Lib.hid (by rename_i hh; exact hh.2.2.2)
              have hsz : W.heap.size < w2.heap.size := World.block_lt_of_cell? w2 _ HQ3.out
              clear hb2 hc2
              generalize w2 = W1 at *
              cases hv : isNm (bl nm) with
              | false =>
                go_wp2_with fail
                go_ret
                exact ⟨ret_bool (by rw [HM.out, hv]; rfl), HB1.out⟩
              | true =>
                rw [hv, Bool.true_and] at HM
                go_wp2_with fail
                go_loopw [49] (fun i wr => ∃ k : Nat, k ≤ ks.length ∧ i = .int .i64 k ∧ Hid (formL (ks.drop k) = formL ks) ∧ Hid (Below W1.heap.size W1 wr)) (fun i _ => ks.length - (intOf i).toNat)
                case atStart => exact ⟨0, Nat.zero_le _, rfl, Lib.hid (by rw [List.drop_zero]), Lib.hid (Below.refl _ _)⟩
                case round =>
                  obtain ⟨k, hk, rfl, HW, HR⟩ := hrel
                  have q3 : wr.cell? ⟨W.heap.size, 3, none⟩ = some (.slice A ks.length cap) := (HR.out.cell (p := ⟨W.heap.size, 3, none⟩) hsz).trans HQ3.out
                  have hrz := HR.out.size
                  have hlt : ¬ k < ks.length := by omega
                  have HN : Hid (formL ks = true) := Lib.hid (by
                    have h1 := HW.out
                    rw [List.drop_of_length_le (by omega), formL] at h1
                    exact h1.symm)
                  go_wp2_with fail
                  go_ret
                  exact ⟨ret_bool (by rw [HM.out, HN.out]), HB1.out.trans (HR.out.mono HB1.out.size)⟩
theorem rMayExpr_any {w : World} {Q : Nat → Prop} {e : E} {c0 c1 c2 c3 : Value} (h : ExprI w Q e [c0, c1, c2, c3]) (W : World) (hI : In Q w W) :
    Calls Try.prog 149 #[.agg #[c0, c1, c2, c3]] W (MayOk (mayE 20 e) W) := by
  have HC := Lib.hid (deep_any h c0 c1 c2 c3 rfl 20)
  have HF := Lib.hid (form_any h c0 c1 c2 c3 rfl)
  have HI := Lib.hid hI
  have HM := Lib.hid (mayE_eq e 20)
  obtain ⟨d0, d1, d2, d3, l3, k3, hd'⟩ := h.form
  simp only [List.cons.injEq, and_true] at hd'
  obtain ⟨rfl, rfl, rfl, rfl⟩ := hd'
  clear h hI
  have hdd : deepN (20 : Int).toNat e = min (depE e) 21 := rfl
  rw [hdd] at HC
  by_cases hd : depE e ≤ 20
  · rw [decide_eq_true hd, Bool.true_and] at HM
    rw [Nat.min_eq_left (by omega)] at HC
    generalize depE e = dd at *
    clear hdd
    go_enter Try.func149, Try.ntmps149
    go_wp2_with (first
      | (go_at_call 155; refine (HC.out _ (by omega) (by omega) (HI.out.alloc _)).mono ?_; rintro e' w2 ⟨rfl, hb2⟩; have hc2 := (bcell hb2).1)
      | (go_at_call 156; refine (HF.out _ ((HI.out.alloc _).on hb2)).mono ?_; rintro e' w3 ⟨rfl, hb3⟩))
    go_ret
    exact ⟨ret_bool HM.out.symm, below_new (hb2.trans (hb3.mono hb2.size))⟩
  · rw [decide_eq_false hd, Bool.false_and] at HM
    rw [Nat.min_eq_right (by omega)] at HC
    clear hdd hd
    go_enter Try.func149, Try.ntmps149
    go_wp2_with (first
      | (go_at_call 155; refine (HC.out _ (by omega) (by omega) (HI.out.alloc _)).mono ?_; rintro e' w2 ⟨rfl, hb2⟩; have hc2 := (bcell hb2).1))
    go_ret
    exact ⟨ret_bool HM.out.symm, below_new hb2⟩
end Go.Proofs.Ytnnblklbjbkikaa
namespace Go.Proofs.Ytnnblklbjbkikaa
open Go.ChangeShapes Go.WideShapes Go.ChangeAt Go.RowKit Go.Deep
set_option linter.unusedVariables false
def hasB (l : List ByteArray) (s : ByteArray) : Bool := l.any fun t => decide (t = s)
theorem hasB_iff {l : List ByteArray} {s : ByteArray} : hasB l s = true ↔ s ∈ l := by simp [hasB]
def spoke (l : List ByteArray) (s : ByteArray) : List ByteArray := if hasB l s then l else l ++ [s]
mutual
def walkE : E → List ByteArray → List ByteArray
  | .mk op _ nm ks, l => walkL ks (if op = 2 then spoke l nm else l)
def walkL : List E → List ByteArray → List ByteArray
  | [], l => l
  | k :: ks, l => walkL ks (walkE k l)
end
mutual
def sizE : E → Nat
  | .mk _ _ _ ks => sizL ks + 1
def sizL : List E → Nat
  | [] => 0
  | k :: ks => sizE k + sizL ks
end
theorem spoke_len (l : List ByteArray) (s : ByteArray) : l.length ≤ (spoke l s).length ∧ (spoke l s).length ≤ l.length + 1 := by unfold spoke; split <;> simp
theorem spoke_all {p : ByteArray → Prop} {l : List ByteArray} {s : ByteArray} (h : ∀ t ∈ l, p t) (hs : p s) : ∀ t ∈ spoke l s, p t := by
  unfold spoke; split
  · exact h
  · intro t ht; simp at ht; rcases ht with ht | rfl
    · exact h t ht
    · exact hs
mutual
theorem walkE_len : ∀ (e : E) (l : List ByteArray), (walkE e l).length ≤ l.length + sizE e
  | .mk op _ nm ks, l => by
    rw [walkE, sizE]
    have h1 := walkL_len ks (if op = 2 then spoke l nm else l)
    have h2 := spoke_len l nm
    split at h1 <;> simp_all <;> omega
theorem walkL_len : ∀ (ks : List E) (l : List ByteArray), (walkL ks l).length ≤ l.length + sizL ks
  | [], l => by simp [walkL]
  | k :: ks, l => by
    rw [walkL, sizL]
    have h1 := walkL_len ks (walkE k l)
    have h2 := walkE_len k l
    omega
end
mutual
theorem mayE_siz : ∀ (e : E) (d : Nat), mayE d e = true → sizE e + 1 ≤ 2 ^ d
  | .mk op n nm ks, d, h => by
    rw [mayE, Bool.and_eq_true, decide_eq_true_eq] at h
    obtain ⟨hd, h⟩ := h
    rw [sizE]
    have hp : 2 ^ d = 2 * 2 ^ (d - 1) := by rw [← Nat.pow_succ']; congr 1; omega
    have hp1 : 1 ≤ 2 ^ (d - 1) := Nat.one_le_two_pow
    by_cases h1 : op = 1
    · rw [if_pos h1] at h
      simp only [Bool.and_eq_true, decide_eq_true_eq] at h
      obtain rfl : ks = [] := List.eq_nil_of_length_eq_zero h.2
      simp only [sizL]; omega
    · rw [if_neg h1] at h
      by_cases h2 : op = 2
      · rw [if_pos h2] at h
        simp only [Bool.and_eq_true, decide_eq_true_eq] at h
        obtain rfl : ks = [] := List.eq_nil_of_length_eq_zero h.2
        simp only [sizL]; omega
      · rw [if_neg h2] at h
        simp only [Bool.and_eq_true, decide_eq_true_eq] at h
        have hl := mayL_siz ks (d - 1) h.2
        have ho := opN_le op
        have hlen : ks.length ≤ 2 := by omega
        have hm : ks.length * (2 ^ (d - 1) - 1) ≤ 2 * (2 ^ (d - 1) - 1) := Nat.mul_le_mul_right _ hlen
        omega
theorem mayL_siz : ∀ (ks : List E) (d : Nat), mayL d ks = true → sizL ks ≤ ks.length * (2 ^ d - 1)
  | [], d, _ => by simp [sizL]
  | k :: ks, d, h => by
    rw [mayL, Bool.and_eq_true] at h
    have h1 := mayE_siz k d h.1
    have h2 := mayL_siz ks d h.2
    rw [sizL, List.length_cons, Nat.succ_mul]
    omega
end
theorem walkL_drop {ks : List E} {k : Nat} (h : k < ks.length) (l : List ByteArray) : walkL (ks.drop k) l = walkL (ks.drop (k + 1)) (walkE ks[k] l) := by
  rw [List.drop_eq_getElem_cons h, walkL]
theorem sizL_drop {ks : List E} {k : Nat} (h : k < ks.length) : sizL (ks.drop k) = sizE ks[k] + sizL (ks.drop (k + 1)) := by
  rw [List.drop_eq_getElem_cons h, sizL]
theorem string_info : (Try.prog.info? 9).map (fun i => (i.zero, i.size, i.bytes)) = some (some (.string ⟨#[]⟩), 1, 16) := by kernel_rfl
def small (s : ByteArray) : Prop := s.size ≤ 9223372036854775807
/-- a row of texts of the call's own was answered, which lies where v lay or is new; nothing else has turned -/
def RowOk (base : Nat) (v : Value) (l : List ByteArray) (w : World) (e : Ending) (w' : World) : Prop :=
  ∃ v', e = .returned v' ∧ w'.ownsRow base 9 1 v' l.length (strs l) ∧ w.grownBy w' v.ownBlock ∧ ∀ j, v'.ownBlock = some j → w.heap.size ≤ j ∨ v.ownBlock = some j
theorem In.grown {Q : Nat → Prop} {w W W' : World} {row : Option Nat} (h : In Q w W) (hg : W.grownBy W' row) (hr : ∀ j, row = some j → ¬ Q j) : In Q w W' :=
  ⟨fun b hb => Nat.lt_of_lt_of_le (h.1 b hb) hg.size, fun p hp => (World.cell?_of_block (w := W) (hg.block _ (h.1 _ hp) (fun e => hr _ e.symm hp))).trans (h.2 p hp)⟩
theorem lies_then {a b : World} {u v v' : Option Nat} (h : a.grownBy b u) (h1 : ∀ j, v = some j → a.heap.size ≤ j ∨ u = some j) (h2 : ∀ j, v' = some j → b.heap.size ≤ j ∨ v = some j) : ∀ j, v' = some j → a.heap.size ≤ j ∨ u = some j := fun j hj => by
  rcases h2 j hj with h | h
  · exact .inl (Nat.le_trans (by assumption : a.grownBy b u).size h)
  · exact h1 j h
theorem own_shape {w : World} {base n : Nat} {e : TypeId} {size : Nat} {v : Value} {xs : List Value} (h : w.ownsRow base e size v n xs) : ∃ A cap, v = .slice A n cap ∧ n ≤ cap ∧ cap ≤ 9223372036854775807 := by
  rcases h.2 with ⟨rfl, rfl⟩ | ⟨g, cap, cur, rfl, _, _, h1, h2, _⟩
  · exact ⟨none, 0, rfl, by omega, by omega⟩
  · unfold maxLen at h2; exact ⟨_, cap, rfl, h1, by omega⟩
set_option maxHeartbeats 1000000 in
theorem walkE_all {w : World} {Q : Nat → Prop} {e : E} {cs : List Value} (h : ExprI w Q e cs) : ∀ {l : List ByteArray}, (∀ t ∈ l, small t) → ∀ t ∈ walkE e l, small t := by
  induction h with
  | @mk op n nm ks A cap css hop hn hnm hcap hA hk ih =>
    intro l hl
    have key : ∀ (m k : Nat), k + m = ks.length → ∀ l : List ByteArray, (∀ t ∈ l, small t) → ∀ t ∈ walkL (ks.drop k) l, small t := by
      intro m
      induction m with
      | zero => intro k hk l hl; rw [List.drop_of_length_le (by omega), walkL]; exact hl
      | succ m ihm =>
        intro k hk l hl
        rw [walkL_drop (by omega)]
        exact ihm (k + 1) (by omega) _ (ih k (by omega) hl)
    rw [walkE]
    have := key ks.length 0 (by omega) (if op = 2 then spoke l nm else l) (by split; exact spoke_all hl hnm; exact hl)
    rwa [List.drop_zero] at this
def namesE (e : E) : List ByteArray := if mayE 20 e then walkE e [] else []
def NewRow (l : List ByteArray) (w : World) (e : Ending) (w' : World) : Prop := ∃ v, e = .returned v ∧ w'.ownsRow w.heap.size 9 1 v l.length (strs l) ∧ Below w.heap.size w w'
theorem own_lower {w : World} {base base' n : Nat} {e : TypeId} {size : Nat} {v : Value} {xs : List Value} (h : w.ownsRow base e size v n xs) (hb : base' ≤ base) : w.ownsRow base' e size v n xs := by
  refine ⟨h.1, ?_⟩
  rcases h.2 with h1 | ⟨g, cap, cur, h1, h2, r⟩
  · exact .inl h1
  · exact .inr ⟨g, cap, cur, h1, by omega, r⟩
theorem new_one (w : World) (s : ByteArray) : ∀ j u, [Value.string s][j]? = some u → (w.alloc (.cells #[.string s] 9)).cell? ((⟨w.heap.size, 0, none⟩ : Addr).add j) = some u := by
  intro j u hu
  have hj : j = 0 := by have := (List.getElem?_eq_some_iff.1 hu).1; simp at this; exact this
  subst hj
  simp at hu
  subst hu
  simp [Addr.add]
theorem texts_cells {w W : World} {Q : Nat → Prop} {l : List ByteArray} {a : Addr} {n cap : Nat} (h : TextsI w Q l (.slice (some a) n cap)) (hI : In Q w W) : ∀ j u, (strs l)[j]? = some u → W.cell? (a.add j) = some u := by
  intro j u hu
  have hj : j < l.length := by have := (List.getElem?_eq_some_iff.1 hu).1; simpa [strs] using this
  obtain ⟨a', ha, _, hc, _⟩ := text_at h hI hj
  injection ha with ha
  subst ha
  rw [hc]
  simp only [strs, List.getElem?_map, List.getElem?_eq_getElem hj, Option.map_some] at hu
  exact hu
end Go.Proofs.Ytnnblklbjbkikaa
