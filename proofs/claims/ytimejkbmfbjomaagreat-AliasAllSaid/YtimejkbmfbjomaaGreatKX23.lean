/- Texts, merged by a program; only what is used. -/
import Derived.Deep.RegionHeld3
import Derived.Maps.AppendAt
import Derived.Maps.Range
import Derived.Test.YtimejkbmfbjomaaGreatKX1
import Derived.Test.YtimejkbmfbjomaaGreatKX2
import Derived.Test.YtimejkbmfbjomaaGreatKX3
import Derived.Test.YtimejkbmfbjomaaGreatKX5
import Derived.Test.YtimejkbmfbjomaaGreatKX22
namespace Go.Proofs.YtimejkbmfbjomaaGreat
open Go.ChangeShapes Go.WideShapes Go.ChangeAt Go.RowKit Go.Deep
set_option linter.unusedVariables false
theorem Arity_any (op : Int) (w : World) : Calls Tryz.prog 166 #[.int .i64 op] w fun e w' => e = .returned (.int .i64 (arN op)) ∧ w = w' := by
  unfold arN opN
  by_cases h1 : op = 1
  · subst h1
    go_enter Tryz.func166, Tryz.ntmps166
    go_wp2
    go_ret
    exact ⟨rfl, rfl⟩
  · by_cases h2 : op = 2
    · subst h2
      go_enter Tryz.func166, Tryz.ntmps166
      go_wp2
      go_ret
      exact ⟨rfl, rfl⟩
    · by_cases h3 : op = 3
      · subst h3
        go_enter Tryz.func166, Tryz.ntmps166
        go_wp2
        go_ret
        exact ⟨rfl, rfl⟩
      · by_cases h4 : op = 4
        · subst h4
          go_enter Tryz.func166, Tryz.ntmps166
          go_wp2
          go_ret
          exact ⟨rfl, rfl⟩
        · rw [if_neg (by omega), if_neg (by omega)]
          have q1 : (op == 1) = false := beq_eq_false_iff_ne.2 h1
          have q2 : (op == 2) = false := beq_eq_false_iff_ne.2 h2
          have q3 : (op == 3) = false := beq_eq_false_iff_ne.2 h3
          have q4 : (op == 4) = false := beq_eq_false_iff_ne.2 h4
          clear h1 h2 h3 h4
          by_cases h5 : 5 ≤ op ∧ op ≤ 17
          · rw [if_pos h5]
            obtain ⟨h5, h6⟩ := h5
            go_enter Tryz.func166, Tryz.ntmps166
            go_wp2
            go_ret
            exact ⟨rfl, rfl⟩
          · rw [if_neg h5]
            by_cases h6 : 5 ≤ op
            · have h7 : ¬ op ≤ 17 := by omega
              clear h5
              go_enter Tryz.func166, Tryz.ntmps166
              go_wp2
              go_ret
              exact ⟨rfl, rfl⟩
            · clear h5
              go_enter Tryz.func166, Tryz.ntmps166
              go_wp2
              go_ret
              exact ⟨rfl, rfl⟩
set_option maxHeartbeats 1000000 in
theorem deep_any {w : World} {Q : Nat → Prop} {e : E} {cs : List Value} (h : ExprI w Q e cs) : ∀ (c0 c1 c2 c3 : Value), cs = [c0, c1, c2, c3] → ∀ (d : Int) (W : World), 0 ≤ d → d ≤ 100 → In Q w W →
    Calls Tryz.prog 126 #[.agg #[c0, c1, c2, c3], .int .i64 d] W (IntOk (deepN d.toNat e) W) := by
  induction h with
  | @mk op n nm ks A cap css hop hn hnm hcap hA hk ih =>
    intro c0 c1 c2 c3 hcs d W hdl hd hI
    simp only [List.cons.injEq, and_true] at hcs
    obtain ⟨rfl, rfl, rfl, rfl⟩ := hcs
    unfold i64 at hop hn
    have HA := Lib.hid hA
    have HK := Lib.hid hk
    have IH := Lib.hid ih
    have HI := Lib.hid hI
    clear hA hk ih hI
    by_cases hd0 : d = 0
    · subst hd0
      have HM : Hid (deepN (0 : Int).toNat (.mk op n nm ks) = 1) := Lib.hid (by have := depE_pos (.mk op n nm ks); simp only [deepN]; omega)
      go_enter Tryz.func126, Tryz.ntmps126
      go_wp2_with fail
      go_ret
      exact ⟨ret_int (by rw [HM.out]; rfl), below_box _⟩
    · have qd : (d == 0) = false := beq_eq_false_iff_ne.2 hd0
      have hd1 : 1 ≤ d := by omega
      clear hd0
      go_enter Tryz.func126, Tryz.ntmps126
      go_wp2_with fail
      have HB1 : Hid (Below W.heap.size W (W.alloc (.cells #[.int .i64 op, .int .i64 n, .string nm, .slice A ks.length cap] 46))) := Lib.hid (below_box _)
      have HQ3 : Hid ((W.alloc (.cells #[.int .i64 op, .int .i64 n, .string nm, .slice A ks.length cap] 46)).cell? ⟨W.heap.size, 3, none⟩ = some (.slice A ks.length cap)) := Lib.hid (by simp)
      have hsz : W.heap.size < (W.alloc (.cells #[.int .i64 op, .int .i64 n, .string nm, .slice A ks.length cap] 46)).heap.size := by simp
      generalize W.alloc _ = W1 at HB1 HQ3 hsz ⊢
      go_loopw [5, 6] (fun m i wr => ∃ (k : Nat) (q : Int), k ≤ ks.length ∧ i = .int .i64 k ∧ m = .int .i64 q ∧ 0 ≤ q ∧ q ≤ d ∧ Hid (max q.toNat (min (depL (ks.drop k)) d.toNat) = min (depL ks) d.toNat) ∧ Hid (Below W1.heap.size W1 wr)) (fun _ i _ => ks.length - (intOf i).toNat)
      case atStart => exact ⟨0, 0, Nat.zero_le _, rfl, rfl, by omega, by omega, Lib.hid (by rw [List.drop_zero]; simp), Lib.hid (Below.refl _ _)⟩
      case round =>
        obtain ⟨k, q, hk, rfl, rfl, hq0, hqd, HW, HR⟩ := hrel
        have q3 : wr.cell? ⟨W.heap.size, 3, none⟩ = some (.slice A ks.length cap) := (HR.out.cell (p := ⟨W.heap.size, 3, none⟩) hsz).trans HQ3.out
        have hrz := HR.out.size
        by_cases hlt : k < ks.length
        · by_cases hq2 : q < d
          · have hIr : In Q w wr := HI.out.on (HB1.out.trans (HR.out.mono HB1.out.size))
            obtain ⟨a, o1, n1, s1, A1, l1, k1, rfl, hd', p0, p1, p2, p3⟩ := kid_at HA.out HK.out hIr hlt
            have HC := Lib.hid (IH.out k hlt _ _ _ _ hd' (d - 1))
            have HIr := Lib.hid hIr
            clear hd' hIr
            have HN : Hid (max q.toNat (min (depL (ks.drop k)) d.toNat) = max (max q.toNat (deepN (d - 1).toNat ks[k])) (min (depL (ks.drop (k + 1))) d.toNat)) := Lib.hid (by rw [depL_drop hlt, deepN]; omega)
            obtain ⟨v, hv⟩ : ∃ v : Nat, v = deepN (d - 1).toNat ks[k] := ⟨_, rfl⟩
            have hv2 : v ≤ d.toNat := by rw [hv, deepN]; omega
            rw [← hv] at HC HN
            clear hv
            by_cases hvq : q < (v : Int)
            · go_wp2_with (go_at_call 126; refine (HC.out _ (by omega) (by omega) HIr.out).mono ?_; rintro e w2 ⟨rfl, hb2⟩)
              go_roundw
              case rel => exact ⟨k + 1, v, by omega, by go_num, rfl, by omega, by omega, Lib.hid (by rw [← HW.out, HN.out]; omega), Lib.hid (HR.out.trans (hb2.mono HR.out.size))⟩
              case measure => simp [intOf]; omega
            · go_wp2_with (go_at_call 126; refine (HC.out _ (by omega) (by omega) HIr.out).mono ?_; rintro e w2 ⟨rfl, hb2⟩)
              go_roundw
              case rel => exact ⟨k + 1, q, by omega, by go_num, rfl, by omega, by omega, Lib.hid (by rw [← HW.out, HN.out]; omega), Lib.hid (HR.out.trans (hb2.mono HR.out.size))⟩
              case measure => simp [intOf]; omega
          · have HN : Hid ((deepN d.toNat (.mk op n nm ks) : Int) = q + 1) := Lib.hid (by have := HW.out; rw [deepN, depE]; omega)
            go_wp2_with fail
            go_ret
            exact ⟨ret_int (by rw [HN.out]), HB1.out.trans (HR.out.mono HB1.out.size)⟩
        · have HN : Hid ((deepN d.toNat (.mk op n nm ks) : Int) = q + 1) := Lib.hid (by have := HW.out; rw [List.drop_of_length_le (by omega), depL] at this; rw [deepN, depE]; omega)
          go_wp2_with fail
          go_ret
          exact ⟨ret_int (by rw [HN.out]), HB1.out.trans (HR.out.mono HB1.out.size)⟩
set_option maxHeartbeats 2000000 in
theorem form_any {w : World} {Q : Nat → Prop} {e : E} {cs : List Value} (h : ExprI w Q e cs) : ∀ (c0 c1 c2 c3 : Value), cs = [c0, c1, c2, c3] → ∀ (W : World), In Q w W →
    Calls Tryz.prog 127 #[.agg #[c0, c1, c2, c3]] W (MayOk (formE e) W) := by
  induction h with
  | @mk op n nm ks A cap css hop hn hnm hcap hA hk ih =>
    intro c0 c1 c2 c3 hcs W hI
    simp only [List.cons.injEq, and_true] at hcs
    obtain ⟨rfl, rfl, rfl, rfl⟩ := hcs
    unfold i64 at hop hn
    have HA := Lib.hid hA
    have HK := Lib.hid hk
    have IH := Lib.hid ih
    have HI := Lib.hid hI
    clear hA hk ih hI
    have he := toList_emp nm
    have hbn := toList_bne nm
    cases b1 : (arN op == ((ks.length : Nat) : Int)) with
    | false =>
      have HM : Hid (formE (.mk op n nm ks) = false) := Lib.hid (form_of (b := false) (by simp at b1; simp [b1]))
      have c1 := bne_of b1
      rw [Bool.not_false] at c1
      clear he hbn
      go_enter Tryz.func127, Tryz.ntmps127
      go_wp2_with fail
      go_quiet ((go_at_call 166; exact quiet_same (Arity_any _ _)))
      go_wp2_with fail
      go_ret
      exact ⟨ret_bool HM.out.symm, below_drewN (below_box _) _⟩
    | true =>
      have c1 := bne_of b1
      rw [Bool.not_true] at c1
      cases b23 : ((op != 1) && (n != 0)) with
      | true =>
        have HM : Hid (formE (.mk op n nm ks) = false) := Lib.hid (form_of (b := false) (by simp at b23; simp [b23]))
        rw [Bool.and_eq_true] at b23
        obtain ⟨b2, b3⟩ := b23
        clear he hbn
        go_enter Tryz.func127, Tryz.ntmps127
        go_wp2_with fail
        go_quiet ((go_at_call 166; exact quiet_same (Arity_any _ _)))
        go_wp2_with fail
        go_ret
        exact ⟨ret_bool HM.out.symm, below_drewN (below_box _) _⟩
      | false =>
        have hon : op = 1 ∨ n = 0 := by simp at b23; omega
        cases b4 : decide (n < 0) with
        | true =>
          have HM : Hid (formE (.mk op n nm ks) = false) := Lib.hid (form_of (b := false) (by
            have : ¬ 0 ≤ n := by simpa using b4
            simp [this]))
          cases b2 : (op != 1) with
          | true =>
            have b3 : (n != 0) = false := by rw [b2] at b23; simpa using b23
            clear he hbn b23 hon
            go_enter Tryz.func127, Tryz.ntmps127
            go_wp2_with fail
            go_quiet ((go_at_call 166; exact quiet_same (Arity_any _ _)))
            go_wp2_with fail
            go_ret
            exact ⟨ret_bool HM.out.symm, below_drewN (below_box _) _⟩
          | false =>
            clear he hbn b23 hon
            go_enter Tryz.func127, Tryz.ntmps127
            go_wp2_with fail
            go_quiet ((go_at_call 166; exact quiet_same (Arity_any _ _)))
            go_wp2_with fail
            go_ret
            exact ⟨ret_bool HM.out.symm, below_drewN (below_box _) _⟩
        | false =>
          have hn0 : 0 ≤ n := by simpa using b4
          have hn1 : decide (0 ≤ n) = true := by simpa using hn0
          cases b6 : decide (nm.size = 0) with
          | true =>
            rw [b6] at he hbn
            rw [Bool.not_true] at hbn
            cases b5 : (op == 2) with
            | true =>
              have HM : Hid (formE (.mk op n nm ks) = false) := Lib.hid (form_of (b := false) (by simp at b5 b6; simp [b5, b6]))
              have b2 : (op != 1) = true := by simp at b5; subst b5; rfl
              have b3 : (n != 0) = false := by rw [b2] at b23; simpa using b23
              clear b23 hon b6
              go_enter Tryz.func127, Tryz.ntmps127
              go_wp2_with fail
              go_quiet ((go_at_call 166; exact quiet_same (Arity_any _ _)))
              go_wp2_with fail
              go_ret
              exact ⟨ret_bool HM.out.symm, below_drewN (below_box _) _⟩
            | false =>
              have HM : Hid (formE (.mk op n nm ks) = formL ks) := Lib.hid (by rw [form_of (b := true) (by simp at b5 b6 b1; simp [b5, b6, b1, hon, hn0])]; rfl)
              cases b2 : (op != 1) with
              | true =>
                have b3 : (n != 0) = false := by rw [b2] at b23; simpa using b23
                clear b23 hon b6
                go_enter Tryz.func127, Tryz.ntmps127
                go_wp2_with fail
                go_quiet ((go_at_call 166; exact quiet_same (Arity_any _ _)))
                have HB1 : Hid (Below W.heap.size W ((W.alloc (.cells #[.int .i64 op, .int .i64 n, .string nm, .slice A ks.length cap] 46)).drewN nq)) := Lib.hid (below_drewN (below_box _) _)
                have HQ3 : Hid (((W.alloc (.cells #[.int .i64 op, .int .i64 n, .string nm, .slice A ks.length cap] 46)).drewN nq).cell? ⟨W.heap.size, 3, none⟩ = some (.slice A ks.length cap)) := Lib.hid (by simp)
                have hsz : W.heap.size < ((W.alloc (.cells #[.int .i64 op, .int .i64 n, .string nm, .slice A ks.length cap] 46)).drewN nq).heap.size := by simp
                generalize World.drewN _ nq = W1 at HB1 HQ3 hsz ⊢
                have q3' := HQ3.out
                go_wp2_with fail
                clear q3'
                go_loopw [49] (fun i wr => ∃ k : Nat, k ≤ ks.length ∧ i = .int .i64 k ∧ Hid (formL (ks.drop k) = formL ks) ∧ Hid (Below W1.heap.size W1 wr)) (fun i _ => ks.length - (intOf i).toNat)
                case atStart => exact ⟨0, Nat.zero_le _, rfl, Lib.hid (by rw [List.drop_zero]), Lib.hid (Below.refl _ _)⟩
                case round =>
                  obtain ⟨k, hk, rfl, HW, HR⟩ := hrel
                  have q3 : wr.cell? ⟨W.heap.size, 3, none⟩ = some (.slice A ks.length cap) := (HR.out.cell (p := ⟨W.heap.size, 3, none⟩) hsz).trans HQ3.out
                  have hrz := HR.out.size
                  by_cases hlt : k < ks.length
                  · have hIr : In Q w wr := HI.out.on (HB1.out.trans (HR.out.mono HB1.out.size))
                    obtain ⟨a, o1, n1, s1, A1, l1, k1, rfl, hd', p0, p1, p2, p3⟩ := kid_at HA.out HK.out hIr hlt
                    have HC := Lib.hid (IH.out k hlt _ _ _ _ hd')
                    have HIr := Lib.hid hIr
                    clear hd' hIr
                    have HN : Hid (formL ks = (formE ks[k] && formL (ks.drop (k + 1)))) := Lib.hid (by rw [← formL_drop hlt, HW.out])
                    cases hv : formE ks[k] with
                    | true =>
                      rw [hv] at HC HN
                      clear hv
                      go_wp2_with (go_at_call 127; refine (HC.out _ HIr.out).mono ?_; rintro e w2 ⟨rfl, hb2⟩)
                      go_roundw
                      case rel => exact ⟨k + 1, by omega, by go_num, Lib.hid (by rw [HN.out, Bool.true_and]), Lib.hid (HR.out.trans (hb2.mono HR.out.size))⟩
                      case measure => simp [intOf]; omega
                    | false =>
                      rw [hv] at HC HN
                      clear hv
                      go_wp2_with (go_at_call 127; refine (HC.out _ HIr.out).mono ?_; rintro e w2 ⟨rfl, hb2⟩)
                      go_ret
                      exact ⟨ret_bool (by rw [HM.out, HN.out]; rfl), HB1.out.trans ((HR.out.trans (hb2.mono HR.out.size)).mono HB1.out.size)⟩
                  · have HN : Hid (formL ks = true) := Lib.hid (by
                      have h1 := HW.out
                      rw [List.drop_of_length_le (by omega), formL] at h1
                      exact h1.symm)
                    go_wp2_with fail
                    go_ret
                    exact ⟨ret_bool (by rw [HM.out, HN.out]), HB1.out.trans (HR.out.mono HB1.out.size)⟩
              | false =>
                clear b23 hon b6
                go_enter Tryz.func127, Tryz.ntmps127
                go_wp2_with fail
                go_quiet ((go_at_call 166; exact quiet_same (Arity_any _ _)))
                have HB1 : Hid (Below W.heap.size W ((W.alloc (.cells #[.int .i64 op, .int .i64 n, .string nm, .slice A ks.length cap] 46)).drewN nq)) := Lib.hid (below_drewN (below_box _) _)
                have HQ3 : Hid (((W.alloc (.cells #[.int .i64 op, .int .i64 n, .string nm, .slice A ks.length cap] 46)).drewN nq).cell? ⟨W.heap.size, 3, none⟩ = some (.slice A ks.length cap)) := Lib.hid (by simp)
                have hsz : W.heap.size < ((W.alloc (.cells #[.int .i64 op, .int .i64 n, .string nm, .slice A ks.length cap] 46)).drewN nq).heap.size := by simp
                generalize World.drewN _ nq = W1 at HB1 HQ3 hsz ⊢
                have q3' := HQ3.out
                go_wp2_with fail
                clear q3'
                go_loopw [49] (fun i wr => ∃ k : Nat, k ≤ ks.length ∧ i = .int .i64 k ∧ Hid (formL (ks.drop k) = formL ks) ∧ Hid (Below W1.heap.size W1 wr)) (fun i _ => ks.length - (intOf i).toNat)
                case atStart => exact ⟨0, Nat.zero_le _, rfl, Lib.hid (by rw [List.drop_zero]), Lib.hid (Below.refl _ _)⟩
                case round =>
                  obtain ⟨k, hk, rfl, HW, HR⟩ := hrel
                  have q3 : wr.cell? ⟨W.heap.size, 3, none⟩ = some (.slice A ks.length cap) := (HR.out.cell (p := ⟨W.heap.size, 3, none⟩) hsz).trans HQ3.out
                  have hrz := HR.out.size
                  by_cases hlt : k < ks.length
                  · have hIr : In Q w wr := HI.out.on (HB1.out.trans (HR.out.mono HB1.out.size))
                    obtain ⟨a, o1, n1, s1, A1, l1, k1, rfl, hd', p0, p1, p2, p3⟩ := kid_at HA.out HK.out hIr hlt
                    have HC := Lib.hid (IH.out k hlt _ _ _ _ hd')
                    have HIr := Lib.hid hIr
                    clear hd' hIr
                    have HN : Hid (formL ks = (formE ks[k] && formL (ks.drop (k + 1)))) := Lib.hid (by rw [← formL_drop hlt, HW.out])
                    cases hv : formE ks[k] with
                    | true =>
                      rw [hv] at HC HN
                      clear hv
                      go_wp2_with (go_at_call 127; refine (HC.out _ HIr.out).mono ?_; rintro e w2 ⟨rfl, hb2⟩)
                      go_roundw
                      case rel => exact ⟨k + 1, by omega, by go_num, Lib.hid (by rw [HN.out, Bool.true_and]), Lib.hid (HR.out.trans (hb2.mono HR.out.size))⟩
                      case measure => simp [intOf]; omega
                    | false =>
                      rw [hv] at HC HN
                      clear hv
                      go_wp2_with (go_at_call 127; refine (HC.out _ HIr.out).mono ?_; rintro e w2 ⟨rfl, hb2⟩)
                      go_ret
                      exact ⟨ret_bool (by rw [HM.out, HN.out]; rfl), HB1.out.trans ((HR.out.trans (hb2.mono HR.out.size)).mono HB1.out.size)⟩
                  · have HN : Hid (formL ks = true) := Lib.hid (by
                      have h1 := HW.out
                      rw [List.drop_of_length_le (by omega), formL] at h1
                      exact h1.symm)
                    go_wp2_with fail
                    go_ret
                    exact ⟨ret_bool (by rw [HM.out, HN.out]), HB1.out.trans (HR.out.mono HB1.out.size)⟩
          | false =>
            rw [b6] at he hbn
            rw [Bool.not_false] at hbn
            cases b5 : (op == 2) with
            | false =>
              have HM : Hid (formE (.mk op n nm ks) = false) := Lib.hid (form_of (b := false) (by simp at b5 b6; simp [b5, b6]))
              cases b2 : (op != 1) with
              | true =>
                have b3 : (n != 0) = false := by rw [b2] at b23; simpa using b23
                clear b23 hon b6
                go_enter Tryz.func127, Tryz.ntmps127
                go_wp2_with fail
                go_quiet ((go_at_call 166; exact quiet_same (Arity_any _ _)))
                go_wp2_with fail
                go_ret
                exact ⟨ret_bool HM.out.symm, below_drewN (below_box _) _⟩
              | false =>
                clear b23 hon b6
                go_enter Tryz.func127, Tryz.ntmps127
                go_wp2_with fail
                go_quiet ((go_at_call 166; exact quiet_same (Arity_any _ _)))
                go_wp2_with fail
                go_ret
                exact ⟨ret_bool HM.out.symm, below_drewN (below_box _) _⟩
            | true =>
              have b2 : (op != 1) = true := by simp at b5; subst b5; rfl
              have b3 : (n != 0) = false := by rw [b2] at b23; simpa using b23
              have hl0 : ks.length = 0 := by
                have h1 : arN op = (ks.length : Int) := by simpa using b1
                have h2 : op = 2 := by simpa using b5
                rw [h2] at h1
                have h3 : arN 2 = 0 := rfl
                omega
              have hl1 : ks.length ≤ 0 := by omega
              clear hl0
              have HM : Hid (formE (.mk op n nm ks) = (isNm (bl nm) && formL ks)) := Lib.hid (form_of (b := isNm (bl nm)) (by
                rw [decide_eq_true (by simpa using b1), decide_eq_true hon, decide_eq_true hn0, b6, decide_eq_true (by simpa using b5)]; simp))
              clear b23 hon b6
              go_enter Tryz.func127, Tryz.ntmps127
              go_wp2_with fail
              go_region_held3 (fun w' => w'.cell? ⟨W.heap.size, 0, none⟩ = some (.int .i64 op) ∧ w'.cell? ⟨W.heap.size, 1, none⟩ = some (.int .i64 n) ∧ w'.cell? ⟨W.heap.size, 2, none⟩ = some (.string nm) ∧ w'.cell? ⟨W.heap.size, 3, none⟩ = some (.slice A ks.length cap))
                (go_keep)
                (first
                  | ((go_at_call 166; refine (Arity_any _ _).mono ?_; rintro e w' ⟨rfl, rfl⟩))
                  | ((go_at_call 114; refine (rName_any _ _ (by unfold maxLen; omega)).mono ?_; rintro e w2 ⟨rfl, hb2⟩; have hc2 := (bcell hb2).1)))
              have HB1 : Hid (Below W.heap.size W w2) := Lib.hid ((below_drewN (below_box _) 1).trans (hb2.mono (by simp)))
              have HQ3 : Hid (w2.cell? ⟨W.heap.size, 3, none⟩ = some (.slice A ks.length cap)) := Lib.hid (by rename_i hh; exact hh.2.2.2)
              have hsz : W.heap.size < w2.heap.size := World.block_lt_of_cell? w2 _ HQ3.out
              clear hb2 hc2
              generalize w2 = W1 at *
              cases hv : isNm (bl nm) with
              | false =>
                go_wp2_with fail
                go_ret
                exact ⟨ret_bool (by rw [HM.out, hv]; rfl), HB1.out⟩
              | true =>
                rw [hv, Bool.true_and] at HM
                go_wp2_with fail
                go_loopw [49] (fun i wr => ∃ k : Nat, k ≤ ks.length ∧ i = .int .i64 k ∧ Hid (formL (ks.drop k) = formL ks) ∧ Hid (Below W1.heap.size W1 wr)) (fun i _ => ks.length - (intOf i).toNat)
                case atStart => exact ⟨0, Nat.zero_le _, rfl, Lib.hid (by rw [List.drop_zero]), Lib.hid (Below.refl _ _)⟩
                case round =>
                  obtain ⟨k, hk, rfl, HW, HR⟩ := hrel
                  have q3 : wr.cell? ⟨W.heap.size, 3, none⟩ = some (.slice A ks.length cap) := (HR.out.cell (p := ⟨W.heap.size, 3, none⟩) hsz).trans HQ3.out
                  have hrz := HR.out.size
                  have hlt : ¬ k < ks.length := by omega
                  have HN : Hid (formL ks = true) := Lib.hid (by
                    have h1 := HW.out
                    rw [List.drop_of_length_le (by omega), formL] at h1
                    exact h1.symm)
                  go_wp2_with fail
                  go_ret
                  exact ⟨ret_bool (by rw [HM.out, HN.out]), HB1.out.trans (HR.out.mono HB1.out.size)⟩
theorem rMayExpr_any {w : World} {Q : Nat → Prop} {e : E} {c0 c1 c2 c3 : Value} (h : ExprI w Q e [c0, c1, c2, c3]) (W : World) (hI : In Q w W) :
    Calls Tryz.prog 100 #[.agg #[c0, c1, c2, c3]] W (MayOk (mayE 20 e) W) := by
  have HC := Lib.hid (deep_any h c0 c1 c2 c3 rfl 20)
  have HF := Lib.hid (form_any h c0 c1 c2 c3 rfl)
  have HI := Lib.hid hI
  have HM := Lib.hid (mayE_eq e 20)
  obtain ⟨d0, d1, d2, d3, l3, k3, hd'⟩ := h.form
  simp only [List.cons.injEq, and_true] at hd'
  obtain ⟨rfl, rfl, rfl, rfl⟩ := hd'
  clear h hI
  have hdd : deepN (20 : Int).toNat e = min (depE e) 21 := rfl
  rw [hdd] at HC
  by_cases hd : depE e ≤ 20
  · rw [decide_eq_true hd, Bool.true_and] at HM
    rw [Nat.min_eq_left (by omega)] at HC
    generalize depE e = dd at *
    clear hdd
    go_enter Tryz.func100, Tryz.ntmps100
    go_wp2_with (first
      | (go_at_call 126; refine (HC.out _ (by omega) (by omega) (HI.out.alloc _)).mono ?_; rintro e' w2 ⟨rfl, hb2⟩; have hc2 := (bcell hb2).1)
      | (go_at_call 127; refine (HF.out _ ((HI.out.alloc _).on hb2)).mono ?_; rintro e' w3 ⟨rfl, hb3⟩))
    go_ret
    exact ⟨ret_bool HM.out.symm, below_new (hb2.trans (hb3.mono hb2.size))⟩
  · rw [decide_eq_false hd, Bool.false_and] at HM
    rw [Nat.min_eq_right (by omega)] at HC
    clear hdd hd
    go_enter Tryz.func100, Tryz.ntmps100
    go_wp2_with (first
      | (go_at_call 126; refine (HC.out _ (by omega) (by omega) (HI.out.alloc _)).mono ?_; rintro e' w2 ⟨rfl, hb2⟩; have hc2 := (bcell hb2).1))
    go_ret
    exact ⟨ret_bool HM.out.symm, below_new hb2⟩
end Go.Proofs.YtimejkbmfbjomaaGreat
namespace Go.Proofs.YtimejkbmfbjomaaGreat
open Go.ChangeShapes Go.WideShapes Go.ChangeAt Go.RowKit Go.Deep
set_option linter.unusedVariables false
theorem spoken_any (l : List ByteArray) (s : ByteArray) (v : Value) (base : Nat) (w : World) (hl : ∀ t ∈ l, small t) (hs : small s) (hown : w.ownsRow base 9 1 v l.length (strs l)) (hbase : base ≤ w.heap.size) (hlen : l.length ≤ 1073741824) :
    Calls Tryz.prog 128 #[v, .string s] w (RowOk base v (spoke l s) w) := by
  obtain ⟨i0, hi0, hz0, hz1, hz2⟩ := info_parts string_info
  obtain ⟨A, cap, rfl, hc1, hc2⟩ := own_shape hown
  have HT := Lib.hid (texts_of_own hl hown).2
  have HI : Hid (In (fun b => base ≤ b ∧ b < w.heap.size) w w) := Lib.hid ⟨fun b h => h.2, fun _ _ => rfl⟩
  have HO := Lib.hid hown
  have HL := Lib.hid hl
  clear hown hl
  go_enter Tryz.func128, Tryz.ntmps128
  go_wp2_with fail
  go_loop [9] (fun i => ∃ k : Nat, k ≤ l.length ∧ i = .int .i64 k ∧ Hid (s ∉ l.take k)) (fun i => l.length - (intOf i).toNat)
  case atStart => exact ⟨0, Nat.zero_le _, rfl, Lib.hid (by simp)⟩
  case round =>
    obtain ⟨k, hk, rfl, HN⟩ := hrel
    by_cases hlt : k < l.length
    · obtain ⟨a, rfl, _, p1, _⟩ := text_at HT.out HI.out hlt
      cases hv : (l[k].toList == s.toList) with
      | true =>
        have HM : Hid (spoke l s = l) := Lib.hid (by
          rw [dec_bytes] at hv
          have : l[k] = s := by simpa using hv
          unfold spoke
          rw [if_pos (hasB_iff.2 (this ▸ List.getElem_mem hlt))])
        obtain ⟨x1, hx1⟩ : ∃ x, x = l[k] := ⟨_, rfl⟩
        rw [← hx1] at p1 hv
        clear hx1
        go_wp2_with fail
        go_ret
        exact ⟨_, rfl, by rw [HM.out]; exact HO.out, World.grownBy.refl _ _, fun j hj => .inr hj⟩
      | false =>
        have HM : Hid (s ∉ l.take (k + 1)) := Lib.hid (by
          rw [dec_bytes] at hv
          have : l[k] ≠ s := by simpa using hv
          rw [List.take_succ_eq_append_getElem hlt]
          intro h
          rcases List.mem_append.1 h with h | h
          · exact HN.out h
          · simp at h; exact this h.symm)
        obtain ⟨x1, hx1⟩ : ∃ x, x = l[k] := ⟨_, rfl⟩
        rw [← hx1] at p1 hv
        clear hx1
        go_wp2_with fail
        go_round
        case rel => exact ⟨k + 1, by omega, by go_num, HM⟩
        case measure => simp [intOf]; omega
    · have HM : Hid (spoke l s = l ++ [s]) := Lib.hid (by
        have := HN.out
        rw [List.take_of_length_le (by omega)] at this
        unfold spoke
        rw [if_neg (fun h => this (hasB_iff.1 h))])
      have hnew : ∀ j u, [Value.string s][j]? = some u → (w.alloc (.cells #[.string s] 9)).cell? ((⟨w.heap.size, 0, none⟩ : Addr).add j) = some u := by
        intro j u hu
        have hj : j = 0 := by have := (List.getElem?_eq_some_iff.1 hu).1; simp at this; exact this
        subst hj
        simp at hu
        subst hu
        simp [Addr.add]
      have HW := Lib.hid hnew
      clear hnew
      go_wp2_with (at_builtin; refine wpList_append_own_at _ rfl (.tmp 18) (.tmp 20) 22 rfl base 9 i0 _ 1 16 Tryz.underlying22 hi0 hz0 hz1 hz2 rfl (by decide) _ l.length (strs l) rfl (HO.out.alloc _) ⟨w.heap.size, 0, none⟩ 1 1 [.string s] rfl rfl HW.out (by simp [Value.oneCell']) (by unfold maxLen; omega) (by omega) (by simp; omega) ?_)
      intro v' w1 hown1 hg1 _ hat
      go_wp2_with fail
      go_ret
      refine ⟨v', rfl, ?_, (World.grownBy_alloc w _ _).andThen hg1 (fun j hj => .inr hj), fun j hj => ?_⟩
      · rw [HM.out, strs_append, List.length_append]
        exact hown1
      · rcases hat with h | h
        · exact .inr (h.symm.trans hj)
        · rw [h] at hj; injection hj with hj; left; rw [← hj]; simp
set_option maxHeartbeats 1000000 in
theorem walk_any {w : World} {Q : Nat → Prop} {e : E} {cs : List Value} (h : ExprI w Q e cs) : ∀ (c0 c1 c2 c3 : Value), cs = [c0, c1, c2, c3] → ∀ (l : List ByteArray) (v : Value) (base : Nat) (W : World), (∀ t ∈ l, small t) →
    W.ownsRow base 9 1 v l.length (strs l) → base ≤ W.heap.size → (∀ b, Q b → b < base) → l.length + sizE e ≤ 1073741824 → In Q w W →
    Calls Tryz.prog 101 #[.agg #[c0, c1, c2, c3], v] W (RowOk base v (walkE e l) W) := by
  induction h with
  | @mk op n nm ks A cap css hop hn hnm hcap hA hk ih =>
    intro c0 c1 c2 c3 hcs l v base W hl hown hbase hQ hlen hI
    simp only [List.cons.injEq, and_true] at hcs
    obtain ⟨rfl, rfl, rfl, rfl⟩ := hcs
    unfold i64 at hop hn
    rw [sizE] at hlen
    obtain ⟨A0, cap0, rfl, hcc1, hcc2⟩ := own_shape hown
    have HA := Lib.hid hA
    have HK := Lib.hid hk
    have IH := Lib.hid ih
    have HI := Lib.hid hI
    have HO := Lib.hid hown
    have HS0 := Lib.hid hl
    have HQ := Lib.hid hQ
    clear hA hk ih hI hown hl hQ
    have HB1 : Hid (Below W.heap.size W (W.alloc (.cells #[.int .i64 op, .int .i64 n, .string nm, .slice A ks.length cap] 46))) := Lib.hid (below_box _)
    have HO1 : Hid ((W.alloc (.cells #[.int .i64 op, .int .i64 n, .string nm, .slice A ks.length cap] 46)).ownsRow base 9 1 (.slice A0 l.length cap0) l.length (strs l)) := Lib.hid (HO.out.alloc _)
    have HQ3 : Hid ((W.alloc (.cells #[.int .i64 op, .int .i64 n, .string nm, .slice A ks.length cap] 46)).cell? ⟨W.heap.size, 3, none⟩ = some (.slice A ks.length cap)) := Lib.hid (by simp)
    have hsz : W.heap.size < (W.alloc (.cells #[.int .i64 op, .int .i64 n, .string nm, .slice A ks.length cap] 46)).heap.size := by simp
    have HNE : Hid (some W.heap.size ≠ Value.ownBlock (.slice A0 l.length cap0)) := Lib.hid (fun e => by have := (HO.out.lt _ e.symm).2; omega)
    have HGW : Hid (W.grownBy (W.alloc (.cells #[.int .i64 op, .int .i64 n, .string nm, .slice A ks.length cap] 46)) (Value.ownBlock (.slice A0 l.length cap0))) := Lib.hid (World.grownBy_alloc W _ _)
    by_cases h2 : op = 2
    · have q2 : (op == 2) = true := by simp [h2]
      have HW0 : Hid (walkE (.mk op n nm ks) l = walkL ks (spoke l nm)) := Lib.hid (by rw [walkE, if_pos h2])
      clear h2
      have hsl := spoke_len l nm
      have HSp := Lib.hid (spoke_all HS0.out (p := small) hnm)
      go_enter Tryz.func101, Tryz.ntmps101
      go_wp2_with (go_at_call 128; refine (spoken_any l nm (.slice A0 l.length cap0) base _ HS0.out hnm HO1.out (by simp; omega) (by omega)).mono ?_; rintro e w1 ⟨x1, rfl, ho1, hg1, hj1⟩; obtain ⟨X1, cx1, rfl, _, _⟩ := own_shape ho1; have HO3 := Lib.hid ho1; have HG1 := Lib.hid hg1; have HJ1 := Lib.hid hj1; have hc1 : w1.cell? ⟨W.heap.size, 3, none⟩ = some (.slice A ks.length cap) := (hg1.cell_far ⟨W.heap.size, 3, none⟩ hsz HNE.out).trans HQ3.out; clear ho1 hg1 hj1)
      clear hc1
      generalize W.alloc _ = Wb at *
      go_loopw [1, 16] (fun u i wr => ∃ (k : Nat) (l' : List ByteArray) (X : Option Addr) (cx : Nat), k ≤ ks.length ∧ u = .slice X l'.length cx ∧ i = .int .i64 k ∧ l'.length + sizL (ks.drop k) ≤ 1073741824 ∧ Hid (walkL (ks.drop k) l' = walkE (.mk op n nm ks) l) ∧ Hid (∀ t ∈ l', small t) ∧
          Hid (wr.ownsRow base 9 1 (.slice X l'.length cx) l'.length (strs l')) ∧ Hid (Wb.grownBy wr (Value.ownBlock (.slice A0 l.length cap0))) ∧ Hid (∀ j, Value.ownBlock (.slice X l'.length cx) = some j → Wb.heap.size ≤ j ∨ Value.ownBlock (.slice A0 l.length cap0) = some j)) (fun _ i _ => ks.length - (intOf i).toNat)
      case atStart => exact ⟨0, spoke l nm, X1, cx1, Nat.zero_le _, rfl, rfl, by rw [List.drop_zero]; omega, Lib.hid (by rw [List.drop_zero, HW0.out]), HSp, HO3, HG1, HJ1⟩
      case round =>
        obtain ⟨k, l', X, cx, hk, rfl, rfl, hsz2, HW, HS, HO2, HG, HJ⟩ := hrel
        have q3 : wr.cell? ⟨W.heap.size, 3, none⟩ = some (.slice A ks.length cap) := (HG.out.cell_far ⟨W.heap.size, 3, none⟩ hsz HNE.out).trans HQ3.out
        have hrz := HG.out.size
        have hrz2 : W.heap.size < wr.heap.size := by omega
        by_cases hlt : k < ks.length
        · have hIr : In Q w wr := (HI.out.on HB1.out).grown HG.out (fun j hj hq => absurd (HQ.out j hq) (by have := (HO.out.lt j hj).1; omega))
          obtain ⟨a, o1, n1, s1, A1, l1, k1, rfl, hd', p0, p1, p2, p3⟩ := kid_at HA.out HK.out hIr hlt
          have hd2 := sizL_drop hlt
          have hsz3 : l'.length + sizE ks[k] ≤ 1073741824 := by omega
          have hlen2 : (walkE ks[k] l').length + sizL (ks.drop (k + 1)) ≤ 1073741824 := by have := walkE_len ks[k] l'; omega
          have HC := Lib.hid (IH.out k hlt _ _ _ _ hd' l' (.slice X l'.length cx) base wr HS.out HO2.out (by have := HB1.out.size; omega) HQ.out hsz3 hIr)
          have HN : Hid (walkL (ks.drop (k + 1)) (walkE ks[k] l') = walkE (.mk op n nm ks) l) := Lib.hid (by rw [← walkL_drop hlt]; exact HW.out)
          have HS2 : Hid (∀ t ∈ walkE ks[k] l', small t) := Lib.hid (walkE_all (HK.out k hlt) HS.out)
          obtain ⟨l2, hl2⟩ : ∃ l2, l2 = walkE ks[k] l' := ⟨_, rfl⟩
          rw [← hl2] at HC HN HS2 hlen2
          clear hd' hIr hd2 hsz3 hl2
          go_wp2_with (go_at_call 101; refine HC.out.mono ?_; rintro e w2 ⟨x2, rfl, ho2, hg2, hj2⟩; obtain ⟨X2, cx2, rfl, _, _⟩ := own_shape ho2)
          go_roundw
          case rel => exact ⟨k + 1, l2, X2, cx2, by omega, rfl, by go_num, hlen2, HN, HS2, Lib.hid ho2, Lib.hid (HG.out.andThen hg2 HJ.out), Lib.hid (lies_then HG.out HJ.out hj2)⟩
          case measure => simp [intOf]; omega
        · have HN : Hid (walkE (.mk op n nm ks) l = l') := Lib.hid (by
            have h1 := HW.out
            rw [List.drop_of_length_le (by omega), walkL] at h1
            exact h1.symm)
          go_wp2_with fail
          go_ret
          exact ⟨.slice X l'.length cx, rfl, by rw [HN.out]; exact HO2.out, HGW.out.andThen HG.out (fun j hj => .inr hj), fun j hj => (HJ.out j hj).imp (fun h => by omega) id⟩
    · have q2 : (op == 2) = false := beq_eq_false_iff_ne.2 h2
      have HW0 : Hid (walkE (.mk op n nm ks) l = walkL ks l) := Lib.hid (by rw [walkE, if_neg h2])
      clear h2
      go_enter Tryz.func101, Tryz.ntmps101
      go_wp2_with fail
      generalize W.alloc _ = Wb at *
      go_loopw [1, 16] (fun u i wr => ∃ (k : Nat) (l' : List ByteArray) (X : Option Addr) (cx : Nat), k ≤ ks.length ∧ u = .slice X l'.length cx ∧ i = .int .i64 k ∧ l'.length + sizL (ks.drop k) ≤ 1073741824 ∧ Hid (walkL (ks.drop k) l' = walkE (.mk op n nm ks) l) ∧ Hid (∀ t ∈ l', small t) ∧
          Hid (wr.ownsRow base 9 1 (.slice X l'.length cx) l'.length (strs l')) ∧ Hid (Wb.grownBy wr (Value.ownBlock (.slice A0 l.length cap0))) ∧ Hid (∀ j, Value.ownBlock (.slice X l'.length cx) = some j → Wb.heap.size ≤ j ∨ Value.ownBlock (.slice A0 l.length cap0) = some j)) (fun _ i _ => ks.length - (intOf i).toNat)
      case atStart => exact ⟨0, l, A0, cap0, Nat.zero_le _, rfl, rfl, by rw [List.drop_zero]; omega, Lib.hid (by rw [List.drop_zero, HW0.out]), HS0, HO1, Lib.hid (World.grownBy.refl _ _), Lib.hid (fun j hj => .inr hj)⟩
      case round =>
        obtain ⟨k, l', X, cx, hk, rfl, rfl, hsz2, HW, HS, HO2, HG, HJ⟩ := hrel
        have q3 : wr.cell? ⟨W.heap.size, 3, none⟩ = some (.slice A ks.length cap) := (HG.out.cell_far ⟨W.heap.size, 3, none⟩ hsz HNE.out).trans HQ3.out
        have hrz := HG.out.size
        have hrz2 : W.heap.size < wr.heap.size := by omega
        by_cases hlt : k < ks.length
        · have hIr : In Q w wr := (HI.out.on HB1.out).grown HG.out (fun j hj hq => absurd (HQ.out j hq) (by have := (HO.out.lt j hj).1; omega))
          obtain ⟨a, o1, n1, s1, A1, l1, k1, rfl, hd', p0, p1, p2, p3⟩ := kid_at HA.out HK.out hIr hlt
          have hd2 := sizL_drop hlt
          have hsz3 : l'.length + sizE ks[k] ≤ 1073741824 := by omega
          have hlen2 : (walkE ks[k] l').length + sizL (ks.drop (k + 1)) ≤ 1073741824 := by have := walkE_len ks[k] l'; omega
          have HC := Lib.hid (IH.out k hlt _ _ _ _ hd' l' (.slice X l'.length cx) base wr HS.out HO2.out (by have := HB1.out.size; omega) HQ.out hsz3 hIr)
          have HN : Hid (walkL (ks.drop (k + 1)) (walkE ks[k] l') = walkE (.mk op n nm ks) l) := Lib.hid (by rw [← walkL_drop hlt]; exact HW.out)
          have HS2 : Hid (∀ t ∈ walkE ks[k] l', small t) := Lib.hid (walkE_all (HK.out k hlt) HS.out)
          obtain ⟨l2, hl2⟩ : ∃ l2, l2 = walkE ks[k] l' := ⟨_, rfl⟩
          rw [← hl2] at HC HN HS2 hlen2
          clear hd' hIr hd2 hsz3 hl2
          go_wp2_with (go_at_call 101; refine HC.out.mono ?_; rintro e w2 ⟨x2, rfl, ho2, hg2, hj2⟩; obtain ⟨X2, cx2, rfl, _, _⟩ := own_shape ho2)
          go_roundw
          case rel => exact ⟨k + 1, l2, X2, cx2, by omega, rfl, by go_num, hlen2, HN, HS2, Lib.hid ho2, Lib.hid (HG.out.andThen hg2 HJ.out), Lib.hid (lies_then HG.out HJ.out hj2)⟩
          case measure => simp [intOf]; omega
        · have HN : Hid (walkE (.mk op n nm ks) l = l') := Lib.hid (by
            have h1 := HW.out
            rw [List.drop_of_length_le (by omega), walkL] at h1
            exact h1.symm)
          go_wp2_with fail
          go_ret
          exact ⟨.slice X l'.length cx, rfl, by rw [HN.out]; exact HO2.out, HGW.out.andThen HG.out (fun j hj => .inr hj), fun j hj => (HJ.out j hj).imp (fun h => by omega) id⟩
theorem rNames_any {w : World} {Q : Nat → Prop} {e : E} {c0 c1 c2 c3 : Value} (h : ExprI w Q e [c0, c1, c2, c3]) (W : World) (hI : In Q w W) :
    Calls Tryz.prog 59 #[.agg #[c0, c1, c2, c3]] W (NewRow (namesE e) W) := by
  have HM := Lib.hid (fun W h1 => rMayExpr_any h W h1)
  have HF := Lib.hid (walk_any h c0 c1 c2 c3 rfl [] (.slice none 0 0))
  have HI := Lib.hid hI
  unfold namesE
  have hz := mayE_siz e 20
  obtain ⟨d0, d1, d2, d3, l3, k3, hd'⟩ := h.form
  simp only [List.cons.injEq, and_true] at hd'
  obtain ⟨rfl, rfl, rfl, rfl⟩ := hd'
  clear h hI
  cases hm : mayE 20 e with
  | false =>
    rw [hm] at HM
    clear hm hz
    go_enter Tryz.func59, Tryz.ntmps59
    go_wp2_with (go_at_call 100; refine (HM.out _ (HI.out.alloc _)).mono ?_; rintro e' w2 ⟨rfl, hb2⟩)
    go_ret
    exact ⟨.slice none 0 0, rfl, World.ownsRow_nil _ _ _ _, below_new hb2⟩
  | true =>
    have hz2 := hz hm
    rw [hm] at HM
    clear hm hz
    go_enter Tryz.func59, Tryz.ntmps59
    go_wp2_with (first
      | (go_at_call 100; refine (HM.out _ (HI.out.alloc _)).mono ?_; rintro e' w2 ⟨rfl, hb2⟩; have hc2 := (bcell hb2).1; have hz3 := hb2.size; rw [World.size_alloc] at hz3)
      | (go_at_call 101; refine (HF.out w2.heap.size _ (by simp) (World.ownsRow_nil _ _ _ _) (Nat.le_refl _) (fun b hb => ((HI.out.alloc _).on hb2).1 b hb) (by simp; omega) ((HI.out.alloc _).on hb2)).mono ?_; rintro e' w3 ⟨v, rfl, ho, hg, hj⟩))
    go_ret
    have hb3 : Below w2.heap.size w2 w3 := (Below.refl _ _).grown hg (Nat.le_refl _) (by simp [Value.ownBlock])
    exact ⟨v, rfl, own_lower ho (by have := (below_new hb2).size; omega), (below_new hb2).trans (hb3.mono (below_new hb2).size)⟩
end Go.Proofs.YtimejkbmfbjomaaGreat
