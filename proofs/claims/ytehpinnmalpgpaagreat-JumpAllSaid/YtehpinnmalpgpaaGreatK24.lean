/- Texts, merged by a program; only what is used. -/
import Derived.Deep.RegionHeld3
import Derived.Test.YtehpinnmalpgpaaGreatK1
import Derived.Test.YtehpinnmalpgpaaGreatK2
import Derived.Test.YtehpinnmalpgpaaGreatK3
import Derived.Test.YtehpinnmalpgpaaGreatK4
import Derived.Test.YtehpinnmalpgpaaGreatK5
import Derived.Test.YtehpinnmalpgpaaGreatK6
import Derived.Test.YtehpinnmalpgpaaGreatK8
import Derived.Test.YtehpinnmalpgpaaGreatK9
import Derived.Test.YtehpinnmalpgpaaGreatK10
import Derived.Test.YtehpinnmalpgpaaGreatK23
namespace Go.Proofs.YtehpinnmalpgpaaGreat
open Go.ChangeShapes Go.WideShapes Go.ChangeAt Go.RowKit Go.Deep
set_option linter.unusedVariables false
theorem Arity_any (op : Int) (w : World) : Calls Tryz.prog 157 #[.int .i64 op] w fun e w' => e = .returned (.int .i64 (arN op)) ∧ w = w' := by
  unfold arN opN
  by_cases h1 : op = 1
  · subst h1
    go_enter Tryz.func157, Tryz.ntmps157
    go_wp2
    go_ret
    exact ⟨rfl, rfl⟩
  · by_cases h2 : op = 2
    · subst h2
      go_enter Tryz.func157, Tryz.ntmps157
      go_wp2
      go_ret
      exact ⟨rfl, rfl⟩
    · by_cases h3 : op = 3
      · subst h3
        go_enter Tryz.func157, Tryz.ntmps157
        go_wp2
        go_ret
        exact ⟨rfl, rfl⟩
      · by_cases h4 : op = 4
        · subst h4
          go_enter Tryz.func157, Tryz.ntmps157
          go_wp2
          go_ret
          exact ⟨rfl, rfl⟩
        · rw [if_neg (by omega), if_neg (by omega)]
          have q1 : (op == 1) = false := beq_eq_false_iff_ne.2 h1
          have q2 : (op == 2) = false := beq_eq_false_iff_ne.2 h2
          have q3 : (op == 3) = false := beq_eq_false_iff_ne.2 h3
          have q4 : (op == 4) = false := beq_eq_false_iff_ne.2 h4
          clear h1 h2 h3 h4
          by_cases h5 : 5 ≤ op ∧ op ≤ 17
          · rw [if_pos h5]
            obtain ⟨h5, h6⟩ := h5
            go_enter Tryz.func157, Tryz.ntmps157
            go_wp2
            go_ret
            exact ⟨rfl, rfl⟩
          · rw [if_neg h5]
            by_cases h6 : 5 ≤ op
            · have h7 : ¬ op ≤ 17 := by omega
              clear h5
              go_enter Tryz.func157, Tryz.ntmps157
              go_wp2
              go_ret
              exact ⟨rfl, rfl⟩
            · clear h5
              go_enter Tryz.func157, Tryz.ntmps157
              go_wp2
              go_ret
              exact ⟨rfl, rfl⟩
set_option maxHeartbeats 1000000 in
theorem deep_any {w : World} {Q : Nat → Prop} {e : E} {cs : List Value} (h : ExprI w Q e cs) : ∀ (c0 c1 c2 c3 : Value), cs = [c0, c1, c2, c3] → ∀ (d : Int) (W : World), 0 ≤ d → d ≤ 100 → In Q w W →
    Calls Tryz.prog 121 #[.agg #[c0, c1, c2, c3], .int .i64 d] W (IntOk (deepN d.toNat e) W) := by
  induction h with
  | @mk op n nm ks A cap css hop hn hnm hcap hA hk ih =>
    intro c0 c1 c2 c3 hcs d W hdl hd hI
    simp only [List.cons.injEq, and_true] at hcs
    obtain ⟨rfl, rfl, rfl, rfl⟩ := hcs
    unfold i64 at hop hn
    have HA := Lib.hid hA
    have HK := Lib.hid hk
    have IH := Lib.hid ih
    have HI := Lib.hid hI
    clear hA hk ih hI
    by_cases hd0 : d = 0
    · subst hd0
      have HM : Hid (deepN (0 : Int).toNat (.mk op n nm ks) = 1) := Lib.hid (by have := depE_pos (.mk op n nm ks); simp only [deepN]; omega)
      go_enter Tryz.func121, Tryz.ntmps121
      go_wp2_with fail
      go_ret
      exact ⟨ret_int (by rw [HM.out]; rfl), below_box _⟩
    · have qd : (d == 0) = false := beq_eq_false_iff_ne.2 hd0
      have hd1 : 1 ≤ d := by omega
      clear hd0
      go_enter Tryz.func121, Tryz.ntmps121
      go_wp2_with fail
      have HB1 : Hid (Below W.heap.size W (W.alloc (.cells #[.int .i64 op, .int .i64 n, .string nm, .slice A ks.length cap] 50))) := Lib.hid (below_box _)
      have HQ3 : Hid ((W.alloc (.cells #[.int .i64 op, .int .i64 n, .string nm, .slice A ks.length cap] 50)).cell? ⟨W.heap.size, 3, none⟩ = some (.slice A ks.length cap)) := Lib.hid (by simp)
      have hsz : W.heap.size < (W.alloc (.cells #[.int .i64 op, .int .i64 n, .string nm, .slice A ks.length cap] 50)).heap.size := by simp
      generalize W.alloc _ = W1 at HB1 HQ3 hsz ⊢
      go_loopw [5, 6] (fun m i wr => ∃ (k : Nat) (q : Int), k ≤ ks.length ∧ i = .int .i64 k ∧ m = .int .i64 q ∧ 0 ≤ q ∧ q ≤ d ∧ Hid (max q.toNat (min (depL (ks.drop k)) d.toNat) = min (depL ks) d.toNat) ∧ Hid (Below W1.heap.size W1 wr)) (fun _ i _ => ks.length - (intOf i).toNat)
      case atStart => exact ⟨0, 0, Nat.zero_le _, rfl, rfl, by omega, by omega, Lib.hid (by rw [List.drop_zero]; simp), Lib.hid (Below.refl _ _)⟩
      case round =>
        obtain ⟨k, q, hk, rfl, rfl, hq0, hqd, HW, HR⟩ := hrel
        have q3 : wr.cell? ⟨W.heap.size, 3, none⟩ = some (.slice A ks.length cap) := (HR.out.cell (p := ⟨W.heap.size, 3, none⟩) hsz).trans HQ3.out
        have hrz := HR.out.size
        by_cases hlt : k < ks.length
        · by_cases hq2 : q < d
          · have hIr : In Q w wr := HI.out.on (HB1.out.trans (HR.out.mono HB1.out.size))
            obtain ⟨a, o1, n1, s1, A1, l1, k1, rfl, hd', p0, p1, p2, p3⟩ := kid_at HA.out HK.out hIr hlt
            have HC := Lib.hid (IH.out k hlt _ _ _ _ hd' (d - 1))
            have HIr := Lib.hid hIr
            clear hd' hIr
            have HN : Hid (max q.toNat (min (depL (ks.drop k)) d.toNat) = max (max q.toNat (deepN (d - 1).toNat ks[k])) (min (depL (ks.drop (k + 1))) d.toNat)) := Lib.hid (by rw [depL_drop hlt, deepN]; omega)
            obtain ⟨v, hv⟩ : ∃ v : Nat, v = deepN (d - 1).toNat ks[k] := ⟨_, rfl⟩
            have hv2 : v ≤ d.toNat := by rw [hv, deepN]; omega
            rw [← hv] at HC HN
            clear hv
            by_cases hvq : q < (v : Int)
            · go_wp2_with (go_at_call 121; refine (HC.out _ (by omega) (by omega) HIr.out).mono ?_; rintro e w2 ⟨rfl, hb2⟩)
              go_roundw
              case rel => exact ⟨k + 1, v, by omega, by go_num, rfl, by omega, by omega, Lib.hid (by rw [← HW.out, HN.out]; omega), Lib.hid (HR.out.trans (hb2.mono HR.out.size))⟩
              case measure => simp [intOf]; omega
            · go_wp2_with (go_at_call 121; refine (HC.out _ (by omega) (by omega) HIr.out).mono ?_; rintro e w2 ⟨rfl, hb2⟩)
              go_roundw
              case rel => exact ⟨k + 1, q, by omega, by go_num, rfl, by omega, by omega, Lib.hid (by rw [← HW.out, HN.out]; omega), Lib.hid (HR.out.trans (hb2.mono HR.out.size))⟩
              case measure => simp [intOf]; omega
          · have HN : Hid ((deepN d.toNat (.mk op n nm ks) : Int) = q + 1) := Lib.hid (by have := HW.out; rw [deepN, depE]; omega)
            go_wp2_with fail
            go_ret
            exact ⟨ret_int (by rw [HN.out]), HB1.out.trans (HR.out.mono HB1.out.size)⟩
        · have HN : Hid ((deepN d.toNat (.mk op n nm ks) : Int) = q + 1) := Lib.hid (by have := HW.out; rw [List.drop_of_length_le (by omega), depL] at this; rw [deepN, depE]; omega)
          go_wp2_with fail
          go_ret
          exact ⟨ret_int (by rw [HN.out]), HB1.out.trans (HR.out.mono HB1.out.size)⟩
set_option maxHeartbeats 2000000 in
theorem form_any {w : World} {Q : Nat → Prop} {e : E} {cs : List Value} (h : ExprI w Q e cs) : ∀ (c0 c1 c2 c3 : Value), cs = [c0, c1, c2, c3] → ∀ (W : World), In Q w W →
    Calls Tryz.prog 122 #[.agg #[c0, c1, c2, c3]] W (MayOk (formE e) W) := by
  induction h with
  | @mk op n nm ks A cap css hop hn hnm hcap hA hk ih =>
    intro c0 c1 c2 c3 hcs W hI
    simp only [List.cons.injEq, and_true] at hcs
    obtain ⟨rfl, rfl, rfl, rfl⟩ := hcs
    unfold i64 at hop hn
    have HA := Lib.hid hA
    have HK := Lib.hid hk
    have IH := Lib.hid ih
    have HI := Lib.hid hI
    clear hA hk ih hI
    have he := toList_emp nm
    have hbn := toList_bne nm
    cases b1 : (arN op == ((ks.length : Nat) : Int)) with
    | false =>
      have HM : Hid (formE (.mk op n nm ks) = false) := Lib.hid (form_of (b := false) (by simp at b1; simp [b1]))
      have c1 := bne_of b1
      rw [Bool.not_false] at c1
      clear he hbn
      go_enter Tryz.func122, Tryz.ntmps122
      go_wp2_with fail
      go_quiet ((go_at_call 157; exact quiet_same (Arity_any _ _)))
      go_wp2_with fail
      go_ret
      exact ⟨ret_bool HM.out.symm, below_drewN (below_box _) _⟩
    | true =>
      have c1 := bne_of b1
      rw [Bool.not_true] at c1
      cases b23 : ((op != 1) && (n != 0)) with
      | true =>
        have HM : Hid (formE (.mk op n nm ks) = false) := Lib.hid (form_of (b := false) (by simp at b23; simp [b23]))
        rw [Bool.and_eq_true] at b23
        obtain ⟨b2, b3⟩ := b23
        clear he hbn
        go_enter Tryz.func122, Tryz.ntmps122
        go_wp2_with fail
        go_quiet ((go_at_call 157; exact quiet_same (Arity_any _ _)))
        go_wp2_with fail
        go_ret
        exact ⟨ret_bool HM.out.symm, below_drewN (below_box _) _⟩
      | false =>
        have hon : op = 1 ∨ n = 0 := by simp at b23; omega
        cases b4 : decide (n < 0) with
        | true =>
          have HM : Hid (formE (.mk op n nm ks) = false) := Lib.hid (form_of (b := false) (by
            have : ¬ 0 ≤ n := by simpa using b4
            simp [this]))
          cases b2 : (op != 1) with
          | true =>
            have b3 : (n != 0) = false := by rw [b2] at b23; simpa using b23
            clear he hbn b23 hon
            go_enter Tryz.func122, Tryz.ntmps122
            go_wp2_with fail
            go_quiet ((go_at_call 157; exact quiet_same (Arity_any _ _)))
            go_wp2_with fail
            go_ret
            exact ⟨ret_bool HM.out.symm, below_drewN (below_box _) _⟩
          | false =>
            clear he hbn b23 hon
            go_enter Tryz.func122, Tryz.ntmps122
            go_wp2_with fail
            go_quiet ((go_at_call 157; exact quiet_same (Arity_any _ _)))
            go_wp2_with fail
            go_ret
            exact ⟨ret_bool HM.out.symm, below_drewN (below_box _) _⟩
        | false =>
          have hn0 : 0 ≤ n := by simpa using b4
          have hn1 : decide (0 ≤ n) = true := by simpa using hn0
          cases b6 : decide (nm.size = 0) with
          | true =>
            rw [b6] at he hbn
            rw [Bool.not_true] at hbn
            cases b5 : (op == 2) with
            | true =>
              have HM : Hid (formE (.mk op n nm ks) = false) := Lib.hid (form_of (b := false) (by simp at b5 b6; simp [b5, b6]))
              have b2 : (op != 1) = true := by simp at b5; subst b5; rfl
              have b3 : (n != 0) = false := by rw [b2] at b23; simpa using b23
              clear b23 hon b6
              go_enter Tryz.func122, Tryz.ntmps122
              go_wp2_with fail
              go_quiet ((go_at_call 157; exact quiet_same (Arity_any _ _)))
              go_wp2_with fail
              go_ret
              exact ⟨ret_bool HM.out.symm, below_drewN (below_box _) _⟩
            | false =>
              have HM : Hid (formE (.mk op n nm ks) = formL ks) := Lib.hid (by rw [form_of (b := true) (by simp at b5 b6 b1; simp [b5, b6, b1, hon, hn0])]; rfl)
              cases b2 : (op != 1) with
              | true =>
                have b3 : (n != 0) = false := by rw [b2] at b23; simpa using b23
                clear b23 hon b6
                go_enter Tryz.func122, Tryz.ntmps122
                go_wp2_with fail
                go_quiet ((go_at_call 157; exact quiet_same (Arity_any _ _)))
                have HB1 : Hid (Below W.heap.size W ((W.alloc (.cells #[.int .i64 op, .int .i64 n, .string nm, .slice A ks.length cap] 50)).drewN nq)) := Lib.hid (below_drewN (below_box _) _)
                have HQ3 : Hid (((W.alloc (.cells #[.int .i64 op, .int .i64 n, .string nm, .slice A ks.length cap] 50)).drewN nq).cell? ⟨W.heap.size, 3, none⟩ = some (.slice A ks.length cap)) := Lib.hid (by simp)
                have hsz : W.heap.size < ((W.alloc (.cells #[.int .i64 op, .int .i64 n, .string nm, .slice A ks.length cap] 50)).drewN nq).heap.size := by simp
                generalize World.drewN _ nq = W1 at HB1 HQ3 hsz ⊢
                have q3' := HQ3.out
                go_wp2_with fail
                clear q3'
                go_loopw [49] (fun i wr => ∃ k : Nat, k ≤ ks.length ∧ i = .int .i64 k ∧ Hid (formL (ks.drop k) = formL ks) ∧ Hid (Below W1.heap.size W1 wr)) (fun i _ => ks.length - (intOf i).toNat)
                case atStart => exact ⟨0, Nat.zero_le _, rfl, Lib.hid (by rw [List.drop_zero]), Lib.hid (Below.refl _ _)⟩
                case round =>
                  obtain ⟨k, hk, rfl, HW, HR⟩ := hrel
                  have q3 : wr.cell? ⟨W.heap.size, 3, none⟩ = some (.slice A ks.length cap) := (HR.out.cell (p := ⟨W.heap.size, 3, none⟩) hsz).trans HQ3.out
                  have hrz := HR.out.size
                  by_cases hlt : k < ks.length
                  · have hIr : In Q w wr := HI.out.on (HB1.out.trans (HR.out.mono HB1.out.size))
                    obtain ⟨a, o1, n1, s1, A1, l1, k1, rfl, hd', p0, p1, p2, p3⟩ := kid_at HA.out HK.out hIr hlt
                    have HC := Lib.hid (IH.out k hlt _ _ _ _ hd')
                    have HIr := Lib.hid hIr
                    clear hd' hIr
                    have HN : Hid (formL ks = (formE ks[k] && formL (ks.drop (k + 1)))) := Lib.hid (by rw [← formL_drop hlt, HW.out])
                    cases hv : formE ks[k] with
                    | true =>
                      rw [hv] at HC HN
                      clear hv
                      go_wp2_with (go_at_call 122; refine (HC.out _ HIr.out).mono ?_; rintro e w2 ⟨rfl, hb2⟩)
                      go_roundw
                      case rel => exact ⟨k + 1, by omega, by go_num, Lib.hid (by rw [HN.out, Bool.true_and]), Lib.hid (HR.out.trans (hb2.mono HR.out.size))⟩
                      case measure => simp [intOf]; omega
                    | false =>
                      rw [hv] at HC HN
                      clear hv
                      go_wp2_with (go_at_call 122; refine (HC.out _ HIr.out).mono ?_; rintro e w2 ⟨rfl, hb2⟩)
                      go_ret
                      exact ⟨ret_bool (by rw [HM.out, HN.out]; rfl), HB1.out.trans ((HR.out.trans (hb2.mono HR.out.size)).mono HB1.out.size)⟩
                  · have HN : Hid (formL ks = true) := Lib.hid (by
                      have h1 := HW.out
                      rw [List.drop_of_length_le (by omega), formL] at h1
                      exact h1.symm)
                    go_wp2_with fail
                    go_ret
                    exact ⟨ret_bool (by rw [HM.out, HN.out]), HB1.out.trans (HR.out.mono HB1.out.size)⟩
              | false =>
                clear b23 hon b6
                go_enter Tryz.func122, Tryz.ntmps122
                go_wp2_with fail
                go_quiet ((go_at_call 157; exact quiet_same (Arity_any _ _)))
                have HB1 : Hid (Below W.heap.size W ((W.alloc (.cells #[.int .i64 op, .int .i64 n, .string nm, .slice A ks.length cap] 50)).drewN nq)) := Lib.hid (below_drewN (below_box _) _)
                have HQ3 : Hid (((W.alloc (.cells #[.int .i64 op, .int .i64 n, .string nm, .slice A ks.length cap] 50)).drewN nq).cell? ⟨W.heap.size, 3, none⟩ = some (.slice A ks.length cap)) := Lib.hid (by simp)
                have hsz : W.heap.size < ((W.alloc (.cells #[.int .i64 op, .int .i64 n, .string nm, .slice A ks.length cap] 50)).drewN nq).heap.size := by simp
                generalize World.drewN _ nq = W1 at HB1 HQ3 hsz ⊢
                have q3' := HQ3.out
                go_wp2_with fail
                clear q3'
                go_loopw [49] (fun i wr => ∃ k : Nat, k ≤ ks.length ∧ i = .int .i64 k ∧ Hid (formL (ks.drop k) = formL ks) ∧ Hid (Below W1.heap.size W1 wr)) (fun i _ => ks.length - (intOf i).toNat)
                case atStart => exact ⟨0, Nat.zero_le _, rfl, Lib.hid (by rw [List.drop_zero]), Lib.hid (Below.refl _ _)⟩
                case round =>
                  obtain ⟨k, hk, rfl, HW, HR⟩ := hrel
                  have q3 : wr.cell? ⟨W.heap.size, 3, none⟩ = some (.slice A ks.length cap) := (HR.out.cell (p := ⟨W.heap.size, 3, none⟩) hsz).trans HQ3.out
                  have hrz := HR.out.size
                  by_cases hlt : k < ks.length
                  · have hIr : In Q w wr := HI.out.on (HB1.out.trans (HR.out.mono HB1.out.size))
                    obtain ⟨a, o1, n1, s1, A1, l1, k1, rfl, hd', p0, p1, p2, p3⟩ := kid_at HA.out HK.out hIr hlt
                    have HC := Lib.hid (IH.out k hlt _ _ _ _ hd')
                    have HIr := Lib.hid hIr
                    clear hd' hIr
                    have HN : Hid (formL ks = (formE ks[k] && formL (ks.drop (k + 1)))) := Lib.hid (by rw [← formL_drop hlt, HW.out])
                    cases hv : formE ks[k] with
                    | true =>
                      rw [hv] at HC HN
                      clear hv
                      go_wp2_with (go_at_call 122; refine (HC.out _ HIr.out).mono ?_; rintro e w2 ⟨rfl, hb2⟩)
                      go_roundw
                      case rel => exact ⟨k + 1, by omega, by go_num, Lib.hid (by rw [HN.out, Bool.true_and]), Lib.hid (HR.out.trans (hb2.mono HR.out.size))⟩
                      case measure => simp [intOf]; omega
                    | false =>
                      rw [hv] at HC HN
                      clear hv
                      go_wp2_with (go_at_call 122; refine (HC.out _ HIr.out).mono ?_; rintro e w2 ⟨rfl, hb2⟩)
                      go_ret
                      exact ⟨ret_bool (by rw [HM.out, HN.out]; rfl), HB1.out.trans ((HR.out.trans (hb2.mono HR.out.size)).mono HB1.out.size)⟩
                  · have HN : Hid (formL ks = true) := Lib.hid (by
                      have h1 := HW.out
                      rw [List.drop_of_length_le (by omega), formL] at h1
                      exact h1.symm)
                    go_wp2_with fail
                    go_ret
                    exact ⟨ret_bool (by rw [HM.out, HN.out]), HB1.out.trans (HR.out.mono HB1.out.size)⟩
          | false =>
            rw [b6] at he hbn
            rw [Bool.not_false] at hbn
            cases b5 : (op == 2) with
            | false =>
              have HM : Hid (formE (.mk op n nm ks) = false) := Lib.hid (form_of (b := false) (by simp at b5 b6; simp [b5, b6]))
              cases b2 : (op != 1) with
              | true =>
                have b3 : (n != 0) = false := by rw [b2] at b23; simpa using b23
                clear b23 hon b6
                go_enter Tryz.func122, Tryz.ntmps122
                go_wp2_with fail
                go_quiet ((go_at_call 157; exact quiet_same (Arity_any _ _)))
                go_wp2_with fail
                go_ret
                exact ⟨ret_bool HM.out.symm, below_drewN (below_box _) _⟩
              | false =>
                clear b23 hon b6
                go_enter Tryz.func122, Tryz.ntmps122
                go_wp2_with fail
                go_quiet ((go_at_call 157; exact quiet_same (Arity_any _ _)))
                go_wp2_with fail
                go_ret
                exact ⟨ret_bool HM.out.symm, below_drewN (below_box _) _⟩
            | true =>
              have b2 : (op != 1) = true := by simp at b5; subst b5; rfl
              have b3 : (n != 0) = false := by rw [b2] at b23; simpa using b23
              have hl0 : ks.length = 0 := by
                have h1 : arN op = (ks.length : Int) := by simpa using b1
                have h2 : op = 2 := by simpa using b5
                rw [h2] at h1
                have h3 : arN 2 = 0 := rfl
                omega
              have hl1 : ks.length ≤ 0 := by omega
              clear hl0
              have HM : Hid (formE (.mk op n nm ks) = (isNm (bl nm) && formL ks)) := Lib.hid (form_of (b := isNm (bl nm)) (by
                rw [decide_eq_true (by simpa using b1), decide_eq_true hon, decide_eq_true hn0, b6, decide_eq_true (by simpa using b5)]; simp))
              clear b23 hon b6
              go_enter Tryz.func122, Tryz.ntmps122
              go_wp2_with fail
              go_region_held3 (fun w' => w'.cell? ⟨W.heap.size, 0, none⟩ = some (.int .i64 op) ∧ w'.cell? ⟨W.heap.size, 1, none⟩ = some (.int .i64 n) ∧ w'.cell? ⟨W.heap.size, 2, none⟩ = some (.string nm) ∧ w'.cell? ⟨W.heap.size, 3, none⟩ = some (.slice A ks.length cap))
                (go_keep)
                (first
                  | ((go_at_call 157; refine (Arity_any _ _).mono ?_; rintro e w' ⟨rfl, rfl⟩))
                  | ((go_at_call 104; refine (rName_any _ _ (by unfold maxLen; omega)).mono ?_; rintro e w2 ⟨rfl, hb2⟩; have hc2 := (bcell hb2).1)))
              have HB1 : Hid (Below W.heap.size W w2) := Lib.hid ((below_drewN (below_box _) 1).trans (hb2.mono (by simp)))
              have HQ3 : Hid (w2.cell? ⟨W.heap.size, 3, none⟩ = some (.slice A ks.length cap)) := Lib.hid (by rename_i hh; exact hh.2.2.2)
              have hsz : W.heap.size < w2.heap.size := World.block_lt_of_cell? w2 _ HQ3.out
              clear hb2 hc2
              generalize w2 = W1 at *
              cases hv : isNm (bl nm) with
              | false =>
                go_wp2_with fail
                go_ret
                exact ⟨ret_bool (by rw [HM.out, hv]; rfl), HB1.out⟩
              | true =>
                rw [hv, Bool.true_and] at HM
                go_wp2_with fail
                go_loopw [49] (fun i wr => ∃ k : Nat, k ≤ ks.length ∧ i = .int .i64 k ∧ Hid (formL (ks.drop k) = formL ks) ∧ Hid (Below W1.heap.size W1 wr)) (fun i _ => ks.length - (intOf i).toNat)
                case atStart => exact ⟨0, Nat.zero_le _, rfl, Lib.hid (by rw [List.drop_zero]), Lib.hid (Below.refl _ _)⟩
                case round =>
                  obtain ⟨k, hk, rfl, HW, HR⟩ := hrel
                  have q3 : wr.cell? ⟨W.heap.size, 3, none⟩ = some (.slice A ks.length cap) := (HR.out.cell (p := ⟨W.heap.size, 3, none⟩) hsz).trans HQ3.out
                  have hrz := HR.out.size
                  have hlt : ¬ k < ks.length := by omega
                  have HN : Hid (formL ks = true) := Lib.hid (by
                    have h1 := HW.out
                    rw [List.drop_of_length_le (by omega), formL] at h1
                    exact h1.symm)
                  go_wp2_with fail
                  go_ret
                  exact ⟨ret_bool (by rw [HM.out, HN.out]), HB1.out.trans (HR.out.mono HB1.out.size)⟩
theorem rMayExpr_any {w : World} {Q : Nat → Prop} {e : E} {c0 c1 c2 c3 : Value} (h : ExprI w Q e [c0, c1, c2, c3]) (W : World) (hI : In Q w W) :
    Calls Tryz.prog 101 #[.agg #[c0, c1, c2, c3]] W (MayOk (mayE 20 e) W) := by
  have HC := Lib.hid (deep_any h c0 c1 c2 c3 rfl 20)
  have HF := Lib.hid (form_any h c0 c1 c2 c3 rfl)
  have HI := Lib.hid hI
  have HM := Lib.hid (mayE_eq e 20)
  obtain ⟨d0, d1, d2, d3, l3, k3, hd'⟩ := h.form
  simp only [List.cons.injEq, and_true] at hd'
  obtain ⟨rfl, rfl, rfl, rfl⟩ := hd'
  clear h hI
  have hdd : deepN (20 : Int).toNat e = min (depE e) 21 := rfl
  rw [hdd] at HC
  by_cases hd : depE e ≤ 20
  · rw [decide_eq_true hd, Bool.true_and] at HM
    rw [Nat.min_eq_left (by omega)] at HC
    generalize depE e = dd at *
    clear hdd
    go_enter Tryz.func101, Tryz.ntmps101
    go_wp2_with (first
      | (go_at_call 121; refine (HC.out _ (by omega) (by omega) (HI.out.alloc _)).mono ?_; rintro e' w2 ⟨rfl, hb2⟩; have hc2 := (bcell hb2).1)
      | (go_at_call 122; refine (HF.out _ ((HI.out.alloc _).on hb2)).mono ?_; rintro e' w3 ⟨rfl, hb3⟩))
    go_ret
    exact ⟨ret_bool HM.out.symm, below_new (hb2.trans (hb3.mono hb2.size))⟩
  · rw [decide_eq_false hd, Bool.false_and] at HM
    rw [Nat.min_eq_right (by omega)] at HC
    clear hdd hd
    go_enter Tryz.func101, Tryz.ntmps101
    go_wp2_with (first
      | (go_at_call 121; refine (HC.out _ (by omega) (by omega) (HI.out.alloc _)).mono ?_; rintro e' w2 ⟨rfl, hb2⟩; have hc2 := (bcell hb2).1))
    go_ret
    exact ⟨ret_bool HM.out.symm, below_new hb2⟩
end Go.Proofs.YtehpinnmalpgpaaGreat
namespace Go.Proofs.YtehpinnmalpgpaaGreat
open Go.ChangeShapes Go.WideShapes Go.ChangeAt Go.RowKit Go.Deep
set_option linter.unusedVariables false
set_option maxHeartbeats 1000000 in
theorem rnames_any {w W : World} {Q : Nat → Prop} {l : List ByteArray} {A : Option Addr} {n cap : Nat} (h : TextsI w Q l (.slice A n cap)) (hI : In Q w W) :
    Calls Tryz.prog 103 #[.slice A n cap] W (MayOk (allN l) W) := by
  obtain ⟨rfl, hlc, hc, _⟩ := slice_len h
  have H := Lib.hid h
  have HI := Lib.hid hI
  clear h hI
  go_enter Tryz.func103, Tryz.ntmps103
  go_wp2_with fail
  go_loopw [7] (fun i wr => ∃ k : Nat, k ≤ l.length ∧ i = .int .i64 k ∧ Hid ((l.drop k).all (fun s => isNm (bl s)) = allN l) ∧ Hid (Below W.heap.size W wr)) (fun i _ => l.length - (intOf i).toNat)
  case atStart => exact ⟨0, Nat.zero_le _, rfl, Lib.hid (by rw [List.drop_zero]; rfl), Lib.hid (Below.refl _ _)⟩
  case round =>
    obtain ⟨k, hk, rfl, HW, HR⟩ := hrel
    by_cases hlt : k < l.length
    · obtain ⟨a, rfl, _, p1, hs⟩ := text_at H.out (HI.out.on HR.out) hlt
      have HN : Hid (allN l = (isNm (bl l[k]) && (l.drop (k + 1)).all (fun s => isNm (bl s)))) := Lib.hid (by rw [← all_drop (f := fun s => isNm (bl s)) hlt, HW.out])
      obtain ⟨x1, hx1⟩ : ∃ x, x = l[k] := ⟨_, rfl⟩
      rw [← hx1] at p1 hs HN
      clear hx1
      have HC : Hid (∀ W, Calls Tryz.prog 104 #[.string x1] W (MayOk (isNm (bl x1)) W)) := Lib.hid (fun W => rName_any x1 W (by unfold maxLen; omega))
      cases hv : isNm (bl x1) with
      | true =>
        rw [hv] at HC HN
        clear hv
        go_wp2_with (go_at_call 104; refine (HC.out _).mono ?_; rintro e w2 ⟨rfl, hb2⟩)
        go_roundw
        case rel => exact ⟨k + 1, by omega, by go_num, Lib.hid (by rw [HN.out, Bool.true_and]), Lib.hid (HR.out.trans (hb2.mono HR.out.size))⟩
        case measure => simp [intOf]; omega
      | false =>
        rw [hv] at HC HN
        clear hv
        go_wp2_with (go_at_call 104; refine (HC.out _).mono ?_; rintro e w2 ⟨rfl, hb2⟩)
        go_ret
        exact ⟨ret_bool (by rw [HN.out]; rfl), HR.out.trans (hb2.mono HR.out.size)⟩
    · have HN : Hid (allN l = true) := Lib.hid (by
        have h1 := HW.out
        rw [List.drop_of_length_le (by omega), List.all_nil] at h1
        exact h1.symm)
      go_wp2_with fail
      go_ret
      exact ⟨ret_bool HN.out.symm, HR.out⟩
theorem none_any {w : World} {Q : Nat → Prop} {e : E} {c0 c1 c2 c3 : Value} (h : ExprI w Q e [c0, c1, c2, c3]) (W : World) :
    Calls Tryz.prog 127 #[.agg #[c0, c1, c2, c3]] W (MayOk (noneE e) W) := by
  cases h with
  | @mk op n nm ks A cap css hop hn hnm hcap hA hk =>
    clear hA hk
    unfold i64 at hop hn
    go_enter Tryz.func127, Tryz.ntmps127
    go_wp2_with fail
    all_goals
      go_ret
      exact ⟨ret_bool (by show _ = noneE _; simp only [noneE]; first | (simp_all; done) | (simp_all; intros; omega)), below_box _⟩
set_option maxHeartbeats 1000000 in
theorem rarg_any {w W : World} {Q : Nat → Prop} {xr : Bool} {xn : ByteArray} {xx : E} {o1 n1 : Int} {s1 : ByteArray} {A1 : Option Addr} {l1 c1 : Nat} (hs : xn.size ≤ 9223372036854775807) (hx : ExprI w Q xx [.int .i64 o1, .int .i64 n1, .string s1, .slice A1 l1 c1]) (hI : In Q w W) :
    Calls Tryz.prog 128 #[.agg #[.bool xr, .string xn, .int .i64 o1, .int .i64 n1, .string s1, .slice A1 l1 c1]] W (MayOk (argOk ⟨xr, xn, xx⟩) W) := by
  have HI := Lib.hid hI
  have HN : Hid (∀ W, Calls Tryz.prog 104 #[.string xn] W (MayOk (isNm (bl xn)) W)) := Lib.hid (fun W => rName_any xn W (by unfold maxLen; omega))
  have HE : Hid (∀ W, Calls Tryz.prog 127 #[.agg #[.int .i64 o1, .int .i64 n1, .string s1, .slice A1 l1 c1]] W (MayOk (noneE xx) W)) := Lib.hid (fun W => none_any hx W)
  have HM : Hid (∀ W, In Q w W → Calls Tryz.prog 101 #[.agg #[.int .i64 o1, .int .i64 n1, .string s1, .slice A1 l1 c1]] W (MayOk (mayE 20 xx) W)) := Lib.hid (fun W h1 => rMayExpr_any hx W h1)
  have HV : Hid (argOk ⟨xr, xn, xx⟩ = (nmOk xn xr && xOk xx (!xr))) := Lib.hid rfl
  clear hI hx
  cases xr with
  | true =>
    simp only [nmOk, xOk, Bool.not_true, if_true, Bool.false_eq_true, if_false] at HV
    generalize isNm (bl xn) = b1 at HV HN
    generalize noneE xx = b2 at HV HE
    cases b1 <;> cases b2
    all_goals
      go_enter Tryz.func128, Tryz.ntmps128
      go_wp2_with (first
        | (go_at_call 104; refine (HN.out _).mono ?_; rintro e w2 ⟨rfl, hb2⟩; have hc2 := (bcell hb2).1; have HB2 := Lib.hid (below_new hb2); clear hb2)
        | (go_at_call 127; refine (HE.out _).mono ?_; rintro e w3 ⟨rfl, hb3⟩))
      go_ret
      first
        | exact ⟨ret_bool (by rw [HV.out]; rfl), HB2.out.trans (hb3.mono HB2.out.size)⟩
        | exact ⟨ret_bool (by rw [HV.out]; rfl), HB2.out⟩
  | false =>
    simp only [nmOk, xOk, Bool.not_false, if_true, Bool.false_eq_true, if_false] at HV
    generalize mayE 20 xx = b2 at HV HM
    cases hb : xn.toList.isEmpty <;> cases b2
    all_goals
      rw [hb] at HV
      go_enter Tryz.func128, Tryz.ntmps128
      go_wp2_with (go_at_call 101; refine (HM.out _ (HI.out.alloc _)).mono ?_; rintro e w3 ⟨rfl, hb3⟩)
      go_ret
      first
        | exact ⟨ret_bool (by rw [HV.out]; rfl), below_new hb3⟩
        | exact ⟨ret_bool (by rw [HV.out]; rfl), below_box _⟩
end Go.Proofs.YtehpinnmalpgpaaGreat
