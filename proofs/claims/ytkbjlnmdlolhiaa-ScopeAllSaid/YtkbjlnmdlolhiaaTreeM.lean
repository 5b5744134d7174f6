/- The contracts of operands, mayExprWithin and MayExpr (tree). -/
import Derived.Test.YtkbjlnmdlolhiaaTreeN1
import Derived.Test.YtkbjlnmdlolhiaaTreeN2
import Derived.Deep.QuietTactic
import Derived.BigQuiet
namespace Go.Proofs.Ytkbjlnmdlolhiaa
open Go.ChangeShapes Go.WideShapes Go.ChangeAt Go.RowKit Go.Deep
set_option linter.unusedVariables false

theorem operands_any (op : Int) (w : World) : Calls Try.prog 122 #[.int .i64 op] w fun e w' => e = .returned (.int .i64 (opN op)) ∧ w = w' := by
  unfold opN
  by_cases h3 : op = 3
  · subst h3
    go_enter Try.func122, Try.ntmps122
    go_wp2
    go_ret
    exact ⟨rfl, rfl⟩
  · by_cases h4 : op = 4
    · subst h4
      go_enter Try.func122, Try.ntmps122
      go_wp2
      go_ret
      exact ⟨rfl, rfl⟩
    · rw [if_neg (by omega)]
      have q3 : (op == 3) = false := beq_eq_false_iff_ne.2 h3
      have q4 : (op == 4) = false := beq_eq_false_iff_ne.2 h4
      clear h3 h4
      by_cases h5 : 5 ≤ op
      · by_cases h6 : op ≤ 17
        · rw [if_pos ⟨h5, h6⟩]
          go_enter Try.func122, Try.ntmps122
          go_wp2
          go_ret
          exact ⟨rfl, rfl⟩
        · rw [if_neg (by omega)]
          go_enter Try.func122, Try.ntmps122
          go_wp2
          go_ret
          exact ⟨rfl, rfl⟩
      · rw [if_neg (by omega)]
        go_enter Try.func122, Try.ntmps122
        go_wp2
        go_ret
        exact ⟨rfl, rfl⟩
theorem opN_le (op : Int) : -1 ≤ opN op ∧ opN op ≤ 2 := by unfold opN; split <;> (try split) <;> omega
theorem below_box {W : World} (o : Obj) : Below W.heap.size W (W.alloc o) := (Below.refl _ _).alloc (Nat.le_refl _) o

theorem quiet_same {P : Program} {f : FuncId} {args : Array Value} {w : World} {n : Nat} {v : Value}
    (h : Calls P f args (w.drewN n) fun e w' => e = .returned v ∧ w.drewN n = w') : Calls P f args (w.drewN n) fun e w'' => e = .returned v ∧ ∃ m, w'' = w.drewN m :=
  h.mono fun _ _ ⟨he, hm⟩ => ⟨he, n, hm.symm⟩
theorem below_drewN {B : Nat} {a w : World} (h : Below B a w) (k : Nat) : Below B a (w.drewN k) := ⟨h.os, h.tape, h.output, h.size, h.block⟩

def MayOk (b : Bool) (W : World) (e : Ending) (w' : World) : Prop := e = .returned (.bool b) ∧ Below W.heap.size W w'
set_option maxHeartbeats 1000000 in
theorem mayExprWithin_any {w : World} {Q : Nat → Prop} {e : E} {cs : List Value} (h : ExprI w Q e cs) : ∀ (c0 c1 c2 c3 : Value), cs = [c0, c1, c2, c3] → ∀ (d : Int) (W : World), 0 ≤ d → d ≤ 100 → In Q w W →
    Calls Try.prog 78 #[.agg #[c0, c1, c2, c3], .int .i64 d] W (MayOk (mayE d.toNat e) W) := by
  induction h with
  | @mk op n nm ks A cap css hop hn hnm hcap hA hk ih =>
    intro c0 c1 c2 c3 hcs d W hdl hd hI
    simp only [List.cons.injEq, and_true] at hcs
    obtain ⟨rfl, rfl, rfl, rfl⟩ := hcs
    unfold i64 at hop hn
    have HA := Lib.hid hA
    have HK := Lib.hid hk
    have IH := Lib.hid ih
    have HI := Lib.hid hI
    clear hA hk ih hI
    by_cases hd0 : d = 0
    · have qd : (d == 0) = true := by simp [hd0]
      have HM : Hid (mayE d.toNat (.mk op n nm ks) = false) := Lib.hid (by rw [mayE]; simp [hd0])
      clear hd0
      go_enter Try.func78, Try.ntmps78
      go_wp2_with fail
      go_ret
      exact ⟨ret_bool HM.out.symm, below_box _⟩
    · have qd : (d == 0) = false := beq_eq_false_iff_ne.2 (by omega)
      by_cases h1 : op = 1
      · have q1 : (op == 1) = true := by simp [h1]
        have HM : Hid (mayE d.toNat (.mk op n nm ks) = (decide (n ≥ 0) && nm.toList.isEmpty && (((ks.length : Nat) : Int) == 0))) := Lib.hid (by
          rw [mayE, if_pos h1, toList_emp, decide_eq_true (show 0 < d.toNat by omega), Bool.true_and]
          congr 1
          rw [Bool.eq_iff_iff]; simp)
        clear h1 hd0
        go_enter Try.func78, Try.ntmps78
        go_wp2_with fail
        all_goals
          go_ret
          exact ⟨ret_bool (by rw [HM.out]; first | (simp_all; done) | (simp_all; intros; omega)), below_box _⟩
      · by_cases h2 : op = 2
        · have q1 : (op == 1) = false := beq_eq_false_iff_ne.2 h1
          have q2 : (op == 2) = true := by simp [h2]
          have HM : Hid (mayE d.toNat (.mk op n nm ks) = ((n == 0) && isNm (bl nm) && (((ks.length : Nat) : Int) == 0))) := Lib.hid (by
            rw [mayE, if_neg h1, if_pos h2, decide_eq_true (show 0 < d.toNat by omega), Bool.true_and]
            congr 1
            all_goals (rw [Bool.eq_iff_iff]; simp))
          clear h1 h2 hd0
          go_enter Try.func78, Try.ntmps78
          go_wp2_with (go_at_call 44; refine (Name_any _ _ (by unfold maxLen; omega)).mono ?_; rintro e w' ⟨rfl, rfl⟩)
          all_goals
            go_ret
            exact ⟨ret_bool (by rw [HM.out]; first | (simp_all; done) | (simp_all; intros; omega)), below_box _⟩
        · have q1 : (op == 1) = false := beq_eq_false_iff_ne.2 h1
          have q2 : (op == 2) = false := beq_eq_false_iff_ne.2 h2
          have HM : Hid (mayE d.toNat (.mk op n nm ks) = ((n == 0) && nm.toList.isEmpty && (((ks.length : Nat) : Int) == opN op) && mayL (d.toNat - 1) ks)) := Lib.hid (by
            rw [mayE, if_neg h1, if_neg h2, toList_emp, decide_eq_true (show 0 < d.toNat by omega), Bool.true_and]
            congr 1
            all_goals (rw [Bool.eq_iff_iff]; simp))
          have hd1 : 1 ≤ d := by omega
          clear h1 h2 hd0
          cases hn0 : (n == 0) with
          | false =>
            have hn1 : (n != 0) = true := by rw [bne, hn0]; rfl
            go_enter Try.func78, Try.ntmps78
            go_wp2_with fail
            go_quiet (fail)
            go_wp2_with fail
            go_ret
            exact ⟨ret_bool (by rw [HM.out]; simp_all), below_drewN (below_box _) _⟩
          | true =>
            have hn1 : (n != 0) = false := by rw [bne, hn0]; rfl
            cases hm0 : nm.toList.isEmpty with
            | false =>
              have hm1 : (nm.toList != []) = true := by rw [toList_bne]; rw [toList_emp] at hm0; rw [hm0]; rfl
              go_enter Try.func78, Try.ntmps78
              go_wp2_with fail
              go_quiet (fail)
              go_wp2_with fail
              go_ret
              exact ⟨ret_bool (by rw [HM.out]; simp_all), below_drewN (below_box _) _⟩
            | true =>
              have hm1 : (nm.toList != []) = false := by rw [toList_bne]; rw [toList_emp] at hm0; rw [hm0]; rfl
              cases hk0 : (((ks.length : Nat) : Int) == opN op) with
              | false =>
                have hk1 : (((ks.length : Nat) : Int) != opN op) = true := by rw [bne, hk0]; rfl
                go_enter Try.func78, Try.ntmps78
                go_wp2_with fail
                go_quiet ((go_at_call 122; exact quiet_same (operands_any _ _)))
                go_wp2_with fail
                go_ret
                exact ⟨ret_bool (by rw [HM.out]; simp_all), below_drewN (below_box _) _⟩
              | true =>
                have hk1 : (((ks.length : Nat) : Int) != opN op) = false := by rw [bne, hk0]; rfl
                go_enter Try.func78, Try.ntmps78
                go_wp2_with fail
                go_quiet ((go_at_call 122; exact quiet_same (operands_any _ _)))
                go_wp2_with fail
                have HB1 : Hid (Below W.heap.size W ((W.alloc (.cells #[.int .i64 op, .int .i64 n, .string nm, .slice A ks.length cap] 38)).drewN nq)) := Lib.hid (below_drewN (below_box _) _)
                generalize World.drewN _ nq = W1 at HB1 ⊢
                rw [hk0, hm0, hn0] at HM
                go_loopw [66] (fun i wr => ∃ k : Nat, k ≤ ks.length ∧ i = .int .i64 k ∧ Hid (mayL (d.toNat - 1) (ks.drop k) = mayL (d.toNat - 1) ks) ∧ Hid (Below W1.heap.size W1 wr)) (fun i _ => ks.length - (intOf i).toNat)
                case atStart => exact ⟨0, Nat.zero_le _, rfl, Lib.hid (by rw [List.drop_zero]), Lib.hid (Below.refl _ _)⟩
                case round =>
                  obtain ⟨k, hk, rfl, HW, HR⟩ := hrel
                  by_cases hlt : k < ks.length
                  · obtain ⟨a, rfl, hab, hcell⟩ := HA.out (by omega)
                    obtain ⟨d0, d1, d2, d3, l3, c3, hd'⟩ := (HK.out k hlt).form
                    have hIr : In Q w wr := HI.out.on (HB1.out.trans (HR.out.mono HB1.out.size))
                    have p0 : wr.cell? (a.add (k * 4)) = some (.int .i64 d0) := (hIr.cell (by rw [block_add]; exact hab)).trans (hcell k hlt 0 _ (by rw [hd']; rfl))
                    have p1 := cell_off (by decide) (show wr.cell? (a.add (k * 4 + 1)) = some (.int .i64 d1) from (hIr.cell (by rw [block_add]; exact hab)).trans (hcell k hlt 1 _ (by rw [hd']; rfl)))
                    have p2 := cell_off (by decide) (show wr.cell? (a.add (k * 4 + 2)) = some (.string d2) from (hIr.cell (by rw [block_add]; exact hab)).trans (hcell k hlt 2 _ (by rw [hd']; rfl)))
                    have p3 := cell_off (by decide) (show wr.cell? (a.add (k * 4 + 3)) = some (.slice d3 l3 c3) from (hIr.cell (by rw [block_add]; exact hab)).trans (hcell k hlt 3 _ (by rw [hd']; rfl)))
                    have HC := Lib.hid (IH.out k hlt _ _ _ _ hd' (d - 1))
                    have HIr := Lib.hid hIr
                    clear hcell hd' hIr hab
                    have HN : Hid (mayL (d.toNat - 1) ks = (mayE (d - 1).toNat ks[k] && mayL (d.toNat - 1) (ks.drop (k + 1)))) := Lib.hid (by
                      have h1 := HW.out
                      rw [mayL_drop hlt] at h1
                      rw [← h1, show (d - 1).toNat = d.toNat - 1 by omega])
                    cases hv : mayE (d - 1).toNat ks[k] with
                    | true =>
                      rw [hv] at HC HN
                      clear hv
                      go_wp2_with (go_at_call 78; refine (HC.out _ (by omega) (by omega) (HIr.out.alloc _)).mono ?_; rintro e w2 ⟨rfl, hb2⟩)
                      go_roundw
                      case rel => exact ⟨k + 1, by omega, by go_num, Lib.hid (by rw [HN.out, Bool.true_and]), Lib.hid (HR.out.trans ((below_new hb2).mono HR.out.size))⟩
                      case measure => simp [intOf]; omega
                    | false =>
                      rw [hv] at HC HN
                      clear hv
                      go_wp2_with (go_at_call 78; refine (HC.out _ (by omega) (by omega) (HIr.out.alloc _)).mono ?_; rintro e w2 ⟨rfl, hb2⟩)
                      go_ret
                      exact ⟨ret_bool (by rw [HM.out, HN.out]; rfl), HB1.out.trans ((HR.out.trans ((below_new hb2).mono HR.out.size)).mono HB1.out.size)⟩
                  · have HN : Hid (mayL (d.toNat - 1) ks = true) := Lib.hid (by
                      have h1 := HW.out
                      rw [List.drop_of_length_le (by omega), mayL] at h1
                      exact h1.symm)
                    go_wp2_with fail
                    go_ret
                    exact ⟨ret_bool (by rw [HM.out, HN.out]; rfl), HB1.out.trans (HR.out.mono HB1.out.size)⟩
theorem MayExpr_any {w : World} {Q : Nat → Prop} {e : E} {c0 c1 c2 c3 : Value} (h : ExprI w Q e [c0, c1, c2, c3]) (W : World) (hI : In Q w W) :
    Calls Try.prog 30 #[.agg #[c0, c1, c2, c3]] W (MayOk (mayE 20 e) W) := by
  have HC := Lib.hid (mayExprWithin_any h c0 c1 c2 c3 rfl 20)
  have HI := Lib.hid hI
  obtain ⟨d0, d1, d2, d3, l3, k3, hd'⟩ := h.form
  simp only [List.cons.injEq, and_true] at hd'
  obtain ⟨rfl, rfl, rfl, rfl⟩ := hd'
  clear h hI
  go_enter Try.func30, Try.ntmps30
  go_wp2_with (go_at_call 78; refine (HC.out _ (by omega) (by omega) (HI.out.alloc _)).mono ?_; rintro e w2 ⟨rfl, hb2⟩)
  go_ret
  exact ⟨rfl, below_new hb2⟩
end Go.Proofs.Ytkbjlnmdlolhiaa
