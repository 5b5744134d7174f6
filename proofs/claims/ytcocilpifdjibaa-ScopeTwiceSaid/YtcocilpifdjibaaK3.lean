/- Texts, merged by a program; only what is used. -/
import Derived.Deep.QuietTactic
import Derived.BigQuiet
import Derived.Test.YtcocilpifdjibaaK1
namespace Go.Proofs.Ytcocilpifdjibaa
open Go.ChangeShapes Go.WideShapes Go.ChangeAt Go.RowKit
set_option linter.unusedVariables false
theorem digit_any (c : UInt8) (w : World) :
    Calls Try.prog 82 #[.int .u8 c.toNat] w fun e w' => e = .returned (.bool (isDi c)) ∧ w = w' := by
  go_enter Try.func82, Try.ntmps82
  go_wp2
  all_goals
    go_ret
    refine ⟨ret_bool ?_, rfl⟩
    simp only [isDi]
    rw [Bool.eq_iff_iff]
    simp only [Bool.and_eq_true, decide_eq_true_eq, Bool.false_eq_true]
    first | omega | (simp only [false_iff, not_and]; intro _; omega)
theorem letter_any (c : UInt8) (w : World) :
    Calls Try.prog 81 #[.int .u8 c.toNat] w fun e w' => e = .returned (.bool (isLo c)) ∧ w = w' := by
  go_enter Try.func81, Try.ntmps81
  go_wp2
  all_goals
    go_ret
    refine ⟨ret_bool ?_, rfl⟩
    simp only [isLo]
    rw [Bool.eq_iff_iff]
    simp only [Bool.and_eq_true, decide_eq_true_eq, Bool.false_eq_true]
    first | omega | (simp only [false_iff, not_and]; intro _; omega)
set_option maxHeartbeats 1000000 in
theorem Word_any (s : ByteArray) (w : World) :
    Calls Try.prog 105 #[.string s] w fun e w' => e = .returned (.bool (isWd (bl s))) ∧ w = w' := by
  by_cases hw : isWd (bl s) = true
  · rw [hw]
    simp only [isWd, wds, List.any_cons, List.any_nil, Bool.or_false, Bool.or_eq_true, beq_iff_eq, ← bl_toList] at hw
    rcases hw with h | h | h | h | h | h | h | h | h | h | h | h | h
    all_goals
      first | have q0 : (s.toList == [103, 108, 111, 98, 97, 108]) = false := (by rw [h]; rfl) | have q0 : (s.toList == [103, 108, 111, 98, 97, 108]) = true := (by rw [h]; rfl)
      first | have q1 : (s.toList == [112, 114, 111, 99]) = false := (by rw [h]; rfl) | have q1 : (s.toList == [112, 114, 111, 99]) = true := (by rw [h]; rfl)
      first | have q2 : (s.toList == [118, 97, 114]) = false := (by rw [h]; rfl) | have q2 : (s.toList == [118, 97, 114]) = true := (by rw [h]; rfl)
      first | have q3 : (s.toList == [114, 101, 102]) = false := (by rw [h]; rfl) | have q3 : (s.toList == [114, 101, 102]) = true := (by rw [h]; rfl)
      first | have q4 : (s.toList == [105, 102]) = false := (by rw [h]; rfl) | have q4 : (s.toList == [105, 102]) = true := (by rw [h]; rfl)
      first | have q5 : (s.toList == [101, 108, 115, 101]) = false := (by rw [h]; rfl) | have q5 : (s.toList == [101, 108, 115, 101]) = true := (by rw [h]; rfl)
      first | have q6 : (s.toList == [119, 104, 105, 108, 101]) = false := (by rw [h]; rfl) | have q6 : (s.toList == [119, 104, 105, 108, 101]) = true := (by rw [h]; rfl)
      first | have q7 : (s.toList == [98, 114, 101, 97, 107]) = false := (by rw [h]; rfl) | have q7 : (s.toList == [98, 114, 101, 97, 107]) = true := (by rw [h]; rfl)
      first | have q8 : (s.toList == [99, 111, 110, 116, 105, 110, 117, 101]) = false := (by rw [h]; rfl) | have q8 : (s.toList == [99, 111, 110, 116, 105, 110, 117, 101]) = true := (by rw [h]; rfl)
      first | have q9 : (s.toList == [114, 101, 116, 117, 114, 110]) = false := (by rw [h]; rfl) | have q9 : (s.toList == [114, 101, 116, 117, 114, 110]) = true := (by rw [h]; rfl)
      first | have q10 : (s.toList == [103, 111, 116, 111]) = false := (by rw [h]; rfl) | have q10 : (s.toList == [103, 111, 116, 111]) = true := (by rw [h]; rfl)
      first | have q11 : (s.toList == [114, 101, 97, 100]) = false := (by rw [h]; rfl) | have q11 : (s.toList == [114, 101, 97, 100]) = true := (by rw [h]; rfl)
      first | have q12 : (s.toList == [112, 114, 105, 110, 116]) = false := (by rw [h]; rfl) | have q12 : (s.toList == [112, 114, 105, 110, 116]) = true := (by rw [h]; rfl)
      clear h
      go_enter Try.func105, Try.ntmps105
      go_wp2
      go_ret
      exact ⟨rfl, rfl⟩
  · have hw' : isWd (bl s) = false := by simpa using hw
    rw [hw']
    clear hw
    simp only [isWd, wds, List.any_cons, List.any_nil, Bool.or_false, Bool.or_eq_false_iff, beq_eq_false_iff_ne, ne_eq, ← bl_toList] at hw'
    obtain ⟨h0, h1, h2, h3, h4, h5, h6, h7, h8, h9, h10, h11, h12⟩ := hw'
    have q0 : (s.toList == [103, 108, 111, 98, 97, 108]) = false := by simpa using h0
    have q1 : (s.toList == [112, 114, 111, 99]) = false := by simpa using h1
    have q2 : (s.toList == [118, 97, 114]) = false := by simpa using h2
    have q3 : (s.toList == [114, 101, 102]) = false := by simpa using h3
    have q4 : (s.toList == [105, 102]) = false := by simpa using h4
    have q5 : (s.toList == [101, 108, 115, 101]) = false := by simpa using h5
    have q6 : (s.toList == [119, 104, 105, 108, 101]) = false := by simpa using h6
    have q7 : (s.toList == [98, 114, 101, 97, 107]) = false := by simpa using h7
    have q8 : (s.toList == [99, 111, 110, 116, 105, 110, 117, 101]) = false := by simpa using h8
    have q9 : (s.toList == [114, 101, 116, 117, 114, 110]) = false := by simpa using h9
    have q10 : (s.toList == [103, 111, 116, 111]) = false := by simpa using h10
    have q11 : (s.toList == [114, 101, 97, 100]) = false := by simpa using h11
    have q12 : (s.toList == [112, 114, 105, 110, 116]) = false := by simpa using h12
    clear h0 h1 h2 h3 h4 h5 h6 h7 h8 h9 h10 h11 h12
    go_enter Try.func105, Try.ntmps105
    go_wp2
    go_ret
    exact ⟨rfl, rfl⟩
set_option maxHeartbeats 4000000 in
theorem Name_any (s : ByteArray) (w : World) (hs : s.size ≤ maxLen) :
    Calls Try.prog 46 #[.string s] w fun e w' => e = .returned (.bool (isNm (bl s))) ∧ w = w' := by
  unfold maxLen at hs
  by_cases h0 : s.size = 0
  · rw [nm_zero s h0]
    have q0 : (((s.size : Nat) : Int) == 0) = true := by rw [h0]; rfl
    clear h0
    go_enter Try.func46, Try.ntmps46
    go_wp2
    go_ret
    exact ⟨rfl, rfl⟩
  · have q0 : (((s.size : Nat) : Int) == 0) = false := beq_eq_false_iff_ne.2 (by omega)
    have hp : 0 < s.size := by omega
    by_cases h8 : 8 < s.size
    · rw [nm_long s h8]
      clear h0
      go_enter Try.func46, Try.ntmps46
      go_wp2
      go_ret
      exact ⟨rfl, rfl⟩
    · clear h0
      cases hl : isLo s[0] with
      | false =>
        rw [nm_head s hp hl]
        go_enter Try.func46, Try.ntmps46
        go_wp2_with (go_at_call 81; refine (letter_any _ _).mono ?_; rintro e w' ⟨rfl, rfl⟩)
        go_ret
        exact ⟨rfl, rfl⟩
      | true =>
        go_enter Try.func46, Try.ntmps46
        go_wp2_with (go_at_call 81; refine (letter_any _ _).mono ?_; rintro e w' ⟨rfl, rfl⟩)
        go_loop [3, 20] (fun _ i => ∃ k : Nat, k ≤ s.size ∧ i = .int .i64 k ∧ Hid (∀ j (hj : j < s.size), j < k → isLD s[j] = true)) (fun _ i => s.size - (intOf i).toNat)
        case atStart => exact ⟨0, Nat.zero_le _, rfl, Lib.hid (fun j hj h => absurd h (by omega))⟩
        case round =>
          obtain ⟨k, hk, rfl, HA⟩ := hrel
          by_cases hlt : k < s.size
          · cases hld : isLD s[k] with
            | true =>
              have HA' : Hid (∀ j (hj : j < s.size), j < k + 1 → isLD s[j] = true) := Lib.hid (fun j hj h => by
                by_cases e : j = k
                · subst e; exact hld
                · exact HA.out j hj (by omega))
              rcases ld_cases hld with hl1 | ⟨hl1, hd1⟩
              all_goals
                clear hld
                go_wp2_with (first
                  | (go_at_call 81; refine (letter_any _ _).mono ?_; rintro e w' ⟨rfl, rfl⟩)
                  | (go_at_call 82; refine (digit_any _ _).mono ?_; rintro e w' ⟨rfl, rfl⟩))
                go_round
                case rel => exact ⟨k + 1, by omega, by go_num, HA'⟩
                case measure => simp [intOf]; omega
            | false =>
              have HN := Lib.hid (nm_in s k hlt hld)
              obtain ⟨hl1, hd1⟩ := ld_false hld
              clear hld
              go_wp2_with (first
                | (go_at_call 81; refine (letter_any _ _).mono ?_; rintro e w' ⟨rfl, rfl⟩)
                | (go_at_call 82; refine (digit_any _ _).mono ?_; rintro e w' ⟨rfl, rfl⟩))
              go_ret
              exact ⟨ret_bool HN.out.symm, rfl⟩
          · have HN := Lib.hid (nm_all s hp (by omega) hl (fun j hj => HA.out j hj (by omega)))
            go_wp2_with (go_at_call 105; refine (Word_any _ _).mono ?_; rintro e w' ⟨rfl, rfl⟩)
            go_ret
            exact ⟨ret_bool HN.out.symm, rfl⟩
end Go.Proofs.Ytcocilpifdjibaa
namespace Go.Proofs.Ytcocilpifdjibaa
open Go.ChangeShapes Go.WideShapes Go.ChangeAt Go.RowKit
set_option linter.unusedVariables false
end Go.Proofs.Ytcocilpifdjibaa
namespace Go.Proofs.Ytcocilpifdjibaa
open Go.ChangeShapes Go.WideShapes Go.ChangeAt Go.RowKit Go.Deep
set_option linter.unusedVariables false
theorem operands_any (op : Int) (w : World) : Calls Try.prog 195 #[.int .i64 op] w fun e w' => e = .returned (.int .i64 (opN op)) ∧ w = w' := by
  unfold opN
  by_cases h3 : op = 3
  · subst h3
    go_enter Try.func195, Try.ntmps195
    go_wp2
    go_ret
    exact ⟨rfl, rfl⟩
  · by_cases h4 : op = 4
    · subst h4
      go_enter Try.func195, Try.ntmps195
      go_wp2
      go_ret
      exact ⟨rfl, rfl⟩
    · rw [if_neg (by omega)]
      have q3 : (op == 3) = false := beq_eq_false_iff_ne.2 h3
      have q4 : (op == 4) = false := beq_eq_false_iff_ne.2 h4
      clear h3 h4
      by_cases h5 : 5 ≤ op
      · by_cases h6 : op ≤ 17
        · rw [if_pos ⟨h5, h6⟩]
          go_enter Try.func195, Try.ntmps195
          go_wp2
          go_ret
          exact ⟨rfl, rfl⟩
        · rw [if_neg (by omega)]
          go_enter Try.func195, Try.ntmps195
          go_wp2
          go_ret
          exact ⟨rfl, rfl⟩
      · rw [if_neg (by omega)]
        go_enter Try.func195, Try.ntmps195
        go_wp2
        go_ret
        exact ⟨rfl, rfl⟩
theorem opN_le (op : Int) : -1 ≤ opN op ∧ opN op ≤ 2 := by unfold opN; split <;> (try split) <;> omega
theorem below_box {W : World} (o : Obj) : Below W.heap.size W (W.alloc o) := (Below.refl _ _).alloc (Nat.le_refl _) o
theorem quiet_same {P : Program} {f : FuncId} {args : Array Value} {w : World} {n : Nat} {v : Value}
    (h : Calls P f args (w.drewN n) fun e w' => e = .returned v ∧ w.drewN n = w') : Calls P f args (w.drewN n) fun e w'' => e = .returned v ∧ ∃ m, w'' = w.drewN m :=
  h.mono fun _ _ ⟨he, hm⟩ => ⟨he, n, hm.symm⟩
theorem below_drewN {B : Nat} {a w : World} (h : Below B a w) (k : Nat) : Below B a (w.drewN k) := ⟨h.os, h.tape, h.output, h.size, h.block⟩
def MayOk (b : Bool) (W : World) (e : Ending) (w' : World) : Prop := e = .returned (.bool b) ∧ Below W.heap.size W w'
set_option maxHeartbeats 1000000 in
theorem mayExprWithin_any {w : World} {Q : Nat → Prop} {e : E} {cs : List Value} (h : ExprI w Q e cs) : ∀ (c0 c1 c2 c3 : Value), cs = [c0, c1, c2, c3] → ∀ (d : Int) (W : World), 0 ≤ d → d ≤ 100 → In Q w W →
    Calls Try.prog 162 #[.agg #[c0, c1, c2, c3], .int .i64 d] W (MayOk (mayE d.toNat e) W) := by
  induction h with
  | @mk op n nm ks A cap css hop hn hnm hcap hA hk ih =>
    intro c0 c1 c2 c3 hcs d W hdl hd hI
    simp only [List.cons.injEq, and_true] at hcs
    obtain ⟨rfl, rfl, rfl, rfl⟩ := hcs
    unfold i64 at hop hn
    have HA := Lib.hid hA
    have HK := Lib.hid hk
    have IH := Lib.hid ih
    have HI := Lib.hid hI
    clear hA hk ih hI
    by_cases hd0 : d = 0
    · have qd : (d == 0) = true := by simp [hd0]
      have HM : Hid (mayE d.toNat (.mk op n nm ks) = false) := Lib.hid (by rw [mayE]; simp [hd0])
      clear hd0
      go_enter Try.func162, Try.ntmps162
      go_wp2_with fail
      go_ret
      exact ⟨ret_bool HM.out.symm, below_box _⟩
    · have qd : (d == 0) = false := beq_eq_false_iff_ne.2 (by omega)
      by_cases h1 : op = 1
      · have q1 : (op == 1) = true := by simp [h1]
        have HM : Hid (mayE d.toNat (.mk op n nm ks) = (decide (n ≥ 0) && nm.toList.isEmpty && (((ks.length : Nat) : Int) == 0))) := Lib.hid (by
          rw [mayE, if_pos h1, toList_emp, decide_eq_true (show 0 < d.toNat by omega), Bool.true_and]
          congr 1
          rw [Bool.eq_iff_iff]; simp)
        clear h1 hd0
        go_enter Try.func162, Try.ntmps162
        go_wp2_with fail
        all_goals
          go_ret
          exact ⟨ret_bool (by rw [HM.out]; first | (simp_all; done) | (simp_all; intros; omega)), below_box _⟩
      · by_cases h2 : op = 2
        · have q1 : (op == 1) = false := beq_eq_false_iff_ne.2 h1
          have q2 : (op == 2) = true := by simp [h2]
          have HM : Hid (mayE d.toNat (.mk op n nm ks) = ((n == 0) && isNm (bl nm) && (((ks.length : Nat) : Int) == 0))) := Lib.hid (by
            rw [mayE, if_neg h1, if_pos h2, decide_eq_true (show 0 < d.toNat by omega), Bool.true_and]
            congr 1
            all_goals (rw [Bool.eq_iff_iff]; simp))
          clear h1 h2 hd0
          go_enter Try.func162, Try.ntmps162
          go_wp2_with (go_at_call 46; refine (Name_any _ _ (by unfold maxLen; omega)).mono ?_; rintro e w' ⟨rfl, rfl⟩)
          all_goals
            go_ret
            exact ⟨ret_bool (by rw [HM.out]; first | (simp_all; done) | (simp_all; intros; omega)), below_box _⟩
        · have q1 : (op == 1) = false := beq_eq_false_iff_ne.2 h1
          have q2 : (op == 2) = false := beq_eq_false_iff_ne.2 h2
          have HM : Hid (mayE d.toNat (.mk op n nm ks) = ((n == 0) && nm.toList.isEmpty && (((ks.length : Nat) : Int) == opN op) && mayL (d.toNat - 1) ks)) := Lib.hid (by
            rw [mayE, if_neg h1, if_neg h2, toList_emp, decide_eq_true (show 0 < d.toNat by omega), Bool.true_and]
            congr 1
            all_goals (rw [Bool.eq_iff_iff]; simp))
          have hd1 : 1 ≤ d := by omega
          clear h1 h2 hd0
          cases hn0 : (n == 0) with
          | false =>
            have hn1 : (n != 0) = true := by rw [bne, hn0]; rfl
            go_enter Try.func162, Try.ntmps162
            go_wp2_with fail
            go_quiet (fail)
            go_wp2_with fail
            go_ret
            exact ⟨ret_bool (by rw [HM.out]; simp_all), below_drewN (below_box _) _⟩
          | true =>
            have hn1 : (n != 0) = false := by rw [bne, hn0]; rfl
            cases hm0 : nm.toList.isEmpty with
            | false =>
              have hm1 : (nm.toList != []) = true := by rw [toList_bne]; rw [toList_emp] at hm0; rw [hm0]; rfl
              go_enter Try.func162, Try.ntmps162
              go_wp2_with fail
              go_quiet (fail)
              go_wp2_with fail
              go_ret
              exact ⟨ret_bool (by rw [HM.out]; simp_all), below_drewN (below_box _) _⟩
            | true =>
              have hm1 : (nm.toList != []) = false := by rw [toList_bne]; rw [toList_emp] at hm0; rw [hm0]; rfl
              cases hk0 : (((ks.length : Nat) : Int) == opN op) with
              | false =>
                have hk1 : (((ks.length : Nat) : Int) != opN op) = true := by rw [bne, hk0]; rfl
                go_enter Try.func162, Try.ntmps162
                go_wp2_with fail
                go_quiet ((go_at_call 195; exact quiet_same (operands_any _ _)))
                go_wp2_with fail
                go_ret
                exact ⟨ret_bool (by rw [HM.out]; simp_all), below_drewN (below_box _) _⟩
              | true =>
                have hk1 : (((ks.length : Nat) : Int) != opN op) = false := by rw [bne, hk0]; rfl
                go_enter Try.func162, Try.ntmps162
                go_wp2_with fail
                go_quiet ((go_at_call 195; exact quiet_same (operands_any _ _)))
                go_wp2_with fail
                have HB1 : Hid (Below W.heap.size W ((W.alloc (.cells #[.int .i64 op, .int .i64 n, .string nm, .slice A ks.length cap] 45)).drewN nq)) := Lib.hid (below_drewN (below_box _) _)
                generalize World.drewN _ nq = W1 at HB1 ⊢
                rw [hk0, hm0, hn0] at HM
                go_loopw [66] (fun i wr => ∃ k : Nat, k ≤ ks.length ∧ i = .int .i64 k ∧ Hid (mayL (d.toNat - 1) (ks.drop k) = mayL (d.toNat - 1) ks) ∧ Hid (Below W1.heap.size W1 wr)) (fun i _ => ks.length - (intOf i).toNat)
                case atStart => exact ⟨0, Nat.zero_le _, rfl, Lib.hid (by rw [List.drop_zero]), Lib.hid (Below.refl _ _)⟩
                case round =>
                  obtain ⟨k, hk, rfl, HW, HR⟩ := hrel
                  by_cases hlt : k < ks.length
                  · obtain ⟨a, rfl, hab, hcell⟩ := HA.out (by omega)
                    obtain ⟨d0, d1, d2, d3, l3, c3, hd'⟩ := (HK.out k hlt).form
                    have hIr : In Q w wr := HI.out.on (HB1.out.trans (HR.out.mono HB1.out.size))
                    have p0 : wr.cell? (a.add (k * 4)) = some (.int .i64 d0) := (hIr.cell (by rw [block_add]; exact hab)).trans (hcell k hlt 0 _ (by rw [hd']; rfl))
                    have p1 := cell_off (by decide) (show wr.cell? (a.add (k * 4 + 1)) = some (.int .i64 d1) from (hIr.cell (by rw [block_add]; exact hab)).trans (hcell k hlt 1 _ (by rw [hd']; rfl)))
                    have p2 := cell_off (by decide) (show wr.cell? (a.add (k * 4 + 2)) = some (.string d2) from (hIr.cell (by rw [block_add]; exact hab)).trans (hcell k hlt 2 _ (by rw [hd']; rfl)))
                    have p3 := cell_off (by decide) (show wr.cell? (a.add (k * 4 + 3)) = some (.slice d3 l3 c3) from (hIr.cell (by rw [block_add]; exact hab)).trans (hcell k hlt 3 _ (by rw [hd']; rfl)))
                    have HC := Lib.hid (IH.out k hlt _ _ _ _ hd' (d - 1))
                    have HIr := Lib.hid hIr
                    clear hcell hd' hIr hab
                    have HN : Hid (mayL (d.toNat - 1) ks = (mayE (d - 1).toNat ks[k] && mayL (d.toNat - 1) (ks.drop (k + 1)))) := Lib.hid (by
                      have h1 := HW.out
                      rw [mayL_drop hlt] at h1
                      rw [← h1, show (d - 1).toNat = d.toNat - 1 by omega])
                    cases hv : mayE (d - 1).toNat ks[k] with
                    | true =>
                      rw [hv] at HC HN
                      clear hv
                      go_wp2_with (go_at_call 162; refine (HC.out _ (by omega) (by omega) (HIr.out.alloc _)).mono ?_; rintro e w2 ⟨rfl, hb2⟩)
                      go_roundw
                      case rel => exact ⟨k + 1, by omega, by go_num, Lib.hid (by rw [HN.out, Bool.true_and]), Lib.hid (HR.out.trans ((below_new hb2).mono HR.out.size))⟩
                      case measure => simp [intOf]; omega
                    | false =>
                      rw [hv] at HC HN
                      clear hv
                      go_wp2_with (go_at_call 162; refine (HC.out _ (by omega) (by omega) (HIr.out.alloc _)).mono ?_; rintro e w2 ⟨rfl, hb2⟩)
                      go_ret
                      exact ⟨ret_bool (by rw [HM.out, HN.out]; rfl), HB1.out.trans ((HR.out.trans ((below_new hb2).mono HR.out.size)).mono HB1.out.size)⟩
                  · have HN : Hid (mayL (d.toNat - 1) ks = true) := Lib.hid (by
                      have h1 := HW.out
                      rw [List.drop_of_length_le (by omega), mayL] at h1
                      exact h1.symm)
                    go_wp2_with fail
                    go_ret
                    exact ⟨ret_bool (by rw [HM.out, HN.out]; rfl), HB1.out.trans (HR.out.mono HB1.out.size)⟩
theorem MayExpr_any {w : World} {Q : Nat → Prop} {e : E} {c0 c1 c2 c3 : Value} (h : ExprI w Q e [c0, c1, c2, c3]) (W : World) (hI : In Q w W) :
    Calls Try.prog 111 #[.agg #[c0, c1, c2, c3]] W (MayOk (mayE 20 e) W) := by
  have HC := Lib.hid (mayExprWithin_any h c0 c1 c2 c3 rfl 20)
  have HI := Lib.hid hI
  obtain ⟨d0, d1, d2, d3, l3, k3, hd'⟩ := h.form
  simp only [List.cons.injEq, and_true] at hd'
  obtain ⟨rfl, rfl, rfl, rfl⟩ := hd'
  clear h hI
  go_enter Try.func111, Try.ntmps111
  go_wp2_with (go_at_call 162; refine (HC.out _ (by omega) (by omega) (HI.out.alloc _)).mono ?_; rintro e w2 ⟨rfl, hb2⟩)
  go_ret
  exact ⟨rfl, below_new hb2⟩
end Go.Proofs.Ytcocilpifdjibaa
