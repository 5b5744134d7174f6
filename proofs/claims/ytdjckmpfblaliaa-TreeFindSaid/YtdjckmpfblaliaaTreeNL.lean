/- lex.Name and lex.Word, and what they call. -/
import Derived.Test.YtdjckmpfblaliaaTreeB
namespace Go.Proofs.Ytdjckmpfblaliaa
open Go.ChangeShapes Go.WideShapes Go.ChangeAt Go.RowKit
set_option linter.unusedVariables false

theorem digit_any (c : UInt8) (w : World) :
    Calls Try.prog 101 #[.int .u8 c.toNat] w fun e w' => e = .returned (.bool (isDi c)) ∧ w = w' := by
  go_enter Try.func101, Try.ntmps101
  go_wp2
  all_goals
    go_ret
    refine ⟨ret_bool ?_, rfl⟩
    simp only [isDi]
    rw [Bool.eq_iff_iff]
    simp only [Bool.and_eq_true, decide_eq_true_eq, Bool.false_eq_true]
    first | omega | (simp only [false_iff, not_and]; intro _; omega)
theorem letter_any (c : UInt8) (w : World) :
    Calls Try.prog 100 #[.int .u8 c.toNat] w fun e w' => e = .returned (.bool (isLo c)) ∧ w = w' := by
  go_enter Try.func100, Try.ntmps100
  go_wp2
  all_goals
    go_ret
    refine ⟨ret_bool ?_, rfl⟩
    simp only [isLo]
    rw [Bool.eq_iff_iff]
    simp only [Bool.and_eq_true, decide_eq_true_eq, Bool.false_eq_true]
    first | omega | (simp only [false_iff, not_and]; intro _; omega)
set_option maxHeartbeats 1000000 in
theorem Word_any (s : ByteArray) (w : World) :
    Calls Try.prog 102 #[.string s] w fun e w' => e = .returned (.bool (isWd (bl s))) ∧ w = w' := by
  by_cases hw : isWd (bl s) = true
  · rw [hw]
    simp only [isWd, wds, List.any_cons, List.any_nil, Bool.or_false, Bool.or_eq_true, beq_iff_eq, ← bl_toList] at hw
    rcases hw with h | h | h | h | h | h | h | h | h | h | h | h | h
    all_goals
      first | have q0 : (s.toList == [103, 108, 111, 98, 97, 108]) = false := (by rw [h]; rfl) | have q0 : (s.toList == [103, 108, 111, 98, 97, 108]) = true := (by rw [h]; rfl)
      first | have q1 : (s.toList == [112, 114, 111, 99]) = false := (by rw [h]; rfl) | have q1 : (s.toList == [112, 114, 111, 99]) = true := (by rw [h]; rfl)
      first | have q2 : (s.toList == [118, 97, 114]) = false := (by rw [h]; rfl) | have q2 : (s.toList == [118, 97, 114]) = true := (by rw [h]; rfl)
      first | have q3 : (s.toList == [114, 101, 102]) = false := (by rw [h]; rfl) | have q3 : (s.toList == [114, 101, 102]) = true := (by rw [h]; rfl)
      first | have q4 : (s.toList == [105, 102]) = false := (by rw [h]; rfl) | have q4 : (s.toList == [105, 102]) = true := (by rw [h]; rfl)
      first | have q5 : (s.toList == [101, 108, 115, 101]) = false := (by rw [h]; rfl) | have q5 : (s.toList == [101, 108, 115, 101]) = true := (by rw [h]; rfl)
      first | have q6 : (s.toList == [119, 104, 105, 108, 101]) = false := (by rw [h]; rfl) | have q6 : (s.toList == [119, 104, 105, 108, 101]) = true := (by rw [h]; rfl)
      first | have q7 : (s.toList == [98, 114, 101, 97, 107]) = false := (by rw [h]; rfl) | have q7 : (s.toList == [98, 114, 101, 97, 107]) = true := (by rw [h]; rfl)
      first | have q8 : (s.toList == [99, 111, 110, 116, 105, 110, 117, 101]) = false := (by rw [h]; rfl) | have q8 : (s.toList == [99, 111, 110, 116, 105, 110, 117, 101]) = true := (by rw [h]; rfl)
      first | have q9 : (s.toList == [114, 101, 116, 117, 114, 110]) = false := (by rw [h]; rfl) | have q9 : (s.toList == [114, 101, 116, 117, 114, 110]) = true := (by rw [h]; rfl)
      first | have q10 : (s.toList == [103, 111, 116, 111]) = false := (by rw [h]; rfl) | have q10 : (s.toList == [103, 111, 116, 111]) = true := (by rw [h]; rfl)
      first | have q11 : (s.toList == [114, 101, 97, 100]) = false := (by rw [h]; rfl) | have q11 : (s.toList == [114, 101, 97, 100]) = true := (by rw [h]; rfl)
      first | have q12 : (s.toList == [112, 114, 105, 110, 116]) = false := (by rw [h]; rfl) | have q12 : (s.toList == [112, 114, 105, 110, 116]) = true := (by rw [h]; rfl)
      clear h
      go_enter Try.func102, Try.ntmps102
      go_wp2
      go_ret
      exact ⟨rfl, rfl⟩
  · have hw' : isWd (bl s) = false := by simpa using hw
    rw [hw']
    clear hw
    simp only [isWd, wds, List.any_cons, List.any_nil, Bool.or_false, Bool.or_eq_false_iff, beq_eq_false_iff_ne, ne_eq, ← bl_toList] at hw'
    obtain ⟨h0, h1, h2, h3, h4, h5, h6, h7, h8, h9, h10, h11, h12⟩ := hw'
    have q0 : (s.toList == [103, 108, 111, 98, 97, 108]) = false := by simpa using h0
    have q1 : (s.toList == [112, 114, 111, 99]) = false := by simpa using h1
    have q2 : (s.toList == [118, 97, 114]) = false := by simpa using h2
    have q3 : (s.toList == [114, 101, 102]) = false := by simpa using h3
    have q4 : (s.toList == [105, 102]) = false := by simpa using h4
    have q5 : (s.toList == [101, 108, 115, 101]) = false := by simpa using h5
    have q6 : (s.toList == [119, 104, 105, 108, 101]) = false := by simpa using h6
    have q7 : (s.toList == [98, 114, 101, 97, 107]) = false := by simpa using h7
    have q8 : (s.toList == [99, 111, 110, 116, 105, 110, 117, 101]) = false := by simpa using h8
    have q9 : (s.toList == [114, 101, 116, 117, 114, 110]) = false := by simpa using h9
    have q10 : (s.toList == [103, 111, 116, 111]) = false := by simpa using h10
    have q11 : (s.toList == [114, 101, 97, 100]) = false := by simpa using h11
    have q12 : (s.toList == [112, 114, 105, 110, 116]) = false := by simpa using h12
    clear h0 h1 h2 h3 h4 h5 h6 h7 h8 h9 h10 h11 h12
    go_enter Try.func102, Try.ntmps102
    go_wp2
    go_ret
    exact ⟨rfl, rfl⟩
set_option maxHeartbeats 4000000 in
theorem Name_any (s : ByteArray) (w : World) (hs : s.size ≤ maxLen) :
    Calls Try.prog 73 #[.string s] w fun e w' => e = .returned (.bool (isNm (bl s))) ∧ w = w' := by
  unfold maxLen at hs
  by_cases h0 : s.size = 0
  · rw [nm_zero s h0]
    have q0 : (((s.size : Nat) : Int) == 0) = true := by rw [h0]; rfl
    clear h0
    go_enter Try.func73, Try.ntmps73
    go_wp2
    go_ret
    exact ⟨rfl, rfl⟩
  · have q0 : (((s.size : Nat) : Int) == 0) = false := beq_eq_false_iff_ne.2 (by omega)
    have hp : 0 < s.size := by omega
    by_cases h8 : 8 < s.size
    · rw [nm_long s h8]
      clear h0
      go_enter Try.func73, Try.ntmps73
      go_wp2
      go_ret
      exact ⟨rfl, rfl⟩
    · clear h0
      cases hl : isLo s[0] with
      | false =>
        rw [nm_head s hp hl]
        go_enter Try.func73, Try.ntmps73
        go_wp2_with (go_at_call 100; refine (letter_any _ _).mono ?_; rintro e w' ⟨rfl, rfl⟩)
        go_ret
        exact ⟨rfl, rfl⟩
      | true =>
        go_enter Try.func73, Try.ntmps73
        go_wp2_with (go_at_call 100; refine (letter_any _ _).mono ?_; rintro e w' ⟨rfl, rfl⟩)
        go_loop [3, 20] (fun _ i => ∃ k : Nat, k ≤ s.size ∧ i = .int .i64 k ∧ Hid (∀ j (hj : j < s.size), j < k → isLD s[j] = true)) (fun _ i => s.size - (intOf i).toNat)
        case atStart => exact ⟨0, Nat.zero_le _, rfl, Lib.hid (fun j hj h => absurd h (by omega))⟩
        case round =>
          obtain ⟨k, hk, rfl, HA⟩ := hrel
          by_cases hlt : k < s.size
          · cases hld : isLD s[k] with
            | true =>
              have HA' : Hid (∀ j (hj : j < s.size), j < k + 1 → isLD s[j] = true) := Lib.hid (fun j hj h => by
                by_cases e : j = k
                · subst e; exact hld
                · exact HA.out j hj (by omega))
              rcases ld_cases hld with hl1 | ⟨hl1, hd1⟩
              all_goals
                clear hld
                go_wp2_with (first
                  | (go_at_call 100; refine (letter_any _ _).mono ?_; rintro e w' ⟨rfl, rfl⟩)
                  | (go_at_call 101; refine (digit_any _ _).mono ?_; rintro e w' ⟨rfl, rfl⟩))
                go_round
                case rel => exact ⟨k + 1, by omega, by go_num, HA'⟩
                case measure => simp [intOf]; omega
            | false =>
              have HN := Lib.hid (nm_in s k hlt hld)
              obtain ⟨hl1, hd1⟩ := ld_false hld
              clear hld
              go_wp2_with (first
                | (go_at_call 100; refine (letter_any _ _).mono ?_; rintro e w' ⟨rfl, rfl⟩)
                | (go_at_call 101; refine (digit_any _ _).mono ?_; rintro e w' ⟨rfl, rfl⟩))
              go_ret
              exact ⟨ret_bool HN.out.symm, rfl⟩
          · have HN := Lib.hid (nm_all s hp (by omega) hl (fun j hj => HA.out j hj (by omega)))
            go_wp2_with (go_at_call 102; refine (Word_any _ _).mono ?_; rintro e w' ⟨rfl, rfl⟩)
            go_ret
            exact ⟨ret_bool HN.out.symm, rfl⟩
end Go.Proofs.Ytdjckmpfblaliaa
