/- Contracts of the small functions of package lex: what each returns, and what becomes of the world. -/
import Derived.Test.YtcncbdnnakfgcaaRows
import Derived.Test.YtcncbdnnakfgcaaLexP
import Derived.WalkKit
import Derived.ProofKit
import Derived.OpenShut
import Derived.Lib.Strings
import Derived.Lib.IndexBytes
import Derived.Lib.Walk
import Derived.Lib.BufferWrite
import Derived.Lib.UnsafeStr
import Derived.Lib.Hide
import Derived.Laws.MakeOwn
import Derived.Below
namespace Go.Proofs.Ytcncbdnnakfgcaa
open Go.ChangeShapes Go.WideShapes Go.ChangeAt Go.RowKit

def intOf : Value → Int | .int _ q => q | _ => 0
abbrev bl (s : ByteArray) : Bs := s.data.toList
def bs (l : Bs) : ByteArray := ⟨l.toArray⟩
theorem bs_bl (s : ByteArray) : bs (bl s) = s := Lib.mk_data s
theorem bl_bs (l : Bs) : bl (bs l) = l := by simp [bl, bs]
theorem bl_toList (s : ByteArray) : s.toList = bl s := Lib.toList_data s
theorem bs_extract (s : ByteArray) (a b : Nat) : s.extract a b = bs (((bl s).drop a).take (b - a)) := Lib.extract_eq s a b
theorem size_bl (s : ByteArray) : s.size = (bl s).length := Lib.size_eq s
theorem bl_at (s : ByteArray) (k : Nat) (h : k < s.size) : (bl s).drop k = s[k] :: (bl s).drop (k + 1) := by
  have hl : k < (bl s).length := by rw [← size_bl]; exact h
  rw [List.drop_eq_getElem_cons hl]
  rfl

theorem ret_bool {a b : Bool} (h : a = b) : Ending.returned (.bool a) = .returned (.bool b) := by rw [h]
theorem ret_int {k : IntKind} {a b : Int} (h : a = b) : Ending.returned (.int k a) = .returned (.int k b) := by rw [h]
theorem sgn_nil : sgn [] = 0 := rfl
theorem sgn_yes {c : UInt8} {r : Bs} (h : isTwo ((c :: r).take 2) = false) (h1 : isOne c = true) : sgn (c :: r) = 1 := by
  unfold sgn
  rw [h]
  simp [h1]
theorem sgn_no {c : UInt8} {r : Bs} (h : isTwo ((c :: r).take 2) = false) (h1 : isOne c = false) : sgn (c :: r) = 0 := by
  unfold sgn
  rw [h]
  simp [h1]

theorem digit_any (c : UInt8) (w : World) :
    Calls Try.prog 30 #[.int .u8 c.toNat] w fun e w' => e = .returned (.bool (isDi c)) ∧ w = w' := by
  go_enter Try.func30, Try.ntmps30
  go_wp2
  all_goals
    go_ret
    refine ⟨ret_bool ?_, rfl⟩
    simp only [isDi]
    rw [Bool.eq_iff_iff]
    simp only [Bool.and_eq_true, decide_eq_true_eq, Bool.false_eq_true]
    first | omega | (simp only [false_iff, not_and]; intro _; omega)
theorem letter_any (c : UInt8) (w : World) :
    Calls Try.prog 29 #[.int .u8 c.toNat] w fun e w' => e = .returned (.bool (isLo c)) ∧ w = w' := by
  go_enter Try.func29, Try.ntmps29
  go_wp2
  all_goals
    go_ret
    refine ⟨ret_bool ?_, rfl⟩
    simp only [isLo]
    rw [Bool.eq_iff_iff]
    simp only [Bool.and_eq_true, decide_eq_true_eq, Bool.false_eq_true]
    first | omega | (simp only [false_iff, not_and]; intro _; omega)
theorem space_no (c : UInt8) (w : World) (h : isSp c = false) :
    Calls Try.prog 28 #[.int .u8 c.toNat] w fun e w' => e = .returned (.bool false) ∧ w = w' := by
  simp only [isSp, Bool.or_eq_false_iff, beq_eq_false_iff_ne] at h
  have q1 : (((c.toNat : Nat) : Int) == 32) = false := by simp; omega
  have q2 : (((c.toNat : Nat) : Int) == 9) = false := by simp; omega
  have q3 : (((c.toNat : Nat) : Int) == 10) = false := by simp; omega
  have q4 : (((c.toNat : Nat) : Int) == 13) = false := by simp; omega
  clear h
  go_enter Try.func28, Try.ntmps28
  go_wp2
  go_ret
  exact ⟨rfl, rfl⟩
theorem space_yes (c : UInt8) (w : World) (h : isSp c = true) :
    Calls Try.prog 28 #[.int .u8 c.toNat] w fun e w' => e = .returned (.bool true) ∧ w = w' := by
  simp only [isSp, Bool.or_eq_true, beq_iff_eq, or_assoc] at h
  rcases h with h | h | h | h
  all_goals
    rw [h]
    clear h
    go_enter Try.func28, Try.ntmps28
    go_wp2
    go_ret
    exact ⟨rfl, rfl⟩
theorem space_any (c : UInt8) (w : World) :
    Calls Try.prog 28 #[.int .u8 c.toNat] w fun e w' => e = .returned (.bool (isSp c)) ∧ w = w' := by
  cases h : isSp c
  · exact space_no c w h
  · exact space_yes c w h
set_option maxHeartbeats 1000000 in
theorem Word_any (s : ByteArray) (w : World) :
    Calls Try.prog 22 #[.string s] w fun e w' => e = .returned (.bool (isWd (bl s))) ∧ w = w' := by
  by_cases hw : isWd (bl s) = true
  · rw [hw]
    simp only [isWd, wds, List.any_cons, List.any_nil, Bool.or_false, Bool.or_eq_true, beq_iff_eq, ← bl_toList] at hw
    rcases hw with h | h | h | h | h | h | h | h | h | h | h | h | h
    all_goals
      first | have q0 : (s.toList == [103, 108, 111, 98, 97, 108]) = false := (by rw [h]; rfl) | have q0 : (s.toList == [103, 108, 111, 98, 97, 108]) = true := (by rw [h]; rfl)
      first | have q1 : (s.toList == [112, 114, 111, 99]) = false := (by rw [h]; rfl) | have q1 : (s.toList == [112, 114, 111, 99]) = true := (by rw [h]; rfl)
      first | have q2 : (s.toList == [118, 97, 114]) = false := (by rw [h]; rfl) | have q2 : (s.toList == [118, 97, 114]) = true := (by rw [h]; rfl)
      first | have q3 : (s.toList == [114, 101, 102]) = false := (by rw [h]; rfl) | have q3 : (s.toList == [114, 101, 102]) = true := (by rw [h]; rfl)
      first | have q4 : (s.toList == [105, 102]) = false := (by rw [h]; rfl) | have q4 : (s.toList == [105, 102]) = true := (by rw [h]; rfl)
      first | have q5 : (s.toList == [101, 108, 115, 101]) = false := (by rw [h]; rfl) | have q5 : (s.toList == [101, 108, 115, 101]) = true := (by rw [h]; rfl)
      first | have q6 : (s.toList == [119, 104, 105, 108, 101]) = false := (by rw [h]; rfl) | have q6 : (s.toList == [119, 104, 105, 108, 101]) = true := (by rw [h]; rfl)
      first | have q7 : (s.toList == [98, 114, 101, 97, 107]) = false := (by rw [h]; rfl) | have q7 : (s.toList == [98, 114, 101, 97, 107]) = true := (by rw [h]; rfl)
      first | have q8 : (s.toList == [99, 111, 110, 116, 105, 110, 117, 101]) = false := (by rw [h]; rfl) | have q8 : (s.toList == [99, 111, 110, 116, 105, 110, 117, 101]) = true := (by rw [h]; rfl)
      first | have q9 : (s.toList == [114, 101, 116, 117, 114, 110]) = false := (by rw [h]; rfl) | have q9 : (s.toList == [114, 101, 116, 117, 114, 110]) = true := (by rw [h]; rfl)
      first | have q10 : (s.toList == [103, 111, 116, 111]) = false := (by rw [h]; rfl) | have q10 : (s.toList == [103, 111, 116, 111]) = true := (by rw [h]; rfl)
      first | have q11 : (s.toList == [114, 101, 97, 100]) = false := (by rw [h]; rfl) | have q11 : (s.toList == [114, 101, 97, 100]) = true := (by rw [h]; rfl)
      first | have q12 : (s.toList == [112, 114, 105, 110, 116]) = false := (by rw [h]; rfl) | have q12 : (s.toList == [112, 114, 105, 110, 116]) = true := (by rw [h]; rfl)
      clear h
      go_enter Try.func22, Try.ntmps22
      go_wp2
      go_ret
      exact ⟨rfl, rfl⟩
  · have hw' : isWd (bl s) = false := by simpa using hw
    rw [hw']
    clear hw
    simp only [isWd, wds, List.any_cons, List.any_nil, Bool.or_false, Bool.or_eq_false_iff, beq_eq_false_iff_ne, ne_eq, ← bl_toList] at hw'
    obtain ⟨h0, h1, h2, h3, h4, h5, h6, h7, h8, h9, h10, h11, h12⟩ := hw'
    have q0 : (s.toList == [103, 108, 111, 98, 97, 108]) = false := by simpa using h0
    have q1 : (s.toList == [112, 114, 111, 99]) = false := by simpa using h1
    have q2 : (s.toList == [118, 97, 114]) = false := by simpa using h2
    have q3 : (s.toList == [114, 101, 102]) = false := by simpa using h3
    have q4 : (s.toList == [105, 102]) = false := by simpa using h4
    have q5 : (s.toList == [101, 108, 115, 101]) = false := by simpa using h5
    have q6 : (s.toList == [119, 104, 105, 108, 101]) = false := by simpa using h6
    have q7 : (s.toList == [98, 114, 101, 97, 107]) = false := by simpa using h7
    have q8 : (s.toList == [99, 111, 110, 116, 105, 110, 117, 101]) = false := by simpa using h8
    have q9 : (s.toList == [114, 101, 116, 117, 114, 110]) = false := by simpa using h9
    have q10 : (s.toList == [103, 111, 116, 111]) = false := by simpa using h10
    have q11 : (s.toList == [114, 101, 97, 100]) = false := by simpa using h11
    have q12 : (s.toList == [112, 114, 105, 110, 116]) = false := by simpa using h12
    clear h0 h1 h2 h3 h4 h5 h6 h7 h8 h9 h10 h11 h12
    go_enter Try.func22, Try.ntmps22
    go_wp2
    go_ret
    exact ⟨rfl, rfl⟩
set_option maxHeartbeats 1000000 in
theorem signLength_any (s : ByteArray) (w : World) (hs : s.size ≤ maxLen) :
    Calls Try.prog 40 #[.string s] w fun e w' => e = .returned (.int .i64 (sgn (bl s) : Nat)) ∧ w = w' := by
  unfold maxLen at hs
  have hx : (s.extract 0 2).toList = (bl s).take 2 := by rw [Lib.extract_toList]; simp
  by_cases h2 : isTwo ((bl s).take 2) = true
  · have hg : sgn (bl s) = 2 := by unfold sgn; rw [if_pos h2]
    have hz : 2 ≤ s.size := by have := sgn_le (bl s); rw [size_bl]; omega
    rw [hg]
    simp only [isTwo, pairs, List.any_cons, List.any_nil, Bool.or_false, Bool.or_eq_true, beq_iff_eq, ← hx] at h2
    clear hg hx
    rcases h2 with h | h | h | h | h | h
    all_goals
      first | have q0 : ((s.extract 0 2).toList == [61, 61]) = false := (by rw [h]; rfl) | have q0 : ((s.extract 0 2).toList == [61, 61]) = true := (by rw [h]; rfl)
      first | have q1 : ((s.extract 0 2).toList == [33, 61]) = false := (by rw [h]; rfl) | have q1 : ((s.extract 0 2).toList == [33, 61]) = true := (by rw [h]; rfl)
      first | have q2 : ((s.extract 0 2).toList == [60, 61]) = false := (by rw [h]; rfl) | have q2 : ((s.extract 0 2).toList == [60, 61]) = true := (by rw [h]; rfl)
      first | have q3 : ((s.extract 0 2).toList == [62, 61]) = false := (by rw [h]; rfl) | have q3 : ((s.extract 0 2).toList == [62, 61]) = true := (by rw [h]; rfl)
      first | have q4 : ((s.extract 0 2).toList == [38, 38]) = false := (by rw [h]; rfl) | have q4 : ((s.extract 0 2).toList == [38, 38]) = true := (by rw [h]; rfl)
      first | have q5 : ((s.extract 0 2).toList == [124, 124]) = false := (by rw [h]; rfl) | have q5 : ((s.extract 0 2).toList == [124, 124]) = true := (by rw [h]; rfl)
      clear h
      go_enter Try.func40, Try.ntmps40
      go_wp2
      go_ret
      exact ⟨rfl, rfl⟩
  · have h2' : isTwo ((bl s).take 2) = false := by simpa using h2
    have hg := Lib.hid h2'
    rw [← hx] at h2'
    clear h2 hx
    simp only [isTwo, pairs, List.any_cons, List.any_nil, Bool.or_false, Bool.or_eq_false_iff, beq_eq_false_iff_ne, ne_eq] at h2'
    obtain ⟨h0, h1, h2, h3, h4, h5⟩ := h2'
    have q0 : ((s.extract 0 2).toList == [61, 61]) = false := by simpa using h0
    have q1 : ((s.extract 0 2).toList == [33, 61]) = false := by simpa using h1
    have q2 : ((s.extract 0 2).toList == [60, 61]) = false := by simpa using h2
    have q3 : ((s.extract 0 2).toList == [62, 61]) = false := by simpa using h3
    have q4 : ((s.extract 0 2).toList == [38, 38]) = false := by simpa using h4
    have q5 : ((s.extract 0 2).toList == [124, 124]) = false := by simpa using h5
    clear h0 h1 h2 h3 h4 h5
    by_cases hz : s.size = 0
    · have hnil : bl s = [] := List.eq_nil_of_length_eq_zero (by rw [← size_bl]; exact hz)
      rw [hnil, sgn_nil]
      clear hnil hg
      have z1 : s.size < 1 := by omega
      go_enter Try.func40, Try.ntmps40
      go_wp2
      go_ret
      exact ⟨rfl, rfl⟩
    · have hz0 : 0 < s.size := by omega
      have hc := bl_at s 0 hz0
      rw [List.drop_zero] at hc
      have hg2 := hg.out
      rw [hc] at hg2
      rw [hc]
      clear hg hc
      by_cases ho : isOne s[0] = true
      · rw [sgn_yes hg2 ho]
        clear hg2
        simp only [isOne, ones, List.any_cons, List.any_nil, Bool.or_false, Bool.or_eq_true, beq_iff_eq] at ho
        by_cases hz2 : 2 ≤ s.size
        all_goals
          rcases ho with h | h | h | h | h | h | h | h | h | h | h | h | h | h | h | h
          all_goals
            first | have o40 : (((s[0].toNat : Nat) : Int) == 40) = false := (by rw [h]; rfl) | have o40 : (((s[0].toNat : Nat) : Int) == 40) = true := (by rw [h]; rfl)
            first | have o41 : (((s[0].toNat : Nat) : Int) == 41) = false := (by rw [h]; rfl) | have o41 : (((s[0].toNat : Nat) : Int) == 41) = true := (by rw [h]; rfl)
            first | have o123 : (((s[0].toNat : Nat) : Int) == 123) = false := (by rw [h]; rfl) | have o123 : (((s[0].toNat : Nat) : Int) == 123) = true := (by rw [h]; rfl)
            first | have o125 : (((s[0].toNat : Nat) : Int) == 125) = false := (by rw [h]; rfl) | have o125 : (((s[0].toNat : Nat) : Int) == 125) = true := (by rw [h]; rfl)
            first | have o44 : (((s[0].toNat : Nat) : Int) == 44) = false := (by rw [h]; rfl) | have o44 : (((s[0].toNat : Nat) : Int) == 44) = true := (by rw [h]; rfl)
            first | have o59 : (((s[0].toNat : Nat) : Int) == 59) = false := (by rw [h]; rfl) | have o59 : (((s[0].toNat : Nat) : Int) == 59) = true := (by rw [h]; rfl)
            first | have o58 : (((s[0].toNat : Nat) : Int) == 58) = false := (by rw [h]; rfl) | have o58 : (((s[0].toNat : Nat) : Int) == 58) = true := (by rw [h]; rfl)
            first | have o61 : (((s[0].toNat : Nat) : Int) == 61) = false := (by rw [h]; rfl) | have o61 : (((s[0].toNat : Nat) : Int) == 61) = true := (by rw [h]; rfl)
            first | have o33 : (((s[0].toNat : Nat) : Int) == 33) = false := (by rw [h]; rfl) | have o33 : (((s[0].toNat : Nat) : Int) == 33) = true := (by rw [h]; rfl)
            first | have o60 : (((s[0].toNat : Nat) : Int) == 60) = false := (by rw [h]; rfl) | have o60 : (((s[0].toNat : Nat) : Int) == 60) = true := (by rw [h]; rfl)
            first | have o62 : (((s[0].toNat : Nat) : Int) == 62) = false := (by rw [h]; rfl) | have o62 : (((s[0].toNat : Nat) : Int) == 62) = true := (by rw [h]; rfl)
            first | have o43 : (((s[0].toNat : Nat) : Int) == 43) = false := (by rw [h]; rfl) | have o43 : (((s[0].toNat : Nat) : Int) == 43) = true := (by rw [h]; rfl)
            first | have o45 : (((s[0].toNat : Nat) : Int) == 45) = false := (by rw [h]; rfl) | have o45 : (((s[0].toNat : Nat) : Int) == 45) = true := (by rw [h]; rfl)
            first | have o42 : (((s[0].toNat : Nat) : Int) == 42) = false := (by rw [h]; rfl) | have o42 : (((s[0].toNat : Nat) : Int) == 42) = true := (by rw [h]; rfl)
            first | have o47 : (((s[0].toNat : Nat) : Int) == 47) = false := (by rw [h]; rfl) | have o47 : (((s[0].toNat : Nat) : Int) == 47) = true := (by rw [h]; rfl)
            first | have o37 : (((s[0].toNat : Nat) : Int) == 37) = false := (by rw [h]; rfl) | have o37 : (((s[0].toNat : Nat) : Int) == 37) = true := (by rw [h]; rfl)
            clear h
            go_enter Try.func40, Try.ntmps40
            go_wp2
            go_ret
            exact ⟨rfl, rfl⟩
      · have ho' : isOne s[0] = false := by simpa using ho
        rw [sgn_no hg2 ho']
        clear ho hg2
        simp only [isOne, ones, List.any_cons, List.any_nil, Bool.or_false, Bool.or_eq_false_iff, beq_eq_false_iff_ne, ne_eq] at ho'
        obtain ⟨g0, g1, g2, g3, g4, g5, g6, g7, g8, g9, g10, g11, g12, g13, g14, g15⟩ := ho'
        have o40 : (((s[0].toNat : Nat) : Int) == 40) = false := by have := g0; simp; omega
        have o41 : (((s[0].toNat : Nat) : Int) == 41) = false := by have := g1; simp; omega
        have o123 : (((s[0].toNat : Nat) : Int) == 123) = false := by have := g2; simp; omega
        have o125 : (((s[0].toNat : Nat) : Int) == 125) = false := by have := g3; simp; omega
        have o44 : (((s[0].toNat : Nat) : Int) == 44) = false := by have := g4; simp; omega
        have o59 : (((s[0].toNat : Nat) : Int) == 59) = false := by have := g5; simp; omega
        have o58 : (((s[0].toNat : Nat) : Int) == 58) = false := by have := g6; simp; omega
        have o61 : (((s[0].toNat : Nat) : Int) == 61) = false := by have := g7; simp; omega
        have o33 : (((s[0].toNat : Nat) : Int) == 33) = false := by have := g8; simp; omega
        have o60 : (((s[0].toNat : Nat) : Int) == 60) = false := by have := g9; simp; omega
        have o62 : (((s[0].toNat : Nat) : Int) == 62) = false := by have := g10; simp; omega
        have o43 : (((s[0].toNat : Nat) : Int) == 43) = false := by have := g11; simp; omega
        have o45 : (((s[0].toNat : Nat) : Int) == 45) = false := by have := g12; simp; omega
        have o42 : (((s[0].toNat : Nat) : Int) == 42) = false := by have := g13; simp; omega
        have o47 : (((s[0].toNat : Nat) : Int) == 47) = false := by have := g14; simp; omega
        have o37 : (((s[0].toNat : Nat) : Int) == 37) = false := by have := g15; simp; omega
        clear g0 g1 g2 g3 g4 g5 g6 g7 g8 g9 g10 g11 g12 g13 g14 g15
        by_cases hz2 : 2 ≤ s.size
        all_goals
          go_enter Try.func40, Try.ntmps40
          go_wp2
          go_ret
          exact ⟨rfl, rfl⟩
theorem counted_bad (a b : Int) (h : a ≠ 0) (w : World) :
    Calls Try.prog 34 #[.int .i64 a, .int .i64 b] w fun e w' => e = .returned (.int .i64 a) ∧ w = w' := by
  have h2 : (a == 0) = false := by simpa using h
  clear h
  go_enter Try.func34, Try.ntmps34
  go_wp2
  go_ret
  exact ⟨rfl, rfl⟩
theorem counted_ok (b : Int) (h : b < 2000) (w : World) :
    Calls Try.prog 34 #[.int .i64 0, .int .i64 b] w fun e w' => e = .returned (.int .i64 0) ∧ w = w' := by
  go_enter Try.func34, Try.ntmps34
  go_wp2
  go_ret
  exact ⟨rfl, rfl⟩
theorem counted_full (b : Int) (h : 2000 ≤ b) (w : World) :
    Calls Try.prog 34 #[.int .i64 0, .int .i64 b] w fun e w' => e = .returned (.int .i64 4) ∧ w = w' := by
  go_enter Try.func34, Try.ntmps34
  go_wp2
  go_ret
  exact ⟨rfl, rfl⟩
end Go.Proofs.Ytcncbdnnakfgcaa
