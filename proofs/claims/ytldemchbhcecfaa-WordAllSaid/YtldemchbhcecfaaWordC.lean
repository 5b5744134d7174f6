/- Contracts of package word and of the law's own helpers two, one, worthy: what each returns; none of them touches memory. -/
import Derived.Test.YtldemchbhcecfaaRows
import Derived.WalkKit
import Derived.ProofKit
import Derived.OpenShut
namespace Go.Proofs.Ytldemchbhcecfaa
open Go.ChangeShapes Go.WideShapes Go.ChangeAt Go.RowKit

def bitI (b : Bool) : Int := if b then 1 else 0
def negM (a : Int) : Int := wrap64 (0 - a)
def mulM (a b : Int) : Int := wrap64 (a * b)
def divM (a b : Int) : Int := wrap64 (a.tdiv b)
def remM (a b : Int) : Int := a.tmod b
def addM (a b : Int) : Int := wrap64 (a + b)
def subM (a b : Int) : Int := wrap64 (a - b)
def lssB (a b : Int) : Bool := decide (a < b)
def leqB (a b : Int) : Bool := decide (a ≤ b)
def gtrB (a b : Int) : Bool := decide (b < a)
def geqB (a b : Int) : Bool := decide (b ≤ a)
def eqlB (a b : Int) : Bool := a == b
def neqB (a b : Int) : Bool := a != b
def truB (a : Int) : Bool := a != 0
theorem truth_any (a : Int) (w : World) :
    Calls Try.prog 14 #[.int .i64 a] w fun e w' => e = .returned (.bool (truB a)) ∧ w = w' := by
  go_enter Try.func14, Try.ntmps14
  go_wp2
  go_ret
  exact ⟨rfl, rfl⟩
theorem bit_any (b : Bool) (w : World) :
    Calls Try.prog 18 #[.bool b] w fun e w' => e = .returned (.int .i64 (bitI b)) ∧ w = w' := by
  cases b <;>
  · go_enter Try.func18, Try.ntmps18
    go_wp2
    go_ret
    exact ⟨rfl, rfl⟩
theorem Two_mul (a b : Int) (w : World) :
    Calls Try.prog 12 #[.int .i64 5, .int .i64 a, .int .i64 b] w fun e w' => e = .returned (.tuple #[.int .i64 (mulM a b), .bool true]) ∧ w = w' := by
  go_enter Try.func12, Try.ntmps12
  go_wp2
  go_ret2
  exact ⟨rfl, rfl⟩
theorem two_mul (a b : Int) (w : World) :
    Calls Try.prog 15 #[.int .i64 5, .int .i64 a, .int .i64 b] w fun e w' => e = .returned (.int .i64 (mulM a b)) ∧ w = w' := by
  go_enter Try.func15, Try.ntmps15
  go_wp2_with (go_at_call 12; refine (Two_mul _ _ _).mono ?_; rintro e w' ⟨rfl, rfl⟩)
  go_ret
  exact ⟨rfl, rfl⟩
theorem Two_div (a b : Int) (h : ¬ b = 0) (w : World) :
    Calls Try.prog 12 #[.int .i64 6, .int .i64 a, .int .i64 b] w fun e w' => e = .returned (.tuple #[.int .i64 (divM a b), .bool true]) ∧ w = w' := by
  have h2 : (b == 0) = false := by simpa using h
  go_enter Try.func12, Try.ntmps12
  go_wp2
  go_ret2
  exact ⟨rfl, rfl⟩
theorem two_div (a b : Int) (h : ¬ b = 0) (w : World) :
    Calls Try.prog 15 #[.int .i64 6, .int .i64 a, .int .i64 b] w fun e w' => e = .returned (.int .i64 (divM a b)) ∧ w = w' := by
  go_enter Try.func15, Try.ntmps15
  go_wp2_with (go_at_call 12; refine (Two_div _ _ h _).mono ?_; rintro e w' ⟨rfl, rfl⟩)
  go_ret
  exact ⟨rfl, rfl⟩
theorem Two_rem (a b : Int) (h : ¬ b = 0) (w : World) :
    Calls Try.prog 12 #[.int .i64 7, .int .i64 a, .int .i64 b] w fun e w' => e = .returned (.tuple #[.int .i64 (remM a b), .bool true]) ∧ w = w' := by
  have h2 : (b == 0) = false := by simpa using h
  go_enter Try.func12, Try.ntmps12
  go_wp2
  go_ret2
  exact ⟨rfl, rfl⟩
theorem two_rem (a b : Int) (h : ¬ b = 0) (w : World) :
    Calls Try.prog 15 #[.int .i64 7, .int .i64 a, .int .i64 b] w fun e w' => e = .returned (.int .i64 (remM a b)) ∧ w = w' := by
  go_enter Try.func15, Try.ntmps15
  go_wp2_with (go_at_call 12; refine (Two_rem _ _ h _).mono ?_; rintro e w' ⟨rfl, rfl⟩)
  go_ret
  exact ⟨rfl, rfl⟩
theorem Two_add (a b : Int) (w : World) :
    Calls Try.prog 12 #[.int .i64 8, .int .i64 a, .int .i64 b] w fun e w' => e = .returned (.tuple #[.int .i64 (addM a b), .bool true]) ∧ w = w' := by
  go_enter Try.func12, Try.ntmps12
  go_wp2
  go_ret2
  exact ⟨rfl, rfl⟩
theorem two_add (a b : Int) (w : World) :
    Calls Try.prog 15 #[.int .i64 8, .int .i64 a, .int .i64 b] w fun e w' => e = .returned (.int .i64 (addM a b)) ∧ w = w' := by
  go_enter Try.func15, Try.ntmps15
  go_wp2_with (go_at_call 12; refine (Two_add _ _ _).mono ?_; rintro e w' ⟨rfl, rfl⟩)
  go_ret
  exact ⟨rfl, rfl⟩
theorem Two_sub (a b : Int) (w : World) :
    Calls Try.prog 12 #[.int .i64 9, .int .i64 a, .int .i64 b] w fun e w' => e = .returned (.tuple #[.int .i64 (subM a b), .bool true]) ∧ w = w' := by
  go_enter Try.func12, Try.ntmps12
  go_wp2
  go_ret2
  exact ⟨rfl, rfl⟩
theorem two_sub (a b : Int) (w : World) :
    Calls Try.prog 15 #[.int .i64 9, .int .i64 a, .int .i64 b] w fun e w' => e = .returned (.int .i64 (subM a b)) ∧ w = w' := by
  go_enter Try.func15, Try.ntmps15
  go_wp2_with (go_at_call 12; refine (Two_sub _ _ _).mono ?_; rintro e w' ⟨rfl, rfl⟩)
  go_ret
  exact ⟨rfl, rfl⟩
theorem Two_lss (a b : Int) (w : World) :
    Calls Try.prog 12 #[.int .i64 10, .int .i64 a, .int .i64 b] w fun e w' => e = .returned (.tuple #[.int .i64 (bitI (lssB a b)), .bool true]) ∧ w = w' := by
  go_enter Try.func12, Try.ntmps12
  go_wp2_with (go_at_call 18; refine (bit_any _ _).mono ?_; rintro e w' ⟨rfl, rfl⟩)
  go_ret2
  exact ⟨rfl, rfl⟩
theorem two_lss (a b : Int) (w : World) :
    Calls Try.prog 15 #[.int .i64 10, .int .i64 a, .int .i64 b] w fun e w' => e = .returned (.int .i64 (bitI (lssB a b))) ∧ w = w' := by
  go_enter Try.func15, Try.ntmps15
  go_wp2_with (go_at_call 12; refine (Two_lss _ _ _).mono ?_; rintro e w' ⟨rfl, rfl⟩)
  go_ret
  exact ⟨rfl, rfl⟩
theorem Two_leq (a b : Int) (w : World) :
    Calls Try.prog 12 #[.int .i64 11, .int .i64 a, .int .i64 b] w fun e w' => e = .returned (.tuple #[.int .i64 (bitI (leqB a b)), .bool true]) ∧ w = w' := by
  go_enter Try.func12, Try.ntmps12
  go_wp2_with (go_at_call 18; refine (bit_any _ _).mono ?_; rintro e w' ⟨rfl, rfl⟩)
  go_ret2
  exact ⟨rfl, rfl⟩
theorem two_leq (a b : Int) (w : World) :
    Calls Try.prog 15 #[.int .i64 11, .int .i64 a, .int .i64 b] w fun e w' => e = .returned (.int .i64 (bitI (leqB a b))) ∧ w = w' := by
  go_enter Try.func15, Try.ntmps15
  go_wp2_with (go_at_call 12; refine (Two_leq _ _ _).mono ?_; rintro e w' ⟨rfl, rfl⟩)
  go_ret
  exact ⟨rfl, rfl⟩
theorem Two_gtr (a b : Int) (w : World) :
    Calls Try.prog 12 #[.int .i64 12, .int .i64 a, .int .i64 b] w fun e w' => e = .returned (.tuple #[.int .i64 (bitI (gtrB a b)), .bool true]) ∧ w = w' := by
  go_enter Try.func12, Try.ntmps12
  go_wp2_with (go_at_call 18; refine (bit_any _ _).mono ?_; rintro e w' ⟨rfl, rfl⟩)
  go_ret2
  exact ⟨rfl, rfl⟩
theorem two_gtr (a b : Int) (w : World) :
    Calls Try.prog 15 #[.int .i64 12, .int .i64 a, .int .i64 b] w fun e w' => e = .returned (.int .i64 (bitI (gtrB a b))) ∧ w = w' := by
  go_enter Try.func15, Try.ntmps15
  go_wp2_with (go_at_call 12; refine (Two_gtr _ _ _).mono ?_; rintro e w' ⟨rfl, rfl⟩)
  go_ret
  exact ⟨rfl, rfl⟩
theorem Two_geq (a b : Int) (w : World) :
    Calls Try.prog 12 #[.int .i64 13, .int .i64 a, .int .i64 b] w fun e w' => e = .returned (.tuple #[.int .i64 (bitI (geqB a b)), .bool true]) ∧ w = w' := by
  go_enter Try.func12, Try.ntmps12
  go_wp2_with (go_at_call 18; refine (bit_any _ _).mono ?_; rintro e w' ⟨rfl, rfl⟩)
  go_ret2
  exact ⟨rfl, rfl⟩
theorem two_geq (a b : Int) (w : World) :
    Calls Try.prog 15 #[.int .i64 13, .int .i64 a, .int .i64 b] w fun e w' => e = .returned (.int .i64 (bitI (geqB a b))) ∧ w = w' := by
  go_enter Try.func15, Try.ntmps15
  go_wp2_with (go_at_call 12; refine (Two_geq _ _ _).mono ?_; rintro e w' ⟨rfl, rfl⟩)
  go_ret
  exact ⟨rfl, rfl⟩
theorem Two_eql (a b : Int) (w : World) :
    Calls Try.prog 12 #[.int .i64 14, .int .i64 a, .int .i64 b] w fun e w' => e = .returned (.tuple #[.int .i64 (bitI (eqlB a b)), .bool true]) ∧ w = w' := by
  go_enter Try.func12, Try.ntmps12
  go_wp2_with (go_at_call 18; refine (bit_any _ _).mono ?_; rintro e w' ⟨rfl, rfl⟩)
  go_ret2
  exact ⟨rfl, rfl⟩
theorem two_eql (a b : Int) (w : World) :
    Calls Try.prog 15 #[.int .i64 14, .int .i64 a, .int .i64 b] w fun e w' => e = .returned (.int .i64 (bitI (eqlB a b))) ∧ w = w' := by
  go_enter Try.func15, Try.ntmps15
  go_wp2_with (go_at_call 12; refine (Two_eql _ _ _).mono ?_; rintro e w' ⟨rfl, rfl⟩)
  go_ret
  exact ⟨rfl, rfl⟩
theorem Two_neq (a b : Int) (w : World) :
    Calls Try.prog 12 #[.int .i64 15, .int .i64 a, .int .i64 b] w fun e w' => e = .returned (.tuple #[.int .i64 (bitI (neqB a b)), .bool true]) ∧ w = w' := by
  go_enter Try.func12, Try.ntmps12
  go_wp2_with (go_at_call 18; refine (bit_any _ _).mono ?_; rintro e w' ⟨rfl, rfl⟩)
  go_ret2
  exact ⟨rfl, rfl⟩
theorem two_neq (a b : Int) (w : World) :
    Calls Try.prog 15 #[.int .i64 15, .int .i64 a, .int .i64 b] w fun e w' => e = .returned (.int .i64 (bitI (neqB a b))) ∧ w = w' := by
  go_enter Try.func15, Try.ntmps15
  go_wp2_with (go_at_call 12; refine (Two_neq _ _ _).mono ?_; rintro e w' ⟨rfl, rfl⟩)
  go_ret
  exact ⟨rfl, rfl⟩
def andB (a b : Int) : Bool := truB a && truB b
def orB (a b : Int) : Bool := truB a || truB b
theorem Two_and (a b : Int) (w : World) :
    Calls Try.prog 12 #[.int .i64 16, .int .i64 a, .int .i64 b] w fun e w' => e = .returned (.tuple #[.int .i64 (bitI (andB a b)), .bool true]) ∧ w = w' := by
  have e : andB a b = (truB a && truB b) := rfl
  rw [e]
  clear e
  cases h : truB a <;> cases h2 : truB b <;>
  · go_enter Try.func12, Try.ntmps12
    go_wp2_with (first | (go_at_call 18; refine (bit_any _ _).mono ?_; rintro e w' ⟨rfl, rfl⟩) | (go_at_call 14; refine (truth_any _ _).mono ?_; rintro e w' ⟨rfl, rfl⟩))
    go_ret2
    exact ⟨rfl, rfl⟩
theorem two_and (a b : Int) (w : World) :
    Calls Try.prog 15 #[.int .i64 16, .int .i64 a, .int .i64 b] w fun e w' => e = .returned (.int .i64 (bitI (andB a b))) ∧ w = w' := by
  go_enter Try.func15, Try.ntmps15
  go_wp2_with (go_at_call 12; refine (Two_and _ _ _).mono ?_; rintro e w' ⟨rfl, rfl⟩)
  go_ret
  exact ⟨rfl, rfl⟩
theorem Two_or (a b : Int) (w : World) :
    Calls Try.prog 12 #[.int .i64 17, .int .i64 a, .int .i64 b] w fun e w' => e = .returned (.tuple #[.int .i64 (bitI (orB a b)), .bool true]) ∧ w = w' := by
  have e : orB a b = (truB a || truB b) := rfl
  rw [e]
  clear e
  cases h : truB a <;> cases h2 : truB b <;>
  · go_enter Try.func12, Try.ntmps12
    go_wp2_with (first | (go_at_call 18; refine (bit_any _ _).mono ?_; rintro e w' ⟨rfl, rfl⟩) | (go_at_call 14; refine (truth_any _ _).mono ?_; rintro e w' ⟨rfl, rfl⟩))
    go_ret2
    exact ⟨rfl, rfl⟩
theorem two_or (a b : Int) (w : World) :
    Calls Try.prog 15 #[.int .i64 17, .int .i64 a, .int .i64 b] w fun e w' => e = .returned (.int .i64 (bitI (orB a b))) ∧ w = w' := by
  go_enter Try.func15, Try.ntmps15
  go_wp2_with (go_at_call 12; refine (Two_or _ _ _).mono ?_; rintro e w' ⟨rfl, rfl⟩)
  go_ret
  exact ⟨rfl, rfl⟩
theorem Two_div0 (a : Int) (w : World) :
    Calls Try.prog 12 #[.int .i64 6, .int .i64 a, .int .i64 0] w fun e w' => e = .returned (.tuple #[.int .i64 0, .bool false]) ∧ w = w' := by
  go_enter Try.func12, Try.ntmps12
  go_wp2
  go_ret2
  exact ⟨rfl, rfl⟩
theorem Two_rem0 (a : Int) (w : World) :
    Calls Try.prog 12 #[.int .i64 7, .int .i64 a, .int .i64 0] w fun e w' => e = .returned (.tuple #[.int .i64 0, .bool false]) ∧ w = w' := by
  go_enter Try.func12, Try.ntmps12
  go_wp2
  go_ret2
  exact ⟨rfl, rfl⟩
theorem Two_none (op a b : Int) (h : op < 5 ∨ 17 < op) (w : World) :
    Calls Try.prog 12 #[.int .i64 op, .int .i64 a, .int .i64 b] w fun e w' => e = .returned (.tuple #[.int .i64 0, .bool false]) ∧ w = w' := by
  have n5 : (op == 5) = false := by simpa using (by omega : ¬ op = 5)
  have n6 : (op == 6) = false := by simpa using (by omega : ¬ op = 6)
  have n7 : (op == 7) = false := by simpa using (by omega : ¬ op = 7)
  have n8 : (op == 8) = false := by simpa using (by omega : ¬ op = 8)
  have n9 : (op == 9) = false := by simpa using (by omega : ¬ op = 9)
  have n10 : (op == 10) = false := by simpa using (by omega : ¬ op = 10)
  have n11 : (op == 11) = false := by simpa using (by omega : ¬ op = 11)
  have n12 : (op == 12) = false := by simpa using (by omega : ¬ op = 12)
  have n13 : (op == 13) = false := by simpa using (by omega : ¬ op = 13)
  have n14 : (op == 14) = false := by simpa using (by omega : ¬ op = 14)
  have n15 : (op == 15) = false := by simpa using (by omega : ¬ op = 15)
  have n16 : (op == 16) = false := by simpa using (by omega : ¬ op = 16)
  have n17 : (op == 17) = false := by simpa using (by omega : ¬ op = 17)
  clear h
  go_enter Try.func12, Try.ntmps12
  go_wp2
  go_ret2
  exact ⟨rfl, rfl⟩
theorem One_none (op a : Int) (h : op < 3 ∨ 4 < op) (w : World) :
    Calls Try.prog 10 #[.int .i64 op, .int .i64 a] w fun e w' => e = .returned (.tuple #[.int .i64 0, .bool false]) ∧ w = w' := by
  have n3 : (op == 3) = false := by simpa using (by omega : ¬ op = 3)
  have n4 : (op == 4) = false := by simpa using (by omega : ¬ op = 4)
  clear h
  go_enter Try.func10, Try.ntmps10
  go_wp2
  go_ret2
  exact ⟨rfl, rfl⟩
theorem One_neg (a : Int) (w : World) :
    Calls Try.prog 10 #[.int .i64 3, .int .i64 a] w fun e w' => e = .returned (.tuple #[.int .i64 (negM a), .bool true]) ∧ w = w' := by
  go_enter Try.func10, Try.ntmps10
  go_wp2
  go_ret2
  exact ⟨by simp [negM], rfl⟩
theorem One_not (a : Int) (w : World) :
    Calls Try.prog 10 #[.int .i64 4, .int .i64 a] w fun e w' => e = .returned (.tuple #[.int .i64 (bitI (!truB a)), .bool true]) ∧ w = w' := by
  go_enter Try.func10, Try.ntmps10
  go_wp2_with (first | (go_at_call 18; refine (bit_any _ _).mono ?_; rintro e w' ⟨rfl, rfl⟩) | (go_at_call 14; refine (truth_any _ _).mono ?_; rintro e w' ⟨rfl, rfl⟩))
  go_ret2
  exact ⟨rfl, rfl⟩
theorem one_neg (a : Int) (w : World) :
    Calls Try.prog 16 #[.int .i64 3, .int .i64 a] w fun e w' => e = .returned (.int .i64 (negM a)) ∧ w = w' := by
  go_enter Try.func16, Try.ntmps16
  go_wp2_with (go_at_call 10; refine (One_neg _ _).mono ?_; rintro e w' ⟨rfl, rfl⟩)
  go_ret
  exact ⟨rfl, rfl⟩
theorem one_not (a : Int) (w : World) :
    Calls Try.prog 16 #[.int .i64 4, .int .i64 a] w fun e w' => e = .returned (.int .i64 (bitI (!truB a))) ∧ w = w' := by
  go_enter Try.func16, Try.ntmps16
  go_wp2_with (go_at_call 10; refine (One_not _ _).mono ?_; rintro e w' ⟨rfl, rfl⟩)
  go_ret
  exact ⟨rfl, rfl⟩
theorem worthy_any (w : World) :
    Calls Try.prog 9 #[] w fun e w' => e = .returned (.bool true) ∧ w = w' := by
  have h1 : addM 2 3 = 5 := by simp [addM, wrap64]
  have h2 : truB 7 = true := by simp [truB]
  go_enter Try.func9, Try.ntmps9
  go_wp2_with (first | (go_at_call 12; refine (Two_add _ _ _).mono ?_; rintro e w' ⟨rfl, rfl⟩) | (go_at_call 14; refine (truth_any _ _).mono ?_; rintro e w' ⟨rfl, rfl⟩))
  go_ret
  exact ⟨rfl, rfl⟩
end Go.Proofs.Ytldemchbhcecfaa
