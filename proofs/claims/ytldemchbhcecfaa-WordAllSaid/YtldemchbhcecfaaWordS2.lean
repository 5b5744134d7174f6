/- The reference's quotient, One, Two, compare: contracts. -/
import Derived.Test.YtldemchbhcecfaaWordQ
namespace Go.Proofs.Ytldemchbhcecfaa
open Go.ChangeShapes Go.WideShapes Go.ChangeAt Go.RowKit
theorem tdiv_pp (a b : Int) (ha : 0 ≤ a) (hb : 0 < b) : a.tdiv b = sizeU a / sizeU b ∧ a.tmod b = sizeU a % sizeU b := by
  have e1 : sizeU a = a := by unfold sizeU; omega
  have e2 : sizeU b = b := by unfold sizeU; omega
  rw [e1, e2, Int.tdiv_eq_ediv_of_nonneg ha, Int.tmod_eq_emod_of_nonneg ha]; exact ⟨rfl, rfl⟩
theorem sizeU_neg (a : Int) : sizeU (-a) = sizeU a := by unfold sizeU; omega
theorem tdiv_pn (a b : Int) (ha : 0 ≤ a) (hb : b < 0) : a.tdiv b = -(sizeU a / sizeU b) ∧ a.tmod b = sizeU a % sizeU b := by
  have h := tdiv_pp a (-b) ha (by omega)
  rw [sizeU_neg, Int.tdiv_neg, Int.tmod_neg] at h
  omega
theorem tdiv_np (a b : Int) (ha : a < 0) (hb : 0 < b) : a.tdiv b = -(sizeU a / sizeU b) ∧ a.tmod b = -(sizeU a % sizeU b) := by
  have h := tdiv_pp (-a) b (by omega) hb
  rw [sizeU_neg, Int.neg_tdiv, Int.neg_tmod] at h
  omega
theorem tdiv_nn (a b : Int) (ha : a < 0) (hb : b < 0) : a.tdiv b = sizeU a / sizeU b ∧ a.tmod b = -(sizeU a % sizeU b) := by
  have h := tdiv_pn (-a) b (by omega) hb
  rw [sizeU_neg, Int.neg_tdiv, Int.neg_tmod] at h
  omega
theorem wrap_turn (x : Int) : wrap64 (turnU x) = wrap64 (-x) := by unfold wrap64 turnU; omega
theorem inU_size (a : Int) (h : In64 a) : InU (sizeU a) := by unfold InU sizeU In64 at *; omega
theorem inU_quot (a b : Int) (ha : In64 a) (hb : ¬ b = 0) : InU (sizeU a / sizeU b) ∧ 0 ≤ sizeU a % sizeU b ∧ sizeU a % sizeU b < sizeU b := by
  have h := inU_size a ha
  have h0 : 0 < sizeU b := by unfold sizeU; omega
  have q0 : 0 ≤ sizeU a / sizeU b := Int.ediv_nonneg h.1 (by omega)
  have q1 : sizeU a / sizeU b ≤ sizeU a := Int.ediv_le_self _ h.1
  unfold InU at *
  exact ⟨by omega, Int.emod_nonneg _ (by omega), Int.emod_lt_of_pos _ h0⟩
set_option maxHeartbeats 800000 in
theorem quotient_any (a b : Int) (ha : In64 a) (hb : In64 b) (h : ¬ b = 0) (w : World) :
    Calls Try.prog 24 #[.int .i64 a, .int .i64 b] w fun e w' => e = .returned (.tuple #[.int .i64 (divM a b), .int .i64 (remM a b)]) ∧ w = w' := by
  have ia := inU_size a ha
  have ib := inU_size b hb
  have b0 : 0 < sizeU b := by unfold sizeU; omega
  have iq := inU_quot a b ha h
  obtain ⟨iq, m0, m1⟩ := iq
  have im : InU (sizeU a % sizeU b) := by unfold InU at *; omega
  have bl : sizeU b ≤ 9223372036854775808 := by unfold sizeU; unfold In64 at hb; omega
  have al : sizeU a ≤ 9223372036854775808 := by unfold sizeU; unfold In64 at ha; omega
  rcases Int.lt_or_le a 0 with sa | sa <;> rcases Int.lt_or_le b 0 with sb | sb
  · have E1 : Hid (divM a b = wrap64 (sizeU a / sizeU b)) := Lib.hid (by unfold divM; rw [(tdiv_nn a b sa sb).1])
    have E2 : Hid (remM a b = wrap64 (turnU (sizeU a % sizeU b))) := Lib.hid (by unfold remM; rw [(tdiv_nn a b sa sb).2]; rw [wrap_turn]; exact (wrap_in (by unfold In64; omega)).symm)
    have sa' : decide (a < 0) = true := by simpa using sa
    have sb' : decide (b < 0) = true := by simpa using sb
    go_enter Try.func24, Try.ntmps24
    go_wp2_with (first
      | (go_at_call 29; with_reducible refine (rsize_any _ ha _).mono ?_; rintro e w' ⟨rfl, rfl⟩)
      | (go_at_call 29; with_reducible refine (rsize_any _ hb _).mono ?_; rintro e w' ⟨rfl, rfl⟩)
      | (go_at_call 28; with_reducible refine (div_any _ _ ia ib b0 _).mono ?_; rintro e w' ⟨rfl, rfl⟩)
      | (go_at_call 19; with_reducible refine (turned_any _ iq _).mono ?_; rintro e w' ⟨rfl, rfl⟩)
      | (go_at_call 19; with_reducible refine (turned_any _ im _).mono ?_; rintro e w' ⟨rfl, rfl⟩))
    go_ret2
    exact ⟨by rw [E1.out, E2.out] <;> first | rfl | (rw [wrap_in (by unfold In64; omega)]; rfl), rfl⟩
  · have E1 : Hid (divM a b = wrap64 (turnU (sizeU a / sizeU b))) := Lib.hid (by unfold divM; rw [(tdiv_np a b sa (by omega)).1, wrap_turn])
    have E2 : Hid (remM a b = wrap64 (turnU (sizeU a % sizeU b))) := Lib.hid (by unfold remM; rw [(tdiv_np a b sa (by omega)).2]; rw [wrap_turn]; exact (wrap_in (by unfold In64; omega)).symm)
    have sa' : decide (a < 0) = true := by simpa using sa
    have sb' : decide (b < 0) = false := by simpa using sb
    go_enter Try.func24, Try.ntmps24
    go_wp2_with (first
      | (go_at_call 29; with_reducible refine (rsize_any _ ha _).mono ?_; rintro e w' ⟨rfl, rfl⟩)
      | (go_at_call 29; with_reducible refine (rsize_any _ hb _).mono ?_; rintro e w' ⟨rfl, rfl⟩)
      | (go_at_call 28; with_reducible refine (div_any _ _ ia ib b0 _).mono ?_; rintro e w' ⟨rfl, rfl⟩)
      | (go_at_call 19; with_reducible refine (turned_any _ iq _).mono ?_; rintro e w' ⟨rfl, rfl⟩)
      | (go_at_call 19; with_reducible refine (turned_any _ im _).mono ?_; rintro e w' ⟨rfl, rfl⟩))
    go_ret2
    exact ⟨by rw [E1.out, E2.out] <;> first | rfl | (rw [wrap_in (by unfold In64; omega)]; rfl), rfl⟩
  · have E1 : Hid (divM a b = wrap64 (turnU (sizeU a / sizeU b))) := Lib.hid (by unfold divM; rw [(tdiv_pn a b sa sb).1, wrap_turn])
    have E2 : Hid (remM a b = sizeU a % sizeU b) := Lib.hid (by unfold remM; rw [(tdiv_pn a b sa sb).2]; skip)
    have sa' : decide (a < 0) = false := by simpa using sa
    have sb' : decide (b < 0) = true := by simpa using sb
    go_enter Try.func24, Try.ntmps24
    go_wp2_with (first
      | (go_at_call 29; with_reducible refine (rsize_any _ ha _).mono ?_; rintro e w' ⟨rfl, rfl⟩)
      | (go_at_call 29; with_reducible refine (rsize_any _ hb _).mono ?_; rintro e w' ⟨rfl, rfl⟩)
      | (go_at_call 28; with_reducible refine (div_any _ _ ia ib b0 _).mono ?_; rintro e w' ⟨rfl, rfl⟩)
      | (go_at_call 19; with_reducible refine (turned_any _ iq _).mono ?_; rintro e w' ⟨rfl, rfl⟩)
      | (go_at_call 19; with_reducible refine (turned_any _ im _).mono ?_; rintro e w' ⟨rfl, rfl⟩))
    go_ret2
    exact ⟨by rw [E1.out, E2.out] <;> first | rfl | (rw [wrap_in (by unfold In64; omega)]; rfl), rfl⟩
  · have E1 : Hid (divM a b = wrap64 (sizeU a / sizeU b)) := Lib.hid (by unfold divM; rw [(tdiv_pp a b sa (by omega)).1])
    have E2 : Hid (remM a b = sizeU a % sizeU b) := Lib.hid (by unfold remM; rw [(tdiv_pp a b sa (by omega)).2]; skip)
    have sa' : decide (a < 0) = false := by simpa using sa
    have sb' : decide (b < 0) = false := by simpa using sb
    go_enter Try.func24, Try.ntmps24
    go_wp2_with (first
      | (go_at_call 29; with_reducible refine (rsize_any _ ha _).mono ?_; rintro e w' ⟨rfl, rfl⟩)
      | (go_at_call 29; with_reducible refine (rsize_any _ hb _).mono ?_; rintro e w' ⟨rfl, rfl⟩)
      | (go_at_call 28; with_reducible refine (div_any _ _ ia ib b0 _).mono ?_; rintro e w' ⟨rfl, rfl⟩)
      | (go_at_call 19; with_reducible refine (turned_any _ iq _).mono ?_; rintro e w' ⟨rfl, rfl⟩)
      | (go_at_call 19; with_reducible refine (turned_any _ im _).mono ?_; rintro e w' ⟨rfl, rfl⟩))
    go_ret2
    exact ⟨by rw [E1.out, E2.out] <;> first | rfl | (rw [wrap_in (by unfold In64; omega)]; rfl), rfl⟩
def oneV (op a : Int) : Int × Bool := if op = 3 then (negM a, true) else if op = 4 then (bitI (!truB a), true) else (0, false)
def twoV (op a b : Int) : Int × Bool :=
  if op = 5 then (mulM a b, true) else if op = 6 then (if b = 0 then (0, false) else (divM a b, true)) else if op = 7 then (if b = 0 then (0, false) else (remM a b, true))
  else if op = 8 then (addM a b, true) else if op = 9 then (subM a b, true) else if op = 10 then (bitI (lssB a b), true) else if op = 11 then (bitI (leqB a b), true)
  else if op = 12 then (bitI (gtrB a b), true) else if op = 13 then (bitI (geqB a b), true) else if op = 14 then (bitI (eqlB a b), true) else if op = 15 then (bitI (neqB a b), true)
  else if op = 16 then (bitI (andB a b), true) else if op = 17 then (bitI (orB a b), true) else (0, false)
def pairV (x : Int × Bool) : Value := .tuple #[.int .i64 x.1, .bool x.2]
theorem wrapU (a : Int) : IntKind.u64.wrap a = a % 18446744073709551616 := IntKind.wrap_u64 a
theorem inU_wrap (a : Int) : InU (IntKind.u64.wrap a) := by rw [wrapU]; unfold InU; omega
set_option linter.unusedVariables false
theorem R_add (a b : Int) (ha : In64 a) (hb : In64 b) (w : World) :
    Calls Try.prog 13 #[.int .i64 8, .int .i64 a, .int .i64 b] w fun e w' => e = .returned (.tuple #[.int .i64 (addM a b), .bool true]) ∧ w = w' := by
  have E : Hid (addM a b = wrap64 (addU (IntKind.u64.wrap a) (IntKind.u64.wrap b))) := Lib.hid (by rw [wrapU, wrapU]; unfold addM addU wrap64; omega)
  go_enter Try.func13, Try.ntmps13
  go_wp2_with (first
    | (go_at_call 19; with_reducible refine (turned_any _ (inU_wrap _) _).mono ?_; rintro e w' ⟨rfl, rfl⟩)
    | (go_at_call 22; with_reducible refine (add_any _ _ (inU_wrap _) (inU_wrap _) _).mono ?_; rintro e w' ⟨rfl, rfl⟩)
    | (go_at_call 22; with_reducible refine (add_any _ _ (inU_wrap _) (inU_turn _) _).mono ?_; rintro e w' ⟨rfl, rfl⟩)
    | (go_at_call 23; with_reducible refine (mul_any _ _ (inU_wrap _) (inU_wrap _) _).mono ?_; rintro e w' ⟨rfl, rfl⟩)
    | (go_at_call 25; go_in)
    | (go_at_call 20; with_reducible refine (rtruth_any _ _).mono ?_; rintro e w' ⟨rfl, rfl⟩)
    | (go_at_call 30; with_reducible refine (less_any _ _ (by with_reducible assumption) (by with_reducible assumption) _).mono ?_; rintro e w' ⟨rfl, rfl⟩)
    | (go_at_call 24; with_reducible refine (quotient_any _ _ ha hb h _).mono ?_; rintro e w' ⟨rfl, rfl⟩))
  go_ret2
  exact ⟨by first | rfl | (rw [E.out] <;> rfl), rfl⟩
theorem R_sub (a b : Int) (ha : In64 a) (hb : In64 b) (w : World) :
    Calls Try.prog 13 #[.int .i64 9, .int .i64 a, .int .i64 b] w fun e w' => e = .returned (.tuple #[.int .i64 (subM a b), .bool true]) ∧ w = w' := by
  have E : Hid (subM a b = wrap64 (addU (IntKind.u64.wrap a) (turnU (IntKind.u64.wrap b)))) := Lib.hid (by rw [wrapU, wrapU]; unfold subM addU turnU wrap64; omega)
  go_enter Try.func13, Try.ntmps13
  go_wp2_with (first
    | (go_at_call 19; with_reducible refine (turned_any _ (inU_wrap _) _).mono ?_; rintro e w' ⟨rfl, rfl⟩)
    | (go_at_call 22; with_reducible refine (add_any _ _ (inU_wrap _) (inU_wrap _) _).mono ?_; rintro e w' ⟨rfl, rfl⟩)
    | (go_at_call 22; with_reducible refine (add_any _ _ (inU_wrap _) (inU_turn _) _).mono ?_; rintro e w' ⟨rfl, rfl⟩)
    | (go_at_call 23; with_reducible refine (mul_any _ _ (inU_wrap _) (inU_wrap _) _).mono ?_; rintro e w' ⟨rfl, rfl⟩)
    | (go_at_call 25; go_in)
    | (go_at_call 20; with_reducible refine (rtruth_any _ _).mono ?_; rintro e w' ⟨rfl, rfl⟩)
    | (go_at_call 30; with_reducible refine (less_any _ _ (by with_reducible assumption) (by with_reducible assumption) _).mono ?_; rintro e w' ⟨rfl, rfl⟩)
    | (go_at_call 24; with_reducible refine (quotient_any _ _ ha hb h _).mono ?_; rintro e w' ⟨rfl, rfl⟩))
  go_ret2
  exact ⟨by first | rfl | (rw [E.out] <;> rfl), rfl⟩
theorem mul_same (a b : Int) : mulM a b = wrap64 (mulU (IntKind.u64.wrap a) (IntKind.u64.wrap b)) := by
  rw [wrapU, wrapU]; unfold mulM mulU
  rw [← Int.mul_emod]
  refine wrap_congr (k := a * b / 18446744073709551616) ?_
  have := Int.emod_add_mul_ediv (a * b) 18446744073709551616
  omega
theorem R_mul (a b : Int) (ha : In64 a) (hb : In64 b) (w : World) :
    Calls Try.prog 13 #[.int .i64 5, .int .i64 a, .int .i64 b] w fun e w' => e = .returned (.tuple #[.int .i64 (mulM a b), .bool true]) ∧ w = w' := by
  have E := Lib.hid (mul_same a b)
  go_enter Try.func13, Try.ntmps13
  go_wp2_with (first
    | (go_at_call 19; with_reducible refine (turned_any _ (inU_wrap _) _).mono ?_; rintro e w' ⟨rfl, rfl⟩)
    | (go_at_call 22; with_reducible refine (add_any _ _ (inU_wrap _) (inU_wrap _) _).mono ?_; rintro e w' ⟨rfl, rfl⟩)
    | (go_at_call 22; with_reducible refine (add_any _ _ (inU_wrap _) (inU_turn _) _).mono ?_; rintro e w' ⟨rfl, rfl⟩)
    | (go_at_call 23; with_reducible refine (mul_any _ _ (inU_wrap _) (inU_wrap _) _).mono ?_; rintro e w' ⟨rfl, rfl⟩)
    | (go_at_call 25; go_in)
    | (go_at_call 20; with_reducible refine (rtruth_any _ _).mono ?_; rintro e w' ⟨rfl, rfl⟩)
    | (go_at_call 30; with_reducible refine (less_any _ _ (by with_reducible assumption) (by with_reducible assumption) _).mono ?_; rintro e w' ⟨rfl, rfl⟩)
    | (go_at_call 24; with_reducible refine (quotient_any _ _ ha hb h _).mono ?_; rintro e w' ⟨rfl, rfl⟩))
  go_ret2
  exact ⟨by first | rfl | (rw [E.out] <;> rfl), rfl⟩
theorem R_div (a b : Int) (ha : In64 a) (hb : In64 b) (h : ¬ b = 0) (w : World) :
    Calls Try.prog 13 #[.int .i64 6, .int .i64 a, .int .i64 b] w fun e w' => e = .returned (.tuple #[.int .i64 (divM a b), .bool true]) ∧ w = w' := by
  have h2 : (b == 0) = false := by simpa using h
  go_enter Try.func13, Try.ntmps13
  go_wp2_with (first
    | (go_at_call 19; with_reducible refine (turned_any _ (inU_wrap _) _).mono ?_; rintro e w' ⟨rfl, rfl⟩)
    | (go_at_call 22; with_reducible refine (add_any _ _ (inU_wrap _) (inU_wrap _) _).mono ?_; rintro e w' ⟨rfl, rfl⟩)
    | (go_at_call 22; with_reducible refine (add_any _ _ (inU_wrap _) (inU_turn _) _).mono ?_; rintro e w' ⟨rfl, rfl⟩)
    | (go_at_call 23; with_reducible refine (mul_any _ _ (inU_wrap _) (inU_wrap _) _).mono ?_; rintro e w' ⟨rfl, rfl⟩)
    | (go_at_call 25; go_in)
    | (go_at_call 20; with_reducible refine (rtruth_any _ _).mono ?_; rintro e w' ⟨rfl, rfl⟩)
    | (go_at_call 30; with_reducible refine (less_any _ _ (by with_reducible assumption) (by with_reducible assumption) _).mono ?_; rintro e w' ⟨rfl, rfl⟩)
    | (go_at_call 24; with_reducible refine (quotient_any _ _ ha hb h _).mono ?_; rintro e w' ⟨rfl, rfl⟩))
  go_ret2
  exact ⟨by first | rfl | (rw [E.out] <;> rfl), rfl⟩
theorem R_rem (a b : Int) (ha : In64 a) (hb : In64 b) (h : ¬ b = 0) (w : World) :
    Calls Try.prog 13 #[.int .i64 7, .int .i64 a, .int .i64 b] w fun e w' => e = .returned (.tuple #[.int .i64 (remM a b), .bool true]) ∧ w = w' := by
  have h2 : (b == 0) = false := by simpa using h
  go_enter Try.func13, Try.ntmps13
  go_wp2_with (first
    | (go_at_call 19; with_reducible refine (turned_any _ (inU_wrap _) _).mono ?_; rintro e w' ⟨rfl, rfl⟩)
    | (go_at_call 22; with_reducible refine (add_any _ _ (inU_wrap _) (inU_wrap _) _).mono ?_; rintro e w' ⟨rfl, rfl⟩)
    | (go_at_call 22; with_reducible refine (add_any _ _ (inU_wrap _) (inU_turn _) _).mono ?_; rintro e w' ⟨rfl, rfl⟩)
    | (go_at_call 23; with_reducible refine (mul_any _ _ (inU_wrap _) (inU_wrap _) _).mono ?_; rintro e w' ⟨rfl, rfl⟩)
    | (go_at_call 25; go_in)
    | (go_at_call 20; with_reducible refine (rtruth_any _ _).mono ?_; rintro e w' ⟨rfl, rfl⟩)
    | (go_at_call 30; with_reducible refine (less_any _ _ (by with_reducible assumption) (by with_reducible assumption) _).mono ?_; rintro e w' ⟨rfl, rfl⟩)
    | (go_at_call 24; with_reducible refine (quotient_any _ _ ha hb h _).mono ?_; rintro e w' ⟨rfl, rfl⟩))
  go_ret2
  exact ⟨by first | rfl | (rw [E.out] <;> rfl), rfl⟩
theorem R_div0 (a : Int) (w : World) :
    Calls Try.prog 13 #[.int .i64 6, .int .i64 a, .int .i64 0] w fun e w' => e = .returned (.tuple #[.int .i64 0, .bool false]) ∧ w = w' := by
  go_enter Try.func13, Try.ntmps13
  go_wp2
  go_ret2
  exact ⟨rfl, rfl⟩
theorem R_rem0 (a : Int) (w : World) :
    Calls Try.prog 13 #[.int .i64 7, .int .i64 a, .int .i64 0] w fun e w' => e = .returned (.tuple #[.int .i64 0, .bool false]) ∧ w = w' := by
  go_enter Try.func13, Try.ntmps13
  go_wp2
  go_ret2
  exact ⟨rfl, rfl⟩
theorem R_lss (a b : Int) (ha : In64 a) (hb : In64 b) (w : World) :
    Calls Try.prog 13 #[.int .i64 10, .int .i64 a, .int .i64 b] w fun e w' => e = .returned (.tuple #[.int .i64 (bitI (lssB a b)), .bool true]) ∧ w = w' := by
  go_enter Try.func13, Try.ntmps13
  go_wp2_with (first
    | (go_at_call 19; with_reducible refine (turned_any _ (inU_wrap _) _).mono ?_; rintro e w' ⟨rfl, rfl⟩)
    | (go_at_call 22; with_reducible refine (add_any _ _ (inU_wrap _) (inU_wrap _) _).mono ?_; rintro e w' ⟨rfl, rfl⟩)
    | (go_at_call 22; with_reducible refine (add_any _ _ (inU_wrap _) (inU_turn _) _).mono ?_; rintro e w' ⟨rfl, rfl⟩)
    | (go_at_call 23; with_reducible refine (mul_any _ _ (inU_wrap _) (inU_wrap _) _).mono ?_; rintro e w' ⟨rfl, rfl⟩)
    | (go_at_call 25; go_in)
    | (go_at_call 20; with_reducible refine (rtruth_any _ _).mono ?_; rintro e w' ⟨rfl, rfl⟩)
    | (go_at_call 30; with_reducible refine (less_any _ _ (by with_reducible assumption) (by with_reducible assumption) _).mono ?_; rintro e w' ⟨rfl, rfl⟩)
    | (go_at_call 24; with_reducible refine (quotient_any _ _ ha hb h _).mono ?_; rintro e w' ⟨rfl, rfl⟩))
  go_ret2
  exact ⟨by first | rfl | (rw [E.out] <;> rfl), rfl⟩
theorem R_leq (a b : Int) (ha : In64 a) (hb : In64 b) (w : World) :
    Calls Try.prog 13 #[.int .i64 11, .int .i64 a, .int .i64 b] w fun e w' => e = .returned (.tuple #[.int .i64 (bitI (leqB a b)), .bool true]) ∧ w = w' := by
  have E : Hid (leqB a b = !lssB b a) := Lib.hid (by unfold leqB lssB; rw [← decide_not, decide_eq_decide]; omega)
  go_enter Try.func13, Try.ntmps13
  go_wp2_with (first
    | (go_at_call 19; with_reducible refine (turned_any _ (inU_wrap _) _).mono ?_; rintro e w' ⟨rfl, rfl⟩)
    | (go_at_call 22; with_reducible refine (add_any _ _ (inU_wrap _) (inU_wrap _) _).mono ?_; rintro e w' ⟨rfl, rfl⟩)
    | (go_at_call 22; with_reducible refine (add_any _ _ (inU_wrap _) (inU_turn _) _).mono ?_; rintro e w' ⟨rfl, rfl⟩)
    | (go_at_call 23; with_reducible refine (mul_any _ _ (inU_wrap _) (inU_wrap _) _).mono ?_; rintro e w' ⟨rfl, rfl⟩)
    | (go_at_call 25; go_in)
    | (go_at_call 20; with_reducible refine (rtruth_any _ _).mono ?_; rintro e w' ⟨rfl, rfl⟩)
    | (go_at_call 30; with_reducible refine (less_any _ _ (by with_reducible assumption) (by with_reducible assumption) _).mono ?_; rintro e w' ⟨rfl, rfl⟩)
    | (go_at_call 24; with_reducible refine (quotient_any _ _ ha hb h _).mono ?_; rintro e w' ⟨rfl, rfl⟩))
  go_ret2
  exact ⟨by first | rfl | (rw [E.out] <;> rfl), rfl⟩
theorem R_gtr (a b : Int) (ha : In64 a) (hb : In64 b) (w : World) :
    Calls Try.prog 13 #[.int .i64 12, .int .i64 a, .int .i64 b] w fun e w' => e = .returned (.tuple #[.int .i64 (bitI (gtrB a b)), .bool true]) ∧ w = w' := by
  go_enter Try.func13, Try.ntmps13
  go_wp2_with (first
    | (go_at_call 19; with_reducible refine (turned_any _ (inU_wrap _) _).mono ?_; rintro e w' ⟨rfl, rfl⟩)
    | (go_at_call 22; with_reducible refine (add_any _ _ (inU_wrap _) (inU_wrap _) _).mono ?_; rintro e w' ⟨rfl, rfl⟩)
    | (go_at_call 22; with_reducible refine (add_any _ _ (inU_wrap _) (inU_turn _) _).mono ?_; rintro e w' ⟨rfl, rfl⟩)
    | (go_at_call 23; with_reducible refine (mul_any _ _ (inU_wrap _) (inU_wrap _) _).mono ?_; rintro e w' ⟨rfl, rfl⟩)
    | (go_at_call 25; go_in)
    | (go_at_call 20; with_reducible refine (rtruth_any _ _).mono ?_; rintro e w' ⟨rfl, rfl⟩)
    | (go_at_call 30; with_reducible refine (less_any _ _ (by with_reducible assumption) (by with_reducible assumption) _).mono ?_; rintro e w' ⟨rfl, rfl⟩)
    | (go_at_call 24; with_reducible refine (quotient_any _ _ ha hb h _).mono ?_; rintro e w' ⟨rfl, rfl⟩))
  go_ret2
  exact ⟨by first | rfl | (rw [E.out] <;> rfl), rfl⟩
theorem R_geq (a b : Int) (ha : In64 a) (hb : In64 b) (w : World) :
    Calls Try.prog 13 #[.int .i64 13, .int .i64 a, .int .i64 b] w fun e w' => e = .returned (.tuple #[.int .i64 (bitI (geqB a b)), .bool true]) ∧ w = w' := by
  have E : Hid (geqB a b = !lssB a b) := Lib.hid (by unfold geqB lssB; rw [← decide_not, decide_eq_decide]; omega)
  go_enter Try.func13, Try.ntmps13
  go_wp2_with (first
    | (go_at_call 19; with_reducible refine (turned_any _ (inU_wrap _) _).mono ?_; rintro e w' ⟨rfl, rfl⟩)
    | (go_at_call 22; with_reducible refine (add_any _ _ (inU_wrap _) (inU_wrap _) _).mono ?_; rintro e w' ⟨rfl, rfl⟩)
    | (go_at_call 22; with_reducible refine (add_any _ _ (inU_wrap _) (inU_turn _) _).mono ?_; rintro e w' ⟨rfl, rfl⟩)
    | (go_at_call 23; with_reducible refine (mul_any _ _ (inU_wrap _) (inU_wrap _) _).mono ?_; rintro e w' ⟨rfl, rfl⟩)
    | (go_at_call 25; go_in)
    | (go_at_call 20; with_reducible refine (rtruth_any _ _).mono ?_; rintro e w' ⟨rfl, rfl⟩)
    | (go_at_call 30; with_reducible refine (less_any _ _ (by with_reducible assumption) (by with_reducible assumption) _).mono ?_; rintro e w' ⟨rfl, rfl⟩)
    | (go_at_call 24; with_reducible refine (quotient_any _ _ ha hb h _).mono ?_; rintro e w' ⟨rfl, rfl⟩))
  go_ret2
  exact ⟨by first | rfl | (rw [E.out] <;> rfl), rfl⟩
theorem R_eql (a b : Int) (ha : In64 a) (hb : In64 b) (w : World) :
    Calls Try.prog 13 #[.int .i64 14, .int .i64 a, .int .i64 b] w fun e w' => e = .returned (.tuple #[.int .i64 (bitI (eqlB a b)), .bool true]) ∧ w = w' := by
  go_enter Try.func13, Try.ntmps13
  go_wp2_with (first
    | (go_at_call 19; with_reducible refine (turned_any _ (inU_wrap _) _).mono ?_; rintro e w' ⟨rfl, rfl⟩)
    | (go_at_call 22; with_reducible refine (add_any _ _ (inU_wrap _) (inU_wrap _) _).mono ?_; rintro e w' ⟨rfl, rfl⟩)
    | (go_at_call 22; with_reducible refine (add_any _ _ (inU_wrap _) (inU_turn _) _).mono ?_; rintro e w' ⟨rfl, rfl⟩)
    | (go_at_call 23; with_reducible refine (mul_any _ _ (inU_wrap _) (inU_wrap _) _).mono ?_; rintro e w' ⟨rfl, rfl⟩)
    | (go_at_call 25; go_in)
    | (go_at_call 20; with_reducible refine (rtruth_any _ _).mono ?_; rintro e w' ⟨rfl, rfl⟩)
    | (go_at_call 30; with_reducible refine (less_any _ _ (by with_reducible assumption) (by with_reducible assumption) _).mono ?_; rintro e w' ⟨rfl, rfl⟩)
    | (go_at_call 24; with_reducible refine (quotient_any _ _ ha hb h _).mono ?_; rintro e w' ⟨rfl, rfl⟩))
  go_ret2
  exact ⟨by first | rfl | (rw [E.out] <;> rfl), rfl⟩
theorem R_neq (a b : Int) (ha : In64 a) (hb : In64 b) (w : World) :
    Calls Try.prog 13 #[.int .i64 15, .int .i64 a, .int .i64 b] w fun e w' => e = .returned (.tuple #[.int .i64 (bitI (neqB a b)), .bool true]) ∧ w = w' := by
  go_enter Try.func13, Try.ntmps13
  go_wp2_with (first
    | (go_at_call 19; with_reducible refine (turned_any _ (inU_wrap _) _).mono ?_; rintro e w' ⟨rfl, rfl⟩)
    | (go_at_call 22; with_reducible refine (add_any _ _ (inU_wrap _) (inU_wrap _) _).mono ?_; rintro e w' ⟨rfl, rfl⟩)
    | (go_at_call 22; with_reducible refine (add_any _ _ (inU_wrap _) (inU_turn _) _).mono ?_; rintro e w' ⟨rfl, rfl⟩)
    | (go_at_call 23; with_reducible refine (mul_any _ _ (inU_wrap _) (inU_wrap _) _).mono ?_; rintro e w' ⟨rfl, rfl⟩)
    | (go_at_call 25; go_in)
    | (go_at_call 20; with_reducible refine (rtruth_any _ _).mono ?_; rintro e w' ⟨rfl, rfl⟩)
    | (go_at_call 30; with_reducible refine (less_any _ _ (by with_reducible assumption) (by with_reducible assumption) _).mono ?_; rintro e w' ⟨rfl, rfl⟩)
    | (go_at_call 24; with_reducible refine (quotient_any _ _ ha hb h _).mono ?_; rintro e w' ⟨rfl, rfl⟩))
  go_ret2
  exact ⟨by first | rfl | (rw [E.out] <;> rfl), rfl⟩
theorem R_and (a b : Int) (ha : In64 a) (hb : In64 b) (w : World) :
    Calls Try.prog 13 #[.int .i64 16, .int .i64 a, .int .i64 b] w fun e w' => e = .returned (.tuple #[.int .i64 (bitI (andB a b)), .bool true]) ∧ w = w' := by
  have e : andB a b = ((a != 0) && (b != 0)) := rfl
  rw [e]
  clear e ha hb
  cases h : (a != 0) <;> cases h2 : (b != 0) <;>
  · go_enter Try.func13, Try.ntmps13
    go_wp2_with (first | (go_at_call 25; go_in) | (go_at_call 20; with_reducible refine (rtruth_any _ _).mono ?_; rintro e w' ⟨rfl, rfl⟩))
    go_ret2
    exact ⟨rfl, rfl⟩
theorem R_or (a b : Int) (ha : In64 a) (hb : In64 b) (w : World) :
    Calls Try.prog 13 #[.int .i64 17, .int .i64 a, .int .i64 b] w fun e w' => e = .returned (.tuple #[.int .i64 (bitI (orB a b)), .bool true]) ∧ w = w' := by
  have e : orB a b = ((a != 0) || (b != 0)) := rfl
  rw [e]
  clear e ha hb
  cases h : (a != 0) <;> cases h2 : (b != 0) <;>
  · go_enter Try.func13, Try.ntmps13
    go_wp2_with (first | (go_at_call 25; go_in) | (go_at_call 20; with_reducible refine (rtruth_any _ _).mono ?_; rintro e w' ⟨rfl, rfl⟩))
    go_ret2
    exact ⟨rfl, rfl⟩
theorem R_none (op a b : Int) (h : op < 5 ∨ 17 < op) (w : World) :
    Calls Try.prog 13 #[.int .i64 op, .int .i64 a, .int .i64 b] w fun e w' => e = .returned (.tuple #[.int .i64 0, .bool false]) ∧ w = w' := by
  have n5 : (op == 5) = false := by simpa using (by omega : ¬ op = 5)
  have n6 : (op == 6) = false := by simpa using (by omega : ¬ op = 6)
  have n7 : (op == 7) = false := by simpa using (by omega : ¬ op = 7)
  have n8 : (op == 8) = false := by simpa using (by omega : ¬ op = 8)
  have n9 : (op == 9) = false := by simpa using (by omega : ¬ op = 9)
  have n10 : (op == 10) = false := by simpa using (by omega : ¬ op = 10)
  have n11 : (op == 11) = false := by simpa using (by omega : ¬ op = 11)
  have n12 : (op == 12) = false := by simpa using (by omega : ¬ op = 12)
  have n13 : (op == 13) = false := by simpa using (by omega : ¬ op = 13)
  have n14 : (op == 14) = false := by simpa using (by omega : ¬ op = 14)
  have n15 : (op == 15) = false := by simpa using (by omega : ¬ op = 15)
  have n16 : (op == 16) = false := by simpa using (by omega : ¬ op = 16)
  have n17 : (op == 17) = false := by simpa using (by omega : ¬ op = 17)
  clear h
  go_enter Try.func13, Try.ntmps13
  go_wp2
  go_ret2
  exact ⟨rfl, rfl⟩
theorem R1_none (op a : Int) (h : op < 3 ∨ 4 < op) (w : World) :
    Calls Try.prog 11 #[.int .i64 op, .int .i64 a] w fun e w' => e = .returned (.tuple #[.int .i64 0, .bool false]) ∧ w = w' := by
  have n3 : (op == 3) = false := by simpa using (by omega : ¬ op = 3)
  have n4 : (op == 4) = false := by simpa using (by omega : ¬ op = 4)
  clear h
  go_enter Try.func11, Try.ntmps11
  go_wp2
  go_ret2
  exact ⟨rfl, rfl⟩
theorem R1_neg (a : Int) (w : World) :
    Calls Try.prog 11 #[.int .i64 3, .int .i64 a] w fun e w' => e = .returned (.tuple #[.int .i64 (negM a), .bool true]) ∧ w = w' := by
  have E : Hid (negM a = wrap64 (turnU (IntKind.u64.wrap a))) := Lib.hid (by rw [wrapU]; unfold negM turnU wrap64; omega)
  go_enter Try.func11, Try.ntmps11
  go_wp2_with (go_at_call 19; with_reducible refine (turned_any _ (inU_wrap _) _).mono ?_; rintro e w' ⟨rfl, rfl⟩)
  go_ret2
  exact ⟨by rw [E.out] <;> rfl, rfl⟩
theorem R1_not (a : Int) (w : World) :
    Calls Try.prog 11 #[.int .i64 4, .int .i64 a] w fun e w' => e = .returned (.tuple #[.int .i64 (bitI (!truB a)), .bool true]) ∧ w = w' := by
  have E : Hid ((!truB a) = (a == 0)) := Lib.hid (by unfold truB; simp [bne])
  go_enter Try.func11, Try.ntmps11
  go_wp2_with (go_at_call 20; with_reducible refine (rtruth_any _ _).mono ?_; rintro e w' ⟨rfl, rfl⟩)
  go_ret2
  exact ⟨by rw [E.out] <;> rfl, rfl⟩
theorem One_all (op a : Int) (w : World) :
    Calls Try.prog 10 #[.int .i64 op, .int .i64 a] w fun e w' => e = .returned (.tuple #[.int .i64 (oneV op a).1, .bool (oneV op a).2]) ∧ w = w' := by
  by_cases h3 : op = 3
  · subst h3; exact One_neg a w
  by_cases h4 : op = 4
  · subst h4; exact One_not a w
  · have e : oneV op a = (0, false) := by unfold oneV; rw [if_neg h3, if_neg h4]
    rw [e]; exact One_none op a (by omega) w
theorem ROne_all (op a : Int) (w : World) :
    Calls Try.prog 11 #[.int .i64 op, .int .i64 a] w fun e w' => e = .returned (.tuple #[.int .i64 (oneV op a).1, .bool (oneV op a).2]) ∧ w = w' := by
  by_cases h3 : op = 3
  · subst h3; exact R1_neg a w
  by_cases h4 : op = 4
  · subst h4; exact R1_not a w
  · have e : oneV op a = (0, false) := by unfold oneV; rw [if_neg h3, if_neg h4]
    rw [e]; exact R1_none op a (by omega) w
theorem Two_all (op a b : Int) (ha : In64 a) (hb : In64 b) (w : World) :
    Calls Try.prog 12 #[.int .i64 op, .int .i64 a, .int .i64 b] w fun e w' => e = .returned (.tuple #[.int .i64 (twoV op a b).1, .bool (twoV op a b).2]) ∧ w = w' := by
  by_cases h5 : op = 5
  · subst h5
    exact Two_mul a b w
  by_cases h6 : op = 6
  · subst h6
    by_cases hz : b = 0
    · subst hz; exact Two_div0 a w
    · have e : twoV 6 a b = (divM a b, true) := by unfold twoV; simp [hz]
      rw [e]; exact Two_div a b hz w
  by_cases h7 : op = 7
  · subst h7
    by_cases hz : b = 0
    · subst hz; exact Two_rem0 a w
    · have e : twoV 7 a b = (remM a b, true) := by unfold twoV; simp [hz]
      rw [e]; exact Two_rem a b hz w
  by_cases h8 : op = 8
  · subst h8
    exact Two_add a b w
  by_cases h9 : op = 9
  · subst h9
    exact Two_sub a b w
  by_cases h10 : op = 10
  · subst h10
    exact Two_lss a b w
  by_cases h11 : op = 11
  · subst h11
    exact Two_leq a b w
  by_cases h12 : op = 12
  · subst h12
    exact Two_gtr a b w
  by_cases h13 : op = 13
  · subst h13
    exact Two_geq a b w
  by_cases h14 : op = 14
  · subst h14
    exact Two_eql a b w
  by_cases h15 : op = 15
  · subst h15
    exact Two_neq a b w
  by_cases h16 : op = 16
  · subst h16
    exact Two_and a b w
  by_cases h17 : op = 17
  · subst h17
    exact Two_or a b w
  have e : twoV op a b = (0, false) := by unfold twoV; simp [h5, h6, h7, h8, h9, h10, h11, h12, h13, h14, h15, h16, h17]
  rw [e]; exact Two_none op a b (by omega) w
theorem RTwo_all (op a b : Int) (ha : In64 a) (hb : In64 b) (w : World) :
    Calls Try.prog 13 #[.int .i64 op, .int .i64 a, .int .i64 b] w fun e w' => e = .returned (.tuple #[.int .i64 (twoV op a b).1, .bool (twoV op a b).2]) ∧ w = w' := by
  by_cases h5 : op = 5
  · subst h5
    exact R_mul a b ha hb w
  by_cases h6 : op = 6
  · subst h6
    by_cases hz : b = 0
    · subst hz; exact R_div0 a w
    · have e : twoV 6 a b = (divM a b, true) := by unfold twoV; simp [hz]
      rw [e]; exact R_div a b ha hb hz w
  by_cases h7 : op = 7
  · subst h7
    by_cases hz : b = 0
    · subst hz; exact R_rem0 a w
    · have e : twoV 7 a b = (remM a b, true) := by unfold twoV; simp [hz]
      rw [e]; exact R_rem a b ha hb hz w
  by_cases h8 : op = 8
  · subst h8
    exact R_add a b ha hb w
  by_cases h9 : op = 9
  · subst h9
    exact R_sub a b ha hb w
  by_cases h10 : op = 10
  · subst h10
    exact R_lss a b ha hb w
  by_cases h11 : op = 11
  · subst h11
    exact R_leq a b ha hb w
  by_cases h12 : op = 12
  · subst h12
    exact R_gtr a b ha hb w
  by_cases h13 : op = 13
  · subst h13
    exact R_geq a b ha hb w
  by_cases h14 : op = 14
  · subst h14
    exact R_eql a b ha hb w
  by_cases h15 : op = 15
  · subst h15
    exact R_neq a b ha hb w
  by_cases h16 : op = 16
  · subst h16
    exact R_and a b ha hb w
  by_cases h17 : op = 17
  · subst h17
    exact R_or a b ha hb w
  have e : twoV op a b = (0, false) := by unfold twoV; simp [h5, h6, h7, h8, h9, h10, h11, h12, h13, h14, h15, h16, h17]
  rw [e]; exact R_none op a b (by omega) w
end Go.Proofs.Ytldemchbhcecfaa
