/- Plain arithmetic of the reference's product and quotient, bit by bit. -/
import Derived.Test.YtldemchbhcecfaaWordR
namespace Go.Proofs.Ytldemchbhcecfaa
open Go.RowKit
def mulS (a b : Int) (k : Nat) : Int := (a * (b % 2 ^ k)) % 18446744073709551616
def mulU (a b : Int) : Int := (a * b) % 18446744073709551616
theorem inU_mulS (a b : Int) (k : Nat) : InU (mulS a b k) := by unfold InU mulS; omega
theorem mulS_zero (a b : Int) : mulS a b 0 = 0 := by unfold mulS; simp
theorem mulS_end (a b : Int) (h : InU b) : mulS a b 64 = mulU a b := by
  unfold mulS mulU
  have e : b % 2 ^ 64 = b := by unfold InU at h; omega
  rw [e]
theorem pow_pos2 (k : Nat) : (0 : Int) < 2 ^ k := Int.pow_pos (by omega)
theorem mod_succ (b : Int) (k : Nat) : b % 2 ^ (k + 1) = b % 2 ^ k + (b / 2 ^ k % 2) * 2 ^ k := by
  have hp := pow_pos2 k
  have e : (2 : Int) ^ (k + 1) = 2 ^ k * 2 := Int.pow_succ 2 k
  rw [e]
  generalize (2 : Int) ^ k = P at *
  have hd := Int.emod_add_mul_ediv b P
  have hm := Int.emod_nonneg b (show P ≠ 0 by omega)
  have hl := Int.emod_lt_of_pos b hp
  have hq : b / P = 2 * (b / P / 2) + b / P % 2 := by omega
  have hx : P * (b / P) = P * 2 * (b / P / 2) + b / P % 2 * P := by
    conv => lhs; rw [hq, Int.mul_add, ← Int.mul_assoc, Int.mul_comm P (b / P % 2)]
  have u := (Int.ediv_emod_unique (a := b) (b := P * 2) (r := b % P + b / P % 2 * P) (q := b / P / 2) (by omega)).2
  refine (u ⟨by omega, ?_, ?_⟩).2
  all_goals
    rcases (show b / P % 2 = 0 ∨ b / P % 2 = 1 by omega) with h | h
    all_goals rw [h]; omega
theorem mulS_one (a b : Int) (k : Nat) (h : b / 2 ^ k % 2 = 1) : addU (mulS a b k) (IntKind.u64.wrap (a * 2 ^ k)) = mulS a b (k + 1) := by
  unfold addU mulS
  rw [IntKind.wrap_u64, mod_succ, h, Int.one_mul, Int.mul_add, ← Int.add_emod]
theorem mulS_no (a b : Int) (k : Nat) (h : b / 2 ^ k % 2 = 0) : mulS a b k = mulS a b (k + 1) := by
  unfold mulS
  rw [mod_succ, h, Int.zero_mul, Int.add_zero]
theorem and1 (x : Int) (h : InU x) : bits .and .u64 x 1 = x % 2 := by
  unfold InU at h
  rw [u64_and x 1 h.1 h.2 (by omega) (by omega)]
  have e : (1 : Int).toNat = 1 := rfl
  rw [e, Nat.and_one_is_mod]
  omega
theorem inU_shift (a : Int) (h : InU a) (k : Nat) : InU (a / 2 ^ k) := by
  unfold InU at *
  have hp := pow_pos2 k
  exact ⟨Int.ediv_nonneg h.1 (by omega), Int.lt_of_le_of_lt (Int.ediv_le_self _ h.1) h.2⟩
/-- a step of the division -/
def quoS (a b : Int) (k : Nat) : Int := (a / 2 ^ k / b) * 2 ^ k
def remS (a b : Int) (k : Nat) : Int := a / 2 ^ k % b
theorem shift_step (a : Int) (k : Nat) : a / 2 ^ k = 2 * (a / 2 ^ (k + 1)) + a / 2 ^ k % 2 := by
  have e : (2 : Int) ^ (k + 1) = 2 ^ k * 2 := Int.pow_succ 2 k
  rw [e, ← Int.ediv_ediv_of_nonneg (by have := pow_pos2 k; omega)]
  omega
theorem step_less (a b : Int) (k : Nat) (hb : 0 < b) (h : 2 * remS a b (k + 1) + a / 2 ^ k % 2 < b) :
    remS a b k = 2 * remS a b (k + 1) + a / 2 ^ k % 2 ∧ quoS a b k = quoS a b (k + 1) := by
  have s := shift_step a k
  have hm := Int.emod_nonneg (a / 2 ^ (k + 1)) (show b ≠ 0 by omega)
  have hB : 0 ≤ a / 2 ^ k % 2 := by omega
  have hd := Int.emod_add_mul_ediv (a / 2 ^ (k + 1)) b
  unfold remS quoS at *
  have u := (Int.ediv_emod_unique (a := a / 2 ^ k) (b := b) (r := 2 * (a / 2 ^ (k + 1) % b) + a / 2 ^ k % 2) (q := 2 * (a / 2 ^ (k + 1) / b)) hb).2
    ⟨by rw [Int.mul_left_comm]; omega, by omega, h⟩
  refine ⟨u.2, ?_⟩
  rw [u.1, Int.pow_succ, Int.mul_comm (2 ^ k) 2, ← Int.mul_assoc, Int.mul_comm 2]
theorem step_more (a b : Int) (k : Nat) (hb : 0 < b) (h : b ≤ 2 * remS a b (k + 1) + a / 2 ^ k % 2) :
    remS a b k = 2 * remS a b (k + 1) + a / 2 ^ k % 2 - b ∧ quoS a b k = quoS a b (k + 1) + 2 ^ k := by
  have s := shift_step a k
  have hm := Int.emod_nonneg (a / 2 ^ (k + 1)) (show b ≠ 0 by omega)
  have hl := Int.emod_lt_of_pos (a / 2 ^ (k + 1)) hb
  have hB : a / 2 ^ k % 2 ≤ 1 := by omega
  have hd := Int.emod_add_mul_ediv (a / 2 ^ (k + 1)) b
  unfold remS quoS at *
  have u := (Int.ediv_emod_unique (a := a / 2 ^ k) (b := b) (r := 2 * (a / 2 ^ (k + 1) % b) + a / 2 ^ k % 2 - b) (q := 2 * (a / 2 ^ (k + 1) / b) + 1) hb).2
    ⟨by rw [Int.mul_add, Int.mul_left_comm]; omega, by omega, by omega⟩
  refine ⟨u.2, ?_⟩
  rw [u.1, Int.pow_succ, Int.mul_comm (2 ^ k) 2, ← Int.mul_assoc, Int.add_mul, Int.one_mul, Int.mul_comm 2]
theorem inU_remS (a b : Int) (k : Nat) (hb : InU b) (h0 : 0 < b) : InU (remS a b k) ∧ remS a b k < b := by
  unfold InU remS at *
  have := Int.emod_nonneg (a / 2 ^ k) (show b ≠ 0 by omega)
  have := Int.emod_lt_of_pos (a / 2 ^ k) h0
  omega
theorem inU_quoS (a b : Int) (k : Nat) (ha : InU a) (h0 : 0 < b) : InU (quoS a b k) := by
  have hi := inU_shift a ha k
  have hp := pow_pos2 k
  unfold InU quoS at *
  have q0 : 0 ≤ a / 2 ^ k / b := Int.ediv_nonneg hi.1 (by omega)
  have q1 : a / 2 ^ k / b ≤ a / 2 ^ k := Int.ediv_le_self _ hi.1
  have q2 : a / 2 ^ k / b * 2 ^ k ≤ a / 2 ^ k * 2 ^ k := Int.mul_le_mul_of_nonneg_right q1 (by omega)
  have q3 : a / 2 ^ k * 2 ^ k ≤ a := Int.ediv_mul_le a (by omega)
  exact ⟨Int.mul_nonneg q0 (by omega), by omega⟩
theorem or_bit (a b : Int) (k : Nat) (ha : InU a) (h0 : 0 < b) (h : b ≤ 2 * remS a b (k + 1) + a / 2 ^ k % 2) :
    bits .or .u64 (quoS a b (k + 1)) (2 ^ k) = quoS a b k := by
  have s := (step_more a b k h0 h).2
  have h1 := inU_quoS a b (k + 1) ha h0
  have h2 := inU_quoS a b k ha h0
  have hp := pow_pos2 k
  rw [s]
  unfold InU at h1 h2
  rw [u64_or _ _ h1.1 h1.2 (by omega) (by omega)]
  have q0 : 0 ≤ a / 2 ^ (k + 1) / b := Int.ediv_nonneg (inU_shift a ha (k + 1)).1 (by omega)
  have e1 : (quoS a b (k + 1)).toNat = 2 ^ (k + 1) * (a / 2 ^ (k + 1) / b).toNat := by
    unfold quoS
    obtain ⟨q, hq⟩ := Int.eq_ofNat_of_zero_le q0
    rw [hq, Int.mul_comm]
    have : ((2 : Int) ^ (k + 1)) = ((2 ^ (k + 1) : Nat) : Int) := by norm_cast
    rw [this, ← Int.natCast_mul, Int.toNat_natCast, Int.toNat_natCast]
  have e2 : ((2 : Int) ^ k).toNat = 2 ^ k := by
    have : ((2 : Int) ^ k) = ((2 ^ k : Nat) : Int) := by norm_cast
    rw [this, Int.toNat_natCast]
  have e3 : 2 ^ k < 2 ^ (k + 1) := Nat.pow_lt_pow_right (by omega) (by omega)
  rw [e1, e2, ← Nat.two_pow_add_eq_or_of_lt e3, ← e1]
  have e4 : ((2 ^ k : Nat) : Int) = 2 ^ k := by norm_cast
  rw [Int.natCast_add, e4]
  omega
theorem or_low (x B : Int) (h0 : 0 ≤ x) (h1 : x < 9223372036854775808) (hB : 0 ≤ B) (hB' : B ≤ 1) : bits .or .u64 (x * 2) B = 2 * x + B := by
  rw [u64_or _ _ (by omega) (by omega) hB (by omega)]
  have e1 : (x * 2).toNat = 2 ^ 1 * x.toNat := by omega
  have e2 : B.toNat < 2 ^ 1 := by omega
  rw [e1, ← Nat.two_pow_add_eq_or_of_lt e2]
  omega
theorem quoS_end (a b : Int) : quoS a b 0 = a / b := by unfold quoS; simp
theorem remS_end (a b : Int) : remS a b 0 = a % b := by unfold remS; simp
theorem quoS_start (a b : Int) (h : InU a) : quoS a b 64 = 0 := by
  unfold quoS InU at *
  have : a / 2 ^ 64 = 0 := by omega
  rw [this]; simp
theorem remS_start (a b : Int) (h : InU a) : remS a b 64 = 0 := by
  unfold remS InU at *
  have : a / 2 ^ 64 = 0 := by omega
  rw [this]; simp
end Go.Proofs.Ytldemchbhcecfaa
