/- Plain arithmetic modulo 2^64 for the laws of package word: nothing of the program. -/
import Derived.Test.YtldemchbhcecfaaWordC
namespace Go.Proofs.Ytldemchbhcecfaa
open Go.RowKit
def In64 (a : Int) : Prop := -9223372036854775808 ≤ a ∧ a ≤ 9223372036854775807
theorem in64_of {a : Int} (h : (Lit.int .i64 a).wf = true) : In64 a := by
  simp only [Lit.wf, IntKind.min, IntKind.max, IntKind.signed, IntKind.bits, Bool.and_eq_true, decide_eq_true_eq, if_true] at h
  unfold In64; omega
theorem wrap_in {a : Int} (h : In64 a) : wrap64 a = a := by
  unfold In64 at h; unfold wrap64; omega
theorem wrap_is (n : Int) : ∃ k : Int, wrap64 n = n + k * 18446744073709551616 := by
  refine ⟨-((n + 9223372036854775808) / 18446744073709551616), ?_⟩
  unfold wrap64; omega
theorem wrap_of (n k : Int) : wrap64 (n + k * 18446744073709551616) = wrap64 n := by
  unfold wrap64; omega
theorem wrap_range (n : Int) : In64 (wrap64 n) := by unfold In64 wrap64; omega
theorem wrap_congr {x y k : Int} (h : x = y + k * 18446744073709551616) : wrap64 x = wrap64 y := by
  rw [h]; exact wrap_of _ _
theorem wrap_add_l (x c : Int) : wrap64 (wrap64 x + c) = wrap64 (x + c) := by
  obtain ⟨k, hk⟩ := wrap_is x
  exact wrap_congr (k := k) (by rw [hk]; omega)
theorem wrap_add_r (x c : Int) : wrap64 (c + wrap64 x) = wrap64 (c + x) := by
  rw [Int.add_comm, wrap_add_l, Int.add_comm]
theorem wrap_mul_l (x c : Int) : wrap64 (wrap64 x * c) = wrap64 (x * c) := by
  obtain ⟨k, hk⟩ := wrap_is x
  refine wrap_congr (k := k * c) ?_
  rw [hk, Int.add_mul, Int.mul_assoc, Int.mul_assoc, Int.mul_comm c]
theorem wrap_mul_r (x c : Int) : wrap64 (c * wrap64 x) = wrap64 (c * x) := by
  rw [Int.mul_comm, wrap_mul_l, Int.mul_comm]
theorem wrap_sub_l (x c : Int) : wrap64 (wrap64 x - c) = wrap64 (x - c) := by
  obtain ⟨k, hk⟩ := wrap_is x
  exact wrap_congr (k := k) (by rw [hk]; omega)
theorem wrap_sub_r (x c : Int) : wrap64 (c - wrap64 x) = wrap64 (c - x) := by
  obtain ⟨k, hk⟩ := wrap_is x
  exact wrap_congr (k := -k) (by rw [hk]; omega)
/-- WordTurn's four -/
theorem turn1 {a : Int} (b : Int) (h : In64 a) : (subM (addM a b) b == a) = true := by
  have : subM (addM a b) b = a := by unfold subM addM; rw [wrap_sub_l, show a + b - b = a by omega, wrap_in h]
  simp [this]
theorem turn2 (a : Int) : (addM a (negM a) == 0) = true := by
  have : addM a (negM a) = 0 := by unfold addM negM; rw [wrap_add_r, show a + (0 - a) = 0 by omega]; exact wrap_in (by unfold In64; omega)
  simp [this]
theorem turn3 (a b : Int) : (subM a b == addM a (negM b)) = true := by
  have : subM a b = addM a (negM b) := by unfold subM addM negM; rw [wrap_add_r, show a + (0 - b) = a - b by omega]
  simp [this]
theorem turn4 {a : Int} (h : In64 a) : (negM (negM a) == a) = true := by
  have : negM (negM a) = a := by unfold negM; rw [wrap_sub_r, show 0 - (0 - a) = a by omega, wrap_in h]
  simp [this]
/-- WordRing's -/
theorem ring1 (a b c : Int) : (addM (addM a b) c == addM a (addM b c)) = true := by
  have : addM (addM a b) c = addM a (addM b c) := by unfold addM; rw [wrap_add_l, wrap_add_r, Int.add_assoc]
  simp [this]
theorem ring2 (a b : Int) : (addM a b == addM b a) = true := by
  have : addM a b = addM b a := by unfold addM; rw [Int.add_comm]
  simp [this]
theorem ring3 (a b c : Int) : (mulM (mulM a b) c == mulM a (mulM b c)) = true := by
  have : mulM (mulM a b) c = mulM a (mulM b c) := by unfold mulM; rw [wrap_mul_l, wrap_mul_r, Int.mul_assoc]
  simp [this]
theorem ring4 (a b : Int) : (mulM a b == mulM b a) = true := by
  have : mulM a b = mulM b a := by unfold mulM; rw [Int.mul_comm]
  simp [this]
theorem ring5 (a b c : Int) : (mulM a (addM b c) == addM (mulM a b) (mulM a c)) = true := by
  have : mulM a (addM b c) = addM (mulM a b) (mulM a c) := by unfold mulM addM; rw [wrap_mul_r, wrap_add_l, wrap_add_r, Int.mul_add]
  simp [this]
theorem ring6 {a : Int} (h : In64 a) : (mulM a 1 == a) = true := by
  have : mulM a 1 = a := by unfold mulM; rw [Int.mul_one, wrap_in h]
  simp [this]
theorem ring7 (a : Int) : (mulM a (-1) == negM a) = true := by
  have : mulM a (-1) = negM a := by unfold mulM negM; rw [Int.mul_neg_one, Int.zero_sub]
  simp [this]
/-- WordDiv's -/
theorem div1 {a : Int} (b : Int) (h : In64 a) : (addM (mulM (divM a b) b) (remM a b) == a) = true := by
  have : addM (mulM (divM a b) b) (remM a b) = a := by
    unfold addM mulM divM remM
    rw [wrap_add_l, Int.add_comm, show a.tmod b + wrap64 (a.tdiv b) * b = wrap64 (a.tdiv b) * b + a.tmod b by omega]
    obtain ⟨k, hk⟩ := wrap_is (a.tdiv b)
    have e : wrap64 (a.tdiv b) * b + a.tmod b = a + (k * b) * 18446744073709551616 := by
      have := Int.tmod_add_mul_tdiv a b
      rw [hk, Int.add_mul, Int.mul_assoc k, Int.mul_assoc k, Int.mul_comm _ b, Int.mul_comm _ b]
      omega
    rw [e, wrap_of, wrap_in h]
  simp [this]
theorem div2 (a b : Int) (hb : ¬ b = 0) : (remM a b).natAbs < b.natAbs := by
  unfold remM; rw [Int.natAbs_tmod]; exact Nat.mod_lt _ (by omega)
theorem div3 (a b : Int) (h : ¬ remM a b = 0) : (remM a b < 0 ↔ a < 0) := by
  unfold remM at *
  constructor
  · intro h1
    have : ¬ 0 ≤ a := fun h2 => by have := Int.tmod_nonneg b h2; omega
    omega
  · intro h1
    have : (-a).tmod b = - a.tmod b := by rw [Int.neg_tmod]
    have := Int.tmod_nonneg b (show (0:Int) ≤ -a by omega)
    omega
theorem div4 {a : Int} (b : Int) (h : In64 a) : (divM a b).natAbs ≤ a.natAbs := by
  unfold divM
  have h1 : (a.tdiv b).natAbs ≤ a.natAbs := by rw [Int.natAbs_tdiv]; exact Nat.div_le_self _ _
  unfold In64 at h
  by_cases h2 : In64 (a.tdiv b)
  · rw [wrap_in h2]; exact h1
  · unfold In64 at h2
    have h3 : a.tdiv b = 9223372036854775808 := by omega
    rw [h3]; unfold wrap64; omega
end Go.Proofs.Ytldemchbhcecfaa
