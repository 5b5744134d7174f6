/- The law's size: a number without its sign, as an unsigned one. -/
import Derived.Test.YtldemchbhcecfaaWordM
namespace Go.Proofs.Ytldemchbhcecfaa
open Go.ChangeShapes Go.WideShapes Go.ChangeAt Go.RowKit
def sizeU (a : Int) : Int := a.natAbs
theorem not64 (a : Int) (h : In64 a) : bits .xor .i64 (-1) a = -1 - a := by
  show IntKind.i64.wrap ((BitVec.ofInt 64 (-1) ^^^ BitVec.ofInt 64 a).toNat : Int) = _
  have h1 : BitVec.ofInt 64 (-1) = BitVec.allOnes 64 := by decide
  have h2 : ((BitVec.ofInt 64 a).toNat : Int) = a % 18446744073709551616 := by
    rw [BitVec.toNat_ofInt]; simp only [Nat.reducePow]; omega
  unfold In64 at h
  rw [h1, BitVec.allOnes_xor, BitVec.toNat_not, IntKind.wrap_i64]
  omega
theorem size_any (a : Int) (h : In64 a) (w : World) :
    Calls Try.prog 17 #[.int .i64 a] w fun e w' => e = .returned (.int .u64 (sizeU a)) ∧ w = w' := by
  by_cases hn : a < 0
  · have e : bits .xor .i64 (-1) a = -1 - a := not64 a h
    have e2 : sizeU a = IntKind.u64.wrap (IntKind.u64.wrap (-1 - a) + 1) := by
      unfold sizeU; unfold In64 at h; rw [IntKind.wrap_u64, IntKind.wrap_u64]; omega
    rw [e2]
    clear e2
    unfold In64 at h
    go_enter Try.func17, Try.ntmps17
    go_wp2
    go_ret
    exact ⟨rfl, rfl⟩
  · have e2 : sizeU a = a := by unfold sizeU; omega
    rw [e2]
    clear e2
    unfold In64 at h
    go_enter Try.func17, Try.ntmps17
    go_wp2
    go_ret
    exact ⟨rfl, rfl⟩
end Go.Proofs.Ytldemchbhcecfaa
