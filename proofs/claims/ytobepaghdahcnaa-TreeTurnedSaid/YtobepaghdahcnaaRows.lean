/-
  NARROWER THAN 'FOR EVERY INPUT', by the rows' own cells (each row's printed sentence says how): TreeMay: loops · TreeNumber: loops · TreeFirst: loops · TreeEq: loops · TreeTurned: loops · TreeSwap: loops · TreeOwn: loops.
  DERIVED. THE GIVEN ROWS OF THIS SEAT. 7 by the template 'for every input the law returns true; each argument reads behind the call as it read before'; 0 by the template 'total and deterministic' (their statements: YtobepaghdahcnaaTotals.lean).
  GIVEN WITH THE SEED: the statements are not yours to turn. If you find one false, say at which input.
  Laid BY PROGRAM, IN A SANDBOX (cutbox-rows.mjs): the forced cells as the released guide's own fill.sh prints them over the translation 7b2ebad73885e29f… (all of the seat's roots in one cut). By AI agents, Wed Nov 11 2026. No macro, syntax, notation, axiom, sorry.
-/
import Derived.Test.YtobepaghdahcnaaChecked
import GoSem.Claim
import GoSem.ClaimJoined
import GoSem.ClaimMapViews
import Derived.JoinedTies
import Derived.KernelRfl
namespace Go.Proofs.Ytobepaghdahcnaa
/- THE CELL 'sum', in the pinned program and in every row, IS THE sha256 OF THE DUMP (.gsa) THAT YtobepaghdahcnaaProg.lean LOADS. Nothing in Lean hashes anything: it is a label: what it is worth is what the hold of that sum in a sandbox is worth. -/
noncomputable def Try.pinned : Pinned := { name := "ytobepaghdahcnaa", sum := "7b2ebad73885e29fd34cca1f79dc2b61e4bbd82db7440e97406ce5f5641c4e8f", checked := Try.checked }
namespace Rows
def none {H : Type} : Left H := { results := [], args := [] }

/-- 'whittlerlaw3.TreeMay': WHATEVER THE INPUT: true; the input reads as it did. -/
def treeMaySpec : ChangeSpec := { name := "treeMay", fn := fun _ => fun
  | [d] => { results := [.lit (.bool true)], args := [d] }
  | _ => none }
def treeMayRow : OpenClaim := { program := "ytobepaghdahcnaa", sum := "7b2ebad73885e29fd34cca1f79dc2b61e4bbd82db7440e97406ce5f5641c4e8f", func := "whittler/whittlerlaw3.TreeMay", spec := "treeMay", unfollowed := true, recurses := true, loops := true, apart := false }
def TreeMaySaid : Prop := treeMayRow.holds Try.pinned (OpenSpec.ofChange treeMaySpec)

/-- ITS FALSE NEIGHBOUR: 'it returns false'. Refute it at one input. -/
def treeMayWrong : ChangeSpec := { name := "treeMay", fn := fun _ => fun
  | [d] => { results := [.lit (.bool false)], args := [d] }
  | _ => none }
def TreeMayWrongFalsely : Prop := treeMayRow.holds Try.pinned (OpenSpec.ofChange treeMayWrong)

/-- 'whittlerlaw3.TreeNumber': WHATEVER THE INPUT: true; the input reads as it did. -/
def treeNumberSpec : ChangeSpec := { name := "treeNumber", fn := fun _ => fun
  | [d1, d2, d3] => { results := [.lit (.bool true)], args := [d1, d2, d3] }
  | _ => none }
def treeNumberRow : OpenClaim := { program := "ytobepaghdahcnaa", sum := "7b2ebad73885e29fd34cca1f79dc2b61e4bbd82db7440e97406ce5f5641c4e8f", func := "whittler/whittlerlaw3.TreeNumber", spec := "treeNumber", unfollowed := true, recurses := true, loops := true, apart := false }
def TreeNumberSaid : Prop := treeNumberRow.holds Try.pinned (OpenSpec.ofChange treeNumberSpec)

/-- ITS FALSE NEIGHBOUR: 'it returns false'. Refute it at one input. -/
def treeNumberWrong : ChangeSpec := { name := "treeNumber", fn := fun _ => fun
  | [d1, d2, d3] => { results := [.lit (.bool false)], args := [d1, d2, d3] }
  | _ => none }
def TreeNumberWrongFalsely : Prop := treeNumberRow.holds Try.pinned (OpenSpec.ofChange treeNumberWrong)

/-- 'whittlerlaw3.TreeFirst': WHATEVER THE INPUT: true; the input reads as it did. -/
def treeFirstSpec : ChangeSpec := { name := "treeFirst", fn := fun _ => fun
  | [d1, d2] => { results := [.lit (.bool true)], args := [d1, d2] }
  | _ => none }
def treeFirstRow : OpenClaim := { program := "ytobepaghdahcnaa", sum := "7b2ebad73885e29fd34cca1f79dc2b61e4bbd82db7440e97406ce5f5641c4e8f", func := "whittler/whittlerlaw3.TreeFirst", spec := "treeFirst", unfollowed := true, recurses := true, loops := true, apart := false }
def TreeFirstSaid : Prop := treeFirstRow.holds Try.pinned (OpenSpec.ofChange treeFirstSpec)

/-- ITS FALSE NEIGHBOUR: 'it returns false'. Refute it at one input. -/
def treeFirstWrong : ChangeSpec := { name := "treeFirst", fn := fun _ => fun
  | [d1, d2] => { results := [.lit (.bool false)], args := [d1, d2] }
  | _ => none }
def TreeFirstWrongFalsely : Prop := treeFirstRow.holds Try.pinned (OpenSpec.ofChange treeFirstWrong)

/-- 'whittlerlaw3.TreeEq': WHATEVER THE INPUT: true; the input reads as it did. -/
def treeEqSpec : ChangeSpec := { name := "treeEq", fn := fun _ => fun
  | [d1, d2] => { results := [.lit (.bool true)], args := [d1, d2] }
  | _ => none }
def treeEqRow : OpenClaim := { program := "ytobepaghdahcnaa", sum := "7b2ebad73885e29fd34cca1f79dc2b61e4bbd82db7440e97406ce5f5641c4e8f", func := "whittler/whittlerlaw3.TreeEq", spec := "treeEq", unfollowed := true, recurses := true, loops := true, apart := false }
def TreeEqSaid : Prop := treeEqRow.holds Try.pinned (OpenSpec.ofChange treeEqSpec)

/-- ITS FALSE NEIGHBOUR: 'it returns false'. Refute it at one input. -/
def treeEqWrong : ChangeSpec := { name := "treeEq", fn := fun _ => fun
  | [d1, d2] => { results := [.lit (.bool false)], args := [d1, d2] }
  | _ => none }
def TreeEqWrongFalsely : Prop := treeEqRow.holds Try.pinned (OpenSpec.ofChange treeEqWrong)

/-- 'whittlerlaw3.TreeTurned': WHATEVER THE INPUT: true; the input reads as it did. -/
def treeTurnedSpec : ChangeSpec := { name := "treeTurned", fn := fun _ => fun
  | [d1, d2, d3, d4] => { results := [.lit (.bool true)], args := [d1, d2, d3, d4] }
  | _ => none }
def treeTurnedRow : OpenClaim := { program := "ytobepaghdahcnaa", sum := "7b2ebad73885e29fd34cca1f79dc2b61e4bbd82db7440e97406ce5f5641c4e8f", func := "whittler/whittlerlaw3.TreeTurned", spec := "treeTurned", unfollowed := true, recurses := true, loops := true, apart := false }
def TreeTurnedSaid : Prop := treeTurnedRow.holds Try.pinned (OpenSpec.ofChange treeTurnedSpec)

/-- ITS FALSE NEIGHBOUR: 'it returns false'. Refute it at one input. -/
def treeTurnedWrong : ChangeSpec := { name := "treeTurned", fn := fun _ => fun
  | [d1, d2, d3, d4] => { results := [.lit (.bool false)], args := [d1, d2, d3, d4] }
  | _ => none }
def TreeTurnedWrongFalsely : Prop := treeTurnedRow.holds Try.pinned (OpenSpec.ofChange treeTurnedWrong)

/-- 'whittlerlaw3.TreeSwap': WHATEVER THE INPUT: true; the input reads as it did. -/
def treeSwapSpec : ChangeSpec := { name := "treeSwap", fn := fun _ => fun
  | [d1, d2, d3] => { results := [.lit (.bool true)], args := [d1, d2, d3] }
  | _ => none }
def treeSwapRow : OpenClaim := { program := "ytobepaghdahcnaa", sum := "7b2ebad73885e29fd34cca1f79dc2b61e4bbd82db7440e97406ce5f5641c4e8f", func := "whittler/whittlerlaw3.TreeSwap", spec := "treeSwap", unfollowed := true, recurses := true, loops := true, apart := false }
def TreeSwapSaid : Prop := treeSwapRow.holds Try.pinned (OpenSpec.ofChange treeSwapSpec)

/-- ITS FALSE NEIGHBOUR: 'it returns false'. Refute it at one input. -/
def treeSwapWrong : ChangeSpec := { name := "treeSwap", fn := fun _ => fun
  | [d1, d2, d3] => { results := [.lit (.bool false)], args := [d1, d2, d3] }
  | _ => none }
def TreeSwapWrongFalsely : Prop := treeSwapRow.holds Try.pinned (OpenSpec.ofChange treeSwapWrong)

/-- 'whittlerlaw3.TreeOwn': WHATEVER THE INPUT: true; the input reads as it did. -/
def treeOwnSpec : ChangeSpec := { name := "treeOwn", fn := fun _ => fun
  | [d] => { results := [.lit (.bool true)], args := [d] }
  | _ => none }
def treeOwnRow : OpenClaim := { program := "ytobepaghdahcnaa", sum := "7b2ebad73885e29fd34cca1f79dc2b61e4bbd82db7440e97406ce5f5641c4e8f", func := "whittler/whittlerlaw3.TreeOwn", spec := "treeOwn", unfollowed := true, recurses := true, loops := true, apart := false }
def TreeOwnSaid : Prop := treeOwnRow.holds Try.pinned (OpenSpec.ofChange treeOwnSpec)

/-- ITS FALSE NEIGHBOUR: 'it returns false'. Refute it at one input. -/
def treeOwnWrong : ChangeSpec := { name := "treeOwn", fn := fun _ => fun
  | [d] => { results := [.lit (.bool false)], args := [d] }
  | _ => none }
def TreeOwnWrongFalsely : Prop := treeOwnRow.holds Try.pinned (OpenSpec.ofChange treeOwnWrong)

/- THE SECOND FORM. 'bulk': how many values and letters a reading holds, each counted each time it is reached (what is shared counts as often as it is met; a slice's spare places count too). A statement '..UptoSaid' is the law's where the arguments, and the package variables that the reading takes, are together of bulk at most 1048576: NARROWER than '..Said'. Prove '..Said' where nothing that the law and all that it calls make is longer than what came in: it says more and counts as full. Else prove '..UptoSaid'. A law counts once. -/
mutual
def uptoBulk {H : Type} : DataW H → Nat
  | .lit (.string bytes) => bytes.length + 1
  | .lit _ => 1
  | .nil => 1
  | .ptr d => uptoBulk d + 1
  | .slice elems spare => uptoBulkAll elems + uptoBulkAll spare + 1
  | .agg parts => uptoBulkAll parts + 1
  | .iface _ d => uptoBulk d + 1
  | .map entries => uptoBulkEntries entries + 1
  | .held _ => 1
def uptoBulkAll {H : Type} : List (DataW H) → Nat
  | [] => 0
  | d :: r => uptoBulk d + uptoBulkAll r
def uptoBulkEntries {H : Type} : List (Lit × DataW H) → Nat
  | [] => 0
  | x :: r => uptoBulkEntry x + uptoBulkEntries r
def uptoBulkEntry {H : Type} : Lit × DataW H → Nat
  | (.string bytes, d) => bytes.length + uptoBulk d + 1
  | (_, d) => uptoBulk d + 1
 end
def uptoSmall : (H : Type) → List (DataW H) → Bool := fun _ ds => decide (uptoBulkAll ds ≤ 1048576)
def OpenSpec.upto (s : _root_.Go.ChangeSpec) : _root_.Go.OpenSpec := { _root_.Go.OpenSpec.ofChange s with cond := some uptoSmall }

/-- 'whittlerlaw3.TreeMay', WHERE WHAT IT READS IS OF BULK AT MOST 1048576: true; the input reads as it did. -/
def treeMayUptoRow : OpenClaim := { program := "ytobepaghdahcnaa", sum := "7b2ebad73885e29fd34cca1f79dc2b61e4bbd82db7440e97406ce5f5641c4e8f", func := "whittler/whittlerlaw3.TreeMay", spec := "treeMay", unfollowed := true, recurses := true, loops := true, apart := false, narrowed := true }
def TreeMayUptoSaid : Prop := treeMayUptoRow.holds Try.pinned (OpenSpec.upto treeMaySpec)

/-- 'whittlerlaw3.TreeNumber', WHERE WHAT IT READS IS OF BULK AT MOST 1048576: true; the input reads as it did. -/
def treeNumberUptoRow : OpenClaim := { program := "ytobepaghdahcnaa", sum := "7b2ebad73885e29fd34cca1f79dc2b61e4bbd82db7440e97406ce5f5641c4e8f", func := "whittler/whittlerlaw3.TreeNumber", spec := "treeNumber", unfollowed := true, recurses := true, loops := true, apart := false, narrowed := true }
def TreeNumberUptoSaid : Prop := treeNumberUptoRow.holds Try.pinned (OpenSpec.upto treeNumberSpec)

/-- 'whittlerlaw3.TreeFirst', WHERE WHAT IT READS IS OF BULK AT MOST 1048576: true; the input reads as it did. -/
def treeFirstUptoRow : OpenClaim := { program := "ytobepaghdahcnaa", sum := "7b2ebad73885e29fd34cca1f79dc2b61e4bbd82db7440e97406ce5f5641c4e8f", func := "whittler/whittlerlaw3.TreeFirst", spec := "treeFirst", unfollowed := true, recurses := true, loops := true, apart := false, narrowed := true }
def TreeFirstUptoSaid : Prop := treeFirstUptoRow.holds Try.pinned (OpenSpec.upto treeFirstSpec)

/-- 'whittlerlaw3.TreeEq', WHERE WHAT IT READS IS OF BULK AT MOST 1048576: true; the input reads as it did. -/
def treeEqUptoRow : OpenClaim := { program := "ytobepaghdahcnaa", sum := "7b2ebad73885e29fd34cca1f79dc2b61e4bbd82db7440e97406ce5f5641c4e8f", func := "whittler/whittlerlaw3.TreeEq", spec := "treeEq", unfollowed := true, recurses := true, loops := true, apart := false, narrowed := true }
def TreeEqUptoSaid : Prop := treeEqUptoRow.holds Try.pinned (OpenSpec.upto treeEqSpec)

/-- 'whittlerlaw3.TreeTurned', WHERE WHAT IT READS IS OF BULK AT MOST 1048576: true; the input reads as it did. -/
def treeTurnedUptoRow : OpenClaim := { program := "ytobepaghdahcnaa", sum := "7b2ebad73885e29fd34cca1f79dc2b61e4bbd82db7440e97406ce5f5641c4e8f", func := "whittler/whittlerlaw3.TreeTurned", spec := "treeTurned", unfollowed := true, recurses := true, loops := true, apart := false, narrowed := true }
def TreeTurnedUptoSaid : Prop := treeTurnedUptoRow.holds Try.pinned (OpenSpec.upto treeTurnedSpec)

/-- 'whittlerlaw3.TreeSwap', WHERE WHAT IT READS IS OF BULK AT MOST 1048576: true; the input reads as it did. -/
def treeSwapUptoRow : OpenClaim := { program := "ytobepaghdahcnaa", sum := "7b2ebad73885e29fd34cca1f79dc2b61e4bbd82db7440e97406ce5f5641c4e8f", func := "whittler/whittlerlaw3.TreeSwap", spec := "treeSwap", unfollowed := true, recurses := true, loops := true, apart := false, narrowed := true }
def TreeSwapUptoSaid : Prop := treeSwapUptoRow.holds Try.pinned (OpenSpec.upto treeSwapSpec)

/-- 'whittlerlaw3.TreeOwn', WHERE WHAT IT READS IS OF BULK AT MOST 1048576: true; the input reads as it did. -/
def treeOwnUptoRow : OpenClaim := { program := "ytobepaghdahcnaa", sum := "7b2ebad73885e29fd34cca1f79dc2b61e4bbd82db7440e97406ce5f5641c4e8f", func := "whittler/whittlerlaw3.TreeOwn", spec := "treeOwn", unfollowed := true, recurses := true, loops := true, apart := false, narrowed := true }
def TreeOwnUptoSaid : Prop := treeOwnUptoRow.holds Try.pinned (OpenSpec.upto treeOwnSpec)

end Rows
end Go.Proofs.Ytobepaghdahcnaa
