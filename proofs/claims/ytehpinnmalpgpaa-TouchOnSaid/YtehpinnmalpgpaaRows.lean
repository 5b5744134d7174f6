/-
  NARROWER THAN 'FOR EVERY INPUT', by the rows' own cells (each row's printed sentence says how): TreeNumber: loops · ScopeTwice: loops · JumpOne: loops · JumpLoop: loops · JumpTurned: loops · TouchOn: loops.
  DERIVED. THE GIVEN ROWS OF THIS SEAT. 6 by the template 'for every input the law returns true; each argument reads behind the call as it read before'; 0 by the template 'total and deterministic' (their statements: YtehpinnmalpgpaaTotals.lean).
  GIVEN WITH THE SEED: the statements are not yours to turn. If you find one false, say at which input.
  Laid BY PROGRAM, IN A SANDBOX (cutbox-rows.mjs): the forced cells as the released guide's own fill.sh prints them over the translation 7f11cdbe336f3de2… (all of the seat's roots in one cut). By AI agents, Wed Nov 11 2026. No macro, syntax, notation, axiom, sorry.
-/
import Derived.Test.YtehpinnmalpgpaaChecked
import GoSem.Claim
import GoSem.ClaimJoined
import GoSem.ClaimMapViews
import Derived.JoinedTies
import Derived.KernelRfl
namespace Go.Proofs.Ytehpinnmalpgpaa
/- THE CELL 'sum', in the pinned program and in every row, IS THE sha256 OF THE DUMP (.gsa) THAT YtehpinnmalpgpaaProg.lean LOADS. Nothing in Lean hashes anything: it is a label: what it is worth is what the hold of that sum in a sandbox is worth. -/
noncomputable def Try.pinned : Pinned := { name := "ytehpinnmalpgpaa", sum := "7f11cdbe336f3de2fc8cc05fac90e789fce7d80998c51daa811b6c961806331f", checked := Try.checked }
namespace Rows
def none {H : Type} : Left H := { results := [], args := [] }

/-- 'whittlerlaw3.TreeNumber': WHATEVER THE INPUT: true; the input reads as it did. -/
def treeNumberSpec : ChangeSpec := { name := "treeNumber", fn := fun _ => fun
  | [d1, d2, d3] => { results := [.lit (.bool true)], args := [d1, d2, d3] }
  | _ => none }
def treeNumberRow : OpenClaim := { program := "ytehpinnmalpgpaa", sum := "7f11cdbe336f3de2fc8cc05fac90e789fce7d80998c51daa811b6c961806331f", func := "whittler/whittlerlaw3.TreeNumber", spec := "treeNumber", unfollowed := true, recurses := true, loops := true, apart := false }
def TreeNumberSaid : Prop := treeNumberRow.holds Try.pinned (OpenSpec.ofChange treeNumberSpec)

/-- ITS FALSE NEIGHBOUR: 'it returns false'. Refute it at one input. -/
def treeNumberWrong : ChangeSpec := { name := "treeNumber", fn := fun _ => fun
  | [d1, d2, d3] => { results := [.lit (.bool false)], args := [d1, d2, d3] }
  | _ => none }
def TreeNumberWrongFalsely : Prop := treeNumberRow.holds Try.pinned (OpenSpec.ofChange treeNumberWrong)

/-- 'whittlerlaw6.ScopeTwice': WHATEVER THE INPUT: true; the input reads as it did. -/
def scopeTwiceSpec : ChangeSpec := { name := "scopeTwice", fn := fun _ => fun
  | [d1, d2, d3, d4] => { results := [.lit (.bool true)], args := [d1, d2, d3, d4] }
  | _ => none }
def scopeTwiceRow : OpenClaim := { program := "ytehpinnmalpgpaa", sum := "7f11cdbe336f3de2fc8cc05fac90e789fce7d80998c51daa811b6c961806331f", func := "whittler/whittlerlaw6.ScopeTwice", spec := "scopeTwice", unfollowed := true, recurses := true, loops := true, apart := false }
def ScopeTwiceSaid : Prop := scopeTwiceRow.holds Try.pinned (OpenSpec.ofChange scopeTwiceSpec)

/-- ITS FALSE NEIGHBOUR: 'it returns false'. Refute it at one input. -/
def scopeTwiceWrong : ChangeSpec := { name := "scopeTwice", fn := fun _ => fun
  | [d1, d2, d3, d4] => { results := [.lit (.bool false)], args := [d1, d2, d3, d4] }
  | _ => none }
def ScopeTwiceWrongFalsely : Prop := scopeTwiceRow.holds Try.pinned (OpenSpec.ofChange scopeTwiceWrong)

/-- 'whittlerlaw8.JumpOne': WHATEVER THE INPUT: true; the input reads as it did. -/
def jumpOneSpec : ChangeSpec := { name := "jumpOne", fn := fun _ => fun
  | [d1, d2] => { results := [.lit (.bool true)], args := [d1, d2] }
  | _ => none }
def jumpOneRow : OpenClaim := { program := "ytehpinnmalpgpaa", sum := "7f11cdbe336f3de2fc8cc05fac90e789fce7d80998c51daa811b6c961806331f", func := "whittler/whittlerlaw8.JumpOne", spec := "jumpOne", unfollowed := true, recurses := true, loops := true, apart := false }
def JumpOneSaid : Prop := jumpOneRow.holds Try.pinned (OpenSpec.ofChange jumpOneSpec)

/-- ITS FALSE NEIGHBOUR: 'it returns false'. Refute it at one input. -/
def jumpOneWrong : ChangeSpec := { name := "jumpOne", fn := fun _ => fun
  | [d1, d2] => { results := [.lit (.bool false)], args := [d1, d2] }
  | _ => none }
def JumpOneWrongFalsely : Prop := jumpOneRow.holds Try.pinned (OpenSpec.ofChange jumpOneWrong)

/-- 'whittlerlaw8.JumpLoop': WHATEVER THE INPUT: true; the input reads as it did. -/
def jumpLoopSpec : ChangeSpec := { name := "jumpLoop", fn := fun _ => fun
  | [d1, d2] => { results := [.lit (.bool true)], args := [d1, d2] }
  | _ => none }
def jumpLoopRow : OpenClaim := { program := "ytehpinnmalpgpaa", sum := "7f11cdbe336f3de2fc8cc05fac90e789fce7d80998c51daa811b6c961806331f", func := "whittler/whittlerlaw8.JumpLoop", spec := "jumpLoop", unfollowed := true, recurses := true, loops := true, apart := false }
def JumpLoopSaid : Prop := jumpLoopRow.holds Try.pinned (OpenSpec.ofChange jumpLoopSpec)

/-- ITS FALSE NEIGHBOUR: 'it returns false'. Refute it at one input. -/
def jumpLoopWrong : ChangeSpec := { name := "jumpLoop", fn := fun _ => fun
  | [d1, d2] => { results := [.lit (.bool false)], args := [d1, d2] }
  | _ => none }
def JumpLoopWrongFalsely : Prop := jumpLoopRow.holds Try.pinned (OpenSpec.ofChange jumpLoopWrong)

/-- 'whittlerlaw8.JumpTurned': WHATEVER THE INPUT: true; the input reads as it did. -/
def jumpTurnedSpec : ChangeSpec := { name := "jumpTurned", fn := fun _ => fun
  | [d1, d2, d3, d4] => { results := [.lit (.bool true)], args := [d1, d2, d3, d4] }
  | _ => none }
def jumpTurnedRow : OpenClaim := { program := "ytehpinnmalpgpaa", sum := "7f11cdbe336f3de2fc8cc05fac90e789fce7d80998c51daa811b6c961806331f", func := "whittler/whittlerlaw8.JumpTurned", spec := "jumpTurned", unfollowed := true, recurses := true, loops := true, apart := false }
def JumpTurnedSaid : Prop := jumpTurnedRow.holds Try.pinned (OpenSpec.ofChange jumpTurnedSpec)

/-- ITS FALSE NEIGHBOUR: 'it returns false'. Refute it at one input. -/
def jumpTurnedWrong : ChangeSpec := { name := "jumpTurned", fn := fun _ => fun
  | [d1, d2, d3, d4] => { results := [.lit (.bool false)], args := [d1, d2, d3, d4] }
  | _ => none }
def JumpTurnedWrongFalsely : Prop := jumpTurnedRow.holds Try.pinned (OpenSpec.ofChange jumpTurnedWrong)

/-- 'whittlerlaw9.TouchOn': WHATEVER THE INPUT: true; the input reads as it did. -/
def touchOnSpec : ChangeSpec := { name := "touchOn", fn := fun _ => fun
  | [d1, d2, d3] => { results := [.lit (.bool true)], args := [d1, d2, d3] }
  | _ => none }
def touchOnRow : OpenClaim := { program := "ytehpinnmalpgpaa", sum := "7f11cdbe336f3de2fc8cc05fac90e789fce7d80998c51daa811b6c961806331f", func := "whittler/whittlerlaw9.TouchOn", spec := "touchOn", unfollowed := true, recurses := true, loops := true, apart := false }
def TouchOnSaid : Prop := touchOnRow.holds Try.pinned (OpenSpec.ofChange touchOnSpec)

/-- ITS FALSE NEIGHBOUR: 'it returns false'. Refute it at one input. -/
def touchOnWrong : ChangeSpec := { name := "touchOn", fn := fun _ => fun
  | [d1, d2, d3] => { results := [.lit (.bool false)], args := [d1, d2, d3] }
  | _ => none }
def TouchOnWrongFalsely : Prop := touchOnRow.holds Try.pinned (OpenSpec.ofChange touchOnWrong)

/- THE SECOND FORM. 'bulk': how many values and letters a reading holds, each counted each time it is reached (what is shared counts as often as it is met; a slice's spare places count too). A statement '..UptoSaid' is the law's where the arguments, and the package variables that the reading takes, are together of bulk at most 1048576: NARROWER than '..Said'. Prove '..Said' where nothing that the law and all that it calls make is longer than what came in: it says more and counts as full. Else prove '..UptoSaid'. A law counts once. -/
mutual
def uptoBulk {H : Type} : DataW H → Nat
  | .lit (.string bytes) => bytes.length + 1
  | .lit _ => 1
  | .nil => 1
  | .ptr d => uptoBulk d + 1
  | .slice elems spare => uptoBulkAll elems + uptoBulkAll spare + 1
  | .agg parts => uptoBulkAll parts + 1
  | .iface _ d => uptoBulk d + 1
  | .map entries => uptoBulkEntries entries + 1
  | .held _ => 1
def uptoBulkAll {H : Type} : List (DataW H) → Nat
  | [] => 0
  | d :: r => uptoBulk d + uptoBulkAll r
def uptoBulkEntries {H : Type} : List (Lit × DataW H) → Nat
  | [] => 0
  | x :: r => uptoBulkEntry x + uptoBulkEntries r
def uptoBulkEntry {H : Type} : Lit × DataW H → Nat
  | (.string bytes, d) => bytes.length + uptoBulk d + 1
  | (_, d) => uptoBulk d + 1
 end
def uptoSmall : (H : Type) → List (DataW H) → Bool := fun _ ds => decide (uptoBulkAll ds ≤ 1048576)
def OpenSpec.upto (s : _root_.Go.ChangeSpec) : _root_.Go.OpenSpec := { _root_.Go.OpenSpec.ofChange s with cond := some uptoSmall }

/-- 'whittlerlaw3.TreeNumber', WHERE WHAT IT READS IS OF BULK AT MOST 1048576: true; the input reads as it did. -/
def treeNumberUptoRow : OpenClaim := { program := "ytehpinnmalpgpaa", sum := "7f11cdbe336f3de2fc8cc05fac90e789fce7d80998c51daa811b6c961806331f", func := "whittler/whittlerlaw3.TreeNumber", spec := "treeNumber", unfollowed := true, recurses := true, loops := true, apart := false, narrowed := true }
def TreeNumberUptoSaid : Prop := treeNumberUptoRow.holds Try.pinned (OpenSpec.upto treeNumberSpec)

/-- 'whittlerlaw6.ScopeTwice', WHERE WHAT IT READS IS OF BULK AT MOST 1048576: true; the input reads as it did. -/
def scopeTwiceUptoRow : OpenClaim := { program := "ytehpinnmalpgpaa", sum := "7f11cdbe336f3de2fc8cc05fac90e789fce7d80998c51daa811b6c961806331f", func := "whittler/whittlerlaw6.ScopeTwice", spec := "scopeTwice", unfollowed := true, recurses := true, loops := true, apart := false, narrowed := true }
def ScopeTwiceUptoSaid : Prop := scopeTwiceUptoRow.holds Try.pinned (OpenSpec.upto scopeTwiceSpec)

/-- 'whittlerlaw8.JumpOne', WHERE WHAT IT READS IS OF BULK AT MOST 1048576: true; the input reads as it did. -/
def jumpOneUptoRow : OpenClaim := { program := "ytehpinnmalpgpaa", sum := "7f11cdbe336f3de2fc8cc05fac90e789fce7d80998c51daa811b6c961806331f", func := "whittler/whittlerlaw8.JumpOne", spec := "jumpOne", unfollowed := true, recurses := true, loops := true, apart := false, narrowed := true }
def JumpOneUptoSaid : Prop := jumpOneUptoRow.holds Try.pinned (OpenSpec.upto jumpOneSpec)

/-- 'whittlerlaw8.JumpLoop', WHERE WHAT IT READS IS OF BULK AT MOST 1048576: true; the input reads as it did. -/
def jumpLoopUptoRow : OpenClaim := { program := "ytehpinnmalpgpaa", sum := "7f11cdbe336f3de2fc8cc05fac90e789fce7d80998c51daa811b6c961806331f", func := "whittler/whittlerlaw8.JumpLoop", spec := "jumpLoop", unfollowed := true, recurses := true, loops := true, apart := false, narrowed := true }
def JumpLoopUptoSaid : Prop := jumpLoopUptoRow.holds Try.pinned (OpenSpec.upto jumpLoopSpec)

/-- 'whittlerlaw8.JumpTurned', WHERE WHAT IT READS IS OF BULK AT MOST 1048576: true; the input reads as it did. -/
def jumpTurnedUptoRow : OpenClaim := { program := "ytehpinnmalpgpaa", sum := "7f11cdbe336f3de2fc8cc05fac90e789fce7d80998c51daa811b6c961806331f", func := "whittler/whittlerlaw8.JumpTurned", spec := "jumpTurned", unfollowed := true, recurses := true, loops := true, apart := false, narrowed := true }
def JumpTurnedUptoSaid : Prop := jumpTurnedUptoRow.holds Try.pinned (OpenSpec.upto jumpTurnedSpec)

/-- 'whittlerlaw9.TouchOn', WHERE WHAT IT READS IS OF BULK AT MOST 1048576: true; the input reads as it did. -/
def touchOnUptoRow : OpenClaim := { program := "ytehpinnmalpgpaa", sum := "7f11cdbe336f3de2fc8cc05fac90e789fce7d80998c51daa811b6c961806331f", func := "whittler/whittlerlaw9.TouchOn", spec := "touchOn", unfollowed := true, recurses := true, loops := true, apart := false, narrowed := true }
def TouchOnUptoSaid : Prop := touchOnUptoRow.holds Try.pinned (OpenSpec.upto touchOnSpec)

end Rows
end Go.Proofs.Ytehpinnmalpgpaa
