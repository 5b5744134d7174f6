/-
  NARROWER THAN 'FOR EVERY INPUT', by the rows' own cells (each row's printed sentence says how): JumpAll: loops · TouchAll: loops · TouchLeast: loops.
  DERIVED. THE GIVEN ROWS OF THIS SEAT. 3 by the template 'for every input the law returns true; each argument reads behind the call as it read before'; 0 by the template 'total and deterministic' (their statements: YtehpinnmalpgpaaGreatTotals.lean).
  GIVEN WITH THE SEED: the statements are not yours to turn. If you find one false, say at which input.
  Laid BY PROGRAM, IN A SANDBOX (cutbox-rows.mjs): the forced cells as the released guide's own fill.sh prints them over the translation 7fe361d2602a5e09… (all of the seat's roots in one cut). By AI agents, Wed Nov 11 2026. No macro, syntax, notation, axiom, sorry.
-/
import Derived.Test.YtehpinnmalpgpaaGreatChecked
import GoSem.Claim
import GoSem.ClaimJoined
import GoSem.ClaimMapViews
import Derived.JoinedTies
import Derived.KernelRfl
namespace Go.Proofs.YtehpinnmalpgpaaGreat
/- THE CELL 'sum', in the pinned program and in every row, IS THE sha256 OF THE DUMP (.gsa) THAT YtehpinnmalpgpaaGreatProg.lean LOADS. Nothing in Lean hashes anything: it is a label: what it is worth is what the hold of that sum in a sandbox is worth. -/
noncomputable def Tryz.pinned : Pinned := { name := "ytehpinnmalpgpaagreat", sum := "7fe361d2602a5e09fe8bacfe4a448f894c9529a893cf534051c85acb7204c1f1", checked := Tryz.checked }
namespace Rows
def none {H : Type} : Left H := { results := [], args := [] }

/-- 'whittlerlaw8.JumpAll': WHATEVER THE INPUT: true; the input reads as it did. -/
def jumpAllSpec : ChangeSpec := { name := "jumpAll", fn := fun _ => fun
  | [d1, d2, d3, d4] => { results := [.lit (.bool true)], args := [d1, d2, d3, d4] }
  | _ => none }
def jumpAllRow : OpenClaim := { program := "ytehpinnmalpgpaagreat", sum := "7fe361d2602a5e09fe8bacfe4a448f894c9529a893cf534051c85acb7204c1f1", func := "whittler/whittlerlaw8.JumpAll", spec := "jumpAll", unfollowed := true, recurses := true, loops := true, apart := false }
def JumpAllSaid : Prop := jumpAllRow.holds Tryz.pinned (OpenSpec.ofChange jumpAllSpec)

/-- ITS FALSE NEIGHBOUR: 'it returns false'. Refute it at one input. -/
def jumpAllWrong : ChangeSpec := { name := "jumpAll", fn := fun _ => fun
  | [d1, d2, d3, d4] => { results := [.lit (.bool false)], args := [d1, d2, d3, d4] }
  | _ => none }
def JumpAllWrongFalsely : Prop := jumpAllRow.holds Tryz.pinned (OpenSpec.ofChange jumpAllWrong)

/-- 'whittlerlaw9.TouchAll': WHATEVER THE INPUT: true; the input reads as it did. -/
def touchAllSpec : ChangeSpec := { name := "touchAll", fn := fun _ => fun
  | [d1, d2] => { results := [.lit (.bool true)], args := [d1, d2] }
  | _ => none }
def touchAllRow : OpenClaim := { program := "ytehpinnmalpgpaagreat", sum := "7fe361d2602a5e09fe8bacfe4a448f894c9529a893cf534051c85acb7204c1f1", func := "whittler/whittlerlaw9.TouchAll", spec := "touchAll", unfollowed := true, recurses := true, loops := true, apart := false }
def TouchAllSaid : Prop := touchAllRow.holds Tryz.pinned (OpenSpec.ofChange touchAllSpec)

/-- ITS FALSE NEIGHBOUR: 'it returns false'. Refute it at one input. -/
def touchAllWrong : ChangeSpec := { name := "touchAll", fn := fun _ => fun
  | [d1, d2] => { results := [.lit (.bool false)], args := [d1, d2] }
  | _ => none }
def TouchAllWrongFalsely : Prop := touchAllRow.holds Tryz.pinned (OpenSpec.ofChange touchAllWrong)

/-- 'whittlerlaw9.TouchLeast': WHATEVER THE INPUT: true; the input reads as it did. -/
def touchLeastSpec : ChangeSpec := { name := "touchLeast", fn := fun _ => fun
  | [d1, d2] => { results := [.lit (.bool true)], args := [d1, d2] }
  | _ => none }
def touchLeastRow : OpenClaim := { program := "ytehpinnmalpgpaagreat", sum := "7fe361d2602a5e09fe8bacfe4a448f894c9529a893cf534051c85acb7204c1f1", func := "whittler/whittlerlaw9.TouchLeast", spec := "touchLeast", unfollowed := true, recurses := true, loops := true, apart := false }
def TouchLeastSaid : Prop := touchLeastRow.holds Tryz.pinned (OpenSpec.ofChange touchLeastSpec)

/-- ITS FALSE NEIGHBOUR: 'it returns false'. Refute it at one input. -/
def touchLeastWrong : ChangeSpec := { name := "touchLeast", fn := fun _ => fun
  | [d1, d2] => { results := [.lit (.bool false)], args := [d1, d2] }
  | _ => none }
def TouchLeastWrongFalsely : Prop := touchLeastRow.holds Tryz.pinned (OpenSpec.ofChange touchLeastWrong)

/- THE SECOND FORM. 'bulk': how many values and letters a reading holds, each counted each time it is reached (what is shared counts as often as it is met; a slice's spare places count too). A statement '..UptoSaid' is the law's where the arguments, and the package variables that the reading takes, are together of bulk at most 1048576: NARROWER than '..Said'. Prove '..Said' where nothing that the law and all that it calls make is longer than what came in: it says more and counts as full. Else prove '..UptoSaid'. A law counts once. -/
mutual
def uptoBulk {H : Type} : DataW H → Nat
  | .lit (.string bytes) => bytes.length + 1
  | .lit _ => 1
  | .nil => 1
  | .ptr d => uptoBulk d + 1
  | .slice elems spare => uptoBulkAll elems + uptoBulkAll spare + 1
  | .agg parts => uptoBulkAll parts + 1
  | .iface _ d => uptoBulk d + 1
  | .map entries => uptoBulkEntries entries + 1
  | .held _ => 1
def uptoBulkAll {H : Type} : List (DataW H) → Nat
  | [] => 0
  | d :: r => uptoBulk d + uptoBulkAll r
def uptoBulkEntries {H : Type} : List (Lit × DataW H) → Nat
  | [] => 0
  | x :: r => uptoBulkEntry x + uptoBulkEntries r
def uptoBulkEntry {H : Type} : Lit × DataW H → Nat
  | (.string bytes, d) => bytes.length + uptoBulk d + 1
  | (_, d) => uptoBulk d + 1
 end
def uptoSmall : (H : Type) → List (DataW H) → Bool := fun _ ds => decide (uptoBulkAll ds ≤ 1048576)
def OpenSpec.upto (s : _root_.Go.ChangeSpec) : _root_.Go.OpenSpec := { _root_.Go.OpenSpec.ofChange s with cond := some uptoSmall }

/-- 'whittlerlaw8.JumpAll', WHERE WHAT IT READS IS OF BULK AT MOST 1048576: true; the input reads as it did. -/
def jumpAllUptoRow : OpenClaim := { program := "ytehpinnmalpgpaagreat", sum := "7fe361d2602a5e09fe8bacfe4a448f894c9529a893cf534051c85acb7204c1f1", func := "whittler/whittlerlaw8.JumpAll", spec := "jumpAll", unfollowed := true, recurses := true, loops := true, apart := false, narrowed := true }
def JumpAllUptoSaid : Prop := jumpAllUptoRow.holds Tryz.pinned (OpenSpec.upto jumpAllSpec)

/-- 'whittlerlaw9.TouchAll', WHERE WHAT IT READS IS OF BULK AT MOST 1048576: true; the input reads as it did. -/
def touchAllUptoRow : OpenClaim := { program := "ytehpinnmalpgpaagreat", sum := "7fe361d2602a5e09fe8bacfe4a448f894c9529a893cf534051c85acb7204c1f1", func := "whittler/whittlerlaw9.TouchAll", spec := "touchAll", unfollowed := true, recurses := true, loops := true, apart := false, narrowed := true }
def TouchAllUptoSaid : Prop := touchAllUptoRow.holds Tryz.pinned (OpenSpec.upto touchAllSpec)

/-- 'whittlerlaw9.TouchLeast', WHERE WHAT IT READS IS OF BULK AT MOST 1048576: true; the input reads as it did. -/
def touchLeastUptoRow : OpenClaim := { program := "ytehpinnmalpgpaagreat", sum := "7fe361d2602a5e09fe8bacfe4a448f894c9529a893cf534051c85acb7204c1f1", func := "whittler/whittlerlaw9.TouchLeast", spec := "touchLeast", unfollowed := true, recurses := true, loops := true, apart := false, narrowed := true }
def TouchLeastUptoSaid : Prop := touchLeastUptoRow.holds Tryz.pinned (OpenSpec.upto touchLeastSpec)

end Rows
end Go.Proofs.YtehpinnmalpgpaaGreat
