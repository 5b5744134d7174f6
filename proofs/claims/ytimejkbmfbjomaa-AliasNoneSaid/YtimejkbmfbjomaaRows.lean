/-
  NARROWER THAN 'FOR EVERY INPUT', by the rows' own cells (each row's printed sentence says how): TreeNumber: loops · ScopeTwice: loops · AliasNone: loops.
  DERIVED. THE GIVEN ROWS OF THIS SEAT. 3 by the template 'for every input the law returns true; each argument reads behind the call as it read before'; 0 by the template 'total and deterministic' (their statements: YtimejkbmfbjomaaTotals.lean).
  GIVEN WITH THE SEED: the statements are not yours to turn. If you find one false, say at which input.
  Laid BY PROGRAM, IN A SANDBOX (cutbox-rows.mjs): the forced cells as the released guide's own fill.sh prints them over the translation a48282b4f8948d77… (all of the seat's roots in one cut). By AI agents, Wed Nov 11 2026. No macro, syntax, notation, axiom, sorry.
-/
import Derived.Test.YtimejkbmfbjomaaChecked
import GoSem.Claim
import GoSem.ClaimJoined
import GoSem.ClaimMapViews
import Derived.JoinedTies
import Derived.KernelRfl
namespace Go.Proofs.Ytimejkbmfbjomaa
/- THE CELL 'sum', in the pinned program and in every row, IS THE sha256 OF THE DUMP (.gsa) THAT YtimejkbmfbjomaaProg.lean LOADS. Nothing in Lean hashes anything: it is a label: what it is worth is what the hold of that sum in a sandbox is worth. -/
noncomputable def Try.pinned : Pinned := { name := "ytimejkbmfbjomaa", sum := "a48282b4f8948d773109aa155a07358f9e31f6d01a91b2790e4de70edb653247", checked := Try.checked }
namespace Rows
def none {H : Type} : Left H := { results := [], args := [] }

/-- 'whittlerlaw3.TreeNumber': WHATEVER THE INPUT: true; the input reads as it did. -/
def treeNumberSpec : ChangeSpec := { name := "treeNumber", fn := fun _ => fun
  | [d1, d2, d3] => { results := [.lit (.bool true)], args := [d1, d2, d3] }
  | _ => none }
def treeNumberRow : OpenClaim := { program := "ytimejkbmfbjomaa", sum := "a48282b4f8948d773109aa155a07358f9e31f6d01a91b2790e4de70edb653247", func := "whittler/whittlerlaw3.TreeNumber", spec := "treeNumber", unfollowed := true, recurses := true, loops := true, apart := false }
def TreeNumberSaid : Prop := treeNumberRow.holds Try.pinned (OpenSpec.ofChange treeNumberSpec)

/-- ITS FALSE NEIGHBOUR: 'it returns false'. Refute it at one input. -/
def treeNumberWrong : ChangeSpec := { name := "treeNumber", fn := fun _ => fun
  | [d1, d2, d3] => { results := [.lit (.bool false)], args := [d1, d2, d3] }
  | _ => none }
def TreeNumberWrongFalsely : Prop := treeNumberRow.holds Try.pinned (OpenSpec.ofChange treeNumberWrong)

/-- 'whittlerlaw6.ScopeTwice': WHATEVER THE INPUT: true; the input reads as it did. -/
def scopeTwiceSpec : ChangeSpec := { name := "scopeTwice", fn := fun _ => fun
  | [d1, d2, d3, d4] => { results := [.lit (.bool true)], args := [d1, d2, d3, d4] }
  | _ => none }
def scopeTwiceRow : OpenClaim := { program := "ytimejkbmfbjomaa", sum := "a48282b4f8948d773109aa155a07358f9e31f6d01a91b2790e4de70edb653247", func := "whittler/whittlerlaw6.ScopeTwice", spec := "scopeTwice", unfollowed := true, recurses := true, loops := true, apart := false }
def ScopeTwiceSaid : Prop := scopeTwiceRow.holds Try.pinned (OpenSpec.ofChange scopeTwiceSpec)

/-- ITS FALSE NEIGHBOUR: 'it returns false'. Refute it at one input. -/
def scopeTwiceWrong : ChangeSpec := { name := "scopeTwice", fn := fun _ => fun
  | [d1, d2, d3, d4] => { results := [.lit (.bool false)], args := [d1, d2, d3, d4] }
  | _ => none }
def ScopeTwiceWrongFalsely : Prop := scopeTwiceRow.holds Try.pinned (OpenSpec.ofChange scopeTwiceWrong)

/-- 'whittlerlaw10.AliasNone': WHATEVER THE INPUT: true; the input reads as it did. -/
def aliasNoneSpec : ChangeSpec := { name := "aliasNone", fn := fun _ => fun
  | [d] => { results := [.lit (.bool true)], args := [d] }
  | _ => none }
def aliasNoneRow : OpenClaim := { program := "ytimejkbmfbjomaa", sum := "a48282b4f8948d773109aa155a07358f9e31f6d01a91b2790e4de70edb653247", func := "whittler/whittlerlaw10.AliasNone", spec := "aliasNone", unfollowed := true, recurses := true, loops := true, apart := false }
def AliasNoneSaid : Prop := aliasNoneRow.holds Try.pinned (OpenSpec.ofChange aliasNoneSpec)

/-- ITS FALSE NEIGHBOUR: 'it returns false'. Refute it at one input. -/
def aliasNoneWrong : ChangeSpec := { name := "aliasNone", fn := fun _ => fun
  | [d] => { results := [.lit (.bool false)], args := [d] }
  | _ => none }
def AliasNoneWrongFalsely : Prop := aliasNoneRow.holds Try.pinned (OpenSpec.ofChange aliasNoneWrong)

/- THE SECOND FORM. 'bulk': how many values and letters a reading holds, each counted each time it is reached (what is shared counts as often as it is met; a slice's spare places count too). A statement '..UptoSaid' is the law's where the arguments, and the package variables that the reading takes, are together of bulk at most 1048576: NARROWER than '..Said'. Prove '..Said' where nothing that the law and all that it calls make is longer than what came in: it says more and counts as full. Else prove '..UptoSaid'. A law counts once. -/
mutual
def uptoBulk {H : Type} : DataW H → Nat
  | .lit (.string bytes) => bytes.length + 1
  | .lit _ => 1
  | .nil => 1
  | .ptr d => uptoBulk d + 1
  | .slice elems spare => uptoBulkAll elems + uptoBulkAll spare + 1
  | .agg parts => uptoBulkAll parts + 1
  | .iface _ d => uptoBulk d + 1
  | .map entries => uptoBulkEntries entries + 1
  | .held _ => 1
def uptoBulkAll {H : Type} : List (DataW H) → Nat
  | [] => 0
  | d :: r => uptoBulk d + uptoBulkAll r
def uptoBulkEntries {H : Type} : List (Lit × DataW H) → Nat
  | [] => 0
  | x :: r => uptoBulkEntry x + uptoBulkEntries r
def uptoBulkEntry {H : Type} : Lit × DataW H → Nat
  | (.string bytes, d) => bytes.length + uptoBulk d + 1
  | (_, d) => uptoBulk d + 1
 end
def uptoSmall : (H : Type) → List (DataW H) → Bool := fun _ ds => decide (uptoBulkAll ds ≤ 1048576)
def OpenSpec.upto (s : _root_.Go.ChangeSpec) : _root_.Go.OpenSpec := { _root_.Go.OpenSpec.ofChange s with cond := some uptoSmall }

/-- 'whittlerlaw3.TreeNumber', WHERE WHAT IT READS IS OF BULK AT MOST 1048576: true; the input reads as it did. -/
def treeNumberUptoRow : OpenClaim := { program := "ytimejkbmfbjomaa", sum := "a48282b4f8948d773109aa155a07358f9e31f6d01a91b2790e4de70edb653247", func := "whittler/whittlerlaw3.TreeNumber", spec := "treeNumber", unfollowed := true, recurses := true, loops := true, apart := false, narrowed := true }
def TreeNumberUptoSaid : Prop := treeNumberUptoRow.holds Try.pinned (OpenSpec.upto treeNumberSpec)

/-- 'whittlerlaw6.ScopeTwice', WHERE WHAT IT READS IS OF BULK AT MOST 1048576: true; the input reads as it did. -/
def scopeTwiceUptoRow : OpenClaim := { program := "ytimejkbmfbjomaa", sum := "a48282b4f8948d773109aa155a07358f9e31f6d01a91b2790e4de70edb653247", func := "whittler/whittlerlaw6.ScopeTwice", spec := "scopeTwice", unfollowed := true, recurses := true, loops := true, apart := false, narrowed := true }
def ScopeTwiceUptoSaid : Prop := scopeTwiceUptoRow.holds Try.pinned (OpenSpec.upto scopeTwiceSpec)

/-- 'whittlerlaw10.AliasNone', WHERE WHAT IT READS IS OF BULK AT MOST 1048576: true; the input reads as it did. -/
def aliasNoneUptoRow : OpenClaim := { program := "ytimejkbmfbjomaa", sum := "a48282b4f8948d773109aa155a07358f9e31f6d01a91b2790e4de70edb653247", func := "whittler/whittlerlaw10.AliasNone", spec := "aliasNone", unfollowed := true, recurses := true, loops := true, apart := false, narrowed := true }
def AliasNoneUptoSaid : Prop := aliasNoneUptoRow.holds Try.pinned (OpenSpec.upto aliasNoneSpec)

end Rows
end Go.Proofs.Ytimejkbmfbjomaa
