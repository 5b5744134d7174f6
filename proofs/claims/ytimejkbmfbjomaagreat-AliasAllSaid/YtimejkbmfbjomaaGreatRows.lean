/-
  NARROWER THAN 'FOR EVERY INPUT', by the rows' own cells (each row's printed sentence says how): TouchAll: loops · TouchLeast: loops · AliasAll: loops · AliasTwice: loops · AliasGlobal: loops.
  DERIVED. THE GIVEN ROWS OF THIS SEAT. 5 by the template 'for every input the law returns true; each argument reads behind the call as it read before'; 0 by the template 'total and deterministic' (their statements: YtimejkbmfbjomaaGreatTotals.lean).
  GIVEN WITH THE SEED: the statements are not yours to turn. If you find one false, say at which input.
  Laid BY PROGRAM, IN A SANDBOX (cutbox-rows.mjs): the forced cells as the released guide's own fill.sh prints them over the translation 22284d6b9567cf0b… (all of the seat's roots in one cut). By AI agents, Wed Nov 11 2026. No macro, syntax, notation, axiom, sorry.
-/
import Derived.Test.YtimejkbmfbjomaaGreatChecked
import GoSem.Claim
import GoSem.ClaimJoined
import GoSem.ClaimMapViews
import Derived.JoinedTies
import Derived.KernelRfl
namespace Go.Proofs.YtimejkbmfbjomaaGreat
/- THE CELL 'sum', in the pinned program and in every row, IS THE sha256 OF THE DUMP (.gsa) THAT YtimejkbmfbjomaaGreatProg.lean LOADS. Nothing in Lean hashes anything: it is a label: what it is worth is what the hold of that sum in a sandbox is worth. -/
noncomputable def Tryz.pinned : Pinned := { name := "ytimejkbmfbjomaagreat", sum := "22284d6b9567cf0b64c75c900cb76cb7ed63fe3034278822d036299018181e5d", checked := Tryz.checked }
namespace Rows
def none {H : Type} : Left H := { results := [], args := [] }

/-- 'whittlerlaw9.TouchAll': WHATEVER THE INPUT: true; the input reads as it did. -/
def touchAllSpec : ChangeSpec := { name := "touchAll", fn := fun _ => fun
  | [d1, d2] => { results := [.lit (.bool true)], args := [d1, d2] }
  | _ => none }
def touchAllRow : OpenClaim := { program := "ytimejkbmfbjomaagreat", sum := "22284d6b9567cf0b64c75c900cb76cb7ed63fe3034278822d036299018181e5d", func := "whittler/whittlerlaw9.TouchAll", spec := "touchAll", unfollowed := true, recurses := true, loops := true, apart := false }
def TouchAllSaid : Prop := touchAllRow.holds Tryz.pinned (OpenSpec.ofChange touchAllSpec)

/-- ITS FALSE NEIGHBOUR: 'it returns false'. Refute it at one input. -/
def touchAllWrong : ChangeSpec := { name := "touchAll", fn := fun _ => fun
  | [d1, d2] => { results := [.lit (.bool false)], args := [d1, d2] }
  | _ => none }
def TouchAllWrongFalsely : Prop := touchAllRow.holds Tryz.pinned (OpenSpec.ofChange touchAllWrong)

/-- 'whittlerlaw9.TouchLeast': WHATEVER THE INPUT: true; the input reads as it did. -/
def touchLeastSpec : ChangeSpec := { name := "touchLeast", fn := fun _ => fun
  | [d1, d2] => { results := [.lit (.bool true)], args := [d1, d2] }
  | _ => none }
def touchLeastRow : OpenClaim := { program := "ytimejkbmfbjomaagreat", sum := "22284d6b9567cf0b64c75c900cb76cb7ed63fe3034278822d036299018181e5d", func := "whittler/whittlerlaw9.TouchLeast", spec := "touchLeast", unfollowed := true, recurses := true, loops := true, apart := false }
def TouchLeastSaid : Prop := touchLeastRow.holds Tryz.pinned (OpenSpec.ofChange touchLeastSpec)

/-- ITS FALSE NEIGHBOUR: 'it returns false'. Refute it at one input. -/
def touchLeastWrong : ChangeSpec := { name := "touchLeast", fn := fun _ => fun
  | [d1, d2] => { results := [.lit (.bool false)], args := [d1, d2] }
  | _ => none }
def TouchLeastWrongFalsely : Prop := touchLeastRow.holds Tryz.pinned (OpenSpec.ofChange touchLeastWrong)

/-- 'whittlerlaw10.AliasAll': WHATEVER THE INPUT: true; the input reads as it did. -/
def aliasAllSpec : ChangeSpec := { name := "aliasAll", fn := fun _ => fun
  | [d1, d2] => { results := [.lit (.bool true)], args := [d1, d2] }
  | _ => none }
def aliasAllRow : OpenClaim := { program := "ytimejkbmfbjomaagreat", sum := "22284d6b9567cf0b64c75c900cb76cb7ed63fe3034278822d036299018181e5d", func := "whittler/whittlerlaw10.AliasAll", spec := "aliasAll", unfollowed := true, recurses := true, loops := true, apart := false }
def AliasAllSaid : Prop := aliasAllRow.holds Tryz.pinned (OpenSpec.ofChange aliasAllSpec)

/-- ITS FALSE NEIGHBOUR: 'it returns false'. Refute it at one input. -/
def aliasAllWrong : ChangeSpec := { name := "aliasAll", fn := fun _ => fun
  | [d1, d2] => { results := [.lit (.bool false)], args := [d1, d2] }
  | _ => none }
def AliasAllWrongFalsely : Prop := aliasAllRow.holds Tryz.pinned (OpenSpec.ofChange aliasAllWrong)

/-- 'whittlerlaw10.AliasTwice': WHATEVER THE INPUT: true; the input reads as it did. -/
def aliasTwiceSpec : ChangeSpec := { name := "aliasTwice", fn := fun _ => fun
  | [d1, d2, d3] => { results := [.lit (.bool true)], args := [d1, d2, d3] }
  | _ => none }
def aliasTwiceRow : OpenClaim := { program := "ytimejkbmfbjomaagreat", sum := "22284d6b9567cf0b64c75c900cb76cb7ed63fe3034278822d036299018181e5d", func := "whittler/whittlerlaw10.AliasTwice", spec := "aliasTwice", unfollowed := true, recurses := true, loops := true, apart := false }
def AliasTwiceSaid : Prop := aliasTwiceRow.holds Tryz.pinned (OpenSpec.ofChange aliasTwiceSpec)

/-- ITS FALSE NEIGHBOUR: 'it returns false'. Refute it at one input. -/
def aliasTwiceWrong : ChangeSpec := { name := "aliasTwice", fn := fun _ => fun
  | [d1, d2, d3] => { results := [.lit (.bool false)], args := [d1, d2, d3] }
  | _ => none }
def AliasTwiceWrongFalsely : Prop := aliasTwiceRow.holds Tryz.pinned (OpenSpec.ofChange aliasTwiceWrong)

/-- 'whittlerlaw10.AliasGlobal': WHATEVER THE INPUT: true; the input reads as it did. -/
def aliasGlobalSpec : ChangeSpec := { name := "aliasGlobal", fn := fun _ => fun
  | [d1, d2] => { results := [.lit (.bool true)], args := [d1, d2] }
  | _ => none }
def aliasGlobalRow : OpenClaim := { program := "ytimejkbmfbjomaagreat", sum := "22284d6b9567cf0b64c75c900cb76cb7ed63fe3034278822d036299018181e5d", func := "whittler/whittlerlaw10.AliasGlobal", spec := "aliasGlobal", unfollowed := true, recurses := true, loops := true, apart := false }
def AliasGlobalSaid : Prop := aliasGlobalRow.holds Tryz.pinned (OpenSpec.ofChange aliasGlobalSpec)

/-- ITS FALSE NEIGHBOUR: 'it returns false'. Refute it at one input. -/
def aliasGlobalWrong : ChangeSpec := { name := "aliasGlobal", fn := fun _ => fun
  | [d1, d2] => { results := [.lit (.bool false)], args := [d1, d2] }
  | _ => none }
def AliasGlobalWrongFalsely : Prop := aliasGlobalRow.holds Tryz.pinned (OpenSpec.ofChange aliasGlobalWrong)

/- THE SECOND FORM. 'bulk': how many values and letters a reading holds, each counted each time it is reached (what is shared counts as often as it is met; a slice's spare places count too). A statement '..UptoSaid' is the law's where the arguments, and the package variables that the reading takes, are together of bulk at most 1048576: NARROWER than '..Said'. Prove '..Said' where nothing that the law and all that it calls make is longer than what came in: it says more and counts as full. Else prove '..UptoSaid'. A law counts once. -/
mutual
def uptoBulk {H : Type} : DataW H → Nat
  | .lit (.string bytes) => bytes.length + 1
  | .lit _ => 1
  | .nil => 1
  | .ptr d => uptoBulk d + 1
  | .slice elems spare => uptoBulkAll elems + uptoBulkAll spare + 1
  | .agg parts => uptoBulkAll parts + 1
  | .iface _ d => uptoBulk d + 1
  | .map entries => uptoBulkEntries entries + 1
  | .held _ => 1
def uptoBulkAll {H : Type} : List (DataW H) → Nat
  | [] => 0
  | d :: r => uptoBulk d + uptoBulkAll r
def uptoBulkEntries {H : Type} : List (Lit × DataW H) → Nat
  | [] => 0
  | x :: r => uptoBulkEntry x + uptoBulkEntries r
def uptoBulkEntry {H : Type} : Lit × DataW H → Nat
  | (.string bytes, d) => bytes.length + uptoBulk d + 1
  | (_, d) => uptoBulk d + 1
 end
def uptoSmall : (H : Type) → List (DataW H) → Bool := fun _ ds => decide (uptoBulkAll ds ≤ 1048576)
def OpenSpec.upto (s : _root_.Go.ChangeSpec) : _root_.Go.OpenSpec := { _root_.Go.OpenSpec.ofChange s with cond := some uptoSmall }

/-- 'whittlerlaw9.TouchAll', WHERE WHAT IT READS IS OF BULK AT MOST 1048576: true; the input reads as it did. -/
def touchAllUptoRow : OpenClaim := { program := "ytimejkbmfbjomaagreat", sum := "22284d6b9567cf0b64c75c900cb76cb7ed63fe3034278822d036299018181e5d", func := "whittler/whittlerlaw9.TouchAll", spec := "touchAll", unfollowed := true, recurses := true, loops := true, apart := false, narrowed := true }
def TouchAllUptoSaid : Prop := touchAllUptoRow.holds Tryz.pinned (OpenSpec.upto touchAllSpec)

/-- 'whittlerlaw9.TouchLeast', WHERE WHAT IT READS IS OF BULK AT MOST 1048576: true; the input reads as it did. -/
def touchLeastUptoRow : OpenClaim := { program := "ytimejkbmfbjomaagreat", sum := "22284d6b9567cf0b64c75c900cb76cb7ed63fe3034278822d036299018181e5d", func := "whittler/whittlerlaw9.TouchLeast", spec := "touchLeast", unfollowed := true, recurses := true, loops := true, apart := false, narrowed := true }
def TouchLeastUptoSaid : Prop := touchLeastUptoRow.holds Tryz.pinned (OpenSpec.upto touchLeastSpec)

/-- 'whittlerlaw10.AliasAll', WHERE WHAT IT READS IS OF BULK AT MOST 1048576: true; the input reads as it did. -/
def aliasAllUptoRow : OpenClaim := { program := "ytimejkbmfbjomaagreat", sum := "22284d6b9567cf0b64c75c900cb76cb7ed63fe3034278822d036299018181e5d", func := "whittler/whittlerlaw10.AliasAll", spec := "aliasAll", unfollowed := true, recurses := true, loops := true, apart := false, narrowed := true }
def AliasAllUptoSaid : Prop := aliasAllUptoRow.holds Tryz.pinned (OpenSpec.upto aliasAllSpec)

/-- 'whittlerlaw10.AliasTwice', WHERE WHAT IT READS IS OF BULK AT MOST 1048576: true; the input reads as it did. -/
def aliasTwiceUptoRow : OpenClaim := { program := "ytimejkbmfbjomaagreat", sum := "22284d6b9567cf0b64c75c900cb76cb7ed63fe3034278822d036299018181e5d", func := "whittler/whittlerlaw10.AliasTwice", spec := "aliasTwice", unfollowed := true, recurses := true, loops := true, apart := false, narrowed := true }
def AliasTwiceUptoSaid : Prop := aliasTwiceUptoRow.holds Tryz.pinned (OpenSpec.upto aliasTwiceSpec)

/-- 'whittlerlaw10.AliasGlobal', WHERE WHAT IT READS IS OF BULK AT MOST 1048576: true; the input reads as it did. -/
def aliasGlobalUptoRow : OpenClaim := { program := "ytimejkbmfbjomaagreat", sum := "22284d6b9567cf0b64c75c900cb76cb7ed63fe3034278822d036299018181e5d", func := "whittler/whittlerlaw10.AliasGlobal", spec := "aliasGlobal", unfollowed := true, recurses := true, loops := true, apart := false, narrowed := true }
def AliasGlobalUptoSaid : Prop := aliasGlobalUptoRow.holds Tryz.pinned (OpenSpec.upto aliasGlobalSpec)

end Rows
end Go.Proofs.YtimejkbmfbjomaaGreat
