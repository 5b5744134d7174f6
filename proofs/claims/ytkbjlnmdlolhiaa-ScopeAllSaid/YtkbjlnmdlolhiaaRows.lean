/-
  NARROWER THAN 'FOR EVERY INPUT', by the rows' own cells (each row's printed sentence says how): TreeMay: loops · TreeNumber: loops · TreeFirst: loops · TreeSwap: loops · TreeOwn: loops · ScopeAll: loops · ScopeCheck: loops · ScopeOne: loops · ScopeSaid: loops · ScopeNew: loops · ScopeTwice: loops · ScopeSwap: loops.
  DERIVED. THE GIVEN ROWS OF THIS SEAT. 12 by the template 'for every input the law returns true; each argument reads behind the call as it read before'; 0 by the template 'total and deterministic' (their statements: YtkbjlnmdlolhiaaTotals.lean).
  GIVEN WITH THE SEED: the statements are not yours to turn. If you find one false, say at which input.
  Laid BY PROGRAM, IN A SANDBOX (cutbox-rows.mjs): the forced cells as the released guide's own fill.sh prints them over the translation 2b2212bd73ccda0a… (all of the seat's roots in one cut). By AI agents, Wed Nov 11 2026. No macro, syntax, notation, axiom, sorry.
-/
import Derived.Test.YtkbjlnmdlolhiaaChecked
import GoSem.Claim
import GoSem.ClaimJoined
import GoSem.ClaimMapViews
import Derived.JoinedTies
import Derived.KernelRfl
namespace Go.Proofs.Ytkbjlnmdlolhiaa
/- THE CELL 'sum', in the pinned program and in every row, IS THE sha256 OF THE DUMP (.gsa) THAT YtkbjlnmdlolhiaaProg.lean LOADS. Nothing in Lean hashes anything: it is a label: what it is worth is what the hold of that sum in a sandbox is worth. -/
noncomputable def Try.pinned : Pinned := { name := "ytkbjlnmdlolhiaa", sum := "2b2212bd73ccda0a20669a240b3594cd98d21528048304985167da17aff18c5f", checked := Try.checked }
namespace Rows
def none {H : Type} : Left H := { results := [], args := [] }

/-- 'whittlerlaw3.TreeMay': WHATEVER THE INPUT: true; the input reads as it did. -/
def treeMaySpec : ChangeSpec := { name := "treeMay", fn := fun _ => fun
  | [d] => { results := [.lit (.bool true)], args := [d] }
  | _ => none }
def treeMayRow : OpenClaim := { program := "ytkbjlnmdlolhiaa", sum := "2b2212bd73ccda0a20669a240b3594cd98d21528048304985167da17aff18c5f", func := "whittler/whittlerlaw3.TreeMay", spec := "treeMay", unfollowed := true, recurses := true, loops := true, apart := false }
def TreeMaySaid : Prop := treeMayRow.holds Try.pinned (OpenSpec.ofChange treeMaySpec)

/-- ITS FALSE NEIGHBOUR: 'it returns false'. Refute it at one input. -/
def treeMayWrong : ChangeSpec := { name := "treeMay", fn := fun _ => fun
  | [d] => { results := [.lit (.bool false)], args := [d] }
  | _ => none }
def TreeMayWrongFalsely : Prop := treeMayRow.holds Try.pinned (OpenSpec.ofChange treeMayWrong)

/-- 'whittlerlaw3.TreeNumber': WHATEVER THE INPUT: true; the input reads as it did. -/
def treeNumberSpec : ChangeSpec := { name := "treeNumber", fn := fun _ => fun
  | [d1, d2, d3] => { results := [.lit (.bool true)], args := [d1, d2, d3] }
  | _ => none }
def treeNumberRow : OpenClaim := { program := "ytkbjlnmdlolhiaa", sum := "2b2212bd73ccda0a20669a240b3594cd98d21528048304985167da17aff18c5f", func := "whittler/whittlerlaw3.TreeNumber", spec := "treeNumber", unfollowed := true, recurses := true, loops := true, apart := false }
def TreeNumberSaid : Prop := treeNumberRow.holds Try.pinned (OpenSpec.ofChange treeNumberSpec)

/-- ITS FALSE NEIGHBOUR: 'it returns false'. Refute it at one input. -/
def treeNumberWrong : ChangeSpec := { name := "treeNumber", fn := fun _ => fun
  | [d1, d2, d3] => { results := [.lit (.bool false)], args := [d1, d2, d3] }
  | _ => none }
def TreeNumberWrongFalsely : Prop := treeNumberRow.holds Try.pinned (OpenSpec.ofChange treeNumberWrong)

/-- 'whittlerlaw3.TreeFirst': WHATEVER THE INPUT: true; the input reads as it did. -/
def treeFirstSpec : ChangeSpec := { name := "treeFirst", fn := fun _ => fun
  | [d1, d2] => { results := [.lit (.bool true)], args := [d1, d2] }
  | _ => none }
def treeFirstRow : OpenClaim := { program := "ytkbjlnmdlolhiaa", sum := "2b2212bd73ccda0a20669a240b3594cd98d21528048304985167da17aff18c5f", func := "whittler/whittlerlaw3.TreeFirst", spec := "treeFirst", unfollowed := true, recurses := true, loops := true, apart := false }
def TreeFirstSaid : Prop := treeFirstRow.holds Try.pinned (OpenSpec.ofChange treeFirstSpec)

/-- ITS FALSE NEIGHBOUR: 'it returns false'. Refute it at one input. -/
def treeFirstWrong : ChangeSpec := { name := "treeFirst", fn := fun _ => fun
  | [d1, d2] => { results := [.lit (.bool false)], args := [d1, d2] }
  | _ => none }
def TreeFirstWrongFalsely : Prop := treeFirstRow.holds Try.pinned (OpenSpec.ofChange treeFirstWrong)

/-- 'whittlerlaw3.TreeSwap': WHATEVER THE INPUT: true; the input reads as it did. -/
def treeSwapSpec : ChangeSpec := { name := "treeSwap", fn := fun _ => fun
  | [d1, d2, d3] => { results := [.lit (.bool true)], args := [d1, d2, d3] }
  | _ => none }
def treeSwapRow : OpenClaim := { program := "ytkbjlnmdlolhiaa", sum := "2b2212bd73ccda0a20669a240b3594cd98d21528048304985167da17aff18c5f", func := "whittler/whittlerlaw3.TreeSwap", spec := "treeSwap", unfollowed := true, recurses := true, loops := true, apart := false }
def TreeSwapSaid : Prop := treeSwapRow.holds Try.pinned (OpenSpec.ofChange treeSwapSpec)

/-- ITS FALSE NEIGHBOUR: 'it returns false'. Refute it at one input. -/
def treeSwapWrong : ChangeSpec := { name := "treeSwap", fn := fun _ => fun
  | [d1, d2, d3] => { results := [.lit (.bool false)], args := [d1, d2, d3] }
  | _ => none }
def TreeSwapWrongFalsely : Prop := treeSwapRow.holds Try.pinned (OpenSpec.ofChange treeSwapWrong)

/-- 'whittlerlaw3.TreeOwn': WHATEVER THE INPUT: true; the input reads as it did. -/
def treeOwnSpec : ChangeSpec := { name := "treeOwn", fn := fun _ => fun
  | [d] => { results := [.lit (.bool true)], args := [d] }
  | _ => none }
def treeOwnRow : OpenClaim := { program := "ytkbjlnmdlolhiaa", sum := "2b2212bd73ccda0a20669a240b3594cd98d21528048304985167da17aff18c5f", func := "whittler/whittlerlaw3.TreeOwn", spec := "treeOwn", unfollowed := true, recurses := true, loops := true, apart := false }
def TreeOwnSaid : Prop := treeOwnRow.holds Try.pinned (OpenSpec.ofChange treeOwnSpec)

/-- ITS FALSE NEIGHBOUR: 'it returns false'. Refute it at one input. -/
def treeOwnWrong : ChangeSpec := { name := "treeOwn", fn := fun _ => fun
  | [d] => { results := [.lit (.bool false)], args := [d] }
  | _ => none }
def TreeOwnWrongFalsely : Prop := treeOwnRow.holds Try.pinned (OpenSpec.ofChange treeOwnWrong)

/-- 'whittlerlaw6.ScopeAll': WHATEVER THE INPUT: true; the input reads as it did. -/
def scopeAllSpec : ChangeSpec := { name := "scopeAll", fn := fun _ => fun
  | [d1, d2, d3] => { results := [.lit (.bool true)], args := [d1, d2, d3] }
  | _ => none }
def scopeAllRow : OpenClaim := { program := "ytkbjlnmdlolhiaa", sum := "2b2212bd73ccda0a20669a240b3594cd98d21528048304985167da17aff18c5f", func := "whittler/whittlerlaw6.ScopeAll", spec := "scopeAll", unfollowed := true, recurses := true, loops := true, apart := false }
def ScopeAllSaid : Prop := scopeAllRow.holds Try.pinned (OpenSpec.ofChange scopeAllSpec)

/-- ITS FALSE NEIGHBOUR: 'it returns false'. Refute it at one input. -/
def scopeAllWrong : ChangeSpec := { name := "scopeAll", fn := fun _ => fun
  | [d1, d2, d3] => { results := [.lit (.bool false)], args := [d1, d2, d3] }
  | _ => none }
def ScopeAllWrongFalsely : Prop := scopeAllRow.holds Try.pinned (OpenSpec.ofChange scopeAllWrong)

/-- 'whittlerlaw6.ScopeCheck': WHATEVER THE INPUT: true; the input reads as it did. -/
def scopeCheckSpec : ChangeSpec := { name := "scopeCheck", fn := fun _ => fun
  | [d] => { results := [.lit (.bool true)], args := [d] }
  | _ => none }
def scopeCheckRow : OpenClaim := { program := "ytkbjlnmdlolhiaa", sum := "2b2212bd73ccda0a20669a240b3594cd98d21528048304985167da17aff18c5f", func := "whittler/whittlerlaw6.ScopeCheck", spec := "scopeCheck", unfollowed := true, recurses := true, loops := true, apart := false }
def ScopeCheckSaid : Prop := scopeCheckRow.holds Try.pinned (OpenSpec.ofChange scopeCheckSpec)

/-- ITS FALSE NEIGHBOUR: 'it returns false'. Refute it at one input. -/
def scopeCheckWrong : ChangeSpec := { name := "scopeCheck", fn := fun _ => fun
  | [d] => { results := [.lit (.bool false)], args := [d] }
  | _ => none }
def ScopeCheckWrongFalsely : Prop := scopeCheckRow.holds Try.pinned (OpenSpec.ofChange scopeCheckWrong)

/-- 'whittlerlaw6.ScopeOne': WHATEVER THE INPUT: true; the input reads as it did. -/
def scopeOneSpec : ChangeSpec := { name := "scopeOne", fn := fun _ => fun
  | [d1, d2] => { results := [.lit (.bool true)], args := [d1, d2] }
  | _ => none }
def scopeOneRow : OpenClaim := { program := "ytkbjlnmdlolhiaa", sum := "2b2212bd73ccda0a20669a240b3594cd98d21528048304985167da17aff18c5f", func := "whittler/whittlerlaw6.ScopeOne", spec := "scopeOne", unfollowed := true, recurses := true, loops := true, apart := false }
def ScopeOneSaid : Prop := scopeOneRow.holds Try.pinned (OpenSpec.ofChange scopeOneSpec)

/-- ITS FALSE NEIGHBOUR: 'it returns false'. Refute it at one input. -/
def scopeOneWrong : ChangeSpec := { name := "scopeOne", fn := fun _ => fun
  | [d1, d2] => { results := [.lit (.bool false)], args := [d1, d2] }
  | _ => none }
def ScopeOneWrongFalsely : Prop := scopeOneRow.holds Try.pinned (OpenSpec.ofChange scopeOneWrong)

/-- 'whittlerlaw6.ScopeSaid': WHATEVER THE INPUT: true; the input reads as it did. -/
def scopeSaidSpec : ChangeSpec := { name := "scopeSaid", fn := fun _ => fun
  | [d1, d2] => { results := [.lit (.bool true)], args := [d1, d2] }
  | _ => none }
def scopeSaidRow : OpenClaim := { program := "ytkbjlnmdlolhiaa", sum := "2b2212bd73ccda0a20669a240b3594cd98d21528048304985167da17aff18c5f", func := "whittler/whittlerlaw6.ScopeSaid", spec := "scopeSaid", unfollowed := true, recurses := true, loops := true, apart := false }
def ScopeSaidSaid : Prop := scopeSaidRow.holds Try.pinned (OpenSpec.ofChange scopeSaidSpec)

/-- ITS FALSE NEIGHBOUR: 'it returns false'. Refute it at one input. -/
def scopeSaidWrong : ChangeSpec := { name := "scopeSaid", fn := fun _ => fun
  | [d1, d2] => { results := [.lit (.bool false)], args := [d1, d2] }
  | _ => none }
def ScopeSaidWrongFalsely : Prop := scopeSaidRow.holds Try.pinned (OpenSpec.ofChange scopeSaidWrong)

/-- 'whittlerlaw6.ScopeNew': WHATEVER THE INPUT: true; the input reads as it did. -/
def scopeNewSpec : ChangeSpec := { name := "scopeNew", fn := fun _ => fun
  | [d1, d2, d3] => { results := [.lit (.bool true)], args := [d1, d2, d3] }
  | _ => none }
def scopeNewRow : OpenClaim := { program := "ytkbjlnmdlolhiaa", sum := "2b2212bd73ccda0a20669a240b3594cd98d21528048304985167da17aff18c5f", func := "whittler/whittlerlaw6.ScopeNew", spec := "scopeNew", unfollowed := true, recurses := true, loops := true, apart := false }
def ScopeNewSaid : Prop := scopeNewRow.holds Try.pinned (OpenSpec.ofChange scopeNewSpec)

/-- ITS FALSE NEIGHBOUR: 'it returns false'. Refute it at one input. -/
def scopeNewWrong : ChangeSpec := { name := "scopeNew", fn := fun _ => fun
  | [d1, d2, d3] => { results := [.lit (.bool false)], args := [d1, d2, d3] }
  | _ => none }
def ScopeNewWrongFalsely : Prop := scopeNewRow.holds Try.pinned (OpenSpec.ofChange scopeNewWrong)

/-- 'whittlerlaw6.ScopeTwice': WHATEVER THE INPUT: true; the input reads as it did. -/
def scopeTwiceSpec : ChangeSpec := { name := "scopeTwice", fn := fun _ => fun
  | [d1, d2, d3, d4] => { results := [.lit (.bool true)], args := [d1, d2, d3, d4] }
  | _ => none }
def scopeTwiceRow : OpenClaim := { program := "ytkbjlnmdlolhiaa", sum := "2b2212bd73ccda0a20669a240b3594cd98d21528048304985167da17aff18c5f", func := "whittler/whittlerlaw6.ScopeTwice", spec := "scopeTwice", unfollowed := true, recurses := true, loops := true, apart := false }
def ScopeTwiceSaid : Prop := scopeTwiceRow.holds Try.pinned (OpenSpec.ofChange scopeTwiceSpec)

/-- ITS FALSE NEIGHBOUR: 'it returns false'. Refute it at one input. -/
def scopeTwiceWrong : ChangeSpec := { name := "scopeTwice", fn := fun _ => fun
  | [d1, d2, d3, d4] => { results := [.lit (.bool false)], args := [d1, d2, d3, d4] }
  | _ => none }
def ScopeTwiceWrongFalsely : Prop := scopeTwiceRow.holds Try.pinned (OpenSpec.ofChange scopeTwiceWrong)

/-- 'whittlerlaw6.ScopeSwap': WHATEVER THE INPUT: true; the input reads as it did. -/
def scopeSwapSpec : ChangeSpec := { name := "scopeSwap", fn := fun _ => fun
  | [d1, d2, d3, d4, d5] => { results := [.lit (.bool true)], args := [d1, d2, d3, d4, d5] }
  | _ => none }
def scopeSwapRow : OpenClaim := { program := "ytkbjlnmdlolhiaa", sum := "2b2212bd73ccda0a20669a240b3594cd98d21528048304985167da17aff18c5f", func := "whittler/whittlerlaw6.ScopeSwap", spec := "scopeSwap", unfollowed := true, recurses := true, loops := true, apart := false }
def ScopeSwapSaid : Prop := scopeSwapRow.holds Try.pinned (OpenSpec.ofChange scopeSwapSpec)

/-- ITS FALSE NEIGHBOUR: 'it returns false'. Refute it at one input. -/
def scopeSwapWrong : ChangeSpec := { name := "scopeSwap", fn := fun _ => fun
  | [d1, d2, d3, d4, d5] => { results := [.lit (.bool false)], args := [d1, d2, d3, d4, d5] }
  | _ => none }
def ScopeSwapWrongFalsely : Prop := scopeSwapRow.holds Try.pinned (OpenSpec.ofChange scopeSwapWrong)

/- THE SECOND FORM. 'bulk': how many values and letters a reading holds, each counted each time it is reached (what is shared counts as often as it is met; a slice's spare places count too). A statement '..UptoSaid' is the law's where the arguments, and the package variables that the reading takes, are together of bulk at most 1048576: NARROWER than '..Said'. Prove '..Said' where nothing that the law and all that it calls make is longer than what came in: it says more and counts as full. Else prove '..UptoSaid'. A law counts once. -/
mutual
def uptoBulk {H : Type} : DataW H → Nat
  | .lit (.string bytes) => bytes.length + 1
  | .lit _ => 1
  | .nil => 1
  | .ptr d => uptoBulk d + 1
  | .slice elems spare => uptoBulkAll elems + uptoBulkAll spare + 1
  | .agg parts => uptoBulkAll parts + 1
  | .iface _ d => uptoBulk d + 1
  | .map entries => uptoBulkEntries entries + 1
  | .held _ => 1
def uptoBulkAll {H : Type} : List (DataW H) → Nat
  | [] => 0
  | d :: r => uptoBulk d + uptoBulkAll r
def uptoBulkEntries {H : Type} : List (Lit × DataW H) → Nat
  | [] => 0
  | x :: r => uptoBulkEntry x + uptoBulkEntries r
def uptoBulkEntry {H : Type} : Lit × DataW H → Nat
  | (.string bytes, d) => bytes.length + uptoBulk d + 1
  | (_, d) => uptoBulk d + 1
 end
def uptoSmall : (H : Type) → List (DataW H) → Bool := fun _ ds => decide (uptoBulkAll ds ≤ 1048576)
def OpenSpec.upto (s : _root_.Go.ChangeSpec) : _root_.Go.OpenSpec := { _root_.Go.OpenSpec.ofChange s with cond := some uptoSmall }

/-- 'whittlerlaw3.TreeMay', WHERE WHAT IT READS IS OF BULK AT MOST 1048576: true; the input reads as it did. -/
def treeMayUptoRow : OpenClaim := { program := "ytkbjlnmdlolhiaa", sum := "2b2212bd73ccda0a20669a240b3594cd98d21528048304985167da17aff18c5f", func := "whittler/whittlerlaw3.TreeMay", spec := "treeMay", unfollowed := true, recurses := true, loops := true, apart := false, narrowed := true }
def TreeMayUptoSaid : Prop := treeMayUptoRow.holds Try.pinned (OpenSpec.upto treeMaySpec)

/-- 'whittlerlaw3.TreeNumber', WHERE WHAT IT READS IS OF BULK AT MOST 1048576: true; the input reads as it did. -/
def treeNumberUptoRow : OpenClaim := { program := "ytkbjlnmdlolhiaa", sum := "2b2212bd73ccda0a20669a240b3594cd98d21528048304985167da17aff18c5f", func := "whittler/whittlerlaw3.TreeNumber", spec := "treeNumber", unfollowed := true, recurses := true, loops := true, apart := false, narrowed := true }
def TreeNumberUptoSaid : Prop := treeNumberUptoRow.holds Try.pinned (OpenSpec.upto treeNumberSpec)

/-- 'whittlerlaw3.TreeFirst', WHERE WHAT IT READS IS OF BULK AT MOST 1048576: true; the input reads as it did. -/
def treeFirstUptoRow : OpenClaim := { program := "ytkbjlnmdlolhiaa", sum := "2b2212bd73ccda0a20669a240b3594cd98d21528048304985167da17aff18c5f", func := "whittler/whittlerlaw3.TreeFirst", spec := "treeFirst", unfollowed := true, recurses := true, loops := true, apart := false, narrowed := true }
def TreeFirstUptoSaid : Prop := treeFirstUptoRow.holds Try.pinned (OpenSpec.upto treeFirstSpec)

/-- 'whittlerlaw3.TreeSwap', WHERE WHAT IT READS IS OF BULK AT MOST 1048576: true; the input reads as it did. -/
def treeSwapUptoRow : OpenClaim := { program := "ytkbjlnmdlolhiaa", sum := "2b2212bd73ccda0a20669a240b3594cd98d21528048304985167da17aff18c5f", func := "whittler/whittlerlaw3.TreeSwap", spec := "treeSwap", unfollowed := true, recurses := true, loops := true, apart := false, narrowed := true }
def TreeSwapUptoSaid : Prop := treeSwapUptoRow.holds Try.pinned (OpenSpec.upto treeSwapSpec)

/-- 'whittlerlaw3.TreeOwn', WHERE WHAT IT READS IS OF BULK AT MOST 1048576: true; the input reads as it did. -/
def treeOwnUptoRow : OpenClaim := { program := "ytkbjlnmdlolhiaa", sum := "2b2212bd73ccda0a20669a240b3594cd98d21528048304985167da17aff18c5f", func := "whittler/whittlerlaw3.TreeOwn", spec := "treeOwn", unfollowed := true, recurses := true, loops := true, apart := false, narrowed := true }
def TreeOwnUptoSaid : Prop := treeOwnUptoRow.holds Try.pinned (OpenSpec.upto treeOwnSpec)

/-- 'whittlerlaw6.ScopeAll', WHERE WHAT IT READS IS OF BULK AT MOST 1048576: true; the input reads as it did. -/
def scopeAllUptoRow : OpenClaim := { program := "ytkbjlnmdlolhiaa", sum := "2b2212bd73ccda0a20669a240b3594cd98d21528048304985167da17aff18c5f", func := "whittler/whittlerlaw6.ScopeAll", spec := "scopeAll", unfollowed := true, recurses := true, loops := true, apart := false, narrowed := true }
def ScopeAllUptoSaid : Prop := scopeAllUptoRow.holds Try.pinned (OpenSpec.upto scopeAllSpec)

/-- 'whittlerlaw6.ScopeCheck', WHERE WHAT IT READS IS OF BULK AT MOST 1048576: true; the input reads as it did. -/
def scopeCheckUptoRow : OpenClaim := { program := "ytkbjlnmdlolhiaa", sum := "2b2212bd73ccda0a20669a240b3594cd98d21528048304985167da17aff18c5f", func := "whittler/whittlerlaw6.ScopeCheck", spec := "scopeCheck", unfollowed := true, recurses := true, loops := true, apart := false, narrowed := true }
def ScopeCheckUptoSaid : Prop := scopeCheckUptoRow.holds Try.pinned (OpenSpec.upto scopeCheckSpec)

/-- 'whittlerlaw6.ScopeOne', WHERE WHAT IT READS IS OF BULK AT MOST 1048576: true; the input reads as it did. -/
def scopeOneUptoRow : OpenClaim := { program := "ytkbjlnmdlolhiaa", sum := "2b2212bd73ccda0a20669a240b3594cd98d21528048304985167da17aff18c5f", func := "whittler/whittlerlaw6.ScopeOne", spec := "scopeOne", unfollowed := true, recurses := true, loops := true, apart := false, narrowed := true }
def ScopeOneUptoSaid : Prop := scopeOneUptoRow.holds Try.pinned (OpenSpec.upto scopeOneSpec)

/-- 'whittlerlaw6.ScopeSaid', WHERE WHAT IT READS IS OF BULK AT MOST 1048576: true; the input reads as it did. -/
def scopeSaidUptoRow : OpenClaim := { program := "ytkbjlnmdlolhiaa", sum := "2b2212bd73ccda0a20669a240b3594cd98d21528048304985167da17aff18c5f", func := "whittler/whittlerlaw6.ScopeSaid", spec := "scopeSaid", unfollowed := true, recurses := true, loops := true, apart := false, narrowed := true }
def ScopeSaidUptoSaid : Prop := scopeSaidUptoRow.holds Try.pinned (OpenSpec.upto scopeSaidSpec)

/-- 'whittlerlaw6.ScopeNew', WHERE WHAT IT READS IS OF BULK AT MOST 1048576: true; the input reads as it did. -/
def scopeNewUptoRow : OpenClaim := { program := "ytkbjlnmdlolhiaa", sum := "2b2212bd73ccda0a20669a240b3594cd98d21528048304985167da17aff18c5f", func := "whittler/whittlerlaw6.ScopeNew", spec := "scopeNew", unfollowed := true, recurses := true, loops := true, apart := false, narrowed := true }
def ScopeNewUptoSaid : Prop := scopeNewUptoRow.holds Try.pinned (OpenSpec.upto scopeNewSpec)

/-- 'whittlerlaw6.ScopeTwice', WHERE WHAT IT READS IS OF BULK AT MOST 1048576: true; the input reads as it did. -/
def scopeTwiceUptoRow : OpenClaim := { program := "ytkbjlnmdlolhiaa", sum := "2b2212bd73ccda0a20669a240b3594cd98d21528048304985167da17aff18c5f", func := "whittler/whittlerlaw6.ScopeTwice", spec := "scopeTwice", unfollowed := true, recurses := true, loops := true, apart := false, narrowed := true }
def ScopeTwiceUptoSaid : Prop := scopeTwiceUptoRow.holds Try.pinned (OpenSpec.upto scopeTwiceSpec)

/-- 'whittlerlaw6.ScopeSwap', WHERE WHAT IT READS IS OF BULK AT MOST 1048576: true; the input reads as it did. -/
def scopeSwapUptoRow : OpenClaim := { program := "ytkbjlnmdlolhiaa", sum := "2b2212bd73ccda0a20669a240b3594cd98d21528048304985167da17aff18c5f", func := "whittler/whittlerlaw6.ScopeSwap", spec := "scopeSwap", unfollowed := true, recurses := true, loops := true, apart := false, narrowed := true }
def ScopeSwapUptoSaid : Prop := scopeSwapUptoRow.holds Try.pinned (OpenSpec.upto scopeSwapSpec)

end Rows
end Go.Proofs.Ytkbjlnmdlolhiaa
