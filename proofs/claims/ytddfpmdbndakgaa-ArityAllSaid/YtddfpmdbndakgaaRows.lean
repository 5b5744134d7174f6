/-
  NARROWER THAN 'FOR EVERY INPUT', by the rows' own cells (each row's printed sentence says how): TreeNumber: loops · TreeSwap: loops · ScopeCheck: loops · ScopeOne: loops · ScopeSaid: loops · ScopeNew: loops · ScopeTwice: loops · ScopeSwap: loops · ArityAll: loops · ArityTurned: loops.
  DERIVED. THE GIVEN ROWS OF THIS SEAT. 10 by the template 'for every input the law returns true; each argument reads behind the call as it read before'; 0 by the template 'total and deterministic' (their statements: YtddfpmdbndakgaaTotals.lean).
  GIVEN WITH THE SEED: the statements are not yours to turn. If you find one false, say at which input.
  Laid BY PROGRAM, IN A SANDBOX (cutbox-rows.mjs): the forced cells as the released guide's own fill.sh prints them over the translation 3bb92e0c650da689… (all of the seat's roots in one cut). By AI agents, Wed Nov 11 2026. No macro, syntax, notation, axiom, sorry.
-/
import Derived.Test.YtddfpmdbndakgaaChecked
import GoSem.Claim
import GoSem.ClaimJoined
import GoSem.ClaimMapViews
import Derived.JoinedTies
import Derived.KernelRfl
namespace Go.Proofs.Ytddfpmdbndakgaa
/- THE CELL 'sum', in the pinned program and in every row, IS THE sha256 OF THE DUMP (.gsa) THAT YtddfpmdbndakgaaProg.lean LOADS. Nothing in Lean hashes anything: it is a label: what it is worth is what the hold of that sum in a sandbox is worth. -/
noncomputable def Try.pinned : Pinned := { name := "ytddfpmdbndakgaa", sum := "3bb92e0c650da6895bbdb492202e6eba64d91d8b5dbb5a0b2f902060669e2fae", checked := Try.checked }
namespace Rows
def none {H : Type} : Left H := { results := [], args := [] }

/-- 'whittlerlaw3.TreeNumber': WHATEVER THE INPUT: true; the input reads as it did. -/
def treeNumberSpec : ChangeSpec := { name := "treeNumber", fn := fun _ => fun
  | [d1, d2, d3] => { results := [.lit (.bool true)], args := [d1, d2, d3] }
  | _ => none }
def treeNumberRow : OpenClaim := { program := "ytddfpmdbndakgaa", sum := "3bb92e0c650da6895bbdb492202e6eba64d91d8b5dbb5a0b2f902060669e2fae", func := "whittler/whittlerlaw3.TreeNumber", spec := "treeNumber", unfollowed := true, recurses := true, loops := true, apart := false }
def TreeNumberSaid : Prop := treeNumberRow.holds Try.pinned (OpenSpec.ofChange treeNumberSpec)

/-- ITS FALSE NEIGHBOUR: 'it returns false'. Refute it at one input. -/
def treeNumberWrong : ChangeSpec := { name := "treeNumber", fn := fun _ => fun
  | [d1, d2, d3] => { results := [.lit (.bool false)], args := [d1, d2, d3] }
  | _ => none }
def TreeNumberWrongFalsely : Prop := treeNumberRow.holds Try.pinned (OpenSpec.ofChange treeNumberWrong)

/-- 'whittlerlaw3.TreeSwap': WHATEVER THE INPUT: true; the input reads as it did. -/
def treeSwapSpec : ChangeSpec := { name := "treeSwap", fn := fun _ => fun
  | [d1, d2, d3] => { results := [.lit (.bool true)], args := [d1, d2, d3] }
  | _ => none }
def treeSwapRow : OpenClaim := { program := "ytddfpmdbndakgaa", sum := "3bb92e0c650da6895bbdb492202e6eba64d91d8b5dbb5a0b2f902060669e2fae", func := "whittler/whittlerlaw3.TreeSwap", spec := "treeSwap", unfollowed := true, recurses := true, loops := true, apart := false }
def TreeSwapSaid : Prop := treeSwapRow.holds Try.pinned (OpenSpec.ofChange treeSwapSpec)

/-- ITS FALSE NEIGHBOUR: 'it returns false'. Refute it at one input. -/
def treeSwapWrong : ChangeSpec := { name := "treeSwap", fn := fun _ => fun
  | [d1, d2, d3] => { results := [.lit (.bool false)], args := [d1, d2, d3] }
  | _ => none }
def TreeSwapWrongFalsely : Prop := treeSwapRow.holds Try.pinned (OpenSpec.ofChange treeSwapWrong)

/-- 'whittlerlaw6.ScopeCheck': WHATEVER THE INPUT: true; the input reads as it did. -/
def scopeCheckSpec : ChangeSpec := { name := "scopeCheck", fn := fun _ => fun
  | [d] => { results := [.lit (.bool true)], args := [d] }
  | _ => none }
def scopeCheckRow : OpenClaim := { program := "ytddfpmdbndakgaa", sum := "3bb92e0c650da6895bbdb492202e6eba64d91d8b5dbb5a0b2f902060669e2fae", func := "whittler/whittlerlaw6.ScopeCheck", spec := "scopeCheck", unfollowed := true, recurses := true, loops := true, apart := false }
def ScopeCheckSaid : Prop := scopeCheckRow.holds Try.pinned (OpenSpec.ofChange scopeCheckSpec)

/-- ITS FALSE NEIGHBOUR: 'it returns false'. Refute it at one input. -/
def scopeCheckWrong : ChangeSpec := { name := "scopeCheck", fn := fun _ => fun
  | [d] => { results := [.lit (.bool false)], args := [d] }
  | _ => none }
def ScopeCheckWrongFalsely : Prop := scopeCheckRow.holds Try.pinned (OpenSpec.ofChange scopeCheckWrong)

/-- 'whittlerlaw6.ScopeOne': WHATEVER THE INPUT: true; the input reads as it did. -/
def scopeOneSpec : ChangeSpec := { name := "scopeOne", fn := fun _ => fun
  | [d1, d2] => { results := [.lit (.bool true)], args := [d1, d2] }
  | _ => none }
def scopeOneRow : OpenClaim := { program := "ytddfpmdbndakgaa", sum := "3bb92e0c650da6895bbdb492202e6eba64d91d8b5dbb5a0b2f902060669e2fae", func := "whittler/whittlerlaw6.ScopeOne", spec := "scopeOne", unfollowed := true, recurses := true, loops := true, apart := false }
def ScopeOneSaid : Prop := scopeOneRow.holds Try.pinned (OpenSpec.ofChange scopeOneSpec)

/-- ITS FALSE NEIGHBOUR: 'it returns false'. Refute it at one input. -/
def scopeOneWrong : ChangeSpec := { name := "scopeOne", fn := fun _ => fun
  | [d1, d2] => { results := [.lit (.bool false)], args := [d1, d2] }
  | _ => none }
def ScopeOneWrongFalsely : Prop := scopeOneRow.holds Try.pinned (OpenSpec.ofChange scopeOneWrong)

/-- 'whittlerlaw6.ScopeSaid': WHATEVER THE INPUT: true; the input reads as it did. -/
def scopeSaidSpec : ChangeSpec := { name := "scopeSaid", fn := fun _ => fun
  | [d1, d2] => { results := [.lit (.bool true)], args := [d1, d2] }
  | _ => none }
def scopeSaidRow : OpenClaim := { program := "ytddfpmdbndakgaa", sum := "3bb92e0c650da6895bbdb492202e6eba64d91d8b5dbb5a0b2f902060669e2fae", func := "whittler/whittlerlaw6.ScopeSaid", spec := "scopeSaid", unfollowed := true, recurses := true, loops := true, apart := false }
def ScopeSaidSaid : Prop := scopeSaidRow.holds Try.pinned (OpenSpec.ofChange scopeSaidSpec)

/-- ITS FALSE NEIGHBOUR: 'it returns false'. Refute it at one input. -/
def scopeSaidWrong : ChangeSpec := { name := "scopeSaid", fn := fun _ => fun
  | [d1, d2] => { results := [.lit (.bool false)], args := [d1, d2] }
  | _ => none }
def ScopeSaidWrongFalsely : Prop := scopeSaidRow.holds Try.pinned (OpenSpec.ofChange scopeSaidWrong)

/-- 'whittlerlaw6.ScopeNew': WHATEVER THE INPUT: true; the input reads as it did. -/
def scopeNewSpec : ChangeSpec := { name := "scopeNew", fn := fun _ => fun
  | [d1, d2, d3] => { results := [.lit (.bool true)], args := [d1, d2, d3] }
  | _ => none }
def scopeNewRow : OpenClaim := { program := "ytddfpmdbndakgaa", sum := "3bb92e0c650da6895bbdb492202e6eba64d91d8b5dbb5a0b2f902060669e2fae", func := "whittler/whittlerlaw6.ScopeNew", spec := "scopeNew", unfollowed := true, recurses := true, loops := true, apart := false }
def ScopeNewSaid : Prop := scopeNewRow.holds Try.pinned (OpenSpec.ofChange scopeNewSpec)

/-- ITS FALSE NEIGHBOUR: 'it returns false'. Refute it at one input. -/
def scopeNewWrong : ChangeSpec := { name := "scopeNew", fn := fun _ => fun
  | [d1, d2, d3] => { results := [.lit (.bool false)], args := [d1, d2, d3] }
  | _ => none }
def ScopeNewWrongFalsely : Prop := scopeNewRow.holds Try.pinned (OpenSpec.ofChange scopeNewWrong)

/-- 'whittlerlaw6.ScopeTwice': WHATEVER THE INPUT: true; the input reads as it did. -/
def scopeTwiceSpec : ChangeSpec := { name := "scopeTwice", fn := fun _ => fun
  | [d1, d2, d3, d4] => { results := [.lit (.bool true)], args := [d1, d2, d3, d4] }
  | _ => none }
def scopeTwiceRow : OpenClaim := { program := "ytddfpmdbndakgaa", sum := "3bb92e0c650da6895bbdb492202e6eba64d91d8b5dbb5a0b2f902060669e2fae", func := "whittler/whittlerlaw6.ScopeTwice", spec := "scopeTwice", unfollowed := true, recurses := true, loops := true, apart := false }
def ScopeTwiceSaid : Prop := scopeTwiceRow.holds Try.pinned (OpenSpec.ofChange scopeTwiceSpec)

/-- ITS FALSE NEIGHBOUR: 'it returns false'. Refute it at one input. -/
def scopeTwiceWrong : ChangeSpec := { name := "scopeTwice", fn := fun _ => fun
  | [d1, d2, d3, d4] => { results := [.lit (.bool false)], args := [d1, d2, d3, d4] }
  | _ => none }
def ScopeTwiceWrongFalsely : Prop := scopeTwiceRow.holds Try.pinned (OpenSpec.ofChange scopeTwiceWrong)

/-- 'whittlerlaw6.ScopeSwap': WHATEVER THE INPUT: true; the input reads as it did. -/
def scopeSwapSpec : ChangeSpec := { name := "scopeSwap", fn := fun _ => fun
  | [d1, d2, d3, d4, d5] => { results := [.lit (.bool true)], args := [d1, d2, d3, d4, d5] }
  | _ => none }
def scopeSwapRow : OpenClaim := { program := "ytddfpmdbndakgaa", sum := "3bb92e0c650da6895bbdb492202e6eba64d91d8b5dbb5a0b2f902060669e2fae", func := "whittler/whittlerlaw6.ScopeSwap", spec := "scopeSwap", unfollowed := true, recurses := true, loops := true, apart := false }
def ScopeSwapSaid : Prop := scopeSwapRow.holds Try.pinned (OpenSpec.ofChange scopeSwapSpec)

/-- ITS FALSE NEIGHBOUR: 'it returns false'. Refute it at one input. -/
def scopeSwapWrong : ChangeSpec := { name := "scopeSwap", fn := fun _ => fun
  | [d1, d2, d3, d4, d5] => { results := [.lit (.bool false)], args := [d1, d2, d3, d4, d5] }
  | _ => none }
def ScopeSwapWrongFalsely : Prop := scopeSwapRow.holds Try.pinned (OpenSpec.ofChange scopeSwapWrong)

/-- 'whittlerlaw7.ArityAll': WHATEVER THE INPUT: true; the input reads as it did. -/
def arityAllSpec : ChangeSpec := { name := "arityAll", fn := fun _ => fun
  | [d1, d2] => { results := [.lit (.bool true)], args := [d1, d2] }
  | _ => none }
def arityAllRow : OpenClaim := { program := "ytddfpmdbndakgaa", sum := "3bb92e0c650da6895bbdb492202e6eba64d91d8b5dbb5a0b2f902060669e2fae", func := "whittler/whittlerlaw7.ArityAll", spec := "arityAll", unfollowed := true, recurses := true, loops := true, apart := false }
def ArityAllSaid : Prop := arityAllRow.holds Try.pinned (OpenSpec.ofChange arityAllSpec)

/-- ITS FALSE NEIGHBOUR: 'it returns false'. Refute it at one input. -/
def arityAllWrong : ChangeSpec := { name := "arityAll", fn := fun _ => fun
  | [d1, d2] => { results := [.lit (.bool false)], args := [d1, d2] }
  | _ => none }
def ArityAllWrongFalsely : Prop := arityAllRow.holds Try.pinned (OpenSpec.ofChange arityAllWrong)

/-- 'whittlerlaw7.ArityTurned': WHATEVER THE INPUT: true; the input reads as it did. -/
def arityTurnedSpec : ChangeSpec := { name := "arityTurned", fn := fun _ => fun
  | [d1, d2, d3, d4] => { results := [.lit (.bool true)], args := [d1, d2, d3, d4] }
  | _ => none }
def arityTurnedRow : OpenClaim := { program := "ytddfpmdbndakgaa", sum := "3bb92e0c650da6895bbdb492202e6eba64d91d8b5dbb5a0b2f902060669e2fae", func := "whittler/whittlerlaw7.ArityTurned", spec := "arityTurned", unfollowed := true, recurses := true, loops := true, apart := false }
def ArityTurnedSaid : Prop := arityTurnedRow.holds Try.pinned (OpenSpec.ofChange arityTurnedSpec)

/-- ITS FALSE NEIGHBOUR: 'it returns false'. Refute it at one input. -/
def arityTurnedWrong : ChangeSpec := { name := "arityTurned", fn := fun _ => fun
  | [d1, d2, d3, d4] => { results := [.lit (.bool false)], args := [d1, d2, d3, d4] }
  | _ => none }
def ArityTurnedWrongFalsely : Prop := arityTurnedRow.holds Try.pinned (OpenSpec.ofChange arityTurnedWrong)

/- THE SECOND FORM. 'bulk': how many values and letters a reading holds, each counted each time it is reached (what is shared counts as often as it is met; a slice's spare places count too). A statement '..UptoSaid' is the law's where the arguments, and the package variables that the reading takes, are together of bulk at most 1048576: NARROWER than '..Said'. Prove '..Said' where nothing that the law and all that it calls make is longer than what came in: it says more and counts as full. Else prove '..UptoSaid'. A law counts once. -/
mutual
def uptoBulk {H : Type} : DataW H → Nat
  | .lit (.string bytes) => bytes.length + 1
  | .lit _ => 1
  | .nil => 1
  | .ptr d => uptoBulk d + 1
  | .slice elems spare => uptoBulkAll elems + uptoBulkAll spare + 1
  | .agg parts => uptoBulkAll parts + 1
  | .iface _ d => uptoBulk d + 1
  | .map entries => uptoBulkEntries entries + 1
  | .held _ => 1
def uptoBulkAll {H : Type} : List (DataW H) → Nat
  | [] => 0
  | d :: r => uptoBulk d + uptoBulkAll r
def uptoBulkEntries {H : Type} : List (Lit × DataW H) → Nat
  | [] => 0
  | x :: r => uptoBulkEntry x + uptoBulkEntries r
def uptoBulkEntry {H : Type} : Lit × DataW H → Nat
  | (.string bytes, d) => bytes.length + uptoBulk d + 1
  | (_, d) => uptoBulk d + 1
 end
def uptoSmall : (H : Type) → List (DataW H) → Bool := fun _ ds => decide (uptoBulkAll ds ≤ 1048576)
def OpenSpec.upto (s : _root_.Go.ChangeSpec) : _root_.Go.OpenSpec := { _root_.Go.OpenSpec.ofChange s with cond := some uptoSmall }

/-- 'whittlerlaw3.TreeNumber', WHERE WHAT IT READS IS OF BULK AT MOST 1048576: true; the input reads as it did. -/
def treeNumberUptoRow : OpenClaim := { program := "ytddfpmdbndakgaa", sum := "3bb92e0c650da6895bbdb492202e6eba64d91d8b5dbb5a0b2f902060669e2fae", func := "whittler/whittlerlaw3.TreeNumber", spec := "treeNumber", unfollowed := true, recurses := true, loops := true, apart := false, narrowed := true }
def TreeNumberUptoSaid : Prop := treeNumberUptoRow.holds Try.pinned (OpenSpec.upto treeNumberSpec)

/-- 'whittlerlaw3.TreeSwap', WHERE WHAT IT READS IS OF BULK AT MOST 1048576: true; the input reads as it did. -/
def treeSwapUptoRow : OpenClaim := { program := "ytddfpmdbndakgaa", sum := "3bb92e0c650da6895bbdb492202e6eba64d91d8b5dbb5a0b2f902060669e2fae", func := "whittler/whittlerlaw3.TreeSwap", spec := "treeSwap", unfollowed := true, recurses := true, loops := true, apart := false, narrowed := true }
def TreeSwapUptoSaid : Prop := treeSwapUptoRow.holds Try.pinned (OpenSpec.upto treeSwapSpec)

/-- 'whittlerlaw6.ScopeCheck', WHERE WHAT IT READS IS OF BULK AT MOST 1048576: true; the input reads as it did. -/
def scopeCheckUptoRow : OpenClaim := { program := "ytddfpmdbndakgaa", sum := "3bb92e0c650da6895bbdb492202e6eba64d91d8b5dbb5a0b2f902060669e2fae", func := "whittler/whittlerlaw6.ScopeCheck", spec := "scopeCheck", unfollowed := true, recurses := true, loops := true, apart := false, narrowed := true }
def ScopeCheckUptoSaid : Prop := scopeCheckUptoRow.holds Try.pinned (OpenSpec.upto scopeCheckSpec)

/-- 'whittlerlaw6.ScopeOne', WHERE WHAT IT READS IS OF BULK AT MOST 1048576: true; the input reads as it did. -/
def scopeOneUptoRow : OpenClaim := { program := "ytddfpmdbndakgaa", sum := "3bb92e0c650da6895bbdb492202e6eba64d91d8b5dbb5a0b2f902060669e2fae", func := "whittler/whittlerlaw6.ScopeOne", spec := "scopeOne", unfollowed := true, recurses := true, loops := true, apart := false, narrowed := true }
def ScopeOneUptoSaid : Prop := scopeOneUptoRow.holds Try.pinned (OpenSpec.upto scopeOneSpec)

/-- 'whittlerlaw6.ScopeSaid', WHERE WHAT IT READS IS OF BULK AT MOST 1048576: true; the input reads as it did. -/
def scopeSaidUptoRow : OpenClaim := { program := "ytddfpmdbndakgaa", sum := "3bb92e0c650da6895bbdb492202e6eba64d91d8b5dbb5a0b2f902060669e2fae", func := "whittler/whittlerlaw6.ScopeSaid", spec := "scopeSaid", unfollowed := true, recurses := true, loops := true, apart := false, narrowed := true }
def ScopeSaidUptoSaid : Prop := scopeSaidUptoRow.holds Try.pinned (OpenSpec.upto scopeSaidSpec)

/-- 'whittlerlaw6.ScopeNew', WHERE WHAT IT READS IS OF BULK AT MOST 1048576: true; the input reads as it did. -/
def scopeNewUptoRow : OpenClaim := { program := "ytddfpmdbndakgaa", sum := "3bb92e0c650da6895bbdb492202e6eba64d91d8b5dbb5a0b2f902060669e2fae", func := "whittler/whittlerlaw6.ScopeNew", spec := "scopeNew", unfollowed := true, recurses := true, loops := true, apart := false, narrowed := true }
def ScopeNewUptoSaid : Prop := scopeNewUptoRow.holds Try.pinned (OpenSpec.upto scopeNewSpec)

/-- 'whittlerlaw6.ScopeTwice', WHERE WHAT IT READS IS OF BULK AT MOST 1048576: true; the input reads as it did. -/
def scopeTwiceUptoRow : OpenClaim := { program := "ytddfpmdbndakgaa", sum := "3bb92e0c650da6895bbdb492202e6eba64d91d8b5dbb5a0b2f902060669e2fae", func := "whittler/whittlerlaw6.ScopeTwice", spec := "scopeTwice", unfollowed := true, recurses := true, loops := true, apart := false, narrowed := true }
def ScopeTwiceUptoSaid : Prop := scopeTwiceUptoRow.holds Try.pinned (OpenSpec.upto scopeTwiceSpec)

/-- 'whittlerlaw6.ScopeSwap', WHERE WHAT IT READS IS OF BULK AT MOST 1048576: true; the input reads as it did. -/
def scopeSwapUptoRow : OpenClaim := { program := "ytddfpmdbndakgaa", sum := "3bb92e0c650da6895bbdb492202e6eba64d91d8b5dbb5a0b2f902060669e2fae", func := "whittler/whittlerlaw6.ScopeSwap", spec := "scopeSwap", unfollowed := true, recurses := true, loops := true, apart := false, narrowed := true }
def ScopeSwapUptoSaid : Prop := scopeSwapUptoRow.holds Try.pinned (OpenSpec.upto scopeSwapSpec)

/-- 'whittlerlaw7.ArityAll', WHERE WHAT IT READS IS OF BULK AT MOST 1048576: true; the input reads as it did. -/
def arityAllUptoRow : OpenClaim := { program := "ytddfpmdbndakgaa", sum := "3bb92e0c650da6895bbdb492202e6eba64d91d8b5dbb5a0b2f902060669e2fae", func := "whittler/whittlerlaw7.ArityAll", spec := "arityAll", unfollowed := true, recurses := true, loops := true, apart := false, narrowed := true }
def ArityAllUptoSaid : Prop := arityAllUptoRow.holds Try.pinned (OpenSpec.upto arityAllSpec)

/-- 'whittlerlaw7.ArityTurned', WHERE WHAT IT READS IS OF BULK AT MOST 1048576: true; the input reads as it did. -/
def arityTurnedUptoRow : OpenClaim := { program := "ytddfpmdbndakgaa", sum := "3bb92e0c650da6895bbdb492202e6eba64d91d8b5dbb5a0b2f902060669e2fae", func := "whittler/whittlerlaw7.ArityTurned", spec := "arityTurned", unfollowed := true, recurses := true, loops := true, apart := false, narrowed := true }
def ArityTurnedUptoSaid : Prop := arityTurnedUptoRow.holds Try.pinned (OpenSpec.upto arityTurnedSpec)

end Rows
end Go.Proofs.Ytddfpmdbndakgaa
