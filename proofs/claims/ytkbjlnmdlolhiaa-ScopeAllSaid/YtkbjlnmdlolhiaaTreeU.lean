/- The names of an expression: the words, and the contracts of spoken, walk, Names (whittlerref3). -/
import Derived.Test.YtkbjlnmdlolhiaaTreeR
import Derived.Test.YtkbjlnmdlolhiaaTreeN4
import Derived.Maps.AppendAt
import Derived.Maps.Range
namespace Go.Proofs.Ytkbjlnmdlolhiaa
open Go.ChangeShapes Go.WideShapes Go.ChangeAt Go.RowKit Go.Deep
set_option linter.unusedVariables false

def hasB (l : List ByteArray) (s : ByteArray) : Bool := l.any fun t => decide (t = s)
theorem hasB_iff {l : List ByteArray} {s : ByteArray} : hasB l s = true ↔ s ∈ l := by simp [hasB]
def spoke (l : List ByteArray) (s : ByteArray) : List ByteArray := if hasB l s then l else l ++ [s]
mutual
def walkE : E → List ByteArray → List ByteArray
  | .mk op _ nm ks, l => walkL ks (if op = 2 then spoke l nm else l)
def walkL : List E → List ByteArray → List ByteArray
  | [], l => l
  | k :: ks, l => walkL ks (walkE k l)
end
mutual
def sizE : E → Nat
  | .mk _ _ _ ks => sizL ks + 1
def sizL : List E → Nat
  | [] => 0
  | k :: ks => sizE k + sizL ks
end
theorem spoke_len (l : List ByteArray) (s : ByteArray) : l.length ≤ (spoke l s).length ∧ (spoke l s).length ≤ l.length + 1 := by unfold spoke; split <;> simp
theorem spoke_all {p : ByteArray → Prop} {l : List ByteArray} {s : ByteArray} (h : ∀ t ∈ l, p t) (hs : p s) : ∀ t ∈ spoke l s, p t := by
  unfold spoke; split
  · exact h
  · intro t ht; simp at ht; rcases ht with ht | rfl
    · exact h t ht
    · exact hs
mutual
theorem walkE_len : ∀ (e : E) (l : List ByteArray), (walkE e l).length ≤ l.length + sizE e
  | .mk op _ nm ks, l => by
    rw [walkE, sizE]
    have h1 := walkL_len ks (if op = 2 then spoke l nm else l)
    have h2 := spoke_len l nm
    split at h1 <;> simp_all <;> omega
theorem walkL_len : ∀ (ks : List E) (l : List ByteArray), (walkL ks l).length ≤ l.length + sizL ks
  | [], l => by simp [walkL]
  | k :: ks, l => by
    rw [walkL, sizL]
    have h1 := walkL_len ks (walkE k l)
    have h2 := walkE_len k l
    omega
end
mutual
theorem mayE_siz : ∀ (e : E) (d : Nat), mayE d e = true → sizE e + 1 ≤ 2 ^ d
  | .mk op n nm ks, d, h => by
    rw [mayE, Bool.and_eq_true, decide_eq_true_eq] at h
    obtain ⟨hd, h⟩ := h
    rw [sizE]
    have hp : 2 ^ d = 2 * 2 ^ (d - 1) := by rw [← Nat.pow_succ']; congr 1; omega
    have hp1 : 1 ≤ 2 ^ (d - 1) := Nat.one_le_two_pow
    by_cases h1 : op = 1
    · rw [if_pos h1] at h
      simp only [Bool.and_eq_true, decide_eq_true_eq] at h
      obtain rfl : ks = [] := List.eq_nil_of_length_eq_zero h.2
      simp only [sizL]; omega
    · rw [if_neg h1] at h
      by_cases h2 : op = 2
      · rw [if_pos h2] at h
        simp only [Bool.and_eq_true, decide_eq_true_eq] at h
        obtain rfl : ks = [] := List.eq_nil_of_length_eq_zero h.2
        simp only [sizL]; omega
      · rw [if_neg h2] at h
        simp only [Bool.and_eq_true, decide_eq_true_eq] at h
        have hl := mayL_siz ks (d - 1) h.2
        have ho := opN_le op
        have hlen : ks.length ≤ 2 := by omega
        have hm : ks.length * (2 ^ (d - 1) - 1) ≤ 2 * (2 ^ (d - 1) - 1) := Nat.mul_le_mul_right _ hlen
        omega
theorem mayL_siz : ∀ (ks : List E) (d : Nat), mayL d ks = true → sizL ks ≤ ks.length * (2 ^ d - 1)
  | [], d, _ => by simp [sizL]
  | k :: ks, d, h => by
    rw [mayL, Bool.and_eq_true] at h
    have h1 := mayE_siz k d h.1
    have h2 := mayL_siz ks d h.2
    rw [sizL, List.length_cons, Nat.succ_mul]
    omega
end
theorem walkL_drop {ks : List E} {k : Nat} (h : k < ks.length) (l : List ByteArray) : walkL (ks.drop k) l = walkL (ks.drop (k + 1)) (walkE ks[k] l) := by
  rw [List.drop_eq_getElem_cons h, walkL]
theorem sizL_drop {ks : List E} {k : Nat} (h : k < ks.length) : sizL (ks.drop k) = sizE ks[k] + sizL (ks.drop (k + 1)) := by
  rw [List.drop_eq_getElem_cons h, sizL]
theorem string_info : (Try.prog.info? 9).map (fun i => (i.zero, i.size, i.bytes)) = some (some (.string ⟨#[]⟩), 1, 16) := by kernel_rfl

def small (s : ByteArray) : Prop := s.size ≤ 9223372036854775807
/-- a row of texts of the call's own was answered, which lies where v lay or is new; nothing else has turned -/
def RowOk (base : Nat) (v : Value) (l : List ByteArray) (w : World) (e : Ending) (w' : World) : Prop :=
  ∃ v', e = .returned v' ∧ w'.ownsRow base 9 1 v' l.length (strs l) ∧ w.grownBy w' v.ownBlock ∧ ∀ j, v'.ownBlock = some j → w.heap.size ≤ j ∨ v.ownBlock = some j
theorem In.grown {Q : Nat → Prop} {w W W' : World} {row : Option Nat} (h : In Q w W) (hg : W.grownBy W' row) (hr : ∀ j, row = some j → ¬ Q j) : In Q w W' :=
  ⟨fun b hb => Nat.lt_of_lt_of_le (h.1 b hb) hg.size, fun p hp => (World.cell?_of_block (w := W) (hg.block _ (h.1 _ hp) (fun e => hr _ e.symm hp))).trans (h.2 p hp)⟩
theorem lies_then {a b : World} {u v v' : Option Nat} (h : a.grownBy b u) (h1 : ∀ j, v = some j → a.heap.size ≤ j ∨ u = some j) (h2 : ∀ j, v' = some j → b.heap.size ≤ j ∨ v = some j) : ∀ j, v' = some j → a.heap.size ≤ j ∨ u = some j := fun j hj => by
  rcases h2 j hj with h | h
  · exact .inl (Nat.le_trans (by assumption : a.grownBy b u).size h)
  · exact h1 j h
theorem own_shape {w : World} {base n : Nat} {e : TypeId} {size : Nat} {v : Value} {xs : List Value} (h : w.ownsRow base e size v n xs) : ∃ A cap, v = .slice A n cap ∧ n ≤ cap ∧ cap ≤ 9223372036854775807 := by
  rcases h.2 with ⟨rfl, rfl⟩ | ⟨g, cap, cur, rfl, _, _, h1, h2, _⟩
  · exact ⟨none, 0, rfl, by omega, by omega⟩
  · unfold maxLen at h2; exact ⟨_, cap, rfl, h1, by omega⟩
theorem own_row {w w' : World} {base n : Nat} {e : TypeId} {size : Nat} {v : Value} {xs : List Value} (h : w.ownsRow base e size v n xs) (hg : w.grownBy w' v.ownBlock) (hb : base ≤ w.heap.size) : Below base w w' :=
  (Below.refl _ _).grown hg hb (fun k hk => (h.lt k hk).1)
set_option maxHeartbeats 1000000 in
theorem walkE_all {w : World} {Q : Nat → Prop} {e : E} {cs : List Value} (h : ExprI w Q e cs) : ∀ {l : List ByteArray}, (∀ t ∈ l, small t) → ∀ t ∈ walkE e l, small t := by
  induction h with
  | @mk op n nm ks A cap css hop hn hnm hcap hA hk ih =>
    intro l hl
    have key : ∀ (m k : Nat), k + m = ks.length → ∀ l : List ByteArray, (∀ t ∈ l, small t) → ∀ t ∈ walkL (ks.drop k) l, small t := by
      intro m
      induction m with
      | zero => intro k hk l hl; rw [List.drop_of_length_le (by omega), walkL]; exact hl
      | succ m ihm =>
        intro k hk l hl
        rw [walkL_drop (by omega)]
        exact ihm (k + 1) (by omega) _ (ih k (by omega) hl)
    rw [walkE]
    have := key ks.length 0 (by omega) (if op = 2 then spoke l nm else l) (by split; exact spoke_all hl hnm; exact hl)
    rwa [List.drop_zero] at this
def namesE (e : E) : List ByteArray := if mayE 20 e then walkE e [] else []
def NewRow (l : List ByteArray) (w : World) (e : Ending) (w' : World) : Prop := ∃ v, e = .returned v ∧ w'.ownsRow w.heap.size 9 1 v l.length (strs l) ∧ Below w.heap.size w w'
theorem own_lower {w : World} {base base' n : Nat} {e : TypeId} {size : Nat} {v : Value} {xs : List Value} (h : w.ownsRow base e size v n xs) (hb : base' ≤ base) : w.ownsRow base' e size v n xs := by
  refine ⟨h.1, ?_⟩
  rcases h.2 with h1 | ⟨g, cap, cur, h1, h2, r⟩
  · exact .inl h1
  · exact .inr ⟨g, cap, cur, h1, by omega, r⟩
end Go.Proofs.Ytkbjlnmdlolhiaa
