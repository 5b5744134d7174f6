/- A set of texts, as a map from texts to bools of the call's own. -/
import Derived.Test.YtkbjlnmdlolhiaaTreeU
import Derived.Test.YtkbjlnmdlolhiaaTreeN4
import Derived.Maps.OwnSet
import Derived.Maps.Views
import Derived.StringKeys
namespace Go.Proofs.Ytkbjlnmdlolhiaa
open Go.ChangeShapes Go.WideShapes Go.ChangeAt Go.RowKit Go.Deep
set_option linter.unusedVariables false

theorem keyLaw : Maps.Keyed Try.prog 9 := Maps.string_keyed Try.underlying9
theorem zeroB (w : World) : (zeroValue 4).run Try.prog w = .ok (.bool false) w := by kernel_rfl
theorem plainElem_bool_inv {H : Type} {P : Program} {e : TypeId} (he : P.underlying e = some .bool) {v : Value} {z : DataW H × List MemPlace} (h : plainElem P e v = some z) : ∃ x, v = .bool x ∧ z = (.lit (.bool x), []) := by
  unfold plainElem at h
  rw [he] at h
  cases v <;> simp at h
  exact ⟨_, rfl, h.symm⟩
def SeenI (w : World) (b n : Nat) (l : List ByteArray) : Prop :=
  ∃ D : DataW Unit, w.ownsMap Try.prog 9 (plainElem Try.prog 4) b n D ∧ ∀ s : ByteArray, small s → D.atKey (.string s.data.toList) (.lit (.bool false)) = .lit (.bool (hasB l s))
theorem SeenI.new (w : World) : SeenI (w.alloc (.map #[] 0)) w.heap.size 0 [] := ⟨.map [], World.ownsMap_made w _ _ _, fun s _ => rfl⟩
theorem SeenI.blk {w : World} {b n : Nat} {l : List ByteArray} (h : SeenI w b n l) : ∃ es clock, w.heap[b]? = some (.map es clock) := by
  obtain ⟨D, ⟨es, clock, h1, _⟩, _⟩ := h
  exact ⟨es, clock, h1⟩
theorem SeenI.keep {own : Nat → Prop} {w w' : World} {b n : Nat} {l : List ByteArray} (h : SeenI w b n l) (hm : Moves own w w') (hn : ¬ own b) : SeenI w' b n l := by
  obtain ⟨D, ⟨es, clock, h1, h2⟩, h3⟩ := h
  exact ⟨D, ⟨es, clock, (hm.block b (Array.getElem?_eq_some_iff.1 h1).1 hn).trans h1, h2⟩, h3⟩
theorem SeenI.look {w : World} {b n : Nat} {l : List ByteArray} (h : SeenI w b n l) {s : ByteArray} (hs : small s) : (Instr.lookup 124 (.map (some b)) (.string s) false).run Try.prog w = .ok (.bool (hasB l s)) w := by
  obtain ⟨D, h1, h2⟩ := h
  have hs' : s.size ≤ maxLen := by unfold small at hs; unfold maxLen; omega
  obtain ⟨v, ps, hrun, hv⟩ := h1.lookup keyLaw Try.underlying124 (zeroB w) (plainElem_bool (H := Unit) Try.underlying4 false) (WideMaps.keyOf_string_mk Try.underlying9 hs')
  obtain ⟨x, rfl, hz⟩ := plainElem_bool_inv Try.underlying4 hv
  rw [h2 s hs] at hz
  simp only [Prod.mk.injEq, DataW.lit.injEq, Lit.bool.injEq] at hz
  rw [hrun, hz.1]
theorem SeenI.put {w : World} {b n : Nat} {l : List ByteArray} (h : SeenI w b n l) (hn : n ≤ 1099511627776) {s : ByteArray} (hs : small s) :
    ∃ w', (Instr.mapUpdate 124 (.map (some b)) (.string s) (.bool true)).run Try.prog w = .ok () w' ∧ SeenI w' b (n + 1) (l ++ [s]) ∧ w.grownBy w' (some b) := by
  obtain ⟨D, h1, h2⟩ := h
  have hs' : s.size ≤ maxLen := by unfold small at hs; unfold maxLen; omega
  obtain ⟨w', hrun, h3, h4⟩ := h1.update keyLaw Try.underlying124 (by unfold maxLen; omega) (WideMaps.keyOf_string_mk Try.underlying9 hs') (plainElem_bool (H := Unit) Try.underlying4 true)
  refine ⟨w', hrun, ⟨_, h3, fun t ht => ?_⟩, h4⟩
  have hh : hasB (l ++ [s]) t = (hasB l t || decide (s = t)) := by simp [hasB]
  by_cases he : t = s
  · subst he
    rw [Maps.atKey_put_same h1.isMap (by simp [WideAt.IsKeyLit]), hh]
    simp
  · have hne : Lit.string t.data.toList ≠ Lit.string s.data.toList := by
      intro e
      injection e with e
      apply he
      rw [← bs_bl t, ← bs_bl s]
      exact congrArg bs e
    rw [Maps.atKey_put_other hne, h2 t ht, hh]
    simp [Ne.symm he]
/-- two rows of other element types never share a block; nor a row and a map -/
theorem own_own_ne {w : World} {base base' n n' size size' : Nat} {e e' : TypeId} {v v' : Value} {xs xs' : List Value} (h : w.ownsRow base e size v n xs) (h' : w.ownsRow base' e' size' v' n' xs') (hne : e ≠ e') {j : Nat} (hj : v.ownBlock = some j) : v'.ownBlock ≠ some j := by
  rcases h.2 with ⟨rfl, _⟩ | ⟨g, cap, cur, rfl, _, hh, _⟩
  · simp [Value.ownBlock] at hj
  · have : g = j := by simpa [Value.ownBlock] using hj
    subst this
    exact own_blk_ne h' hh (Ne.symm hne)
theorem own_map_ne {w : World} {base n size b m : Nat} {e : TypeId} {v : Value} {xs : List Value} {l : List ByteArray} (h : w.ownsRow base e size v n xs) (hs : SeenI w b m l) : v.ownBlock ≠ some b := by
  obtain ⟨es, clock, hb⟩ := hs.blk
  rcases h.2 with ⟨rfl, _⟩ | ⟨g, cap, cur, rfl, _, hh, _⟩
  · simp [Value.ownBlock]
  · intro hj
    have : g = b := by simpa [Value.ownBlock] using hj
    subst this
    rw [hb] at hh; cases hh
theorem blk_map_ne {w : World} {g b m : Nat} {t : TypeId} {cs : Array Value} {l : List ByteArray} (h : Blk w g t cs) (hs : SeenI w b m l) : g ≠ b := by
  obtain ⟨es, clock, hb⟩ := hs.blk
  rintro rfl
  unfold Blk at h
  rw [hb] at h; cases h
end Go.Proofs.Ytkbjlnmdlolhiaa
