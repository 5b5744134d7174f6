/- Plain words over expression trees: what may be an expression, how deep it is, its names; no model in it but the tree's type. -/
import Derived.Test.YtdjckmpfblaliaaTreeE
namespace Go.Proofs.Ytdjckmpfblaliaa
set_option linter.unusedVariables false

def opN (op : Int) : Int := if op = 3 ∨ op = 4 then 1 else if 5 ≤ op ∧ op ≤ 17 then 2 else -1
mutual
def mayE : Nat → E → Bool
  | d, .mk op n nm ks => decide (0 < d) && (if op = 1 then decide (0 ≤ n) && decide (nm.size = 0) && decide (ks.length = 0)
      else if op = 2 then decide (n = 0) && isNm (bl nm) && decide (ks.length = 0)
      else decide (n = 0) && decide (nm.size = 0) && decide ((ks.length : Int) = opN op) && mayL (d - 1) ks)
def mayL : Nat → List E → Bool
  | _, [] => true
  | d, k :: ks => mayE d k && mayL d ks
end
def E.op : E → Int | .mk op _ _ _ => op
def E.n : E → Int | .mk _ n _ _ => n
def E.nm : E → ByteArray | .mk _ _ nm _ => nm
def E.ks : E → List E | .mk _ _ _ ks => ks
theorem mayL_drop {d : Nat} {ks : List E} {k : Nat} (h : k < ks.length) : mayL d (ks.drop k) = (mayE d ks[k] && mayL d (ks.drop (k + 1))) := by
  rw [List.drop_eq_getElem_cons h, mayL]
mutual
def depE : E → Nat
  | .mk _ _ _ ks => depL ks + 1
def depL : List E → Nat
  | [] => 0
  | k :: ks => max (depE k) (depL ks)
end
def arN (op : Int) : Int := if op = 1 ∨ op = 2 then 0 else opN op
mutual
def formE : E → Bool
  | .mk op n nm ks => decide (arN op = ks.length) && decide (op = 1 ∨ n = 0) && decide (0 ≤ n) && (decide (op = 2) == !decide (nm.size = 0)) && (decide (nm.size = 0) || isNm (bl nm)) && formL ks
def formL : List E → Bool
  | [] => true
  | k :: ks => formE k && formL ks
end
theorem formL_drop {ks : List E} {k : Nat} (h : k < ks.length) : formL (ks.drop k) = (formE ks[k] && formL (ks.drop (k + 1))) := by
  rw [List.drop_eq_getElem_cons h, formL]
theorem depL_drop {ks : List E} {k : Nat} (h : k < ks.length) : depL (ks.drop k) = max (depE ks[k]) (depL (ks.drop (k + 1))) := by
  rw [List.drop_eq_getElem_cons h, depL]
theorem depE_pos (e : E) : 1 ≤ depE e := by cases e; rw [depE]; omega
mutual
theorem mayE_eq : ∀ (e : E) (d : Nat), mayE d e = (decide (depE e ≤ d) && formE e)
  | .mk op n nm ks, d => by
    rw [mayE, depE, formE, mayL_eq ks (d - 1)]
    by_cases hd : 0 < d
    · have hdd : (depL ks + 1 ≤ d) = (depL ks ≤ d - 1) := by rw [eq_iff_iff]; omega
      simp only [hd, decide_true, Bool.true_and, hdd]
      by_cases h1 : op = 1
      · subst h1
        rw [if_pos rfl]
        by_cases hl : ks.length = 0
        · obtain rfl : ks = [] := List.eq_nil_of_length_eq_zero hl
          rw [Bool.eq_iff_iff]
          simp [depL, formL, arN]
          intros
          simp_all
        · have : ¬ ((0 : Int) = (ks.length : Int)) := by omega
          simp [hl, arN, this]
      · rw [if_neg h1]
        by_cases h2 : op = 2
        · subst h2
          rw [if_pos rfl]
          by_cases hl : ks.length = 0
          · obtain rfl : ks = [] := List.eq_nil_of_length_eq_zero hl
            rw [Bool.eq_iff_iff]
            simp [depL, formL, arN]
            constructor
            · rintro ⟨rfl, hn⟩
              have := nm_short hn
              refine ⟨⟨⟨rfl, by omega⟩, by rintro rfl; simp at this⟩, .inr hn⟩
            · rintro ⟨⟨⟨rfl, h⟩, h3⟩, h4⟩
              refine ⟨rfl, ?_⟩
              rcases h4 with h4 | h4
              · exact absurd h4 h3
              · exact h4
          · have : ¬ ((0 : Int) = (ks.length : Int)) := by omega
            simp [hl, arN, this]
        · rw [if_neg h2]
          have ha : arN op = opN op := by unfold arN; rw [if_neg (by omega)]
          rw [ha, Bool.eq_iff_iff]
          simp only [Bool.and_eq_true, decide_eq_true_eq, h1, h2, false_or, decide_false, beq_iff_eq, Bool.or_eq_true]
          constructor
          · rintro ⟨⟨⟨rfl, h4⟩, h5⟩, h6, h7⟩
            exact ⟨h6, ⟨⟨⟨⟨⟨h5.symm, rfl⟩, by omega⟩, by simp [h4]⟩, .inl h4⟩, h7⟩⟩
          · rintro ⟨h6, ⟨⟨⟨⟨⟨h5, rfl⟩, _⟩, h4⟩, _⟩, h7⟩⟩
            refine ⟨⟨⟨rfl, ?_⟩, h5.symm⟩, h6, h7⟩
            simpa using h4.symm
    · have hd0 : ¬ (depL ks + 1 ≤ d) := by omega
      simp [hd, hd0]
theorem mayL_eq : ∀ (ks : List E) (d : Nat), mayL d ks = (decide (depL ks ≤ d) && formL ks)
  | [], d => by simp [mayL, depL, formL]
  | k :: ks, d => by
    rw [mayL, depL, formL, mayE_eq k d, mayL_eq ks d]
    rw [Bool.eq_iff_iff]
    simp only [Bool.and_eq_true, decide_eq_true_eq]
    constructor
    · rintro ⟨⟨h1, h2⟩, h3, h4⟩
      exact ⟨by omega, h2, h4⟩
    · rintro ⟨h1, h2, h3⟩
      exact ⟨⟨by omega, h2⟩, by omega, h3⟩
end
theorem toList_nil {s : ByteArray} (h : s.size = 0) : s.toList = [] := by
  rw [bl_toList]; exact List.eq_nil_of_length_eq_zero (by rw [← size_bl]; exact h)
theorem toList_beq (s : ByteArray) : (s.toList == []) = decide (s.size = 0) := by
  rw [bl_toList, size_bl]
  cases bl s <;> simp
theorem toList_emp (s : ByteArray) : s.toList.isEmpty = decide (s.size = 0) := by
  rw [← toList_beq]; cases s.toList <;> rfl
theorem toList_bne (s : ByteArray) : (s.toList != []) = !decide (s.size = 0) := by
  rw [bne, toList_beq]
end Go.Proofs.Ytdjckmpfblaliaa
