/- Plain words for TreeTwo: of two that may be, one of two; its names. -/
import Derived.Test.YtdjckmpfblaliaaTreeExprW
namespace Go.Proofs.Ytdjckmpfblaliaa
set_option linter.unusedVariables false

theorem two_may {op : Int} {x y : E} (hx : mayE 20 x = true) (hy : mayE 20 y = true) : mayE 20 (.mk op 0 b0 [x, y]) = (decide (5 ≤ op) && decide (op ≤ 17) && decide (max (depE x) (depE y) + 1 ≤ 20)) := by
  rw [mayE_eq] at hx hy ⊢
  rw [Bool.and_eq_true, decide_eq_true_eq] at hx hy
  rw [depE, depL, depL, depL, formE, formL, formL, formL, hx.2, hy.2]
  have h1 : b0.size = 0 := rfl
  have h2 : decide (arN op = (([x, y] : List E).length : Int)) = (decide (5 ≤ op) && decide (op ≤ 17)) := by
    rw [Bool.eq_iff_iff]
    simp only [Bool.and_eq_true, decide_eq_true_eq, List.length_cons, List.length_nil]
    unfold arN opN
    split
    · omega
    · split
      · omega
      · split <;> omega
  rw [h2, h1]
  by_cases h5 : 5 ≤ op
  · have h3 : decide (op = 2) = false := by simp; omega
    have h4 : decide (op = 1 ∨ (0 : Int) = 0) = true := by simp
    rw [h3, h4, decide_eq_true h5]
    have h6 : max (depE x) (max (depE y) 0) + 1 = max (depE x) (depE y) + 1 := by omega
    rw [h6]
    simp [Bool.and_comm]
  · rw [decide_eq_false h5]
    simp
theorem spoke_mem {l : List ByteArray} {s t : ByteArray} : t ∈ spoke l s ↔ t ∈ l ∨ t = s := by
  unfold spoke
  split
  · rename_i h
    rw [hasB_iff] at h
    exact ⟨.inl, fun h' => h'.elim id (fun e => e ▸ h)⟩
  · simp
theorem spoke_in {l : List ByteArray} {s : ByteArray} (h : s ∈ l) : spoke l s = l := by
  unfold spoke
  rw [if_pos (hasB_iff.2 h)]
theorem spoke_out {l : List ByteArray} {s : ByteArray} (h : ¬ s ∈ l) : spoke l s = l ++ [s] := by
  unfold spoke
  rw [if_neg (fun h' => h (hasB_iff.1 h'))]
theorem fold_mem {ns : List ByteArray} : ∀ {l : List ByteArray} {t : ByteArray}, t ∈ ns.foldl spoke l ↔ t ∈ l ∨ t ∈ ns := by
  induction ns with
  | nil => intro l t; simp
  | cons s ns ih => intro l t; rw [List.foldl_cons, ih, spoke_mem, List.mem_cons, or_assoc]
theorem fold_spoke (acc : List ByteArray) (s : ByteArray) (l : List ByteArray) : (spoke acc s).foldl spoke l = spoke (acc.foldl spoke l) s := by
  by_cases h : s ∈ acc
  · rw [spoke_in h, spoke_in (fold_mem.2 (.inr h))]
  · rw [spoke_out h, List.foldl_append, List.foldl_cons, List.foldl_nil]
/-- names told once, told again into a list: as if each were told into it -/
theorem fold_acc : ∀ (ns acc l : List ByteArray), (ns.foldl spoke acc).foldl spoke l = ns.foldl spoke (acc.foldl spoke l)
  | [], acc, l => rfl
  | s :: ns, acc, l => by rw [List.foldl_cons, fold_acc ns, fold_spoke, List.foldl_cons]
theorem fold_fold (ns : List ByteArray) (l : List ByteArray) : (ns.foldl spoke []).foldl spoke l = ns.foldl spoke l := fold_acc ns [] l
def nmsE (e : E) : List ByteArray := ((preE e).filter fun x => decide (x.op = 2)).map E.nm
theorem step_fold : ∀ (L : List E) (l : List ByteArray), L.foldl stepN l = ((L.filter fun x => decide (x.op = 2)).map E.nm).foldl spoke l
  | [], l => rfl
  | x :: L, l => by
    rw [List.foldl_cons, step_fold L, stepN]
    by_cases h : x.op = 2
    · rw [if_pos h, List.filter_cons_of_pos (by simpa using h), List.map_cons, List.foldl_cons]
    · rw [if_neg h, List.filter_cons_of_neg (by simpa using h)]
theorem two_names {op : Int} {x y : E} (hx : mayE 20 x = true) (hy : mayE 20 y = true) (hb : mayE 20 (.mk op 0 b0 [x, y]) = true) : namesE (.mk op 0 b0 [x, y]) = (namesE y).foldl spoke (namesE x) := by
  have ho : ¬ op = 2 := by
    intro h
    rw [two_may hx hy, h] at hb
    simp at hb
  unfold namesE
  rw [if_pos hx, if_pos hy, if_pos hb, walkE_fold, walkE_fold, walkE_fold, preE, List.foldl_cons, stepN, if_neg (show ¬ E.op (.mk op 0 b0 [x, y]) = 2 from ho), preL, preL, preL, List.append_nil, List.foldl_append]
  rw [step_fold (preE y), step_fold (preE y), fold_fold]
theorem names_len (e : E) : (namesE e).length ≤ 2000000 := by
  unfold namesE
  split
  · rename_i h
    have := mayE_siz e 20 h
    have := walkE_len e []
    simp at this
    omega
  · simp
end Go.Proofs.Ytdjckmpfblaliaa
