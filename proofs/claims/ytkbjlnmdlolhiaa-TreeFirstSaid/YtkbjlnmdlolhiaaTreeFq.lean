/- The first statement of a program, and rows whose ids are alike: plain facts, for TreeFirst. -/
import Derived.Test.YtkbjlnmdlolhiaaTreeMd
import Derived.Test.YtkbjlnmdlolhiaaTreeMq
namespace Go.Proofs.Ytkbjlnmdlolhiaa
open Go.ChangeShapes Go.WideShapes Go.ChangeAt Go.RowKit Go.Deep
set_option linter.unusedVariables false

def firstOf : List Pr → Option (ByteArray × S)
  | [] => none
  | q :: l => q.body.head?.elim (firstOf l) (fun s => some (q.nm, s))
def nmOf (l : List Pr) : ByteArray := (firstOf l).elim ⟨#[]⟩ (fun r => r.1)
theorem firstOf_drop {l : List Pr} {k : Nat} (h : k < l.length) : firstOf (l.drop k) = l[k].body.head?.elim (firstOf (l.drop (k + 1))) (fun s => some (l[k].nm, s)) := by rw [List.drop_eq_getElem_cons h, firstOf]
theorem nmOf_drop {l : List Pr} {k : Nat} (h : k < l.length) : nmOf (l.drop k) = if l[k].body.length = 0 then nmOf (l.drop (k + 1)) else l[k].nm := by
  unfold nmOf
  rw [firstOf_drop h]
  cases l[k].body with
  | nil => rfl
  | cons s t => rfl
theorem find_same (v : Int) : ∀ l : List Pr, (∀ q ∈ l, ∀ x ∈ preSL q.body, x.id = v) → findL l v = (firstOf l).elim (⟨#[]⟩, S0, false) (fun r => (r.1, r.2, true))
  | [], _ => by rw [findL, firstOf]; rfl
  | q :: l, h => by
    rw [findL, firstOf, find_same v l (fun q' hq => h q' (List.mem_cons_of_mem _ hq))]
    have h1 := h q (List.mem_cons_self ..)
    cases hb : q.body with
    | nil => rw [preSL]; rfl
    | cons s t =>
      rw [hb, preSL_cons] at h1
      rw [preSL_cons, List.find?_cons, h1 s (List.mem_cons_self ..)]
      simp
theorem find_other (v id : Int) (hne : id ≠ v) : ∀ l : List Pr, (∀ q ∈ l, ∀ x ∈ preSL q.body, x.id = v) → findL l id = (⟨#[]⟩, S0, false)
  | [], _ => by rw [findL]
  | q :: l, h => by
    rw [findL, find_other v id hne l (fun q' hq => h q' (List.mem_cons_of_mem _ hq))]
    have h1 := h q (List.mem_cons_self ..)
    have : (preSL q.body).find? (fun s => s.id == id) = none := by
      rw [List.find?_eq_none]
      intro x hx
      rw [h1 x hx]
      simp
      exact fun e => hne e.symm
    rw [this]
    rfl
theorem all_first {n : ByteArray} {s : S} : ∀ l : List Pr, firstOf l = some (n, s) → ∃ d i e xs, allL l [] = ⟨s, d, i, e⟩ :: xs
  | [], h => by rw [firstOf] at h; cases h
  | q :: l, h => by
    rw [firstOf] at h
    rw [allL, List.nil_append]
    cases hb : q.body with
    | nil =>
      rw [hb] at h
      have hf : flatOf q = [] := by unfold flatOf; rw [hb, flatL]
      rw [hf, if_neg (by simp)]
      exact all_first l h
    | cons s' t =>
      rw [hb] at h
      simp only [List.head?_cons, Option.elim_some, Option.some.injEq, Prod.mk.injEq] at h
      obtain ⟨rfl, rfl⟩ := h
      obtain ⟨xs, h1⟩ := flatS_more s' 1 0 false []
      obtain ⟨ys, h2⟩ := flatL_more t 1 0 false ([] ++ ⟨s', ((1 : Nat) : Int), 0, false⟩ :: xs)
      have hf : flatOf q = ⟨s', ((1 : Nat) : Int), 0, false⟩ :: (xs ++ ys) := by
        unfold flatOf
        rw [hb, flatL, if_pos (by simp), h1, h2]
        simp
      split
      · exact ⟨_, _, _, _, hf⟩
      · obtain ⟨zs, h3⟩ := allL_more l (flatOf q)
        rw [h3, hf]
        exact ⟨_, _, _, _, rfl⟩
theorem cnt_first : ∀ l : List Pr, 0 < cntL l → ∃ n s, firstOf l = some (n, s)
  | [], h => by rw [cntL] at h; omega
  | q :: l, h => by
    rw [cntL] at h
    rw [firstOf]
    cases hb : q.body with
    | nil =>
      rw [hb, preSL] at h
      exact cnt_first l (by simpa using h)
    | cons s t => exact ⟨_, _, rfl⟩
mutual
theorem marS_pre (m : Int) : ∀ s : S, ∀ x ∈ preS (marS 0 m s), x.id = m
  | .mk id kind labels nm proc x has args th el, y, hy => by
    rw [marS, preS] at hy
    rcases List.mem_cons.1 hy with rfl | hy
    · show id * 0 + m = m; omega
    · rcases List.mem_append.1 hy with hy | hy
      · exact marSL_pre m th y hy
      · exact marSL_pre m el y hy
theorem marSL_pre (m : Int) : ∀ l : List S, ∀ x ∈ preSL (marSL 0 m l), x.id = m
  | [], y, hy => by rw [marSL, preSL] at hy; cases hy
  | s :: l, y, hy => by
    rw [marSL, preSL] at hy
    rcases List.mem_append.1 hy with hy | hy
    · exact marS_pre m s y hy
    · exact marSL_pre m l y hy
end
mutual
theorem wS_mar (b m : Int) : ∀ s : S, wS (marS b m s) = wS s ∧ (preS (marS b m s)).length = (preS s).length
  | .mk id kind labels nm proc x has args th el => by
    obtain ⟨a1, a2⟩ := wSL_mar b m th
    obtain ⟨b1, b2⟩ := wSL_mar b m el
    rw [marS, wS, wS, preS, preS, a1, b1]
    exact ⟨rfl, by simp only [List.length_cons, List.length_append]; omega⟩
theorem wSL_mar (b m : Int) : ∀ l : List S, wSL (marSL b m l) = wSL l ∧ (preSL (marSL b m l)).length = (preSL l).length
  | [] => by rw [marSL]; exact ⟨rfl, rfl⟩
  | s :: l => by
    obtain ⟨a1, a2⟩ := wS_mar b m s
    obtain ⟨b1, b2⟩ := wSL_mar b m l
    rw [marSL, wSL, wSL, preSL, preSL, a1, b1]
    exact ⟨rfl, by simp only [List.length_append]; omega⟩
end
theorem cntL_mar (b m : Int) : ∀ l : List Pr, cntL (l.map (marPr b m)) = cntL l
  | [] => rfl
  | q :: l => by
    rw [List.map_cons, cntL, cntL, cntL_mar b m l]
    have := (wSL_mar b m q.body).2
    show (preSL (marSL b m q.body)).length + _ = _
    omega
theorem smQ_mar {p : Pg} (b m : Int) (h : smQ p.procs) : smQ (marP b m p).procs := by
  intro q hq
  obtain ⟨q', hq', rfl⟩ := List.mem_map.1 hq
  have := h q' hq'
  exact ⟨by show wSL (marSL b m q'.body) ≤ 1000000; rw [(wSL_mar b m q'.body).1]; exact this.1, this.2⟩
/-- of a program with statements whose ids are all alike -/
theorem first_facts {p : Pg} (h : 0 < cntP p) (m : Int) : ∃ n s d i e xs, findP (marP 0 m p) m = (n, s, true) ∧ allOf (marP 0 m p) = ⟨s, d, i, e⟩ :: xs ∧ nmOf (marP 0 m p).procs = n ∧ ∀ id : Int, id ≠ m → findP (marP 0 m p) id = (⟨#[]⟩, S0, false) := by
  have hids : ∀ q ∈ (marP 0 m p).procs, ∀ x ∈ preSL q.body, x.id = m := fun q hq x hx => by
    obtain ⟨q', _, rfl⟩ := List.mem_map.1 hq
    exact marSL_pre m q'.body x hx
  obtain ⟨n, s, h1⟩ := cnt_first (marP 0 m p).procs (by show 0 < cntL (p.procs.map (marPr 0 m)); rw [cntL_mar]; exact h)
  obtain ⟨d, i, e, xs, h2⟩ := all_first _ h1
  refine ⟨n, s, d, i, e, xs, ?_, h2, by unfold nmOf; rw [h1]; rfl, fun id hne => find_other m id hne _ hids⟩
  unfold findP
  rw [find_same m _ hids, h1]
  rfl
end Go.Proofs.Ytkbjlnmdlolhiaa
