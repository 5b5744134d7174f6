/- Plain facts on a program in which one statement is another one: when it is the same program. -/
import Derived.Test.YtobepaghdahcnaaTreeN16
namespace Go.Proofs.Ytobepaghdahcnaa
open Go.ChangeShapes Go.WideShapes Go.ChangeAt Go.RowKit Go.Deep
set_option linter.unusedVariables false

/-- the same but for the id and for what stands in it -/
def hd (t x : S) : Prop := t.kind = x.kind ∧ t.labels = x.labels ∧ t.nm = x.nm ∧ t.proc = x.proc ∧ t.x = x.x ∧ t.has = x.has ∧ t.args = x.args
mutual
theorem putS_iff (t : S) : ∀ s : S, putS t s = s ↔ ∀ x ∈ preS s, x.id = t.id → hd t x
  | .mk id kind labels nm proc x has args th el => by
    have h1 := putSL_iff t th
    have h2 := putSL_iff t el
    rw [preS]
    obtain ⟨tid, tkind, tlabels, tnm, tproc, tx, thas, targs, tth, tel⟩ := t
    rw [putS]
    simp only [List.forall_mem_cons, List.forall_mem_append]
    by_cases hc : id = tid
    · rw [if_pos hc, S.mk.injEq, h1, h2]
      constructor
      · rintro ⟨_, e2, e3, e4, e5, e6, e7, e8, e9, e10⟩
        exact ⟨fun _ => ⟨e2, e3, e4, e5, e6, e7, e8⟩, e9, e10⟩
      · rintro ⟨e, e9, e10⟩
        obtain ⟨e2, e3, e4, e5, e6, e7, e8⟩ := e hc
        exact ⟨hc.symm, e2, e3, e4, e5, e6, e7, e8, e9, e10⟩
    · rw [if_neg hc, S.mk.injEq, h1, h2]
      constructor
      · rintro ⟨_, _, _, _, _, _, _, _, e9, e10⟩
        exact ⟨fun e => absurd e hc, e9, e10⟩
      · rintro ⟨_, e9, e10⟩
        exact ⟨rfl, rfl, rfl, rfl, rfl, rfl, rfl, rfl, e9, e10⟩
theorem putSL_iff (t : S) : ∀ l : List S, putSL t l = l ↔ ∀ x ∈ preSL l, x.id = t.id → hd t x
  | [] => by rw [putSL, preSL]; simp
  | s :: l => by
    rw [putSL, preSL, List.cons.injEq, putS_iff t s, putSL_iff t l]
    simp only [List.forall_mem_append]
end
theorem putP_iff (t : S) (p : Pg) : putP t p = p ↔ ∀ q ∈ p.procs, ∀ x ∈ preSL q.body, x.id = t.id → hd t x := by
  have key : ∀ l : List Pr, l.map (putPr t) = l ↔ ∀ q ∈ l, ∀ x ∈ preSL q.body, x.id = t.id → hd t x := by
    intro l
    induction l with
    | nil => simp
    | cons q l ih =>
      rw [List.map_cons, List.cons.injEq, ih]
      simp only [List.forall_mem_cons]
      refine and_congr ?_ Iff.rfl
      rw [← putSL_iff]
      obtain ⟨a, b, c, d, e⟩ := q
      unfold putPr
      simp
  obtain ⟨g, ps⟩ := p
  unfold putP
  simp only [Pg.mk.injEq, true_and]
  exact key ps
/-- of a program that may be, each statement is found by its id -/
theorem prOk_find : ∀ (l : List Pr) (c c' : Nat), prOk l c = some c' → ∀ q ∈ l, ∀ x ∈ preSL q.body, (findL l x.id).2 = (x, true)
  | [], c, c', h => fun q hq => by simp at hq
  | q :: l, c, c', h => by
    rw [prOk] at h
    split at h
    · cases h1 : blkOk q.body 1 c with
      | none => rw [h1] at h; simp at h
      | some c1 =>
        rw [h1] at h
        simp only [Option.bind_some] at h
        obtain ⟨a1, a2, a3⟩ := flatL_pre q.body 1 c c1 h1
        intro y hy x hx
        rw [findL]
        rcases List.mem_cons.1 hy with rfl | hy
        · obtain ⟨j, hj, rfl⟩ := List.getElem_of_mem hx
          have hf : (preSL y.body).find? (fun s => s.id == (preSL y.body)[j].id) = some (preSL y.body)[j] := by
            rw [List.find?_eq_some_iff_getElem]
            refine ⟨by simp, j, hj, rfl, fun i hi => ?_⟩
            rw [a2 j hj, a2 i (by omega)]
            simp
            omega
          rw [hf]
          rfl
        · have hid := (prOk_ids l c1 c' h).2 y hy x hx
          have hf : (preSL q.body).find? (fun s => s.id == x.id) = none := by
            rw [List.find?_eq_none]
            intro z hz
            obtain ⟨j, hj, rfl⟩ := List.getElem_of_mem hz
            rw [a2 j hj]
            simp
            omega
          rw [hf]
          exact prOk_find l c1 c' h y hy x hx
    · cases h
theorem findL_mem : ∀ (l : List Pr) (id : Int) (n : ByteArray) (s : S), findL l id = (n, s, true) → ∃ q ∈ l, s ∈ preSL q.body ∧ s.id = id
  | [], id, n, s, h => by rw [findL] at h; simp at h
  | q :: l, id, n, s, h => by
    rw [findL] at h
    cases hf : (preSL q.body).find? (fun s => s.id == id) with
    | none =>
      rw [hf] at h
      obtain ⟨y, hy, h2⟩ := findL_mem l id n s h
      exact ⟨y, List.mem_cons_of_mem _ hy, h2⟩
    | some z =>
      rw [hf] at h
      simp only [Option.elim_some, Prod.mk.injEq, and_true] at h
      obtain ⟨_, rfl⟩ := h
      have := List.find?_some hf
      exact ⟨q, List.mem_cons_self .., List.mem_of_find?_eq_some hf, by simpa using this⟩
theorem turned_eq {p : Pg} {t s : S} {n : ByteArray} {id : Int} (hm : mayP p = true) (hf : findP p id = (n, s, true)) (ht : t.id = id) : eqB p (putP t p) = true ↔ hd t s := by
  rw [eqB_iff, eq_comm, putP_iff]
  unfold mayP at hm
  rw [Bool.and_eq_true] at hm
  obtain ⟨_, hm⟩ := hm
  obtain ⟨q, hq, hs, hid⟩ := findL_mem _ _ _ _ hf
  constructor
  · intro h
    exact h q hq s hs (hid.trans ht.symm)
  · intro h y hy x hx hxi
    cases hp : prOk p.procs 0 with
    | none => rw [hp] at hm; cases hm
    | some c' =>
      have := prOk_find p.procs 0 c' hp y hy x hx
      rw [hxi, ht] at this
      unfold findP at hf
      rw [hf] at this
      simp only [Prod.mk.injEq, and_true] at this
      rw [← this]
      exact h
end Go.Proofs.Ytobepaghdahcnaa
