/- Texts, merged by a program; only what is used. -/
import Derived.Test.YtehpinnmalpgpaaK1
import Derived.Test.YtehpinnmalpgpaaK2
import Derived.Test.YtehpinnmalpgpaaK3
import Derived.Test.YtehpinnmalpgpaaK4
import Derived.Test.YtehpinnmalpgpaaK5
import Derived.Test.YtehpinnmalpgpaaK6
import Derived.Test.YtehpinnmalpgpaaK7
import Derived.Test.YtehpinnmalpgpaaK8
import Derived.Test.YtehpinnmalpgpaaK9
import Derived.Test.YtehpinnmalpgpaaK10
import Derived.Test.YtehpinnmalpgpaaK11
import Derived.Test.YtehpinnmalpgpaaK12
import Derived.Test.YtehpinnmalpgpaaK13
import Derived.Test.YtehpinnmalpgpaaK14
import Derived.Test.YtehpinnmalpgpaaK15
import Derived.Test.YtehpinnmalpgpaaK16
import Derived.Test.YtehpinnmalpgpaaK17
import Derived.Test.YtehpinnmalpgpaaK21
import Derived.Test.YtehpinnmalpgpaaK22
namespace Go.Proofs.Ytehpinnmalpgpaa
open Go.ChangeShapes Go.WideShapes Go.ChangeAt Go.RowKit Go.Deep
set_option linter.unusedVariables false
set_option linter.unusedSimpArgs false
mutual
/-- the items of a statement, each with the loop around it -/
def itS : S → Nat → Int → Bool → Int → List (It × Int)
 | .mk id kind labels nm proc x has args th el, d, i, e, lp => (⟨.mk id kind labels nm proc x has args th el, d, i, e⟩, lp) :: (itL th (d + 1) id false (if kind = 6 then id else lp) ++ itL el (d + 1) id true (if kind = 6 then id else lp))
def itL : List S → Nat → Int → Bool → Int → List (It × Int)
 | [], _, _, _, _ => []
 | s :: l, d, i, e, lp => itS s d i e lp ++ itL l d i e lp
end
def sndI (x : It × Int) : S × Int := (x.1.s, x.2)
mutual
theorem itS_lp : ∀ (s : S) (d : Nat) (i : Int) (e : Bool) (lp : Int), (itS s d i e lp).map sndI = lpS s lp
 | .mk id kind labels nm proc x has args th el, d, i, e, lp => by
  rw [itS, lpS, List.map_cons, List.map_append, itL_lp th, itL_lp el]
  rfl
theorem itL_lp : ∀ (l : List S) (d : Nat) (i : Int) (e : Bool) (lp : Int), (itL l d i e lp).map sndI = lpSL l lp
 | [], d, i, e, lp => by rw [itL, lpSL]; rfl
 | s :: l, d, i, e, lp => by rw [itL, lpSL, List.map_append, itS_lp s, itL_lp l]
end
theorem itL_len (l : List S) (d : Nat) (i : Int) (e : Bool) (lp : Int) : (itL l d i e lp).length = (preSL l).length := by
 rw [← lpSL_fst l lp, ← itL_lp l d i e lp, List.length_map, List.length_map]
theorem itS_len (s : S) (d : Nat) (i : Int) (e : Bool) (lp : Int) : (itS s d i e lp).length = (preS s).length := by
 rw [← lpS_fst s lp, ← itS_lp s d i e lp, List.length_map, List.length_map]
mutual
theorem itL_flat : ∀ (l : List S) (d c c' : Nat), blkOk l d c = some c' → ∀ (i : Int) (e : Bool) (lp : Int) (out : List It), out.length + (preSL l).length ≤ 200 → flatL l d i e out = out ++ (itL l d i e lp).map Prod.fst
 | [], d, c, c', h, i, e, lp, out, ho => by rw [flatL, itL, List.map_nil, List.append_nil]
 | s :: l, d, c, c', h, i, e, lp, out, ho => by
  rw [blkOk] at h
  cases h1 : oneOk s d c with
  | none => rw [h1] at h; simp at h
  | some c1 =>
   rw [h1] at h
   simp only [Option.bind_some] at h
   rw [preSL, List.length_append] at ho
   have hl1 : 1 ≤ (preS s).length := by rw [preS_eq]; simp
   rw [flatL, if_pos (by omega), itS_flat s d c c1 h1 i e lp out (by omega), itL_flat l d c1 c' h i e lp _ (by rw [List.length_append, List.length_map, itS_len]; omega), itL, List.map_append, List.append_assoc]
theorem itS_flat : ∀ (s : S) (d c c' : Nat), oneOk s d c = some c' → ∀ (i : Int) (e : Bool) (lp : Int) (out : List It), out.length + (preS s).length ≤ 200 → flatS s d i e out = out ++ (itS s d i e lp).map Prod.fst
 | .mk id kind labels nm proc x has args th el, d, c, c', h, i, e, lp, out, ho => by
  rw [oneOk] at h
  split at h
  ·rename_i hc
   obtain ⟨h12, _, hid, _⟩ := hc
   cases h1 : blkOk th (d + 1) (c + 1) with
   | none => rw [h1] at h; simp at h
   | some c1 =>
    rw [h1] at h
    simp only [Option.bind_some] at h
    rw [preS, List.length_cons, List.length_append] at ho
    rw [flatS, if_pos h12, itL_flat th (d + 1) (c + 1) c1 h1 id false (if kind = 6 then id else lp) _ (by rw [List.length_append, List.length_cons, List.length_nil]; omega), itL_flat el (d + 1) c1 c' h id true (if kind = 6 then id else lp) _ (by rw [List.length_append, List.length_append, List.length_cons, List.length_nil, List.length_map, itL_len]; omega), itS, List.map_cons, List.map_append]
    simp only [List.append_assoc, List.cons_append, List.nil_append]
  ·cases h
end
/-- what an item stands in: nothing that is among these, or one of these ahead of it; its loop by that -/
def ParO (i lp : Int) (L : List (It × Int)) (x : It × Int) : Prop := (x.1.inn = i ∧ x.2 = lp) ∨ ∃ y ∈ L, y.1.s.id < x.1.s.id ∧ x.1.inn = y.1.s.id ∧ x.2 = if y.1.s.kind = 6 then y.1.s.id else y.2
theorem ParO.mono {i lp : Int} {L M : List (It × Int)} {x : It × Int} (h : ParO i lp L x) (hm : ∀ y ∈ L, y ∈ M) : ParO i lp M x := by
 rcases h with h | ⟨y, hy, h⟩
 ·exact .inl h
 ·exact .inr ⟨y, hm y hy, h⟩
mutual
theorem itL_par : ∀ (l : List S) (d c c' : Nat), blkOk l d c = some c' → ∀ (i : Int) (e : Bool) (lp : Int), c ≤ c' ∧ ∀ x ∈ itL l d i e lp, (c : Int) < x.1.s.id ∧ ParO i lp (itL l d i e lp) x
 | [], d, c, c', h, i, e, lp => by
  rw [blkOk] at h
  injection h with h
  exact ⟨by omega, fun x hx => by rw [itL] at hx; cases hx⟩
 | s :: l, d, c, c', h, i, e, lp => by
  rw [blkOk] at h
  cases h1 : oneOk s d c with
  | none => rw [h1] at h; simp at h
  | some c1 =>
   rw [h1] at h
   simp only [Option.bind_some] at h
   obtain ⟨a1, a2⟩ := itS_par s d c c1 h1 i e lp
   obtain ⟨b1, b2⟩ := itL_par l d c1 c' h i e lp
   refine ⟨by omega, fun x hx => ?_⟩
   rw [itL] at hx ⊢
   rcases List.mem_append.1 hx with hx | hx
   ·obtain ⟨h3, h4⟩ := a2 x hx
    exact ⟨h3, h4.mono fun y hy => List.mem_append_left _ hy⟩
   ·obtain ⟨h3, h4⟩ := b2 x hx
    exact ⟨by omega, h4.mono fun y hy => List.mem_append_right _ hy⟩
theorem itS_par : ∀ (s : S) (d c c' : Nat), oneOk s d c = some c' → ∀ (i : Int) (e : Bool) (lp : Int), c ≤ c' ∧ ∀ x ∈ itS s d i e lp, (c : Int) < x.1.s.id ∧ ParO i lp (itS s d i e lp) x
 | .mk id kind labels nm proc x has args th el, d, c, c', h, i, e, lp => by
  rw [oneOk] at h
  split at h
  ·rename_i hc
   obtain ⟨h12, _, hid, _⟩ := hc
   cases h1 : blkOk th (d + 1) (c + 1) with
   | none => rw [h1] at h; simp at h
   | some c1 =>
    rw [h1] at h
    simp only [Option.bind_some] at h
    obtain ⟨a1, a2⟩ := itL_par th (d + 1) (c + 1) c1 h1 id false (if kind = 6 then id else lp)
    obtain ⟨b1, b2⟩ := itL_par el (d + 1) c1 c' h id true (if kind = 6 then id else lp)
    have key : ∀ (L : List (It × Int)) (k : It × Int), (∀ y ∈ L, y ∈ itS (.mk id kind labels nm proc x has args th el) d i e lp) → ((c + 1 : Nat) : Int) < k.1.s.id → ParO id (if kind = 6 then id else lp) L k → ParO i lp (itS (.mk id kind labels nm proc x has args th el) d i e lp) k := by
     intro L k hL hlt hp
     rcases hp with ⟨h3, h4⟩ | ⟨y, hy, h4⟩
     ·exact .inr ⟨(⟨.mk id kind labels nm proc x has args th el, d, i, e⟩, lp), by rw [itS]; exact List.mem_cons_self .., by show id < _; omega, h3, h4⟩
     ·exact .inr ⟨y, hL y hy, h4⟩
    refine ⟨by omega, fun k hk => ?_⟩
    have hk' := hk
    rw [itS] at hk
    rcases List.mem_cons.1 hk with rfl | hk
    ·exact ⟨by show (c : Int) < id; omega, .inl ⟨rfl, rfl⟩⟩
    ·rcases List.mem_append.1 hk with hk | hk
     ·obtain ⟨h3, h4⟩ := a2 k hk
      exact ⟨by omega, key _ k (fun y hy => by rw [itS]; exact List.mem_cons_of_mem _ (List.mem_append_left _ hy)) h3 h4⟩
     ·obtain ⟨h3, h4⟩ := b2 k hk
      exact ⟨by omega, key _ k (fun y hy => by rw [itS]; exact List.mem_cons_of_mem _ (List.mem_append_right _ hy)) (by omega) h4⟩
  ·cases h
end
def itQ (q : Pr) : List (It × Int) := itL q.body 1 0 false 0
/-- the innermost loop around the statement of an id -/
def lpL : List Pr → Int → Int × Bool
 | [], _ => (0, false)
 | q :: l, id => ((lpSL q.body 0).find? (fun x => x.1.id == id)).elim (lpL l id) (fun x => (x.2, x.2 != 0))
theorem lpL_drop {l : List Pr} {k : Nat} (h : k < l.length) (id : Int) : lpL (l.drop k) id = ((lpSL l[k].body 0).find? (fun x => x.1.id == id)).elim (lpL (l.drop (k + 1)) id) (fun x => (x.2, x.2 != 0)) := by rw [List.drop_eq_getElem_cons h, lpL]
def jLoop (p : Pg) (id : Int) : Int × Bool := if chkOK p = true then lpL p.procs id else (0, false)
theorem find_pos {α : Type} {f : α → Int} : ∀ {L : List α} {c : Nat}, (∀ j (h : j < L.length), f L[j] = ((c + 1 + j : Nat) : Int)) → ∀ x ∈ L, L.find? (fun y => f y == f x) = some x := by
 intro L c h x hx
 obtain ⟨j, hj, rfl⟩ := List.getElem_of_mem hx
 rw [List.find?_eq_some_iff_getElem]
 refine ⟨by simp, j, hj, rfl, fun i hi => ?_⟩
 rw [h j hj, h i (by omega)]
 simp
 omega
theorem prOk_it : ∀ (l : List Pr) (c c' : Nat), prOk l c = some c' → c ≤ 200 → ∀ q ∈ l, flatOf q = (itQ q).map Prod.fst ∧ ∀ x ∈ itQ q, (rfL l x.1.s.id = some (x.1, q.nm) ∧ lpL l x.1.s.id = (x.2, x.2 != 0)) ∧ 0 < x.1.s.id ∧ ParO 0 0 (itQ q) x
 | [], c, c', h, _ => fun q hq => by cases hq
 | q :: l, c, c', h, h200 => by
  rw [prOk] at h
  split at h
  ·cases h1 : blkOk q.body 1 c with
   | none => rw [h1] at h; simp at h
   | some c1 =>
    rw [h1] at h
    simp only [Option.bind_some] at h
    obtain ⟨a1, a2, a3⟩ := flatL_pre q.body 1 c c1 h1
    have hc1 := blkOk_le q.body 1 c c1 h200 h1
    have hfl : flatOf q = (itQ q).map Prod.fst := by
     have := itL_flat q.body 1 c c1 h1 0 false 0 [] (by simp; omega)
     rw [List.nil_append] at this
     exact this
    have hmap : (itQ q).map (fun x => x.1.s) = preSL q.body := by
     have h3 := itL_lp q.body 1 0 false 0
     rw [← lpSL_fst q.body 0, ← h3, List.map_map]
     rfl
    have hids : ∀ j (hj : j < (itQ q).length), (itQ q)[j].1.s.id = ((c + 1 + j : Nat) : Int) := by
     intro j hj
     have hj2 : j < (preSL q.body).length := by rw [← hmap, List.length_map]; exact hj
     rw [← a2 j hj2]
     simp only [← hmap, List.getElem_map]
    have hpar := (itL_par q.body 1 c c1 h1 0 false 0).2
    intro y hy
    rcases List.mem_cons.1 hy with rfl | hy
    ·refine ⟨hfl, fun x hx => ⟨⟨?_, ?_⟩, by have := (hpar x hx).1; omega, (hpar x hx).2⟩⟩
     ·rw [rfL, hfl, List.find?_map, show ((fun z : It => z.s.id == x.1.s.id) ∘ Prod.fst) = (fun z : It × Int => z.1.s.id == x.1.s.id) from rfl, find_pos (f := fun z : It × Int => z.1.s.id) hids x hx]
      rfl
     ·rw [lpL, ← itL_lp y.body 1 0 false 0, show itL y.body 1 0 false 0 = itQ y from rfl, List.find?_map, show ((fun z : S × Int => z.1.id == x.1.s.id) ∘ sndI) = (fun z : It × Int => z.1.s.id == x.1.s.id) from rfl, find_pos (f := fun z : It × Int => z.1.s.id) hids x hx]
      rfl
    ·obtain ⟨b1, b2⟩ := prOk_it l c1 c' h hc1 y hy
     refine ⟨b1, fun x hx => ?_⟩
     obtain ⟨⟨b3, b4⟩, b5⟩ := b2 x hx
     have hsm : x.1.s ∈ preSL y.body := by
      have h3 := itL_lp y.body 1 0 false 0
      rw [← lpSL_fst y.body 0, ← h3, List.map_map]
      exact List.mem_map_of_mem (f := Prod.fst ∘ sndI) hx
     have hgt := ((prOk_ids l c1 c' h).2 y hy _ hsm).1
     have hno : ∀ z ∈ itQ q, ¬ ((z.1.s.id == x.1.s.id) = true) := by
      intro z hz
      obtain ⟨j, hj, rfl⟩ := List.getElem_of_mem hz
      rw [hids j hj]
      have : j < (preSL q.body).length := by rw [← hmap, List.length_map]; exact hj
      simp
      omega
     refine ⟨⟨?_, ?_⟩, b5⟩
     ·rw [rfL, hfl, List.find?_map, show ((fun z : It => z.s.id == x.1.s.id) ∘ Prod.fst) = (fun z : It × Int => z.1.s.id == x.1.s.id) from rfl, List.find?_eq_none.2 hno]
      exact b3
     ·rw [lpL, ← itL_lp q.body 1 0 false 0, show itL q.body 1 0 false 0 = itQ q from rfl, List.find?_map, show ((fun z : S × Int => z.1.id == x.1.s.id) ∘ sndI) = (fun z : It × Int => z.1.s.id == x.1.s.id) from rfl, List.find?_eq_none.2 hno]
      exact b4
  ·cases h
theorem may_it {p : Pg} (h : mayP p = true) {q : Pr} (hq : q ∈ p.procs) : flatOf q = (itQ q).map Prod.fst ∧ ∀ x ∈ itQ q, (rfL p.procs x.1.s.id = some (x.1, q.nm) ∧ lpL p.procs x.1.s.id = (x.2, x.2 != 0)) ∧ 0 < x.1.s.id ∧ ParO 0 0 (itQ q) x := by
 unfold mayP at h
 rw [Bool.and_eq_true] at h
 cases h3 : prOk p.procs 0 with
 | none => rw [h3] at h; cases h.2
 | some c => exact prOk_it p.procs 0 c h3 (by omega) q hq
theorem lpL_none : ∀ (l : List Pr) (id : Int), (∀ q ∈ l, ∀ s ∈ preSL q.body, s.id ≠ id) → lpL l id = (0, false)
 | [], id, _ => rfl
 | q :: l, id, h => by
  have hno : (lpSL q.body 0).find? (fun x => x.1.id == id) = none := by
   rw [List.find?_eq_none]
   intro z hz
   have : z.1 ∈ preSL q.body := by rw [← lpSL_fst q.body 0]; exact List.mem_map_of_mem hz
   have := h q (List.mem_cons_self ..) _ this
   simpa using this
  rw [lpL, hno]
  exact lpL_none l id (fun q hq => h q (List.mem_cons_of_mem _ hq))
theorem rfL_none : ∀ (l : List Pr) (id : Int), (∀ q ∈ l, (flatOf q).map It.s = preSL q.body) → (∀ q ∈ l, ∀ s ∈ preSL q.body, s.id ≠ id) → rfL l id = none
 | [], id, _, _ => rfl
 | q :: l, id, hm, h => by
  have hno : (flatOf q).find? (fun x => x.s.id == id) = none := by
   rw [List.find?_eq_none]
   intro z hz
   have : z.s ∈ preSL q.body := by rw [← hm q (List.mem_cons_self ..)]; exact List.mem_map_of_mem hz
   have := h q (List.mem_cons_self ..) _ this
   simpa using this
  rw [rfL, hno]
  exact rfL_none l id (fun q hq => hm q (List.mem_cons_of_mem _ hq)) (fun q hq => h q (List.mem_cons_of_mem _ hq))
/-- what stands around an item: the walk outward by ids -/
theorem loop_step {p : Pg} (hm : mayP p = true) {q : Pr} (hq : q ∈ p.procs) {x : It × Int} (hx : x ∈ itQ q) : (x.1.inn = 0 ∧ x.2 = 0) ∨ ∃ y ∈ itQ q, 0 < y.1.s.id ∧ y.1.s.id < x.1.s.id ∧ x.1.inn = y.1.s.id ∧ rfL p.procs x.1.inn = some (y.1, q.nm) ∧ x.2 = if y.1.s.kind = 6 then y.1.s.id else y.2 := by
 obtain ⟨_, h2⟩ := may_it hm hq
 rcases (h2 x hx).2.2 with h | ⟨y, hy, h3, h4, h5⟩
 ·exact .inl h
 ·exact .inr ⟨y, hy, (h2 y hy).2.1, h3, h4, by rw [h4]; exact (h2 y hy).1.1, h5⟩
end Go.Proofs.Ytehpinnmalpgpaa
namespace Go.Proofs.Ytehpinnmalpgpaa
open Go.ChangeShapes Go.WideShapes Go.ChangeAt Go.RowKit Go.Deep Go.Shelf
set_option linter.unusedVariables false
set_option linter.unusedSimpArgs false
attribute [local go_sem] Oper.semAt_some
/-- the marks of loops that are over -/
def markD (ds : List Nat) : List Deferred := ds.map fun D => { target := .collected D, args := #[] }
def Marks (n0 : Nat) (ds : List Nat) (W : World) : Prop := ds.Nodup ∧ ∀ D ∈ ds, n0 ≤ D ∧ W.heap[D]? = some (.deferred (some []))
theorem Marks.nil (n0 : Nat) (W : World) : Marks n0 [] W := ⟨List.nodup_nil, fun D hD => by cases hD⟩
theorem Marks.lt {n0 : Nat} {ds : List Nat} {W : World} (h : Marks n0 ds W) : ∀ D ∈ ds, D < W.heap.size := fun D hD => (Array.getElem?_eq_some_iff.1 (h.2 D hD).2).1
theorem Marks.kept {n0 : Nat} {ds : List Nat} {W W' : World} (h : Marks n0 ds W) (hk : ∀ D, n0 ≤ D → D < W.heap.size → W'.heap[D]? = W.heap[D]?) : Marks n0 ds W' := ⟨h.1, fun D hD => ⟨(h.2 D hD).1, (hk D (h.2 D hD).1 (h.lt D hD)).trans (h.2 D hD).2⟩⟩
theorem Marks.cons {n0 D : Nat} {ds : List Nat} {W : World} (h : Marks n0 ds W) (h1 : n0 ≤ D) (h2 : W.heap[D]? = some (.deferred (some []))) (h3 : D ∉ ds) : Marks n0 (D :: ds) W := ⟨List.nodup_cons.2 ⟨h3, h.1⟩, fun x hx => by
 rcases List.mem_cons.1 hx with rfl | hx
 ·exact ⟨h1, h2⟩
 ·exact h.2 x hx⟩
theorem marks_leave {F : Fence} {n n0 : Nat} {P : Program} {fn : Func} {tmps : Array Value} {R : Ending → World → Prop} : ∀ (ds : List Nat) (W : World), Marks n0 ds W → (∀ W', Below n0 W W' → (∀ (a : Addr) v, W.cell? a = some v → W'.cell? a = some v) → ∃ v, (results fn tmps).run P W' = .ok v W' ∧ R (.returned v) W') → LeavesInM F n P fn tmps R (markD ds) .returning W
 | [], W, _, h => h W (Below.refl _ _) (fun _ _ h => h)
 | D :: ds, W, hm, h => by
  have hD := (hm.2 D (List.mem_cons_self ..)).2
  have hn := (hm.2 D (List.mem_cons_self ..)).1
  have hB : Below n0 W (W.putObj D (.deferred none)) := (Below.refl n0 W).grown (grownBy_putObj' W D _) (by have := hm.lt D (List.mem_cons_self ..); omega) (fun k e => by cases e; omega)
  refine ⟨by simp, .inl ⟨_, _, rfl, run_takeDeferred hD, marks_leave ds _ ⟨(List.nodup_cons.1 hm.1).2, fun x hx => ⟨(hm.2 x (List.mem_cons_of_mem _ hx)).1, ?_⟩⟩ fun W' hb hc => h W' (hB.trans hb) fun a v ha => hc a v ?_⟩⟩
  ·have hne : x ≠ D := fun e => (List.nodup_cons.1 hm.1).1 (e ▸ hx)
   exact (World.putObj_heap_other (fun e' => hne (by first | exact e' | exact e'.symm))).trans (hm.2 x (List.mem_cons_of_mem _ hx)).2
  ·exact cell_kept ha (grownBy_putObj' _ D (.deferred none)) (fun r e => by cases e; exact ⟨_, hD, rfl⟩)
theorem find_stopI {w : World} {Q : Nat → Prop} {id0 : Int} {L : List S} {ys : List (YE w Q)} {x : YE w Q} (h : (ys ++ [x]).map valY <+: lpSL L 0) (hn : ∀ y ∈ ys, ¬ (valY y).1.id = id0) (hx : (valY x).1.id = id0) : (lpSL L 0).find? (fun z => z.1.id == id0) = some (valY x) := by
 obtain ⟨t, ht⟩ := h
 rw [← ht, List.map_append, List.append_assoc, List.find?_append, List.find?_eq_none.2]
 ·rw [Option.none_or, List.map_cons, List.map_nil, List.cons_append, List.nil_append]
  exact List.find?_cons_of_pos (by simpa using hx)
 ·intro s hs
  simp only [List.mem_map] at hs
  obtain ⟨y, hy, rfl⟩ := hs
  simpa using hn y hy
theorem find_doneI {w : World} {Q : Nat → Prop} {id0 : Int} {L : List S} {ys : List (YE w Q)} (h : ys.map valY = lpSL L 0) (hn : ∀ y ∈ ys, ¬ (valY y).1.id = id0) : (lpSL L 0).find? (fun z => z.1.id == id0) = none := by
 rw [← h, List.find?_eq_none]
 intro s hs
 simp only [List.mem_map] at hs
 obtain ⟨y, hy, rfl⟩ := hs
 simpa using hn y hy
set_option maxRecDepth 100000 in
set_option maxHeartbeats 8000000 in
theorem jLoop_any {w : World} {Q : Nat → Prop} {p : Pg} {c0 c1 : Value} (h : ProgI w Q p [c0, c1]) (hsm : SmG p) (id0 : Int) (W : World) (hI : In Q w W) :
 Calls Try.prog 34 #[.agg #[c0, c1], .int .i64 id0] W fun e w' => e = .returned (.tuple #[.int .i64 (jLoop p id0).1, .bool (jLoop p id0).2]) ∧ Below W.heap.size W w' := by
 have HM := Lib.hid (fun V hV => named_any h hsm V hV)
 obtain ⟨Ag, cg, Ap, cp, rfl, rfl, _, _, _, _, _, hpr⟩ := prog_open h
 have HP := Lib.hid hpr
 have HI := Lib.hid hI
 clear h hI hpr
 obtain ⟨res, hres⟩ : ∃ res, res = jLoop p id0 := ⟨_, rfl⟩
 rw [← hres]
 unfold jLoop at hres
 have HRes := Lib.hid hres
 clear hres
 refine (callsIn_wide (n := 6)).1 ?_
 have hro : Fence.wide.round = none := rfl
 refine callsIn_of_wp_marks Try.func34 rfl trivial ?_ hro
 simp only [Try.ntmps34, List.size_toArray, List.length_cons, List.length_nil, Nat.reduceAdd, Nat.reduceSub, Array.replicate_succ, Array.replicate_zero, List.push_toArray, List.append_toArray, List.nil_append, List.cons_append]
 obtain ⟨V0, hV0⟩ : ∃ V0, V0 = ((((W.alloc (.cells #[.slice Ag p.globals.length cg, .slice Ap p.procs.length cp] 25)).alloc (.cells #[.int .i64 id0] 3)).alloc (.cells #[.int .i64 0] 3)).alloc (.cells #[.bool false] 4)) := ⟨_, rfl⟩
 have HV0 := Lib.hid hV0
 have hB0 : Below W.heap.size W V0 := by rw [hV0]; exact below_stepA (below_stepA (below_stepA (below_box _) _) _) _
 have hz0 : V0.heap.size = W.heap.size + 1 + 1 + 1 + 1 := by rw [hV0]; simp
 have HB3 : Hid (Blk V0 W.heap.size 25 #[.slice Ag p.globals.length cg, .slice Ap p.procs.length cp]) := Lib.hid (by rw [hV0]; exact (((Blk.new _ _ _).alloc _).alloc _).alloc _)
 have HB5 : Hid (Blk V0 (W.heap.size + 1) 3 #[.int .i64 id0]) := Lib.hid (by rw [hV0]; have h := Blk.new (W.alloc (.cells #[.slice Ag p.globals.length cg, .slice Ap p.procs.length cp] 25)) 3 #[.int .i64 id0]; rw [World.size_alloc] at h; exact (h.alloc _).alloc _)
 have HB6 : Hid (Blk V0 (W.heap.size + 1 + 1) 3 #[.int .i64 0]) := Lib.hid (by rw [hV0]; have h := Blk.new ((W.alloc (.cells #[.slice Ag p.globals.length cg, .slice Ap p.procs.length cp] 25)).alloc (.cells #[.int .i64 id0] 3)) 3 #[.int .i64 0]; rw [World.size_alloc, World.size_alloc] at h; exact h.alloc _)
 have HB7 : Hid (Blk V0 (W.heap.size + 1 + 1 + 1) 4 #[.bool false]) := Lib.hid (by rw [hV0]; have h := Blk.new (((W.alloc (.cells #[.slice Ag p.globals.length cg, .slice Ap p.procs.length cp] 25)).alloc (.cells #[.int .i64 id0] 3)).alloc (.cells #[.int .i64 0] 3)) 4 #[.bool false]; rw [World.size_alloc, World.size_alloc, World.size_alloc] at h; exact h)
 have HI0 := Lib.hid (HI.out.on hB0)
 have HF0 := Lib.hid (HM.out _ HI0.out)
 have qq : V0.cell? ⟨W.heap.size, 0, none⟩ = some (.slice Ag p.globals.length cg) := by rw [HB3.out.cell]; rfl
 have qr : V0.cell? ⟨W.heap.size, 1, none⟩ = some (.slice Ap p.procs.length cp) := by rw [HB3.out.cell]; rfl
 rw [hV0] at HF0 qq qr
 have HBW := Lib.hid hB0
 have HZ0 := Lib.hid hz0
 clear hV0 hB0 hz0
 cases hm : chkOK p with
 | false =>
  rw [hm] at HF0
  have HRv : Hid (res = (0, false)) := Lib.hid (by rw [HRes.out, hm]; rfl)
  clear hm
  gi_wp2_with (refine ⟨trivial, ?_⟩; gi_at_call 70; refine (callsIn_wide.2 HF0.out).mono ?_; clear HF0; rintro e w1 ⟨rfl, hb1⟩; rw [← HV0.out] at hb1; have h6 := HB6.out.below hb1 HB6.out.lt; have h7 := HB7.out.below hb1 HB7.out.lt; have c6 : w1.cell? ⟨W.heap.size + 1 + 1, 0, none⟩ = some (.int .i64 0) := (by rw [h6.cell]; rfl); have c7 : w1.cell? ⟨W.heap.size + 1 + 1 + 1, 0, none⟩ = some (.bool false) := (by rw [h7.cell]; rfl); have f6 := h6.frozen 0; have f7 := h7.frozen 0; have l6 := h6.lt; have l7 := h7.lt; have HB1 := Lib.hid hb1; clear hb1)
  have h6' := (h6.set_ 0 (.int .i64 0)).far (p := ⟨W.heap.size + 1 + 1 + 1, 0, none⟩) (by show (W.heap.size + 1 + 1 : Nat) ≠ W.heap.size + 1 + 1 + 1; omega) (.bool false)
  have h7' := (h7.far (p := ⟨W.heap.size + 1 + 1, 0, none⟩) (by show (W.heap.size + 1 + 1 + 1 : Nat) ≠ W.heap.size + 1 + 1; omega) (.int .i64 0)).set_ 0 (.bool false)
  simp only [List.setIfInBounds_toArray, List.set_cons_zero] at h6' h7'
  have hc6 := h6'.cell 0
  have hc7 := h7'.cell 0
  refine ⟨_, ?_, by rw [HRv.out], ((below_step HBW.out HB1.out).setCell (p := ⟨W.heap.size + 1 + 1, 0, none⟩) (by show W.heap.size ≤ W.heap.size + 1 + 1; omega) _).setCell (p := ⟨W.heap.size + 1 + 1 + 1, 0, none⟩) (by show W.heap.size ≤ W.heap.size + 1 + 1 + 1; omega) _⟩
  simp [results, Try.f34, go_sem, hc6, hc7]
 | true =>
  rw [hm] at HF0
  rw [hm, if_pos rfl] at HRes
  have HRes := Lib.hid HRes.out
  clear hm
  gi_wp2_with (refine ⟨trivial, ?_⟩; gi_at_call 70; refine (callsIn_wide.2 HF0.out).mono ?_; clear HF0; rintro e w1 ⟨rfl, hb1⟩; rw [← HV0.out] at hb1; have HB1 := Lib.hid hb1; have HI1 := Lib.hid (HI0.out.on hb1); have d3 := HB3.out.below hb1 HB3.out.lt; have HD3 := Lib.hid d3; have q1 : w1.cell? ⟨W.heap.size, 1, none⟩ = some (.slice Ap p.procs.length cp) := (by rw [d3.cell]; rfl); clear hb1 d3)
  have HD5 := Lib.hid (HB5.out.below HB1.out HB5.out.lt)
  have HD6 := Lib.hid (HB6.out.below HB1.out HB6.out.lt)
  have HD7 := Lib.hid (HB7.out.below HB1.out HB7.out.lt)
  have HBW1 := Lib.hid (below_step HBW.out HB1.out)
  have hnz : W.heap.size + 1 + 1 + 1 + 1 ≤ w1.heap.size := by rw [← HZ0.out]; exact HB1.out.size
  clear qq qr
  refine wpIn_loop (fun a' wr => ∃ (k : Nat) (ds : List Nat) (u7 u17 u18 u19 u20 u21 u22 u32 : Value), a' = { tmps := #[.agg #[.slice Ag p.globals.length cg, .slice Ap p.procs.length cp], .int .i64 id0, .pointer (some ⟨W.heap.size, 0, none⟩), .pointer (some ⟨W.heap.size + 1, 0, none⟩), .pointer (some ⟨W.heap.size + 1 + 1, 0, none⟩), .pointer (some ⟨W.heap.size + 1 + 1 + 1, 0, none⟩), undef, u7, undef, undef, .agg #[.slice Ag p.globals.length cg, .slice Ap p.procs.length cp], .bool true, .bool false, .pointer (some ⟨W.heap.size, 1, none⟩), .slice Ap p.procs.length cp, .int .i64 p.procs.length, .int .i64 k, u17, u18, u19, u20, u21, u22, undef, undef, undef, undef, undef, undef, undef, undef, undef, u32], defers := markD ds } ∧ k ≤ p.procs.length ∧ Hid (lpL (p.procs.drop k) id0 = lpL p.procs id0) ∧ Hid (Marks (W.heap.size + 1 + 1 + 1 + 1) ds wr) ∧ Hid (Below W.heap.size W wr) ∧ Hid (Blk wr W.heap.size 25 #[.slice Ag p.globals.length cg, .slice Ap p.procs.length cp]) ∧ Hid (Blk wr (W.heap.size + 1) 3 #[.int .i64 id0]) ∧ Hid (Blk wr (W.heap.size + 1 + 1) 3 #[.int .i64 0]) ∧ Hid (Blk wr (W.heap.size + 1 + 1 + 1) 4 #[.bool false])) (fun a' _ => p.procs.length - (intOf (a'.tmps.getD 16 undef)).toNat) ⟨0, [], undef, undef, undef, undef, undef, undef, undef, undef, rfl, Nat.zero_le _, Lib.hid (by rw [List.drop_zero]), Lib.hid (Marks.nil _ _), HBW1, HD3, HD5, HD6, HD7⟩ ?round
  case round =>
   rintro _ wr ⟨k, ds, u7, u17, u18, u19, u20, u21, u22, u32, rfl, hk, HDr, HMk, HBr, HR3, HR5, HR6, HR7⟩
   have HIr := Lib.hid (HI.out.on HBr.out)
   have hnr : W.heap.size + 1 + 1 + 1 + 1 ≤ wr.heap.size := HR7.out.lt
   have q1r : wr.cell? ⟨W.heap.size, 1, none⟩ = some (.slice Ap p.procs.length cp) := by rw [HR3.out.cell]; rfl
   clear HD3 HD5 HD6 HD7 q1 hnz HI1 HB1 HBW1
   by_cases hlt : k < p.procs.length
   ·obtain ⟨a, Bp, kp, Bv, kv, Bb, kb, Be, ke, rfl, hqa, ⟨p0, p1, p2, p3, p4, _⟩, hnm, hpp, hvv, hbody, hee⟩ := proc_at HP.out HIr.out hlt
    have HDd := Lib.hid (lpL_drop hlt id0)
    rw [HDr.out] at HDd
    have HSm := Lib.hid (hsm.proc _ (List.getElem_mem hlt)).1
    generalize hq : p.procs[k] = y at p0 p1 p2 p3 p4 hbody HDd HSm
    obtain ⟨ynm, yps, yvs, yb, ye⟩ := y
    simp only at p0 p1 p2 p3 p4 hbody HDd HSm
    clear hq hnm hpp hvv hee
    have HBo := Lib.hid hbody
    gi_wp2_with (refine ⟨trivial, ?_⟩; gi_at_call 73; refine (callsIn_wide.2 (statements_any _ _ HBo.out)).mono ?_; rintro e w2 ⟨rfl, hw2⟩; have HW2 := Lib.hid hw2; clear hw2)
    have hw2 : w2 = (wr.alloc (.cells #[.string ynm, .slice Bp yps.length kp, .slice Bv yvs.length kv, .slice Bb yb.length kb, .slice Be ye.length ke] 45)).alloc (.cells #[.slice Bb yb.length kb] 43) := HW2.out
    have hs2 : w2.heap.size = wr.heap.size + 1 + 1 := by rw [hw2]; simp
    have hb12 : Below wr.heap.size wr w2 := by rw [hw2]; exact below_stepA (below_box _) _
    have hI2 : In Q w w2 := HIr.out.on hb12
    have hQ2 : ∀ j, Q j → j < w2.heap.size ∧ ¬ (j = W.heap.size + 1 + 1 ∨ j = W.heap.size + 1 + 1 + 1) := fun j hj => ⟨hI2.1 j hj, by have := HI.out.1 j hj; omega⟩
    have hc2 : w2.cell? ⟨wr.heap.size + 1, 0, none⟩ = some (.slice Bb yb.length kb) := by
     have h := Blk.new (wr.alloc (.cells #[.string ynm, .slice Bp yps.length kp, .slice Bv yvs.length kv, .slice Bb yb.length kb, .slice Be ye.length ke] 45)) 43 #[.slice Bb yb.length kb]
     rw [World.size_alloc] at h
     rw [hw2, h.cell]; rfl
    have h5 := HR5.out.below hb12 HR5.out.lt
    have h6 := HR6.out.below hb12 HR6.out.lt
    have h7 := HR7.out.below hb12 HR7.out.lt
    have H3 := Lib.hid (HR3.out.below hb12 HR3.out.lt)
    have H5 := Lib.hid h5
    have HB02 := Lib.hid (below_step HBr.out hb12)
    have HB12 := Lib.hid hb12
    have HI2 := Lib.hid hI2
    have HQ2 := Lib.hid hQ2
    have HS2 := Lib.hid hs2
    have Hhr : Hid (∀ (A B : World) (row : Option Nat), (∀ r, row = some r → w2.heap.size ≤ r ∧ ∃ o : Obj, A.heap[r]? = some o ∧ o.isCells = false) → (∀ r, row = some r → ∃ o : Obj, A.heap[r]? = some o ∧ o.isCells = false)) := Lib.hid (fun A B row h r e => (h r e).2)
    have HMk3 : Hid (∀ W3 : World, KpC w2.heap.size (fun j => j = W.heap.size + 1 + 1 ∨ j = W.heap.size + 1 + 1 + 1) w2 W3 → Marks (W.heap.size + 1 + 1 + 1 + 1) ds W3) := Lib.hid (fun W3 hK => HMk.out.kept (fun D h1 h2 => (hK.low D (by omega) (by omega)).trans (hb12.block D h2)))
    have HDn : Hid (∀ D, w2.heap.size ≤ D → D ∉ ds) := Lib.hid (fun D h1 h2 => by have := HMk.out.lt D h2; omega)
    clear hw2 hI2 q1r p0 p1 p2 p3 p4
    refine wpIn_rangeFunc_ownH hro (by omega) (gf := 115) (lb := #[.pointer (some ⟨wr.heap.size + 1, 0, none⟩)]) rfl trivial (enters_of Try.func115 (by kernel_rfl) rfl)
     (statements_stops rfl trivial trivial hro (6 - 1) (wr.heap.size + 1) w2.heap.size (fun j => j = W.heap.size + 1 + 1 ∨ j = W.heap.size + 1 + 1 + 1) hQ2 ⟨by omega, by omega⟩ HBo.out HSm.out w2 HI2.out (Nat.le_refl _) hc2) (fun h k => KpC.trans h k) (KpC.put (Nat.le_refl _)) (Below.refl _ _) (fun _ => rfl)
     (fun pre V => KpC w2.heap.size (fun j => j = W.heap.size + 1 + 1 ∨ j = W.heap.size + 1 + 1 + 1) w2 V ∧ Blk V (W.heap.size + 1 + 1) 3 #[.int .i64 0] ∧ Blk V (W.heap.size + 1 + 1 + 1) 4 #[.bool false] ∧ ∀ x ∈ pre, ¬ (valY x).1.id = id0)
     (fun c pre V => ∃ ys x, pre = ys ++ [x] ∧ c = .ret ∧ KpC w2.heap.size (fun j => j = W.heap.size + 1 + 1 ∨ j = W.heap.size + 1 + 1 + 1) w2 V ∧ Blk V (W.heap.size + 1 + 1) 3 #[.int .i64 (valY x).2] ∧ Blk V (W.heap.size + 1 + 1 + 1) 4 #[.bool ((valY x).2 != 0)] ∧ (∀ y ∈ ys, ¬ (valY y).1.id = id0) ∧ (valY x).1.id = id0)
     (fun s A B row hs hg hr => ⟨hs.1.trans (kpc_grown hs.1.size hg hr), blk_grown hs.2.1 hg (Hhr.out A B row hr), blk_grown hs.2.2.1 hg (Hhr.out A B row hr), hs.2.2.2⟩)
     (fun c s A B row hs hg hr => by
      obtain ⟨ys, x, h1, h2, h3, h4, h5, h6⟩ := hs
      exact ⟨ys, x, h1, h2, h3.trans (kpc_grown h3.size hg hr), blk_grown h4 hg (Hhr.out A B row hr), blk_grown h5 hg (Hhr.out A B row hr), h6⟩)
     ⟨KpC.refl _, h6, h7, fun x hx => by cases hx⟩
     (fun x a' V => ∃ Bx, w2.heap.size ≤ Bx ∧ Blk V Bx 60 x.1.2.toArray ∧ a' = { tmps := #[.agg #[.slice Ag p.globals.length cg, .slice (some a) p.procs.length cp], .int .i64 id0, .pointer (some ⟨W.heap.size, 0, none⟩), .pointer (some ⟨W.heap.size + 1, 0, none⟩), .pointer (some ⟨W.heap.size + 1 + 1, 0, none⟩), .pointer (some ⟨W.heap.size + 1 + 1 + 1, 0, none⟩), undef, .pointer (some ⟨wr.heap.size, 0, none⟩), .pointer (some ⟨Bx, 0, none⟩), .int .i64 x.1.1.2, .agg #[.slice Ag p.globals.length cg, .slice (some a) p.procs.length cp], .bool true, .bool false, .pointer (some ⟨W.heap.size, 1, none⟩), .slice (some a) p.procs.length cp, .int .i64 p.procs.length, .int .i64 k, .bool true, .pointer (some (a.add (k * 5))), .agg #[.string ynm, .slice Bp yps.length kp, .slice Bv yvs.length kv, .slice Bb yb.length kb, .slice Be ye.length ke], .pointer (some ⟨wr.heap.size, 3, none⟩), .slice Bb yb.length kb, .func (.func 115) #[] #[.pointer (some ⟨wr.heap.size + 1, 0, none⟩)], .agg x.1.2.toArray, .int .i64 x.1.1.2, undef, undef, undef, undef, undef, undef, undef, u32], defers := [] })
     (fun x a' s A B row hs hg hr => by
      obtain ⟨Bx, h1, h2, h3⟩ := hs
      exact ⟨Bx, h1, blk_grown h2 hg (Hhr.out A B row hr), h3⟩) ?assign ?body ?done ?stop
    case assign =>
     rintro l pre ⟨⟨⟨s, lp⟩, cs⟩, hst, hlp⟩ W3 K hi hK
     obtain ⟨sid, kind, labels, nm, proc, x, has, args, th, el, L, lc, y0, y1, y2, X, xn, xc, R, rc, T, tc, U, uc, hmk, hcs, _⟩ := stmt_open hst
     have hcs' : cs = [.int .i64 sid, .int .i64 kind, .slice L labels.length lc, .string nm, .string proc, .int .i64 y0, .int .i64 y1, .string y2, .slice X xn xc, .bool has, .slice R args.length rc, .slice T th.length tc, .slice U el.length uc] := hcs
     subst hcs'
     have HI3 := Lib.hid hi
     clear hi h5 h6 h7 hmk hcs
     dsimp only [encY]
     gi_wp2
     exact hK _ _ (kf_below (below_box _)) (KpC.of_below HI3.out.1.size (below_box _)) ⟨HI3.out.1.trans (KpC.of_below HI3.out.1.size (below_box _)), HI3.out.2.1.alloc _, HI3.out.2.2.1.alloc _, HI3.out.2.2.2⟩ ⟨W3.heap.size, HI3.out.1.size, Blk.new _ _ _, rfl⟩
    case body =>
     rintro l pre ⟨⟨⟨s, lp⟩, cs⟩, hst, hlp⟩ a' W3 hl hrec hi ⟨Bx, hBx, hbx, rfl⟩ hlt3
     obtain ⟨sid, kind, labels, nm, proc, x, has, args, th, el, L, lc, y0, y1, y2, X, xn, xc, R, rc, T, tc, U, uc, hmk, hcs, _⟩ := stmt_open hst
     have hcs' : cs = [.int .i64 sid, .int .i64 kind, .slice L labels.length lc, .string nm, .string proc, .int .i64 y0, .int .i64 y1, .string y2, .slice X xn xc, .bool has, .slice R args.length rc, .slice T th.length tc, .slice U el.length uc] := hcs
     subst hcs'
     have HI3 := Lib.hid hi
     have HSi : Hid (s.id = sid) := Lib.hid (by rw [show s = _ from hmk]; rfl)
     have b5 : Blk W3 (W.heap.size + 1) 3 #[.int .i64 id0] := (HI3.out.1.low _ (by omega) (by omega)).trans H5.out
     have bx : Blk W3 Bx 60 #[.int .i64 sid, .int .i64 kind, .slice L labels.length lc, .string nm, .string proc, .int .i64 y0, .int .i64 y1, .string y2, .slice X xn xc, .bool has, .slice R args.length rc, .slice T th.length tc, .slice U el.length uc] := hbx
     have c5 : W3.cell? ⟨W.heap.size + 1, 0, none⟩ = some (.int .i64 id0) := by rw [b5.cell]; rfl
     have cx0 : W3.cell? ⟨Bx, 0, none⟩ = some (.int .i64 sid) := by rw [bx.cell]; rfl
     have c6 : W3.cell? ⟨W.heap.size + 1 + 1, 0, none⟩ = some (.int .i64 0) := by rw [HI3.out.2.1.cell]; rfl
     have c7 : W3.cell? ⟨W.heap.size + 1 + 1 + 1, 0, none⟩ = some (.bool false) := by rw [HI3.out.2.2.1.cell]; rfl
     have f6 := HI3.out.2.1.frozen 0
     have f7 := HI3.out.2.2.1.frozen 0
     have hbl6 := HI3.out.2.1.lt
     have hbl7 := HI3.out.2.2.1.lt
     dsimp only at hmk
     clear hi h5 h6 h7 hcs hmk hbx
     by_cases he : sid = id0
     ·subst he
      have hee : (sid == sid) = true := by simp
      gi_wp2
      refine ⟨((KeepsOthers.setCell _ _ _).trans (KeepsOthers.setCell _ _ _)).from _, pre, ⟨((s, lp), _), hst, hlp⟩, rfl, rfl, HI3.out.1.trans ((KpC.set_ (.inl rfl) (by show W.heap.size + 1 + 1 < _; omega) _).trans (KpC.set_ (.inr rfl) (by show W.heap.size + 1 + 1 + 1 < _; omega) _)), ?_, ?_, HI3.out.2.2.2, ?_⟩
      ·have h := (HI3.out.2.1.set_ 0 (.int .i64 lp)).far (p := ⟨W.heap.size + 1 + 1 + 1, 0, none⟩) (by show (W.heap.size + 1 + 1 : Nat) ≠ W.heap.size + 1 + 1 + 1; omega) (.bool (lp != 0))
       simp only [List.setIfInBounds_toArray, List.set_cons_zero] at h
       exact h
      ·have h := (HI3.out.2.2.1.far (p := ⟨W.heap.size + 1 + 1, 0, none⟩) (by show (W.heap.size + 1 + 1 + 1 : Nat) ≠ W.heap.size + 1 + 1; omega) (.int .i64 lp)).set_ 0 (.bool (lp != 0))
       simp only [List.setIfInBounds_toArray, List.set_cons_zero] at h
       exact h
      ·exact HSi.out
     ·have hee : (sid == id0) = false := beq_eq_false_iff_ne.2 he
      have HNe := Lib.hid he
      clear he
      gi_wp2
      refine ⟨KeepsFrom.refl _ _, KpC.refl _, HI3.out.1, HI3.out.2.1, HI3.out.2.2.1, fun y hy => ?_⟩
      rcases List.mem_append.1 hy with hy | hy
      ·exact HI3.out.2.2.2 y hy
      ·rw [List.mem_singleton.1 hy]
       show ¬ s.id = id0
       rw [HSi.out]; exact HNe.out
    case done =>
     rintro D xs W3 hD hS ⟨hK, k6, k7, hno⟩ hKd
     have HMD := Lib.hid ((HMk3.out W3 hK).cons (Nat.le_trans (by omega) hD) hKd (HDn.out D hD))
     have HD4 : Hid (lpL (p.procs.drop (k + 1)) id0 = lpL p.procs id0) := Lib.hid (by rw [HDd.out, find_doneI hS hno]; rfl)
     have HB4 := Lib.hid (HB02.out.trans (below_kpc hK (by omega) (fun j hj => by omega)))
     have K3 : Hid (Blk W3 W.heap.size 25 #[.slice Ag p.globals.length cg, .slice (some a) p.procs.length cp]) := Lib.hid ((hK.low _ (by omega) (by omega)).trans H3.out)
     have K5 : Hid (Blk W3 (W.heap.size + 1) 3 #[.int .i64 id0]) := Lib.hid ((hK.low _ (by omega) (by omega)).trans H5.out)
     have K6 := Lib.hid k6
     have K7 := Lib.hid k7
     clear hS hK hKd k6 k7 hno h5 h6 h7
     gi_wp2
     have e1 : (k : Int) + 1 = ((k + 1 : Nat) : Int) := by omega
     rw [e1]
     refine ⟨⟨k + 1, D :: ds, _, _, _, _, _, _, _, _, rfl, by omega, HD4, HMD, HB4, K3, K5, K6, K7⟩, ?_⟩
     simp [intOf]
     omega
    case stop =>
     rintro D c pre W3 hD hS ⟨ys, x, rfl, rfl, hK, k6, k7, hno, hyes⟩ hKd
     have HMD := Lib.hid ((HMk3.out W3 hK).cons (Nat.le_trans (by omega) hD) hKd (HDn.out D hD))
     have HRv : Hid (res = ((valY x).2, (valY x).2 != 0)) := Lib.hid (by rw [HRes.out, HDd.out, find_stopI hS hno hyes]; rfl)
     have hc6 : W3.cell? ⟨W.heap.size + 1 + 1, 0, none⟩ = some (.int .i64 (valY x).2) := by rw [k6.cell]; rfl
     have hc7 : W3.cell? ⟨W.heap.size + 1 + 1 + 1, 0, none⟩ = some (.bool ((valY x).2 != 0)) := by rw [k7.cell]; rfl
     have HB4 := Lib.hid (HB02.out.trans (below_kpc hK (by omega) (fun j hj => by omega)))
     clear h5 h6 h7
     gi_wp2
     refine marks_leave (D :: ds) W3 HMD.out fun W' hb hc => ?_
     have hd6 := hc _ _ hc6
     have hd7 := hc _ _ hc7
     refine ⟨_, ?_, by rw [HRv.out], HB4.out.trans (hb.mono (by omega))⟩
     simp [results, Try.f34, go_sem, hd6, hd7]
   ·obtain rfl : k = p.procs.length := by omega
    have HRv : Hid (res = (0, false)) := Lib.hid (by rw [HRes.out, ← HDr.out, List.drop_length, lpL])
    have c6 : wr.cell? ⟨W.heap.size + 1 + 1, 0, none⟩ = some (.int .i64 0) := by rw [HR6.out.cell]; rfl
    have c7 : wr.cell? ⟨W.heap.size + 1 + 1 + 1, 0, none⟩ = some (.bool false) := by rw [HR7.out.cell]; rfl
    have f6 := HR6.out.frozen 0
    have f7 := HR7.out.frozen 0
    have l6 := HR6.out.lt
    have l7 := HR7.out.lt
    gi_wp2
    have h6' := (HR6.out.set_ 0 (.int .i64 0)).far (p := ⟨W.heap.size + 1 + 1 + 1, 0, none⟩) (by show (W.heap.size + 1 + 1 : Nat) ≠ W.heap.size + 1 + 1 + 1; omega) (.bool false)
    have h7' := (HR7.out.far (p := ⟨W.heap.size + 1 + 1, 0, none⟩) (by show (W.heap.size + 1 + 1 + 1 : Nat) ≠ W.heap.size + 1 + 1; omega) (.int .i64 0)).set_ 0 (.bool false)
    simp only [List.setIfInBounds_toArray, List.set_cons_zero] at h6' h7'
    have hc6 := h6'.cell 0
    have hc7 := h7'.cell 0
    refine marks_leave ds _ (HMk.out.kept (fun D h1 h2 => ?_)) fun W' hb hc => ?_
    ·rw [Below.heap_setCell _ _ _ _ (by show D ≠ W.heap.size + 1 + 1 + 1; omega), Below.heap_setCell _ _ _ _ (by show D ≠ W.heap.size + 1 + 1; omega)]
    ·have hd6 := hc _ _ hc6
     have hd7 := hc _ _ hc7
     refine ⟨_, ?_, by rw [HRv.out], ((HBr.out.setCell (p := ⟨W.heap.size + 1 + 1, 0, none⟩) (by show W.heap.size ≤ W.heap.size + 1 + 1; omega) _).setCell (p := ⟨W.heap.size + 1 + 1 + 1, 0, none⟩) (by show W.heap.size ≤ W.heap.size + 1 + 1 + 1; omega) _).trans (hb.mono (by omega))⟩
     simp [results, Try.f34, go_sem, hd6, hd7]
end Go.Proofs.Ytehpinnmalpgpaa
