/- Texts, merged by a program; only what is used. -/
import Derived.Test.YtehpinnmalpgpaaGreatK1
import Derived.Test.YtehpinnmalpgpaaGreatK2
import Derived.Test.YtehpinnmalpgpaaGreatK3
import Derived.Test.YtehpinnmalpgpaaGreatK4
import Derived.Test.YtehpinnmalpgpaaGreatK5
import Derived.Test.YtehpinnmalpgpaaGreatK6
import Derived.Test.YtehpinnmalpgpaaGreatK7
import Derived.Test.YtehpinnmalpgpaaGreatK8
import Derived.Test.YtehpinnmalpgpaaGreatK9
import Derived.Test.YtehpinnmalpgpaaGreatK10
import Derived.Test.YtehpinnmalpgpaaGreatK11
import Derived.Test.YtehpinnmalpgpaaGreatK12
import Derived.Test.YtehpinnmalpgpaaGreatK13
import Derived.Test.YtehpinnmalpgpaaGreatK14
import Derived.Test.YtehpinnmalpgpaaGreatK15
import Derived.Test.YtehpinnmalpgpaaGreatK16
import Derived.Test.YtehpinnmalpgpaaGreatK17
namespace Go.Proofs.YtehpinnmalpgpaaGreat
open Go.ChangeShapes Go.WideShapes Go.ChangeAt Go.RowKit Go.Deep
set_option linter.unusedVariables false
set_option linter.unusedSimpArgs false
mutual
/-- the items of a statement, each with the loop around it -/
def itS : S → Nat → Int → Bool → Int → List (It × Int)
 | .mk id kind labels nm proc x has args th el, d, i, e, lp => (⟨.mk id kind labels nm proc x has args th el, d, i, e⟩, lp) :: (itL th (d + 1) id false (if kind = 6 then id else lp) ++ itL el (d + 1) id true (if kind = 6 then id else lp))
def itL : List S → Nat → Int → Bool → Int → List (It × Int)
 | [], _, _, _, _ => []
 | s :: l, d, i, e, lp => itS s d i e lp ++ itL l d i e lp
end
def sndI (x : It × Int) : S × Int := (x.1.s, x.2)
mutual
theorem itS_lp : ∀ (s : S) (d : Nat) (i : Int) (e : Bool) (lp : Int), (itS s d i e lp).map sndI = lpS s lp
 | .mk id kind labels nm proc x has args th el, d, i, e, lp => by
  rw [itS, lpS, List.map_cons, List.map_append, itL_lp th, itL_lp el]
  rfl
theorem itL_lp : ∀ (l : List S) (d : Nat) (i : Int) (e : Bool) (lp : Int), (itL l d i e lp).map sndI = lpSL l lp
 | [], d, i, e, lp => by rw [itL, lpSL]; rfl
 | s :: l, d, i, e, lp => by rw [itL, lpSL, List.map_append, itS_lp s, itL_lp l]
end
theorem itL_len (l : List S) (d : Nat) (i : Int) (e : Bool) (lp : Int) : (itL l d i e lp).length = (preSL l).length := by
 rw [← lpSL_fst l lp, ← itL_lp l d i e lp, List.length_map, List.length_map]
theorem itS_len (s : S) (d : Nat) (i : Int) (e : Bool) (lp : Int) : (itS s d i e lp).length = (preS s).length := by
 rw [← lpS_fst s lp, ← itS_lp s d i e lp, List.length_map, List.length_map]
mutual
theorem itL_flat : ∀ (l : List S) (d c c' : Nat), blkOk l d c = some c' → ∀ (i : Int) (e : Bool) (lp : Int) (out : List It), out.length + (preSL l).length ≤ 200 → flatL l d i e out = out ++ (itL l d i e lp).map Prod.fst
 | [], d, c, c', h, i, e, lp, out, ho => by rw [flatL, itL, List.map_nil, List.append_nil]
 | s :: l, d, c, c', h, i, e, lp, out, ho => by
  rw [blkOk] at h
  cases h1 : oneOk s d c with
  | none => rw [h1] at h; simp at h
  | some c1 =>
   rw [h1] at h
   simp only [Option.bind_some] at h
   rw [preSL, List.length_append] at ho
   have hl1 : 1 ≤ (preS s).length := by rw [preS_eq]; simp
   rw [flatL, if_pos (by omega), itS_flat s d c c1 h1 i e lp out (by omega), itL_flat l d c1 c' h i e lp _ (by rw [List.length_append, List.length_map, itS_len]; omega), itL, List.map_append, List.append_assoc]
theorem itS_flat : ∀ (s : S) (d c c' : Nat), oneOk s d c = some c' → ∀ (i : Int) (e : Bool) (lp : Int) (out : List It), out.length + (preS s).length ≤ 200 → flatS s d i e out = out ++ (itS s d i e lp).map Prod.fst
 | .mk id kind labels nm proc x has args th el, d, c, c', h, i, e, lp, out, ho => by
  rw [oneOk] at h
  split at h
  ·rename_i hc
   obtain ⟨h12, _, hid, _⟩ := hc
   cases h1 : blkOk th (d + 1) (c + 1) with
   | none => rw [h1] at h; simp at h
   | some c1 =>
    rw [h1] at h
    simp only [Option.bind_some] at h
    rw [preS, List.length_cons, List.length_append] at ho
    rw [flatS, if_pos h12, itL_flat th (d + 1) (c + 1) c1 h1 id false (if kind = 6 then id else lp) _ (by rw [List.length_append, List.length_cons, List.length_nil]; omega), itL_flat el (d + 1) c1 c' h id true (if kind = 6 then id else lp) _ (by rw [List.length_append, List.length_append, List.length_cons, List.length_nil, List.length_map, itL_len]; omega), itS, List.map_cons, List.map_append]
    simp only [List.append_assoc, List.cons_append, List.nil_append]
  ·cases h
end
/-- what an item stands in: nothing that is among these, or one of these ahead of it; its loop by that -/
def ParO (i lp : Int) (L : List (It × Int)) (x : It × Int) : Prop := (x.1.inn = i ∧ x.2 = lp) ∨ ∃ y ∈ L, y.1.s.id < x.1.s.id ∧ x.1.inn = y.1.s.id ∧ x.2 = if y.1.s.kind = 6 then y.1.s.id else y.2
theorem ParO.mono {i lp : Int} {L M : List (It × Int)} {x : It × Int} (h : ParO i lp L x) (hm : ∀ y ∈ L, y ∈ M) : ParO i lp M x := by
 rcases h with h | ⟨y, hy, h⟩
 ·exact .inl h
 ·exact .inr ⟨y, hm y hy, h⟩
mutual
theorem itL_par : ∀ (l : List S) (d c c' : Nat), blkOk l d c = some c' → ∀ (i : Int) (e : Bool) (lp : Int), c ≤ c' ∧ ∀ x ∈ itL l d i e lp, (c : Int) < x.1.s.id ∧ ParO i lp (itL l d i e lp) x
 | [], d, c, c', h, i, e, lp => by
  rw [blkOk] at h
  injection h with h
  exact ⟨by omega, fun x hx => by rw [itL] at hx; cases hx⟩
 | s :: l, d, c, c', h, i, e, lp => by
  rw [blkOk] at h
  cases h1 : oneOk s d c with
  | none => rw [h1] at h; simp at h
  | some c1 =>
   rw [h1] at h
   simp only [Option.bind_some] at h
   obtain ⟨a1, a2⟩ := itS_par s d c c1 h1 i e lp
   obtain ⟨b1, b2⟩ := itL_par l d c1 c' h i e lp
   refine ⟨by omega, fun x hx => ?_⟩
   rw [itL] at hx ⊢
   rcases List.mem_append.1 hx with hx | hx
   ·obtain ⟨h3, h4⟩ := a2 x hx
    exact ⟨h3, h4.mono fun y hy => List.mem_append_left _ hy⟩
   ·obtain ⟨h3, h4⟩ := b2 x hx
    exact ⟨by omega, h4.mono fun y hy => List.mem_append_right _ hy⟩
theorem itS_par : ∀ (s : S) (d c c' : Nat), oneOk s d c = some c' → ∀ (i : Int) (e : Bool) (lp : Int), c ≤ c' ∧ ∀ x ∈ itS s d i e lp, (c : Int) < x.1.s.id ∧ ParO i lp (itS s d i e lp) x
 | .mk id kind labels nm proc x has args th el, d, c, c', h, i, e, lp => by
  rw [oneOk] at h
  split at h
  ·rename_i hc
   obtain ⟨h12, _, hid, _⟩ := hc
   cases h1 : blkOk th (d + 1) (c + 1) with
   | none => rw [h1] at h; simp at h
   | some c1 =>
    rw [h1] at h
    simp only [Option.bind_some] at h
    obtain ⟨a1, a2⟩ := itL_par th (d + 1) (c + 1) c1 h1 id false (if kind = 6 then id else lp)
    obtain ⟨b1, b2⟩ := itL_par el (d + 1) c1 c' h id true (if kind = 6 then id else lp)
    have key : ∀ (L : List (It × Int)) (k : It × Int), (∀ y ∈ L, y ∈ itS (.mk id kind labels nm proc x has args th el) d i e lp) → ((c + 1 : Nat) : Int) < k.1.s.id → ParO id (if kind = 6 then id else lp) L k → ParO i lp (itS (.mk id kind labels nm proc x has args th el) d i e lp) k := by
     intro L k hL hlt hp
     rcases hp with ⟨h3, h4⟩ | ⟨y, hy, h4⟩
     ·exact .inr ⟨(⟨.mk id kind labels nm proc x has args th el, d, i, e⟩, lp), by rw [itS]; exact List.mem_cons_self .., by show id < _; omega, h3, h4⟩
     ·exact .inr ⟨y, hL y hy, h4⟩
    refine ⟨by omega, fun k hk => ?_⟩
    have hk' := hk
    rw [itS] at hk
    rcases List.mem_cons.1 hk with rfl | hk
    ·exact ⟨by show (c : Int) < id; omega, .inl ⟨rfl, rfl⟩⟩
    ·rcases List.mem_append.1 hk with hk | hk
     ·obtain ⟨h3, h4⟩ := a2 k hk
      exact ⟨by omega, key _ k (fun y hy => by rw [itS]; exact List.mem_cons_of_mem _ (List.mem_append_left _ hy)) h3 h4⟩
     ·obtain ⟨h3, h4⟩ := b2 k hk
      exact ⟨by omega, key _ k (fun y hy => by rw [itS]; exact List.mem_cons_of_mem _ (List.mem_append_right _ hy)) (by omega) h4⟩
  ·cases h
end
def itQ (q : Pr) : List (It × Int) := itL q.body 1 0 false 0
/-- the innermost loop around the statement of an id -/
def lpL : List Pr → Int → Int × Bool
 | [], _ => (0, false)
 | q :: l, id => ((lpSL q.body 0).find? (fun x => x.1.id == id)).elim (lpL l id) (fun x => (x.2, x.2 != 0))
theorem lpL_drop {l : List Pr} {k : Nat} (h : k < l.length) (id : Int) : lpL (l.drop k) id = ((lpSL l[k].body 0).find? (fun x => x.1.id == id)).elim (lpL (l.drop (k + 1)) id) (fun x => (x.2, x.2 != 0)) := by rw [List.drop_eq_getElem_cons h, lpL]
def jLoop (p : Pg) (id : Int) : Int × Bool := if chkOK p = true then lpL p.procs id else (0, false)
theorem find_pos {α : Type} {f : α → Int} : ∀ {L : List α} {c : Nat}, (∀ j (h : j < L.length), f L[j] = ((c + 1 + j : Nat) : Int)) → ∀ x ∈ L, L.find? (fun y => f y == f x) = some x := by
 intro L c h x hx
 obtain ⟨j, hj, rfl⟩ := List.getElem_of_mem hx
 rw [List.find?_eq_some_iff_getElem]
 refine ⟨by simp, j, hj, rfl, fun i hi => ?_⟩
 rw [h j hj, h i (by omega)]
 simp
 omega
theorem prOk_it : ∀ (l : List Pr) (c c' : Nat), prOk l c = some c' → c ≤ 200 → ∀ q ∈ l, flatOf q = (itQ q).map Prod.fst ∧ ∀ x ∈ itQ q, (rfL l x.1.s.id = some (x.1, q.nm) ∧ lpL l x.1.s.id = (x.2, x.2 != 0)) ∧ 0 < x.1.s.id ∧ ParO 0 0 (itQ q) x
 | [], c, c', h, _ => fun q hq => by cases hq
 | q :: l, c, c', h, h200 => by
  rw [prOk] at h
  split at h
  ·cases h1 : blkOk q.body 1 c with
   | none => rw [h1] at h; simp at h
   | some c1 =>
    rw [h1] at h
    simp only [Option.bind_some] at h
    obtain ⟨a1, a2, a3⟩ := flatL_pre q.body 1 c c1 h1
    have hc1 := blkOk_le q.body 1 c c1 h200 h1
    have hfl : flatOf q = (itQ q).map Prod.fst := by
     have := itL_flat q.body 1 c c1 h1 0 false 0 [] (by simp; omega)
     rw [List.nil_append] at this
     exact this
    have hmap : (itQ q).map (fun x => x.1.s) = preSL q.body := by
     have h3 := itL_lp q.body 1 0 false 0
     rw [← lpSL_fst q.body 0, ← h3, List.map_map]
     rfl
    have hids : ∀ j (hj : j < (itQ q).length), (itQ q)[j].1.s.id = ((c + 1 + j : Nat) : Int) := by
     intro j hj
     have hj2 : j < (preSL q.body).length := by rw [← hmap, List.length_map]; exact hj
     rw [← a2 j hj2]
     simp only [← hmap, List.getElem_map]
    have hpar := (itL_par q.body 1 c c1 h1 0 false 0).2
    intro y hy
    rcases List.mem_cons.1 hy with rfl | hy
    ·refine ⟨hfl, fun x hx => ⟨⟨?_, ?_⟩, by have := (hpar x hx).1; omega, (hpar x hx).2⟩⟩
     ·rw [rfL, hfl, List.find?_map, show ((fun z : It => z.s.id == x.1.s.id) ∘ Prod.fst) = (fun z : It × Int => z.1.s.id == x.1.s.id) from rfl, find_pos (f := fun z : It × Int => z.1.s.id) hids x hx]
      rfl
     ·rw [lpL, ← itL_lp y.body 1 0 false 0, show itL y.body 1 0 false 0 = itQ y from rfl, List.find?_map, show ((fun z : S × Int => z.1.id == x.1.s.id) ∘ sndI) = (fun z : It × Int => z.1.s.id == x.1.s.id) from rfl, find_pos (f := fun z : It × Int => z.1.s.id) hids x hx]
      rfl
    ·obtain ⟨b1, b2⟩ := prOk_it l c1 c' h hc1 y hy
     refine ⟨b1, fun x hx => ?_⟩
     obtain ⟨⟨b3, b4⟩, b5⟩ := b2 x hx
     have hsm : x.1.s ∈ preSL y.body := by
      have h3 := itL_lp y.body 1 0 false 0
      rw [← lpSL_fst y.body 0, ← h3, List.map_map]
      exact List.mem_map_of_mem (f := Prod.fst ∘ sndI) hx
     have hgt := ((prOk_ids l c1 c' h).2 y hy _ hsm).1
     have hno : ∀ z ∈ itQ q, ¬ ((z.1.s.id == x.1.s.id) = true) := by
      intro z hz
      obtain ⟨j, hj, rfl⟩ := List.getElem_of_mem hz
      rw [hids j hj]
      have : j < (preSL q.body).length := by rw [← hmap, List.length_map]; exact hj
      simp
      omega
     refine ⟨⟨?_, ?_⟩, b5⟩
     ·rw [rfL, hfl, List.find?_map, show ((fun z : It => z.s.id == x.1.s.id) ∘ Prod.fst) = (fun z : It × Int => z.1.s.id == x.1.s.id) from rfl, List.find?_eq_none.2 hno]
      exact b3
     ·rw [lpL, ← itL_lp q.body 1 0 false 0, show itL q.body 1 0 false 0 = itQ q from rfl, List.find?_map, show ((fun z : S × Int => z.1.id == x.1.s.id) ∘ sndI) = (fun z : It × Int => z.1.s.id == x.1.s.id) from rfl, List.find?_eq_none.2 hno]
      exact b4
  ·cases h
theorem may_it {p : Pg} (h : mayP p = true) {q : Pr} (hq : q ∈ p.procs) : flatOf q = (itQ q).map Prod.fst ∧ ∀ x ∈ itQ q, (rfL p.procs x.1.s.id = some (x.1, q.nm) ∧ lpL p.procs x.1.s.id = (x.2, x.2 != 0)) ∧ 0 < x.1.s.id ∧ ParO 0 0 (itQ q) x := by
 unfold mayP at h
 rw [Bool.and_eq_true] at h
 cases h3 : prOk p.procs 0 with
 | none => rw [h3] at h; cases h.2
 | some c => exact prOk_it p.procs 0 c h3 (by omega) q hq
theorem lpL_none : ∀ (l : List Pr) (id : Int), (∀ q ∈ l, ∀ s ∈ preSL q.body, s.id ≠ id) → lpL l id = (0, false)
 | [], id, _ => rfl
 | q :: l, id, h => by
  have hno : (lpSL q.body 0).find? (fun x => x.1.id == id) = none := by
   rw [List.find?_eq_none]
   intro z hz
   have : z.1 ∈ preSL q.body := by rw [← lpSL_fst q.body 0]; exact List.mem_map_of_mem hz
   have := h q (List.mem_cons_self ..) _ this
   simpa using this
  rw [lpL, hno]
  exact lpL_none l id (fun q hq => h q (List.mem_cons_of_mem _ hq))
end Go.Proofs.YtehpinnmalpgpaaGreat
