/- Texts, merged by a program; only what is used. -/
import Derived.Maps.AppendAt
import Derived.OrdersHeld
import Derived.Test.YtnnblklbjbkikaaK1
import Derived.Test.YtnnblklbjbkikaaK2
import Derived.Test.YtnnblklbjbkikaaK3
import Derived.Test.YtnnblklbjbkikaaK4
import Derived.Test.YtnnblklbjbkikaaK5
import Derived.Test.YtnnblklbjbkikaaK6
import Derived.Test.YtnnblklbjbkikaaK7
import Derived.Test.YtnnblklbjbkikaaK8
import Derived.Test.YtnnblklbjbkikaaK9
import Derived.Test.YtnnblklbjbkikaaK10
import Derived.Test.YtnnblklbjbkikaaK11
import Derived.Test.YtnnblklbjbkikaaK12
import Derived.Test.YtnnblklbjbkikaaK13
import Derived.Test.YtnnblklbjbkikaaK14
import Derived.Test.YtnnblklbjbkikaaK15
import Derived.Test.YtnnblklbjbkikaaK16
import Derived.Test.YtnnblklbjbkikaaK17
import Derived.Test.YtnnblklbjbkikaaK18
import Derived.Test.YtnnblklbjbkikaaK19
import Derived.Test.YtnnblklbjbkikaaK20
import Derived.Test.YtnnblklbjbkikaaK21
import Derived.Test.YtnnblklbjbkikaaK22
import Derived.Test.YtnnblklbjbkikaaK23
import Derived.Test.YtnnblklbjbkikaaK24
import Derived.Test.YtnnblklbjbkikaaK25
import Derived.Test.YtnnblklbjbkikaaK26
import Derived.Test.YtnnblklbjbkikaaK27
import Derived.Test.YtnnblklbjbkikaaK28
import Derived.Test.YtnnblklbjbkikaaK33
import Derived.Test.YtnnblklbjbkikaaK35
import Derived.Test.YtnnblklbjbkikaaK36
namespace Go.Proofs.Ytnnblklbjbkikaa
open Go.ChangeShapes Go.WideShapes Go.ChangeAt Go.RowKit Go.Deep
set_option linter.unusedVariables false
set_option linter.unusedSimpArgs false
/-- the head of t, and other rows in it -/
def hdT : S → List S → List S → S
 | .mk id kind labels nm proc x has args _ _, th, el => .mk id kind labels nm proc x has args th el
theorem putS_eq (t : S) (id kind : Int) (labels : List ByteArray) (nm proc : ByteArray) (x : E) (has : Bool) (args : List Ar) (th el : List S) : putS t (.mk id kind labels nm proc x has args th el) = if id = t.id then hdT t (putSL t th) (putSL t el) else .mk id kind labels nm proc x has args (putSL t th) (putSL t el) := by
 obtain ⟨tid, tkind, tlabels, tnm, tproc, tx, thas, targs, tth, tel⟩ := t
 rw [putS]; rfl
theorem hdT_id (t : S) (a b : List S) : (hdT t a b).id = t.id := by cases t; rfl
theorem putS_id (t s : S) : (putS t s).id = s.id := by
 obtain ⟨id, kind, labels, nm, proc, x, has, args, th, el⟩ := s
 rw [putS_eq]
 split
 ·rename_i h; rw [hdT_id, ← h]; rfl
 ·rfl
theorem preS_hdT (t : S) (a b : List S) : preS (hdT t a b) = hdT t a b :: (preSL a ++ preSL b) := by cases t; rw [hdT, preS]
mutual
theorem preS_put (t : S) : ∀ s : S, preS (putS t s) = (preS s).map (putS t)
 | .mk id kind labels nm proc x has args th el => by
  have h1 := preSL_put t th
  have h2 := preSL_put t el
  rw [preS, List.map_cons, List.map_append, ← h1, ← h2, putS_eq]
  split
  ·rw [preS_hdT]
  ·rw [preS]
theorem preSL_put (t : S) : ∀ l : List S, preSL (putSL t l) = (preSL l).map (putS t)
 | [] => by rw [putSL, preSL]; rfl
 | s :: l => by rw [putSL, preSL, preSL, List.map_append, preS_put t s, preSL_put t l]
end
theorem stmtOk_len (t : S) {a b a' b' : List S} (h1 : a.length = a'.length) (h2 : b.length = b'.length) : stmtOk (hdT t a b) = stmtOk (hdT t a' b') := by
 obtain ⟨tid, tkind, tlabels, tnm, tproc, tx, thas, targs, tth, tel⟩ := t
 simp only [hdT, stmtOk, h1, h2]
mutual
theorem oneOk_put (t : S) : ∀ (s : S) (d c c' : Nat), (∀ x ∈ preS s, x.id = t.id → stmtOk (hdT t x.th x.el) = true) → oneOk s d c = some c' → oneOk (putS t s) d c = some c'
 | .mk id kind labels nm proc x has args th el, d, c, c', h, ho => by
  rw [oneOk] at ho
  split at ho
  ·rename_i hc
   rw [preS] at h
   cases h1 : blkOk th (d + 1) (c + 1) with
   | none => rw [h1] at ho; cases ho
   | some c1 =>
    rw [h1] at ho
    simp only [Option.bind_some] at ho
    have g1 := blkOk_put t th (d + 1) (c + 1) c1 (fun x hx => h x (List.mem_cons_of_mem _ (List.mem_append_left _ hx))) h1
    have g2 := blkOk_put t el (d + 1) c1 c' (fun x hx => h x (List.mem_cons_of_mem _ (List.mem_append_right _ hx))) ho
    have e1 := putSL_len t th
    have e2 := putSL_len t el
    rw [putS_eq]
    split
    ·rename_i he
     have h3 := h _ (List.mem_cons_self ..) he
     rw [show (S.mk id kind labels nm proc x has args th el).th = th from rfl, show (S.mk id kind labels nm proc x has args th el).el = el from rfl, stmtOk_len t e1.symm e2.symm] at h3
     obtain ⟨tid, tkind, tlabels, tnm, tproc, tx, thas, targs, tth, tel⟩ := t
     rw [hdT] at h3 ⊢
     rw [oneOk, if_pos ⟨hc.1, hc.2.1, by rw [← hc.2.2.1]; exact he.symm, h3⟩, g1, Option.bind_some, g2]
    ·have h3 := hc.2.2.2
     have h4 := stmtOk_len (.mk id kind labels nm proc x has args th el) e1 e2
     simp only [hdT] at h4
     rw [oneOk, if_pos ⟨hc.1, hc.2.1, hc.2.2.1, by rw [h4]; exact h3⟩, g1, Option.bind_some, g2]
  ·cases ho
theorem blkOk_put (t : S) : ∀ (l : List S) (d c c' : Nat), (∀ x ∈ preSL l, x.id = t.id → stmtOk (hdT t x.th x.el) = true) → blkOk l d c = some c' → blkOk (putSL t l) d c = some c'
 | [], d, c, c', h, ho => by rw [putSL]; exact ho
 | s :: l, d, c, c', h, ho => by
  rw [blkOk] at ho
  rw [preSL] at h
  cases h1 : oneOk s d c with
  | none => rw [h1] at ho; cases ho
  | some c1 =>
   rw [h1] at ho
   simp only [Option.bind_some] at ho
   rw [putSL, blkOk, oneOk_put t s d c c1 (fun x hx => h x (List.mem_append_left _ hx)) h1, Option.bind_some, blkOk_put t l d c1 c' (fun x hx => h x (List.mem_append_right _ hx)) ho]
end
theorem prOk_put (t : S) : ∀ (l : List Pr) (c c' : Nat), (∀ q ∈ l, ∀ x ∈ preSL q.body, x.id = t.id → stmtOk (hdT t x.th x.el) = true) → prOk l c = some c' → prOk (l.map (putPr t)) c = some c'
 | [], c, c', h, ho => ho
 | q :: l, c, c', h, ho => by
  rw [prOk] at ho
  split at ho
  ·rename_i hh
   cases h1 : blkOk q.body 1 c with
   | none => rw [h1] at ho; cases ho
   | some c1 =>
    rw [h1] at ho
    simp only [Option.bind_some] at ho
    have g1 := blkOk_put t q.body 1 c c1 (h q (List.mem_cons_self ..)) h1
    rw [List.map_cons, prOk, if_pos (show headOk (putPr t q) = true from hh), show (putPr t q).body = putSL t q.body from rfl, g1, Option.bind_some, prOk_put t l c1 c' (fun q hq => h q (List.mem_cons_of_mem _ hq)) ho]
  ·cases ho
theorem mayP_put {p : Pg} {t : S} (hm : mayP p = true) (h : ∀ q ∈ p.procs, ∀ x ∈ preSL q.body, x.id = t.id → stmtOk (hdT t x.th x.el) = true) : mayP (putP t p) = true := by
 unfold mayP at hm ⊢
 rw [Bool.and_eq_true] at hm ⊢
 obtain ⟨h1, h2⟩ := hm
 cases h3 : prOk p.procs 0 with
 | none => rw [h3] at h2; cases h2
 | some c =>
  refine ⟨?_, ?_⟩
  ·unfold putP
   simp only [List.length_map]
   exact h1
  ·show (prOk (p.procs.map (putPr t)) 0).isSome = true
   rw [prOk_put t p.procs 0 c h h3]
   rfl
/-- the first bad one of a row in which one was put -/
theorem fstB_put {f : S → Bool} {t : S} {b : Bool} : ∀ L : List S, (∀ s ∈ L, s.id ≠ t.id → f (putS t s) = false) → (∀ s ∈ L, s.id = t.id → f (putS t s) = b) → fstB f (L.map (putS t)) = if b = true ∧ ∃ s ∈ L, s.id = t.id then t.id else 0
 | [], _, _ => by simp [fstB]
 | s :: L, h1, h2 => by
  have ih := fstB_put L (fun s hs => h1 s (List.mem_cons_of_mem _ hs)) (fun s hs => h2 s (List.mem_cons_of_mem _ hs))
  unfold fstB at ih ⊢
  rw [List.map_cons, List.find?_cons]
  by_cases he : s.id = t.id
  ·have h3 := h2 s (List.mem_cons_self ..) he
   cases b with
   | true =>
    rw [h3, if_pos ⟨rfl, s, List.mem_cons_self .., he⟩]
    exact (putS_id t s).trans he
   | false =>
    rw [h3]
    simp only [Bool.false_eq_true, false_and, if_false] at ih ⊢
    exact ih
  ·have h3 := h1 s (List.mem_cons_self ..) he
   rw [h3]
   simp only
   rw [ih]
   congr 1
   simp [he]
theorem badS_put (gl ps : List ByteArray) (q : Pr) (t s : S) : badS gl (putPr t q) ps (putS t s) = if s.id = t.id then badS gl q ps t else badS gl q ps s := by
 obtain ⟨id, kind, labels, nm, proc, x, has, args, th, el⟩ := s
 rw [putS_eq]
 show _ = if id = t.id then _ else _
 split
 ·cases t; rfl
 ·rfl
theorem chkL_put {gl ps : List ByteArray} {t : S} {b : Bool} (h0 : t.id ≠ 0) : ∀ l : List Pr, (∀ q ∈ l, dup (namesP gl q) = false) → (∀ q ∈ l, ∀ s ∈ preSL q.body, badS gl q ps s = false) → (∀ q ∈ l, ∀ s ∈ preSL q.body, s.id = t.id → badS gl q ps t = b) → chkL gl ps (l.map (putPr t)) = if b = true ∧ ∃ q ∈ l, ∃ s ∈ preSL q.body, s.id = t.id then (5, t.id) else (0, 0)
 | [], _, _, _ => by simp [chkL]
 | q :: l, h1, h2, h3 => by
  have ih := chkL_put h0 l (fun q hq => h1 q (List.mem_cons_of_mem _ hq)) (fun q hq => h2 q (List.mem_cons_of_mem _ hq)) (fun q hq => h3 q (List.mem_cons_of_mem _ hq))
  have h4 : dup (namesP gl (putPr t q)) = false := h1 q (List.mem_cons_self ..)
  have h5 : fstB (badS gl (putPr t q) ps) (preSL (putPr t q).body) = if b = true ∧ ∃ s ∈ preSL q.body, s.id = t.id then t.id else 0 := by
   show fstB _ (preSL (putSL t q.body)) = _
   rw [preSL_put]
   refine fstB_put _ (fun s hs hne => ?_) (fun s hs he => ?_)
   ·rw [badS_put, if_neg hne]; exact h2 q (List.mem_cons_self ..) s hs
   ·rw [badS_put, if_pos he]; exact h3 q (List.mem_cons_self ..) s hs he
  rw [List.map_cons, chkL, h4, h5, ih]
  simp only [Bool.false_eq_true, if_false]
  by_cases hb : b = true
  ·by_cases he : ∃ s ∈ preSL q.body, s.id = t.id
   ·rw [if_pos (show b = true ∧ _ from ⟨hb, he⟩), if_neg h0, if_pos ⟨hb, q, List.mem_cons_self .., he⟩]
   ·rw [if_neg (show ¬(b = true ∧ ∃ s ∈ preSL q.body, s.id = t.id) from fun h => he h.2), if_pos rfl]
    congr 1
    simp [he]
  ·have e1 : (if b = true ∧ ∃ s ∈ preSL q.body, s.id = t.id then t.id else 0) = 0 := if_neg (fun h => hb h.1)
   rw [e1, if_pos rfl, if_neg (fun h => hb h.1), if_neg (fun h => hb h.1)]
/-- the first fault of names of a program in which one statement was put -/
theorem chkP_put {p : Pg} {t : S} {b : Bool} (h : ChOk p) (hs : ∀ q ∈ p.procs, ∀ x ∈ preSL q.body, x.id = t.id → stmtOk (hdT t x.th x.el) = true) (h0 : t.id ≠ 0) (hb : ∀ q ∈ p.procs, ∀ s ∈ preSL q.body, s.id = t.id → badS p.globals q (p.procs.map Pr.nm) t = b) : chkP (putP t p) = if b = true ∧ ∃ q ∈ p.procs, ∃ s ∈ preSL q.body, s.id = t.id then (5, t.id) else (0, 0) := by
 have hm := mayP_put h.may hs
 have hps : (p.procs.map (putPr t)).map Pr.nm = p.procs.map Pr.nm := by rw [List.map_map]; rfl
 have hmn : mainBad (putP t p) = mainBad p := by
  show ((p.procs.map (putPr t)).find? (isQ mainB)).elim true _ = _
  rw [List.find?_map, show (isQ mainB ∘ putPr t) = isQ mainB from rfl]
  unfold mainBad
  cases p.procs.find? (isQ mainB) <;> rfl
 have hh : hdBad (putP t p) = false := by
  unfold hdBad
  rw [hmn, show (putP t p).globals = p.globals from rfl, show (putP t p).procs = p.procs.map (putPr t) from rfl, hps, h.main, dup_of h.glob, dup_of h.procs]
  rfl
 unfold chkP
 rw [if_pos hm, hh, if_neg (by simp), show (putP t p).globals = p.globals from rfl, show (putP t p).procs = p.procs.map (putPr t) from rfl, hps]
 exact chkL_put h0 p.procs (fun q hq => dup_of (h.names q hq)) h.stm hb
/-- of a program that may be, each statement is found by its id, and its procedure -/
theorem prOk_find2 : ∀ (l : List Pr) (c c' : Nat), prOk l c = some c' → ∀ q ∈ l, ∀ x ∈ preSL q.body, findL l x.id = (q.nm, x, true)
 | [], c, c', h => fun q hq => by simp at hq
 | q :: l, c, c', h => by
  rw [prOk] at h
  split at h
  ·cases h1 : blkOk q.body 1 c with
   | none => rw [h1] at h; simp at h
   | some c1 =>
    rw [h1] at h
    simp only [Option.bind_some] at h
    obtain ⟨a1, a2, a3⟩ := flatL_pre q.body 1 c c1 h1
    intro y hy x hx
    rw [findL]
    rcases List.mem_cons.1 hy with rfl | hy
    ·obtain ⟨j, hj, rfl⟩ := List.getElem_of_mem hx
     have hf : (preSL y.body).find? (fun s => s.id == (preSL y.body)[j].id) = some (preSL y.body)[j] := by
      rw [List.find?_eq_some_iff_getElem]
      refine ⟨by simp, j, hj, rfl, fun i hi => ?_⟩
      rw [a2 j hj, a2 i (by omega)]
      simp
      omega
     rw [hf]
     rfl
    ·have hid := (prOk_ids l c1 c' h).2 y hy x hx
     have hf : (preSL q.body).find? (fun s => s.id == x.id) = none := by
      rw [List.find?_eq_none]
      intro z hz
      obtain ⟨j, hj, rfl⟩ := List.getElem_of_mem hz
      rw [a2 j hj]
      simp
      omega
     rw [hf]
     exact prOk_find2 l c1 c' h y hy x hx
  ·cases h
theorem rfL_find : ∀ (l : List Pr) (id : Int), (∀ q ∈ l, (flatOf q).map It.s = preSL q.body) → ((rfL l id).elim It0 Prod.fst).s = (findL l id).2.1 ∧ (rfL l id).elim ⟨#[]⟩ Prod.snd = (findL l id).1
 | [], id, _ => ⟨rfl, rfl⟩
 | q :: l, id, h => by
  have ih := rfL_find l id (fun q hq => h q (List.mem_cons_of_mem _ hq))
  rw [rfL, findL, ← h q (List.mem_cons_self ..), List.find?_map, show ((fun s : S => s.id == id) ∘ It.s) = (fun x : It => x.s.id == id) from rfl]
  cases (flatOf q).find? (fun x => x.s.id == id) with
  | none => exact ih
  | some x => exact ⟨rfl, rfl⟩
def pfP (p : Pg) (id : Int) : ByteArray := (rfL p.procs id).elim ⟨#[]⟩ Prod.snd
/-- the statement of an id: itself, its procedure; no other one has that id -/
structure AtId (p : Pg) (id : Int) (q : Pr) (s : S) : Prop where
 mem : q ∈ p.procs
 stm : s ∈ preSL q.body
 eid : s.id = id
 st : stP p id = s
 pf : pfP p id = q.nm
 only : ∀ q' ∈ p.procs, ∀ x ∈ preSL q'.body, x.id = id → x = s ∧ q'.nm = q.nm
theorem at_id {p : Pg} (h : mayP p = true) {q : Pr} (hq : q ∈ p.procs) {s : S} (hs : s ∈ preSL q.body) : AtId p s.id q s := by
 have h1 := may_flat h
 have h2 : ∀ q ∈ p.procs, ∀ x ∈ preSL q.body, findL p.procs x.id = (q.nm, x, true) := by
  unfold mayP at h
  rw [Bool.and_eq_true] at h
  cases h3 : prOk p.procs 0 with
  | none => rw [h3] at h; cases h.2
  | some c => exact prOk_find2 p.procs 0 c h3
 have h3 := rfL_find p.procs s.id (fun q hq => (h1.1 q hq).1)
 rw [h2 q hq s hs] at h3
 refine ⟨hq, hs, rfl, h3.1, h3.2, fun q' hq' x hx he => ?_⟩
 have h4 := h2 q' hq' x hx
 rw [he, h2 q hq s hs] at h4
 simp only [Prod.mk.injEq, and_true] at h4
 exact ⟨h4.2.symm, h4.1.symm⟩
/-- an id of a kind has its statement -/
theorem ids_at {p : Pg} (h : mayP p = true) {kd id : Int} (hi : id ∈ idsOf kd (allOf p)) : ∃ q s, AtId p id q s ∧ (kd = 0 ∨ s.kind = kd) ∧ 1 ≤ id ∧ id ≤ 200 := by
 unfold idsOf at hi
 rw [List.mem_map] at hi
 obtain ⟨x, hx, rfl⟩ := hi
 rw [List.mem_filter] at hx
 have h1 : x.s ∈ (allOf p).map It.s := List.mem_map_of_mem hx.1
 rw [all_map h, List.mem_flatMap] at h1
 obtain ⟨q, hq, hs⟩ := h1
 refine ⟨q, x.s, at_id h hq hs, ?_, may_ids h q hq _ hs⟩
 have := hx.2
 simp only [Bool.or_eq_true, beq_iff_eq] at this
 exact this
end Go.Proofs.Ytnnblklbjbkikaa
namespace Go.Proofs.Ytnnblklbjbkikaa
open Go.ChangeShapes Go.WideShapes Go.ChangeAt Go.RowKit Go.Deep
set_option linter.unusedVariables false
set_option linter.unusedSimpArgs false
/-- how much a statement's head is -/
def hw : S → Nat
 | .mk _ _ labels nm proc x _ args _ _ => wE x + wT labels + (nm.size + 1) + (proc.size + 1) + wAr args
theorem wS_hw (id kind : Int) (labels : List ByteArray) (nm proc : ByteArray) (x : E) (has : Bool) (args : List Ar) (th el : List S) : wS (.mk id kind labels nm proc x has args th el) = hw (.mk id kind labels nm proc x has args th el) + wSL th + wSL el := by rw [wS, hw]
theorem wS_hdT (t : S) (a b : List S) : wS (hdT t a b) = hw t + wSL a + wSL b := by cases t; rw [hdT, wS, hw]
def cnt (i : Int) (l : List S) : Nat := l.countP (fun x => x.id == i)
theorem cnt_cons (i : Int) (s : S) (l : List S) : cnt i (s :: l) = cnt i l + if s.id = i then 1 else 0 := by
 unfold cnt
 rw [List.countP_cons]
 simp
theorem cnt_app (i : Int) (a b : List S) : cnt i (a ++ b) = cnt i a + cnt i b := List.countP_append
mutual
theorem wS_put (t : S) (c : Nat) : ∀ s : S, (∀ x ∈ preS s, x.id = t.id → hw t ≤ hw x + c) → wS (putS t s) ≤ wS s + c * cnt t.id (preS s)
 | .mk id kind labels nm proc x has args th el, h => by
  rw [preS] at h
  have h1 := wSL_put t c th (fun x hx => h x (List.mem_cons_of_mem _ (List.mem_append_left _ hx)))
  have h2 := wSL_put t c el (fun x hx => h x (List.mem_cons_of_mem _ (List.mem_append_right _ hx)))
  rw [preS, cnt_cons, cnt_app, wS_hw, putS_eq]
  rw [Nat.mul_add, Nat.mul_add]
  by_cases he : id = t.id
  ·have h3 := h _ (List.mem_cons_self ..) he
   rw [if_pos he, if_pos (show (S.mk id kind labels nm proc x has args th el).id = t.id from he), wS_hdT]
   omega
  ·rw [if_neg he, if_neg (show ¬(S.mk id kind labels nm proc x has args th el).id = t.id from he), wS_hw]
   have h4 : hw (.mk id kind labels nm proc x has args (putSL t th) (putSL t el)) = hw (.mk id kind labels nm proc x has args th el) := rfl
   omega
theorem wSL_put (t : S) (c : Nat) : ∀ l : List S, (∀ x ∈ preSL l, x.id = t.id → hw t ≤ hw x + c) → wSL (putSL t l) ≤ wSL l + c * cnt t.id (preSL l)
 | [], _ => by rw [putSL]; omega
 | s :: l, h => by
  rw [preSL] at h
  have h1 := wS_put t c s (fun x hx => h x (List.mem_append_left _ hx))
  have h2 := wSL_put t c l (fun x hx => h x (List.mem_append_right _ hx))
  rw [putSL, wSL, wSL, preSL, cnt_app, Nat.mul_add]
  omega
end
theorem cnt_one {l : List S} {c : Nat} (h : ∀ j (hj : j < l.length), l[j].id = ((c + 1 + j : Nat) : Int)) (i : Int) : cnt i l ≤ 1 := by
 have hn : (l.map S.id).Nodup := by
  rw [List.Nodup, List.pairwise_iff_getElem]
  intro a b ha hb hab
  rw [List.getElem_map, List.getElem_map, h a (by simpa using ha), h b (by simpa using hb)]
  omega
 have h2 := List.nodup_iff_count.1 hn i
 unfold cnt
 rw [List.count, List.countP_map] at h2
 exact h2
theorem prOk_cnt : ∀ (l : List Pr) (c c' : Nat), prOk l c = some c' → ∀ q ∈ l, ∀ i, cnt i (preSL q.body) ≤ 1
 | [], c, c', h => fun q hq => by cases hq
 | q :: l, c, c', h => by
  rw [prOk] at h
  split at h
  ·cases h1 : blkOk q.body 1 c with
   | none => rw [h1] at h; cases h
   | some c1 =>
    rw [h1] at h
    simp only [Option.bind_some] at h
    obtain ⟨a1, a2, a3⟩ := flatL_pre q.body 1 c c1 h1
    intro y hy i
    rcases List.mem_cons.1 hy with rfl | hy
    ·exact cnt_one a2 i
    ·exact prOk_cnt l c1 c' h y hy i
  ·cases h
/-- a program in which one statement was put is not too great -/
theorem fits_put {p : Pg} {t : S} {c : Nat} (hf : fitsP p = true) (hm : mayP p = true) (hc : c ≤ 900000) (h : ∀ q ∈ p.procs, ∀ x ∈ preSL q.body, x.id = t.id → hw t ≤ hw x + c) : SmG (putP t p) := by
 have hcn : ∀ q ∈ p.procs, ∀ i, cnt i (preSL q.body) ≤ 1 := by
  unfold mayP at hm
  rw [Bool.and_eq_true] at hm
  cases h3 : prOk p.procs 0 with
  | none => rw [h3] at hm; cases hm.2
  | some c => exact prOk_cnt p.procs 0 c h3
 unfold fitsP weighP at hf
 have h0 := of_decide_eq_true hf
 obtain ⟨h1, h2⟩ := weighQs_full p.procs _ h0
 have h3 := weighTs_eq p.globals 0 (by omega)
 refine ⟨by show wT p.globals ≤ _; omega, by show (p.procs.map (putPr t)).length ≤ _; rw [List.length_map]; omega, fun q hq => ?_⟩
 obtain ⟨q0, hq0, rfl⟩ := List.mem_map.1 hq
 obtain ⟨k1, k2, k3, k4⟩ := h2 q0 hq0
 have l1 := wSL_put t c q0.body (h q0 hq0)
 have l2 := Nat.mul_le_mul_left c (hcn q0 hq0 t.id)
 exact ⟨by show wSL (putSL t q0.body) ≤ _; omega, by show wT q0.vars ≤ _; omega, by show wT q0.end_ ≤ _; omega, by show q0.params.length ≤ _; omega⟩
theorem at_w {p : Pg} {id : Int} {q : Pr} {s : S} (hsm : SmG p) (h : AtId p id q s) : wS s ≤ 1000000 := Nat.le_trans (preSL_w _ _ h.stm) (hsm.proc q h.mem).1
end Go.Proofs.Ytnnblklbjbkikaa
namespace Go.Proofs.Ytnnblklbjbkikaa
open Go.ChangeShapes Go.WideShapes Go.ChangeAt Go.RowKit Go.Deep
set_option linter.unusedVariables false
section
variable {P : Program} {w : World}
theorem run_append_gen (base : Nat) (t ty e : TypeId) (i : TypeInfo) (z : Value) (size bytes : Nat) (ht : P.underlying t = some (.slice e)) (hi : P.info? e = some i) (hz : i.zero = some z)
  (hsize : i.size = size) (hby : i.bytes = bytes) (hzs : z.cells.size = size) (hsz : 0 < size)
  (v : Value) (n : Nat) (xs : List Value) (hown : w.ownsRow base e size v n xs)
  (X : Option Addr) (m c : Nat) (news : List Value) (hlen : news.length = m * size) (hcells : ∀ ad, X = some ad → ∀ j u, news[j]? = some u → w.cell? (ad.add j) = some u) (hnone : X = none → m = 0 ∧ c = 0) (h1 : ∀ u ∈ news, u.oneCell' = true)
  (h63 : n + m ≤ maxLen) (hbytes : (n + m) * bytes ≤ 140737488355328) (hbase : base ≤ w.heap.size) :
  ∃ v' w', (Builtin.append_ #[t, t] ty #[v, .slice X m c]).run P w = .ok v' w' ∧ w'.ownsRow base e size v' (n + m) (xs ++ news) ∧ w.grownBy w' v.ownBlock ∧ (v'.ownBlock = v.ownBlock ∨ v'.ownBlock = some w.heap.size) := by
 cases X with
 | some ad =>
  obtain ⟨v', w', hr, h2, h3, _, h5⟩ := run_append_own_at (P := P) w base t ty e i z size bytes ht hi hz hsize hby hzs hsz v n xs hown ad m c news hlen (hcells ad rfl) h1 h63 hbytes hbase
  exact ⟨v', w', hr, h2, h3, h5⟩
 | none =>
  obtain ⟨rfl, rfl⟩ := hnone rfl
  obtain ⟨Xf, cf, rfl, hoc, hcx⟩ := own_form hown
  have hXn : Xf = none → n = 0 ∧ cf = 0 := fun e' => by
   subst e'
   rcases hown.2 with ⟨h1, h2⟩ | ⟨g, cap', cur, h1, _⟩
   ·injection h1 with _ h3 h4; exact ⟨h3, h4⟩
   ·cases h1
  have hn0 : news = [] := List.eq_nil_of_length_eq_zero (by rw [hlen]; simp)
  subst hn0
  refine ⟨_, _, run_append_none (P := P) (w := w) t ty e i ht hi Xf n cf hoc hXn, ?_, World.grownBy.refl _ _, .inl rfl⟩
  rw [Nat.add_zero, List.append_nil]
  exact hown
theorem step_append_gen {ops : Array Oper} {o : Oper} {a : Act} {K : Act → World → Prop} {Q : Exit → Act → World → Prop} {E : Prop} (hgd : o.guard = none) (s x : Operand) (t : TypeId)
  (ho : o.op = .call { callee := .builtin .append, args := #[s, x], argTypes := #[t, t] })
  (base : Nat) (e : TypeId) (i : TypeInfo) (z : Value) (size bytes : Nat) (ht : P.underlying t = some (.slice e)) (hi : P.info? e = some i) (hz : i.zero = some z)
  (hsize : i.size = size) (hby : i.bytes = bytes) (hzs : z.cells.size = size) (hsz : 0 < size)
  (v : Value) (n : Nat) (xs : List Value) (hs : a.eval s = v) (hown : w.ownsRow base e size v n xs)
  (X : Option Addr) (m c : Nat) (news : List Value) (hx : a.eval x = .slice X m c) (hlen : news.length = m * size) (hcells : ∀ ad, X = some ad → ∀ j u, news[j]? = some u → w.cell? (ad.add j) = some u) (hnone : X = none → m = 0 ∧ c = 0) (h1 : ∀ u ∈ news, u.oneCell' = true)
  (h63 : n + m ≤ maxLen) (hbytes : (n + m) * bytes ≤ 140737488355328) (hbase : base ≤ w.heap.size)
  (h : ∀ v' w', w'.ownsRow base e size v' (n + m) (xs ++ news) → w.grownBy w' v.ownBlock → (v'.ownBlock = v.ownBlock ∨ v'.ownBlock = some w.heap.size) → K (a.put o.dst v') w') :
  if Region.wanted o (yielded ops a.tmps) = true then Oper.wp P o a w K Q else E := by
 have hw : Region.wanted o (yielded ops a.tmps) = true := by simp [Region.wanted, hgd]
 rw [if_pos hw]
 obtain ⟨v', w', hr, h2, h3, h4⟩ := run_append_gen (P := P) (w := w) base t o.type e i z size bytes ht hi hz hsize hby hzs hsz v n xs hown X m c news hlen hcells hnone h1 h63 hbytes hbase
 unfold Oper.wp execOp
 simp only [ho, resolve, invoke, builtin, Sem.run_bind, Sem.run_pure, Result.andThen_ok, List.map_toArray, List.map_cons, List.map_nil, hs, hx, hr]
 exact h v' w' h2 h3 h4
end
/-- an own row is a row of cells -/
theorem own_none {w : World} {base n m c : Nat} {e : TypeId} {size : Nat} {X : Option Addr} {xs : List Value} (h : w.ownsRow base e size (.slice X m c) n xs) : X = none → m = 0 ∧ c = 0 := by
 intro e'
 subst e'
 rcases h.2 with ⟨h1, _⟩ | ⟨g, cap', cur, h1, _⟩
 ·injection h1 with _ h3 h4; exact ⟨h3, h4⟩
 ·cases h1
end Go.Proofs.Ytnnblklbjbkikaa
