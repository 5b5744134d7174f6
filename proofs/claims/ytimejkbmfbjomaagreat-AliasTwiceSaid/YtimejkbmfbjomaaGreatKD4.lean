/- Texts, merged by a program; only what is used. -/
import Derived.Test.YtimejkbmfbjomaaGreatK1
import Derived.Test.YtimejkbmfbjomaaGreatK2
import Derived.Test.YtimejkbmfbjomaaGreatK3
import Derived.Test.YtimejkbmfbjomaaGreatK4
import Derived.Test.YtimejkbmfbjomaaGreatK5
import Derived.Test.YtimejkbmfbjomaaGreatK6
import Derived.Test.YtimejkbmfbjomaaGreatK7
import Derived.Test.YtimejkbmfbjomaaGreatK8
import Derived.Test.YtimejkbmfbjomaaGreatK9
import Derived.Test.YtimejkbmfbjomaaGreatK10
import Derived.Test.YtimejkbmfbjomaaGreatK11
import Derived.Test.YtimejkbmfbjomaaGreatK12
import Derived.Test.YtimejkbmfbjomaaGreatK13
import Derived.Test.YtimejkbmfbjomaaGreatK14
import Derived.Test.YtimejkbmfbjomaaGreatK15
import Derived.Test.YtimejkbmfbjomaaGreatK16
import Derived.Test.YtimejkbmfbjomaaGreatK17
import Derived.Test.YtimejkbmfbjomaaGreatK18
import Derived.Test.YtimejkbmfbjomaaGreatK19
import Derived.Test.YtimejkbmfbjomaaGreatK20
import Derived.Test.YtimejkbmfbjomaaGreatK21
import Derived.Test.YtimejkbmfbjomaaGreatK22
import Derived.Test.YtimejkbmfbjomaaGreatK23
import Derived.Test.YtimejkbmfbjomaaGreatK24
import Derived.Test.YtimejkbmfbjomaaGreatK25
import Derived.Test.YtimejkbmfbjomaaGreatK26
import Derived.Test.YtimejkbmfbjomaaGreatK27
import Derived.Test.YtimejkbmfbjomaaGreatK28
import Derived.Test.YtimejkbmfbjomaaGreatK29
import Derived.Test.YtimejkbmfbjomaaGreatK30
import Derived.Test.YtimejkbmfbjomaaGreatKA1
import Derived.Test.YtimejkbmfbjomaaGreatKA2
import Derived.Test.YtimejkbmfbjomaaGreatKA3
import Derived.Test.YtimejkbmfbjomaaGreatKA4
import Derived.Test.YtimejkbmfbjomaaGreatKA5
import Derived.Test.YtimejkbmfbjomaaGreatKA6
import Derived.Test.YtimejkbmfbjomaaGreatKA7
import Derived.Test.YtimejkbmfbjomaaGreatKD1
import Derived.Test.YtimejkbmfbjomaaGreatKD2
import Derived.Test.YtimejkbmfbjomaaGreatKD3
namespace Go.Proofs.YtimejkbmfbjomaaGreat
open Go.ChangeShapes Go.WideShapes Go.ChangeAt Go.RowKit Go.Deep
set_option linter.unusedVariables false
set_option linter.unusedSimpArgs false
/-- the head of t, and other rows in it -/
def hdT : S → List S → List S → S
 | .mk id kind labels nm proc x has args _ _, th, el => .mk id kind labels nm proc x has args th el
theorem putS_eq (t : S) (id kind : Int) (labels : List ByteArray) (nm proc : ByteArray) (x : E) (has : Bool) (args : List Ar) (th el : List S) : putS t (.mk id kind labels nm proc x has args th el) = if id = t.id then hdT t (putSL t th) (putSL t el) else .mk id kind labels nm proc x has args (putSL t th) (putSL t el) := by
 obtain ⟨tid, tkind, tlabels, tnm, tproc, tx, thas, targs, tth, tel⟩ := t
 rw [putS]; rfl
theorem hdT_id (t : S) (a b : List S) : (hdT t a b).id = t.id := by cases t; rfl
theorem putS_id (t s : S) : (putS t s).id = s.id := by
 obtain ⟨id, kind, labels, nm, proc, x, has, args, th, el⟩ := s
 rw [putS_eq]
 split
 ·rename_i h; rw [hdT_id, ← h]; rfl
 ·rfl
theorem preS_hdT (t : S) (a b : List S) : preS (hdT t a b) = hdT t a b :: (preSL a ++ preSL b) := by cases t; rw [hdT, preS]
mutual
theorem preS_put (t : S) : ∀ s : S, preS (putS t s) = (preS s).map (putS t)
 | .mk id kind labels nm proc x has args th el => by
  have h1 := preSL_put t th
  have h2 := preSL_put t el
  rw [preS, List.map_cons, List.map_append, ← h1, ← h2, putS_eq]
  split
  ·rw [preS_hdT]
  ·rw [preS]
theorem preSL_put (t : S) : ∀ l : List S, preSL (putSL t l) = (preSL l).map (putS t)
 | [] => by rw [putSL, preSL]; rfl
 | s :: l => by rw [putSL, preSL, preSL, List.map_append, preS_put t s, preSL_put t l]
end
theorem stmtOk_len (t : S) {a b a' b' : List S} (h1 : a.length = a'.length) (h2 : b.length = b'.length) : stmtOk (hdT t a b) = stmtOk (hdT t a' b') := by
 obtain ⟨tid, tkind, tlabels, tnm, tproc, tx, thas, targs, tth, tel⟩ := t
 simp only [hdT, stmtOk, h1, h2]
mutual
theorem oneOk_put (t : S) : ∀ (s : S) (d c c' : Nat), (∀ x ∈ preS s, x.id = t.id → stmtOk (hdT t x.th x.el) = true) → oneOk s d c = some c' → oneOk (putS t s) d c = some c'
 | .mk id kind labels nm proc x has args th el, d, c, c', h, ho => by
  rw [oneOk] at ho
  split at ho
  ·rename_i hc
   rw [preS] at h
   cases h1 : blkOk th (d + 1) (c + 1) with
   | none => rw [h1] at ho; cases ho
   | some c1 =>
    rw [h1] at ho
    simp only [Option.bind_some] at ho
    have g1 := blkOk_put t th (d + 1) (c + 1) c1 (fun x hx => h x (List.mem_cons_of_mem _ (List.mem_append_left _ hx))) h1
    have g2 := blkOk_put t el (d + 1) c1 c' (fun x hx => h x (List.mem_cons_of_mem _ (List.mem_append_right _ hx))) ho
    have e1 := putSL_len t th
    have e2 := putSL_len t el
    rw [putS_eq]
    split
    ·rename_i he
     have h3 := h _ (List.mem_cons_self ..) he
     rw [show (S.mk id kind labels nm proc x has args th el).th = th from rfl, show (S.mk id kind labels nm proc x has args th el).el = el from rfl, stmtOk_len t e1.symm e2.symm] at h3
     obtain ⟨tid, tkind, tlabels, tnm, tproc, tx, thas, targs, tth, tel⟩ := t
     rw [hdT] at h3 ⊢
     rw [oneOk, if_pos ⟨hc.1, hc.2.1, by rw [← hc.2.2.1]; exact he.symm, h3⟩, g1, Option.bind_some, g2]
    ·have h3 := hc.2.2.2
     have h4 := stmtOk_len (.mk id kind labels nm proc x has args th el) e1 e2
     simp only [hdT] at h4
     rw [oneOk, if_pos ⟨hc.1, hc.2.1, hc.2.2.1, by rw [h4]; exact h3⟩, g1, Option.bind_some, g2]
  ·cases ho
theorem blkOk_put (t : S) : ∀ (l : List S) (d c c' : Nat), (∀ x ∈ preSL l, x.id = t.id → stmtOk (hdT t x.th x.el) = true) → blkOk l d c = some c' → blkOk (putSL t l) d c = some c'
 | [], d, c, c', h, ho => by rw [putSL]; exact ho
 | s :: l, d, c, c', h, ho => by
  rw [blkOk] at ho
  rw [preSL] at h
  cases h1 : oneOk s d c with
  | none => rw [h1] at ho; cases ho
  | some c1 =>
   rw [h1] at ho
   simp only [Option.bind_some] at ho
   rw [putSL, blkOk, oneOk_put t s d c c1 (fun x hx => h x (List.mem_append_left _ hx)) h1, Option.bind_some, blkOk_put t l d c1 c' (fun x hx => h x (List.mem_append_right _ hx)) ho]
end
theorem prOk_put (t : S) : ∀ (l : List Pr) (c c' : Nat), (∀ q ∈ l, ∀ x ∈ preSL q.body, x.id = t.id → stmtOk (hdT t x.th x.el) = true) → prOk l c = some c' → prOk (l.map (putPr t)) c = some c'
 | [], c, c', h, ho => ho
 | q :: l, c, c', h, ho => by
  rw [prOk] at ho
  split at ho
  ·rename_i hh
   cases h1 : blkOk q.body 1 c with
   | none => rw [h1] at ho; cases ho
   | some c1 =>
    rw [h1] at ho
    simp only [Option.bind_some] at ho
    have g1 := blkOk_put t q.body 1 c c1 (h q (List.mem_cons_self ..)) h1
    rw [List.map_cons, prOk, if_pos (show headOk (putPr t q) = true from hh), show (putPr t q).body = putSL t q.body from rfl, g1, Option.bind_some, prOk_put t l c1 c' (fun q hq => h q (List.mem_cons_of_mem _ hq)) ho]
  ·cases ho
theorem mayP_put {p : Pg} {t : S} (hm : mayP p = true) (h : ∀ q ∈ p.procs, ∀ x ∈ preSL q.body, x.id = t.id → stmtOk (hdT t x.th x.el) = true) : mayP (putP t p) = true := by
 unfold mayP at hm ⊢
 rw [Bool.and_eq_true] at hm ⊢
 obtain ⟨h1, h2⟩ := hm
 cases h3 : prOk p.procs 0 with
 | none => rw [h3] at h2; cases h2
 | some c =>
  refine ⟨?_, ?_⟩
  ·unfold putP
   simp only [List.length_map]
   exact h1
  ·show (prOk (p.procs.map (putPr t)) 0).isSome = true
   rw [prOk_put t p.procs 0 c h h3]
   rfl
/-- the first bad one of a row in which one was put -/
theorem fstB_put {f : S → Bool} {t : S} {b : Bool} : ∀ L : List S, (∀ s ∈ L, s.id ≠ t.id → f (putS t s) = false) → (∀ s ∈ L, s.id = t.id → f (putS t s) = b) → fstB f (L.map (putS t)) = if b = true ∧ ∃ s ∈ L, s.id = t.id then t.id else 0
 | [], _, _ => by simp [fstB]
 | s :: L, h1, h2 => by
  have ih := fstB_put L (fun s hs => h1 s (List.mem_cons_of_mem _ hs)) (fun s hs => h2 s (List.mem_cons_of_mem _ hs))
  unfold fstB at ih ⊢
  rw [List.map_cons, List.find?_cons]
  by_cases he : s.id = t.id
  ·have h3 := h2 s (List.mem_cons_self ..) he
   cases b with
   | true =>
    rw [h3, if_pos ⟨rfl, s, List.mem_cons_self .., he⟩]
    exact (putS_id t s).trans he
   | false =>
    rw [h3]
    simp only [Bool.false_eq_true, false_and, if_false] at ih ⊢
    exact ih
  ·have h3 := h1 s (List.mem_cons_self ..) he
   rw [h3]
   simp only
   rw [ih]
   congr 1
   simp [he]
theorem badS_put (gl ps : List ByteArray) (q : Pr) (t s : S) : badS gl (putPr t q) ps (putS t s) = if s.id = t.id then badS gl q ps t else badS gl q ps s := by
 obtain ⟨id, kind, labels, nm, proc, x, has, args, th, el⟩ := s
 rw [putS_eq]
 show _ = if id = t.id then _ else _
 split
 ·cases t; rfl
 ·rfl
theorem chkL_put {gl ps : List ByteArray} {t : S} {b : Bool} (h0 : t.id ≠ 0) : ∀ l : List Pr, (∀ q ∈ l, dup (namesP gl q) = false) → (∀ q ∈ l, ∀ s ∈ preSL q.body, badS gl q ps s = false) → (∀ q ∈ l, ∀ s ∈ preSL q.body, s.id = t.id → badS gl q ps t = b) → chkL gl ps (l.map (putPr t)) = if b = true ∧ ∃ q ∈ l, ∃ s ∈ preSL q.body, s.id = t.id then (5, t.id) else (0, 0)
 | [], _, _, _ => by simp [chkL]
 | q :: l, h1, h2, h3 => by
  have ih := chkL_put h0 l (fun q hq => h1 q (List.mem_cons_of_mem _ hq)) (fun q hq => h2 q (List.mem_cons_of_mem _ hq)) (fun q hq => h3 q (List.mem_cons_of_mem _ hq))
  have h4 : dup (namesP gl (putPr t q)) = false := h1 q (List.mem_cons_self ..)
  have h5 : fstB (badS gl (putPr t q) ps) (preSL (putPr t q).body) = if b = true ∧ ∃ s ∈ preSL q.body, s.id = t.id then t.id else 0 := by
   show fstB _ (preSL (putSL t q.body)) = _
   rw [preSL_put]
   refine fstB_put _ (fun s hs hne => ?_) (fun s hs he => ?_)
   ·rw [badS_put, if_neg hne]; exact h2 q (List.mem_cons_self ..) s hs
   ·rw [badS_put, if_pos he]; exact h3 q (List.mem_cons_self ..) s hs he
  rw [List.map_cons, chkL, h4, h5, ih]
  simp only [Bool.false_eq_true, if_false]
  by_cases hb : b = true
  ·by_cases he : ∃ s ∈ preSL q.body, s.id = t.id
   ·rw [if_pos (show b = true ∧ _ from ⟨hb, he⟩), if_neg h0, if_pos ⟨hb, q, List.mem_cons_self .., he⟩]
   ·rw [if_neg (show ¬(b = true ∧ ∃ s ∈ preSL q.body, s.id = t.id) from fun h => he h.2), if_pos rfl]
    congr 1
    simp [he]
  ·have e1 : (if b = true ∧ ∃ s ∈ preSL q.body, s.id = t.id then t.id else 0) = 0 := if_neg (fun h => hb h.1)
   rw [e1, if_pos rfl, if_neg (fun h => hb h.1), if_neg (fun h => hb h.1)]
/-- the first fault of names of a program in which one statement was put -/
theorem chkP_put {p : Pg} {t : S} {b : Bool} (h : ChOk p) (hs : ∀ q ∈ p.procs, ∀ x ∈ preSL q.body, x.id = t.id → stmtOk (hdT t x.th x.el) = true) (h0 : t.id ≠ 0) (hb : ∀ q ∈ p.procs, ∀ s ∈ preSL q.body, s.id = t.id → badS p.globals q (p.procs.map Pr.nm) t = b) : chkP (putP t p) = if b = true ∧ ∃ q ∈ p.procs, ∃ s ∈ preSL q.body, s.id = t.id then (5, t.id) else (0, 0) := by
 have hm := mayP_put h.may hs
 have hps : (p.procs.map (putPr t)).map Pr.nm = p.procs.map Pr.nm := by rw [List.map_map]; rfl
 have hmn : mainBad (putP t p) = mainBad p := by
  show ((p.procs.map (putPr t)).find? (isQ mainB)).elim true _ = _
  rw [List.find?_map, show (isQ mainB ∘ putPr t) = isQ mainB from rfl]
  unfold mainBad
  cases p.procs.find? (isQ mainB) <;> rfl
 have hh : hdBad (putP t p) = false := by
  unfold hdBad
  rw [hmn, show (putP t p).globals = p.globals from rfl, show (putP t p).procs = p.procs.map (putPr t) from rfl, hps, h.main, dup_of h.glob, dup_of h.procs]
  rfl
 unfold chkP
 rw [if_pos hm, hh, if_neg (by simp), show (putP t p).globals = p.globals from rfl, show (putP t p).procs = p.procs.map (putPr t) from rfl, hps]
 exact chkL_put h0 p.procs (fun q hq => dup_of (h.names q hq)) h.stm hb
end Go.Proofs.YtimejkbmfbjomaaGreat
namespace Go.Proofs.YtimejkbmfbjomaaGreat
open Go.ChangeShapes Go.WideShapes Go.ChangeAt Go.RowKit Go.Deep
set_option linter.unusedVariables false
set_option linter.unusedSimpArgs false
/-- how much a statement's head is -/
def hw : S → Nat
 | .mk _ _ labels nm proc x _ args _ _ => wE x + wT labels + (nm.size + 1) + (proc.size + 1) + wAr args
theorem wS_hw (id kind : Int) (labels : List ByteArray) (nm proc : ByteArray) (x : E) (has : Bool) (args : List Ar) (th el : List S) : wS (.mk id kind labels nm proc x has args th el) = hw (.mk id kind labels nm proc x has args th el) + wSL th + wSL el := by rw [wS, hw]
theorem wS_hdT (t : S) (a b : List S) : wS (hdT t a b) = hw t + wSL a + wSL b := by cases t; rw [hdT, wS, hw]
def cnt (i : Int) (l : List S) : Nat := l.countP (fun x => x.id == i)
theorem cnt_cons (i : Int) (s : S) (l : List S) : cnt i (s :: l) = cnt i l + if s.id = i then 1 else 0 := by
 unfold cnt
 rw [List.countP_cons]
 simp
theorem cnt_app (i : Int) (a b : List S) : cnt i (a ++ b) = cnt i a + cnt i b := List.countP_append
mutual
theorem wS_put (t : S) (c : Nat) : ∀ s : S, (∀ x ∈ preS s, x.id = t.id → hw t ≤ hw x + c) → wS (putS t s) ≤ wS s + c * cnt t.id (preS s)
 | .mk id kind labels nm proc x has args th el, h => by
  rw [preS] at h
  have h1 := wSL_put t c th (fun x hx => h x (List.mem_cons_of_mem _ (List.mem_append_left _ hx)))
  have h2 := wSL_put t c el (fun x hx => h x (List.mem_cons_of_mem _ (List.mem_append_right _ hx)))
  rw [preS, cnt_cons, cnt_app, wS_hw, putS_eq]
  rw [Nat.mul_add, Nat.mul_add]
  by_cases he : id = t.id
  ·have h3 := h _ (List.mem_cons_self ..) he
   rw [if_pos he, if_pos (show (S.mk id kind labels nm proc x has args th el).id = t.id from he), wS_hdT]
   omega
  ·rw [if_neg he, if_neg (show ¬(S.mk id kind labels nm proc x has args th el).id = t.id from he), wS_hw]
   have h4 : hw (.mk id kind labels nm proc x has args (putSL t th) (putSL t el)) = hw (.mk id kind labels nm proc x has args th el) := rfl
   omega
theorem wSL_put (t : S) (c : Nat) : ∀ l : List S, (∀ x ∈ preSL l, x.id = t.id → hw t ≤ hw x + c) → wSL (putSL t l) ≤ wSL l + c * cnt t.id (preSL l)
 | [], _ => by rw [putSL]; omega
 | s :: l, h => by
  rw [preSL] at h
  have h1 := wS_put t c s (fun x hx => h x (List.mem_append_left _ hx))
  have h2 := wSL_put t c l (fun x hx => h x (List.mem_append_right _ hx))
  rw [putSL, wSL, wSL, preSL, cnt_app, Nat.mul_add]
  omega
end
theorem cnt_one {l : List S} {c : Nat} (h : ∀ j (hj : j < l.length), l[j].id = ((c + 1 + j : Nat) : Int)) (i : Int) : cnt i l ≤ 1 := by
 have hn : (l.map S.id).Nodup := by
  rw [List.Nodup, List.pairwise_iff_getElem]
  intro a b ha hb hab
  rw [List.getElem_map, List.getElem_map, h a (by simpa using ha), h b (by simpa using hb)]
  omega
 have h2 := List.nodup_iff_count.1 hn i
 unfold cnt
 rw [List.count, List.countP_map] at h2
 exact h2
theorem prOk_cnt : ∀ (l : List Pr) (c c' : Nat), prOk l c = some c' → ∀ q ∈ l, ∀ i, cnt i (preSL q.body) ≤ 1
 | [], c, c', h => fun q hq => by cases hq
 | q :: l, c, c', h => by
  rw [prOk] at h
  split at h
  ·cases h1 : blkOk q.body 1 c with
   | none => rw [h1] at h; cases h
   | some c1 =>
    rw [h1] at h
    simp only [Option.bind_some] at h
    obtain ⟨a1, a2, a3⟩ := flatL_pre q.body 1 c c1 h1
    intro y hy i
    rcases List.mem_cons.1 hy with rfl | hy
    ·exact cnt_one a2 i
    ·exact prOk_cnt l c1 c' h y hy i
  ·cases h
/-- a program in which one statement was put is not too great -/
theorem fits_put {p : Pg} {t : S} {c : Nat} (hf : fitsP p = true) (hm : mayP p = true) (hc : c ≤ 900000) (h : ∀ q ∈ p.procs, ∀ x ∈ preSL q.body, x.id = t.id → hw t ≤ hw x + c) : SmG (putP t p) := by
 have hcn : ∀ q ∈ p.procs, ∀ i, cnt i (preSL q.body) ≤ 1 := by
  unfold mayP at hm
  rw [Bool.and_eq_true] at hm
  cases h3 : prOk p.procs 0 with
  | none => rw [h3] at hm; cases hm.2
  | some c => exact prOk_cnt p.procs 0 c h3
 unfold fitsP weighP at hf
 have h0 := of_decide_eq_true hf
 obtain ⟨h1, h2⟩ := weighQs_full p.procs _ h0
 have h3 := weighTs_eq p.globals 0 (by omega)
 refine ⟨by show wT p.globals ≤ _; omega, by show (p.procs.map (putPr t)).length ≤ _; rw [List.length_map]; omega, fun q hq => ?_⟩
 obtain ⟨q0, hq0, rfl⟩ := List.mem_map.1 hq
 obtain ⟨k1, k2, k3, k4⟩ := h2 q0 hq0
 have l1 := wSL_put t c q0.body (h q0 hq0)
 have l2 := Nat.mul_le_mul_left c (hcn q0 hq0 t.id)
 exact ⟨by show wSL (putSL t q0.body) ≤ _; omega, by show wT q0.vars ≤ _; omega, by show wT q0.end_ ≤ _; omega, by show q0.params.length ≤ _; omega⟩
theorem at_w {p : Pg} {id : Int} {q : Pr} {s : S} (hsm : SmG p) (h : AtId p id q s) : wS s ≤ 1000000 := Nat.le_trans (preSL_w _ _ h.stm) (hsm.proc q h.mem).1
end Go.Proofs.YtimejkbmfbjomaaGreat
namespace Go.Proofs.YtimejkbmfbjomaaGreat
open Go.ChangeShapes Go.WideShapes Go.ChangeAt Go.RowKit Go.Deep
set_option linter.unusedVariables false
set_option linter.unusedSimpArgs false
theorem fitsB_put (t : S) (l : List Pr) (s : S) : fitsB (l.map (putPr t)) s = fitsB l s := by
 unfold fitsB
 rw [List.find?_map, show (isQ s.proc ∘ putPr t) = isQ s.proc from rfl]
 cases l.find? (isQ s.proc) <;> rfl
theorem misB_put (l : List Pr) (t s : S) : misB (l.map (putPr t)) (putS t s) = if s.id = t.id then misB l t else misB l s := by
 unfold misB
 rw [fitsB_put]
 obtain ⟨id, kind, labels, nm, proc, x, has, args, th, el⟩ := s
 rw [putS_eq]
 show _ = if id = t.id then _ else _
 split
 ·cases t; rfl
 ·rfl
theorem arL_ok {ps : List Pr} : ∀ (l : List Pr), (∀ q ∈ l, ∀ s ∈ preSL q.body, s.id ≠ 0) → (arL ps l).1 = 0 → ∀ q ∈ l, ∀ s ∈ preSL q.body, misB ps s = false
 | [], _, _, q, hq => by cases hq
 | x :: l, hz, h, q, hq => by
  rw [arL] at h
  split at h
  ·rename_i hf
   rcases List.mem_cons.1 hq with rfl | hq
   ·intro s hs
    cases hb : misB ps s with
    | false => rfl
    | true =>
     unfold fstB at hf
     cases hfd : (preSL q.body).find? (misB ps) with
     | none =>
      have := List.find?_eq_none.1 hfd s hs
      rw [hb] at this; exact absurd rfl this
     | some y =>
      rw [hfd, Option.elim_some] at hf
      exact absurd hf (hz q (List.mem_cons_self ..) y (List.mem_of_find?_eq_some hfd))
   ·exact arL_ok l (fun q hq => hz q (List.mem_cons_of_mem _ hq)) h q hq
  ·cases h
theorem arL_put {ps : List Pr} {t : S} {b : Bool} (h0 : t.id ≠ 0) : ∀ l : List Pr, (∀ q ∈ l, ∀ s ∈ preSL q.body, misB ps s = false) → (∀ q ∈ l, ∀ s ∈ preSL q.body, s.id = t.id → misB ps t = b) → arL (ps.map (putPr t)) (l.map (putPr t)) = if b = true ∧ ∃ q ∈ l, ∃ s ∈ preSL q.body, s.id = t.id then (6, t.id) else (0, 0)
 | [], _, _ => by simp [arL]
 | q :: l, h2, h3 => by
  have ih := arL_put h0 l (fun q hq => h2 q (List.mem_cons_of_mem _ hq)) (fun q hq => h3 q (List.mem_cons_of_mem _ hq))
  have h5 : fstB (misB (ps.map (putPr t))) (preSL (putPr t q).body) = if b = true ∧ ∃ s ∈ preSL q.body, s.id = t.id then t.id else 0 := by
   show fstB _ (preSL (putSL t q.body)) = _
   rw [preSL_put]
   refine fstB_put _ (fun s hs hne => ?_) (fun s hs he => ?_)
   ·rw [misB_put, if_neg hne]; exact h2 q (List.mem_cons_self ..) s hs
   ·rw [misB_put, if_pos he]; exact h3 q (List.mem_cons_self ..) s hs he
  rw [List.map_cons, arL, h5, ih]
  by_cases hb : b = true
  ·by_cases he : ∃ s ∈ preSL q.body, s.id = t.id
   ·rw [if_pos (show b = true ∧ _ from ⟨hb, he⟩), if_neg h0, if_pos ⟨hb, q, List.mem_cons_self .., he⟩]
   ·rw [if_neg (show ¬(b = true ∧ ∃ s ∈ preSL q.body, s.id = t.id) from fun h => he h.2), if_pos rfl]
    congr 1
    simp [he]
  ·have e1 : (if b = true ∧ ∃ s ∈ preSL q.body, s.id = t.id then t.id else 0) = 0 := if_neg (fun h => hb h.1)
   rw [e1, if_pos rfl, if_neg (fun h => hb h.1), if_neg (fun h => hb h.1)]
/-- what holds if the check of calls tells nothing -/
structure ArOk (p : Pg) : Prop where
 chk : ChOk p
 fit : ∀ q ∈ p.procs, ∀ s ∈ preSL q.body, misB p.procs s = false
theorem ar_ok {p : Pg} (h : (arP p).1 = 0) : ArOk p := by
 unfold arP at h
 split at h
 ·rename_i h1
  have h2 := chk_ok h1
  exact ⟨h2, arL_ok p.procs (fun q hq s hs => by have := may_ids h2.may q hq s hs; omega) h⟩
 ·cases h
end Go.Proofs.YtimejkbmfbjomaaGreat
namespace Go.Proofs.YtimejkbmfbjomaaGreat
open Go.ChangeShapes Go.WideShapes Go.ChangeAt Go.RowKit Go.Deep
set_option linter.unusedVariables false
set_option linter.unusedSimpArgs false
theorem setNm_id (s : S) (n : ByteArray) : (setNm s n).id = s.id := by cases s; rfl
theorem setNm_hd (s : S) (n : ByteArray) : hdT (setNm s n) s.th s.el = setNm s n := by cases s; rfl
/-- a name that may stand in a call's place: none, or one that is handed in by reference -/
def NmOk (s : S) (n : ByteArray) : Prop := n.toList.isEmpty = true ∨ ∃ a ∈ s.args, a.ref = true ∧ a.nm = n
theorem args_nm {s : S} (h : stmtOk s = true) : ∀ a ∈ s.args, a.ref = true → isNm (bl a.nm) = true := fun a ha hr => by
 obtain ⟨id, kind, labels, nm, proc, x, has, args, th, el⟩ := s
 unfold stmtOk at h
 simp only [Bool.and_eq_true] at h
 have h2 := h.2
 unfold argsOk at h2
 have h3 := List.all_eq_true.1 h2 a ha
 unfold argOk at h3
 rw [Bool.and_eq_true, hr] at h3
 have h4 := h3.1
 unfold nmOk at h4
 rwa [if_pos rfl] at h4
theorem setNm_ok {s : S} {n : ByteArray} (h : stmtOk s = true) (hk : s.kind = 4) (hn : NmOk s n) : stmtOk (setNm s n) = true := by
 have hnm : n.toList.isEmpty = true ∨ (n.toList.isEmpty = false ∧ isNm (bl n) = true) := by
  rcases hn with hn | ⟨a, ha, hr, rfl⟩
  ·exact .inl hn
  ·have h2 := args_nm h a ha hr
   refine .inr ⟨?_, h2⟩
   rw [toList_emp]
   exact decide_eq_false (by have := (nm_short h2).1; omega)
 obtain ⟨id, kind, labels, nm, proc, x, has, args, th, el⟩ := s
 have hk' : kind = 4 := hk
 subst hk'
 show stmtOk (.mk id 4 labels n proc x has args th el) = true
 rw [stmtOk_eq] at h ⊢
 rcases hnm with he | ⟨he, hi⟩
 ·simp only [shp, nmOk, he] at h ⊢
  simp at h ⊢
  simp only [h, and_self, true_and, and_true]
 ·simp only [shp, nmOk, he, hi] at h ⊢
  simp at h ⊢
  simp only [h, and_self, true_and, and_true]
theorem setNm_bad {gl ps : List ByteArray} {q : Pr} {s : S} {n : ByteArray} (h : badS gl q ps s = false) (hn : NmOk s n) : badS gl q ps (setNm s n) = false := by
 obtain ⟨id, kind, labels, nm, proc, x, has, args, th, el⟩ := s
 unfold badS at h ⊢
 rw [Bool.not_eq_false'] at h ⊢
 unfold rightS at h ⊢
 rw [Bool.and_eq_true] at h ⊢
 refine ⟨?_, h.2⟩
 rw [List.all_eq_true] at h ⊢
 intro v hv
 have h1 := h.1
 simp only [varsS, setNm, S.x, S.kind, S.nm, S.args, List.mem_append] at hv h1
 rcases hv with (hv | hv) | hv
 ·exact h1 v (.inl (.inl hv))
 ·unfold ownV at hv
  split at hv
  ·rename_i hc
   rw [List.mem_singleton] at hv
   subst hv
   rcases hn with hn | ⟨a, ha, hr, e⟩
   ·rw [hn] at hc; simp at hc
   ·refine h1 _ (.inr (List.mem_flatMap.2 ⟨a, ha, ?_⟩))
    unfold argV
    rw [if_pos hr, e]
    exact List.mem_singleton.2 rfl
  ·cases hv
 ·exact h1 v (.inr hv)
theorem saidS_put (t s : S) : saidS (putS t s) = if s.id = t.id then saidS t else saidS s := by
 obtain ⟨id, kind, labels, nm, proc, x, has, args, th, el⟩ := s
 rw [putS_eq]
 by_cases h : id = t.id
 ·rw [if_pos h, if_pos (show (S.mk id kind labels nm proc x has args th el).id = t.id from h)]; cases t; rfl
 ·rw [if_neg h, if_neg (show ¬ (S.mk id kind labels nm proc x has args th el).id = t.id from h)]; rfl
theorem apB_put (p : Pg) (t s : S) : apB p (putS t s) = if s.id = t.id then apB p t else apB p s := by
 obtain ⟨id, kind, labels, nm, proc, x, has, args, th, el⟩ := s
 rw [putS_eq]
 by_cases h : id = t.id
 ·rw [if_pos h, if_pos (show (S.mk id kind labels nm proc x has args th el).id = t.id from h)]; cases t; rfl
 ·rw [if_neg h, if_neg (show ¬ (S.mk id kind labels nm proc x has args th el).id = t.id from h)]; rfl
theorem kind_put (t s : S) : (putS t s).kind = (if s.id = t.id then t.kind else s.kind) ∧ (putS t s).proc = (if s.id = t.id then t.proc else s.proc) := by
 obtain ⟨id, kind, labels, nm, proc, x, has, args, th, el⟩ := s
 rw [putS_eq]
 by_cases h : id = t.id
 ·rw [if_pos h, if_pos (show (S.mk id kind labels nm proc x has args th el).id = t.id from h), if_pos (show (S.mk id kind labels nm proc x has args th el).id = t.id from h)]; cases t; exact ⟨rfl, rfl⟩
 ·rw [if_neg h, if_neg (show ¬ (S.mk id kind labels nm proc x has args th el).id = t.id from h), if_neg (show ¬ (S.mk id kind labels nm proc x has args th el).id = t.id from h)]; exact ⟨rfl, rfl⟩
theorem setNm_said {s : S} {n : ByteArray} (hn : NmOk s n) : ∀ v ∈ saidS (setNm s n), v ∈ saidS s := by
 obtain ⟨id, kind, labels, nm, proc, x, has, args, th, el⟩ := s
 intro v hv
 simp only [saidS, setNm, S.x, S.kind, S.nm, S.args, List.mem_append] at hv ⊢
 rcases hv with (hv | hv) | hv
 ·unfold ownV at hv
  split at hv
  ·rename_i hc
   rw [List.mem_singleton] at hv
   subst hv
   rcases hn with hn | ⟨a, ha, hr, e⟩
   ·rw [hn] at hc; simp at hc
   ·refine .inr (List.mem_flatMap.2 ⟨a, ha, ?_⟩)
    unfold saidV
    rw [if_pos hr, e]
    exact List.mem_append_left _ (List.mem_singleton.2 rfl)
  ·cases hv
 ·exact .inl (.inr hv)
 ·exact .inr hv
theorem apL_mono {tk tk' : ByteArray → Bool} {nm : ByteArray} (h : ∀ y, tk' y = true → tk y = true) : ∀ (l pre : List ByteArray), apL tk nm pre l = true → apL tk' nm pre l = true
 | [], _, _ => rfl
 | y :: l, pre, h1 => by
  rw [apL, Bool.and_eq_true] at h1 ⊢
  refine ⟨?_, apL_mono h l _ h1.2⟩
  have h2 := h1.1
  simp only [Bool.not_eq_true', Bool.or_eq_false_iff] at h2 ⊢
  refine ⟨h2.1, ?_⟩
  cases e : tk' y with
  | false => rfl
  | true => rw [h y e] at h2; cases h2.2
theorem apL_nm {tk : ByteArray → Bool} {nm n : ByteArray} : ∀ (l pre : List ByteArray), (∀ y ∈ l, y ≠ n) → apL tk nm pre l = true → apL tk n pre l = true
 | [], _, _, _ => rfl
 | y :: l, pre, hn, h1 => by
  rw [apL, Bool.and_eq_true] at h1 ⊢
  refine ⟨?_, apL_nm l _ (fun z hz => hn z (List.mem_cons_of_mem _ hz)) h1.2⟩
  have h2 := h1.1
  simp only [Bool.not_eq_true', Bool.or_eq_false_iff] at h2 ⊢
  exact ⟨⟨decide_eq_false (hn y (List.mem_cons_self ..)), h2.1.2⟩, h2.2⟩
theorem apL_in {tk : ByteArray → Bool} {n : ByteArray} : ∀ (l pre : List ByteArray), n ∈ l → apL tk n pre l = false
 | [], _, h => by cases h
 | y :: l, pre, h => by
  rw [apL]
  rcases List.mem_cons.1 h with rfl | h
  ·simp
  ·rw [apL_in l _ h, Bool.and_false]
/-- one call's name is turned -/
structure NmT (p : Pg) (q : Pr) (s : S) (n : ByteArray) : Prop where
 ar : (arP p).1 = 0
 al : (alP p).1 = 0
 at_ : AtId p s.id q s
 kind : s.kind = 4
 nm : NmOk s n
theorem NmT.ok {p : Pg} {q : Pr} {s : S} {n : ByteArray} (h : NmT p q s n) : ChOk p := arP_ok h.ar
theorem NmT.only {p : Pg} {q : Pr} {s : S} {n : ByteArray} (h : NmT p q s n) {q' : Pr} (hq : q' ∈ p.procs) {y : S} (hy : y ∈ preSL q'.body) (he : y.id = (setNm s n).id) : y = s ∧ q' = q := by
 obtain ⟨h1, h2⟩ := h.at_.only q' hq y hy (he.trans (setNm_id s n))
 have h3 := find_own p.procs h.ok.procs q' hq
 rw [h2, find_own p.procs h.ok.procs q h.at_.mem] at h3
 exact ⟨h1, (Option.some.inj h3).symm⟩
theorem NmT.stm {p : Pg} {q : Pr} {s : S} {n : ByteArray} (h : NmT p q s n) : stmtOk s = true := may_stm h.ok.may q h.at_.mem s h.at_.stm
theorem NmT.idn {p : Pg} {q : Pr} {s : S} {n : ByteArray} (h : NmT p q s n) : (setNm s n).id ≠ 0 := by
 rw [setNm_id]
 have := may_ids h.ok.may q h.at_.mem s h.at_.stm
 omega
theorem NmT.chk {p : Pg} {q : Pr} {s : S} {n : ByteArray} (h : NmT p q s n) : chkP (putP (setNm s n) p) = (0, 0) := by
 have hc := chkP_put (p := p) (t := setNm s n) (b := false) h.ok (fun q' hq' y hy he => by
   obtain ⟨rfl, rfl⟩ := h.only hq' hy he
   rw [setNm_hd]
   exact setNm_ok h.stm h.kind h.nm) h.idn (fun q' hq' y hy he => by
   obtain ⟨rfl, rfl⟩ := h.only hq' hy he
   exact setNm_bad (h.ok.stm q' hq' y hy) h.nm)
 rwa [if_neg (fun h => by cases h.1)] at hc
theorem NmT.ar2 {p : Pg} {q : Pr} {s : S} {n : ByteArray} (h : NmT p q s n) : (arP (putP (setNm s n) p)).1 = 0 := by
 have hao := ar_ok h.ar
 have h1 := arL_put (ps := p.procs) (t := setNm s n) (b := false) h.idn p.procs (fun q' hq' y hy => hao.fit q' hq' y hy) (fun q' hq' y hy he => by
  obtain ⟨rfl, rfl⟩ := h.only hq' hy he
  have h2 := hao.fit q' hq' y hy
  cases y
  exact h2)
 rw [if_neg (fun h => by cases h.1)] at h1
 unfold arP
 rw [if_pos (by rw [h.chk])]
 show (arL (p.procs.map (putPr (setNm s n))) (p.procs.map (putPr (setNm s n)))).1 = 0
 rw [h1]
theorem NmT.calls {p : Pg} {q : Pr} {s : S} {n : ByteArray} (h : NmT p q s n) {f : Pr} (hf : f ∈ p.procs) : callsOf (preSL (putPr (setNm s n) f).body) = callsOf (preSL f.body) := by
 show callsOf (preSL (putSL (setNm s n) f.body)) = _
 rw [preSL_put]
 have key : ∀ L : List S, (∀ y ∈ L, y.id = (setNm s n).id → y = s) → callsOf (L.map (putS (setNm s n))) = callsOf L := by
  intro L
  induction L with
  | nil => intro _; rfl
  | cons y L ih =>
   intro hy
   have e1 : ∀ (z : S) (M : List S), callsOf (z :: M) = (if z.kind = 4 then [z.proc] else []) ++ callsOf M := fun z M => by
    unfold callsOf
    by_cases hz : z.kind = 4 <;> simp [hz]
   rw [List.map_cons, e1, e1, ih (fun z hz => hy z (List.mem_cons_of_mem _ hz)), (kind_put _ y).1, (kind_put _ y).2]
   by_cases he : y.id = (setNm s n).id
   ·have := hy y (List.mem_cons_self ..) he
    subst this
    rw [if_pos he, if_pos he]
    cases y
    rfl
   ·rw [if_neg he, if_neg he]
 exact key _ (fun y hy he => (h.only hf hy he).1)
theorem NmT.said {p : Pg} {q : Pr} {s : S} {n : ByteArray} (h : NmT p q s n) {f : Pr} (hf : f ∈ p.procs) : ∀ v ∈ saidOf (preSL (putPr (setNm s n) f).body), v ∈ saidOf (preSL f.body) := by
 intro v hv
 have hv : v ∈ saidOf (preSL (putSL (setNm s n) f.body)) := hv
 rw [preSL_put] at hv
 unfold saidOf at hv ⊢
 obtain ⟨y, hy, hv⟩ := List.mem_flatMap.1 hv
 obtain ⟨z, hz, rfl⟩ := List.mem_map.1 hy
 rw [saidS_put] at hv
 split at hv
 ·rename_i he
  obtain ⟨rfl, rfl⟩ := h.only hf hz he
  exact List.mem_flatMap.2 ⟨z, hz, setNm_said h.nm v hv⟩
 ·exact List.mem_flatMap.2 ⟨z, hz, hv⟩
theorem NmT.rch {p : Pg} {q : Pr} {s : S} {n : ByteArray} (h : NmT p q s n) {g : Pr} (hg : g ∈ p.procs) {y : Pr} (hr : RchP (putP (setNm s n) p).procs (putPr (setNm s n) g) y) : ∃ f ∈ p.procs, y = putPr (setNm s n) f ∧ RchP p.procs g f := by
 induction hr with
 | refl => exact ⟨g, hg, rfl, .refl⟩
 | step hr1 hf1 hc ih =>
  obtain ⟨f, hf, rfl, hgf⟩ := ih
  obtain ⟨x, hx, rfl⟩ := List.mem_map.1 (show _ ∈ p.procs.map (putPr (setNm s n)) from hf1)
  rw [h.calls hf] at hc
  exact ⟨x, hx, rfl, .step hgf hx hc⟩
/-- what is touched then was touched -/
theorem NmT.tk {p : Pg} {q : Pr} {s : S} {n : ByteArray} (h : NmT p q s n) (hex : ∀ proc, ∃ l, GlobOf p (jfP p proc) l) {proc y : ByteArray} (hy : tkB (putP (setNm s n) p) proc y = true) : tkB p proc y = true := by
 have hok2 : chkOK (putP (setNm s n) p) = true := decide_eq_true (by rw [h.chk])
 have hok1 : chkOK p = true := decide_eq_true (by rw [h.ok.chk])
 unfold tkB at hy
 obtain ⟨l, hl, hyl⟩ := (@decide_eq_true_iff _ (Classical.propDecidable _)).1 hy
 obtain ⟨l0, hl0⟩ := hex proc
 rw [← tkB_any hl0, List.any_eq_true]
 refine ⟨y, ?_, by simp [isT]⟩
 by_cases hq : ∃ q' ∈ (putP (setNm s n) p).procs, q'.nm = proc
 ·obtain ⟨q', hq', rfl⟩ := hq
  obtain ⟨hz, hg, f', hf', hr, hs⟩ := (glob_mem (ck_ok9 hok2) hok2 hq' hl y).1 hyl
  obtain ⟨g, hgm, rfl⟩ := List.mem_map.1 (show q' ∈ p.procs.map (putPr (setNm s n)) from hq')
  obtain ⟨f, hf, rfl, hgf⟩ := h.rch hgm hr
  exact (glob_mem h.ok hok1 hgm hl0 y).2 ⟨hz, hg, f, hf, hgf, h.said hf y hs⟩
 ·exfalso
  have hz : jfP (putP (setNm s n) p) proc < 0 := by
   unfold jfP
   rw [if_pos hok2]
   rcases idxL_get (isQ proc) (putP (setNm s n) p).procs 0 with ⟨e, _⟩ | ⟨j, hj, e, hf, _⟩
   ·rw [e]; decide
   ·exact absurd ⟨_, List.getElem_mem hj, of_decide_eq_true hf⟩ hq
  rcases hl with ⟨_, rfl⟩ | ⟨m, _, _, e, _⟩
  ·cases hyl
  ·omega
theorem alL_put {p' : Pg} {t : S} {b : Bool} (h0 : t.id ≠ 0) : ∀ l : List Pr, (∀ q ∈ l, ∀ s ∈ preSL q.body, s.id ≠ t.id → alB p' (putS t s) = false) → (∀ q ∈ l, ∀ s ∈ preSL q.body, s.id = t.id → alB p' (putS t s) = b) → alL p' (l.map (putPr t)) = if b = true ∧ ∃ q ∈ l, ∃ s ∈ preSL q.body, s.id = t.id then (8, t.id) else (0, 0)
 | [], _, _ => by simp [alL]
 | q :: l, h2, h3 => by
  have ih := alL_put h0 l (fun q hq => h2 q (List.mem_cons_of_mem _ hq)) (fun q hq => h3 q (List.mem_cons_of_mem _ hq))
  have h5 : fstB (alB p') (preSL (putPr t q).body) = if b = true ∧ ∃ s ∈ preSL q.body, s.id = t.id then t.id else 0 := by
   show fstB _ (preSL (putSL t q.body)) = _
   rw [preSL_put]
   exact fstB_put _ (fun s hs hne => h2 q (List.mem_cons_self ..) s hs hne) (fun s hs he => h3 q (List.mem_cons_self ..) s hs he)
  rw [List.map_cons, alL, h5, ih]
  by_cases hb : b = true
  ·by_cases he : ∃ s ∈ preSL q.body, s.id = t.id
   ·rw [if_pos (show b = true ∧ _ from ⟨hb, he⟩), if_neg h0, if_pos ⟨hb, q, List.mem_cons_self .., he⟩]
   ·rw [if_neg (show ¬(b = true ∧ ∃ s ∈ preSL q.body, s.id = t.id) from fun h => he h.2), if_pos rfl]
    congr 1
    simp [he]
  ·have e1 : (if b = true ∧ ∃ s ∈ preSL q.body, s.id = t.id then t.id else 0) = 0 := if_neg (fun h => hb h.1)
   rw [e1, if_pos rfl, if_neg (fun h => hb h.1), if_neg (fun h => hb h.1)]
theorem NmT.al2 {p : Pg} {q : Pr} {s : S} {n : ByteArray} (h : NmT p q s n) (hex : ∀ proc, ∃ l, GlobOf p (jfP p proc) l) {b : Bool} (hb : apB (putP (setNm s n) p) (setNm s n) = !b) : alP (putP (setNm s n) p) = if b = true then (8, s.id) else (0, 0) := by
 obtain ⟨_, _, hap⟩ := alP_ok h.al
 have h1 := alL_put (p' := putP (setNm s n) p) (t := setNm s n) (b := b) h.idn p.procs (fun q' hq' y hy hne => by
   unfold alB
   rw [apB_put, if_neg hne, (kind_put _ y).1, if_neg hne]
   by_cases hk : y.kind = 4
   ·have h2 := hap q' hq' y hy hk
    unfold apB at h2 ⊢
    rw [apL_mono (fun z hz => h.tk hex hz) _ _ h2]
    simp
   ·rw [beq_eq_false_iff_ne.2 hk, Bool.false_and]) (fun q' hq' y hy he => by
   unfold alB
   rw [apB_put, if_pos he, (kind_put _ y).1, if_pos he, hb]
   have hk : (setNm s n).kind = 4 := by have := h.kind; cases s; exact this
   rw [hk]
   simp)
 unfold alP
 rw [if_pos h.ar2]
 show alL (putP (setNm s n) p) (p.procs.map (putPr (setNm s n))) = _
 rw [h1, setNm_id]
 have hx : ∃ q ∈ p.procs, ∃ y ∈ preSL q.body, y.id = s.id := ⟨q, h.at_.mem, s, h.at_.stm, rfl⟩
 by_cases hb2 : b = true
 ·rw [if_pos ⟨hb2, hx⟩, if_pos hb2]
 ·rw [if_neg (fun h => hb2 h.1), if_neg hb2]
/-- nobody gets what is given: nothing is told -/
theorem NmT.none_ {p : Pg} {q : Pr} {s : S} {n : ByteArray} (h : NmT p q s n) (hex : ∀ proc, ∃ l, GlobOf p (jfP p proc) l) (hn : n.toList.isEmpty = true) : alP (putP (setNm s n) p) = (0, 0) := by
 have h1 := h.al2 hex (b := false) (by
  obtain ⟨_, _, hap⟩ := alP_ok h.al
  have h2 := hap q h.at_.mem s h.at_.stm h.kind
  have h3 : ∀ y ∈ refsOf s.args, y ≠ n := by
   intro y hy e
   unfold refsOf at hy
   obtain ⟨a, ha, hy⟩ := List.mem_flatMap.1 hy
   unfold refV at hy
   split at hy
   ·rename_i hr
    rw [List.mem_singleton] at hy
    have h4 := (nm_short (args_nm h.stm a ha hr)).1
    rw [← hy, e] at h4
    rw [toList_emp] at hn
    have := of_decide_eq_true hn
    omega
   ·cases hy
  show apB (putP (setNm s n) p) (setNm s n) = true
  unfold apB at h2 ⊢
  have e1 : (setNm s n).nm = n ∧ (setNm s n).args = s.args ∧ (setNm s n).proc = s.proc := by cases s; exact ⟨rfl, rfl, rfl⟩
  rw [e1.1, e1.2.1, e1.2.2]
  exact apL_mono (fun z hz => h.tk hex hz) _ _ (apL_nm _ _ h3 h2))
 rwa [if_neg (by simp)] at h1
/-- who gets it is handed in by reference, too: that call is told -/
theorem NmT.two {p : Pg} {q : Pr} {s : S} {n : ByteArray} (h : NmT p q s n) (hex : ∀ proc, ∃ l, GlobOf p (jfP p proc) l) {a : Ar} (ha : a ∈ s.args) (hr : a.ref = true) (hn : a.nm = n) : alP (putP (setNm s n) p) = (8, s.id) := by
 have h1 := h.al2 hex (b := true) (by
  show apB (putP (setNm s n) p) (setNm s n) = false
  unfold apB
  have e1 : (setNm s n).nm = n ∧ (setNm s n).args = s.args := by cases s; exact ⟨rfl, rfl⟩
  rw [e1.1, e1.2]
  exact apL_in _ _ (hn ▸ ref_mem ha hr))
 rwa [if_pos rfl] at h1
end Go.Proofs.YtimejkbmfbjomaaGreat
