/- Texts, merged by a program; only what is used. -/
import Derived.OrdersHeld
import Derived.Test.YtehpinnmalpgpaaK1
import Derived.Test.YtehpinnmalpgpaaK2
import Derived.Test.YtehpinnmalpgpaaK3
import Derived.Test.YtehpinnmalpgpaaK4
import Derived.Test.YtehpinnmalpgpaaK5
import Derived.Test.YtehpinnmalpgpaaK6
import Derived.Test.YtehpinnmalpgpaaK7
import Derived.Test.YtehpinnmalpgpaaK8
import Derived.Test.YtehpinnmalpgpaaK9
import Derived.Test.YtehpinnmalpgpaaK10
import Derived.Test.YtehpinnmalpgpaaK11
import Derived.Test.YtehpinnmalpgpaaK12
import Derived.Test.YtehpinnmalpgpaaK13
import Derived.Test.YtehpinnmalpgpaaK14
import Derived.Test.YtehpinnmalpgpaaK15
import Derived.Test.YtehpinnmalpgpaaK16
import Derived.Test.YtehpinnmalpgpaaK17
import Derived.Test.YtehpinnmalpgpaaK18
import Derived.Test.YtehpinnmalpgpaaK19
import Derived.Test.YtehpinnmalpgpaaK20
import Derived.Test.YtehpinnmalpgpaaK21
import Derived.Test.YtehpinnmalpgpaaK22
import Derived.Test.YtehpinnmalpgpaaK23
import Derived.Test.YtehpinnmalpgpaaK24
import Derived.Test.YtehpinnmalpgpaaKM1
import Derived.Test.YtehpinnmalpgpaaKM2
import Derived.Test.YtehpinnmalpgpaaKM3
import Derived.Test.YtehpinnmalpgpaaKM4
import Derived.Test.YtehpinnmalpgpaaKM5
import Derived.Test.YtehpinnmalpgpaaKM6
import Derived.Test.YtehpinnmalpgpaaKM7
import Derived.Test.YtehpinnmalpgpaaKM8
import Derived.Test.YtehpinnmalpgpaaKM9
import Derived.Test.YtehpinnmalpgpaaKM10
import Derived.Test.YtehpinnmalpgpaaKT1
import Derived.Test.YtehpinnmalpgpaaKT2
import Derived.Test.YtehpinnmalpgpaaKT3
namespace Go.Proofs.Ytehpinnmalpgpaa
open Go.ChangeShapes Go.WideShapes Go.ChangeAt Go.RowKit Go.Deep
set_option linter.unusedVariables false
section
variable {P : Program} {w : World}
theorem step_append_texts {ops : Array Oper} {o : Oper} {a : Act} {K : Act → World → Prop} {Q : Exit → Act → World → Prop} {E : Prop} (hgd : o.guard = none) (s x : Operand) (t : TypeId)
  (ho : o.op = .call { callee := .builtin .append, args := #[s, x], argTypes := #[t, t] })
  (base : Nat) (e : TypeId) (i : TypeInfo) (z : Value) (ht : P.underlying t = some (.slice e)) (hi : P.info? e = some i) (hz : i.zero = some z)
  (hsize : i.size = 1) (hby : i.bytes = 16) (hzs : z.cells.size = 1)
  (v : Value) (n : Nat) (xs : List Value) (hs : a.eval s = v) (hown : w.ownsRow base e 1 v n xs)
  (w0 : World) (Q0 : Nat → Prop) (X : Option Addr) (l : List ByteArray) (m c : Nat) (hx : a.eval x = .slice X m c) (hm : m = l.length) (hT : TextsI w0 Q0 l (.slice X m c)) (hI : In Q0 w0 w)
  (h63 : n + m ≤ 1000000) (hbase : base ≤ w.heap.size)
  (h : ∀ v' w', w'.ownsRow base e 1 v' (n + m) (xs ++ strs l) → w.grownBy w' v.ownBlock → K (a.put o.dst v') w') :
  if Region.wanted o (yielded ops a.tmps) = true then Oper.wp P o a w K Q else E := by
 have hw : Region.wanted o (yielded ops a.tmps) = true := by simp [Region.wanted, hgd]
 rw [if_pos hw]
 obtain ⟨v', w', hr, h2, h3⟩ := run_append_texts (P := P) (w := w) base t o.type e i z ht hi hz hsize hby hzs v n xs hown w0 Q0 X l m c hm hT hI h63 hbase
 unfold Oper.wp execOp
 simp only [ho, resolve, invoke, builtin, Sem.run_bind, Sem.run_pure, Result.andThen_ok, List.map_toArray, List.map_cons, List.map_nil, hs, hx, hr]
 exact h v' w' h2 h3
end
end Go.Proofs.Ytehpinnmalpgpaa
namespace Go.Proofs.Ytehpinnmalpgpaa
open Go.ChangeShapes Go.WideShapes Go.ChangeAt Go.RowKit Go.Deep
set_option linter.unusedVariables false
set_option linter.unusedSimpArgs false
mutual
theorem blkOk_all : ∀ (l : List S) (d c c' : Nat), blkOk l d c = some c' → ∀ s ∈ preSL l, stmtOk s = true
 | [], d, c, c', h, s, hs => by rw [preSL] at hs; cases hs
 | x :: l, d, c, c', h, s, hs => by
  rw [blkOk] at h
  cases h1 : oneOk x d c with
  | none => rw [h1] at h; cases h
  | some c1 =>
   rw [h1] at h
   rw [preSL] at hs
   rcases List.mem_append.1 hs with hs | hs
   ·exact oneOk_all x d c c1 h1 s hs
   ·exact blkOk_all l d c1 c' h s hs
theorem oneOk_all : ∀ (x : S) (d c c' : Nat), oneOk x d c = some c' → ∀ s ∈ preS x, stmtOk s = true
 | .mk id kind labels nm proc x has args th el, d, c, c', h, s, hs => by
  rw [oneOk] at h
  by_cases hb : d ≤ 12 ∧ c + 1 ≤ 200 ∧ id = ((c + 1 : Nat) : Int) ∧ stmtOk (.mk id kind labels nm proc x has args th el) = true
  ·rw [if_pos hb] at h
   rw [preS] at hs
   cases h1 : blkOk th (d + 1) (c + 1) with
   | none => rw [h1] at h; cases h
   | some c1 =>
    rw [h1] at h
    rcases List.mem_cons.1 hs with rfl | hs
    ·exact hb.2.2.2
    ·rcases List.mem_append.1 hs with hs | hs
     ·exact blkOk_all th (d + 1) (c + 1) c1 h1 s hs
     ·exact blkOk_all el (d + 1) c1 c' h s hs
  ·rw [if_neg hb] at h; cases h
end
theorem prOk_stm : ∀ (l : List Pr) (c c' : Nat), prOk l c = some c' → ∀ q ∈ l, ∀ s ∈ preSL q.body, stmtOk s = true
 | [], c, c', h, q, hq => by cases hq
 | x :: l, c, c', h, q, hq => by
  rw [prOk] at h
  split at h
  ·cases h1 : blkOk x.body 1 c with
   | none => rw [h1] at h; cases h
   | some c1 =>
    rw [h1] at h
    rcases List.mem_cons.1 hq with rfl | hq
    ·exact blkOk_all _ _ _ _ h1
    ·exact prOk_stm l c1 c' h q hq
  ·cases h
theorem may_stm {p : Pg} (h : mayP p = true) : ∀ q ∈ p.procs, ∀ s ∈ preSL q.body, stmtOk s = true := by
 unfold mayP at h
 rw [Bool.and_eq_true] at h
 cases hp : prOk p.procs 0 with
 | none => rw [hp] at h; cases h.2
 | some c => exact prOk_stm _ _ _ hp
section
variable {P : Program} {md : Region.Mode} {ops : Array Oper} {Q : Exit → Act → World → Prop} {S : World → Prop}
theorem wpAnyH_step {i : Nat} {o : Oper} {fuel : Nat} {listed : Array Bool} {a : Act} {w : World} (hr : Region.ready md ops listed = [i]) (ho : ops[i]? = some o)
 (h : ∀ K' : Act → World → Prop, Shut (∀ a w, S w → wpAnyH P md ops Q S fuel (listed.setIfInBounds i true) a w → K' a w) → if Region.wanted o (yielded ops a.tmps) = true then Oper.wp P o a w K' Q else K' (a.put o.dst undef) w) : wpAnyH P md ops Q S (fuel + 1) listed a w :=
 wpAnyH_all hr (by simp) (fun j hj => by rw [List.mem_singleton.1 hj]; exact wpOp_step ho (fun K' hK => h K' (fun a w h1 h2 => hK a w ⟨h1, h2⟩)))
end
end Go.Proofs.Ytehpinnmalpgpaa
namespace Go.Proofs.Ytehpinnmalpgpaa
open Go.ChangeShapes Go.WideShapes Go.ChangeAt Go.RowKit Go.Deep
set_option linter.unusedVariables false
set_option linter.unusedSimpArgs false
/-- the head of t, and other rows in it -/
def hdT : S → List S → List S → S
 | .mk id kind labels nm proc x has args _ _, th, el => .mk id kind labels nm proc x has args th el
theorem putS_eq (t : S) (id kind : Int) (labels : List ByteArray) (nm proc : ByteArray) (x : E) (has : Bool) (args : List Ar) (th el : List S) : putS t (.mk id kind labels nm proc x has args th el) = if id = t.id then hdT t (putSL t th) (putSL t el) else .mk id kind labels nm proc x has args (putSL t th) (putSL t el) := by
 obtain ⟨tid, tkind, tlabels, tnm, tproc, tx, thas, targs, tth, tel⟩ := t
 rw [putS]; rfl
theorem hdT_id (t : S) (a b : List S) : (hdT t a b).id = t.id := by cases t; rfl
theorem putS_id (t s : S) : (putS t s).id = s.id := by
 obtain ⟨id, kind, labels, nm, proc, x, has, args, th, el⟩ := s
 rw [putS_eq]
 split
 ·rename_i h; rw [hdT_id, ← h]; rfl
 ·rfl
theorem preS_hdT (t : S) (a b : List S) : preS (hdT t a b) = hdT t a b :: (preSL a ++ preSL b) := by cases t; rw [hdT, preS]
mutual
theorem preS_put (t : S) : ∀ s : S, preS (putS t s) = (preS s).map (putS t)
 | .mk id kind labels nm proc x has args th el => by
  have h1 := preSL_put t th
  have h2 := preSL_put t el
  rw [preS, List.map_cons, List.map_append, ← h1, ← h2, putS_eq]
  split
  ·rw [preS_hdT]
  ·rw [preS]
theorem preSL_put (t : S) : ∀ l : List S, preSL (putSL t l) = (preSL l).map (putS t)
 | [] => by rw [putSL, preSL]; rfl
 | s :: l => by rw [putSL, preSL, preSL, List.map_append, preS_put t s, preSL_put t l]
end
theorem stmtOk_len (t : S) {a b a' b' : List S} (h1 : a.length = a'.length) (h2 : b.length = b'.length) : stmtOk (hdT t a b) = stmtOk (hdT t a' b') := by
 obtain ⟨tid, tkind, tlabels, tnm, tproc, tx, thas, targs, tth, tel⟩ := t
 simp only [hdT, stmtOk, h1, h2]
mutual
theorem oneOk_put (t : S) : ∀ (s : S) (d c c' : Nat), (∀ x ∈ preS s, x.id = t.id → stmtOk (hdT t x.th x.el) = true) → oneOk s d c = some c' → oneOk (putS t s) d c = some c'
 | .mk id kind labels nm proc x has args th el, d, c, c', h, ho => by
  rw [oneOk] at ho
  split at ho
  ·rename_i hc
   rw [preS] at h
   cases h1 : blkOk th (d + 1) (c + 1) with
   | none => rw [h1] at ho; cases ho
   | some c1 =>
    rw [h1] at ho
    simp only [Option.bind_some] at ho
    have g1 := blkOk_put t th (d + 1) (c + 1) c1 (fun x hx => h x (List.mem_cons_of_mem _ (List.mem_append_left _ hx))) h1
    have g2 := blkOk_put t el (d + 1) c1 c' (fun x hx => h x (List.mem_cons_of_mem _ (List.mem_append_right _ hx))) ho
    have e1 := putSL_len t th
    have e2 := putSL_len t el
    rw [putS_eq]
    split
    ·rename_i he
     have h3 := h _ (List.mem_cons_self ..) he
     rw [show (S.mk id kind labels nm proc x has args th el).th = th from rfl, show (S.mk id kind labels nm proc x has args th el).el = el from rfl, stmtOk_len t e1.symm e2.symm] at h3
     obtain ⟨tid, tkind, tlabels, tnm, tproc, tx, thas, targs, tth, tel⟩ := t
     rw [hdT] at h3 ⊢
     rw [oneOk, if_pos ⟨hc.1, hc.2.1, by rw [← hc.2.2.1]; exact he.symm, h3⟩, g1, Option.bind_some, g2]
    ·have h3 := hc.2.2.2
     have h4 := stmtOk_len (.mk id kind labels nm proc x has args th el) e1 e2
     simp only [hdT] at h4
     rw [oneOk, if_pos ⟨hc.1, hc.2.1, hc.2.2.1, by rw [h4]; exact h3⟩, g1, Option.bind_some, g2]
  ·cases ho
theorem blkOk_put (t : S) : ∀ (l : List S) (d c c' : Nat), (∀ x ∈ preSL l, x.id = t.id → stmtOk (hdT t x.th x.el) = true) → blkOk l d c = some c' → blkOk (putSL t l) d c = some c'
 | [], d, c, c', h, ho => by rw [putSL]; exact ho
 | s :: l, d, c, c', h, ho => by
  rw [blkOk] at ho
  rw [preSL] at h
  cases h1 : oneOk s d c with
  | none => rw [h1] at ho; cases ho
  | some c1 =>
   rw [h1] at ho
   simp only [Option.bind_some] at ho
   rw [putSL, blkOk, oneOk_put t s d c c1 (fun x hx => h x (List.mem_append_left _ hx)) h1, Option.bind_some, blkOk_put t l d c1 c' (fun x hx => h x (List.mem_append_right _ hx)) ho]
end
theorem prOk_put (t : S) : ∀ (l : List Pr) (c c' : Nat), (∀ q ∈ l, ∀ x ∈ preSL q.body, x.id = t.id → stmtOk (hdT t x.th x.el) = true) → prOk l c = some c' → prOk (l.map (putPr t)) c = some c'
 | [], c, c', h, ho => ho
 | q :: l, c, c', h, ho => by
  rw [prOk] at ho
  split at ho
  ·rename_i hh
   cases h1 : blkOk q.body 1 c with
   | none => rw [h1] at ho; cases ho
   | some c1 =>
    rw [h1] at ho
    simp only [Option.bind_some] at ho
    have g1 := blkOk_put t q.body 1 c c1 (h q (List.mem_cons_self ..)) h1
    rw [List.map_cons, prOk, if_pos (show headOk (putPr t q) = true from hh), show (putPr t q).body = putSL t q.body from rfl, g1, Option.bind_some, prOk_put t l c1 c' (fun q hq => h q (List.mem_cons_of_mem _ hq)) ho]
  ·cases ho
theorem mayP_put {p : Pg} {t : S} (hm : mayP p = true) (h : ∀ q ∈ p.procs, ∀ x ∈ preSL q.body, x.id = t.id → stmtOk (hdT t x.th x.el) = true) : mayP (putP t p) = true := by
 unfold mayP at hm ⊢
 rw [Bool.and_eq_true] at hm ⊢
 obtain ⟨h1, h2⟩ := hm
 cases h3 : prOk p.procs 0 with
 | none => rw [h3] at h2; cases h2
 | some c =>
  refine ⟨?_, ?_⟩
  ·unfold putP
   simp only [List.length_map]
   exact h1
  ·show (prOk (p.procs.map (putPr t)) 0).isSome = true
   rw [prOk_put t p.procs 0 c h h3]
   rfl
/-- the first bad one of a row in which one was put -/
theorem fstB_put {f : S → Bool} {t : S} {b : Bool} : ∀ L : List S, (∀ s ∈ L, s.id ≠ t.id → f (putS t s) = false) → (∀ s ∈ L, s.id = t.id → f (putS t s) = b) → fstB f (L.map (putS t)) = if b = true ∧ ∃ s ∈ L, s.id = t.id then t.id else 0
 | [], _, _ => by simp [fstB]
 | s :: L, h1, h2 => by
  have ih := fstB_put L (fun s hs => h1 s (List.mem_cons_of_mem _ hs)) (fun s hs => h2 s (List.mem_cons_of_mem _ hs))
  unfold fstB at ih ⊢
  rw [List.map_cons, List.find?_cons]
  by_cases he : s.id = t.id
  ·have h3 := h2 s (List.mem_cons_self ..) he
   cases b with
   | true =>
    rw [h3, if_pos ⟨rfl, s, List.mem_cons_self .., he⟩]
    exact (putS_id t s).trans he
   | false =>
    rw [h3]
    simp only [Bool.false_eq_true, false_and, if_false] at ih ⊢
    exact ih
  ·have h3 := h1 s (List.mem_cons_self ..) he
   rw [h3]
   simp only
   rw [ih]
   congr 1
   simp [he]
theorem badS_put (gl ps : List ByteArray) (q : Pr) (t s : S) : badS gl (putPr t q) ps (putS t s) = if s.id = t.id then badS gl q ps t else badS gl q ps s := by
 obtain ⟨id, kind, labels, nm, proc, x, has, args, th, el⟩ := s
 rw [putS_eq]
 show _ = if id = t.id then _ else _
 split
 ·cases t; rfl
 ·rfl
theorem chkL_put {gl ps : List ByteArray} {t : S} {b : Bool} (h0 : t.id ≠ 0) : ∀ l : List Pr, (∀ q ∈ l, dup (namesP gl q) = false) → (∀ q ∈ l, ∀ s ∈ preSL q.body, badS gl q ps s = false) → (∀ q ∈ l, ∀ s ∈ preSL q.body, s.id = t.id → badS gl q ps t = b) → chkL gl ps (l.map (putPr t)) = if b = true ∧ ∃ q ∈ l, ∃ s ∈ preSL q.body, s.id = t.id then (5, t.id) else (0, 0)
 | [], _, _, _ => by simp [chkL]
 | q :: l, h1, h2, h3 => by
  have ih := chkL_put h0 l (fun q hq => h1 q (List.mem_cons_of_mem _ hq)) (fun q hq => h2 q (List.mem_cons_of_mem _ hq)) (fun q hq => h3 q (List.mem_cons_of_mem _ hq))
  have h4 : dup (namesP gl (putPr t q)) = false := h1 q (List.mem_cons_self ..)
  have h5 : fstB (badS gl (putPr t q) ps) (preSL (putPr t q).body) = if b = true ∧ ∃ s ∈ preSL q.body, s.id = t.id then t.id else 0 := by
   show fstB _ (preSL (putSL t q.body)) = _
   rw [preSL_put]
   refine fstB_put _ (fun s hs hne => ?_) (fun s hs he => ?_)
   ·rw [badS_put, if_neg hne]; exact h2 q (List.mem_cons_self ..) s hs
   ·rw [badS_put, if_pos he]; exact h3 q (List.mem_cons_self ..) s hs he
  rw [List.map_cons, chkL, h4, h5, ih]
  simp only [Bool.false_eq_true, if_false]
  by_cases hb : b = true
  ·by_cases he : ∃ s ∈ preSL q.body, s.id = t.id
   ·rw [if_pos (show b = true ∧ _ from ⟨hb, he⟩), if_neg h0, if_pos ⟨hb, q, List.mem_cons_self .., he⟩]
   ·rw [if_neg (show ¬(b = true ∧ ∃ s ∈ preSL q.body, s.id = t.id) from fun h => he h.2), if_pos rfl]
    congr 1
    simp [he]
  ·have e1 : (if b = true ∧ ∃ s ∈ preSL q.body, s.id = t.id then t.id else 0) = 0 := if_neg (fun h => hb h.1)
   rw [e1, if_pos rfl, if_neg (fun h => hb h.1), if_neg (fun h => hb h.1)]
/-- the first fault of names of a program in which one statement was put -/
theorem chkP_put {p : Pg} {t : S} {b : Bool} (h : ChOk p) (hs : ∀ q ∈ p.procs, ∀ x ∈ preSL q.body, x.id = t.id → stmtOk (hdT t x.th x.el) = true) (h0 : t.id ≠ 0) (hb : ∀ q ∈ p.procs, ∀ s ∈ preSL q.body, s.id = t.id → badS p.globals q (p.procs.map Pr.nm) t = b) : chkP (putP t p) = if b = true ∧ ∃ q ∈ p.procs, ∃ s ∈ preSL q.body, s.id = t.id then (5, t.id) else (0, 0) := by
 have hm := mayP_put h.may hs
 have hps : (p.procs.map (putPr t)).map Pr.nm = p.procs.map Pr.nm := by rw [List.map_map]; rfl
 have hmn : mainBad (putP t p) = mainBad p := by
  show ((p.procs.map (putPr t)).find? (isQ mainB)).elim true _ = _
  rw [List.find?_map, show (isQ mainB ∘ putPr t) = isQ mainB from rfl]
  unfold mainBad
  cases p.procs.find? (isQ mainB) <;> rfl
 have hh : hdBad (putP t p) = false := by
  unfold hdBad
  rw [hmn, show (putP t p).globals = p.globals from rfl, show (putP t p).procs = p.procs.map (putPr t) from rfl, hps, h.main, dup_of h.glob, dup_of h.procs]
  rfl
 unfold chkP
 rw [if_pos hm, hh, if_neg (by simp), show (putP t p).globals = p.globals from rfl, show (putP t p).procs = p.procs.map (putPr t) from rfl, hps]
 exact chkL_put h0 p.procs (fun q hq => dup_of (h.names q hq)) h.stm hb
end Go.Proofs.Ytehpinnmalpgpaa
namespace Go.Proofs.Ytehpinnmalpgpaa
open Go.ChangeShapes Go.WideShapes Go.ChangeAt Go.RowKit Go.Deep
set_option linter.unusedVariables false
set_option linter.unusedSimpArgs false
/-- how much a statement's head is -/
def hw : S → Nat
 | .mk _ _ labels nm proc x _ args _ _ => wE x + wT labels + (nm.size + 1) + (proc.size + 1) + wAr args
theorem wS_hw (id kind : Int) (labels : List ByteArray) (nm proc : ByteArray) (x : E) (has : Bool) (args : List Ar) (th el : List S) : wS (.mk id kind labels nm proc x has args th el) = hw (.mk id kind labels nm proc x has args th el) + wSL th + wSL el := by rw [wS, hw]
theorem wS_hdT (t : S) (a b : List S) : wS (hdT t a b) = hw t + wSL a + wSL b := by cases t; rw [hdT, wS, hw]
def cnt (i : Int) (l : List S) : Nat := l.countP (fun x => x.id == i)
theorem cnt_cons (i : Int) (s : S) (l : List S) : cnt i (s :: l) = cnt i l + if s.id = i then 1 else 0 := by
 unfold cnt
 rw [List.countP_cons]
 simp
theorem cnt_app (i : Int) (a b : List S) : cnt i (a ++ b) = cnt i a + cnt i b := List.countP_append
mutual
theorem wS_put (t : S) (c : Nat) : ∀ s : S, (∀ x ∈ preS s, x.id = t.id → hw t ≤ hw x + c) → wS (putS t s) ≤ wS s + c * cnt t.id (preS s)
 | .mk id kind labels nm proc x has args th el, h => by
  rw [preS] at h
  have h1 := wSL_put t c th (fun x hx => h x (List.mem_cons_of_mem _ (List.mem_append_left _ hx)))
  have h2 := wSL_put t c el (fun x hx => h x (List.mem_cons_of_mem _ (List.mem_append_right _ hx)))
  rw [preS, cnt_cons, cnt_app, wS_hw, putS_eq]
  rw [Nat.mul_add, Nat.mul_add]
  by_cases he : id = t.id
  ·have h3 := h _ (List.mem_cons_self ..) he
   rw [if_pos he, if_pos (show (S.mk id kind labels nm proc x has args th el).id = t.id from he), wS_hdT]
   omega
  ·rw [if_neg he, if_neg (show ¬(S.mk id kind labels nm proc x has args th el).id = t.id from he), wS_hw]
   have h4 : hw (.mk id kind labels nm proc x has args (putSL t th) (putSL t el)) = hw (.mk id kind labels nm proc x has args th el) := rfl
   omega
theorem wSL_put (t : S) (c : Nat) : ∀ l : List S, (∀ x ∈ preSL l, x.id = t.id → hw t ≤ hw x + c) → wSL (putSL t l) ≤ wSL l + c * cnt t.id (preSL l)
 | [], _ => by rw [putSL]; omega
 | s :: l, h => by
  rw [preSL] at h
  have h1 := wS_put t c s (fun x hx => h x (List.mem_append_left _ hx))
  have h2 := wSL_put t c l (fun x hx => h x (List.mem_append_right _ hx))
  rw [putSL, wSL, wSL, preSL, cnt_app, Nat.mul_add]
  omega
end
theorem cnt_one {l : List S} {c : Nat} (h : ∀ j (hj : j < l.length), l[j].id = ((c + 1 + j : Nat) : Int)) (i : Int) : cnt i l ≤ 1 := by
 have hn : (l.map S.id).Nodup := by
  rw [List.Nodup, List.pairwise_iff_getElem]
  intro a b ha hb hab
  rw [List.getElem_map, List.getElem_map, h a (by simpa using ha), h b (by simpa using hb)]
  omega
 have h2 := List.nodup_iff_count.1 hn i
 unfold cnt
 rw [List.count, List.countP_map] at h2
 exact h2
theorem prOk_cnt : ∀ (l : List Pr) (c c' : Nat), prOk l c = some c' → ∀ q ∈ l, ∀ i, cnt i (preSL q.body) ≤ 1
 | [], c, c', h => fun q hq => by cases hq
 | q :: l, c, c', h => by
  rw [prOk] at h
  split at h
  ·cases h1 : blkOk q.body 1 c with
   | none => rw [h1] at h; cases h
   | some c1 =>
    rw [h1] at h
    simp only [Option.bind_some] at h
    obtain ⟨a1, a2, a3⟩ := flatL_pre q.body 1 c c1 h1
    intro y hy i
    rcases List.mem_cons.1 hy with rfl | hy
    ·exact cnt_one a2 i
    ·exact prOk_cnt l c1 c' h y hy i
  ·cases h
/-- a program in which one statement was put is not too great -/
theorem fits_put {p : Pg} {t : S} {c : Nat} (hf : fitsP p = true) (hm : mayP p = true) (hc : c ≤ 900000) (h : ∀ q ∈ p.procs, ∀ x ∈ preSL q.body, x.id = t.id → hw t ≤ hw x + c) : SmG (putP t p) := by
 have hcn : ∀ q ∈ p.procs, ∀ i, cnt i (preSL q.body) ≤ 1 := by
  unfold mayP at hm
  rw [Bool.and_eq_true] at hm
  cases h3 : prOk p.procs 0 with
  | none => rw [h3] at hm; cases hm.2
  | some c => exact prOk_cnt p.procs 0 c h3
 unfold fitsP weighP at hf
 have h0 := of_decide_eq_true hf
 obtain ⟨h1, h2⟩ := weighQs_full p.procs _ h0
 have h3 := weighTs_eq p.globals 0 (by omega)
 refine ⟨by show wT p.globals ≤ _; omega, by show (p.procs.map (putPr t)).length ≤ _; rw [List.length_map]; omega, fun q hq => ?_⟩
 obtain ⟨q0, hq0, rfl⟩ := List.mem_map.1 hq
 obtain ⟨k1, k2, k3, k4⟩ := h2 q0 hq0
 have l1 := wSL_put t c q0.body (h q0 hq0)
 have l2 := Nat.mul_le_mul_left c (hcn q0 hq0 t.id)
 exact ⟨by show wSL (putSL t q0.body) ≤ _; omega, by show wT q0.vars ≤ _; omega, by show wT q0.end_ ≤ _; omega, by show q0.params.length ≤ _; omega⟩
end Go.Proofs.Ytehpinnmalpgpaa
namespace Go.Proofs.Ytehpinnmalpgpaa
open Go.ChangeShapes Go.WideShapes Go.ChangeAt Go.RowKit Go.Deep
set_option linter.unusedVariables false
set_option linter.unusedSimpArgs false
def gP (t : S) (y : S × Int) : S × Int := (putS t y.1, y.2)
theorem putS_ne {t s : S} (h : s.id ≠ t.id) : (putS t s).id = s.id ∧ (putS t s).kind = s.kind ∧ (putS t s).labels = s.labels ∧ (putS t s).nm = s.nm := by
 obtain ⟨id, kind, labels, nm, proc, x, has, args, th, el⟩ := s
 rw [putS_eq, if_neg (show ¬ id = t.id from h)]
 exact ⟨rfl, rfl, rfl, rfl⟩
theorem putS_at {t s : S} (h : s.id = t.id) : (putS t s).id = t.id ∧ (putS t s).kind = t.kind ∧ (putS t s).labels = t.labels ∧ (putS t s).nm = t.nm := by
 obtain ⟨id, kind, labels, nm, proc, x, has, args, th, el⟩ := s
 rw [putS_eq, if_pos (show id = t.id from h)]
 obtain ⟨tid, tkind, tlabels, tnm, tproc, tx, thas, targs, tth, tel⟩ := t
 exact ⟨rfl, rfl, rfl, rfl⟩
mutual
theorem lpS_put (t : S) : ∀ (s : S) (lp : Int), (∀ x ∈ preS s, x.id = t.id → x.th = [] ∧ x.el = []) → lpS (putS t s) lp = (lpS s lp).map (gP t)
 | .mk id kind labels nm proc x has args th el, lp, h => by
  rw [putS_eq]
  by_cases hid : id = t.id
  ·obtain ⟨h1, h2⟩ := h (.mk id kind labels nm proc x has args th el) (by rw [preS]; exact List.mem_cons_self ..) hid
   have h1' : th = [] := h1
   have h2' : el = [] := h2
   subst h1' h2'
   have e : putS t (.mk id kind labels nm proc x has args [] []) = hdT t [] [] := by rw [putS_eq, if_pos hid, putSL]
   have e2 : lpS (hdT t [] []) lp = [(hdT t [] [], lp)] := by
    obtain ⟨tid, tkind, tlabels, tnm, tproc, tx, thas, targs, tth, tel⟩ := t
    simp only [hdT, lpS, lpSL, List.append_nil]
   have e3 : lpS (.mk id kind labels nm proc x has args [] []) lp = [(.mk id kind labels nm proc x has args [] [], lp)] := by simp only [lpS, lpSL, List.append_nil]
   rw [if_pos hid, putSL, e2, e3, List.map_cons, List.map_nil, gP, e]
  ·rw [if_neg hid, lpS, lpS, List.map_cons, List.map_append, lpSL_put t th _ (fun x hx => h x (by rw [preS]; exact List.mem_cons_of_mem _ (List.mem_append_left _ hx))), lpSL_put t el _ (fun x hx => h x (by rw [preS]; exact List.mem_cons_of_mem _ (List.mem_append_right _ hx))), gP, putS_eq, if_neg hid]
theorem lpSL_put (t : S) : ∀ (l : List S) (lp : Int), (∀ x ∈ preSL l, x.id = t.id → x.th = [] ∧ x.el = []) → lpSL (putSL t l) lp = (lpSL l lp).map (gP t)
 | [], lp, _ => by rw [putSL, lpSL]; rfl
 | s :: l, lp, h => by
  rw [putSL, lpSL, lpSL, List.map_append, lpS_put t s lp (fun x hx => h x (by rw [preSL]; exact List.mem_append_left _ hx)), lpSL_put t l lp (fun x hx => h x (by rw [preSL]; exact List.mem_append_right _ hx))]
end
def lbs (L : List (S × Int)) : List ByteArray := L.flatMap (fun x => x.1.labels)
theorem wrL_app {f : ByteArray → Bool} : ∀ (A : List (S × Int)) (acc : List ByteArray) (M : List (S × Int)), wrL f acc A = none → wrL f acc (A ++ M) = wrL f (acc ++ lbs A) M
 | [], acc, M, _ => by rw [lbs, List.flatMap_nil, List.append_nil, List.nil_append]
 | x :: A, acc, M, h => by
  rw [wrL] at h
  split at h
  ·cases h
  ·rename_i hw
   rw [List.cons_append, wrL, if_neg hw, wrL_app A _ M h, lbs, lbs, List.flatMap_cons, List.append_assoc]
theorem wrL_split {f : ByteArray → Bool} : ∀ (A : List (S × Int)) (acc : List ByteArray) (M : List (S × Int)), wrL f acc (A ++ M) = none → wrL f acc A = none
 | [], acc, M, _ => rfl
 | x :: A, acc, M, h => by
  rw [List.cons_append, wrL] at h
  split at h
  ·cases h
  ·rename_i hw
   rw [wrL, if_neg hw]
   exact wrL_split A _ M h
theorem wrL_far {f : ByteArray → Bool} {t : S} : ∀ (L : List (S × Int)) (acc : List ByteArray), (∀ y ∈ L, y.1.id ≠ t.id) → wrL f acc (L.map (gP t)) = wrL f acc L ∧ lbs (L.map (gP t)) = lbs L
 | [], acc, _ => ⟨rfl, rfl⟩
 | y :: L, acc, h => by
  obtain ⟨h1, h2, h3, h4⟩ := putS_ne (h y (List.mem_cons_self ..))
  have e1 : (gP t y).1.labels = y.1.labels := h3
  have e2 : wrS f acc (gP t y) = wrS f acc y := by
   show (dupF (setF acc) (putS t y.1).labels || !landsB f (putS t y.1).kind (putS t y.1).nm y.2) = _
   rw [h2, h3, h4]
   rfl
  have e3 : (gP t y).1.id = y.1.id := h1
  obtain ⟨i1, i2⟩ := wrL_far L (acc ++ y.1.labels) (fun z hz => h z (List.mem_cons_of_mem _ hz))
  refine ⟨?_, ?_⟩
  ·rw [List.map_cons, wrL, wrL, e1, e2, e3, i1]
  ·unfold lbs at i2 ⊢
   rw [List.map_cons, List.flatMap_cons, List.flatMap_cons, e1, i2]
theorem wrL_turn {f : ByteArray → Bool} {t : S} {A B : List (S × Int)} {y : S × Int} (hA : ∀ z ∈ A, z.1.id ≠ t.id) (hB : ∀ z ∈ B, z.1.id ≠ t.id) (h0 : y.1.id = t.id) (hn : wrL f [] (A ++ y :: B) = none) :
 ((dupF (setF (lbs A)) t.labels || !landsB f t.kind t.nm y.2) = true → wrL f [] ((A ++ y :: B).map (gP t)) = some t.id) ∧ (t.labels = y.1.labels → landsB f t.kind t.nm y.2 = true → wrL f [] ((A ++ y :: B).map (gP t)) = none) := by
 obtain ⟨k1, k2, k3, k4⟩ := putS_at h0
 have e2 : wrS f (lbs A) (gP t y) = (dupF (setF (lbs A)) t.labels || !landsB f t.kind t.nm y.2) := by
  show (dupF (setF (lbs A)) (putS t y.1).labels || !landsB f (putS t y.1).kind (putS t y.1).nm y.2) = _
  rw [k2, k3, k4]
 have hA0 := wrL_split A [] (y :: B) hn
 obtain ⟨a1, a2⟩ := wrL_far (f := f) A [] hA
 rw [List.map_append, wrL_app (A.map (gP t)) [] _ (a1.trans hA0), a2, List.nil_append, List.map_cons, wrL, e2]
 refine ⟨fun h => ?_, fun h1 h2 => ?_⟩
 ·rw [if_pos h]
  exact congrArg some k1
 ·rw [wrL_app A [] _ hA0, List.nil_append, wrL] at hn
  split at hn
  ·cases hn
  ·rename_i hw
   have hw2 : wrS f (lbs A) y = false := by simpa using hw
   have hw3 : dupF (setF (lbs A)) y.1.labels = false := by
    unfold wrS at hw2
    rw [Bool.or_eq_false_iff] at hw2
    exact hw2.1
   rw [h1, hw3, h2, if_neg (by simp), show (gP t y).1.labels = y.1.labels from k3.trans h1, (wrL_far B _ hB).1]
   exact hn
theorem setF_eq {a b : List ByteArray} (h : ∀ y, y ∈ a ↔ y ∈ b) : setF a = setF b := by
 funext y
 unfold setF
 rw [Bool.eq_iff_iff, List.any_eq_true, List.any_eq_true]
 constructor
 ·rintro ⟨x, hx, hy⟩; exact ⟨x, (h x).1 hx, hy⟩
 ·rintro ⟨x, hx, hy⟩; exact ⟨x, (h x).2 hx, hy⟩
theorem labs_put {t : S} {l : List S} {b : List ByteArray} (h : ∀ x ∈ preSL l, x.id = t.id → ∀ y, y ∈ t.labels ↔ y ∈ x.labels) : ∀ y, y ∈ labsOf (preSL (putSL t l)) ++ b ↔ y ∈ labsOf (preSL l) ++ b := by
 intro y
 rw [preSL_put, List.mem_append, List.mem_append]
 refine or_congr ?_ Iff.rfl
 unfold labsOf
 rw [List.mem_flatMap, List.mem_flatMap]
 have key : ∀ x ∈ preSL l, (y ∈ (putS t x).labels ↔ y ∈ x.labels) := fun x hx => by
  by_cases hid : x.id = t.id
  ·rw [(putS_at hid).2.2.1]; exact h x hx hid y
  ·rw [(putS_ne hid).2.2.1]
 constructor
 ·rintro ⟨z, hz, hy⟩
  obtain ⟨x, hx, rfl⟩ := List.mem_map.1 hz
  exact ⟨x, hx, (key x hx).1 hy⟩
 ·rintro ⟨x, hx, hy⟩
  exact ⟨putS t x, List.mem_map_of_mem hx, (key x hx).2 hy⟩
theorem labs_same {t : S} {l : List S} (h : ∀ x ∈ preSL l, x.id = t.id → t.labels = x.labels) : labsOf (preSL (putSL t l)) = labsOf (preSL l) := by
 rw [preSL_put]
 generalize preSL l = L at h
 unfold labsOf
 induction L with
 | nil => rfl
 | cons x L ih =>
  rw [List.map_cons, List.flatMap_cons, List.flatMap_cons, ih (fun x hx => h x (List.mem_cons_of_mem _ hx))]
  congr 1
  by_cases hid : x.id = t.id
  ·rw [(putS_at hid).2.2.1]; exact h x (List.mem_cons_self ..) hid
  ·exact (putS_ne hid).2.2.1
theorem wrQ_far {q : Pr} {t : S} (h : ∀ x ∈ preSL q.body, x.id ≠ t.id) : wrQ (putPr t q) = wrQ q := by
 have h1 : labsOf (preSL (putSL t q.body)) = labsOf (preSL q.body) := labs_same (fun x hx he => absurd he (h x hx))
 have h2 : allLb (putPr t q) = allLb q := by unfold allLb; show labsOf (preSL (putSL t q.body)) ++ q.end_ = _; rw [h1]
 have h3 : lpSL (putSL t q.body) 0 = (lpSL q.body 0).map (gP t) := lpSL_put t q.body 0 (fun x hx he => absurd he (h x hx))
 unfold wrQ
 rw [h2, show lpSL (putPr t q).body 0 = _ from h3, (wrL_far (lpSL q.body 0) [] (fun y hy => h y.1 (by rw [← lpSL_fst q.body 0]; exact List.mem_map_of_mem hy))).1, show labsOf (preSL (putPr t q).body) = _ from h1]
 rfl
theorem wrQ_turn {q : Pr} {t s : S} {lp : Int} (hl : (s, lp) ∈ lpSL q.body 0) (hid : s.id = t.id) (ho : ∀ x ∈ preSL q.body, x.id = t.id → x = s) (hc : cnt t.id (preSL q.body) ≤ 1) (hth : s.th = [] ∧ s.el = []) (hmem : ∀ y, y ∈ t.labels ↔ y ∈ s.labels) (hq : (wrQ q).2 = false) :
 (t.labels = s.labels → landsB (setF (allLb q)) t.kind t.nm lp = true → (wrQ (putPr t q)).2 = false) ∧ (landsB (setF (allLb q)) t.kind t.nm lp = false ∨ (s.labels ≠ [] ∧ t.labels = s.labels ++ s.labels) → wrQ (putPr t q) = (t.id, true)) := by
 have h2 : setF (allLb (putPr t q)) = setF (allLb q) := setF_eq (fun y => labs_put (t := t) (l := q.body) (b := q.end_) (fun x hx he y => by rw [ho x hx he]; exact hmem y) y)
 have h3 : lpSL (putSL t q.body) 0 = (lpSL q.body 0).map (gP t) := lpSL_put t q.body 0 (fun x hx he => by rw [ho x hx he]; exact hth)
 obtain ⟨A, B, hAB⟩ := List.append_of_mem hl
 have hfst : preSL q.body = A.map Prod.fst ++ s :: B.map Prod.fst := by rw [← lpSL_fst q.body 0, hAB, List.map_append, List.map_cons]
 rw [hfst, cnt_app, cnt_cons, if_pos hid] at hc
 have far : ∀ M : List (S × Int), cnt t.id (M.map Prod.fst) = 0 → ∀ z ∈ M, z.1.id ≠ t.id := fun M hM z hz e => by
  unfold cnt at hM
  rw [List.countP_eq_zero] at hM
  exact hM z.1 (List.mem_map_of_mem hz) (by simpa using e)
 have hA := far A (by omega)
 have hB := far B (by omega)
 have hw : wrL (setF (allLb q)) [] (A ++ (s, lp) :: B) = none := by
  unfold wrQ at hq
  rw [← hAB]
  cases hx : wrL (setF (allLb q)) [] (lpSL q.body 0) with
  | none => rfl
  | some i => rw [hx] at hq; cases hq
 obtain ⟨b1, b2⟩ := wrL_turn (y := (s, lp)) hA hB hid hw
 refine ⟨fun h4 h5 => ?_, fun h => ?_⟩
 ·have h6 := b2 h4 h5
  unfold wrQ
  rw [h2, show lpSL (putPr t q).body 0 = _ from h3, hAB, h6]
  show dupF (setF (labsOf (preSL (putSL t q.body)))) q.end_ = false
  rw [labs_same (fun x hx he => by rw [ho x hx he]; exact h4)]
  unfold wrQ at hq
  rw [hAB, hw] at hq
  exact hq
 ·have h6 := b1 (by
   rw [Bool.or_eq_true]
   rcases h with h | ⟨h7, h8⟩
   ·exact .inr (by rw [h]; rfl)
   ·refine .inl ?_
    rw [dupF_set, h8]
    cases hd : dupL (lbs A) (s.labels ++ s.labels) with
    | true => rfl
    | false =>
     obtain ⟨_, h9⟩ := dupL_false _ _ hd
     obtain ⟨z, hz⟩ := List.exists_mem_of_ne_nil _ h7
     exact absurd rfl ((List.nodup_append.1 h9).2.2 z hz z hz))
  unfold wrQ
  rw [h2, show lpSL (putPr t q).body 0 = _ from h3, hAB, h6]
  rfl
theorem chkJ_good {t : S} : ∀ l : List Pr, (∀ q ∈ l, (wrQ (putPr t q)).2 = false) → chkJ (l.map (putPr t)) = (0, 0)
 | [], _ => rfl
 | q :: l, h => by
  rw [List.map_cons, chkJ, h q (List.mem_cons_self ..), if_neg (by simp)]
  exact chkJ_good l (fun q hq => h q (List.mem_cons_of_mem _ hq))
theorem chkJ_bad {t : S} : ∀ l : List Pr, (∀ q ∈ l, (wrQ (putPr t q)).2 = false ∨ wrQ (putPr t q) = (t.id, true)) → (∃ q ∈ l, wrQ (putPr t q) = (t.id, true)) → chkJ (l.map (putPr t)) = (7, t.id)
 | [], _, h => by obtain ⟨q, hq, _⟩ := h; cases hq
 | q :: l, h, he => by
  rw [List.map_cons, chkJ]
  rcases h q (List.mem_cons_self ..) with h1 | h1
  ·rw [h1, if_neg (by simp)]
   refine chkJ_bad l (fun q hq => h q (List.mem_cons_of_mem _ hq)) ?_
   obtain ⟨x, hx, hxe⟩ := he
   rcases List.mem_cons.1 hx with rfl | hx
   ·rw [hxe] at h1; cases h1
   ·exact ⟨x, hx, hxe⟩
  ·rw [h1, if_pos rfl]
theorem jck_turn {p : Pg} {t s : S} {q : Pr} {lp : Int} (hc : ChOk p) (hj : (jCheck p).1 = 0) (ha : AtId p t.id q s) (hl : (s, lp) ∈ lpSL q.body 0) (hth : s.th = [] ∧ s.el = []) (hmem : ∀ y, y ∈ t.labels ↔ y ∈ s.labels) (hso : stmtOk (hdT t [] []) = true) (hbd : badS p.globals q (p.procs.map Pr.nm) t = false) :
 (t.labels = s.labels → landsB (setF (allLb q)) t.kind t.nm lp = true → jCheck (putP t p) = (0, 0)) ∧ (landsB (setF (allLb q)) t.kind t.nm lp = false ∨ (s.labels ≠ [] ∧ t.labels = s.labels ++ s.labels) → jCheck (putP t p) = (7, t.id)) := by
 have hq1 : ∀ q' ∈ p.procs, ∀ y ∈ preSL q'.body, y.id = t.id → y = s ∧ q' = q := fun q' hq' y hy he => by
  obtain ⟨h1, h2⟩ := ha.only q' hq' y hy he
  have h3 := find_own p.procs hc.procs q' hq'
  rw [h2, find_own p.procs hc.procs q ha.mem] at h3
  exact ⟨h1, (Option.some.inj h3).symm⟩
 have hid : t.id ≠ 0 := by have := may_ids hc.may q ha.mem s ha.stm; have := ha.eid; omega
 have hcp := chkP_put (p := p) (t := t) (b := false) hc (fun q' hq' y hy he => by
   obtain ⟨rfl, rfl⟩ := hq1 q' hq' y hy he
   rw [hth.1, hth.2]
   exact hso) hid (fun q' hq' y hy he => by
   obtain ⟨rfl, rfl⟩ := hq1 q' hq' y hy he
   exact hbd)
 rw [if_neg (fun h => by cases h.1)] at hcp
 have hck : chkOK (putP t p) = true := by unfold chkOK; rw [hcp]; rfl
 obtain ⟨hk0, _⟩ := jck_ok hj
 have hw : ∀ q' ∈ p.procs, (wrQ q').2 = false := by
  unfold jCheck at hj
  rw [if_pos hk0] at hj
  exact chkJ_ok _ hj
 have hcn : ∀ q' ∈ p.procs, ∀ i, cnt i (preSL q'.body) ≤ 1 := by
  have hm := hc.may
  unfold mayP at hm
  rw [Bool.and_eq_true] at hm
  cases h3 : prOk p.procs 0 with
  | none => rw [h3] at hm; cases hm.2
  | some c => exact prOk_cnt p.procs 0 c h3
 obtain ⟨w1, w2⟩ := wrQ_turn hl ha.eid (fun x hx he => (hq1 q ha.mem x hx he).1) (hcn q ha.mem _) hth hmem (hw q ha.mem)
 have hfar : ∀ q' ∈ p.procs, q' ≠ q → (wrQ (putPr t q')).2 = false := fun q' hq' hne => by
  rw [wrQ_far (fun x hx he => hne (hq1 q' hq' x hx he).2)]
  exact hw q' hq'
 unfold jCheck
 rw [if_pos hck]
 show (_ → _ → chkJ (p.procs.map (putPr t)) = _) ∧ (_ → chkJ (p.procs.map (putPr t)) = _)
 refine ⟨fun h1 h2 => chkJ_good _ (fun q' hq' => ?_), fun h => chkJ_bad _ (fun q' hq' => ?_) ⟨q, ha.mem, w2 h⟩⟩
 ·by_cases he : q' = q
  ·rw [he]; exact w1 h1 h2
  ·exact hfar q' hq' he
 ·by_cases he : q' = q
  ·rw [he]; exact .inr (w2 h)
  ·exact .inl (hfar q' hq' he)
def tGo (s : S) (nm : ByteArray) : S := .mk s.id 10 s.labels nm b0 eZ false [] [] []
def tBr (s : S) (k : Int) : S := .mk s.id k s.labels b0 b0 eZ false [] [] []
def tTw : S → S | .mk id kind labels nm proc x has args th el => .mk id kind (labels ++ labels) nm proc x has args th el
theorem st_labels {s : S} (h : stmtOk s = true) : allN s.labels = true := by
 obtain ⟨id, kind, labels, nm, proc, x, has, args, th, el⟩ := s
 unfold stmtOk at h
 simp only [Bool.and_eq_true] at h
 exact h.1.1.1.2
theorem tGo_ok {s : S} {nm : ByteArray} (h : stmtOk s = true) (hn : isNm (bl nm) = true) : stmtOk (hdT (tGo s nm) [] []) = true := by
 have h1 := st_labels h
 unfold tGo
 rw [hdT, stmtOk]
 simp [shp, nmOk, hn, h1, xOk, noneE, eZ, argsOk]
theorem tBr_ok {s : S} {k : Int} (h : stmtOk s = true) (hk : k = 7 ∨ k = 8) : stmtOk (hdT (tBr s k) [] []) = true := by
 have h1 := st_labels h
 unfold tBr
 rw [hdT, stmtOk]
 rcases hk with rfl | rfl
 ·simp [shp, nmOk, h1, xOk, noneE, eZ, argsOk]
 ·simp [shp, nmOk, h1, xOk, noneE, eZ, argsOk]
theorem tTw_ok {s : S} (h : stmtOk s = true) (hth : s.th = [] ∧ s.el = []) : stmtOk (hdT (tTw s) [] []) = true := by
 obtain ⟨id, kind, labels, nm, proc, x, has, args, th, el⟩ := s
 have h1 : th = [] := hth.1
 have h2 : el = [] := hth.2
 subst h1 h2
 have h3 : allN (labels ++ labels) = allN labels := by unfold allN; rw [List.all_append, Bool.and_self]
 rw [stmtOk] at h
 rw [tTw, hdT, stmtOk, h3]
 exact h
theorem tGo_bad (gl ps : List ByteArray) (q : Pr) (s : S) (nm : ByteArray) : badS gl q ps (tGo s nm) = false := by
 unfold badS rightS tGo
 have : varsS (.mk s.id 10 s.labels nm b0 eZ false [] [] []) = [] := by
  unfold varsS ownV
  simp [S.x, S.kind, S.nm, S.args]
  decide
 rw [this]
 simp [S.kind]
theorem tBr_bad (gl ps : List ByteArray) (q : Pr) (s : S) (k : Int) (hk : k = 7 ∨ k = 8) : badS gl q ps (tBr s k) = false := by
 unfold badS rightS tBr
 have : varsS (.mk s.id k s.labels b0 b0 eZ false [] [] []) = [] := by
  unfold varsS ownV
  simp [S.x, S.kind, S.nm, S.args]
  decide
 rw [this]
 rcases hk with rfl | rfl <;> simp [S.kind]
theorem tTw_bad (gl ps : List ByteArray) (q : Pr) (s : S) : badS gl q ps (tTw s) = badS gl q ps s := by
 obtain ⟨id, kind, labels, nm, proc, x, has, args, th, el⟩ := s
 rfl
end Go.Proofs.Ytehpinnmalpgpaa
namespace Go.Proofs.Ytehpinnmalpgpaa
open Go.ChangeShapes Go.WideShapes Go.ChangeAt Go.RowKit Go.Deep
set_option linter.unusedVariables false
set_option linter.unusedSimpArgs false
set_option maxHeartbeats 4000000 in
set_option maxRecDepth 100000 in
theorem rProcOf_any {w : World} {Q : Nat → Prop} {p : Pg} {c0 c1 : Value} (h : ProgI w Q p [c0, c1]) (id0 : Int) (W : World) (hI : In Q w W) :
 Calls Try.prog 37 #[.agg #[c0, c1], .int .i64 id0] W fun e w' => e = .returned (.string (pfP p id0)) ∧ Below W.heap.size W w' := by
 have HFd := Lib.hid (fun V hV => rFind_any h id0 V hV)
 obtain ⟨Ag, cg, Ap, cp, rfl, rfl, _⟩ := prog_open h
 have HI := Lib.hid hI
 have HK : Hid (pfP p id0 = (rfL p.procs id0).elim ⟨#[]⟩ Prod.snd) := Lib.hid rfl
 clear h hI
 generalize rfL p.procs id0 = r at HFd HK
 go_enter Try.func37, Try.ntmps37
 go_upto_region 1 with fail
 have HB0 : Hid (Below W.heap.size W (W.alloc (.cells #[.slice Ag p.globals.length cg, .slice Ap p.procs.length cp] 25))) := Lib.hid (below_box _)
 have HBp : Hid (Blk (W.alloc (.cells #[.slice Ag p.globals.length cg, .slice Ap p.procs.length cp] 25)) W.heap.size 25 #[.slice Ag p.globals.length cg, .slice Ap p.procs.length cp]) := Lib.hid (Blk.new _ _ _)
 generalize World.alloc _ _ = V at HB0 HBp ⊢
 have HI0 := Lib.hid (HI.out.on HB0.out)
 generalize hbe : W.heap.size = b at HBp ⊢
 clear hbe
 have q0 : V.cell? ⟨b, 0, none⟩ = some (.slice Ag p.globals.length cg) := by rw [HBp.out.cell]; rfl
 have q1 : V.cell? ⟨b, 1, none⟩ = some (.slice Ap p.procs.length cp) := by rw [HBp.out.cell]; rfl
 have hIt : ∀ cs : Array Value, ItemI w Q (r.elim It0 Prod.fst) cs.toList → ∃ (id kind : Int) (labels : List ByteArray) (nm proc : ByteArray) (has : Bool) (args : List Ar) (th el : List S) (L : Option Addr) (lc : Nat) (y0 y1 : Int) (y2 : ByteArray) (X : Option Addr) (xn xc : Nat) (R : Option Addr) (rc : Nat) (T : Option Addr) (tc : Nat) (U : Option Addr) (uc : Nat) (dp inn : Int) (els : Bool), cs = #[.int .i64 id, .int .i64 kind, .slice L labels.length lc, .string nm, .string proc, .int .i64 y0, .int .i64 y1, .string y2, .slice X xn xc, .bool has, .slice R args.length rc, .slice T th.length tc, .slice U el.length uc, .int .i64 dp, .int .i64 inn, .bool els] := by
  rintro cs ⟨c, hc, hst⟩
  obtain ⟨id, kind, labels, nm, proc, x, has, args, th, el, L, lc, y0, y1, y2, X, xn, xc, R, rc, T, tc, U, uc, hmk, rfl, _⟩ := stmt_open hst
  refine ⟨id, kind, labels, nm, proc, has, args, th, el, L, lc, y0, y1, y2, X, xn, xc, R, rc, T, tc, U, uc, (r.elim It0 Prod.fst).deep, (r.elim It0 Prod.fst).inn, (r.elim It0 Prod.fst).els, ?_⟩
  rw [← Array.toArray_toList (xs := cs), hc]
  rfl
 have HIt := Lib.hid hIt
 clear hIt
 go_upto_region 2 with (go_at_call 35; refine (HFd.out V HI0.out).mono ?_; rintro e' w1 ⟨cs, rfl, hit, hb1⟩; obtain ⟨id, kind, labels, nm, proc, has, args, th, el, L, lc, y0, y1, y2, X, xn, xc, R, rc, T, tc, U, uc, dp, inn, els, rfl⟩ := HIt.out _ hit; clear hit)
 go_wp2_with fail
 go_ret
 exact ⟨by rw [HK.out]; rfl, below_step HB0.out (below_stepA hb1 _)⟩
end Go.Proofs.Ytehpinnmalpgpaa
