/- Texts, merged by a program; only what is used. -/
import Derived.Test.YtnnblklbjbkikaaP1
import Derived.Test.YtnnblklbjbkikaaP2
import Derived.Test.YtnnblklbjbkikaaP3
import Derived.Test.YtnnblklbjbkikaaP4
import Derived.Test.YtnnblklbjbkikaaP5
import Derived.Test.YtnnblklbjbkikaaP6
import Derived.Test.YtnnblklbjbkikaaP7
import Derived.Test.YtnnblklbjbkikaaP8
import Derived.Test.YtnnblklbjbkikaaP9
import Derived.Test.YtnnblklbjbkikaaP10
import Derived.Test.YtnnblklbjbkikaaP11
import Derived.Test.YtnnblklbjbkikaaP12
import Derived.Test.YtnnblklbjbkikaaP13
import Derived.Test.YtnnblklbjbkikaaP14
import Derived.Test.YtnnblklbjbkikaaP15
import Derived.Test.YtnnblklbjbkikaaP16
import Derived.Test.YtnnblklbjbkikaaP17
import Derived.Test.YtnnblklbjbkikaaP18
import Derived.Test.YtnnblklbjbkikaaP19
import Derived.Test.YtnnblklbjbkikaaP20
namespace Go.Proofs.Ytnnblklbjbkikaa
open Go.ChangeShapes Go.WideShapes Go.ChangeAt Go.RowKit Go.Deep
set_option linter.unusedVariables false
set_option linter.unusedSimpArgs false
def stP (p : Pg) (id : Int) : S := ((rfL p.procs id).elim It0 Prod.fst).s
def StRes (w : World) (Q : Nat → Prop) (s : S) (W : World) (e : Ending) (w' : World) : Prop := ∃ cs : List Value, e = .returned (.agg cs.toArray) ∧ StmtI w Q s cs ∧ Below W.heap.size W w'
set_option maxHeartbeats 4000000 in
set_option maxRecDepth 100000 in
theorem rStmt_any {w : World} {Q : Nat → Prop} {p : Pg} {c0 c1 : Value} (h : ProgI w Q p [c0, c1]) (id0 : Int) (W : World) (hI : In Q w W) :
 Calls Try.prog 31 #[.agg #[c0, c1], .int .i64 id0] W (StRes w Q (stP p id0) W) := by
 have HFd := Lib.hid (fun V hV => rFind_any h id0 V hV)
 obtain ⟨Ag, cg, Ap, cp, rfl, rfl, _⟩ := prog_open h
 have HI := Lib.hid hI
 have HK : Hid (stP p id0 = ((rfL p.procs id0).elim It0 Prod.fst).s) := Lib.hid rfl
 clear h hI
 generalize rfL p.procs id0 = r at HFd HK
 go_enter Try.func31, Try.ntmps31
 go_upto_region 1 with fail
 have HB0 : Hid (Below W.heap.size W ((W.alloc (.cells #[.slice Ag p.globals.length cg, .slice Ap p.procs.length cp] 25)).alloc (.cells zS 55))) := Lib.hid (below_two _ _)
 have HBp : Hid (Blk ((W.alloc (.cells #[.slice Ag p.globals.length cg, .slice Ap p.procs.length cp] 25)).alloc (.cells zS 55)) W.heap.size 25 #[.slice Ag p.globals.length cg, .slice Ap p.procs.length cp]) := Lib.hid ((Blk.new _ _ _).alloc _)
 have HBf : Hid (Blk ((W.alloc (.cells #[.slice Ag p.globals.length cg, .slice Ap p.procs.length cp] 25)).alloc (.cells zS 55)) (W.heap.size + 1) 55 zS) := Lib.hid (by have := Blk.new (W.alloc (.cells #[.slice Ag p.globals.length cg, .slice Ap p.procs.length cp] 25)) 55 zS; rw [World.size_alloc] at this; exact this)
 generalize World.alloc _ _ = V at HB0 HBp HBf ⊢
 have HI0 := Lib.hid (HI.out.on HB0.out)
 have hwb : W.heap.size ≤ W.heap.size + 1 := by omega
 generalize hbe : W.heap.size = b at HBp HBf hwb ⊢
 generalize hfe : b + 1 = f at HBf hwb ⊢
 have hWf : W.heap.size ≤ f := by omega
 clear hbe hfe
 have q0 : V.cell? ⟨b, 0, none⟩ = some (.slice Ag p.globals.length cg) := by rw [HBp.out.cell]; rfl
 have q1 : V.cell? ⟨b, 1, none⟩ = some (.slice Ap p.procs.length cp) := by rw [HBp.out.cell]; rfl
 have hfl := HBf.out.lt
 have hIt : ∀ cs : Array Value, ItemI w Q (r.elim It0 Prod.fst) cs.toList → ∃ (id kind : Int) (labels : List ByteArray) (nm proc : ByteArray) (x : E) (has : Bool) (args : List Ar) (th el : List S) (L : Option Addr) (lc : Nat) (y0 y1 : Int) (y2 : ByteArray) (X : Option Addr) (xn xc : Nat) (R : Option Addr) (rc : Nat) (T : Option Addr) (tc : Nat) (U : Option Addr) (uc : Nat) (dp inn : Int) (els : Bool), cs = #[.int .i64 id, .int .i64 kind, .slice L labels.length lc, .string nm, .string proc, .int .i64 y0, .int .i64 y1, .string y2, .slice X xn xc, .bool has, .slice R args.length rc, .slice T th.length tc, .slice U el.length uc, .int .i64 dp, .int .i64 inn, .bool els] ∧ StmtI w Q (r.elim It0 Prod.fst).s [.int .i64 id, .int .i64 kind, .slice L labels.length lc, .string nm, .string proc, .int .i64 y0, .int .i64 y1, .string y2, .slice X xn xc, .bool has, .slice R args.length rc, .slice T th.length tc, .slice U el.length uc] := by
  rintro cs ⟨c, hc, hst⟩
  obtain ⟨id, kind, labels, nm, proc, x, has, args, th, el, L, lc, y0, y1, y2, X, xn, xc, R, rc, T, tc, U, uc, hmk, rfl, _⟩ := stmt_open hst
  refine ⟨id, kind, labels, nm, proc, x, has, args, th, el, L, lc, y0, y1, y2, X, xn, xc, R, rc, T, tc, U, uc, (r.elim It0 Prod.fst).deep, (r.elim It0 Prod.fst).inn, (r.elim It0 Prod.fst).els, ?_, hst⟩
  rw [← Array.toArray_toList (xs := cs), hc]
  rfl
 have HIt := Lib.hid hIt
 clear hIt
 go_upto_region 2 with (go_at_call 50; refine (HFd.out V HI0.out).mono ?_; rintro e' w1 ⟨cs, rfl, hit, hb1⟩; obtain ⟨id, kind, labels, nm, proc, x, has, args, th, el, L, lc, y0, y1, y2, X, xn, xc, R, rc, T, tc, U, uc, dp, inn, els, rfl, hst⟩ := HIt.out _ hit; have HSt := Lib.hid hst; clear hst hit)
 have HBi : Hid (Blk (w1.alloc (.cells #[.int .i64 id, .int .i64 kind, .slice L labels.length lc, .string nm, .string proc, .int .i64 y0, .int .i64 y1, .string y2, .slice X xn xc, .bool has, .slice R args.length rc, .slice T th.length tc, .slice U el.length uc, .int .i64 dp, .int .i64 inn, .bool els] 81)) w1.heap.size 81 #[.int .i64 id, .int .i64 kind, .slice L labels.length lc, .string nm, .string proc, .int .i64 y0, .int .i64 y1, .string y2, .slice X xn xc, .bool has, .slice R args.length rc, .slice T th.length tc, .slice U el.length uc, .int .i64 dp, .int .i64 inn, .bool els]) := Lib.hid (Blk.new _ _ _)
 have HB1 : Hid (Below V.heap.size V (w1.alloc (.cells #[.int .i64 id, .int .i64 kind, .slice L labels.length lc, .string nm, .string proc, .int .i64 y0, .int .i64 y1, .string y2, .slice X xn xc, .bool has, .slice R args.length rc, .slice T th.length tc, .slice U el.length uc, .int .i64 dp, .int .i64 inn, .bool els] 81))) := Lib.hid (below_stepA hb1 _)
 clear q0 q1 hb1 HFd HIt
 generalize World.alloc w1 _ = V1 at HBi HB1 ⊢
 generalize w1.heap.size = bi at HBi ⊢
 have HBf1 := Lib.hid (HBf.out.below HB1.out hfl)
 have HBW := Lib.hid (below_step HB0.out HB1.out)
 have s0 : V1.cell? ⟨bi, 0, none⟩ = some (.int .i64 id) := by rw [HBi.out.cell]; rfl
 have s1 : V1.cell? ⟨bi, 1, none⟩ = some (.int .i64 kind) := by rw [HBi.out.cell]; rfl
 have s2 : V1.cell? ⟨bi, 2, none⟩ = some (.slice L labels.length lc) := by rw [HBi.out.cell]; rfl
 have s3 : V1.cell? ⟨bi, 3, none⟩ = some (.string nm) := by rw [HBi.out.cell]; rfl
 have s4 : V1.cell? ⟨bi, 4, none⟩ = some (.string proc) := by rw [HBi.out.cell]; rfl
 have s5 : V1.cell? ⟨bi, 5, none⟩ = some (.int .i64 y0) := by rw [HBi.out.cell]; rfl
 have s6 : V1.cell? ⟨bi, 6, none⟩ = some (.int .i64 y1) := by rw [HBi.out.cell]; rfl
 have s7 : V1.cell? ⟨bi, 7, none⟩ = some (.string y2) := by rw [HBi.out.cell]; rfl
 have s8 : V1.cell? ⟨bi, 8, none⟩ = some (.slice X xn xc) := by rw [HBi.out.cell]; rfl
 have s9 : V1.cell? ⟨bi, 9, none⟩ = some (.bool has) := by rw [HBi.out.cell]; rfl
 have s10 : V1.cell? ⟨bi, 10, none⟩ = some (.slice R args.length rc) := by rw [HBi.out.cell]; rfl
 have s11 : V1.cell? ⟨bi, 11, none⟩ = some (.slice T th.length tc) := by rw [HBi.out.cell]; rfl
 have s12 : V1.cell? ⟨bi, 12, none⟩ = some (.slice U el.length uc) := by rw [HBi.out.cell]; rfl
 have f0_ := HBf1.out.frozen 0
 have y0_ : V1.cell? ⟨f, 0, none⟩ = some (.int .i64 0) := by rw [HBf1.out.cell]; rfl
 have f1_ := HBf1.out.frozen 1
 have y1_ : V1.cell? ⟨f, 1, none⟩ = some (.int .i64 0) := by rw [HBf1.out.cell]; rfl
 have f2_ := HBf1.out.frozen 2
 have y2_ : V1.cell? ⟨f, 2, none⟩ = some (.slice none 0 0) := by rw [HBf1.out.cell]; rfl
 have f3_ := HBf1.out.frozen 3
 have y3_ : V1.cell? ⟨f, 3, none⟩ = some (.string ⟨#[]⟩) := by rw [HBf1.out.cell]; rfl
 have f4_ := HBf1.out.frozen 4
 have y4_ : V1.cell? ⟨f, 4, none⟩ = some (.string ⟨#[]⟩) := by rw [HBf1.out.cell]; rfl
 have f5_ := HBf1.out.frozen 5
 have y5_ : V1.cell? ⟨f, 5, none⟩ = some (.int .i64 0) := by rw [HBf1.out.cell]; rfl
 have f6_ := HBf1.out.frozen 6
 have y6_ : V1.cell? ⟨f, 6, none⟩ = some (.int .i64 0) := by rw [HBf1.out.cell]; rfl
 have f7_ := HBf1.out.frozen 7
 have y7_ : V1.cell? ⟨f, 7, none⟩ = some (.string ⟨#[]⟩) := by rw [HBf1.out.cell]; rfl
 have f8_ := HBf1.out.frozen 8
 have y8_ : V1.cell? ⟨f, 8, none⟩ = some (.slice none 0 0) := by rw [HBf1.out.cell]; rfl
 have f9_ := HBf1.out.frozen 9
 have y9_ : V1.cell? ⟨f, 9, none⟩ = some (.bool false) := by rw [HBf1.out.cell]; rfl
 have f10_ := HBf1.out.frozen 10
 have y10_ : V1.cell? ⟨f, 10, none⟩ = some (.slice none 0 0) := by rw [HBf1.out.cell]; rfl
 have f11_ := HBf1.out.frozen 11
 have y11_ : V1.cell? ⟨f, 11, none⟩ = some (.slice none 0 0) := by rw [HBf1.out.cell]; rfl
 have f12_ := HBf1.out.frozen 12
 have y12_ : V1.cell? ⟨f, 12, none⟩ = some (.slice none 0 0) := by rw [HBf1.out.cell]; rfl
 go_wp2_with fail
 refine bodyPost_ret (results_c1 rfl _ _ f 55 #[.int .i64 id, .int .i64 kind, .slice L labels.length lc, .string nm, .string proc, .int .i64 y0, .int .i64 y1, .string y2, .slice X xn xc, .bool has, .slice R args.length rc, .slice T th.length tc, .slice U el.length uc] (0, 0) _ rfl (blk13 HBf1.out) Try.underlying55 rfl (by kernel_rfl)) rfl ?_
 refine ⟨[.int .i64 id, .int .i64 kind, .slice L labels.length lc, .string nm, .string proc, .int .i64 y0, .int .i64 y1, .string y2, .slice X xn xc, .bool has, .slice R args.length rc, .slice T th.length tc, .slice U el.length uc], rfl, by rw [HK.out]; exact HSt.out, ?_⟩
 iterate 13 (refine below_setc ?_ hWf _)
 exact HBW.out
end Go.Proofs.Ytnnblklbjbkikaa
namespace Go.Proofs.Ytnnblklbjbkikaa
open Go.ChangeShapes Go.WideShapes Go.ChangeAt Go.RowKit Go.Deep
set_option linter.unusedVariables false
set_option linter.unusedSimpArgs false
/-- the head of t, and other rows in it -/
def hdT : S → List S → List S → S
 | .mk id kind labels nm proc x has args _ _, th, el => .mk id kind labels nm proc x has args th el
theorem putS_eq (t : S) (id kind : Int) (labels : List ByteArray) (nm proc : ByteArray) (x : E) (has : Bool) (args : List Ar) (th el : List S) : putS t (.mk id kind labels nm proc x has args th el) = if id = t.id then hdT t (putSL t th) (putSL t el) else .mk id kind labels nm proc x has args (putSL t th) (putSL t el) := by
 obtain ⟨tid, tkind, tlabels, tnm, tproc, tx, thas, targs, tth, tel⟩ := t
 rw [putS]; rfl
theorem hdT_id (t : S) (a b : List S) : (hdT t a b).id = t.id := by cases t; rfl
theorem putS_id (t s : S) : (putS t s).id = s.id := by
 obtain ⟨id, kind, labels, nm, proc, x, has, args, th, el⟩ := s
 rw [putS_eq]
 split
 ·rename_i h; rw [hdT_id, ← h]; rfl
 ·rfl
theorem preS_hdT (t : S) (a b : List S) : preS (hdT t a b) = hdT t a b :: (preSL a ++ preSL b) := by cases t; rw [hdT, preS]
mutual
theorem preS_put (t : S) : ∀ s : S, preS (putS t s) = (preS s).map (putS t)
 | .mk id kind labels nm proc x has args th el => by
  have h1 := preSL_put t th
  have h2 := preSL_put t el
  rw [preS, List.map_cons, List.map_append, ← h1, ← h2, putS_eq]
  split
  ·rw [preS_hdT]
  ·rw [preS]
theorem preSL_put (t : S) : ∀ l : List S, preSL (putSL t l) = (preSL l).map (putS t)
 | [] => by rw [putSL, preSL]; rfl
 | s :: l => by rw [putSL, preSL, preSL, List.map_append, preS_put t s, preSL_put t l]
end
theorem stmtOk_len (t : S) {a b a' b' : List S} (h1 : a.length = a'.length) (h2 : b.length = b'.length) : stmtOk (hdT t a b) = stmtOk (hdT t a' b') := by
 obtain ⟨tid, tkind, tlabels, tnm, tproc, tx, thas, targs, tth, tel⟩ := t
 simp only [hdT, stmtOk, h1, h2]
mutual
theorem oneOk_put (t : S) : ∀ (s : S) (d c c' : Nat), (∀ x ∈ preS s, x.id = t.id → stmtOk (hdT t x.th x.el) = true) → oneOk s d c = some c' → oneOk (putS t s) d c = some c'
 | .mk id kind labels nm proc x has args th el, d, c, c', h, ho => by
  rw [oneOk] at ho
  split at ho
  ·rename_i hc
   rw [preS] at h
   cases h1 : blkOk th (d + 1) (c + 1) with
   | none => rw [h1] at ho; cases ho
   | some c1 =>
    rw [h1] at ho
    simp only [Option.bind_some] at ho
    have g1 := blkOk_put t th (d + 1) (c + 1) c1 (fun x hx => h x (List.mem_cons_of_mem _ (List.mem_append_left _ hx))) h1
    have g2 := blkOk_put t el (d + 1) c1 c' (fun x hx => h x (List.mem_cons_of_mem _ (List.mem_append_right _ hx))) ho
    have e1 := putSL_len t th
    have e2 := putSL_len t el
    rw [putS_eq]
    split
    ·rename_i he
     have h3 := h _ (List.mem_cons_self ..) he
     rw [show (S.mk id kind labels nm proc x has args th el).th = th from rfl, show (S.mk id kind labels nm proc x has args th el).el = el from rfl, stmtOk_len t e1.symm e2.symm] at h3
     obtain ⟨tid, tkind, tlabels, tnm, tproc, tx, thas, targs, tth, tel⟩ := t
     rw [hdT] at h3 ⊢
     rw [oneOk, if_pos ⟨hc.1, hc.2.1, by rw [← hc.2.2.1]; exact he.symm, h3⟩, g1, Option.bind_some, g2]
    ·have h3 := hc.2.2.2
     have h4 := stmtOk_len (.mk id kind labels nm proc x has args th el) e1 e2
     simp only [hdT] at h4
     rw [oneOk, if_pos ⟨hc.1, hc.2.1, hc.2.2.1, by rw [h4]; exact h3⟩, g1, Option.bind_some, g2]
  ·cases ho
theorem blkOk_put (t : S) : ∀ (l : List S) (d c c' : Nat), (∀ x ∈ preSL l, x.id = t.id → stmtOk (hdT t x.th x.el) = true) → blkOk l d c = some c' → blkOk (putSL t l) d c = some c'
 | [], d, c, c', h, ho => by rw [putSL]; exact ho
 | s :: l, d, c, c', h, ho => by
  rw [blkOk] at ho
  rw [preSL] at h
  cases h1 : oneOk s d c with
  | none => rw [h1] at ho; cases ho
  | some c1 =>
   rw [h1] at ho
   simp only [Option.bind_some] at ho
   rw [putSL, blkOk, oneOk_put t s d c c1 (fun x hx => h x (List.mem_append_left _ hx)) h1, Option.bind_some, blkOk_put t l d c1 c' (fun x hx => h x (List.mem_append_right _ hx)) ho]
end
theorem prOk_put (t : S) : ∀ (l : List Pr) (c c' : Nat), (∀ q ∈ l, ∀ x ∈ preSL q.body, x.id = t.id → stmtOk (hdT t x.th x.el) = true) → prOk l c = some c' → prOk (l.map (putPr t)) c = some c'
 | [], c, c', h, ho => ho
 | q :: l, c, c', h, ho => by
  rw [prOk] at ho
  split at ho
  ·rename_i hh
   cases h1 : blkOk q.body 1 c with
   | none => rw [h1] at ho; cases ho
   | some c1 =>
    rw [h1] at ho
    simp only [Option.bind_some] at ho
    have g1 := blkOk_put t q.body 1 c c1 (h q (List.mem_cons_self ..)) h1
    rw [List.map_cons, prOk, if_pos (show headOk (putPr t q) = true from hh), show (putPr t q).body = putSL t q.body from rfl, g1, Option.bind_some, prOk_put t l c1 c' (fun q hq => h q (List.mem_cons_of_mem _ hq)) ho]
  ·cases ho
theorem mayP_put {p : Pg} {t : S} (hm : mayP p = true) (h : ∀ q ∈ p.procs, ∀ x ∈ preSL q.body, x.id = t.id → stmtOk (hdT t x.th x.el) = true) : mayP (putP t p) = true := by
 unfold mayP at hm ⊢
 rw [Bool.and_eq_true] at hm ⊢
 obtain ⟨h1, h2⟩ := hm
 cases h3 : prOk p.procs 0 with
 | none => rw [h3] at h2; cases h2
 | some c =>
  refine ⟨?_, ?_⟩
  ·unfold putP
   simp only [List.length_map]
   exact h1
  ·show (prOk (p.procs.map (putPr t)) 0).isSome = true
   rw [prOk_put t p.procs 0 c h h3]
   rfl
/-- the first bad one of a row in which one was put -/
theorem fstB_put {f : S → Bool} {t : S} {b : Bool} : ∀ L : List S, (∀ s ∈ L, s.id ≠ t.id → f (putS t s) = false) → (∀ s ∈ L, s.id = t.id → f (putS t s) = b) → fstB f (L.map (putS t)) = if b = true ∧ ∃ s ∈ L, s.id = t.id then t.id else 0
 | [], _, _ => by simp [fstB]
 | s :: L, h1, h2 => by
  have ih := fstB_put L (fun s hs => h1 s (List.mem_cons_of_mem _ hs)) (fun s hs => h2 s (List.mem_cons_of_mem _ hs))
  unfold fstB at ih ⊢
  rw [List.map_cons, List.find?_cons]
  by_cases he : s.id = t.id
  ·have h3 := h2 s (List.mem_cons_self ..) he
   cases b with
   | true =>
    rw [h3, if_pos ⟨rfl, s, List.mem_cons_self .., he⟩]
    exact (putS_id t s).trans he
   | false =>
    rw [h3]
    simp only [Bool.false_eq_true, false_and, if_false] at ih ⊢
    exact ih
  ·have h3 := h1 s (List.mem_cons_self ..) he
   rw [h3]
   simp only
   rw [ih]
   congr 1
   simp [he]
theorem badS_put (gl ps : List ByteArray) (q : Pr) (t s : S) : badS gl (putPr t q) ps (putS t s) = if s.id = t.id then badS gl q ps t else badS gl q ps s := by
 obtain ⟨id, kind, labels, nm, proc, x, has, args, th, el⟩ := s
 rw [putS_eq]
 show _ = if id = t.id then _ else _
 split
 ·cases t; rfl
 ·rfl
theorem chkL_put {gl ps : List ByteArray} {t : S} {b : Bool} (h0 : t.id ≠ 0) : ∀ l : List Pr, (∀ q ∈ l, dup (namesP gl q) = false) → (∀ q ∈ l, ∀ s ∈ preSL q.body, badS gl q ps s = false) → (∀ q ∈ l, ∀ s ∈ preSL q.body, s.id = t.id → badS gl q ps t = b) → chkL gl ps (l.map (putPr t)) = if b = true ∧ ∃ q ∈ l, ∃ s ∈ preSL q.body, s.id = t.id then (5, t.id) else (0, 0)
 | [], _, _, _ => by simp [chkL]
 | q :: l, h1, h2, h3 => by
  have ih := chkL_put h0 l (fun q hq => h1 q (List.mem_cons_of_mem _ hq)) (fun q hq => h2 q (List.mem_cons_of_mem _ hq)) (fun q hq => h3 q (List.mem_cons_of_mem _ hq))
  have h4 : dup (namesP gl (putPr t q)) = false := h1 q (List.mem_cons_self ..)
  have h5 : fstB (badS gl (putPr t q) ps) (preSL (putPr t q).body) = if b = true ∧ ∃ s ∈ preSL q.body, s.id = t.id then t.id else 0 := by
   show fstB _ (preSL (putSL t q.body)) = _
   rw [preSL_put]
   refine fstB_put _ (fun s hs hne => ?_) (fun s hs he => ?_)
   ·rw [badS_put, if_neg hne]; exact h2 q (List.mem_cons_self ..) s hs
   ·rw [badS_put, if_pos he]; exact h3 q (List.mem_cons_self ..) s hs he
  rw [List.map_cons, chkL, h4, h5, ih]
  simp only [Bool.false_eq_true, if_false]
  by_cases hb : b = true
  ·by_cases he : ∃ s ∈ preSL q.body, s.id = t.id
   ·rw [if_pos (show b = true ∧ _ from ⟨hb, he⟩), if_neg h0, if_pos ⟨hb, q, List.mem_cons_self .., he⟩]
   ·rw [if_neg (show ¬(b = true ∧ ∃ s ∈ preSL q.body, s.id = t.id) from fun h => he h.2), if_pos rfl]
    congr 1
    simp [he]
  ·have e1 : (if b = true ∧ ∃ s ∈ preSL q.body, s.id = t.id then t.id else 0) = 0 := if_neg (fun h => hb h.1)
   rw [e1, if_pos rfl, if_neg (fun h => hb h.1), if_neg (fun h => hb h.1)]
/-- the first fault of names of a program in which one statement was put -/
theorem chkP_put {p : Pg} {t : S} {b : Bool} (h : ChOk p) (hs : ∀ q ∈ p.procs, ∀ x ∈ preSL q.body, x.id = t.id → stmtOk (hdT t x.th x.el) = true) (h0 : t.id ≠ 0) (hb : ∀ q ∈ p.procs, ∀ s ∈ preSL q.body, s.id = t.id → badS p.globals q (p.procs.map Pr.nm) t = b) : chkP (putP t p) = if b = true ∧ ∃ q ∈ p.procs, ∃ s ∈ preSL q.body, s.id = t.id then (5, t.id) else (0, 0) := by
 have hm := mayP_put h.may hs
 have hps : (p.procs.map (putPr t)).map Pr.nm = p.procs.map Pr.nm := by rw [List.map_map]; rfl
 have hmn : mainBad (putP t p) = mainBad p := by
  show ((p.procs.map (putPr t)).find? (isQ mainB)).elim true _ = _
  rw [List.find?_map, show (isQ mainB ∘ putPr t) = isQ mainB from rfl]
  unfold mainBad
  cases p.procs.find? (isQ mainB) <;> rfl
 have hh : hdBad (putP t p) = false := by
  unfold hdBad
  rw [hmn, show (putP t p).globals = p.globals from rfl, show (putP t p).procs = p.procs.map (putPr t) from rfl, hps, h.main, dup_of h.glob, dup_of h.procs]
  rfl
 unfold chkP
 rw [if_pos hm, hh, if_neg (by simp), show (putP t p).globals = p.globals from rfl, show (putP t p).procs = p.procs.map (putPr t) from rfl, hps]
 exact chkL_put h0 p.procs (fun q hq => dup_of (h.names q hq)) h.stm hb
/-- of a program that may be, each statement is found by its id, and its procedure -/
theorem prOk_find2 : ∀ (l : List Pr) (c c' : Nat), prOk l c = some c' → ∀ q ∈ l, ∀ x ∈ preSL q.body, findL l x.id = (q.nm, x, true)
 | [], c, c', h => fun q hq => by simp at hq
 | q :: l, c, c', h => by
  rw [prOk] at h
  split at h
  ·cases h1 : blkOk q.body 1 c with
   | none => rw [h1] at h; simp at h
   | some c1 =>
    rw [h1] at h
    simp only [Option.bind_some] at h
    obtain ⟨a1, a2, a3⟩ := flatL_pre q.body 1 c c1 h1
    intro y hy x hx
    rw [findL]
    rcases List.mem_cons.1 hy with rfl | hy
    ·obtain ⟨j, hj, rfl⟩ := List.getElem_of_mem hx
     have hf : (preSL y.body).find? (fun s => s.id == (preSL y.body)[j].id) = some (preSL y.body)[j] := by
      rw [List.find?_eq_some_iff_getElem]
      refine ⟨by simp, j, hj, rfl, fun i hi => ?_⟩
      rw [a2 j hj, a2 i (by omega)]
      simp
      omega
     rw [hf]
     rfl
    ·have hid := (prOk_ids l c1 c' h).2 y hy x hx
     have hf : (preSL q.body).find? (fun s => s.id == x.id) = none := by
      rw [List.find?_eq_none]
      intro z hz
      obtain ⟨j, hj, rfl⟩ := List.getElem_of_mem hz
      rw [a2 j hj]
      simp
      omega
     rw [hf]
     exact prOk_find2 l c1 c' h y hy x hx
  ·cases h
theorem rfL_find : ∀ (l : List Pr) (id : Int), (∀ q ∈ l, (flatOf q).map It.s = preSL q.body) → ((rfL l id).elim It0 Prod.fst).s = (findL l id).2.1 ∧ (rfL l id).elim ⟨#[]⟩ Prod.snd = (findL l id).1
 | [], id, _ => ⟨rfl, rfl⟩
 | q :: l, id, h => by
  have ih := rfL_find l id (fun q hq => h q (List.mem_cons_of_mem _ hq))
  rw [rfL, findL, ← h q (List.mem_cons_self ..), List.find?_map, show ((fun s : S => s.id == id) ∘ It.s) = (fun x : It => x.s.id == id) from rfl]
  cases (flatOf q).find? (fun x => x.s.id == id) with
  | none => exact ih
  | some x => exact ⟨rfl, rfl⟩
def pfP (p : Pg) (id : Int) : ByteArray := (rfL p.procs id).elim ⟨#[]⟩ Prod.snd
/-- the statement of an id: itself, its procedure; no other one has that id -/
structure AtId (p : Pg) (id : Int) (q : Pr) (s : S) : Prop where
 mem : q ∈ p.procs
 stm : s ∈ preSL q.body
 eid : s.id = id
 st : stP p id = s
 pf : pfP p id = q.nm
 only : ∀ q' ∈ p.procs, ∀ x ∈ preSL q'.body, x.id = id → x = s ∧ q'.nm = q.nm
theorem at_id {p : Pg} (h : mayP p = true) {q : Pr} (hq : q ∈ p.procs) {s : S} (hs : s ∈ preSL q.body) : AtId p s.id q s := by
 have h1 := may_flat h
 have h2 : ∀ q ∈ p.procs, ∀ x ∈ preSL q.body, findL p.procs x.id = (q.nm, x, true) := by
  unfold mayP at h
  rw [Bool.and_eq_true] at h
  cases h3 : prOk p.procs 0 with
  | none => rw [h3] at h; cases h.2
  | some c => exact prOk_find2 p.procs 0 c h3
 have h3 := rfL_find p.procs s.id (fun q hq => (h1.1 q hq).1)
 rw [h2 q hq s hs] at h3
 refine ⟨hq, hs, rfl, h3.1, h3.2, fun q' hq' x hx he => ?_⟩
 have h4 := h2 q' hq' x hx
 rw [he, h2 q hq s hs] at h4
 simp only [Prod.mk.injEq, and_true] at h4
 exact ⟨h4.2.symm, h4.1.symm⟩
/-- an id of a kind has its statement -/
theorem ids_at {p : Pg} (h : mayP p = true) {kd id : Int} (hi : id ∈ idsOf kd (allOf p)) : ∃ q s, AtId p id q s ∧ (kd = 0 ∨ s.kind = kd) ∧ 1 ≤ id ∧ id ≤ 200 := by
 unfold idsOf at hi
 rw [List.mem_map] at hi
 obtain ⟨x, hx, rfl⟩ := hi
 rw [List.mem_filter] at hx
 have h1 : x.s ∈ (allOf p).map It.s := List.mem_map_of_mem hx.1
 rw [all_map h, List.mem_flatMap] at h1
 obtain ⟨q, hq, hs⟩ := h1
 refine ⟨q, x.s, at_id h hq hs, ?_, may_ids h q hq _ hs⟩
 have := hx.2
 simp only [Bool.or_eq_true, beq_iff_eq] at this
 exact this
end Go.Proofs.Ytnnblklbjbkikaa
namespace Go.Proofs.Ytnnblklbjbkikaa
open Go.ChangeShapes Go.WideShapes Go.ChangeAt Go.RowKit Go.Deep
set_option linter.unusedVariables false
set_option linter.unusedSimpArgs false
/-- how much a statement's head is -/
def hw : S → Nat
 | .mk _ _ labels nm proc x _ args _ _ => wE x + wT labels + (nm.size + 1) + (proc.size + 1) + wAr args
theorem wS_hw (id kind : Int) (labels : List ByteArray) (nm proc : ByteArray) (x : E) (has : Bool) (args : List Ar) (th el : List S) : wS (.mk id kind labels nm proc x has args th el) = hw (.mk id kind labels nm proc x has args th el) + wSL th + wSL el := by rw [wS, hw]
theorem wS_hdT (t : S) (a b : List S) : wS (hdT t a b) = hw t + wSL a + wSL b := by cases t; rw [hdT, wS, hw]
def cnt (i : Int) (l : List S) : Nat := l.countP (fun x => x.id == i)
theorem cnt_cons (i : Int) (s : S) (l : List S) : cnt i (s :: l) = cnt i l + if s.id = i then 1 else 0 := by
 unfold cnt
 rw [List.countP_cons]
 simp
theorem cnt_app (i : Int) (a b : List S) : cnt i (a ++ b) = cnt i a + cnt i b := List.countP_append
mutual
theorem wS_put (t : S) (c : Nat) : ∀ s : S, (∀ x ∈ preS s, x.id = t.id → hw t ≤ hw x + c) → wS (putS t s) ≤ wS s + c * cnt t.id (preS s)
 | .mk id kind labels nm proc x has args th el, h => by
  rw [preS] at h
  have h1 := wSL_put t c th (fun x hx => h x (List.mem_cons_of_mem _ (List.mem_append_left _ hx)))
  have h2 := wSL_put t c el (fun x hx => h x (List.mem_cons_of_mem _ (List.mem_append_right _ hx)))
  rw [preS, cnt_cons, cnt_app, wS_hw, putS_eq]
  rw [Nat.mul_add, Nat.mul_add]
  by_cases he : id = t.id
  ·have h3 := h _ (List.mem_cons_self ..) he
   rw [if_pos he, if_pos (show (S.mk id kind labels nm proc x has args th el).id = t.id from he), wS_hdT]
   omega
  ·rw [if_neg he, if_neg (show ¬(S.mk id kind labels nm proc x has args th el).id = t.id from he), wS_hw]
   have h4 : hw (.mk id kind labels nm proc x has args (putSL t th) (putSL t el)) = hw (.mk id kind labels nm proc x has args th el) := rfl
   omega
theorem wSL_put (t : S) (c : Nat) : ∀ l : List S, (∀ x ∈ preSL l, x.id = t.id → hw t ≤ hw x + c) → wSL (putSL t l) ≤ wSL l + c * cnt t.id (preSL l)
 | [], _ => by rw [putSL]; omega
 | s :: l, h => by
  rw [preSL] at h
  have h1 := wS_put t c s (fun x hx => h x (List.mem_append_left _ hx))
  have h2 := wSL_put t c l (fun x hx => h x (List.mem_append_right _ hx))
  rw [putSL, wSL, wSL, preSL, cnt_app, Nat.mul_add]
  omega
end
theorem cnt_one {l : List S} {c : Nat} (h : ∀ j (hj : j < l.length), l[j].id = ((c + 1 + j : Nat) : Int)) (i : Int) : cnt i l ≤ 1 := by
 have hn : (l.map S.id).Nodup := by
  rw [List.Nodup, List.pairwise_iff_getElem]
  intro a b ha hb hab
  rw [List.getElem_map, List.getElem_map, h a (by simpa using ha), h b (by simpa using hb)]
  omega
 have h2 := List.nodup_iff_count.1 hn i
 unfold cnt
 rw [List.count, List.countP_map] at h2
 exact h2
theorem prOk_cnt : ∀ (l : List Pr) (c c' : Nat), prOk l c = some c' → ∀ q ∈ l, ∀ i, cnt i (preSL q.body) ≤ 1
 | [], c, c', h => fun q hq => by cases hq
 | q :: l, c, c', h => by
  rw [prOk] at h
  split at h
  ·cases h1 : blkOk q.body 1 c with
   | none => rw [h1] at h; cases h
   | some c1 =>
    rw [h1] at h
    simp only [Option.bind_some] at h
    obtain ⟨a1, a2, a3⟩ := flatL_pre q.body 1 c c1 h1
    intro y hy i
    rcases List.mem_cons.1 hy with rfl | hy
    ·exact cnt_one a2 i
    ·exact prOk_cnt l c1 c' h y hy i
  ·cases h
/-- a program in which one statement was put is not too great -/
theorem fits_put {p : Pg} {t : S} {c : Nat} (hf : fitsP p = true) (hm : mayP p = true) (hc : c ≤ 900000) (h : ∀ q ∈ p.procs, ∀ x ∈ preSL q.body, x.id = t.id → hw t ≤ hw x + c) : SmG (putP t p) := by
 have hcn : ∀ q ∈ p.procs, ∀ i, cnt i (preSL q.body) ≤ 1 := by
  unfold mayP at hm
  rw [Bool.and_eq_true] at hm
  cases h3 : prOk p.procs 0 with
  | none => rw [h3] at hm; cases hm.2
  | some c => exact prOk_cnt p.procs 0 c h3
 unfold fitsP weighP at hf
 have h0 := of_decide_eq_true hf
 obtain ⟨h1, h2⟩ := weighQs_full p.procs _ h0
 have h3 := weighTs_eq p.globals 0 (by omega)
 refine ⟨by show wT p.globals ≤ _; omega, by show (p.procs.map (putPr t)).length ≤ _; rw [List.length_map]; omega, fun q hq => ?_⟩
 obtain ⟨q0, hq0, rfl⟩ := List.mem_map.1 hq
 obtain ⟨k1, k2, k3, k4⟩ := h2 q0 hq0
 have l1 := wSL_put t c q0.body (h q0 hq0)
 have l2 := Nat.mul_le_mul_left c (hcn q0 hq0 t.id)
 exact ⟨by show wSL (putSL t q0.body) ≤ _; omega, by show wT q0.vars ≤ _; omega, by show wT q0.end_ ≤ _; omega, by show q0.params.length ≤ _; omega⟩
end Go.Proofs.Ytnnblklbjbkikaa
namespace Go.Proofs.Ytnnblklbjbkikaa
open Go.ChangeShapes Go.WideShapes Go.ChangeAt Go.RowKit Go.Deep
set_option linter.unusedVariables false
set_option linter.unusedSimpArgs false
theorem some_chk : (chkP someP).1 = 0 := by
 unfold chkP
 rw [if_pos some_may]
 decide +kernel
theorem some_ok1 : 0 < someP.procs.length := by decide
theorem some_ok2 : 1 < someP.procs[0].body.length := by decide
theorem some_fits : fitsA someP someP.procs[0].body[1] = true := by
 unfold fitsA
 rw [some_chk]
 decide +kernel
theorem some_second : ∃ s, someP.procs[0].body[1]? = some s ∧ fitsA someP s = true := ⟨_, List.getElem?_eq_getElem some_ok2, some_fits⟩
theorem empty_ar : arP ⟨[], []⟩ = (1, 0) := by decide +kernel
theorem empty_smG : SmG ⟨[], []⟩ := ⟨by decide, by decide, fun q hq => absurd hq (by simp)⟩
set_option maxHeartbeats 2000000 in
set_option maxRecDepth 100000 in
theorem fitting_any (W : World) : Calls Try.prog 38 #[] W (MayOk true W) := by
 go_enter Try.func38, Try.ntmps38
 go_upto_region 1 with fail
 go_upto_region 2 with (go_at_call 22; refine (Some_any _).mono ?_; rintro e w1 ⟨c0, c1, rfl, hb1, hp1⟩; obtain ⟨Ag, cg, Ap, cp, rfl, rfl, _, _, _, _, _, hpr⟩ := prog_open hp1)
 have HI1 : Hid (In (nw W w1) w1 (w1.alloc (.cells #[.slice Ag someP.globals.length cg, .slice Ap someP.procs.length cp] 25))) := Lib.hid (In.on ⟨fun b h => h.2, fun _ _ => rfl⟩ (below_box _))
 have HB1 : Hid (Below W.heap.size W (w1.alloc (.cells #[.slice Ag someP.globals.length cg, .slice Ap someP.procs.length cp] 25))) := Lib.hid (below_stepA hb1 _)
 have HBp : Hid (Blk (w1.alloc (.cells #[.slice Ag someP.globals.length cg, .slice Ap someP.procs.length cp] 25)) w1.heap.size 25 #[.slice Ag someP.globals.length cg, .slice Ap someP.procs.length cp]) := Lib.hid (Blk.new _ _ _)
 have HPi := Lib.hid hp1
 have HPr := Lib.hid hpr
 clear hpr hp1 hb1
 generalize World.alloc w1 _ = W2 at HI1 HB1 HBp ⊢
 generalize w1.heap.size = b at HBp ⊢
 obtain ⟨a, Bp, kp, Bv, kv, Bb, kb, Be, ke, rfl, _, ⟨p0, p1, p2, p3, p4, _⟩, _, _, _, hbody, _⟩ := proc_at HPr.out HI1.out some_ok1
 obtain ⟨s2, hs2, hfs⟩ := some_second
 have hbl : 1 < someP.procs[0].body.length := some_ok2
 have HBd := Lib.hid hbody
 generalize someP.procs[0].body = bd at p3 HBd hs2 hbl
 obtain ⟨a2, id, kind, labels, nm, proc, x, has, args, th, el, L, lc, y0, y1, y2, X, xn, xc, R, rc, T, tc, U, uc, rfl, _, hlk, ⟨r0, r1, r2, r3, r4, r5, r6, r7, r8, r9, r10, r11, r12, _⟩, _, _, _, _, _, _, _, _, _, hst⟩ := stmt_at HBd.out HI1.out hbl
 have hbs : bd[1] = s2 := by rw [List.getElem?_eq_getElem hbl] at hs2; injection hs2
 rw [hbs] at hst
 have HFi := Lib.hid (fun V hV => aFits_any HPi.out some_smG hst V hV)
 rw [hfs] at HFi
 simp only [List.toArray] at HFi
 have HCe := Lib.hid (fun V : World => aCheck_any (empty_prog W (fun _ => False)) empty_smG V ⟨fun _ h => h.elim, fun _ h => h.elim⟩)
 rw [empty_ar] at HCe
 have q0 : W2.cell? ⟨b, 0, none⟩ = some (.slice Ag someP.globals.length cg) := by rw [HBp.out.cell]; rfl
 have q1 : W2.cell? ⟨b, 1, none⟩ = some (.slice (some a) someP.procs.length cp) := by rw [HBp.out.cell]; rfl
 have hl2 : someP.procs.length = 2 := rfl
 have hpb := HBp.out.lt
 simp only [hl2] at HFi
 rw [Nat.zero_mul, add_zero_] at p3
 have p3' : W2.cell? ⟨a.block, a.off + 3, none⟩ = some (.slice (some a2) bd.length kb) := p3
 have hbi : (1 : Int) < (bd.length : Int) := by omega
 simp only [Nat.one_mul, add_ne a2 (show (13 : Nat) ≠ 0 by decide)] at r0 r1 r2 r3 r4 r5 r6 r7 r8 r9 r10 r11 r12
 clear p0 p1 p2 p4 p3 hlk hst hfs hbody hs2 hbs
 go_upto_region 3 with fail
 have HBs : Hid (Blk (W2.alloc (.cells #[.int .i64 id, .int .i64 kind, .slice L labels.length lc, .string nm, .string proc, .int .i64 y0, .int .i64 y1, .string y2, .slice X xn xc, .bool has, .slice R args.length rc, .slice T th.length tc, .slice U el.length uc] 55)) W2.heap.size 55 #[.int .i64 id, .int .i64 kind, .slice L labels.length lc, .string nm, .string proc, .int .i64 y0, .int .i64 y1, .string y2, .slice X xn xc, .bool has, .slice R args.length rc, .slice T th.length tc, .slice U el.length uc]) := Lib.hid (Blk.new _ _ _)
 have HB3 : Hid (Below W.heap.size W (W2.alloc (.cells #[.int .i64 id, .int .i64 kind, .slice L labels.length lc, .string nm, .string proc, .int .i64 y0, .int .i64 y1, .string y2, .slice X xn xc, .bool has, .slice R args.length rc, .slice T th.length tc, .slice U el.length uc] 55))) := Lib.hid (below_stepA HB1.out _)
 have HI3 : Hid (In (nw W w1) w1 (W2.alloc (.cells #[.int .i64 id, .int .i64 kind, .slice L labels.length lc, .string nm, .string proc, .int .i64 y0, .int .i64 y1, .string y2, .slice X xn xc, .bool has, .slice R args.length rc, .slice T th.length tc, .slice U el.length uc] 55))) := Lib.hid (HI1.out.alloc _)
 have HBp3 : Hid (Blk (W2.alloc (.cells #[.int .i64 id, .int .i64 kind, .slice L labels.length lc, .string nm, .string proc, .int .i64 y0, .int .i64 y1, .string y2, .slice X xn xc, .bool has, .slice R args.length rc, .slice T th.length tc, .slice U el.length uc] 55)) b 25 #[.slice Ag someP.globals.length cg, .slice (some a) someP.procs.length cp]) := Lib.hid (HBp.out.alloc _)
 clear r0 r1 r2 r3 r4 r5 r6 r7 r8 r9 r10 r11 r12 p3' q0 q1
 generalize World.alloc W2 _ = V3 at HBs HB3 HI3 HBp3 ⊢
 generalize W2.heap.size = bs at HBs ⊢
 have q0 : V3.cell? ⟨b, 0, none⟩ = some (.slice Ag someP.globals.length cg) := by rw [HBp3.out.cell]; rfl
 have q1 : V3.cell? ⟨b, 1, none⟩ = some (.slice (some a) someP.procs.length cp) := by rw [HBp3.out.cell]; rfl
 have s0 : V3.cell? ⟨bs, 0, none⟩ = some (.int .i64 id) := by rw [HBs.out.cell]; rfl
 have s1 : V3.cell? ⟨bs, 1, none⟩ = some (.int .i64 kind) := by rw [HBs.out.cell]; rfl
 have s2 : V3.cell? ⟨bs, 2, none⟩ = some (.slice L labels.length lc) := by rw [HBs.out.cell]; rfl
 have s3 : V3.cell? ⟨bs, 3, none⟩ = some (.string nm) := by rw [HBs.out.cell]; rfl
 have s4 : V3.cell? ⟨bs, 4, none⟩ = some (.string proc) := by rw [HBs.out.cell]; rfl
 have s5 : V3.cell? ⟨bs, 5, none⟩ = some (.int .i64 y0) := by rw [HBs.out.cell]; rfl
 have s6 : V3.cell? ⟨bs, 6, none⟩ = some (.int .i64 y1) := by rw [HBs.out.cell]; rfl
 have s7 : V3.cell? ⟨bs, 7, none⟩ = some (.string y2) := by rw [HBs.out.cell]; rfl
 have s8 : V3.cell? ⟨bs, 8, none⟩ = some (.slice X xn xc) := by rw [HBs.out.cell]; rfl
 have s9 : V3.cell? ⟨bs, 9, none⟩ = some (.bool has) := by rw [HBs.out.cell]; rfl
 have s10 : V3.cell? ⟨bs, 10, none⟩ = some (.slice R args.length rc) := by rw [HBs.out.cell]; rfl
 have s11 : V3.cell? ⟨bs, 11, none⟩ = some (.slice T th.length tc) := by rw [HBs.out.cell]; rfl
 have s12 : V3.cell? ⟨bs, 12, none⟩ = some (.slice U el.length uc) := by rw [HBs.out.cell]; rfl
 go_wp2_with (first
  | (go_at_call 41; (with_reducible refine (HFi.out V3 HI3.out).mono ?_); rintro e w4 ⟨rfl, hb4⟩; have HB4 := Lib.hid (below_step HB3.out hb4); clear hb4)
  | (go_at_call 39; (with_reducible refine (HCe.out w4).mono ?_); rintro e w5 ⟨rfl, hb5⟩))
 go_ret
 exact ⟨rfl, below_step HB4.out hb5⟩
end Go.Proofs.Ytnnblklbjbkikaa
