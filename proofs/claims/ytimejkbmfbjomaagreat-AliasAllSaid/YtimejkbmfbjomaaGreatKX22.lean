/- Texts, merged by a program; only what is used. -/
import Derived.Test.YtimejkbmfbjomaaGreatKX1
import Derived.Test.YtimejkbmfbjomaaGreatKX2
import Derived.Test.YtimejkbmfbjomaaGreatKX3
import Derived.Test.YtimejkbmfbjomaaGreatKX4
import Derived.Test.YtimejkbmfbjomaaGreatKX5
import Derived.Test.YtimejkbmfbjomaaGreatKX6
import Derived.Test.YtimejkbmfbjomaaGreatKX7
import Derived.Test.YtimejkbmfbjomaaGreatKX8
import Derived.Test.YtimejkbmfbjomaaGreatKX9
import Derived.Test.YtimejkbmfbjomaaGreatKX10
import Derived.Test.YtimejkbmfbjomaaGreatKX11
import Derived.Test.YtimejkbmfbjomaaGreatKX12
import Derived.Test.YtimejkbmfbjomaaGreatKX13
import Derived.Test.YtimejkbmfbjomaaGreatKX14
import Derived.Test.YtimejkbmfbjomaaGreatKX15
import Derived.Test.YtimejkbmfbjomaaGreatKX16
import Derived.Test.YtimejkbmfbjomaaGreatKX17
import Derived.Test.YtimejkbmfbjomaaGreatKX18
import Derived.Test.YtimejkbmfbjomaaGreatKX19
import Derived.Test.YtimejkbmfbjomaaGreatKX20
import Derived.Test.YtimejkbmfbjomaaGreatKX21
namespace Go.Proofs.YtimejkbmfbjomaaGreat
open Go.ChangeShapes Go.WideShapes Go.ChangeAt Go.RowKit Go.Deep
set_option linter.unusedVariables false
set_option linter.unusedSimpArgs false
def stP (p : Pg) (id : Int) : S := ((rfL p.procs id).elim It0 Prod.fst).s
def StRes (w : World) (Q : Nat → Prop) (s : S) (W : World) (e : Ending) (w' : World) : Prop := ∃ cs : List Value, e = .returned (.agg cs.toArray) ∧ StmtI w Q s cs ∧ Below W.heap.size W w'
set_option maxHeartbeats 4000000 in
set_option maxRecDepth 100000 in
theorem rStmt_any {w : World} {Q : Nat → Prop} {p : Pg} {c0 c1 : Value} (h : ProgI w Q p [c0, c1]) (id0 : Int) (W : World) (hI : In Q w W) :
 Calls Tryz.prog 30 #[.agg #[c0, c1], .int .i64 id0] W (StRes w Q (stP p id0) W) := by
 have HFd := Lib.hid (fun V hV => rFind_any h id0 V hV)
 obtain ⟨Ag, cg, Ap, cp, rfl, rfl, _⟩ := prog_open h
 have HI := Lib.hid hI
 have HK : Hid (stP p id0 = ((rfL p.procs id0).elim It0 Prod.fst).s) := Lib.hid rfl
 clear h hI
 generalize rfL p.procs id0 = r at HFd HK
 go_enter Tryz.func30, Tryz.ntmps30
 go_upto_region 1 with fail
 have HB0 : Hid (Below W.heap.size W ((W.alloc (.cells #[.slice Ag p.globals.length cg, .slice Ap p.procs.length cp] 25)).alloc (.cells zS 49))) := Lib.hid (below_two _ _)
 have HBp : Hid (Blk ((W.alloc (.cells #[.slice Ag p.globals.length cg, .slice Ap p.procs.length cp] 25)).alloc (.cells zS 49)) W.heap.size 25 #[.slice Ag p.globals.length cg, .slice Ap p.procs.length cp]) := Lib.hid ((Blk.new _ _ _).alloc _)
 have HBf : Hid (Blk ((W.alloc (.cells #[.slice Ag p.globals.length cg, .slice Ap p.procs.length cp] 25)).alloc (.cells zS 49)) (W.heap.size + 1) 49 zS) := Lib.hid (by have := Blk.new (W.alloc (.cells #[.slice Ag p.globals.length cg, .slice Ap p.procs.length cp] 25)) 49 zS; rw [World.size_alloc] at this; exact this)
 generalize World.alloc _ _ = V at HB0 HBp HBf ⊢
 have HI0 := Lib.hid (HI.out.on HB0.out)
 have hwb : W.heap.size ≤ W.heap.size + 1 := by omega
 generalize hbe : W.heap.size = b at HBp HBf hwb ⊢
 generalize hfe : b + 1 = f at HBf hwb ⊢
 have hWf : W.heap.size ≤ f := by omega
 clear hbe hfe
 have q0 : V.cell? ⟨b, 0, none⟩ = some (.slice Ag p.globals.length cg) := by rw [HBp.out.cell]; rfl
 have q1 : V.cell? ⟨b, 1, none⟩ = some (.slice Ap p.procs.length cp) := by rw [HBp.out.cell]; rfl
 have hfl := HBf.out.lt
 have hIt : ∀ cs : Array Value, ItemI w Q (r.elim It0 Prod.fst) cs.toList → ∃ (id kind : Int) (labels : List ByteArray) (nm proc : ByteArray) (x : E) (has : Bool) (args : List Ar) (th el : List S) (L : Option Addr) (lc : Nat) (y0 y1 : Int) (y2 : ByteArray) (X : Option Addr) (xn xc : Nat) (R : Option Addr) (rc : Nat) (T : Option Addr) (tc : Nat) (U : Option Addr) (uc : Nat) (dp inn : Int) (els : Bool), cs = #[.int .i64 id, .int .i64 kind, .slice L labels.length lc, .string nm, .string proc, .int .i64 y0, .int .i64 y1, .string y2, .slice X xn xc, .bool has, .slice R args.length rc, .slice T th.length tc, .slice U el.length uc, .int .i64 dp, .int .i64 inn, .bool els] ∧ StmtI w Q (r.elim It0 Prod.fst).s [.int .i64 id, .int .i64 kind, .slice L labels.length lc, .string nm, .string proc, .int .i64 y0, .int .i64 y1, .string y2, .slice X xn xc, .bool has, .slice R args.length rc, .slice T th.length tc, .slice U el.length uc] := by
  rintro cs ⟨c, hc, hst⟩
  obtain ⟨id, kind, labels, nm, proc, x, has, args, th, el, L, lc, y0, y1, y2, X, xn, xc, R, rc, T, tc, U, uc, hmk, rfl, _⟩ := stmt_open hst
  refine ⟨id, kind, labels, nm, proc, x, has, args, th, el, L, lc, y0, y1, y2, X, xn, xc, R, rc, T, tc, U, uc, (r.elim It0 Prod.fst).deep, (r.elim It0 Prod.fst).inn, (r.elim It0 Prod.fst).els, ?_, hst⟩
  rw [← Array.toArray_toList (xs := cs), hc]
  rfl
 have HIt := Lib.hid hIt
 clear hIt
 go_upto_region 2 with (go_at_call 69; refine (HFd.out V HI0.out).mono ?_; rintro e' w1 ⟨cs, rfl, hit, hb1⟩; obtain ⟨id, kind, labels, nm, proc, x, has, args, th, el, L, lc, y0, y1, y2, X, xn, xc, R, rc, T, tc, U, uc, dp, inn, els, rfl, hst⟩ := HIt.out _ hit; have HSt := Lib.hid hst; clear hst hit)
 have HBi : Hid (Blk (w1.alloc (.cells #[.int .i64 id, .int .i64 kind, .slice L labels.length lc, .string nm, .string proc, .int .i64 y0, .int .i64 y1, .string y2, .slice X xn xc, .bool has, .slice R args.length rc, .slice T th.length tc, .slice U el.length uc, .int .i64 dp, .int .i64 inn, .bool els] 51)) w1.heap.size 51 #[.int .i64 id, .int .i64 kind, .slice L labels.length lc, .string nm, .string proc, .int .i64 y0, .int .i64 y1, .string y2, .slice X xn xc, .bool has, .slice R args.length rc, .slice T th.length tc, .slice U el.length uc, .int .i64 dp, .int .i64 inn, .bool els]) := Lib.hid (Blk.new _ _ _)
 have HB1 : Hid (Below V.heap.size V (w1.alloc (.cells #[.int .i64 id, .int .i64 kind, .slice L labels.length lc, .string nm, .string proc, .int .i64 y0, .int .i64 y1, .string y2, .slice X xn xc, .bool has, .slice R args.length rc, .slice T th.length tc, .slice U el.length uc, .int .i64 dp, .int .i64 inn, .bool els] 51))) := Lib.hid (below_stepA hb1 _)
 clear q0 q1 hb1 HFd HIt
 generalize World.alloc w1 _ = V1 at HBi HB1 ⊢
 generalize w1.heap.size = bi at HBi ⊢
 have HBf1 := Lib.hid (HBf.out.below HB1.out hfl)
 have HBW := Lib.hid (below_step HB0.out HB1.out)
 have s0 : V1.cell? ⟨bi, 0, none⟩ = some (.int .i64 id) := by rw [HBi.out.cell]; rfl
 have s1 : V1.cell? ⟨bi, 1, none⟩ = some (.int .i64 kind) := by rw [HBi.out.cell]; rfl
 have s2 : V1.cell? ⟨bi, 2, none⟩ = some (.slice L labels.length lc) := by rw [HBi.out.cell]; rfl
 have s3 : V1.cell? ⟨bi, 3, none⟩ = some (.string nm) := by rw [HBi.out.cell]; rfl
 have s4 : V1.cell? ⟨bi, 4, none⟩ = some (.string proc) := by rw [HBi.out.cell]; rfl
 have s5 : V1.cell? ⟨bi, 5, none⟩ = some (.int .i64 y0) := by rw [HBi.out.cell]; rfl
 have s6 : V1.cell? ⟨bi, 6, none⟩ = some (.int .i64 y1) := by rw [HBi.out.cell]; rfl
 have s7 : V1.cell? ⟨bi, 7, none⟩ = some (.string y2) := by rw [HBi.out.cell]; rfl
 have s8 : V1.cell? ⟨bi, 8, none⟩ = some (.slice X xn xc) := by rw [HBi.out.cell]; rfl
 have s9 : V1.cell? ⟨bi, 9, none⟩ = some (.bool has) := by rw [HBi.out.cell]; rfl
 have s10 : V1.cell? ⟨bi, 10, none⟩ = some (.slice R args.length rc) := by rw [HBi.out.cell]; rfl
 have s11 : V1.cell? ⟨bi, 11, none⟩ = some (.slice T th.length tc) := by rw [HBi.out.cell]; rfl
 have s12 : V1.cell? ⟨bi, 12, none⟩ = some (.slice U el.length uc) := by rw [HBi.out.cell]; rfl
 have f0_ := HBf1.out.frozen 0
 have y0_ : V1.cell? ⟨f, 0, none⟩ = some (.int .i64 0) := by rw [HBf1.out.cell]; rfl
 have f1_ := HBf1.out.frozen 1
 have y1_ : V1.cell? ⟨f, 1, none⟩ = some (.int .i64 0) := by rw [HBf1.out.cell]; rfl
 have f2_ := HBf1.out.frozen 2
 have y2_ : V1.cell? ⟨f, 2, none⟩ = some (.slice none 0 0) := by rw [HBf1.out.cell]; rfl
 have f3_ := HBf1.out.frozen 3
 have y3_ : V1.cell? ⟨f, 3, none⟩ = some (.string ⟨#[]⟩) := by rw [HBf1.out.cell]; rfl
 have f4_ := HBf1.out.frozen 4
 have y4_ : V1.cell? ⟨f, 4, none⟩ = some (.string ⟨#[]⟩) := by rw [HBf1.out.cell]; rfl
 have f5_ := HBf1.out.frozen 5
 have y5_ : V1.cell? ⟨f, 5, none⟩ = some (.int .i64 0) := by rw [HBf1.out.cell]; rfl
 have f6_ := HBf1.out.frozen 6
 have y6_ : V1.cell? ⟨f, 6, none⟩ = some (.int .i64 0) := by rw [HBf1.out.cell]; rfl
 have f7_ := HBf1.out.frozen 7
 have y7_ : V1.cell? ⟨f, 7, none⟩ = some (.string ⟨#[]⟩) := by rw [HBf1.out.cell]; rfl
 have f8_ := HBf1.out.frozen 8
 have y8_ : V1.cell? ⟨f, 8, none⟩ = some (.slice none 0 0) := by rw [HBf1.out.cell]; rfl
 have f9_ := HBf1.out.frozen 9
 have y9_ : V1.cell? ⟨f, 9, none⟩ = some (.bool false) := by rw [HBf1.out.cell]; rfl
 have f10_ := HBf1.out.frozen 10
 have y10_ : V1.cell? ⟨f, 10, none⟩ = some (.slice none 0 0) := by rw [HBf1.out.cell]; rfl
 have f11_ := HBf1.out.frozen 11
 have y11_ : V1.cell? ⟨f, 11, none⟩ = some (.slice none 0 0) := by rw [HBf1.out.cell]; rfl
 have f12_ := HBf1.out.frozen 12
 have y12_ : V1.cell? ⟨f, 12, none⟩ = some (.slice none 0 0) := by rw [HBf1.out.cell]; rfl
 go_wp2_with fail
 refine bodyPost_ret (results_c1 rfl _ _ f 49 #[.int .i64 id, .int .i64 kind, .slice L labels.length lc, .string nm, .string proc, .int .i64 y0, .int .i64 y1, .string y2, .slice X xn xc, .bool has, .slice R args.length rc, .slice T th.length tc, .slice U el.length uc] (0, 0) _ rfl (blk13 HBf1.out) Tryz.underlying49 rfl (by kernel_rfl)) rfl ?_
 refine ⟨[.int .i64 id, .int .i64 kind, .slice L labels.length lc, .string nm, .string proc, .int .i64 y0, .int .i64 y1, .string y2, .slice X xn xc, .bool has, .slice R args.length rc, .slice T th.length tc, .slice U el.length uc], rfl, by rw [HK.out]; exact HSt.out, ?_⟩
 iterate 13 (refine below_setc ?_ hWf _)
 exact HBW.out
end Go.Proofs.YtimejkbmfbjomaaGreat
namespace Go.Proofs.YtimejkbmfbjomaaGreat
open Go.ChangeShapes Go.WideShapes Go.ChangeAt Go.RowKit Go.Deep
set_option linter.unusedVariables false
set_option linter.unusedSimpArgs false
/-- of a program that may be, each statement is found by its id, and its procedure -/
theorem prOk_find2 : ∀ (l : List Pr) (c c' : Nat), prOk l c = some c' → ∀ q ∈ l, ∀ x ∈ preSL q.body, findL l x.id = (q.nm, x, true)
 | [], c, c', h => fun q hq => by simp at hq
 | q :: l, c, c', h => by
  rw [prOk] at h
  split at h
  ·cases h1 : blkOk q.body 1 c with
   | none => rw [h1] at h; simp at h
   | some c1 =>
    rw [h1] at h
    simp only [Option.bind_some] at h
    obtain ⟨a1, a2, a3⟩ := flatL_pre q.body 1 c c1 h1
    intro y hy x hx
    rw [findL]
    rcases List.mem_cons.1 hy with rfl | hy
    ·obtain ⟨j, hj, rfl⟩ := List.getElem_of_mem hx
     have hf : (preSL y.body).find? (fun s => s.id == (preSL y.body)[j].id) = some (preSL y.body)[j] := by
      rw [List.find?_eq_some_iff_getElem]
      refine ⟨by simp, j, hj, rfl, fun i hi => ?_⟩
      rw [a2 j hj, a2 i (by omega)]
      simp
      omega
     rw [hf]
     rfl
    ·have hid := (prOk_ids l c1 c' h).2 y hy x hx
     have hf : (preSL q.body).find? (fun s => s.id == x.id) = none := by
      rw [List.find?_eq_none]
      intro z hz
      obtain ⟨j, hj, rfl⟩ := List.getElem_of_mem hz
      rw [a2 j hj]
      simp
      omega
     rw [hf]
     exact prOk_find2 l c1 c' h y hy x hx
  ·cases h
theorem rfL_find : ∀ (l : List Pr) (id : Int), (∀ q ∈ l, (flatOf q).map It.s = preSL q.body) → ((rfL l id).elim It0 Prod.fst).s = (findL l id).2.1 ∧ (rfL l id).elim ⟨#[]⟩ Prod.snd = (findL l id).1
 | [], id, _ => ⟨rfl, rfl⟩
 | q :: l, id, h => by
  have ih := rfL_find l id (fun q hq => h q (List.mem_cons_of_mem _ hq))
  rw [rfL, findL, ← h q (List.mem_cons_self ..), List.find?_map, show ((fun s : S => s.id == id) ∘ It.s) = (fun x : It => x.s.id == id) from rfl]
  cases (flatOf q).find? (fun x => x.s.id == id) with
  | none => exact ih
  | some x => exact ⟨rfl, rfl⟩
def pfP (p : Pg) (id : Int) : ByteArray := (rfL p.procs id).elim ⟨#[]⟩ Prod.snd
/-- the statement of an id: itself, its procedure; no other one has that id -/
structure AtId (p : Pg) (id : Int) (q : Pr) (s : S) : Prop where
 mem : q ∈ p.procs
 stm : s ∈ preSL q.body
 eid : s.id = id
 st : stP p id = s
 pf : pfP p id = q.nm
 only : ∀ q' ∈ p.procs, ∀ x ∈ preSL q'.body, x.id = id → x = s ∧ q'.nm = q.nm
theorem at_id {p : Pg} (h : mayP p = true) {q : Pr} (hq : q ∈ p.procs) {s : S} (hs : s ∈ preSL q.body) : AtId p s.id q s := by
 have h1 := may_flat h
 have h2 : ∀ q ∈ p.procs, ∀ x ∈ preSL q.body, findL p.procs x.id = (q.nm, x, true) := by
  unfold mayP at h
  rw [Bool.and_eq_true] at h
  cases h3 : prOk p.procs 0 with
  | none => rw [h3] at h; cases h.2
  | some c => exact prOk_find2 p.procs 0 c h3
 have h3 := rfL_find p.procs s.id (fun q hq => (h1.1 q hq).1)
 rw [h2 q hq s hs] at h3
 refine ⟨hq, hs, rfl, h3.1, h3.2, fun q' hq' x hx he => ?_⟩
 have h4 := h2 q' hq' x hx
 rw [he, h2 q hq s hs] at h4
 simp only [Prod.mk.injEq, and_true] at h4
 exact ⟨h4.2.symm, h4.1.symm⟩
/-- an id of a kind has its statement -/
theorem ids_at {p : Pg} (h : mayP p = true) {kd id : Int} (hi : id ∈ idsOf kd (allOf p)) : ∃ q s, AtId p id q s ∧ (kd = 0 ∨ s.kind = kd) ∧ 1 ≤ id ∧ id ≤ 200 := by
 unfold idsOf at hi
 rw [List.mem_map] at hi
 obtain ⟨x, hx, rfl⟩ := hi
 rw [List.mem_filter] at hx
 have h1 : x.s ∈ (allOf p).map It.s := List.mem_map_of_mem hx.1
 rw [all_map h, List.mem_flatMap] at h1
 obtain ⟨q, hq, hs⟩ := h1
 refine ⟨q, x.s, at_id h hq hs, ?_, may_ids h q hq _ hs⟩
 have := hx.2
 simp only [Bool.or_eq_true, beq_iff_eq] at this
 exact this
end Go.Proofs.YtimejkbmfbjomaaGreat
namespace Go.Proofs.YtimejkbmfbjomaaGreat
open Go.ChangeShapes Go.WideShapes Go.ChangeAt Go.RowKit Go.Deep
set_option linter.unusedVariables false
set_option linter.unusedSimpArgs false
theorem rfL_none : ∀ (l : List Pr) (id : Int), (∀ q ∈ l, (flatOf q).map It.s = preSL q.body) → (∀ q ∈ l, ∀ s ∈ preSL q.body, s.id ≠ id) → rfL l id = none
 | [], id, _, _ => rfl
 | q :: l, id, hm, h => by
  have hno : (flatOf q).find? (fun x => x.s.id == id) = none := by
   rw [List.find?_eq_none]
   intro z hz
   have : z.s ∈ preSL q.body := by rw [← hm q (List.mem_cons_self ..)]; exact List.mem_map_of_mem hz
   have := h q (List.mem_cons_self ..) _ this
   simpa using this
  rw [rfL, hno]
  exact rfL_none l id (fun q hq => hm q (List.mem_cons_of_mem _ hq)) (fun q hq => h q (List.mem_cons_of_mem _ hq))
end Go.Proofs.YtimejkbmfbjomaaGreat
namespace Go.Proofs.YtimejkbmfbjomaaGreat
open Go.ChangeShapes Go.WideShapes Go.ChangeAt Go.RowKit Go.Deep
set_option linter.unusedVariables false
set_option linter.unusedSimpArgs false
theorem jf_at {p : Pg} (hc : chkOK p = true) (hn : (p.procs.map Pr.nm).Nodup) {q : Pr} (hq : q ∈ p.procs) : ∃ m, ∃ hm : m < p.procs.length, jfP p q.nm = m ∧ p.procs[m] = q := by
 unfold jfP
 rw [if_pos hc]
 have hf := find_own p.procs hn q hq
 rcases idxL_get (isQ q.nm) p.procs 0 with ⟨h1, h2⟩ | ⟨j, hj, h1, h2, h3⟩
 ·rw [hf] at h2; cases h2
 ·refine ⟨j, hj, by rw [h1]; simp, ?_⟩
  rw [hf] at h3
  injection h3 with h3
  exact h3.symm
end Go.Proofs.YtimejkbmfbjomaaGreat
namespace Go.Proofs.YtimejkbmfbjomaaGreat
open Go.ChangeShapes Go.WideShapes Go.ChangeAt Go.RowKit Go.Deep
set_option linter.unusedVariables false
set_option linter.unusedSimpArgs false
theorem isT_eq (s t : ByteArray) : isT s t = (t.toList == s.toList) := by rw [dec_bytes]; unfold isT; exact decide_eq_decide.2 eq_comm
theorem isPa_eq (s : ByteArray) (x : Pa) : isPa s x = (x.nm.toList == s.toList) := by rw [dec_bytes]; rfl
theorem isQ_eq (s : ByteArray) (x : Pr) : isQ s x = (x.nm.toList == s.toList) := by rw [dec_bytes]; rfl
set_option maxHeartbeats 1000000 in
theorem rIn_any {w W : World} {Q : Nat → Prop} {l : List ByteArray} {v : Value} (h : TextsI w Q l v) (hI : In Q w W) (s : ByteArray) :
  Calls Tryz.prog 22 #[v, .string s] W fun e w' => e = .returned (.bool (l.any (isT s))) ∧ W = w' := by
 obtain ⟨A, cap, rfl, hl1, hl2⟩ := h.shape
 have H := Lib.hid h
 have HI := Lib.hid hI
 clear h hI
 go_enter Tryz.func22, Tryz.ntmps22
 go_wp2_with fail
 go_loopg [8] l.length (fun kk i wr => ∃ k : Nat, k + kk = l.length ∧ i = .int .i64 k ∧ Hid ((l.drop k).any (isT s) = l.any (isT s)) ∧ wr = W)
 case atStart => exact ⟨0, by omega, rfl, Lib.hid (by rw [List.drop_zero]), rfl⟩
 case round =>
  obtain ⟨k, hk, rfl, HW, rfl⟩ := hrel
  by_cases hlt : k < l.length
  ·obtain ⟨a, rfl, _, p1, hs⟩ := text_at H.out HI.out hlt
   have HD : Hid ((isT s l[k] || (l.drop (k + 1)).any (isT s)) = l.any (isT s)) := Lib.hid (by rw [← HW.out, List.drop_eq_getElem_cons hlt, List.any_cons])
   have hv := isT_eq s l[k]
   generalize l[k] = t at p1 hs HD hv
   cases hb : isT s t with
   | true =>
    rw [hb, Bool.true_or] at HD
    have hv2 : (t.toList == s.toList) = true := by rw [← hv]; exact hb
    clear hv hb
    go_wp2_with fail
    go_ret
    exact ⟨by rw [← HD.out]; rfl, rfl⟩
   | false =>
    rw [hb, Bool.false_or] at HD
    have hv2 : (t.toList == s.toList) = false := by rw [← hv]; exact hb
    clear hv hb
    go_wp2_with fail
    go_roundg (l.length - k - 1)
    case measure => omega
    case rel => exact ⟨k + 1, by omega, by go_num, HD, rfl⟩
  ·have HD : Hid (l.any (isT s) = false) := Lib.hid (by rw [← HW.out, List.drop_of_length_le (by omega)]; rfl)
   go_wp2_with fail
   go_ret
   exact ⟨by rw [HD.out]; rfl, rfl⟩
end Go.Proofs.YtimejkbmfbjomaaGreat
namespace Go.Proofs.YtimejkbmfbjomaaGreat
open Go.ChangeShapes Go.WideShapes Go.ChangeAt Go.RowKit Go.Deep
set_option linter.unusedVariables false
set_option linter.unusedSimpArgs false
theorem InOrd.mem {f : ByteArray → Bool} {l : List ByteArray} (h : InOrd f l) (s : ByteArray) : s ∈ l ↔ s.size ≤ maxLen ∧ f s = true := by
 obtain ⟨ss, rfl, _, h2⟩ := h.out
 rw [List.mem_map]
 constructor
 ·rintro ⟨x, hx, rfl⟩
  rw [List.mem_mergeSort] at hx
  obtain ⟨h3, h4⟩ := (h2 x).1 hx
  exact ⟨by rw [ba_size]; exact h3, h4⟩
 ·rintro ⟨h3, h4⟩
  exact ⟨s.data.toList, List.mem_mergeSort.2 ((h2 _).2 ⟨by rw [← ba_size, ← ba_of]; exact h3, by rw [← ba_of]; exact h4⟩), (ba_of s).symm⟩
/-- whom a right program calls is there -/
theorem called_there {p : Pg} (h : ChOk p) {q : Pr} (hq : q ∈ p.procs) {s : ByteArray} (hs : s ∈ callsOf (preSL q.body)) : ∃ f ∈ p.procs, f.nm = s := by
 unfold callsOf at hs
 obtain ⟨x, hx, rfl⟩ := List.mem_map.1 hs
 obtain ⟨hx1, hx2⟩ := List.mem_filter.1 hx
 have hb := h.stm q hq x hx1
 rw [← badR_eq (may_stm h.may q hq x hx1)] at hb
 unfold badR at hb
 have hk : (x.kind == 4) = true := hx2
 rw [Bool.or_eq_false_iff, hk, Bool.true_and, Bool.or_eq_false_iff] at hb
 have hb2 := hb.2
 have h3 : (p.procs.map Pr.nm).any (isT x.proc) = true := by simpa using hb2.2
 obtain ⟨y, hy, e⟩ := List.any_eq_true.1 h3
 obtain ⟨f, hf, rfl⟩ := List.mem_map.1 hy
 exact ⟨f, hf, (of_decide_eq_true e).symm⟩
theorem glob_mem {p : Pg} (h : ChOk p) (hc : chkOK p = true) {q : Pr} (hq : q ∈ p.procs) {l : List ByteArray} (ha : GlobOf p (jfP p q.nm) l) (s : ByteArray) : s ∈ l ↔ s.size ≤ maxLen ∧ s ∈ p.globals ∧ ∃ f ∈ p.procs, RchP p.procs q f ∧ s ∈ saidOf (preSL f.body) := by
 obtain ⟨m, hm, h1, h2⟩ := jf_at hc h.procs hq
 rw [h1] at ha
 rcases ha with ⟨h3, _⟩ | ⟨m2, hm2, vis, h3, hb, hi⟩
 ·omega
 ·obtain rfl : m = m2 := by omega
  rw [h2] at hb
  rw [hi.mem, Bool.and_eq_true]
  refine and_congr_right fun _ => and_congr ?_ ?_
  ·simp [isT]
  ·unfold sayF
   rw [List.any_eq_true]
   constructor
   ·rintro ⟨f, hf, h4⟩
    rw [Bool.and_eq_true, setF_mem2, setF_mem2] at h4
    obtain ⟨g, hg, hr, e⟩ := (hb.end_ h.procs _).1 h4.1
    obtain rfl := nm_inj h.procs hg hf e
    exact ⟨g, hf, hr, h4.2⟩
   ·rintro ⟨f, hf, hr, h4⟩
    refine ⟨f, hf, ?_⟩
    rw [Bool.and_eq_true, setF_mem2, setF_mem2]
    exact ⟨(hb.end_ h.procs _).2 ⟨f, hf, hr, rfl⟩, h4⟩
end Go.Proofs.YtimejkbmfbjomaaGreat
namespace Go.Proofs.YtimejkbmfbjomaaGreat
open Go.ChangeShapes Go.WideShapes Go.ChangeAt Go.RowKit Go.Deep
set_option linter.unusedVariables false
set_option linter.unusedSimpArgs false
theorem in_slf (A : Nat) (W9 : World) : In (fun b => A ≤ b ∧ b < W9.heap.size) W9 W9 := ⟨fun j h => h.2, fun _ _ => rfl⟩
end Go.Proofs.YtimejkbmfbjomaaGreat
namespace Go.Proofs.YtimejkbmfbjomaaGreat
open Go.ChangeShapes Go.WideShapes Go.ChangeAt Go.RowKit Go.Deep
open Go.Maps (Keyed has IsMap)
set_option linter.unusedVariables false
set_option linter.unusedSimpArgs false
theorem und_ms : Tryz.prog.underlying 87 = some (.map 9 22) := by kernel_rfl
theorem zero_ms (w : World) : (zeroValue 22).run Tryz.prog w = .ok (.slice none 0 0) w := by kernel_rfl
/-- an element reads as itself -/
def heldE (v : Value) : Option (DataW Value × List MemPlace) := some (.held v, [])
/-- block b is a map of at most n texts: those of which f is some -/
def MapI (W : World) (b n : Nat) (f : ByteArray → Option Value) : Prop := ∃ D : DataW Value, W.ownsMap Tryz.prog 9 heldE b n D ∧ ∀ s : ByteArray, s.size ≤ maxLen → D.atKey (kS s) (.held (.slice none 0 0)) = .held ((f s).getD (.slice none 0 0)) ∧ has D (kS s) = (f s).isSome
theorem MapI.lt {W : World} {b n : Nat} {f : ByteArray → Option Value} (h : MapI W b n f) : b < W.heap.size := by obtain ⟨D, h1, _⟩ := h; exact h1.lt
theorem MapI.mono {W : World} {b n m : Nat} {f : ByteArray → Option Value} (h : MapI W b n f) (hm : n ≤ m) : MapI W b m f := by obtain ⟨D, h1, h2⟩ := h; exact ⟨D, h1.mono hm, h2⟩
theorem MapI.made (W : World) : MapI (W.alloc (.map #[] 0)) W.heap.size 0 (fun _ => none) := ⟨.map [], World.ownsMap_made _ _ _ _, fun s _ => ⟨rfl, rfl⟩⟩
theorem MapI.same {W W' : World} {b n : Nat} {f : ByteArray → Option Value} (h : MapI W b n f) (hb : W'.heap[b]? = W.heap[b]?) : MapI W' b n f := by
 obtain ⟨D, ⟨es, clock, h1, h3⟩, h2⟩ := h
 exact ⟨D, ⟨es, clock, hb.trans h1, h3⟩, h2⟩
theorem MapI.obj {W : World} {b n : Nat} {f : ByteArray → Option Value} (h : MapI W b n f) : ∃ es clock, W.heap[b]? = some (.map es clock) := by
 obtain ⟨D, ⟨es, clock, h1, _⟩, _⟩ := h
 exact ⟨es, clock, h1⟩
theorem MapI.look {W : World} {b n : Nat} {f : ByteArray → Option Value} (h : MapI W b n f) {t : TypeId} (ht : Tryz.prog.underlying t = some (.map 9 22)) (s : ByteArray) (hs : s.size ≤ maxLen) : (Instr.lookup t (.map (some b)) (.string s) true).run Tryz.prog W = .ok (.tuple #[(f s).getD (.slice none 0 0), .bool (f s).isSome]) W := by
 obtain ⟨D, h1, h2⟩ := h
 obtain ⟨v, ps, h3, h4⟩ := h1.look_ok (Maps.string_keyed und_s) ht (zero_ms W) (zd := .held (.slice none 0 0)) (zp := []) rfl (kS_key s hs)
 rw [(h2 s hs).1] at h4
 rw [(h2 s hs).2] at h3
 have e : v = (f s).getD (.slice none 0 0) := DataW.held.inj (congrArg Prod.fst (Option.some.inj h4))
 rw [e] at h3
 exact h3
theorem MapI.put {W : World} {b n : Nat} {f : ByteArray → Option Value} (h : MapI W b n f) {t : TypeId} (ht : Tryz.prog.underlying t = some (.map 9 22)) (hn : n < maxLen) (s : ByteArray) (hs : s.size ≤ maxLen) (v : Value) : ∃ W', (Instr.mapUpdate t (.map (some b)) (.string s) v).run Tryz.prog W = .ok () W' ∧ MapI W' b (n + 1) (fun x => if x = s then some v else f x) ∧ W.grownBy W' (some b) := by
 obtain ⟨D, h1, h2⟩ := h
 have him : IsMap D := by obtain ⟨es, clock, _, _, _, rfl⟩ := h1; exact ⟨_, rfl⟩
 obtain ⟨W', h3, h4, h5⟩ := h1.update (Maps.string_keyed und_s) ht hn (kS_key s hs) (val := v) (d := .held v) (ps := []) rfl
 refine ⟨W', h3, ⟨_, h4, fun x hx => ?_⟩, h5⟩
 by_cases hxs : x = s
 ·subst hxs
  rw [Maps.atKey_put_same him (show WideAt.IsKeyLit (kS x) from trivial), Maps.has_put_same him (show WideAt.IsKeyLit (kS x) from trivial)]
  simp
 ·rw [Maps.atKey_put_other (kS_ne hxs), Maps.has_put_other (kS_ne hxs), (h2 x hx).1, (h2 x hx).2]
  simp [hxs]
/-- 'm[k] = v' at the operation -/
theorem wpList_mapPut {W : World} {ops : Array Oper} {rest : List Oper} {o : Oper} {a : Act} {R : Exit → Act → World → Prop}
 (hg : o.guard = none) (m x v : Operand) (t : TypeId) (hop : o.op = Op.mapUpdate t m x v) (ht : Tryz.prog.underlying t = some (.map 9 22)) (b n : Nat) (f : ByteArray → Option Value)
 (hm : a.eval m = .map (some b)) (hown : MapI W b n f) (hn : n < maxLen) (s : ByteArray) (hs : s.size ≤ maxLen) (hx : a.eval x = .string s) (u : Value) (hv : a.eval v = u)
 (hK : ∀ W', MapI W' b (n + 1) (fun x => if x = s then some u else f x) → W.grownBy W' (some b) → wpList Tryz.prog ops R rest (a.put o.dst undef) W') :
 wpList Tryz.prog ops R (o :: rest) a W := by
 refine wpList_plain hg fun K' hK' => ?_
 obtain ⟨W', hrun, r1, r2⟩ := hown.put ht hn s hs u
 unfold Oper.wp
 simp [execOp, hop, hm, hx, hv, hrun, Result.andThen]
 exact hK' _ _ (hK W' r1 r2)
/-- the answers that are kept: each a row that was made since B, the globals that the procedure touches -/
def CkI (p : Pg) (B : Nat) (W : World) (m n : Nat) : Prop := ∃ f, MapI W m n f ∧ ∀ s v, f s = some v → ∃ l X k, v = .slice X l.length k ∧ W.ownsRow B 9 1 (.slice X l.length k) l.length (strs l) ∧ GlobOf p (jfP p s) l
theorem CkI.lt {p : Pg} {B : Nat} {W : World} {m n : Nat} (h : CkI p B W m n) : m < W.heap.size := by obtain ⟨f, h1, _⟩ := h; exact h1.lt
theorem CkI.mono {p : Pg} {B : Nat} {W : World} {m n k : Nat} (h : CkI p B W m n) (hk : n ≤ k) : CkI p B W m k := by obtain ⟨f, h1, h2⟩ := h; exact ⟨f, h1.mono hk, h2⟩
theorem own_not_map {W : World} {B : Nat} {e : TypeId} {n : Nat} {v : Value} {xs : List Value} (h : W.ownsRow B e 1 v n xs) {m k : Nat} {f : ByteArray → Option Value} (hm : MapI W m k f) : ∀ j, v.ownBlock = some j → j ≠ m := by
 intro j hj e'
 obtain ⟨es, cl, ho⟩ := hm.obj
 rcases h.2 with ⟨rfl, _⟩ | ⟨g, cap, cur, rfl, _, hg, _⟩
 ·simp [Value.ownBlock] at hj
 ·simp [Value.ownBlock] at hj
  subst hj e'
  rw [hg] at ho
  cases ho
theorem CkI.step {p : Pg} {B : Nat} {W W' : World} {m n : Nat} (h : CkI p B W m n) (hb : Below W.heap.size W W') : CkI p B W' m n := by
 obtain ⟨f, h1, h2⟩ := h
 refine ⟨f, h1.same (hb.block m h1.lt), fun s v hs => ?_⟩
 obtain ⟨l, X, k, e, ho, hg⟩ := h2 s v hs
 exact ⟨l, X, k, e, (Below.moves hb).row ho (fun j hj e => Nat.not_lt.2 e (ho.lt j hj).2), hg⟩
theorem SliceI.take {α : Type} {w : World} {Q : Nat → Prop} {C : Nat} {R : α → List Value → Prop} {l : List α} {A : Option Addr} {n cap : Nat} (h : SliceI w Q C R l (.slice A n cap)) {k : Nat} (hk : k ≤ l.length) : SliceI w Q C R (l.take k) (.slice A k cap) := by
 obtain ⟨A', cap', css, h1, h2, h3, h4⟩ := h
 injection h1 with e1 e2 e3
 subst e1 e2 e3
 refine ⟨A, cap, css, by rw [List.length_take, Nat.min_eq_left hk], ⟨by rw [List.length_take]; omega, h2.2⟩, fun h0 => ?_, fun i hi => ?_⟩
 ·have h5 : 0 < l.length := by rw [List.length_take] at h0; omega
  obtain ⟨a, ha, hq, hcs⟩ := h3 h5
  exact ⟨a, ha, hq, fun i hi => hcs i (by rw [List.length_take] at hi; omega)⟩
 ·rw [List.getElem_take]
  exact h4 i (by rw [List.length_take] at hi; omega)
end Go.Proofs.YtimejkbmfbjomaaGreat
namespace Go.Proofs.YtimejkbmfbjomaaGreat
open Go.ChangeShapes Go.WideShapes Go.ChangeAt Go.RowKit
set_option linter.unusedVariables false
theorem small_any (c : UInt8) (w : World) :
    Calls Tryz.prog 151 #[.int .u8 c.toNat] w fun e w' => e = .returned (.bool (isLo c)) ∧ w = w' := by
  go_enter Tryz.func151, Tryz.ntmps151
  go_wp2
  all_goals
    go_ret
    refine ⟨ret_bool ?_, rfl⟩
    simp only [isLo]
    rw [Bool.eq_iff_iff]
    simp only [Bool.and_eq_true, decide_eq_true_eq, Bool.false_eq_true]
    first | omega | (simp only [false_iff, not_and]; intro _; omega)
theorem rdigit_any (c : UInt8) (w : World) :
    Calls Tryz.prog 152 #[.int .u8 c.toNat] w fun e w' => e = .returned (.bool (isDi c)) ∧ w = w' := by
  go_enter Tryz.func152, Tryz.ntmps152
  go_wp2
  all_goals
    go_ret
    refine ⟨ret_bool ?_, rfl⟩
    simp only [isDi]
    rw [Bool.eq_iff_iff]
    simp only [Bool.and_eq_true, decide_eq_true_eq, Bool.false_eq_true]
    first | omega | (simp only [false_iff, not_and]; intro _; omega)
theorem Words_any (w : World) : Calls Tryz.prog 173 #[] w fun e w' => e = .returned (.slice (some ⟨w.heap.size, 0, none⟩) 13 13) ∧ w' = w.alloc (.cells (strCells wds) 9) := by
  go_enter Tryz.func173, Tryz.ntmps173
  go_wp2
  go_ret
  exact ⟨rfl, rfl⟩
set_option maxHeartbeats 4000000 in
theorem rWord_any (s : ByteArray) (w : World) :
    Calls Tryz.prog 153 #[.string s] w fun e w' => e = .returned (.bool (isWd (bl s))) ∧ Below w.heap.size w w' := by
  have hb0 : Below w.heap.size w (w.alloc (.cells (strCells wds) 9)) := (Below.refl _ _).alloc (Nat.le_refl _) _
  have hcell : ∀ k, k < 13 → (w.alloc (.cells (strCells wds) 9)).cell? ⟨w.heap.size, k, none⟩ = some (.string (bs (wdAt wds k))) := fun k hk => str_cell w wds _ k hk
  obtain ⟨W, hW⟩ : ∃ W, W = w.alloc (.cells (strCells wds) 9) := ⟨_, rfl⟩
  have HC := Lib.hid hcell
  have HB := Lib.hid hb0
  rw [← hW] at HC HB
  have HW := Lib.hid hW
  clear hW hcell hb0
  go_enter Tryz.func153, Tryz.ntmps153
  go_wp2_with (go_at_call 173; refine (Words_any _).mono ?_; rintro e w' ⟨rfl, hw'⟩; rw [← HW.out] at hw'; subst hw')
  go_loop [4, 7] (fun _ i => ∃ k : Nat, k ≤ 13 ∧ i = .int .i64 k ∧ Hid ((wds.take k).any (bl s == ·) = false)) (fun _ i => 13 - (intOf i).toNat)
  case atStart => exact ⟨0, Nat.zero_le _, rfl, Lib.hid rfl⟩
  case round =>
    obtain ⟨k, hk, rfl, HA⟩ := hrel
    by_cases hlt : k < 13
    · have hc := HC.out k hlt
      cases he : (bl s == wdAt wds k) with
      | true =>
        have q : ((bs (wdAt wds k)).toList == s.toList) = true := by rw [beq_bytes]; exact he
        have HR := Lib.hid (any_hit (l := wds) hlt he)
        clear he
        go_wp2
        go_ret
        exact ⟨ret_bool HR.out.symm, HB.out⟩
      | false =>
        have q : ((bs (wdAt wds k)).toList == s.toList) = false := by rw [beq_bytes]; exact he
        have HR := Lib.hid (any_take (l := wds) hlt HA.out he)
        clear he
        go_wp2
        go_round
        case rel => exact ⟨k + 1, by omega, by go_num, HR⟩
        case measure => simp [intOf]; omega
    · go_wp2
      go_ret
      refine ⟨ret_bool ?_, HB.out⟩
      have := HA.out
      rw [List.take_of_length_le (by show 13 ≤ k; omega)] at this
      exact this.symm
set_option maxHeartbeats 4000000 in
theorem rName_any (s : ByteArray) (w : World) (hs : s.size ≤ maxLen) :
    Calls Tryz.prog 114 #[.string s] w fun e w' => e = .returned (.bool (isNm (bl s))) ∧ Below w.heap.size w w' := by
  unfold maxLen at hs
  by_cases h0 : s.size = 0
  · rw [nm_zero s h0]
    have hs0 : s = ⟨#[]⟩ := by apply ByteArray.ext; exact Array.eq_empty_of_size_eq_zero h0
    subst hs0
    go_enter Tryz.func114, Tryz.ntmps114
    go_wp2
    go_ret
    exact ⟨rfl, Below.refl _ _⟩
  · have hp : 0 < s.size := by omega
    have q0 : (s.toList == []) = false := by
      rw [bl_toList]
      have hc := bl_at s 0 hp
      rw [List.drop_zero] at hc
      rw [hc]
      rfl
    by_cases h8 : 8 < s.size
    · rw [nm_long s h8]
      clear h0
      go_enter Tryz.func114, Tryz.ntmps114
      go_wp2
      go_ret
      exact ⟨rfl, Below.refl _ _⟩
    · clear h0
      cases hl : isLo s[0] with
      | false =>
        rw [nm_head s hp hl]
        go_enter Tryz.func114, Tryz.ntmps114
        go_wp2_with (go_at_call 151; refine (small_any _ _).mono ?_; rintro e w' ⟨rfl, rfl⟩)
        go_ret
        exact ⟨rfl, Below.refl _ _⟩
      | true =>
        go_enter Tryz.func114, Tryz.ntmps114
        go_wp2_with (go_at_call 151; refine (small_any _ _).mono ?_; rintro e w' ⟨rfl, rfl⟩)
        go_loop [3] (fun i => ∃ k : Nat, 1 ≤ k ∧ k ≤ s.size ∧ i = .int .i64 k ∧ Hid (∀ j (hj : j < s.size), j < k → isLD s[j] = true)) (fun i => s.size - (intOf i).toNat)
        case atStart => exact ⟨1, Nat.le_refl _, by omega, rfl, Lib.hid (fun j hj h => by
          obtain rfl : j = 0 := by omega
          exact isLD_of_lo hl)⟩
        case round =>
          obtain ⟨k, hk1, hk, rfl, HA⟩ := hrel
          by_cases hlt : k < s.size
          · cases hld : isLD s[k] with
            | true =>
              have HA' : Hid (∀ j (hj : j < s.size), j < k + 1 → isLD s[j] = true) := Lib.hid (fun j hj h => by
                by_cases e : j = k
                · subst e; exact hld
                · exact HA.out j hj (by omega))
              rcases ld_cases hld with hl1 | ⟨hl1, hd1⟩
              all_goals
                clear hld
                go_wp2_with (first
                  | (go_at_call 151; refine (small_any _ _).mono ?_; rintro e w' ⟨rfl, rfl⟩)
                  | (go_at_call 152; refine (rdigit_any _ _).mono ?_; rintro e w' ⟨rfl, rfl⟩))
                go_round
                case rel => exact ⟨k + 1, by omega, by omega, by go_num, HA'⟩
                case measure => simp [intOf]; omega
            | false =>
              have HN := Lib.hid (nm_in s k hlt hld)
              obtain ⟨hl1, hd1⟩ := ld_false hld
              clear hld
              go_wp2_with (first
                | (go_at_call 151; refine (small_any _ _).mono ?_; rintro e w' ⟨rfl, rfl⟩)
                | (go_at_call 152; refine (rdigit_any _ _).mono ?_; rintro e w' ⟨rfl, rfl⟩))
              go_ret
              exact ⟨ret_bool HN.out.symm, Below.refl _ _⟩
          · have HN := Lib.hid (nm_all s hp (by omega) hl (fun j hj => HA.out j hj (by omega)))
            go_wp2_with (go_at_call 153; refine (rWord_any _ _).mono ?_; rintro e w' ⟨rfl, hb⟩)
            go_ret
            exact ⟨ret_bool HN.out.symm, hb⟩
end Go.Proofs.YtimejkbmfbjomaaGreat
