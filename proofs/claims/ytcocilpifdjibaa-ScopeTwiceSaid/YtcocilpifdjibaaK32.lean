/- Texts, merged by a program; only what is used. -/
import Derived.Test.YtcocilpifdjibaaK1
import Derived.Test.YtcocilpifdjibaaK2
import Derived.Test.YtcocilpifdjibaaK3
import Derived.Test.YtcocilpifdjibaaK4
import Derived.Test.YtcocilpifdjibaaK5
import Derived.Test.YtcocilpifdjibaaK6
import Derived.Test.YtcocilpifdjibaaK7
import Derived.Test.YtcocilpifdjibaaK8
import Derived.Test.YtcocilpifdjibaaK9
import Derived.Test.YtcocilpifdjibaaK10
import Derived.Test.YtcocilpifdjibaaK11
import Derived.Test.YtcocilpifdjibaaK12
import Derived.Test.YtcocilpifdjibaaK13
import Derived.Test.YtcocilpifdjibaaK14
import Derived.Test.YtcocilpifdjibaaK15
import Derived.Test.YtcocilpifdjibaaK18
import Derived.Test.YtcocilpifdjibaaK19
import Derived.Test.YtcocilpifdjibaaK20
import Derived.Test.YtcocilpifdjibaaK21
import Derived.Test.YtcocilpifdjibaaK22
import Derived.Test.YtcocilpifdjibaaK23
import Derived.Test.YtcocilpifdjibaaK24
import Derived.Test.YtcocilpifdjibaaK25
import Derived.Test.YtcocilpifdjibaaK26
import Derived.Test.YtcocilpifdjibaaK27
import Derived.Test.YtcocilpifdjibaaK28
import Derived.Test.YtcocilpifdjibaaK29
import Derived.Test.YtcocilpifdjibaaK30
import Derived.Test.YtcocilpifdjibaaK31
namespace Go.Proofs.Ytcocilpifdjibaa
open Go.ChangeShapes Go.WideShapes Go.ChangeAt Go.RowKit Go.Deep
set_option linter.unusedVariables false
set_option linter.unusedSimpArgs false
theorem namesE_w (e : E) : (namesE e).length ≤ wE e := by
 unfold namesE
 split
 ·have := walkE_len e []
  have := sizE_w e
  simp at *
  omega
 ·simp
theorem argsV_w : ∀ l : List Ar, (l.flatMap argV).length ≤ wAr l
 | [] => by simp
 | a :: l => by
  rw [List.flatMap_cons, List.length_append, wAr]
  have := argsV_w l
  have : (argV a).length ≤ wE a.x + (a.nm.size + 1) := by
   unfold argV
   split
   ·simp; omega
   ·have := namesE_w a.x; omega
  omega
theorem varsS_w (s : S) : (varsS s).length ≤ wS s := by
 obtain ⟨id, kind, labels, nm, proc, x, has, args, th, el⟩ := s
 unfold varsS
 rw [wS]
 simp only [List.length_append, S.x, S.nm, S.kind, S.args]
 have := argsV_w args
 have := namesE_w x
 have : (ownV kind nm).length ≤ nm.size + 1 := by unfold ownV; split <;> simp
 omega
theorem slice_mem {α : Type} {w : World} {Q : Nat → Prop} {C : Nat} {R : α → List Value → Prop} {l : List α} {v : Value} (h : SliceI w Q C R l v) : ∀ x ∈ l, ∃ cs, R x cs := by
 obtain ⟨A, cap, css, _, _, _, h4⟩ := h
 intro x hx
 obtain ⟨i, hi, rfl⟩ := List.getElem_of_mem hx
 exact ⟨_, h4 i hi⟩
theorem texts_sm {w : World} {Q : Nat → Prop} {l : List ByteArray} {v : Value} (h : TextsI w Q l v) : ∀ s ∈ l, small s := fun s hs => by obtain ⟨cs, _, h⟩ := slice_mem h s hs; exact h
theorem namesP_sm {w : World} {Q : Nat → Prop} {gl : List ByteArray} {q : Pr} {vg : Value} {cs : List Value} (hg : TextsI w Q gl vg) (h : ProcI w Q q cs) : ∀ s ∈ namesP gl q, small s := by
 obtain ⟨vp, vv, vb, ve, _, _, hp, hv, _, _⟩ := h
 intro s hs
 unfold namesP at hs
 simp only [List.mem_append, List.mem_map] at hs
 rcases hs with (hs | ⟨x, hx, rfl⟩) | hs
 ·exact texts_sm hg s hs
 ·obtain ⟨cs, _, h⟩ := slice_mem hp x hx; exact h
 ·exact texts_sm hv s hs
def mainB : ByteArray := ⟨#[109, 97, 105, 110]⟩
theorem isQ_T (s : ByteArray) (q : Pr) : isT s q.nm = isQ s q := decide_eq_decide.2 eq_comm
theorem idxL_map {α β : Type} (f : α → Bool) (g : β → α) : ∀ (l : List β) (k : Nat), idxL f (l.map g) k = idxL (fun x => f (g x)) l k
 | [], k => rfl
 | x :: l, k => by rw [List.map_cons, idxL, idxL, idxL_map f g l (k + 1)]
def chkL (gl ps : List ByteArray) : List Pr → Int × Int
 | [] => (0, 0)
 | q :: l => if dup (namesP gl q) = true then (5, 0) else if fstB (badS gl q ps) (preSL q.body) = 0 then chkL gl ps l else (5, fstB (badS gl q ps) (preSL q.body))
theorem chkL_drop {gl ps : List ByteArray} {l : List Pr} {k : Nat} (h : k < l.length) : chkL gl ps (l.drop k) = if dup (namesP gl l[k]) = true then (5, 0) else if fstB (badS gl l[k] ps) (preSL l[k].body) = 0 then chkL gl ps (l.drop (k + 1)) else (5, fstB (badS gl l[k] ps) (preSL l[k].body)) := by
 rw [List.drop_eq_getElem_cons h, chkL]
def mainBad (p : Pg) : Bool := (p.procs.find? (isQ mainB)).elim true (fun q => decide (0 < q.params.length))
def hdBad (p : Pg) : Bool := mainBad p || dup p.globals || dup (p.procs.map Pr.nm)
def chkP (p : Pg) : Int × Int := if mayP p = true then (if hdBad p = true then (5, 0) else chkL p.globals (p.procs.map Pr.nm) p.procs) else (1, 0)
def ChRes (r : Int × Int) (W : World) (e : Ending) (w' : World) : Prop := e = .returned (.agg #[.int .i64 r.1, .int .i64 r.2]) ∧ Below W.heap.size W w'
structure RowK (V wr : World) (g n k : Nat) (ps : List ByteArray) : Prop where
 row : ∃ xs, wr.ownsRow V.heap.size 9 1 (.slice (some ⟨g, 0, none⟩) n n) n xs ∧ xs.take k = strs (ps.take k)
 below : Below V.heap.size V wr
theorem RowK.frozen {V wr : World} {g n k : Nat} {ps : List ByteArray} (h : RowK V wr g n k ps) (j : Nat) : wr.frozen? ⟨g, j, none⟩ = false := by
 obtain ⟨xs, h, _⟩ := h.row; exact h.frozenAt j
theorem RowK.cell {V wr : World} {g n k : Nat} {ps : List ByteArray} (h : RowK V wr g n k ps) (j : Nat) (hj : j < n) : ∃ u, wr.cell? ⟨g, j, none⟩ = some u := by
 obtain ⟨xs, h, _⟩ := h.row
 have h2 := h.cellAt j (by omega)
 have h3 := h.1
 exact ⟨_, h2.trans (List.getElem?_eq_getElem (by rw [h3]; omega))⟩
theorem RowK.box {V wr : World} {g n k : Nat} {ps : List ByteArray} (h : RowK V wr g n k ps) (o : Obj) : RowK V (wr.alloc o) g n k ps := by
 obtain ⟨⟨xs, h1, h2⟩, h3⟩ := h
 exact ⟨⟨xs, h1.alloc o, h2⟩, below_stepA h3 o⟩
theorem RowK.store {V wr : World} {g n k : Nat} {ps : List ByteArray} (h : RowK V wr g n k ps) (hk : k < ps.length) (hn : k < n) : RowK V (wr.setCell ⟨g, k, none⟩ (.string ps[k])) g n (k + 1) ps := by
 obtain ⟨⟨xs, h1, h2⟩, h3⟩ := h
 obtain ⟨h4, h5⟩ := h1.stored k (.string ps[k])
 have hx := h1.1
 refine ⟨⟨_, h4, ?_⟩, h3.grown h5 h3.size (fun j hj => by injection hj with hj; subst hj; exact (h1.lt g rfl).1)⟩
 rw [List.take_succ_eq_append_getElem hk, strs_append, ← h2, List.take_set]
 apply List.ext_getElem?
 intro i
 rw [List.getElem?_set]
 by_cases hi : k = i
 ·subst hi
  rw [if_pos rfl, if_pos (by rw [List.length_take]; omega), List.getElem?_append_right (by rw [List.length_take]; omega), List.length_take, Nat.min_eq_left (by omega), Nat.sub_self]
  rfl
 ·rw [if_neg hi]
  by_cases hl : i < k
  ·rw [List.getElem?_append_left (by rw [List.length_take]; omega), List.getElem?_take, List.getElem?_take, if_pos (by omega), if_pos hl]
  ·rw [List.getElem?_append_right (by rw [List.length_take]; omega), List.getElem?_eq_none (by rw [List.length_take]; omega), List.getElem?_eq_none (by rw [List.length_take]; simp [strs]; omega)]
theorem run_made {n : Nat} (hn : n ≤ 1000) : ∃ M : Array Value, M.size = n * 1 ∧ ∀ W : World, (Instr.makeSlice 22 (.int .i64 n) (.int .i64 n)).run Try.prog W = .ok (.slice (some ⟨W.heap.size, 0, none⟩) n n) (W.alloc (.cells M 9)) := by
 obtain ⟨i1, z1, hi, hzz, hy1, hy2⟩ := info_frT
 refine ⟨madeCells z1.cells (n * i1.size), by rw [size_madeCells, hy1], fun W => ?_⟩
 have hbi : (i1.bytes : Int) * (n : Int) ≤ 281474976710656 := by have h := Int.ofNat_le.2 (Nat.mul_le_mul hy2 hn); rw [Int.natCast_mul] at h; omega
 have h := run_make (P := Try.prog) W 22 9 i1 z1 Try.underlying22 hi hzz .i64 .i64 (n : Int) (n : Int) (by omega) (Int.le_refl _) hbi (by omega)
 simp only [Int.toNat_natCast] at h
 exact h
theorem RowK.texts {V wr : World} {g n : Nat} {ps : List ByteArray} (h : RowK V wr g n n ps) (hn : n = ps.length) (hs : ∀ s ∈ ps, small s) : TextsI wr (fun j => V.heap.size ≤ j ∧ j < wr.heap.size) ps (.slice (some ⟨g, 0, none⟩) n n) := by
 obtain ⟨⟨xs, h1, h2⟩, h3⟩ := h
 have hx := h1.1
 have : xs = strs ps := by
  rw [List.take_of_length_le (by omega), hn, List.take_length] at h2
  exact h2
 subst this
 exact (texts_of_own hs h1).2
set_option maxHeartbeats 8000000 in
set_option maxRecDepth 100000 in
theorem Check_any {w : World} {Q : Nat → Prop} {p : Pg} {c0 c1 : Value} (h : ProgI w Q p [c0, c1]) (hsm : SmG p) (W : World) (hI : In Q w W) :
 Calls Try.prog 45 #[.agg #[c0, c1]] W (ChRes (chkP p) W) := by
 have HM := Lib.hid (fun V hV => May_any h V hV)
 obtain ⟨Ag, cg, Ap, cp, rfl, rfl, hg1, hg2, hp1, hp2, hgl, hpr⟩ := prog_open h
 have HG := Lib.hid hgl
 have HP := Lib.hid hpr
 have HI := Lib.hid hI
 have HSm := Lib.hid hsm
 have HK : Hid (chkP p = if mayP p = true then (if hdBad p = true then (5, 0) else chkL p.globals (p.procs.map Pr.nm) p.procs) else (1, 0)) := Lib.hid rfl
 clear h hI hgl hpr hsm
 cases hm : mayP p with
 | false =>
  rw [hm] at HM HK
  have HK0 : Hid (chkP p = (1, 0)) := Lib.hid HK.out
  clear hm HK
  go_enter Try.func45, Try.ntmps45
  go_upto_region 1 with fail
  have HB0 : Hid (Below W.heap.size W ((W.alloc (.cells #[.slice Ag p.globals.length cg, .slice Ap p.procs.length cp] 25)).alloc (.cells #[.int .i64 0, .int .i64 0] 39))) := Lib.hid (below_two _ _)
  have HBp : Hid (Blk ((W.alloc (.cells #[.slice Ag p.globals.length cg, .slice Ap p.procs.length cp] 25)).alloc (.cells #[.int .i64 0, .int .i64 0] 39)) W.heap.size 25 #[.slice Ag p.globals.length cg, .slice Ap p.procs.length cp]) := Lib.hid ((Blk.new _ _ _).alloc _)
  have HBf : Hid (Blk ((W.alloc (.cells #[.slice Ag p.globals.length cg, .slice Ap p.procs.length cp] 25)).alloc (.cells #[.int .i64 0, .int .i64 0] 39)) (W.heap.size + 1) 39 #[.int .i64 0, .int .i64 0]) := Lib.hid (by have := Blk.new (W.alloc (.cells #[.slice Ag p.globals.length cg, .slice Ap p.procs.length cp] 25)) 39 #[.int .i64 0, .int .i64 0]; rw [World.size_alloc] at this; exact this)
  generalize World.alloc _ _ = V at HB0 HBp HBf ⊢
  have q0 : V.cell? ⟨W.heap.size, 0, none⟩ = some (.slice Ag p.globals.length cg) := by rw [HBp.out.cell]; rfl
  have q1 : V.cell? ⟨W.heap.size, 1, none⟩ = some (.slice Ap p.procs.length cp) := by rw [HBp.out.cell]; rfl
  go_upto_region 2 with (go_at_call 17; refine (HM.out V (HI.out.on HB0.out)).mono ?_; rintro e w1 ⟨rfl, hb1⟩)
  have HB1 := Lib.hid (below_step HB0.out hb1)
  have HBf1 := Lib.hid (HBf.out.below hb1 HBf.out.lt)
  clear q0 q1 hb1 HB0 HBp HBf
  have f0 := HBf1.out.frozen 0
  have f1 := HBf1.out.frozen 1
  have y0 : w1.cell? ⟨W.heap.size + 1, 0, none⟩ = some (.int .i64 0) := by rw [HBf1.out.cell]; rfl
  have y1 : w1.cell? ⟨W.heap.size + 1, 1, none⟩ = some (.int .i64 0) := by rw [HBf1.out.cell]; rfl
  go_wp2_with fail
  refine bodyPost_ret (results_c1 rfl _ _ (W.heap.size + 1) 39 #[.int .i64 1, .int .i64 0] (0, 0) _ rfl ?_ Try.underlying39 rfl (by kernel_rfl)) rfl ?_
  ·have h := (HBf1.out.set_ 0 (.int .i64 1)).set_ 1 (.int .i64 0)
   simp only [List.setIfInBounds_toArray, List.set_cons_zero, List.set_cons_succ] at h
   exact h
  ·exact ⟨by rw [HK0.out], below_setc (below_setc HB1.out (show W.heap.size ≤ W.heap.size + 1 by omega) _) (show W.heap.size ≤ W.heap.size + 1 by omega) _⟩
 | true =>
  have HMy := Lib.hid hm
  rw [hm] at HM HK
  rw [if_pos rfl] at HK
  obtain ⟨hl1, hl2, hl3⟩ := may_lens hm
  have HL3 := Lib.hid hl3
  clear hm hl3
  obtain ⟨M, hMs, hmk⟩ := run_made (n := p.procs.length) (by omega)
  have HMs := Lib.hid hMs
  clear hMs
  go_enter Try.func45, Try.ntmps45
  go_upto_region 1 with fail
  have HB0 : Hid (Below W.heap.size W ((W.alloc (.cells #[.slice Ag p.globals.length cg, .slice Ap p.procs.length cp] 25)).alloc (.cells #[.int .i64 0, .int .i64 0] 39))) := Lib.hid (below_two _ _)
  have HBp : Hid (Blk ((W.alloc (.cells #[.slice Ag p.globals.length cg, .slice Ap p.procs.length cp] 25)).alloc (.cells #[.int .i64 0, .int .i64 0] 39)) W.heap.size 25 #[.slice Ag p.globals.length cg, .slice Ap p.procs.length cp]) := Lib.hid ((Blk.new _ _ _).alloc _)
  have HBf : Hid (Blk ((W.alloc (.cells #[.slice Ag p.globals.length cg, .slice Ap p.procs.length cp] 25)).alloc (.cells #[.int .i64 0, .int .i64 0] 39)) (W.heap.size + 1) 39 #[.int .i64 0, .int .i64 0]) := Lib.hid (by have := Blk.new (W.alloc (.cells #[.slice Ag p.globals.length cg, .slice Ap p.procs.length cp] 25)) 39 #[.int .i64 0, .int .i64 0]; rw [World.size_alloc] at this; exact this)
  generalize World.alloc _ _ = V at HB0 HBp HBf ⊢
  have HI0 := Lib.hid (HI.out.on HB0.out)
  have hwb : W.heap.size ≤ W.heap.size + 1 := by omega
  have hbf : W.heap.size ≠ W.heap.size + 1 := by omega
  generalize hbe : W.heap.size = b at HBp HBf hbf hwb ⊢
  generalize hfe : b + 1 = f at HBf hbf hwb ⊢
  have hWf : W.heap.size ≤ f := by omega
  clear hbe hfe
  have q0 : V.cell? ⟨b, 0, none⟩ = some (.slice Ag p.globals.length cg) := by rw [HBp.out.cell]; rfl
  have q1 : V.cell? ⟨b, 1, none⟩ = some (.slice Ap p.procs.length cp) := by rw [HBp.out.cell]; rfl
  have hbl := HBp.out.lt
  have hfl := HBf.out.lt
  go_upto_region 3 with (go_at_call 17; refine (HM.out V HI0.out).mono ?_; rintro e w1 ⟨rfl, hb1⟩)
  have HB1 := Lib.hid (below_step HB0.out hb1)
  have HI1 := Lib.hid (HI0.out.on hb1)
  have HBp1 := Lib.hid (HBp.out.below hb1 hbl)
  have HBf1 := Lib.hid (HBf.out.below hb1 hfl)
  clear q0 q1 hb1 HB0 HBp HBf HI0 hbl hfl HM
  have q1 : w1.cell? ⟨b, 1, none⟩ = some (.slice Ap p.procs.length cp) := by rw [HBp1.out.cell]; rfl
  have hbl := HBp1.out.lt
  have hfl := HBf1.out.lt
  go_upto_region 4 with fail
  have HS2 : Hid (RowK w1 (w1.alloc (.cells M 9)) w1.heap.size p.procs.length 0 (p.procs.map Pr.nm)) := Lib.hid ⟨⟨_, World.ownsRow_lit w1 M p.procs.length (Nat.le_refl _) (by unfold maxLen; omega) HMs.out, by simp [strs]⟩, below_box _⟩
  have HBp2 := Lib.hid (HBp1.out.below HS2.out.below hbl)
  clear q1 hmk HMs
  generalize World.alloc w1 _ = w2 at HS2 HBp2 ⊢
  have q1 : w2.cell? ⟨b, 1, none⟩ = some (.slice Ap p.procs.length cp) := by rw [HBp2.out.cell]; rfl
  go_upto_region 5 with fail
  clear q1 HBp2
  have hps : (p.procs.map Pr.nm).length = p.procs.length := List.length_map ..
  generalize hpe : p.procs.map Pr.nm = ps at *
  have HPE := Lib.hid hpe
  clear hpe
  have hgl : w1.heap.size = w1.heap.size := rfl
  generalize hge : w1.heap.size = g at HS2 ⊢
  have HGe := Lib.hid hge
  clear hge hgl
  go_loopw [22] (fun iv wr => ∃ (k : Nat), k ≤ p.procs.length ∧ iv = .int .i64 k ∧ Hid (RowK w1 wr g p.procs.length k ps)) (fun iv _ => p.procs.length - (intOf iv).toNat)
  case atStart => exact ⟨0, Nat.zero_le _, rfl, HS2⟩
  case round =>
   clear HS2
   obtain ⟨k, hk, rfl, HR⟩ := hrel
   have HIr := Lib.hid (HI1.out.on HR.out.below)
   have HBpr := Lib.hid (HBp1.out.below HR.out.below hbl)
   have HBfr := Lib.hid (HBf1.out.below HR.out.below hfl)
   by_cases hlt : k < p.procs.length
   ·obtain ⟨a, Bp, kp, Bv, kv, Bb, kb, Be, ke, rfl, hqa, ⟨p0, p1, p2, p3, p4, _⟩, hnm, hpp, hvv, hbody, hee⟩ := proc_at HP.out HIr.out hlt
    clear hqa hnm hpp hvv hbody hee
    have hkp : k < ps.length := by omega
    have HX : Hid (ps[k] = p.procs[k].nm) := Lib.hid (by simp only [← HPE.out, List.getElem_map])
    have HSt := Lib.hid (fun V (h : RowK w1 V g p.procs.length k ps) => h.store hkp hlt)
    rw [HX.out] at HSt
    generalize p.procs[k].nm = xn at p0 HSt
    generalize p.procs[k].params.length = x1 at p1
    generalize p.procs[k].vars.length = x2 at p2
    generalize p.procs[k].body.length = x3 at p3
    generalize p.procs[k].end_.length = x4 at p4
    clear HX
    have HR2 := Lib.hid (HR.out.box (.cells #[.string xn, .slice Bp x1 kp, .slice Bv x2 kv, .slice Bb x3 kb, .slice Be x4 ke] 59))
    obtain ⟨u, hu⟩ := HR2.out.cell k hlt
    have hf := HR2.out.frozen k
    have hu2 : (wr.alloc (.cells #[.string xn, .slice Bp x1 kp, .slice Bv x2 kv, .slice Bb x3 kb, .slice Be x4 ke] 59)).cell? ((⟨g, 0, none⟩ : Addr).add k) = some u := by rw [addr0]; exact hu
    have hf2 : (wr.alloc (.cells #[.string xn, .slice Bp x1 kp, .slice Bv x2 kv, .slice Bb x3 kb, .slice Be x4 ke] 59)).frozen? ((⟨g, 0, none⟩ : Addr).add k) = false := by rw [addr0]; exact hf
    have HS3 := Lib.hid (HSt.out _ HR2.out)
    go_wp2_with fail
    go_roundw
    case rel => exact ⟨k + 1, by omega, by go_num, HS3⟩
    case measure => simp [intOf]; omega
   ·have hke : k = p.procs.length := by omega
    subst hke
    clear hk hlt
    have HBW : Hid (Below W.heap.size W wr) := Lib.hid (below_step HB1.out HR.out.below)
    have hpsS : ∀ s ∈ ps, small s := fun s hs => by
     rw [← HPE.out, List.mem_map] at hs
     obtain ⟨q, hq, rfl⟩ := hs
     obtain ⟨cs, _, _, _, _, _, h, _⟩ := slice_mem HP.out q hq
     exact h
    obtain ⟨T, HT3, HG3, HP3, HN3⟩ : ∃ T : Nat → Prop, In T wr wr ∧ TextsI wr T p.globals (.slice Ag p.globals.length cg) ∧ SliceI wr T 5 (ProcI wr T) p.procs (.slice Ap p.procs.length cp) ∧ TextsI wr T ps (.slice (some ⟨g, 0, none⟩) p.procs.length p.procs.length) :=
     ⟨fun j => Q j ∨ (w1.heap.size ≤ j ∧ j < wr.heap.size), ⟨fun j hj => by rcases hj with hj | hj; exact HIr.out.1 j hj; exact hj.2, fun _ _ => rfl⟩,
      SliceI.keep HG.out (fun _ h => .inl h) HIr.out.2 (fun _ _ _ h => h), SliceI.keep HP.out (fun _ h => .inl h) HIr.out.2 (fun _ _ _ h => ProcI.keep h (fun _ h => .inl h) HIr.out.2),
      SliceI.keep (HR.out.texts hps.symm hpsS) (fun _ h => .inr h) (fun _ _ => rfl) (fun _ _ _ h => h)⟩
    have HT := Lib.hid HT3
    have HG' := Lib.hid HG3
    have HP' := Lib.hid HP3
    have HN' := Lib.hid HN3
    have HX := Lib.hid (Index_any HN3 HT3 ⟨#[109, 97, 105, 110]⟩)
    have HD1 := Lib.hid (fun V hV => distinct_any (W := V) HG3 hV)
    have HD2 := Lib.hid (fun V hV => distinct_any (W := V) HN3 hV)
    have hfd : (idxL (isT ⟨#[109, 97, 105, 110]⟩) ps 0 = -1 ∧ mainBad p = true) ∨ ∃ j, ∃ hj : j < p.procs.length, idxL (isT ⟨#[109, 97, 105, 110]⟩) ps 0 = ((j : Nat) : Int) ∧ mainBad p = decide (0 < p.procs[j].params.length) := by
     have he : idxL (isT ⟨#[109, 97, 105, 110]⟩) ps 0 = idxL (isQ mainB) p.procs 0 := by
      rw [← HPE.out, idxL_map]
      congr 1
      funext q
      exact isQ_T _ q
     rw [he]
     unfold mainBad
     rcases idxL_get (isQ mainB) p.procs 0 with ⟨h1, h2⟩ | ⟨j, hj, h1, _, h3⟩
     ·exact .inl ⟨h1, by rw [h2]; rfl⟩
     ·exact .inr ⟨j, hj, by rw [h1, Nat.zero_add], by rw [h3]; rfl⟩
    clear HT3 HG3 HP3 HN3 hpsS HG HP HIr HI1 HI
    have HHb : Hid (hdBad p = (mainBad p || dup p.globals || dup ps)) := Lib.hid (by unfold hdBad; rw [HPE.out])
    generalize idxL (isT ⟨#[109, 97, 105, 110]⟩) ps 0 = z at HX hfd
    generalize mainBad p = b0 at hfd HHb
    generalize hdBad p = hb at HHb HK
    generalize dup p.globals = b1 at HD1 HHb
    generalize dup ps = b2 at HD2 HHb
    have hbl := HBpr.out.lt
    have hfl := HBfr.out.lt
    have q0 : wr.cell? ⟨b, 0, none⟩ = some (.slice Ag p.globals.length cg) := by rw [HBpr.out.cell]; rfl
    have q1 : wr.cell? ⟨b, 1, none⟩ = some (.slice Ap p.procs.length cp) := by rw [HBpr.out.cell]; rfl
    clear HR hg1 hg2
    go_upto_region 10 with (go_at_call 101; refine HX.out.mono ?_; rintro e w' ⟨rfl, rfl⟩)
    go_cut [57] from 35 to 56 (fun s wx => s = .bool hb ∧ wx = wr)
    case first =>
     clear HX
     rcases hfd with ⟨rfl, h0⟩ | ⟨j, hj, rfl, h0⟩
     ·have HH : Hid (hb = true) := Lib.hid (by rw [HHb.out, h0]; rfl)
      clear HHb h0
      go_wp2_with fail
      go_meet
      exact ⟨by rw [HH.out], rfl⟩
     ·obtain ⟨a, Bp, kp, Bv, kv, Bb, kb, Be, ke, rfl, hqa, ⟨p0, p1, p2, p3, p4, _⟩, hnm, hpp, hvv, hbody, hee⟩ := proc_at HP'.out HT.out hj
      obtain ⟨_, hx1, hx2, _⟩ := slice_len hpp
      clear hqa hnm hpp hvv hbody hee p0 p2 p3 p4
      generalize p.procs[j].params.length = x1 at p1 h0 hx1
      by_cases hx : 0 < x1
      ·have HH : Hid (hb = true) := Lib.hid (by rw [HHb.out, h0, decide_eq_true hx]; rfl)
       clear HHb h0
       go_wp2_with fail
       go_meet
       exact ⟨by rw [HH.out], rfl⟩
      ·have HH : Hid (hb = (b1 || b2)) := Lib.hid (by rw [HHb.out, h0, decide_eq_false hx]; rfl)
       have hx0 : x1 = 0 := by omega
       subst hx0
       clear HHb h0 hx
       cases b1
       ·cases b2
        all_goals
         go_wp2_with (first
          | (go_at_call 102; (with_reducible refine (HD1.out wr HT.out).mono ?_); rintro e w' ⟨rfl, rfl⟩)
          | (go_at_call 102; (with_reducible refine (HD2.out wr HT.out).mono ?_); rintro e w' ⟨rfl, rfl⟩))
         go_meet
         exact ⟨by rw [HH.out]; rfl, rfl⟩
       ·go_wp2_with (go_at_call 102; (with_reducible refine (HD1.out wr HT.out).mono ?_); rintro e w' ⟨rfl, rfl⟩)
        go_meet
        exact ⟨by rw [HH.out]; rfl, rfl⟩
    case rest =>
     obtain ⟨rfl, rfl⟩ := hcut
     clear HX hfd HHb HD1 HD2
     have f0 := HBfr.out.frozen 0
     have f1 := HBfr.out.frozen 1
     have y0 : wc.cell? ⟨f, 0, none⟩ = some (.int .i64 0) := by rw [HBfr.out.cell]; rfl
     have y1 : wc.cell? ⟨f, 1, none⟩ = some (.int .i64 0) := by rw [HBfr.out.cell]; rfl
     cases hb with
     | true =>
      go_wp2_with fail
      refine bodyPost_ret (results_c1 rfl _ _ f 39 #[.int .i64 5, .int .i64 0] (0, 0) _ rfl ?_ Try.underlying39 rfl (by kernel_rfl)) rfl ?_
      ·have h := (HBfr.out.set_ 0 (.int .i64 5)).set_ 1 (.int .i64 0)
       simp only [List.setIfInBounds_toArray, List.set_cons_zero, List.set_cons_succ] at h
       exact h
      ·exact ⟨by rw [HK.out]; rfl, below_setc (below_setc HBW.out hWf _) hWf _⟩
     | false =>
      have HK2 : Hid (chkP p = chkL p.globals ps p.procs) := Lib.hid HK.out
      clear HK f0 f1 y0 y1
      go_upto_region 13 with fail
      clear q0 q1
      go_loopw [62] (fun iv wr => ∃ (k : Nat), k ≤ p.procs.length ∧ iv = .int .i64 k ∧ Hid (Below wc.heap.size wc wr) ∧ Hid (chkL p.globals ps (p.procs.drop k) = chkL p.globals ps p.procs)) (fun iv _ => p.procs.length - (intOf iv).toNat)
      case atStart => exact ⟨0, Nat.zero_le _, rfl, Lib.hid (Below.refl _ _), Lib.hid rfl⟩
      case round =>
       obtain ⟨k, hk, rfl, HBr, HA⟩ := hrel
       have HIr := Lib.hid (HT.out.on HBr.out)
       have HBpr2 := Lib.hid (HBpr.out.below HBr.out hbl)
       have HBfr2 := Lib.hid (HBfr.out.below HBr.out hfl)
       by_cases hlt : k < p.procs.length
       ·obtain ⟨a, Bp, kp, Bv, kv, Bb, kb, Be, ke, rfl, hqa, hrow, hnm, hpp, hvv, hbody, hee⟩ := proc_at HP'.out HIr.out hlt
        have HPI : Hid (ProcI wc T p.procs[k] [.string p.procs[k].nm, .slice Bp p.procs[k].params.length kp, .slice Bv p.procs[k].vars.length kv, .slice Bb p.procs[k].body.length kb, .slice Be p.procs[k].end_.length ke]) := Lib.hid ⟨_, _, _, _, rfl, hnm, hpp, hvv, hbody, hee⟩
        have hmem := List.getElem_mem hlt
        have hls := HL3.out _ hmem
        have HNa := Lib.hid (fun V hV => namesIn_any HG'.out HPI.out ⟨hl1, hls.1, hls.2⟩ V hV)
        have HNs := Lib.hid (namesP_sm HG'.out HPI.out)
        have hid := may_ids HMy.out _ hmem
        have hwl := (HSm.out.proc _ hmem).1
        have HWr := Lib.hid (fun V hV => wrong_any HG'.out HN'.out HPI.out _ p.procs[k].body (Nat.lt_succ_self _) (W := V) hbody hV (fun s hs h0 => by have := hid s hs; omega) (fun s hs => Nat.le_trans (varsS_w s) (Nat.le_trans (preSL_w _ s hs) hwl)))
        have HAk := Lib.hid (chkL_drop (gl := p.globals) (ps := ps) hlt)
        rw [HA.out] at HAk
        have hbB : i64 (fstB (badS p.globals p.procs[k] ps) (preSL p.procs[k].body)) := by
         unfold fstB
         cases hf : (preSL p.procs[k].body).find? (badS p.globals p.procs[k] ps) with
         | none => simp [i64]
         | some s =>
          have := hid s (List.mem_of_find?_eq_some hf)
          simp only [Option.elim_some]
          unfold i64
          omega
        clear HPI hnm hpp hvv hbody hee hid hwl hls hmem hqa
        generalize namesP p.globals p.procs[k] = nl at HNa HNs HAk
        generalize fstB (badS p.globals p.procs[k] ps) (preSL p.procs[k].body) = r at HWr HAk hbB
        generalize p.procs[k].nm = x0 at hrow HNa HWr
        generalize p.procs[k].params.length = x1 at hrow HNa HWr
        generalize p.procs[k].vars.length = x2 at hrow HNa HWr
        generalize p.procs[k].body.length = x3 at hrow HNa HWr
        generalize p.procs[k].end_.length = x4 at hrow HNa HWr
        obtain ⟨p0, p1, p2, p3, p4, _⟩ := hrow
        unfold i64 at hbB
        go_upto_region 15 with fail
        have HBx : Hid (Blk (wr.alloc (.cells #[.string x0, .slice Bp x1 kp, .slice Bv x2 kv, .slice Bb x3 kb, .slice Be x4 ke] 59)) wr.heap.size 59 #[.string x0, .slice Bp x1 kp, .slice Bv x2 kv, .slice Bb x3 kb, .slice Be x4 ke]) := Lib.hid (Blk.new _ _ _)
        have HB4 : Hid (Below wc.heap.size wc (wr.alloc (.cells #[.string x0, .slice Bp x1 kp, .slice Bv x2 kv, .slice Bb x3 kb, .slice Be x4 ke] 59))) := Lib.hid (below_stepA HBr.out _)
        have HI4 : Hid (In T wc (wr.alloc (.cells #[.string x0, .slice Bp x1 kp, .slice Bv x2 kv, .slice Bb x3 kb, .slice Be x4 ke] 59))) := Lib.hid (HIr.out.alloc _)
        clear p0 p1 p2 p3 p4 HIr HBpr2 HBfr2
        generalize World.alloc wr _ = V4 at HBx HB4 HI4 ⊢
        generalize wr.heap.size = bx at HBx ⊢
        have HBp4 := Lib.hid (HBpr.out.below HB4.out hbl)
        have hx4 := HBx.out.lt
        have q0 : V4.cell? ⟨b, 0, none⟩ = some (.slice Ag p.globals.length cg) := by rw [HBp4.out.cell]; rfl
        have z0 : V4.cell? ⟨bx, 0, none⟩ = some (.string x0) := by rw [HBx.out.cell]; rfl
        have z1 : V4.cell? ⟨bx, 1, none⟩ = some (.slice Bp x1 kp) := by rw [HBx.out.cell]; rfl
        have z2 : V4.cell? ⟨bx, 2, none⟩ = some (.slice Bv x2 kv) := by rw [HBx.out.cell]; rfl
        have z3 : V4.cell? ⟨bx, 3, none⟩ = some (.slice Bb x3 kb) := by rw [HBx.out.cell]; rfl
        have z4 : V4.cell? ⟨bx, 4, none⟩ = some (.slice Be x4 ke) := by rw [HBx.out.cell]; rfl
        obtain ⟨d, hd⟩ : ∃ d, d = dup nl := ⟨_, rfl⟩
        have HDd := Lib.hid hd
        rw [← hd] at HAk
        clear hd
        go_upto_if 71 with (first
         | (go_at_call 103; refine (HNa.out V4 HI4.out).mono ?_; rintro e w5 ⟨v5, rfl, ho5, hb5⟩; obtain ⟨X5, k5, rfl, _, _⟩ := own_shape ho5; have HT5 := Lib.hid (new_small HNs.out ho5); have HB5 := Lib.hid hb5; clear ho5 hb5; have HD5 := Lib.hid (distinct_any (W := w5) HT5.out ⟨fun j h => h.2, fun _ _ => rfl⟩); rw [← HDd.out] at HD5)
         | (go_at_call 102; refine HD5.out.mono ?_; rintro e w' ⟨rfl, rfl⟩))
        have HBx5 := Lib.hid (HBx.out.below HB5.out hx4)
        have HB6 := Lib.hid (below_step HB4.out HB5.out)
        have HI6 := Lib.hid (HI4.out.on HB5.out)
        clear q0 z0 z1 z2 z3 z4 HT5 HD5 HBx HBp4 hx4 HNa HNs
        have HBp6 := Lib.hid (HBpr.out.below HB6.out hbl)
        have HBf6 := Lib.hid (HBfr.out.below HB6.out hfl)
        have hx5 := HBx5.out.lt
        cases d with
        | true =>
         have HAn : Hid (chkL p.globals ps p.procs = (5, 0)) := Lib.hid HAk.out
         have f0 := HBf6.out.frozen 0
         have f1 := HBf6.out.frozen 1
         have y0 : w5.cell? ⟨f, 0, none⟩ = some (.int .i64 0) := by rw [HBf6.out.cell]; rfl
         have y1 : w5.cell? ⟨f, 1, none⟩ = some (.int .i64 0) := by rw [HBf6.out.cell]; rfl
         clear HAk HDd
         go_wp2_with fail
         (try simp only [Exit.inBlock, Exit.then])
         refine bodyPost_ret (results_c1 rfl _ _ f 39 #[.int .i64 5, .int .i64 0] (0, 0) _ rfl ?_ Try.underlying39 rfl (by kernel_rfl)) rfl ?_
         ·have h := (HBf6.out.set_ 0 (.int .i64 5)).set_ 1 (.int .i64 0)
          simp only [List.setIfInBounds_toArray, List.set_cons_zero, List.set_cons_succ] at h
          exact h
         ·exact ⟨by rw [HK2.out, HAn.out], below_setc (below_setc (below_step HBW.out HB6.out) hWf _) hWf _⟩
        | false =>
         have HAn : Hid (chkL p.globals ps p.procs = if r = 0 then chkL p.globals ps (p.procs.drop (k + 1)) else (5, r)) := Lib.hid HAk.out
         clear HAk HDd
         have q0 : w5.cell? ⟨b, 0, none⟩ = some (.slice Ag p.globals.length cg) := by rw [HBp6.out.cell]; rfl
         have z0 : w5.cell? ⟨bx, 0, none⟩ = some (.string x0) := by rw [HBx5.out.cell]; rfl
         have z1 : w5.cell? ⟨bx, 1, none⟩ = some (.slice Bp x1 kp) := by rw [HBx5.out.cell]; rfl
         have z2 : w5.cell? ⟨bx, 2, none⟩ = some (.slice Bv x2 kv) := by rw [HBx5.out.cell]; rfl
         have z3 : w5.cell? ⟨bx, 3, none⟩ = some (.slice Bb x3 kb) := by rw [HBx5.out.cell]; rfl
         have z4 : w5.cell? ⟨bx, 4, none⟩ = some (.slice Be x4 ke) := by rw [HBx5.out.cell]; rfl
         go_upto_region 18 with fail
         have HBy : Hid (Blk (w5.alloc (.cells #[.slice Ag p.globals.length cg, .slice (some ⟨g, 0, none⟩) p.procs.length p.procs.length, .string x0, .slice Bp x1 kp, .slice Bv x2 kv, .slice Bb x3 kb, .slice Be x4 ke] 131)) w5.heap.size 131 #[.slice Ag p.globals.length cg, .slice (some ⟨g, 0, none⟩) p.procs.length p.procs.length, .string x0, .slice Bp x1 kp, .slice Bv x2 kv, .slice Bb x3 kb, .slice Be x4 ke]) := Lib.hid (Blk.new _ _ _)
         have HB7 : Hid (Below wc.heap.size wc (w5.alloc (.cells #[.slice Ag p.globals.length cg, .slice (some ⟨g, 0, none⟩) p.procs.length p.procs.length, .string x0, .slice Bp x1 kp, .slice Bv x2 kv, .slice Bb x3 kb, .slice Be x4 ke] 131))) := Lib.hid (below_stepA HB6.out _)
         have HI7 : Hid (In T wc (w5.alloc (.cells #[.slice Ag p.globals.length cg, .slice (some ⟨g, 0, none⟩) p.procs.length p.procs.length, .string x0, .slice Bp x1 kp, .slice Bv x2 kv, .slice Bb x3 kb, .slice Be x4 ke] 131))) := Lib.hid (HI6.out.alloc _)
         have HBx7 : Hid (Blk (w5.alloc (.cells #[.slice Ag p.globals.length cg, .slice (some ⟨g, 0, none⟩) p.procs.length p.procs.length, .string x0, .slice Bp x1 kp, .slice Bv x2 kv, .slice Bb x3 kb, .slice Be x4 ke] 131)) bx 59 #[.string x0, .slice Bp x1 kp, .slice Bv x2 kv, .slice Bb x3 kb, .slice Be x4 ke]) := Lib.hid (HBx5.out.alloc _)
         clear q0 z0 z1 z2 z3 z4 HBx5 HI6 HBp6 HBf6 hx5 HI4 HB4 HB5
         generalize World.alloc w5 _ = V7 at HBy HB7 HI7 HBx7 ⊢
         generalize w5.heap.size = by_ at HBy ⊢
         have z3 : V7.cell? ⟨bx, 3, none⟩ = some (.slice Bb x3 kb) := by rw [HBx7.out.cell]; rfl
         have c0 : V7.cell? ⟨by_, 0, none⟩ = some (.slice Ag p.globals.length cg) := by rw [HBy.out.cell]; rfl
         have c1 : V7.cell? ⟨by_, 1, none⟩ = some (.slice (some ⟨g, 0, none⟩) p.procs.length p.procs.length) := by rw [HBy.out.cell]; rfl
         have c2 : V7.cell? ⟨by_, 2, none⟩ = some (.string x0) := by rw [HBy.out.cell]; rfl
         have c3 : V7.cell? ⟨by_, 3, none⟩ = some (.slice Bp x1 kp) := by rw [HBy.out.cell]; rfl
         have c4 : V7.cell? ⟨by_, 4, none⟩ = some (.slice Bv x2 kv) := by rw [HBy.out.cell]; rfl
         have c5 : V7.cell? ⟨by_, 5, none⟩ = some (.slice Bb x3 kb) := by rw [HBy.out.cell]; rfl
         have c6 : V7.cell? ⟨by_, 6, none⟩ = some (.slice Be x4 ke) := by rw [HBy.out.cell]; rfl
         go_upto_region 19 with (go_at_call 104; refine (HWr.out V7 HI7.out).mono ?_; rintro e w8 ⟨rfl, hb8⟩)
         have HB8 := Lib.hid (below_step HB7.out hb8)
         clear z3 c0 c1 c2 c3 c4 c5 c6 hb8 HB7 HI7 HBx7 HBy HWr
         by_cases hr : r = 0
         ·subst hr
          rw [if_pos rfl] at HAn
          go_wp2_with fail
          go_roundw
          case rel => exact ⟨k + 1, by omega, by go_num, HB8, Lib.hid HAn.out.symm⟩
          case measure => simp [intOf]; omega
         ·rw [if_neg hr] at HAn
          have hr1 : (r == 0) = false := beq_eq_false_iff_ne.2 hr
          have HBf8 := Lib.hid (HBfr.out.below HB8.out hfl)
          have f0 := HBf8.out.frozen 0
          have f1 := HBf8.out.frozen 1
          have y0 : w8.cell? ⟨f, 0, none⟩ = some (.int .i64 0) := by rw [HBf8.out.cell]; rfl
          have y1 : w8.cell? ⟨f, 1, none⟩ = some (.int .i64 0) := by rw [HBf8.out.cell]; rfl
          clear hr
          go_wp2_with fail
          (try simp only [Exit.inBlock, Exit.then])
          refine bodyPost_ret (results_c1 rfl _ _ f 39 #[.int .i64 5, .int .i64 r] (0, 0) _ rfl ?_ Try.underlying39 rfl (by kernel_rfl)) rfl ?_
          ·have h := (HBf8.out.set_ 0 (.int .i64 5)).set_ 1 (.int .i64 r)
           simp only [List.setIfInBounds_toArray, List.set_cons_zero, List.set_cons_succ] at h
           exact h
          ·exact ⟨by rw [HK2.out, HAn.out], below_setc (below_setc (below_step HBW.out HB8.out) hWf _) hWf _⟩
       ·have HAn : Hid (chkL p.globals ps p.procs = (0, 0)) := Lib.hid (by rw [← HA.out, List.drop_of_length_le (by omega)]; rfl)
        have f0 := HBfr2.out.frozen 0
        have f1 := HBfr2.out.frozen 1
        have y0 : wr.cell? ⟨f, 0, none⟩ = some (.int .i64 0) := by rw [HBfr2.out.cell]; rfl
        have y1 : wr.cell? ⟨f, 1, none⟩ = some (.int .i64 0) := by rw [HBfr2.out.cell]; rfl
        go_wp2_with fail
        (try simp only [Exit.inBlock, Exit.then])
        refine bodyPost_ret (results_c1 rfl _ _ f 39 #[.int .i64 0, .int .i64 0] (0, 0) _ rfl ?_ Try.underlying39 rfl (by kernel_rfl)) rfl ?_
        ·have h := (HBfr2.out.set_ 0 (.int .i64 0)).set_ 1 (.int .i64 0)
         simp only [List.setIfInBounds_toArray, List.set_cons_zero, List.set_cons_succ] at h
         exact h
        ·exact ⟨by rw [HK2.out, HAn.out], below_setc (below_setc (below_step HBW.out HBr.out) hWf _) hWf _⟩
end Go.Proofs.Ytcocilpifdjibaa
