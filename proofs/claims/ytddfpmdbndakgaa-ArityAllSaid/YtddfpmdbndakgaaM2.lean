/- Texts, merged by a program; only what is used. -/
import Derived.Test.YtddfpmdbndakgaaK1
import Derived.Test.YtddfpmdbndakgaaK2
import Derived.Test.YtddfpmdbndakgaaK3
import Derived.Test.YtddfpmdbndakgaaK4
import Derived.Test.YtddfpmdbndakgaaK5
import Derived.Test.YtddfpmdbndakgaaK6
import Derived.Test.YtddfpmdbndakgaaK7
import Derived.Test.YtddfpmdbndakgaaK8
import Derived.Test.YtddfpmdbndakgaaK9
import Derived.Test.YtddfpmdbndakgaaK10
import Derived.Test.YtddfpmdbndakgaaK11
import Derived.Test.YtddfpmdbndakgaaK12
import Derived.Test.YtddfpmdbndakgaaK13
import Derived.Test.YtddfpmdbndakgaaK14
import Derived.Test.YtddfpmdbndakgaaK15
import Derived.Test.YtddfpmdbndakgaaK16
import Derived.Test.YtddfpmdbndakgaaK17
import Derived.Test.YtddfpmdbndakgaaK18
import Derived.Test.YtddfpmdbndakgaaK19
import Derived.Test.YtddfpmdbndakgaaK20
import Derived.Test.YtddfpmdbndakgaaK21
import Derived.Test.YtddfpmdbndakgaaK22
import Derived.Test.YtddfpmdbndakgaaK23
import Derived.Test.YtddfpmdbndakgaaK24
import Derived.Test.YtddfpmdbndakgaaK25
import Derived.Test.YtddfpmdbndakgaaK26
import Derived.Test.YtddfpmdbndakgaaK27
import Derived.Test.YtddfpmdbndakgaaK28
import Derived.Test.YtddfpmdbndakgaaK29
import Derived.Test.YtddfpmdbndakgaaK30
import Derived.Test.YtddfpmdbndakgaaL1
import Derived.Test.YtddfpmdbndakgaaL2
import Derived.Test.YtddfpmdbndakgaaL3
import Derived.Test.YtddfpmdbndakgaaL4
import Derived.Test.YtddfpmdbndakgaaL5
import Derived.Test.YtddfpmdbndakgaaM1
namespace Go.Proofs.Ytddfpmdbndakgaa
open Go.ChangeShapes Go.WideShapes Go.ChangeAt Go.RowKit Go.Deep
set_option linter.unusedVariables false
set_option linter.unusedSimpArgs false
def arL (ps : List Pr) : List Pr → Int × Int
 | [] => (0, 0)
 | q :: l => if fstB (misB ps) (preSL q.body) = 0 then arL ps l else (6, fstB (misB ps) (preSL q.body))
theorem arL_drop {ps l : List Pr} {k : Nat} (h : k < l.length) : arL ps (l.drop k) = if fstB (misB ps) (preSL l[k].body) = 0 then arL ps (l.drop (k + 1)) else (6, fstB (misB ps) (preSL l[k].body)) := by
 rw [List.drop_eq_getElem_cons h, arL]
def arP (p : Pg) : Int × Int := if (chkP p).1 = 0 then arL p.procs p.procs else (1, 0)
theorem chk_two {p : Pg} : (chkP p).1 = 0 → chkP p = (0, 0) := fun h => (chk_ok h).chk
set_option maxHeartbeats 8000000 in
set_option maxRecDepth 100000 in
theorem aCheck_any {w : World} {Q : Nat → Prop} {p : Pg} {c0 c1 : Value} (h : ProgI w Q p [c0, c1]) (hsm : SmG p) (W : World) (hI : In Q w W) :
 Calls Try.prog 45 #[.agg #[c0, c1]] W (ChRes (arP p) W) := by
 have HC := Lib.hid (fun V hV => Check_any h hsm V hV)
 obtain ⟨Ag, cg, Ap, cp, rfl, rfl, _, _, _, _, hgl, hpr⟩ := prog_open h
 have HP := Lib.hid hpr
 have HI := Lib.hid hI
 have HMi := Lib.hid (fun N l hN V A cap hl hV hz => misfit_any hpr N l hN (W := V) (A := A) (cap := cap) hl hV hz)
 have HK : Hid (arP p = if (chkP p).1 = 0 then arL p.procs p.procs else (1, 0)) := Lib.hid rfl
 have HT2 := Lib.hid (chk_two (p := p))
 have HOk := Lib.hid (chk_ok (p := p))
 clear h hI hgl hpr hsm
 generalize chkP p = r at HC HK HT2 HOk
 obtain ⟨rc, ri⟩ := r
 simp only at HK HT2 HOk
 by_cases hr : rc = 0
 ·have h2 := HT2.out hr
  simp only [Prod.mk.injEq] at h2
  obtain ⟨rfl, rfl⟩ := h2
  have HMy := Lib.hid (may_ids (HOk.out rfl).may)
  have HK2 : Hid (arP p = arL p.procs p.procs) := Lib.hid HK.out
  clear HK HT2 HOk hr
  go_enter Try.func45, Try.ntmps45
  go_upto_region 1 with fail
  have HB0 : Hid (Below W.heap.size W ((W.alloc (.cells #[.slice Ag p.globals.length cg, .slice Ap p.procs.length cp] 25)).alloc (.cells #[.int .i64 0, .int .i64 0] 45))) := Lib.hid (below_two _ _)
  have HBp : Hid (Blk ((W.alloc (.cells #[.slice Ag p.globals.length cg, .slice Ap p.procs.length cp] 25)).alloc (.cells #[.int .i64 0, .int .i64 0] 45)) W.heap.size 25 #[.slice Ag p.globals.length cg, .slice Ap p.procs.length cp]) := Lib.hid ((Blk.new _ _ _).alloc _)
  have HBf : Hid (Blk ((W.alloc (.cells #[.slice Ag p.globals.length cg, .slice Ap p.procs.length cp] 25)).alloc (.cells #[.int .i64 0, .int .i64 0] 45)) (W.heap.size + 1) 45 #[.int .i64 0, .int .i64 0]) := Lib.hid (by have := Blk.new (W.alloc (.cells #[.slice Ag p.globals.length cg, .slice Ap p.procs.length cp] 25)) 45 #[.int .i64 0, .int .i64 0]; rw [World.size_alloc] at this; exact this)
  generalize World.alloc _ _ = V at HB0 HBp HBf ⊢
  have HI0 := Lib.hid (HI.out.on HB0.out)
  have hwb : W.heap.size ≤ W.heap.size + 1 := by omega
  generalize hbe : W.heap.size = b at HBp HBf hwb ⊢
  generalize hfe : b + 1 = f at HBf hwb ⊢
  have hWf : W.heap.size ≤ f := by omega
  clear hbe hfe
  have q0 : V.cell? ⟨b, 0, none⟩ = some (.slice Ag p.globals.length cg) := by rw [HBp.out.cell]; rfl
  have q1 : V.cell? ⟨b, 1, none⟩ = some (.slice Ap p.procs.length cp) := by rw [HBp.out.cell]; rfl
  have hbl := HBp.out.lt
  have hfl := HBf.out.lt
  go_upto_region 3 with (go_at_call 27; refine (HC.out V HI0.out).mono ?_; rintro e w1 ⟨rfl, hb1⟩)
  have HB1 := Lib.hid (below_step HB0.out hb1)
  have HI1 := Lib.hid (HI0.out.on hb1)
  have HBp1 := Lib.hid (HBp.out.below hb1 hbl)
  have HBf1 := Lib.hid (HBf.out.below hb1 hfl)
  clear q0 q1 hb1 HB0 HBp HBf HI0 hbl hfl HC
  have q1 : w1.cell? ⟨b, 1, none⟩ = some (.slice Ap p.procs.length cp) := by rw [HBp1.out.cell]; rfl
  have hbl := HBp1.out.lt
  have hfl := HBf1.out.lt
  go_upto_region 4 with fail
  clear q1
  go_loopg [14] p.procs.length (fun kk iv wr => ∃ (k : Nat), k + kk = p.procs.length ∧ iv = .int .i64 k ∧ Hid (Below w1.heap.size w1 wr) ∧ Hid (arL p.procs (p.procs.drop k) = arL p.procs p.procs))
  case atStart => exact ⟨0, by omega, rfl, Lib.hid (Below.refl _ _), Lib.hid rfl⟩
  case round =>
   obtain ⟨k, hk, rfl, HBr, HA⟩ := hrel
   have HIr := Lib.hid (HI1.out.on HBr.out)
   have HBpr := Lib.hid (HBp1.out.below HBr.out hbl)
   have HBfr := Lib.hid (HBf1.out.below HBr.out hfl)
   by_cases hlt : k < p.procs.length
   ·obtain ⟨a, Bp, kp, Bv, kv, Bb, kb, Be, ke, rfl, hqa, hrow, hnm, hpp, hvv, hbody, hee⟩ := proc_at HP.out HIr.out hlt
    have hid := HMy.out _ (List.getElem_mem hlt)
    have HWr := Lib.hid (fun V hV => HMi.out _ p.procs[k].body (Nat.lt_succ_self _) V Bb kb hbody hV (fun s hs h0 => by have := hid s hs; omega))
    have HAk := Lib.hid (arL_drop (ps := p.procs) hlt)
    rw [HA.out] at HAk
    have hbB : i64 (fstB (misB p.procs) (preSL p.procs[k].body)) := by
     unfold fstB
     cases hf : (preSL p.procs[k].body).find? (misB p.procs) with
     | none => simp [i64]
     | some s =>
      have := hid s (List.mem_of_find?_eq_some hf)
      simp only [Option.elim_some]
      unfold i64
      omega
    clear hqa hnm hpp hvv hbody hee hid
    generalize fstB (misB p.procs) (preSL p.procs[k].body) = r at HWr HAk hbB
    generalize p.procs[k].nm = x0 at hrow
    generalize p.procs[k].params.length = x1 at hrow
    generalize p.procs[k].vars.length = x2 at hrow
    generalize p.procs[k].body.length = x3 at hrow HWr
    generalize p.procs[k].end_.length = x4 at hrow
    obtain ⟨p0, p1, p2, p3, p4, _⟩ := hrow
    unfold i64 at hbB
    go_upto_region 6 with fail
    have HBx : Hid (Blk (wr.alloc (.cells #[.string x0, .slice Bp x1 kp, .slice Bv x2 kv, .slice Bb x3 kb, .slice Be x4 ke] 51)) wr.heap.size 51 #[.string x0, .slice Bp x1 kp, .slice Bv x2 kv, .slice Bb x3 kb, .slice Be x4 ke]) := Lib.hid (Blk.new _ _ _)
    have HB4 : Hid (Below w1.heap.size w1 (wr.alloc (.cells #[.string x0, .slice Bp x1 kp, .slice Bv x2 kv, .slice Bb x3 kb, .slice Be x4 ke] 51))) := Lib.hid (below_stepA HBr.out _)
    have HI4 : Hid (In Q w (wr.alloc (.cells #[.string x0, .slice Bp x1 kp, .slice Bv x2 kv, .slice Bb x3 kb, .slice Be x4 ke] 51))) := Lib.hid (HIr.out.alloc _)
    clear p0 p1 p2 p3 p4 HIr HBpr HBfr
    generalize World.alloc wr _ = V4 at HBx HB4 HI4 ⊢
    generalize wr.heap.size = bx at HBx ⊢
    have HBp4 := Lib.hid (HBp1.out.below HB4.out hbl)
    have q1 : V4.cell? ⟨b, 1, none⟩ = some (.slice (some a) p.procs.length cp) := by rw [HBp4.out.cell]; rfl
    have z3 : V4.cell? ⟨bx, 3, none⟩ = some (.slice Bb x3 kb) := by rw [HBx.out.cell]; rfl
    go_upto_region 7 with (go_at_call 94; refine (HWr.out V4 HI4.out).mono ?_; rintro e w8 ⟨rfl, hb8⟩)
    have HB8 := Lib.hid (below_step HB4.out hb8)
    clear z3 q1 hb8 HB4 HI4 HBx HBp4 HWr
    by_cases hr : r = 0
    ·subst hr
     rw [if_pos rfl] at HAk
     go_wp2_with fail
     go_roundg (p.procs.length - k - 1)
     case measure => omega
     case rel => exact ⟨k + 1, by omega, by go_num, HB8, Lib.hid HAk.out.symm⟩
    ·rw [if_neg hr] at HAk
     have hr1 : (r == 0) = false := beq_eq_false_iff_ne.2 hr
     have HBf8 := Lib.hid (HBf1.out.below HB8.out hfl)
     have HBW8 := Lib.hid (below_step HB1.out HB8.out)
     clear hr
     have f0_ := HBf8.out.frozen 0
     have f1_ := HBf8.out.frozen 1
     have y0_ : w8.cell? ⟨f, 0, none⟩ = some (.int .i64 0) := by rw [HBf8.out.cell]; rfl
     have y1_ : w8.cell? ⟨f, 1, none⟩ = some (.int .i64 0) := by rw [HBf8.out.cell]; rfl
     go_wp2_with fail
     (try simp only [Exit.inBlock, Exit.then])
     refine bodyPost_ret (results_c1 rfl _ _ f 45 #[.int .i64 6, .int .i64 r] (0, 0) _ rfl (fault_end HBf8.out) Try.underlying45 rfl (by kernel_rfl)) rfl ?_
     exact ⟨by rw [HK2.out, HAk.out], below_setc (below_setc HBW8.out hWf _) hWf _⟩
   ·have HAn : Hid (arL p.procs p.procs = (0, 0)) := Lib.hid (by rw [← HA.out, List.drop_of_length_le (by omega)]; rfl)
    have HBWr := Lib.hid (below_step HB1.out HBr.out)
    have f0_ := HBfr.out.frozen 0
    have f1_ := HBfr.out.frozen 1
    have y0_ : wr.cell? ⟨f, 0, none⟩ = some (.int .i64 0) := by rw [HBfr.out.cell]; rfl
    have y1_ : wr.cell? ⟨f, 1, none⟩ = some (.int .i64 0) := by rw [HBfr.out.cell]; rfl
    go_wp2_with fail
    (try simp only [Exit.inBlock, Exit.then])
    refine bodyPost_ret (results_c1 rfl _ _ f 45 #[.int .i64 0, .int .i64 0] (0, 0) _ rfl (fault_end HBfr.out) Try.underlying45 rfl (by kernel_rfl)) rfl ?_
    exact ⟨by rw [HK2.out, HAn.out], below_setc (below_setc HBWr.out hWf _) hWf _⟩
 ·have HK2 : Hid (arP p = (1, 0)) := Lib.hid (by rw [HK.out, if_neg hr])
  have hr1 : (rc == 0) = false := beq_eq_false_iff_ne.2 hr
  clear HK HT2 HOk hr
  go_enter Try.func45, Try.ntmps45
  go_upto_region 1 with fail
  have HB0 : Hid (Below W.heap.size W ((W.alloc (.cells #[.slice Ag p.globals.length cg, .slice Ap p.procs.length cp] 25)).alloc (.cells #[.int .i64 0, .int .i64 0] 45))) := Lib.hid (below_two _ _)
  have HBp : Hid (Blk ((W.alloc (.cells #[.slice Ag p.globals.length cg, .slice Ap p.procs.length cp] 25)).alloc (.cells #[.int .i64 0, .int .i64 0] 45)) W.heap.size 25 #[.slice Ag p.globals.length cg, .slice Ap p.procs.length cp]) := Lib.hid ((Blk.new _ _ _).alloc _)
  have HBf : Hid (Blk ((W.alloc (.cells #[.slice Ag p.globals.length cg, .slice Ap p.procs.length cp] 25)).alloc (.cells #[.int .i64 0, .int .i64 0] 45)) (W.heap.size + 1) 45 #[.int .i64 0, .int .i64 0]) := Lib.hid (by have := Blk.new (W.alloc (.cells #[.slice Ag p.globals.length cg, .slice Ap p.procs.length cp] 25)) 45 #[.int .i64 0, .int .i64 0]; rw [World.size_alloc] at this; exact this)
  generalize World.alloc _ _ = V at HB0 HBp HBf ⊢
  have HI0 := Lib.hid (HI.out.on HB0.out)
  have hwb : W.heap.size ≤ W.heap.size + 1 := by omega
  generalize hbe : W.heap.size = b at HBp HBf hwb ⊢
  generalize hfe : b + 1 = f at HBf hwb ⊢
  have hWf : W.heap.size ≤ f := by omega
  clear hbe hfe
  have q0 : V.cell? ⟨b, 0, none⟩ = some (.slice Ag p.globals.length cg) := by rw [HBp.out.cell]; rfl
  have q1 : V.cell? ⟨b, 1, none⟩ = some (.slice Ap p.procs.length cp) := by rw [HBp.out.cell]; rfl
  have hbl := HBp.out.lt
  have hfl := HBf.out.lt
  go_upto_if 9 with (go_at_call 27; refine (HC.out V HI0.out).mono ?_; rintro e w1 ⟨rfl, hb1⟩)
  have HB1 := Lib.hid (below_step HB0.out hb1)
  have HBf1 := Lib.hid (HBf.out.below hb1 hfl)
  clear q0 q1 hb1
  have f0_ := HBf1.out.frozen 0
  have f1_ := HBf1.out.frozen 1
  have y0_ : w1.cell? ⟨f, 0, none⟩ = some (.int .i64 0) := by rw [HBf1.out.cell]; rfl
  have y1_ : w1.cell? ⟨f, 1, none⟩ = some (.int .i64 0) := by rw [HBf1.out.cell]; rfl
  go_wp2_with fail
  (try simp only [Exit.inBlock, Exit.then])
  refine bodyPost_ret (results_c1 rfl _ _ f 45 #[.int .i64 1, .int .i64 0] (0, 0) _ rfl (fault_end HBf1.out) Try.underlying45 rfl (by kernel_rfl)) rfl ?_
  exact ⟨by rw [HK2.out], below_setc (below_setc HB1.out hWf _) hWf _⟩
def fitsA (p : Pg) (s : S) : Bool := decide ((chkP p).1 = 0) && fitsB p.procs s
set_option maxHeartbeats 8000000 in
set_option maxRecDepth 100000 in
theorem aFits_any {w : World} {Q : Nat → Prop} {p : Pg} {c0 c1 : Value} {s : S} {cs : List Value} (h : ProgI w Q p [c0, c1]) (hsm : SmG p) (hs : StmtI w Q s cs) (W : World) (hI : In Q w W) :
 Calls Try.prog 47 #[.agg #[c0, c1], .agg cs.toArray] W (MayOk (fitsA p s) W) := by
 have HC := Lib.hid (fun V hV => Check_any h hsm V hV)
 obtain ⟨Ag, cg, Ap, cp, rfl, rfl, _, _, _, _, hgl, hpr⟩ := prog_open h
 have HFo := Lib.hid (fun V hV => fitsOne_any (W := V) hpr hs hV)
 obtain ⟨id, kind, labels, nm, proc, x, has, args, th, el, L, lc, y0, y1, y2, X, xn, xc, R, rc, T, tc, U, uc, rfl, rfl, hid, hkind, _⟩ := stmt_open hs
 have HI := Lib.hid hI
 have HT2 := Lib.hid (chk_two (p := p))
 have HK : Hid (fitsA p (.mk id kind labels nm proc x has args th el) = (decide ((chkP p).1 = 0) && fitsB p.procs (.mk id kind labels nm proc x has args th el))) := Lib.hid rfl
 clear h hI hgl hpr hsm hs hid hkind
 simp only [List.toArray] at HFo ⊢
 generalize fitsB p.procs (.mk id kind labels nm proc x has args th el) = fb at HFo HK
 generalize chkP p = r at HC HK HT2
 obtain ⟨cc, ri⟩ := r
 simp only at HK HT2
 go_enter Try.func47, Try.ntmps47
 go_upto_region 1 with fail
 have HB0 : Hid (Below W.heap.size W ((W.alloc (.cells #[.slice Ag p.globals.length cg, .slice Ap p.procs.length cp] 25)).alloc (.cells #[.int .i64 id, .int .i64 kind, .slice L labels.length lc, .string nm, .string proc, .int .i64 y0, .int .i64 y1, .string y2, .slice X xn xc, .bool has, .slice R args.length rc, .slice T th.length tc, .slice U el.length uc] 61))) := Lib.hid (below_two _ _)
 have HBp : Hid (Blk ((W.alloc (.cells #[.slice Ag p.globals.length cg, .slice Ap p.procs.length cp] 25)).alloc (.cells #[.int .i64 id, .int .i64 kind, .slice L labels.length lc, .string nm, .string proc, .int .i64 y0, .int .i64 y1, .string y2, .slice X xn xc, .bool has, .slice R args.length rc, .slice T th.length tc, .slice U el.length uc] 61)) W.heap.size 25 #[.slice Ag p.globals.length cg, .slice Ap p.procs.length cp]) := Lib.hid ((Blk.new _ _ _).alloc _)
 have HBs : Hid (Blk ((W.alloc (.cells #[.slice Ag p.globals.length cg, .slice Ap p.procs.length cp] 25)).alloc (.cells #[.int .i64 id, .int .i64 kind, .slice L labels.length lc, .string nm, .string proc, .int .i64 y0, .int .i64 y1, .string y2, .slice X xn xc, .bool has, .slice R args.length rc, .slice T th.length tc, .slice U el.length uc] 61)) (W.heap.size + 1) 61 #[.int .i64 id, .int .i64 kind, .slice L labels.length lc, .string nm, .string proc, .int .i64 y0, .int .i64 y1, .string y2, .slice X xn xc, .bool has, .slice R args.length rc, .slice T th.length tc, .slice U el.length uc]) := Lib.hid (by have := Blk.new (W.alloc (.cells #[.slice Ag p.globals.length cg, .slice Ap p.procs.length cp] 25)) 61 #[.int .i64 id, .int .i64 kind, .slice L labels.length lc, .string nm, .string proc, .int .i64 y0, .int .i64 y1, .string y2, .slice X xn xc, .bool has, .slice R args.length rc, .slice T th.length tc, .slice U el.length uc]; rw [World.size_alloc] at this; exact this)
 generalize World.alloc _ _ = V at HB0 HBp HBs ⊢
 have HI0 := Lib.hid (HI.out.on HB0.out)
 generalize hbe : W.heap.size = b at HBp HBs ⊢
 generalize hfe : b + 1 = f at HBs ⊢
 clear hbe hfe
 have q0 : V.cell? ⟨b, 0, none⟩ = some (.slice Ag p.globals.length cg) := by rw [HBp.out.cell]; rfl
 have q1 : V.cell? ⟨b, 1, none⟩ = some (.slice Ap p.procs.length cp) := by rw [HBp.out.cell]; rfl
 have hbl := HBp.out.lt
 have hfl := HBs.out.lt
 by_cases hr : cc = 0
 ·have h2 := HT2.out hr
  simp only [Prod.mk.injEq] at h2
  obtain ⟨rfl, rfl⟩ := h2
  have HK2 : Hid (fitsA p (.mk id kind labels nm proc x has args th el) = fb) := Lib.hid (by rw [HK.out]; simp)
  clear HK HT2 hr
  go_wp2_with (first
   | (go_at_call 27; refine (HC.out V HI0.out).mono ?_; rintro e w1 ⟨rfl, hb1⟩; have HB1 := Lib.hid (below_step HB0.out hb1); have HI1 := Lib.hid (HI0.out.on hb1); have HBp1 := Lib.hid (HBp.out.below hb1 hbl); have HBs1 := Lib.hid (HBs.out.below hb1 hfl); have q1' : w1.cell? ⟨b, 1, none⟩ = some (.slice Ap p.procs.length cp) := (by rw [HBp1.out.cell]; rfl); have s0' : w1.cell? ⟨f, 0, none⟩ = some (.int .i64 id) := (by rw [HBs1.out.cell]; rfl); have s1' : w1.cell? ⟨f, 1, none⟩ = some (.int .i64 kind) := (by rw [HBs1.out.cell]; rfl); have s2' : w1.cell? ⟨f, 2, none⟩ = some (.slice L labels.length lc) := (by rw [HBs1.out.cell]; rfl); have s3' : w1.cell? ⟨f, 3, none⟩ = some (.string nm) := (by rw [HBs1.out.cell]; rfl); have s4' : w1.cell? ⟨f, 4, none⟩ = some (.string proc) := (by rw [HBs1.out.cell]; rfl); have s5' : w1.cell? ⟨f, 5, none⟩ = some (.int .i64 y0) := (by rw [HBs1.out.cell]; rfl); have s6' : w1.cell? ⟨f, 6, none⟩ = some (.int .i64 y1) := (by rw [HBs1.out.cell]; rfl); have s7' : w1.cell? ⟨f, 7, none⟩ = some (.string y2) := (by rw [HBs1.out.cell]; rfl); have s8' : w1.cell? ⟨f, 8, none⟩ = some (.slice X xn xc) := (by rw [HBs1.out.cell]; rfl); have s9' : w1.cell? ⟨f, 9, none⟩ = some (.bool has) := (by rw [HBs1.out.cell]; rfl); have s10' : w1.cell? ⟨f, 10, none⟩ = some (.slice R args.length rc) := (by rw [HBs1.out.cell]; rfl); have s11' : w1.cell? ⟨f, 11, none⟩ = some (.slice T th.length tc) := (by rw [HBs1.out.cell]; rfl); have s12' : w1.cell? ⟨f, 12, none⟩ = some (.slice U el.length uc) := (by rw [HBs1.out.cell]; rfl); clear hb1)
   | (go_at_call 96; refine (HFo.out w1 HI1.out).mono ?_; rintro e w2 ⟨rfl, hb2⟩))
  go_ret
  exact ⟨by rw [HK2.out]; rfl, below_step HB1.out hb2⟩
 ·have HK2 : Hid (fitsA p (.mk id kind labels nm proc x has args th el) = false) := Lib.hid (by rw [HK.out, decide_eq_false hr]; rfl)
  have hr1 : (cc == 0) = false := beq_eq_false_iff_ne.2 hr
  clear HK HT2 hr
  go_wp2_with (go_at_call 27; refine (HC.out V HI0.out).mono ?_; rintro e w1 ⟨rfl, hb1⟩)
  go_ret
  exact ⟨ret_bool HK2.out.symm, below_step HB0.out hb1⟩
end Go.Proofs.Ytddfpmdbndakgaa
namespace Go.Proofs.Ytddfpmdbndakgaa
open Go.ChangeShapes Go.WideShapes Go.ChangeAt Go.RowKit Go.Deep
set_option linter.unusedVariables false
set_option linter.unusedSimpArgs false
set_option maxHeartbeats 8000000 in
set_option maxRecDepth 100000 in
theorem rcallFits_any {w : World} {Q : Nat → Prop} {p : Pg} {c0 c1 : Value} {s : S} {cs : List Value} (h : ProgI w Q p [c0, c1]) (hs : StmtI w Q s cs) (W : World) (hI : In Q w W) :
 Calls Try.prog 97 #[.agg #[c0, c1], .agg cs.toArray] W (MayOk (fitsB p.procs s) W) := by
 have HNm0 := Lib.hid (fun nm V hV => rnamed_any h nm V hV)
 obtain ⟨Ag, cg, Ap, cp, rfl, rfl, _⟩ := prog_open h
 obtain ⟨id, kind, labels, nm, proc, x, has, args, th, el, L, lc, y0, y1, y2, X, xn, xc, R, rc, T, tc, U, uc, rfl, rfl, hid, hkind, hnm, hproc, hl, hx, ha, hth, hel⟩ := stmt_open hs
 have HA := Lib.hid ha
 have HI := Lib.hid hI
 have HNm := Lib.hid (fun V hV => HNm0.out proc V hV)
 have HK : Hid (fitsB p.procs (.mk id kind labels nm proc x has args th el) = (kind == 4 && ((namP p proc).2 && tks (namP p proc).1.params args))) := Lib.hid (by
  unfold fitsB namP
  simp only [S.kind, S.proc, S.args]
  cases p.procs.find? (isQ proc) <;> rfl)
 obtain ⟨_, ha1, ha2, _⟩ := slice_len ha
 have hkb := hkind
 unfold i64 at hkb
 clear h hs hI hid hkind hnm hproc hl hx ha hth hel HNm0
 generalize fitsB p.procs (.mk id kind labels nm proc x has args th el) = res at HK
 generalize namP p proc = r at HNm HK
 obtain ⟨mq, mb⟩ := r
 simp only at HK
 simp only [List.toArray]
 go_enter Try.func97, Try.ntmps97
 go_upto_region 1 with fail
 have HB0 : Hid (Below W.heap.size W ((W.alloc (.cells #[.slice Ag p.globals.length cg, .slice Ap p.procs.length cp] 25)).alloc (.cells #[.int .i64 id, .int .i64 kind, .slice L labels.length lc, .string nm, .string proc, .int .i64 y0, .int .i64 y1, .string y2, .slice X xn xc, .bool has, .slice R args.length rc, .slice T th.length tc, .slice U el.length uc] 61))) := Lib.hid (below_two _ _)
 have HBp : Hid (Blk ((W.alloc (.cells #[.slice Ag p.globals.length cg, .slice Ap p.procs.length cp] 25)).alloc (.cells #[.int .i64 id, .int .i64 kind, .slice L labels.length lc, .string nm, .string proc, .int .i64 y0, .int .i64 y1, .string y2, .slice X xn xc, .bool has, .slice R args.length rc, .slice T th.length tc, .slice U el.length uc] 61)) W.heap.size 25 #[.slice Ag p.globals.length cg, .slice Ap p.procs.length cp]) := Lib.hid ((Blk.new _ _ _).alloc _)
 have HBs : Hid (Blk ((W.alloc (.cells #[.slice Ag p.globals.length cg, .slice Ap p.procs.length cp] 25)).alloc (.cells #[.int .i64 id, .int .i64 kind, .slice L labels.length lc, .string nm, .string proc, .int .i64 y0, .int .i64 y1, .string y2, .slice X xn xc, .bool has, .slice R args.length rc, .slice T th.length tc, .slice U el.length uc] 61)) (W.heap.size + 1) 61 #[.int .i64 id, .int .i64 kind, .slice L labels.length lc, .string nm, .string proc, .int .i64 y0, .int .i64 y1, .string y2, .slice X xn xc, .bool has, .slice R args.length rc, .slice T th.length tc, .slice U el.length uc]) := Lib.hid (by have := Blk.new (W.alloc (.cells #[.slice Ag p.globals.length cg, .slice Ap p.procs.length cp] 25)) 61 #[.int .i64 id, .int .i64 kind, .slice L labels.length lc, .string nm, .string proc, .int .i64 y0, .int .i64 y1, .string y2, .slice X xn xc, .bool has, .slice R args.length rc, .slice T th.length tc, .slice U el.length uc]; rw [World.size_alloc] at this; exact this)
 generalize World.alloc _ _ = V at HB0 HBp HBs ⊢
 have HI0 := Lib.hid (HI.out.on HB0.out)
 generalize hbe : W.heap.size = b at HBp HBs ⊢
 generalize hfe : b + 1 = f at HBs ⊢
 clear hbe hfe
 have q0 : V.cell? ⟨b, 0, none⟩ = some (.slice Ag p.globals.length cg) := by rw [HBp.out.cell]; rfl
 have q1 : V.cell? ⟨b, 1, none⟩ = some (.slice Ap p.procs.length cp) := by rw [HBp.out.cell]; rfl
 have s4 : V.cell? ⟨f, 4, none⟩ = some (.string proc) := by rw [HBs.out.cell]; rfl
 have hfl := HBs.out.lt
 go_upto_region 2 with (go_at_call 79; refine (HNm.out V HI0.out).mono ?_; rintro e w9 ⟨d0, d1, d2, d3, d4, rfl, hb9, hp9⟩; obtain ⟨vp, vv, vb, ve, hc, hnm, hpp, hvv, hbb, hee⟩ := hp9; simp only [List.cons.injEq, and_true] at hc; obtain ⟨rfl, rfl, rfl, rfl, rfl⟩ := hc; obtain ⟨M1, k1, rfl, _, _⟩ := hpp.shape; obtain ⟨M2, k2, rfl, _, _⟩ := hvv.shape; obtain ⟨M3, k3, rfl, _⟩ := hbb.shape; obtain ⟨M4, k4, rfl, _⟩ := hee.shape; have HPp := Lib.hid hpp; clear hnm hpp hvv hbb hee)
 generalize mq.nm = mn at *
 generalize hm1 : mq.params.length = m1 at *
 generalize mq.vars.length = m2 at *
 generalize mq.body.length = m3 at *
 generalize mq.end_.length = m4 at *
 have HM1 := Lib.hid hm1
 clear hm1
 have HB9 : Hid (Below V.heap.size V (w9.alloc (.cells #[.string mn, .slice M1 m1 k1, .slice M2 m2 k2, .slice M3 m3 k3, .slice M4 m4 k4] 51))) := Lib.hid (below_stepA hb9 _)
 have HBm : Hid (Blk (w9.alloc (.cells #[.string mn, .slice M1 m1 k1, .slice M2 m2 k2, .slice M3 m3 k3, .slice M4 m4 k4] 51)) w9.heap.size 51 #[.string mn, .slice M1 m1 k1, .slice M2 m2 k2, .slice M3 m3 k3, .slice M4 m4 k4]) := Lib.hid (Blk.new _ _ _)
 clear hb9 q0 q1 s4 HNm
 generalize World.alloc w9 _ = V9 at HB9 HBm ⊢
 generalize w9.heap.size = bm at HBm ⊢
 have HI9 := Lib.hid (HI0.out.on HB9.out)
 have HBs9 := Lib.hid (HBs.out.below HB9.out hfl)
 have HBW := Lib.hid (below_step HB0.out HB9.out)
 clear HI0 HBp HBs HB0 HB9 hfl HI
 have hfl := HBs9.out.lt
 have hml := HBm.out.lt
 have s1 : V9.cell? ⟨f, 1, none⟩ = some (.int .i64 kind) := by rw [HBs9.out.cell]; rfl
 have s10 : V9.cell? ⟨f, 10, none⟩ = some (.slice R args.length rc) := by rw [HBs9.out.cell]; rfl
 have z1 : V9.cell? ⟨bm, 1, none⟩ = some (.slice M1 m1 k1) := by rw [HBm.out.cell]; rfl
 by_cases hk4 : kind = 4
 ·subst hk4
  cases mb with
  | false =>
   have HK2 : Hid (res = false) := Lib.hid (by rw [HK.out]; rfl)
   clear HK
   go_wp2_with fail
   go_ret
   exact ⟨ret_bool HK2.out.symm, HBW.out⟩
  | true =>
   have HK2 : Hid (res = tks mq.params args) := Lib.hid (by rw [HK.out]; rfl)
   clear HK
   by_cases hle : args.length = m1
   ·have hle1 : (((args.length : Nat) : Int) == ((m1 : Nat) : Int)) = true := by simp [hle]
    have hle2 : (((args.length : Nat) : Int) != ((m1 : Nat) : Int)) = false := by simp [bne, hle]
    have HLe := Lib.hid hle
    clear hle
    go_upto_region 5 with fail
    clear s1 s10 z1
    go_loopg [34] args.length (fun kk iv wr => ∃ (k : Nat), k + kk = args.length ∧ iv = .int .i64 k ∧ Hid (Below V9.heap.size V9 wr) ∧ Hid ((mq.params.map Pa.ref).take k = (args.map Ar.ref).take k))
    case atStart => exact ⟨0, by omega, rfl, Lib.hid (Below.refl _ _), Lib.hid (by simp)⟩
    case round =>
     obtain ⟨k, hk, rfl, HBr, HT⟩ := hrel
     have HIr := Lib.hid (HI9.out.on HBr.out)
     by_cases hlt : k < args.length
     ·have hk2 : k < mq.params.length := by rw [HM1.out, ← HLe.out]; exact hlt
      obtain ⟨a2, o1, n1, s1, A1, l1, c1, rfl, _, ⟨r0, r1, r2, r3, r4, r5, _⟩, _, _⟩ := arg_at HA.out HIr.out hlt
      have HPp2 : Hid (SliceI w Q 2 ParI mq.params (.slice M1 mq.params.length k1)) := Lib.hid (by rw [HM1.out]; exact HPp.out)
      obtain ⟨a1, rfl, _, ⟨p0, p1, _⟩, _⟩ := par_at HPp2.out HIr.out hk2
      have hm1' : k < (mq.params.map Pa.ref).length := by simpa using hk2
      have hm2' : k < (args.map Ar.ref).length := by simpa using hlt
      have HSt : Hid (mq.params[k].ref = args[k].ref → (mq.params.map Pa.ref).take (k + 1) = (args.map Ar.ref).take (k + 1)) := Lib.hid (fun e => take_eq_step hm1' hm2' HT.out (by simpa using e))
      have HNe : Hid (mq.params[k].ref ≠ args[k].ref → tks mq.params args = false) := Lib.hid (fun e => decide_eq_false (ne_of_at hm1' hm2' (by simpa using e)))
      generalize mq.params[k] = xp at p0 p1 HSt HNe
      generalize args[k] = ya at r0 r1 HSt HNe
      obtain ⟨xn', xr⟩ := xp
      obtain ⟨yr, yn, yx⟩ := ya
      simp only at p0 p1 r0 r1 HSt HNe
      have hkm : (k : Int) < (m1 : Int) := by have := HM1.out; omega
      have hkm2 : k < m1 := by have := HM1.out; omega
      have HBsr := Lib.hid (HBs9.out.below HBr.out hfl)
      have HBmr := Lib.hid (HBm.out.below HBr.out hml)
      have s10 : wr.cell? ⟨f, 10, none⟩ = some (.slice (some a2) args.length rc) := by rw [HBsr.out.cell]; rfl
      have z1 : wr.cell? ⟨bm, 1, none⟩ = some (.slice (some a1) m1 k1) := by rw [HBmr.out.cell]; rfl
      clear hm1' hm2' p0 r1 r2 r3 r4 r5
      by_cases hr : xr = yr
      ·subst hr
       have HS2 := Lib.hid (HSt.out rfl)
       clear HSt HNe
       cases xr
       all_goals
        go_upto_region 7 with fail
        go_quiet (fail)
        go_wp2_with fail
        go_roundg (args.length - k - 1)
        case measure => omega
        case rel => exact ⟨k + 1, by omega, by go_num, Lib.hid (below_drewN HBr.out _), HS2⟩
      ·have HN2 := Lib.hid (HNe.out hr)
       clear HSt HNe
       cases xr
       all_goals
        cases yr
        all_goals first
         | exact absurd rfl hr
         | (clear hr
            go_upto_region 7 with fail
            go_quiet (fail)
            go_wp2_with fail
            go_ret
            exact ⟨ret_bool (by rw [HK2.out, HN2.out]), below_step HBW.out (below_drewN HBr.out _)⟩)
     ·have HN : Hid (tks mq.params args = true) := Lib.hid (by
       have h := HT.out
       rw [List.take_of_length_le (by simp; have := HM1.out; have := HLe.out; omega), List.take_of_length_le (by simp; omega)] at h
       exact decide_eq_true h)
      go_wp2_with fail
      go_ret
      exact ⟨ret_bool (by rw [HK2.out, HN.out]), below_step HBW.out HBr.out⟩
   ·have hle1 : (((args.length : Nat) : Int) == ((m1 : Nat) : Int)) = false := beq_eq_false_iff_ne.2 (by omega)
    have hle2 : (((args.length : Nat) : Int) != ((m1 : Nat) : Int)) = true := by simp [bne, hle1]
    have HK3 : Hid (res = false) := Lib.hid (by
     rw [HK2.out]
     exact decide_eq_false (fun e => hle (by have := congrArg List.length e; simp at this; rw [HM1.out] at this; exact this.symm)))
    clear hle HK2
    go_wp2_with fail
    go_ret
    exact ⟨ret_bool HK3.out.symm, HBW.out⟩
 ·have hk5 : (kind == 4) = false := beq_eq_false_iff_ne.2 hk4
  have hk6 : (kind != 4) = true := by simp [bne, hk5]
  have HK2 : Hid (res = false) := Lib.hid (by rw [HK.out, hk5]; rfl)
  clear hk4 HK
  go_wp2_with fail
  go_ret
  exact ⟨ret_bool HK2.out.symm, HBW.out⟩
end Go.Proofs.Ytddfpmdbndakgaa
