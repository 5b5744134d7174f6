/- Texts, merged by a program; only what is used. -/
import Derived.Test.YtimejkbmfbjomaaGreatKX1
import Derived.Test.YtimejkbmfbjomaaGreatKX2
import Derived.Test.YtimejkbmfbjomaaGreatKX3
import Derived.Test.YtimejkbmfbjomaaGreatKX4
import Derived.Test.YtimejkbmfbjomaaGreatKX5
import Derived.Test.YtimejkbmfbjomaaGreatKX6
import Derived.Test.YtimejkbmfbjomaaGreatKX7
import Derived.Test.YtimejkbmfbjomaaGreatKX8
import Derived.Test.YtimejkbmfbjomaaGreatKX9
import Derived.Test.YtimejkbmfbjomaaGreatKX10
import Derived.Test.YtimejkbmfbjomaaGreatKX11
import Derived.Test.YtimejkbmfbjomaaGreatKX12
import Derived.Test.YtimejkbmfbjomaaGreatKX13
import Derived.Test.YtimejkbmfbjomaaGreatKX14
import Derived.Test.YtimejkbmfbjomaaGreatKX15
import Derived.Test.YtimejkbmfbjomaaGreatKX16
import Derived.Test.YtimejkbmfbjomaaGreatKX17
import Derived.Test.YtimejkbmfbjomaaGreatKX18
import Derived.Test.YtimejkbmfbjomaaGreatKX19
import Derived.Test.YtimejkbmfbjomaaGreatKX20
import Derived.Test.YtimejkbmfbjomaaGreatKX21
import Derived.Test.YtimejkbmfbjomaaGreatKX22
import Derived.Test.YtimejkbmfbjomaaGreatKX23
import Derived.Test.YtimejkbmfbjomaaGreatKX24
import Derived.Test.YtimejkbmfbjomaaGreatKX25
namespace Go.Proofs.YtimejkbmfbjomaaGreat
open Go.ChangeShapes Go.WideShapes Go.ChangeAt Go.RowKit Go.Deep
set_option linter.unusedVariables false
set_option linter.unusedSimpArgs false
def arL (ps : List Pr) : List Pr → Int × Int
 | [] => (0, 0)
 | q :: l => if fstB (misB ps) (preSL q.body) = 0 then arL ps l else (6, fstB (misB ps) (preSL q.body))
theorem arL_drop {ps l : List Pr} {k : Nat} (h : k < l.length) : arL ps (l.drop k) = if fstB (misB ps) (preSL l[k].body) = 0 then arL ps (l.drop (k + 1)) else (6, fstB (misB ps) (preSL l[k].body)) := by
 rw [List.drop_eq_getElem_cons h, arL]
def arP (p : Pg) : Int × Int := if (chkP p).1 = 0 then arL p.procs p.procs else (1, 0)
theorem chk_two {p : Pg} : (chkP p).1 = 0 → chkP p = (0, 0) := fun h => (chk_ok h).chk
set_option maxHeartbeats 8000000 in
set_option maxRecDepth 100000 in
theorem aCheck_any {w : World} {Q : Nat → Prop} {p : Pg} {c0 c1 : Value} (h : ProgI w Q p [c0, c1]) (hsm : SmG p) (W : World) (hI : In Q w W) :
 Calls Tryz.prog 33 #[.agg #[c0, c1]] W (ChRes (arP p) W) := by
 have HC := Lib.hid (fun V hV => Check_any h hsm V hV)
 obtain ⟨Ag, cg, Ap, cp, rfl, rfl, _, _, _, _, hgl, hpr⟩ := prog_open h
 have HP := Lib.hid hpr
 have HI := Lib.hid hI
 have HMi := Lib.hid (fun N l hN V A cap hl hV hz => misfit_any hpr N l hN (W := V) (A := A) (cap := cap) hl hV hz)
 have HK : Hid (arP p = if (chkP p).1 = 0 then arL p.procs p.procs else (1, 0)) := Lib.hid rfl
 have HT2 := Lib.hid (chk_two (p := p))
 have HOk := Lib.hid (chk_ok (p := p))
 clear h hI hgl hpr hsm
 generalize chkP p = r at HC HK HT2 HOk
 obtain ⟨rc, ri⟩ := r
 simp only at HK HT2 HOk
 by_cases hr : rc = 0
 ·have h2 := HT2.out hr
  simp only [Prod.mk.injEq] at h2
  obtain ⟨rfl, rfl⟩ := h2
  have HMy := Lib.hid (may_ids (HOk.out rfl).may)
  have HK2 : Hid (arP p = arL p.procs p.procs) := Lib.hid HK.out
  clear HK HT2 HOk hr
  go_enter Tryz.func33, Tryz.ntmps33
  go_upto_region 1 with fail
  have HB0 : Hid (Below W.heap.size W ((W.alloc (.cells #[.slice Ag p.globals.length cg, .slice Ap p.procs.length cp] 25)).alloc (.cells #[.int .i64 0, .int .i64 0] 34))) := Lib.hid (below_two _ _)
  have HBp : Hid (Blk ((W.alloc (.cells #[.slice Ag p.globals.length cg, .slice Ap p.procs.length cp] 25)).alloc (.cells #[.int .i64 0, .int .i64 0] 34)) W.heap.size 25 #[.slice Ag p.globals.length cg, .slice Ap p.procs.length cp]) := Lib.hid ((Blk.new _ _ _).alloc _)
  have HBf : Hid (Blk ((W.alloc (.cells #[.slice Ag p.globals.length cg, .slice Ap p.procs.length cp] 25)).alloc (.cells #[.int .i64 0, .int .i64 0] 34)) (W.heap.size + 1) 34 #[.int .i64 0, .int .i64 0]) := Lib.hid (by have := Blk.new (W.alloc (.cells #[.slice Ag p.globals.length cg, .slice Ap p.procs.length cp] 25)) 34 #[.int .i64 0, .int .i64 0]; rw [World.size_alloc] at this; exact this)
  generalize World.alloc _ _ = V at HB0 HBp HBf ⊢
  have HI0 := Lib.hid (HI.out.on HB0.out)
  have hwb : W.heap.size ≤ W.heap.size + 1 := by omega
  generalize hbe : W.heap.size = b at HBp HBf hwb ⊢
  generalize hfe : b + 1 = f at HBf hwb ⊢
  have hWf : W.heap.size ≤ f := by omega
  clear hbe hfe
  have q0 : V.cell? ⟨b, 0, none⟩ = some (.slice Ag p.globals.length cg) := by rw [HBp.out.cell]; rfl
  have q1 : V.cell? ⟨b, 1, none⟩ = some (.slice Ap p.procs.length cp) := by rw [HBp.out.cell]; rfl
  have hbl := HBp.out.lt
  have hfl := HBf.out.lt
  go_upto_region 3 with (go_at_call 18; refine (HC.out V HI0.out).mono ?_; rintro e w1 ⟨rfl, hb1⟩)
  have HB1 := Lib.hid (below_step HB0.out hb1)
  have HI1 := Lib.hid (HI0.out.on hb1)
  have HBp1 := Lib.hid (HBp.out.below hb1 hbl)
  have HBf1 := Lib.hid (HBf.out.below hb1 hfl)
  clear q0 q1 hb1 HB0 HBp HBf HI0 hbl hfl HC
  have q1 : w1.cell? ⟨b, 1, none⟩ = some (.slice Ap p.procs.length cp) := by rw [HBp1.out.cell]; rfl
  have hbl := HBp1.out.lt
  have hfl := HBf1.out.lt
  go_upto_region 4 with fail
  clear q1
  go_loopg [14] p.procs.length (fun kk iv wr => ∃ (k : Nat), k + kk = p.procs.length ∧ iv = .int .i64 k ∧ Hid (Below w1.heap.size w1 wr) ∧ Hid (arL p.procs (p.procs.drop k) = arL p.procs p.procs))
  case atStart => exact ⟨0, by omega, rfl, Lib.hid (Below.refl _ _), Lib.hid rfl⟩
  case round =>
   obtain ⟨k, hk, rfl, HBr, HA⟩ := hrel
   have HIr := Lib.hid (HI1.out.on HBr.out)
   have HBpr := Lib.hid (HBp1.out.below HBr.out hbl)
   have HBfr := Lib.hid (HBf1.out.below HBr.out hfl)
   by_cases hlt : k < p.procs.length
   ·obtain ⟨a, Bp, kp, Bv, kv, Bb, kb, Be, ke, rfl, hqa, hrow, hnm, hpp, hvv, hbody, hee⟩ := proc_at HP.out HIr.out hlt
    have hid := HMy.out _ (List.getElem_mem hlt)
    have HWr := Lib.hid (fun V hV => HMi.out _ p.procs[k].body (Nat.lt_succ_self _) V Bb kb hbody hV (fun s hs h0 => by have := hid s hs; omega))
    have HAk := Lib.hid (arL_drop (ps := p.procs) hlt)
    rw [HA.out] at HAk
    have hbB : i64 (fstB (misB p.procs) (preSL p.procs[k].body)) := by
     unfold fstB
     cases hf : (preSL p.procs[k].body).find? (misB p.procs) with
     | none => simp [i64]
     | some s =>
      have := hid s (List.mem_of_find?_eq_some hf)
      simp only [Option.elim_some]
      unfold i64
      omega
    clear hqa hnm hpp hvv hbody hee hid
    generalize fstB (misB p.procs) (preSL p.procs[k].body) = r at HWr HAk hbB
    generalize p.procs[k].nm = x0 at hrow
    generalize p.procs[k].params.length = x1 at hrow
    generalize p.procs[k].vars.length = x2 at hrow
    generalize p.procs[k].body.length = x3 at hrow HWr
    generalize p.procs[k].end_.length = x4 at hrow
    obtain ⟨p0, p1, p2, p3, p4, _⟩ := hrow
    unfold i64 at hbB
    go_upto_region 6 with fail
    have HBx : Hid (Blk (wr.alloc (.cells #[.string x0, .slice Bp x1 kp, .slice Bv x2 kv, .slice Bb x3 kb, .slice Be x4 ke] 39)) wr.heap.size 39 #[.string x0, .slice Bp x1 kp, .slice Bv x2 kv, .slice Bb x3 kb, .slice Be x4 ke]) := Lib.hid (Blk.new _ _ _)
    have HB4 : Hid (Below w1.heap.size w1 (wr.alloc (.cells #[.string x0, .slice Bp x1 kp, .slice Bv x2 kv, .slice Bb x3 kb, .slice Be x4 ke] 39))) := Lib.hid (below_stepA HBr.out _)
    have HI4 : Hid (In Q w (wr.alloc (.cells #[.string x0, .slice Bp x1 kp, .slice Bv x2 kv, .slice Bb x3 kb, .slice Be x4 ke] 39))) := Lib.hid (HIr.out.alloc _)
    clear p0 p1 p2 p3 p4 HIr HBpr HBfr
    generalize World.alloc wr _ = V4 at HBx HB4 HI4 ⊢
    generalize wr.heap.size = bx at HBx ⊢
    have HBp4 := Lib.hid (HBp1.out.below HB4.out hbl)
    have q1 : V4.cell? ⟨b, 1, none⟩ = some (.slice (some a) p.procs.length cp) := by rw [HBp4.out.cell]; rfl
    have z3 : V4.cell? ⟨bx, 3, none⟩ = some (.slice Bb x3 kb) := by rw [HBx.out.cell]; rfl
    go_upto_region 7 with (go_at_call 73; refine (HWr.out V4 HI4.out).mono ?_; rintro e w8 ⟨rfl, hb8⟩)
    have HB8 := Lib.hid (below_step HB4.out hb8)
    clear z3 q1 hb8 HB4 HI4 HBx HBp4 HWr
    by_cases hr : r = 0
    ·subst hr
     rw [if_pos rfl] at HAk
     go_wp2_with fail
     go_roundg (p.procs.length - k - 1)
     case measure => omega
     case rel => exact ⟨k + 1, by omega, by go_num, HB8, Lib.hid HAk.out.symm⟩
    ·rw [if_neg hr] at HAk
     have hr1 : (r == 0) = false := beq_eq_false_iff_ne.2 hr
     have HBf8 := Lib.hid (HBf1.out.below HB8.out hfl)
     have HBW8 := Lib.hid (below_step HB1.out HB8.out)
     clear hr
     have f0_ := HBf8.out.frozen 0
     have f1_ := HBf8.out.frozen 1
     have y0_ : w8.cell? ⟨f, 0, none⟩ = some (.int .i64 0) := by rw [HBf8.out.cell]; rfl
     have y1_ : w8.cell? ⟨f, 1, none⟩ = some (.int .i64 0) := by rw [HBf8.out.cell]; rfl
     go_wp2_with fail
     (try simp only [Exit.inBlock, Exit.then])
     refine bodyPost_ret (results_c1 rfl _ _ f 34 #[.int .i64 6, .int .i64 r] (0, 0) _ rfl (fault_end HBf8.out) Tryz.underlying34 rfl (by kernel_rfl)) rfl ?_
     exact ⟨by rw [HK2.out, HAk.out], below_setc (below_setc HBW8.out hWf _) hWf _⟩
   ·have HAn : Hid (arL p.procs p.procs = (0, 0)) := Lib.hid (by rw [← HA.out, List.drop_of_length_le (by omega)]; rfl)
    have HBWr := Lib.hid (below_step HB1.out HBr.out)
    have f0_ := HBfr.out.frozen 0
    have f1_ := HBfr.out.frozen 1
    have y0_ : wr.cell? ⟨f, 0, none⟩ = some (.int .i64 0) := by rw [HBfr.out.cell]; rfl
    have y1_ : wr.cell? ⟨f, 1, none⟩ = some (.int .i64 0) := by rw [HBfr.out.cell]; rfl
    go_wp2_with fail
    (try simp only [Exit.inBlock, Exit.then])
    refine bodyPost_ret (results_c1 rfl _ _ f 34 #[.int .i64 0, .int .i64 0] (0, 0) _ rfl (fault_end HBfr.out) Tryz.underlying34 rfl (by kernel_rfl)) rfl ?_
    exact ⟨by rw [HK2.out, HAn.out], below_setc (below_setc HBWr.out hWf _) hWf _⟩
 ·have HK2 : Hid (arP p = (1, 0)) := Lib.hid (by rw [HK.out, if_neg hr])
  have hr1 : (rc == 0) = false := beq_eq_false_iff_ne.2 hr
  clear HK HT2 HOk hr
  go_enter Tryz.func33, Tryz.ntmps33
  go_upto_region 1 with fail
  have HB0 : Hid (Below W.heap.size W ((W.alloc (.cells #[.slice Ag p.globals.length cg, .slice Ap p.procs.length cp] 25)).alloc (.cells #[.int .i64 0, .int .i64 0] 34))) := Lib.hid (below_two _ _)
  have HBp : Hid (Blk ((W.alloc (.cells #[.slice Ag p.globals.length cg, .slice Ap p.procs.length cp] 25)).alloc (.cells #[.int .i64 0, .int .i64 0] 34)) W.heap.size 25 #[.slice Ag p.globals.length cg, .slice Ap p.procs.length cp]) := Lib.hid ((Blk.new _ _ _).alloc _)
  have HBf : Hid (Blk ((W.alloc (.cells #[.slice Ag p.globals.length cg, .slice Ap p.procs.length cp] 25)).alloc (.cells #[.int .i64 0, .int .i64 0] 34)) (W.heap.size + 1) 34 #[.int .i64 0, .int .i64 0]) := Lib.hid (by have := Blk.new (W.alloc (.cells #[.slice Ag p.globals.length cg, .slice Ap p.procs.length cp] 25)) 34 #[.int .i64 0, .int .i64 0]; rw [World.size_alloc] at this; exact this)
  generalize World.alloc _ _ = V at HB0 HBp HBf ⊢
  have HI0 := Lib.hid (HI.out.on HB0.out)
  have hwb : W.heap.size ≤ W.heap.size + 1 := by omega
  generalize hbe : W.heap.size = b at HBp HBf hwb ⊢
  generalize hfe : b + 1 = f at HBf hwb ⊢
  have hWf : W.heap.size ≤ f := by omega
  clear hbe hfe
  have q0 : V.cell? ⟨b, 0, none⟩ = some (.slice Ag p.globals.length cg) := by rw [HBp.out.cell]; rfl
  have q1 : V.cell? ⟨b, 1, none⟩ = some (.slice Ap p.procs.length cp) := by rw [HBp.out.cell]; rfl
  have hbl := HBp.out.lt
  have hfl := HBf.out.lt
  go_upto_if 9 with (go_at_call 18; refine (HC.out V HI0.out).mono ?_; rintro e w1 ⟨rfl, hb1⟩)
  have HB1 := Lib.hid (below_step HB0.out hb1)
  have HBf1 := Lib.hid (HBf.out.below hb1 hfl)
  clear q0 q1 hb1
  have f0_ := HBf1.out.frozen 0
  have f1_ := HBf1.out.frozen 1
  have y0_ : w1.cell? ⟨f, 0, none⟩ = some (.int .i64 0) := by rw [HBf1.out.cell]; rfl
  have y1_ : w1.cell? ⟨f, 1, none⟩ = some (.int .i64 0) := by rw [HBf1.out.cell]; rfl
  go_wp2_with fail
  (try simp only [Exit.inBlock, Exit.then])
  refine bodyPost_ret (results_c1 rfl _ _ f 34 #[.int .i64 1, .int .i64 0] (0, 0) _ rfl (fault_end HBf1.out) Tryz.underlying34 rfl (by kernel_rfl)) rfl ?_
  exact ⟨by rw [HK2.out], below_setc (below_setc HB1.out hWf _) hWf _⟩
def fitsA (p : Pg) (s : S) : Bool := decide ((chkP p).1 = 0) && fitsB p.procs s
set_option maxHeartbeats 8000000 in
set_option maxRecDepth 100000 in
theorem aFits_any {w : World} {Q : Nat → Prop} {p : Pg} {c0 c1 : Value} {s : S} {cs : List Value} (h : ProgI w Q p [c0, c1]) (hsm : SmG p) (hs : StmtI w Q s cs) (W : World) (hI : In Q w W) :
 Calls Tryz.prog 70 #[.agg #[c0, c1], .agg cs.toArray] W (MayOk (fitsA p s) W) := by
 have HC := Lib.hid (fun V hV => Check_any h hsm V hV)
 obtain ⟨Ag, cg, Ap, cp, rfl, rfl, _, _, _, _, hgl, hpr⟩ := prog_open h
 have HFo := Lib.hid (fun V hV => fitsOne_any (W := V) hpr hs hV)
 obtain ⟨id, kind, labels, nm, proc, x, has, args, th, el, L, lc, y0, y1, y2, X, xn, xc, R, rc, T, tc, U, uc, rfl, rfl, hid, hkind, _⟩ := stmt_open hs
 have HI := Lib.hid hI
 have HT2 := Lib.hid (chk_two (p := p))
 have HK : Hid (fitsA p (.mk id kind labels nm proc x has args th el) = (decide ((chkP p).1 = 0) && fitsB p.procs (.mk id kind labels nm proc x has args th el))) := Lib.hid rfl
 clear h hI hgl hpr hsm hs hid hkind
 simp only [List.toArray] at HFo ⊢
 generalize fitsB p.procs (.mk id kind labels nm proc x has args th el) = fb at HFo HK
 generalize chkP p = r at HC HK HT2
 obtain ⟨cc, ri⟩ := r
 simp only at HK HT2
 go_enter Tryz.func70, Tryz.ntmps70
 go_upto_region 1 with fail
 have HB0 : Hid (Below W.heap.size W ((W.alloc (.cells #[.slice Ag p.globals.length cg, .slice Ap p.procs.length cp] 25)).alloc (.cells #[.int .i64 id, .int .i64 kind, .slice L labels.length lc, .string nm, .string proc, .int .i64 y0, .int .i64 y1, .string y2, .slice X xn xc, .bool has, .slice R args.length rc, .slice T th.length tc, .slice U el.length uc] 49))) := Lib.hid (below_two _ _)
 have HBp : Hid (Blk ((W.alloc (.cells #[.slice Ag p.globals.length cg, .slice Ap p.procs.length cp] 25)).alloc (.cells #[.int .i64 id, .int .i64 kind, .slice L labels.length lc, .string nm, .string proc, .int .i64 y0, .int .i64 y1, .string y2, .slice X xn xc, .bool has, .slice R args.length rc, .slice T th.length tc, .slice U el.length uc] 49)) W.heap.size 25 #[.slice Ag p.globals.length cg, .slice Ap p.procs.length cp]) := Lib.hid ((Blk.new _ _ _).alloc _)
 have HBs : Hid (Blk ((W.alloc (.cells #[.slice Ag p.globals.length cg, .slice Ap p.procs.length cp] 25)).alloc (.cells #[.int .i64 id, .int .i64 kind, .slice L labels.length lc, .string nm, .string proc, .int .i64 y0, .int .i64 y1, .string y2, .slice X xn xc, .bool has, .slice R args.length rc, .slice T th.length tc, .slice U el.length uc] 49)) (W.heap.size + 1) 49 #[.int .i64 id, .int .i64 kind, .slice L labels.length lc, .string nm, .string proc, .int .i64 y0, .int .i64 y1, .string y2, .slice X xn xc, .bool has, .slice R args.length rc, .slice T th.length tc, .slice U el.length uc]) := Lib.hid (by have := Blk.new (W.alloc (.cells #[.slice Ag p.globals.length cg, .slice Ap p.procs.length cp] 25)) 49 #[.int .i64 id, .int .i64 kind, .slice L labels.length lc, .string nm, .string proc, .int .i64 y0, .int .i64 y1, .string y2, .slice X xn xc, .bool has, .slice R args.length rc, .slice T th.length tc, .slice U el.length uc]; rw [World.size_alloc] at this; exact this)
 generalize World.alloc _ _ = V at HB0 HBp HBs ⊢
 have HI0 := Lib.hid (HI.out.on HB0.out)
 generalize hbe : W.heap.size = b at HBp HBs ⊢
 generalize hfe : b + 1 = f at HBs ⊢
 clear hbe hfe
 have q0 : V.cell? ⟨b, 0, none⟩ = some (.slice Ag p.globals.length cg) := by rw [HBp.out.cell]; rfl
 have q1 : V.cell? ⟨b, 1, none⟩ = some (.slice Ap p.procs.length cp) := by rw [HBp.out.cell]; rfl
 have hbl := HBp.out.lt
 have hfl := HBs.out.lt
 by_cases hr : cc = 0
 ·have h2 := HT2.out hr
  simp only [Prod.mk.injEq] at h2
  obtain ⟨rfl, rfl⟩ := h2
  have HK2 : Hid (fitsA p (.mk id kind labels nm proc x has args th el) = fb) := Lib.hid (by rw [HK.out]; simp)
  clear HK HT2 hr
  go_wp2_with (first
   | (go_at_call 18; refine (HC.out V HI0.out).mono ?_; rintro e w1 ⟨rfl, hb1⟩; have HB1 := Lib.hid (below_step HB0.out hb1); have HI1 := Lib.hid (HI0.out.on hb1); have HBp1 := Lib.hid (HBp.out.below hb1 hbl); have HBs1 := Lib.hid (HBs.out.below hb1 hfl); have q1' : w1.cell? ⟨b, 1, none⟩ = some (.slice Ap p.procs.length cp) := (by rw [HBp1.out.cell]; rfl); have s0' : w1.cell? ⟨f, 0, none⟩ = some (.int .i64 id) := (by rw [HBs1.out.cell]; rfl); have s1' : w1.cell? ⟨f, 1, none⟩ = some (.int .i64 kind) := (by rw [HBs1.out.cell]; rfl); have s2' : w1.cell? ⟨f, 2, none⟩ = some (.slice L labels.length lc) := (by rw [HBs1.out.cell]; rfl); have s3' : w1.cell? ⟨f, 3, none⟩ = some (.string nm) := (by rw [HBs1.out.cell]; rfl); have s4' : w1.cell? ⟨f, 4, none⟩ = some (.string proc) := (by rw [HBs1.out.cell]; rfl); have s5' : w1.cell? ⟨f, 5, none⟩ = some (.int .i64 y0) := (by rw [HBs1.out.cell]; rfl); have s6' : w1.cell? ⟨f, 6, none⟩ = some (.int .i64 y1) := (by rw [HBs1.out.cell]; rfl); have s7' : w1.cell? ⟨f, 7, none⟩ = some (.string y2) := (by rw [HBs1.out.cell]; rfl); have s8' : w1.cell? ⟨f, 8, none⟩ = some (.slice X xn xc) := (by rw [HBs1.out.cell]; rfl); have s9' : w1.cell? ⟨f, 9, none⟩ = some (.bool has) := (by rw [HBs1.out.cell]; rfl); have s10' : w1.cell? ⟨f, 10, none⟩ = some (.slice R args.length rc) := (by rw [HBs1.out.cell]; rfl); have s11' : w1.cell? ⟨f, 11, none⟩ = some (.slice T th.length tc) := (by rw [HBs1.out.cell]; rfl); have s12' : w1.cell? ⟨f, 12, none⟩ = some (.slice U el.length uc) := (by rw [HBs1.out.cell]; rfl); clear hb1)
   | (go_at_call 105; refine (HFo.out w1 HI1.out).mono ?_; rintro e w2 ⟨rfl, hb2⟩))
  go_ret
  exact ⟨by rw [HK2.out]; rfl, below_step HB1.out hb2⟩
 ·have HK2 : Hid (fitsA p (.mk id kind labels nm proc x has args th el) = false) := Lib.hid (by rw [HK.out, decide_eq_false hr]; rfl)
  have hr1 : (cc == 0) = false := beq_eq_false_iff_ne.2 hr
  clear HK HT2 hr
  go_wp2_with (go_at_call 18; refine (HC.out V HI0.out).mono ?_; rintro e w1 ⟨rfl, hb1⟩)
  go_ret
  exact ⟨ret_bool HK2.out.symm, below_step HB0.out hb1⟩
end Go.Proofs.YtimejkbmfbjomaaGreat
namespace Go.Proofs.YtimejkbmfbjomaaGreat
open Go.ChangeShapes Go.WideShapes Go.ChangeAt Go.RowKit Go.Deep
set_option linter.unusedVariables false
set_option linter.unusedSimpArgs false
/-- a global that the procedure touches -/
noncomputable def tkB (p : Pg) (proc s : ByteArray) : Bool := @decide (∃ l, GlobOf p (jfP p proc) l ∧ s ∈ l) (Classical.propDecidable _)
theorem glob_uni {p : Pg} {s0 : ByteArray} {l1 l2 : List ByteArray} (h1 : GlobOf p (jfP p s0) l1) (h2 : GlobOf p (jfP p s0) l2) (s : ByteArray) : s ∈ l1 ↔ s ∈ l2 := by
 by_cases hc : chkOK p = true
 ·have hok := ck_ok9 hc
  by_cases hq : ∃ q ∈ p.procs, q.nm = s0
  ·obtain ⟨q, hq, rfl⟩ := hq
   rw [glob_mem hok hc hq h1, glob_mem hok hc hq h2]
  ·have hz : jfP p s0 < 0 := by
    unfold jfP
    rw [if_pos hc]
    rcases idxL_get (isQ s0) p.procs 0 with ⟨e, _⟩ | ⟨j, hj, e, hf, _⟩
    ·rw [e]; decide
    ·exfalso
     exact hq ⟨p.procs[j], List.getElem_mem hj, (of_decide_eq_true hf)⟩
   rcases h1 with ⟨_, rfl⟩ | ⟨m, _, _, e, _⟩
   ·rcases h2 with ⟨_, rfl⟩ | ⟨m, _, _, e, _⟩
    ·rfl
    ·omega
   ·omega
 ·have hz : jfP p s0 < 0 := by
   unfold jfP
   rw [if_neg hc]
   decide
  rcases h1 with ⟨_, rfl⟩ | ⟨m, _, _, e, _⟩
  ·rcases h2 with ⟨_, rfl⟩ | ⟨m, _, _, e, _⟩
   ·rfl
   ·omega
  ·omega
theorem tkB_any {p : Pg} {proc : ByteArray} {l : List ByteArray} (h : GlobOf p (jfP p proc) l) (s : ByteArray) : l.any (isT s) = tkB p proc s := by
 unfold tkB
 rw [Bool.eq_iff_iff, List.any_eq_true, @decide_eq_true_iff _ (Classical.propDecidable _)]
 constructor
 ·rintro ⟨x, hx, e⟩
  have e := of_decide_eq_true e
  subst e
  exact ⟨l, h, hx⟩
 ·rintro ⟨l2, h2, hs⟩
  exact ⟨s, (glob_uni h2 h s).1 hs, by simp [isT]⟩
/-- of the names in order: none is nm, one of those ahead, or touched -/
def apL (tk : ByteArray → Bool) (nm : ByteArray) : List ByteArray → List ByteArray → Bool
 | _, [] => true
 | pre, x :: l => !((decide (x = nm) || pre.any (isT x)) || tk x) && apL tk nm (pre ++ [x]) l
noncomputable def apB (p : Pg) (s : S) : Bool := apL (tkB p s.proc) s.nm [] (refsOf s.args)
theorem apL_drop {tk : ByteArray → Bool} {nm : ByteArray} {l : List ByteArray} {k : Nat} (h : k < l.length) : apL tk nm (l.take k) (l.drop k) = (!((decide (l[k] = nm) || (l.take k).any (isT l[k])) || tk l[k]) && apL tk nm (l.take (k + 1)) (l.drop (k + 1))) := by
 rw [List.drop_eq_getElem_cons h, apL, List.take_succ_eq_append_getElem h]
theorem refs_small {w : World} {Q : Nat → Prop} {args : List Ar} {v : Value} (h : SliceI w Q 6 (ArgI w Q) args v) : ∀ t ∈ refsOf args, small t := by
 intro t ht
 unfold refsOf at ht
 obtain ⟨a, ha, ht⟩ := List.mem_flatMap.1 ht
 obtain ⟨cs, xcs, _, hz, _⟩ := slice_mem h a ha
 unfold refV at ht
 split at ht
 ·rw [List.mem_singleton] at ht
  subst ht
  exact hz
 ·cases ht
theorem glob_small {p : Pg} {z : Int} {l : List ByteArray} (h : GlobOf p z l) : ∀ t ∈ l, small t := by
 intro t ht
 rcases h with ⟨_, rfl⟩ | ⟨m, _, _, _, _, hi⟩
 ·cases ht
 ·exact ((hi.mem t).1 ht).1
set_option maxHeartbeats 8000000 in
set_option maxRecDepth 100000 in
theorem alFits_any {w W : World} {Q : Nat → Prop} {p : Pg} {c0 c1 : Value} {s : S} {cs : List Value} {B m n : Nat} (h : ProgI w Q p [c0, c1]) (hsm : SmG p) (hck : chkOK p = true → p.procs.length ≤ 16 ∧ ∀ q ∈ p.procs, (saidOf (preSL q.body)).length ≤ 10000000) {w2 : World} {Q2 : Nat → Prop} (hs : StmtI w2 Q2 s cs) (hna : s.args.length ≤ 1000000) (hC : CkI p B W m n) (hB : B ≤ W.heap.size) (hn : n < maxLen) (hI : In Q w W) (hQ : ¬ Q m) (hI2 : In Q2 w2 W) :
 Calls Tryz.prog 71 #[.agg #[c0, c1, .map (some m)], .agg cs.toArray] W fun e W' => e = .returned (.bool (apB p s)) ∧ CkI p B W' m (n + 1) ∧ Moves (fun j => j = m) W W' := by
 have HH := Lib.hid (fun V hV => handedIn_any hs hna V hV)
 obtain ⟨id, kind, labels, nm, proc, x, has, args, th, el, L, lc, y0, y1, y2, X, xn, xc, R, rc, T, tc, U, uc, rfl, rfl, hid, hkind, hnm, hproc, _, _, ha, _⟩ := stmt_open hs
 have hpz : proc.size ≤ maxLen := hproc
 have HG := Lib.hid (fun (V : World) (hV : In Q w V) (hC2 : CkI p B V m n) (hB2 : B ≤ V.heap.size) => globals_any h hsm hck proc hpz hC2 hB2 hn hV)
 obtain ⟨Ag, cg, Ap, cp, rfl, rfl, _⟩ := prog_open h
 have HI := Lib.hid hI
 have HI2 := Lib.hid hI2
 have HC := Lib.hid hC
 have HR : Hid (apB p (.mk id kind labels nm proc x has args th el) = apL (tkB p proc) nm [] (refsOf args)) := Lib.hid rfl
 have HLn : Hid ((refsOf args).length ≤ 1000000) := Lib.hid (Nat.le_trans (refsOf_len args) hna)
 have HSm : Hid (∀ t ∈ refsOf args, small t) := Lib.hid (refs_small ha)
 have hml := hC.lt
 clear h hsm hck hI hC hs hna hid hkind hnm hproc ha hI2
 simp only [List.toArray] at HH ⊢
 simp only [S.args] at HH
 generalize refsOf args = l at HH HR HLn HSm
 go_enter Tryz.func71, Tryz.ntmps71
 go_upto_region 1 with fail
 have HB0 : Hid (Below W.heap.size W ((W.alloc (.cells #[.slice Ag p.globals.length cg, .slice Ap p.procs.length cp, .map (some m)] 89)).alloc (.cells #[.int .i64 id, .int .i64 kind, .slice L labels.length lc, .string nm, .string proc, .int .i64 y0, .int .i64 y1, .string y2, .slice X xn xc, .bool has, .slice R args.length rc, .slice T th.length tc, .slice U el.length uc] 49))) := Lib.hid (below_two _ _)
 have HBp : Hid (Blk ((W.alloc (.cells #[.slice Ag p.globals.length cg, .slice Ap p.procs.length cp, .map (some m)] 89)).alloc (.cells #[.int .i64 id, .int .i64 kind, .slice L labels.length lc, .string nm, .string proc, .int .i64 y0, .int .i64 y1, .string y2, .slice X xn xc, .bool has, .slice R args.length rc, .slice T th.length tc, .slice U el.length uc] 49)) W.heap.size 89 #[.slice Ag p.globals.length cg, .slice Ap p.procs.length cp, .map (some m)]) := Lib.hid ((Blk.new _ _ _).alloc _)
 have HBs : Hid (Blk ((W.alloc (.cells #[.slice Ag p.globals.length cg, .slice Ap p.procs.length cp, .map (some m)] 89)).alloc (.cells #[.int .i64 id, .int .i64 kind, .slice L labels.length lc, .string nm, .string proc, .int .i64 y0, .int .i64 y1, .string y2, .slice X xn xc, .bool has, .slice R args.length rc, .slice T th.length tc, .slice U el.length uc] 49)) (W.heap.size + 1) 49 #[.int .i64 id, .int .i64 kind, .slice L labels.length lc, .string nm, .string proc, .int .i64 y0, .int .i64 y1, .string y2, .slice X xn xc, .bool has, .slice R args.length rc, .slice T th.length tc, .slice U el.length uc]) := Lib.hid (by have := Blk.new (W.alloc (.cells #[.slice Ag p.globals.length cg, .slice Ap p.procs.length cp, .map (some m)] 89)) 49 #[.int .i64 id, .int .i64 kind, .slice L labels.length lc, .string nm, .string proc, .int .i64 y0, .int .i64 y1, .string y2, .slice X xn xc, .bool has, .slice R args.length rc, .slice T th.length tc, .slice U el.length uc]; rw [World.size_alloc] at this; exact this)
 generalize World.alloc _ _ = V at HB0 HBp HBs ⊢
 have HBV : Hid (B ≤ V.heap.size) := Lib.hid (Nat.le_trans hB HB0.out.size)
 have HI0 := Lib.hid (HI.out.on HB0.out)
 have HI20 := Lib.hid (HI2.out.on HB0.out)
 have HC0 := Lib.hid (HC.out.step HB0.out)
 generalize hbe : W.heap.size = b at HBp HBs hml ⊢
 generalize hfe : b + 1 = f at HBs ⊢
 have hmb : m ≠ b := by omega
 have hmf : m ≠ f := by omega
 clear hbe hfe
 have hbl := HBp.out.lt
 have hfl := HBs.out.lt
 have hmV := HC0.out.lt
 have s0 : V.cell? ⟨f, 0, none⟩ = some (.int .i64 id) := by rw [HBs.out.cell]; rfl
 have s1 : V.cell? ⟨f, 1, none⟩ = some (.int .i64 kind) := by rw [HBs.out.cell]; rfl
 have s2 : V.cell? ⟨f, 2, none⟩ = some (.slice L labels.length lc) := by rw [HBs.out.cell]; rfl
 have s3 : V.cell? ⟨f, 3, none⟩ = some (.string nm) := by rw [HBs.out.cell]; rfl
 have s4 : V.cell? ⟨f, 4, none⟩ = some (.string proc) := by rw [HBs.out.cell]; rfl
 have s5 : V.cell? ⟨f, 5, none⟩ = some (.int .i64 y0) := by rw [HBs.out.cell]; rfl
 have s6 : V.cell? ⟨f, 6, none⟩ = some (.int .i64 y1) := by rw [HBs.out.cell]; rfl
 have s7 : V.cell? ⟨f, 7, none⟩ = some (.string y2) := by rw [HBs.out.cell]; rfl
 have s8 : V.cell? ⟨f, 8, none⟩ = some (.slice X xn xc) := by rw [HBs.out.cell]; rfl
 have s9 : V.cell? ⟨f, 9, none⟩ = some (.bool has) := by rw [HBs.out.cell]; rfl
 have s10 : V.cell? ⟨f, 10, none⟩ = some (.slice R args.length rc) := by rw [HBs.out.cell]; rfl
 have s11 : V.cell? ⟨f, 11, none⟩ = some (.slice T th.length tc) := by rw [HBs.out.cell]; rfl
 have s12 : V.cell? ⟨f, 12, none⟩ = some (.slice U el.length uc) := by rw [HBs.out.cell]; rfl
 go_upto_region 2 with (go_at_call 106; refine (HH.out V HI20.out).mono ?_; rintro e' W1 ⟨v1, rfl, ho1, hb1⟩; obtain ⟨X1, k1, rfl, _, _⟩ := own_shape ho1)
 have HO1 := Lib.hid ho1
 have HB1 := Lib.hid (below_step HB0.out hb1)
 have HI1 := Lib.hid (HI0.out.on hb1)
 have HC1 := Lib.hid (HC0.out.step hb1)
 have HBs1 := Lib.hid (HBs.out.below hb1 hfl)
 have HBp1 := Lib.hid (HBp.out.below hb1 hbl)
 have HBV1 : Hid (B ≤ W1.heap.size) := Lib.hid (Nat.le_trans HBV.out hb1.size)
 clear ho1 hb1 s0 s1 s2 s3 s4 s5 s6 s7 s8 s9 s10 s11 s12 HI0 HI20 HC0 HBs HBp hbl hfl HB0 HH
 have hbl := HBp1.out.lt
 have hfl := HBs1.out.lt
 by_cases hl0 : l.length = 0
 ·have hle : l = [] := List.eq_nil_of_length_eq_zero hl0
  have HR2 : Hid (apB p (.mk id kind labels nm proc x has args th el) = true) := Lib.hid (by rw [HR.out, hle]; rfl)
  have hz : ((l.length : Int) == 0) = true := by rw [hl0]; rfl
  clear hle HR
  go_wp2_with fail
  go_ret
  exact ⟨ret_bool HR2.out.symm, HC1.out.mono (by omega), (below_mv HB1.out)⟩
 ·have hz : ((l.length : Int) == 0) = false := beq_eq_false_iff_ne.2 (by omega)
  clear hl0
  have s0 : W1.cell? ⟨f, 0, none⟩ = some (.int .i64 id) := by rw [HBs1.out.cell]; rfl
  have s1 : W1.cell? ⟨f, 1, none⟩ = some (.int .i64 kind) := by rw [HBs1.out.cell]; rfl
  have s2 : W1.cell? ⟨f, 2, none⟩ = some (.slice L labels.length lc) := by rw [HBs1.out.cell]; rfl
  have s3 : W1.cell? ⟨f, 3, none⟩ = some (.string nm) := by rw [HBs1.out.cell]; rfl
  have s4 : W1.cell? ⟨f, 4, none⟩ = some (.string proc) := by rw [HBs1.out.cell]; rfl
  have s5 : W1.cell? ⟨f, 5, none⟩ = some (.int .i64 y0) := by rw [HBs1.out.cell]; rfl
  have s6 : W1.cell? ⟨f, 6, none⟩ = some (.int .i64 y1) := by rw [HBs1.out.cell]; rfl
  have s7 : W1.cell? ⟨f, 7, none⟩ = some (.string y2) := by rw [HBs1.out.cell]; rfl
  have s8 : W1.cell? ⟨f, 8, none⟩ = some (.slice X xn xc) := by rw [HBs1.out.cell]; rfl
  have s9 : W1.cell? ⟨f, 9, none⟩ = some (.bool has) := by rw [HBs1.out.cell]; rfl
  have s10 : W1.cell? ⟨f, 10, none⟩ = some (.slice R args.length rc) := by rw [HBs1.out.cell]; rfl
  have s11 : W1.cell? ⟨f, 11, none⟩ = some (.slice T th.length tc) := by rw [HBs1.out.cell]; rfl
  have s12 : W1.cell? ⟨f, 12, none⟩ = some (.slice U el.length uc) := by rw [HBs1.out.cell]; rfl
  have q0 : W1.cell? ⟨b, 0, none⟩ = some (.slice Ag p.globals.length cg) := by rw [HBp1.out.cell]; rfl
  have q1 : W1.cell? ⟨b, 1, none⟩ = some (.slice Ap p.procs.length cp) := by rw [HBp1.out.cell]; rfl
  have q2 : W1.cell? ⟨b, 2, none⟩ = some (.map (some m)) := by rw [HBp1.out.cell]; rfl
  go_upto_region 5 with (go_at_call 107; refine (HG.out W1 HI1.out HC1.out HBV1.out).mono ?_; rintro e' W2 ⟨l2, X2, k2, rfl, ho2, hg2, hc2, hm2⟩)
  have HO2 := Lib.hid ho2
  have HC2 := Lib.hid hc2
  have HMv : Hid (Moves (fun j => j = m) W W2) := Lib.hid ((below_mv HB1.out).trans hm2 (fun j hj => .inr hj))
  have HBs2 := Lib.hid (hm2.blk HBs1.out hmf.symm)
  have HO12 : Hid (W2.ownsRow V.heap.size 9 1 (.slice X1 l.length k1) l.length (strs l)) := Lib.hid (hm2.row HO1.out (fun j hj e => by have := (HO1.out.lt j hj).1; omega))
  have HTk := Lib.hid (fun t => tkB_any hg2 t)
  have HT1 := Lib.hid (texts_of_own HSm.out HO12.out).2
  have HSm2 : Hid (∀ t ∈ l2, small t) := Lib.hid (glob_small hg2)
  have HT2 := Lib.hid (texts_of_own HSm2.out HO2.out).2
  have HCt := Lib.hid (fun t => Contains_any HT2.out (in_slf _ W2) t)
  have HCp := Lib.hid (fun (k : Nat) (hk : k ≤ l.length) t => Contains_any (HT1.out.take hk) (in_slf _ W2) t)
  clear ho2 hg2 hc2 hm2 s0 s1 s2 s3 s4 s5 s6 s7 s8 s9 s10 s11 s12 q0 q1 q2 HO1 HC1 HBs1 HBp1 hbl hfl HG HI1 HB1 HBV1
  have hfl := HBs2.out.lt
  have s3 : W2.cell? ⟨f, 3, none⟩ = some (.string nm) := by rw [HBs2.out.cell]; rfl
  generalize tkB p proc = tk at HR HTk
  have hck1 : l.length ≤ k1 := by
   obtain ⟨A9, c9, e9, h9, _⟩ := own_form HO12.out
   cases e9
   exact h9
  go_upto_region 6 with fail
  go_loopg [20] l.length (fun kk i wr => ∃ k : Nat, k + kk = l.length ∧ i = .int .i64 k ∧ W2 = wr ∧ Hid (apL tk nm (l.take k) (l.drop k) = apL tk nm [] l))
  case atStart => exact ⟨0, by omega, rfl, rfl, Lib.hid rfl⟩
  case round =>
   obtain ⟨k, hk, rfl, rfl, HA⟩ := hrel
   by_cases hlt : k < l.length
   ·obtain ⟨g5, cap5, he5, hcl5, _, hcp5⟩ := own_at HO12.out hlt
    injection he5 with h51 _ h53
    subst h51 h53
    have pt := hcl5 (.string l[k]) (by simp [strs, List.getElem?_map, List.getElem?_eq_getElem hlt])
    have HAk := apL_drop (tk := tk) (nm := nm) hlt
    rw [HA.out] at HAk
    have HP := Lib.hid (HCp.out k (by omega) l[k])
    have HQ := Lib.hid (HCt.out l[k])
    rw [HTk.out] at HQ
    have hdb : decide (l[k] = nm) = (l[k].toList == nm.toList) := (dec_bytes _ _).symm
    rw [hdb] at HAk
    have HAk := Lib.hid HAk
    clear hcl5 hdb HA
    generalize (l.take k).any (isT l[k]) = b2 at HP HAk
    generalize tk l[k] = b3 at HQ HAk
    generalize l[k] = t at pt HP HQ HAk
    have hcpk : (k : Int) ≤ k1 := by have := hck1; omega
    cases hb1 : (t.toList == nm.toList) with
    | true =>
     rw [hb1] at HAk
     have HR2 : Hid (apB p (.mk id kind labels nm proc x has args th el) = false) := Lib.hid (by rw [HR.out, HAk.out]; rfl)
     clear HR HAk
     go_wp2_with fail
     go_ret
     exact ⟨ret_bool HR2.out.symm, HC2.out, HMv.out⟩
    | false =>
     rw [hb1] at HAk
     cases b2 with
     | true =>
      have HR2 : Hid (apB p (.mk id kind labels nm proc x has args th el) = false) := Lib.hid (by rw [HR.out, HAk.out]; rfl)
      clear HR HAk HQ
      go_wp2_with (go_at_call 94; refine HP.out.mono ?_; rintro e' W' ⟨rfl, rfl⟩)
      go_ret
      exact ⟨ret_bool HR2.out.symm, HC2.out, HMv.out⟩
     | false =>
      cases b3 with
      | true =>
       have HR2 : Hid (apB p (.mk id kind labels nm proc x has args th el) = false) := Lib.hid (by rw [HR.out, HAk.out]; rfl)
       clear HR HAk
       go_wp2_with (go_at_call 94; (first | (with_reducible refine HP.out.mono ?_) | (with_reducible refine HQ.out.mono ?_)); rintro e' W' ⟨rfl, rfl⟩)
       go_ret
       exact ⟨ret_bool HR2.out.symm, HC2.out, HMv.out⟩
      | false =>
       have HAn : Hid (apL tk nm (l.take (k + 1)) (l.drop (k + 1)) = apL tk nm [] l) := Lib.hid (by rw [HAk.out]; rfl)
       clear HAk
       go_wp2_with (go_at_call 94; (first | (with_reducible refine HP.out.mono ?_) | (with_reducible refine HQ.out.mono ?_)); rintro e' W' ⟨rfl, rfl⟩)
       go_roundg (l.length - k - 1)
       case measure => omega
       case rel => exact ⟨k + 1, by omega, by go_num, rfl, HAn⟩
   ·have HR2 : Hid (apB p (.mk id kind labels nm proc x has args th el) = true) := Lib.hid (by rw [HR.out, ← HA.out, List.drop_of_length_le (by omega)]; rfl)
    clear HR HA
    go_wp2_with fail
    go_ret
    exact ⟨ret_bool HR2.out.symm, HC2.out, HMv.out⟩
end Go.Proofs.YtimejkbmfbjomaaGreat
