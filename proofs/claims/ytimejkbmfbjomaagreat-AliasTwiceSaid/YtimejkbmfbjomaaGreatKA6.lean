/- Texts, merged by a program; only what is used. -/
import Derived.Test.YtimejkbmfbjomaaGreatK1
import Derived.Test.YtimejkbmfbjomaaGreatK2
import Derived.Test.YtimejkbmfbjomaaGreatK3
import Derived.Test.YtimejkbmfbjomaaGreatK4
import Derived.Test.YtimejkbmfbjomaaGreatK5
import Derived.Test.YtimejkbmfbjomaaGreatK6
import Derived.Test.YtimejkbmfbjomaaGreatK7
import Derived.Test.YtimejkbmfbjomaaGreatK8
import Derived.Test.YtimejkbmfbjomaaGreatK9
import Derived.Test.YtimejkbmfbjomaaGreatK10
import Derived.Test.YtimejkbmfbjomaaGreatK11
import Derived.Test.YtimejkbmfbjomaaGreatK12
import Derived.Test.YtimejkbmfbjomaaGreatK13
import Derived.Test.YtimejkbmfbjomaaGreatK14
import Derived.Test.YtimejkbmfbjomaaGreatK15
import Derived.Test.YtimejkbmfbjomaaGreatK16
import Derived.Test.YtimejkbmfbjomaaGreatK17
import Derived.Test.YtimejkbmfbjomaaGreatK18
import Derived.Test.YtimejkbmfbjomaaGreatK19
import Derived.Test.YtimejkbmfbjomaaGreatK20
import Derived.Test.YtimejkbmfbjomaaGreatK21
import Derived.Test.YtimejkbmfbjomaaGreatK22
import Derived.Test.YtimejkbmfbjomaaGreatK23
import Derived.Test.YtimejkbmfbjomaaGreatK24
import Derived.Test.YtimejkbmfbjomaaGreatK25
import Derived.Test.YtimejkbmfbjomaaGreatK26
import Derived.Test.YtimejkbmfbjomaaGreatK27
import Derived.Test.YtimejkbmfbjomaaGreatK28
import Derived.Test.YtimejkbmfbjomaaGreatK29
import Derived.Test.YtimejkbmfbjomaaGreatK30
import Derived.Test.YtimejkbmfbjomaaGreatKA1
import Derived.Test.YtimejkbmfbjomaaGreatKA2
import Derived.Test.YtimejkbmfbjomaaGreatKA3
import Derived.Test.YtimejkbmfbjomaaGreatKA4
import Derived.Test.YtimejkbmfbjomaaGreatKA5
namespace Go.Proofs.YtimejkbmfbjomaaGreat
open Go.ChangeShapes Go.WideShapes Go.ChangeAt Go.RowKit Go.Deep
set_option linter.unusedVariables false
set_option linter.unusedSimpArgs false
def NcRes (p : Pg) (c0 c1 : Value) (W : World) (e : Ending) (W' : World) : Prop := ∃ m, e = .returned (.agg #[c0, c1, .map (some m)]) ∧ W.heap.size ≤ m ∧ CkI p W.heap.size W' m 0 ∧ Below W.heap.size W W'
theorem chk_end {w : World} {f : Nat} {d0 d1 d2 : Value} (h : Blk w f 89 #[.slice none 0 0, .slice none 0 0, .map none]) : Blk (((w.setCell ⟨f, 0, none⟩ d0).setCell ⟨f, 1, none⟩ d1).setCell ⟨f, 2, none⟩ d2) f 89 #[d0, d1, d2] := by
 have h := ((h.set_ 0 d0).set_ 1 d1).set_ 2 d2
 simp only [List.setIfInBounds_toArray, List.set_cons_zero, List.set_cons_succ] at h
 exact h
theorem map_made3 (V : World) {f : Nat} {d0 d1 d2 : Value} : MapI ((((V.setCell ⟨f, 0, none⟩ d0).setCell ⟨f, 1, none⟩ d1).setCell ⟨f, 2, none⟩ d2).alloc (.map #[] 0)) V.heap.size 0 (fun _ => none) := by
 have h := MapI.made (((V.setCell ⟨f, 0, none⟩ d0).setCell ⟨f, 1, none⟩ d1).setCell ⟨f, 2, none⟩ d2)
 rwa [show (((V.setCell ⟨f, 0, none⟩ d0).setCell ⟨f, 1, none⟩ d1).setCell ⟨f, 2, none⟩ d2).heap.size = V.heap.size by simp] at h
set_option maxHeartbeats 4000000 in
set_option maxRecDepth 100000 in
theorem newChecker_any {w : World} {Q : Nat → Prop} {p : Pg} {c0 c1 : Value} (h : ProgI w Q p [c0, c1]) (W : World) :
 Calls Tryz.prog 60 #[.agg #[c0, c1]] W (NcRes p c0 c1 W) := by
 obtain ⟨Ag, cg, Ap, cp, rfl, rfl, _⟩ := prog_open h
 clear h
 have hmm := @run_makeMap Tryz.prog
 go_enter Tryz.func60, Tryz.ntmps60
 go_upto_region 1 with fail
 have HB0 : Hid (Below W.heap.size W ((W.alloc (.cells #[.slice Ag p.globals.length cg, .slice Ap p.procs.length cp] 25)).alloc (.cells #[.slice none 0 0, .slice none 0 0, .map none] 89))) := Lib.hid (below_two _ _)
 have HBp : Hid (Blk ((W.alloc (.cells #[.slice Ag p.globals.length cg, .slice Ap p.procs.length cp] 25)).alloc (.cells #[.slice none 0 0, .slice none 0 0, .map none] 89)) W.heap.size 25 #[.slice Ag p.globals.length cg, .slice Ap p.procs.length cp]) := Lib.hid ((Blk.new _ _ _).alloc _)
 have HBf : Hid (Blk ((W.alloc (.cells #[.slice Ag p.globals.length cg, .slice Ap p.procs.length cp] 25)).alloc (.cells #[.slice none 0 0, .slice none 0 0, .map none] 89)) (W.heap.size + 1) 89 #[.slice none 0 0, .slice none 0 0, .map none]) := Lib.hid (by have := Blk.new (W.alloc (.cells #[.slice Ag p.globals.length cg, .slice Ap p.procs.length cp] 25)) 89 #[.slice none 0 0, .slice none 0 0, .map none]; rw [World.size_alloc] at this; exact this)
 generalize World.alloc _ _ = V at HB0 HBp HBf ⊢
 generalize hbe : W.heap.size = b at HBp HBf ⊢
 generalize hfe : b + 1 = f at HBf ⊢
 have hWf : W.heap.size ≤ f := by omega
 clear hfe
 have hfl := HBf.out.lt
 have q0 : V.cell? ⟨b, 0, none⟩ = some (.slice Ag p.globals.length cg) := by rw [HBp.out.cell]; rfl
 have q1 : V.cell? ⟨b, 1, none⟩ = some (.slice Ap p.procs.length cp) := by rw [HBp.out.cell]; rfl
 have f0_ := HBf.out.frozen 0
 have f1_ := HBf.out.frozen 1
 have f2_ := HBf.out.frozen 2
 have y0_ : V.cell? ⟨f, 0, none⟩ = some (.slice none 0 0) := by rw [HBf.out.cell]; rfl
 have y1_ : V.cell? ⟨f, 1, none⟩ = some (.slice none 0 0) := by rw [HBf.out.cell]; rfl
 have y2_ : V.cell? ⟨f, 2, none⟩ = some (.map none) := by rw [HBf.out.cell]; rfl
 have hbV : b ≤ V.heap.size := by rw [← hbe]; exact HB0.out.size
 have hne : V.heap.size ≠ f := by omega
 subst hbe
 go_wp2_with fail
 (try simp only [Exit.inBlock, Exit.then])
 refine bodyPost_ret (results_c1 rfl _ _ f 89 #[.slice Ag p.globals.length cg, .slice Ap p.procs.length cp, .map (some V.heap.size)] (0, 0) _ rfl ((chk_end HBf.out).alloc _) Tryz.underlying89 rfl (by kernel_rfl)) rfl ?_
 exact ⟨V.heap.size, rfl, hbV, ⟨_, map_made3 V, fun s v h => by cases h⟩, below_stepA (below_setc (below_setc (below_setc HB0.out hWf _) hWf _) hWf _) _⟩
noncomputable def alL (p : Pg) : List Pr → Int × Int
 | [] => (0, 0)
 | q :: l => if fstB (alB p) (preSL q.body) = 0 then alL p l else (8, fstB (alB p) (preSL q.body))
theorem alL_drop {p : Pg} {l : List Pr} {k : Nat} (h : k < l.length) : alL p (l.drop k) = if fstB (alB p) (preSL l[k].body) = 0 then alL p (l.drop (k + 1)) else (8, fstB (alB p) (preSL l[k].body)) := by
 rw [List.drop_eq_getElem_cons h, alL]
noncomputable def alP (p : Pg) : Int × Int := if (arP p).1 = 0 then alL p p.procs else (1, 0)
theorem arL_two {ps : List Pr} : ∀ l : List Pr, (arL ps l).1 = 0 → arL ps l = (0, 0)
 | [], _ => rfl
 | q :: l, h => by
  rw [arL] at h ⊢
  split at h
  ·rw [if_pos (by assumption)]
   exact arL_two l h
  ·cases h
theorem arP_two {p : Pg} (h : (arP p).1 = 0) : arP p = (0, 0) ∧ (chkP p).1 = 0 := by
 unfold arP at h ⊢
 split at h
 ·rename_i hc
  rw [if_pos hc]
  exact ⟨arL_two _ h, hc⟩
 ·cases h
theorem args_w : ∀ s : S, s.args.length ≤ wS s
 | .mk id kind labels nm proc x has args th el => by
  have h : ∀ l : List Ar, l.length ≤ wAr l := by
   intro l
   induction l with
   | nil => exact Nat.zero_le _
   | cons a l ih => rw [wAr, List.length_cons]; omega
  have := h args
  rw [wS]
  simp only [S.args]
  omega
theorem may_args {p : Pg} (hs : SmG p) : ∀ q ∈ p.procs, ∀ s ∈ preSL q.body, s.args.length ≤ 1000000 := fun q hq s h =>
 Nat.le_trans (args_w s) (Nat.le_trans (preSL_w _ _ h) (hs.proc q hq).1)
set_option maxHeartbeats 8000000 in
set_option maxRecDepth 100000 in
theorem alCheck_any {w : World} {Q : Nat → Prop} {p : Pg} {c0 c1 : Value} (h : ProgI w Q p [c0, c1]) (hsm : SmG p) (hck : chkOK p = true → p.procs.length ≤ 16 ∧ ∀ q ∈ p.procs, (saidOf (preSL q.body)).length ≤ 10000000) (W : World) (hI : In Q w W) :
 Calls Tryz.prog 25 #[.agg #[c0, c1]] W (ChRes (alP p) W) := by
 have HC := Lib.hid (fun V hV => aCheck_any h hsm V hV)
 have HNc := Lib.hid (fun V => newChecker_any h V)
 have HMi := Lib.hid (fun (B m : Nat) (hQ : ¬ Q m) N l hN V A cap n hl hV hC hB hn hz ha => alMisfit_any h hsm hck (B := B) hQ N l hN (W := V) (A := A) (cap := cap) (n := n) hl hV hC hB hn hz ha)
 obtain ⟨Ag, cg, Ap, cp, rfl, rfl, _, _, _, _, hgl, hpr⟩ := prog_open h
 have HP := Lib.hid hpr
 have HI := Lib.hid hI
 have HMg0 := Lib.hid (may_args hsm)
 have HK : Hid (alP p = if (arP p).1 = 0 then alL p p.procs else (1, 0)) := Lib.hid rfl
 have HT2 := Lib.hid (arP_two (p := p))
 have HOk := Lib.hid (fun h2 => (chk_ok (p := p) h2).may)
 clear h hI hgl hpr hsm hck
 generalize arP p = r at HC HK HT2
 obtain ⟨rc, ri⟩ := r
 simp only at HK HT2
 by_cases hr : rc = 0
 ·have h2 := HT2.out hr
  have hmay := HOk.out h2.2
  simp only [Prod.mk.injEq] at h2
  obtain ⟨⟨rfl, rfl⟩, _⟩ := h2
  have HMy := Lib.hid (may_ids hmay)
  have HMg := HMg0
  have HMf := Lib.hid (fun q hq => ((may_flat hmay).1 q hq).2)
  have HPl := Lib.hid (may_lens hmay).2.1
  have HK2 : Hid (alP p = alL p p.procs) := Lib.hid HK.out
  clear HK HT2 HOk hr hmay
  go_enter Tryz.func25, Tryz.ntmps25
  go_upto_region 1 with fail
  have HB0 : Hid (Below W.heap.size W ((W.alloc (.cells #[.slice Ag p.globals.length cg, .slice Ap p.procs.length cp] 25)).alloc (.cells #[.int .i64 0, .int .i64 0] 34))) := Lib.hid (below_two _ _)
  have HBp : Hid (Blk ((W.alloc (.cells #[.slice Ag p.globals.length cg, .slice Ap p.procs.length cp] 25)).alloc (.cells #[.int .i64 0, .int .i64 0] 34)) W.heap.size 25 #[.slice Ag p.globals.length cg, .slice Ap p.procs.length cp]) := Lib.hid ((Blk.new _ _ _).alloc _)
  have HBf : Hid (Blk ((W.alloc (.cells #[.slice Ag p.globals.length cg, .slice Ap p.procs.length cp] 25)).alloc (.cells #[.int .i64 0, .int .i64 0] 34)) (W.heap.size + 1) 34 #[.int .i64 0, .int .i64 0]) := Lib.hid (by have := Blk.new (W.alloc (.cells #[.slice Ag p.globals.length cg, .slice Ap p.procs.length cp] 25)) 34 #[.int .i64 0, .int .i64 0]; rw [World.size_alloc] at this; exact this)
  generalize World.alloc _ _ = V at HB0 HBp HBf ⊢
  have HI0 := Lib.hid (HI.out.on HB0.out)
  generalize hbe : W.heap.size = b at HBp HBf ⊢
  generalize hfe : b + 1 = f at HBf ⊢
  have hWb : W.heap.size ≤ b := by omega
  have hWf : W.heap.size ≤ f := by omega
  clear hbe hfe
  have hbl := HBp.out.lt
  have hfl := HBf.out.lt
  have q0 : V.cell? ⟨b, 0, none⟩ = some (.slice Ag p.globals.length cg) := by rw [HBp.out.cell]; rfl
  have q1 : V.cell? ⟨b, 1, none⟩ = some (.slice Ap p.procs.length cp) := by rw [HBp.out.cell]; rfl
  go_upto_region 3 with (go_at_call 33; refine (HC.out V HI0.out).mono ?_; rintro e w1 ⟨rfl, hb1⟩)
  have HB1 := Lib.hid (below_step HB0.out hb1)
  have HI1 := Lib.hid (HI0.out.on hb1)
  have HBp1 := Lib.hid (HBp.out.below hb1 hbl)
  have HBf1 := Lib.hid (HBf.out.below hb1 hfl)
  clear q0 q1 hb1 HB0 HBp HBf HI0 hbl hfl HC
  have hbl := HBp1.out.lt
  have hfl := HBf1.out.lt
  have q0 : w1.cell? ⟨b, 0, none⟩ = some (.slice Ag p.globals.length cg) := by rw [HBp1.out.cell]; rfl
  have q1 : w1.cell? ⟨b, 1, none⟩ = some (.slice Ap p.procs.length cp) := by rw [HBp1.out.cell]; rfl
  go_upto_region 4 with (go_at_call 60; refine (HNc.out w1).mono ?_; rintro e w2 ⟨m, rfl, hm, hc2, hb2⟩)
  have HB2 : Hid (Below w1.heap.size w1 (w2.alloc (.cells #[.slice Ag p.globals.length cg, .slice Ap p.procs.length cp, .map (some m)] 89))) := Lib.hid (below_stepA hb2 _)
  have HBk : Hid (Blk (w2.alloc (.cells #[.slice Ag p.globals.length cg, .slice Ap p.procs.length cp, .map (some m)] 89)) w2.heap.size 89 #[.slice Ag p.globals.length cg, .slice Ap p.procs.length cp, .map (some m)]) := Lib.hid (Blk.new _ _ _)
  have HC2 : Hid (CkI p w1.heap.size (w2.alloc (.cells #[.slice Ag p.globals.length cg, .slice Ap p.procs.length cp, .map (some m)] 89)) m 0) := Lib.hid (hc2.step (below_box _))
  have hmk : w2.heap.size ≠ m := by have := hc2.lt; omega
  have hQm : ¬ Q m := fun hq => by have := HI1.out.1 m hq; omega
  have HMj := Lib.hid (HMi.out w1.heap.size m hQm)
  have hmb : b ≠ m := by omega
  have hmf : f ≠ m := by omega
  clear q0 q1 hb2 hc2 HNc HMi
  generalize World.alloc w2 _ = V2 at HB2 HBk HC2 ⊢
  generalize w2.heap.size = bk at HBk hmk ⊢
  have HBV2 : Hid (w1.heap.size ≤ V2.heap.size) := Lib.hid HB2.out.size
  have HI2 := Lib.hid (HI1.out.on HB2.out)
  have HBp2 := Lib.hid (HBp1.out.below HB2.out hbl)
  have HBf2 := Lib.hid (HBf1.out.below HB2.out hfl)
  have HBW2 := Lib.hid (below_step HB1.out HB2.out)
  have hWm : W.heap.size ≤ m := Nat.le_trans HB1.out.size hm
  clear HBp1 HBf1 HI1 HB1 HB2 hbl hfl hm
  have q1 : V2.cell? ⟨b, 1, none⟩ = some (.slice Ap p.procs.length cp) := by rw [HBp2.out.cell]; rfl
  go_upto_region 5 with fail
  clear q1
  go_loopg [17] p.procs.length (fun kk iv wr => ∃ (k : Nat), k + kk = p.procs.length ∧ iv = .int .i64 k ∧ Hid (Moves (fun j => j = m) V2 wr) ∧ Hid (CkI p w1.heap.size wr m (k * 200)) ∧ Hid (alL p (p.procs.drop k) = alL p p.procs))
  case atStart => exact ⟨0, by omega, rfl, Lib.hid (Moves.refl _ _), HC2, Lib.hid rfl⟩
  case round =>
   obtain ⟨k, hk, rfl, HMr, HCr, HA⟩ := hrel
   have HIr := Lib.hid (HI2.out.moves HMr.out (fun j hj hq => hQm (hj ▸ hq)))
   have HBfr := Lib.hid (HMr.out.blk HBf2.out hmf)
   have HBkr := Lib.hid (HMr.out.blk HBk.out hmk)
   have HBr : Hid (w1.heap.size ≤ wr.heap.size) := Lib.hid (Nat.le_trans HBV2.out HMr.out.size)
   by_cases hlt : k < p.procs.length
   ·obtain ⟨a, Bp, kp, Bv, kv, Bb, kb, Be, ke, rfl, hqa, hrow, hnm, hpp, hvv, hbody, hee⟩ := proc_at HP.out HIr.out hlt
    have hmem := List.getElem_mem hlt
    have hid := HMy.out _ hmem
    have hfl2 := HMf.out _ hmem
    have hk16 := HPl.out
    have HWr := Lib.hid (fun V hV hC hB => HMj.out _ p.procs[k].body (Nat.lt_succ_self _) V Bb kb (k * 200) hbody hV hC hB (by omega) (fun s hs h0 => by have := hid s hs; omega) (HMg.out _ hmem))
    have HAk := Lib.hid (alL_drop (p := p) (l := p.procs) hlt)
    rw [HA.out] at HAk
    have HNe : Hid (k * 200 + (preSL p.procs[k].body).length ≤ (k + 1) * 200) := Lib.hid (by rw [Nat.add_mul]; omega)
    have hbB : i64 (fstB (alB p) (preSL p.procs[k].body)) := by
     unfold fstB
     cases hf : (preSL p.procs[k].body).find? (alB p) with
     | none => simp [i64]
     | some s =>
      have := hid s (List.mem_of_find?_eq_some hf)
      simp only [Option.elim_some]
      unfold i64
      omega
    clear hqa hnm hpp hvv hbody hee hid hmem hfl2 hk16
    generalize fstB (alB p) (preSL p.procs[k].body) = r at HWr HAk hbB
    generalize (preSL p.procs[k].body).length = pn at HWr HNe
    generalize p.procs[k].nm = x0 at hrow
    generalize p.procs[k].params.length = x1 at hrow
    generalize p.procs[k].vars.length = x2 at hrow
    generalize p.procs[k].body.length = x3 at hrow HWr
    generalize p.procs[k].end_.length = x4 at hrow
    obtain ⟨p0, p1, p2, p3, p4, _⟩ := hrow
    unfold i64 at hbB
    go_upto_region 7 with fail
    have HBx : Hid (Blk (wr.alloc (.cells #[.string x0, .slice Bp x1 kp, .slice Bv x2 kv, .slice Bb x3 kb, .slice Be x4 ke] 39)) wr.heap.size 39 #[.string x0, .slice Bp x1 kp, .slice Bv x2 kv, .slice Bb x3 kb, .slice Be x4 ke]) := Lib.hid (Blk.new _ _ _)
    have HM4 : Hid (Moves (fun j => j = m) V2 (wr.alloc (.cells #[.string x0, .slice Bp x1 kp, .slice Bv x2 kv, .slice Bb x3 kb, .slice Be x4 ke] 39))) := Lib.hid (HMr.out.alloc _)
    have HC4 : Hid (CkI p w1.heap.size (wr.alloc (.cells #[.string x0, .slice Bp x1 kp, .slice Bv x2 kv, .slice Bb x3 kb, .slice Be x4 ke] 39)) m (k * 200)) := Lib.hid (HCr.out.step (below_box _))
    have HI4 : Hid (In Q w (wr.alloc (.cells #[.string x0, .slice Bp x1 kp, .slice Bv x2 kv, .slice Bb x3 kb, .slice Be x4 ke] 39))) := Lib.hid (HIr.out.alloc _)
    have HBk4 : Hid (Blk (wr.alloc (.cells #[.string x0, .slice Bp x1 kp, .slice Bv x2 kv, .slice Bb x3 kb, .slice Be x4 ke] 39)) bk 89 #[.slice Ag p.globals.length cg, .slice (some a) p.procs.length cp, .map (some m)]) := Lib.hid (HBkr.out.alloc _)
    have HB4 : Hid (w1.heap.size ≤ (wr.alloc (.cells #[.string x0, .slice Bp x1 kp, .slice Bv x2 kv, .slice Bb x3 kb, .slice Be x4 ke] 39)).heap.size) := Lib.hid (Nat.le_trans HBr.out (below_box (W := wr) _).size)
    clear p0 p1 p2 p3 p4 HIr HBkr HBfr HCr HMr HBr
    generalize World.alloc wr _ = V4 at HBx HM4 HC4 HI4 HBk4 HB4 ⊢
    generalize wr.heap.size = bx at HBx ⊢
    have q0 : V4.cell? ⟨bk, 0, none⟩ = some (.slice Ag p.globals.length cg) := by rw [HBk4.out.cell]; rfl
    have q1 : V4.cell? ⟨bk, 1, none⟩ = some (.slice (some a) p.procs.length cp) := by rw [HBk4.out.cell]; rfl
    have q2 : V4.cell? ⟨bk, 2, none⟩ = some (.map (some m)) := by rw [HBk4.out.cell]; rfl
    have z3 : V4.cell? ⟨bx, 3, none⟩ = some (.slice Bb x3 kb) := by rw [HBx.out.cell]; rfl
    go_upto_region 8 with (go_at_call 61; refine (HWr.out V4 HI4.out HC4.out HB4.out).mono ?_; rintro e w8 ⟨rfl, hc8, hm8⟩)
    have HM8 : Hid (Moves (fun j => j = m) V2 w8) := Lib.hid (HM4.out.trans hm8 (fun j hj => .inr hj))
    have HC8 : Hid (CkI p w1.heap.size w8 m ((k + 1) * 200)) := Lib.hid (hc8.mono HNe.out)
    clear z3 q0 q1 q2 hm8 hc8 HM4 HC4 HI4 HBx HBk4 HB4 HWr
    by_cases hr : r = 0
    ·subst hr
     rw [if_pos rfl] at HAk
     go_wp2_with fail
     go_roundg (p.procs.length - k - 1)
     case measure => omega
     case rel => exact ⟨k + 1, by omega, by go_num, HM8, HC8, Lib.hid HAk.out.symm⟩
    ·rw [if_neg hr] at HAk
     have hr1 : (r == 0) = false := beq_eq_false_iff_ne.2 hr
     have HBf8 := Lib.hid (HM8.out.blk HBf2.out hmf)
     have HBW8 : Hid (Below W.heap.size W w8) := Lib.hid (HBW2.out.trans (HM8.out.below HBW2.out.size (fun j hj => by subst hj; exact hWm)))
     clear hr
     have f0_ := HBf8.out.frozen 0
     have f1_ := HBf8.out.frozen 1
     have y0_ : w8.cell? ⟨f, 0, none⟩ = some (.int .i64 0) := by rw [HBf8.out.cell]; rfl
     have y1_ : w8.cell? ⟨f, 1, none⟩ = some (.int .i64 0) := by rw [HBf8.out.cell]; rfl
     go_wp2_with fail
     (try simp only [Exit.inBlock, Exit.then])
     refine bodyPost_ret (results_c1 rfl _ _ f 34 #[.int .i64 8, .int .i64 r] (0, 0) _ rfl (fault_end HBf8.out) Tryz.underlying34 rfl (by kernel_rfl)) rfl ?_
     exact ⟨by rw [HK2.out, HAk.out], below_setc (below_setc HBW8.out hWf _) hWf _⟩
   ·have HAn : Hid (alL p p.procs = (0, 0)) := Lib.hid (by rw [← HA.out, List.drop_of_length_le (by omega)]; rfl)
    have HBWr : Hid (Below W.heap.size W wr) := Lib.hid (HBW2.out.trans (HMr.out.below HBW2.out.size (fun j hj => by subst hj; exact hWm)))
    have f0_ := HBfr.out.frozen 0
    have f1_ := HBfr.out.frozen 1
    have y0_ : wr.cell? ⟨f, 0, none⟩ = some (.int .i64 0) := by rw [HBfr.out.cell]; rfl
    have y1_ : wr.cell? ⟨f, 1, none⟩ = some (.int .i64 0) := by rw [HBfr.out.cell]; rfl
    go_wp2_with fail
    (try simp only [Exit.inBlock, Exit.then])
    refine bodyPost_ret (results_c1 rfl _ _ f 34 #[.int .i64 0, .int .i64 0] (0, 0) _ rfl (fault_end HBfr.out) Tryz.underlying34 rfl (by kernel_rfl)) rfl ?_
    exact ⟨by rw [HK2.out, HAn.out], below_setc (below_setc HBWr.out hWf _) hWf _⟩
 ·have HK2 : Hid (alP p = (1, 0)) := Lib.hid (by rw [HK.out, if_neg hr])
  have hr1 : (rc == 0) = false := beq_eq_false_iff_ne.2 hr
  clear HK HT2 HOk hr HMi HNc
  go_enter Tryz.func25, Tryz.ntmps25
  go_upto_region 1 with fail
  have HB0 : Hid (Below W.heap.size W ((W.alloc (.cells #[.slice Ag p.globals.length cg, .slice Ap p.procs.length cp] 25)).alloc (.cells #[.int .i64 0, .int .i64 0] 34))) := Lib.hid (below_two _ _)
  have HBp : Hid (Blk ((W.alloc (.cells #[.slice Ag p.globals.length cg, .slice Ap p.procs.length cp] 25)).alloc (.cells #[.int .i64 0, .int .i64 0] 34)) W.heap.size 25 #[.slice Ag p.globals.length cg, .slice Ap p.procs.length cp]) := Lib.hid ((Blk.new _ _ _).alloc _)
  have HBf : Hid (Blk ((W.alloc (.cells #[.slice Ag p.globals.length cg, .slice Ap p.procs.length cp] 25)).alloc (.cells #[.int .i64 0, .int .i64 0] 34)) (W.heap.size + 1) 34 #[.int .i64 0, .int .i64 0]) := Lib.hid (by have := Blk.new (W.alloc (.cells #[.slice Ag p.globals.length cg, .slice Ap p.procs.length cp] 25)) 34 #[.int .i64 0, .int .i64 0]; rw [World.size_alloc] at this; exact this)
  generalize World.alloc _ _ = V at HB0 HBp HBf ⊢
  have HI0 := Lib.hid (HI.out.on HB0.out)
  generalize hbe : W.heap.size = b at HBp HBf ⊢
  generalize hfe : b + 1 = f at HBf ⊢
  have hWf : W.heap.size ≤ f := by omega
  clear hbe hfe
  have hbl := HBp.out.lt
  have hfl := HBf.out.lt
  have q0 : V.cell? ⟨b, 0, none⟩ = some (.slice Ag p.globals.length cg) := by rw [HBp.out.cell]; rfl
  have q1 : V.cell? ⟨b, 1, none⟩ = some (.slice Ap p.procs.length cp) := by rw [HBp.out.cell]; rfl
  go_upto_if 10 with (go_at_call 33; refine (HC.out V HI0.out).mono ?_; rintro e w1 ⟨rfl, hb1⟩)
  have HB1 := Lib.hid (below_step HB0.out hb1)
  have HBf1 := Lib.hid (HBf.out.below hb1 hfl)
  clear q0 q1 hb1
  have f0_ := HBf1.out.frozen 0
  have f1_ := HBf1.out.frozen 1
  have y0_ : w1.cell? ⟨f, 0, none⟩ = some (.int .i64 0) := by rw [HBf1.out.cell]; rfl
  have y1_ : w1.cell? ⟨f, 1, none⟩ = some (.int .i64 0) := by rw [HBf1.out.cell]; rfl
  go_wp2_with fail
  (try simp only [Exit.inBlock, Exit.then])
  refine bodyPost_ret (results_c1 rfl _ _ f 34 #[.int .i64 1, .int .i64 0] (0, 0) _ rfl (fault_end HBf1.out) Tryz.underlying34 rfl (by kernel_rfl)) rfl ?_
  exact ⟨by rw [HK2.out], below_setc (below_setc HB1.out hWf _) hWf _⟩
end Go.Proofs.YtimejkbmfbjomaaGreat
namespace Go.Proofs.YtimejkbmfbjomaaGreat
open Go.ChangeShapes Go.WideShapes Go.ChangeAt Go.RowKit Go.Deep
set_option linter.unusedVariables false
set_option linter.unusedSimpArgs false
theorem tk_glob {p : Pg} {proc s : ByteArray} (h : tkB p proc s = true) : s ∈ p.globals := by
 unfold tkB at h
 obtain ⟨l, hg, hs⟩ := (@decide_eq_true_iff _ (Classical.propDecidable _)).1 h
 rcases hg with ⟨_, rfl⟩ | ⟨m, _, vis, _, _, hi⟩
 ·cases hs
 ·have h2 := ((hi.mem s).1 hs).2
  rw [Bool.and_eq_true, List.any_eq_true] at h2
  obtain ⟨⟨x, hx, e⟩, _⟩ := h2
  rw [show s = x from of_decide_eq_true e]
  exact hx
def setNm : S → ByteArray → S
 | .mk id kind labels _ proc x has args th el, n => .mk id kind labels n proc x has args th el
theorem stmt_nm {w : World} {Q : Nat → Prop} {id kind : Int} {labels : List ByteArray} {nm proc n : ByteArray} {x : E} {has : Bool} {args : List Ar} {th el : List S} {c0 c1 c2 c3 c4 c5 c6 c7 c8 c9 c10 c11 c12 : Value} (h : StmtI w Q (.mk id kind labels nm proc x has args th el) [c0, c1, c2, c3, c4, c5, c6, c7, c8, c9, c10, c11, c12]) (hn : n.size ≤ 9223372036854775807) : StmtI w Q (.mk id kind labels n proc x has args th el) [c0, c1, c2, .string n, c4, c5, c6, c7, c8, c9, c10, c11, c12] := by
 cases h with
 | mk hid hkind hnm hproc hl hx ha hc1 hc2 hA1 hA2 hk1 hk2 => exact .mk hid hkind hn hproc hl hx ha hc1 hc2 hA1 hA2 hk1 hk2
set_option maxHeartbeats 8000000 in
set_option maxRecDepth 100000 in
theorem alFits_pos {w : World} {Q : Nat → Prop} {p : Pg} {c0 c1 : Value} {s : S} {cs : List Value} (h : ProgI w Q p [c0, c1]) (hsm : SmG p) (hck : chkOK p = true → p.procs.length ≤ 16 ∧ ∀ q ∈ p.procs, (saidOf (preSL q.body)).length ≤ 10000000) {w2 : World} {Q2 : Nat → Prop} (hs : StmtI w2 Q2 s cs) (hna : s.args.length ≤ 1000000) (har : (arP p).1 = 0) (W : World) (hI : In Q w W) (hI2 : In Q2 w2 W) (hFt : ∀ V, In Q w V → In Q2 w2 V → Calls Tryz.prog 70 #[.agg #[c0, c1], .agg cs.toArray] V (MayOk true V)) :
 Calls Tryz.prog 31 #[.agg #[c0, c1], .agg cs.toArray] W (MayOk (apB p s) W) := by
 have HC := Lib.hid (fun V hV => aCheck_any h hsm V hV)
 rw [(arP_two har).1] at HC
 have HNc := Lib.hid (fun V => newChecker_any h V)
 have HFi := Lib.hid (fun (B m : Nat) (hQ : ¬ Q m) (V : World) (k : Nat) (hC : CkI p B V m k) (hB : B ≤ V.heap.size) (hk : k < maxLen) (hV : In Q w V) (hV2 : In Q2 w2 V) => alFits_any h hsm hck hs hna hC hB hk hV hQ hV2)
 have HFt := Lib.hid hFt
 obtain ⟨id, kind, labels, nm, proc, x, has, args, th, el, L, lc, y0, y1, y2, X, xn, xc, R, rc, T, tc, U, uc, rfl, rfl, _⟩ := stmt_open hs
 obtain ⟨Ag, cg, Ap, cp, rfl, rfl, _⟩ := prog_open h
 have HI := Lib.hid hI
 have HI2 := Lib.hid hI2
 clear h hsm hck hs hna har hI hI2 hFt
 simp only [List.toArray] at HFi HFt ⊢
 generalize apB p (.mk id kind labels nm proc x has args th el) = r at HFi ⊢
 go_enter Tryz.func31, Tryz.ntmps31
 go_upto_region 1 with fail
 have HB0 : Hid (Below W.heap.size W ((W.alloc (.cells #[.slice Ag p.globals.length cg, .slice Ap p.procs.length cp] 25)).alloc (.cells #[.int .i64 id, .int .i64 kind, .slice L labels.length lc, .string nm, .string proc, .int .i64 y0, .int .i64 y1, .string y2, .slice X xn xc, .bool has, .slice R args.length rc, .slice T th.length tc, .slice U el.length uc] 49))) := Lib.hid (below_two _ _)
 have HBp : Hid (Blk ((W.alloc (.cells #[.slice Ag p.globals.length cg, .slice Ap p.procs.length cp] 25)).alloc (.cells #[.int .i64 id, .int .i64 kind, .slice L labels.length lc, .string nm, .string proc, .int .i64 y0, .int .i64 y1, .string y2, .slice X xn xc, .bool has, .slice R args.length rc, .slice T th.length tc, .slice U el.length uc] 49)) W.heap.size 25 #[.slice Ag p.globals.length cg, .slice Ap p.procs.length cp]) := Lib.hid ((Blk.new _ _ _).alloc _)
 have HBs : Hid (Blk ((W.alloc (.cells #[.slice Ag p.globals.length cg, .slice Ap p.procs.length cp] 25)).alloc (.cells #[.int .i64 id, .int .i64 kind, .slice L labels.length lc, .string nm, .string proc, .int .i64 y0, .int .i64 y1, .string y2, .slice X xn xc, .bool has, .slice R args.length rc, .slice T th.length tc, .slice U el.length uc] 49)) (W.heap.size + 1) 49 #[.int .i64 id, .int .i64 kind, .slice L labels.length lc, .string nm, .string proc, .int .i64 y0, .int .i64 y1, .string y2, .slice X xn xc, .bool has, .slice R args.length rc, .slice T th.length tc, .slice U el.length uc]) := Lib.hid (by have := Blk.new (W.alloc (.cells #[.slice Ag p.globals.length cg, .slice Ap p.procs.length cp] 25)) 49 #[.int .i64 id, .int .i64 kind, .slice L labels.length lc, .string nm, .string proc, .int .i64 y0, .int .i64 y1, .string y2, .slice X xn xc, .bool has, .slice R args.length rc, .slice T th.length tc, .slice U el.length uc]; rw [World.size_alloc] at this; exact this)
 generalize World.alloc _ _ = V at HB0 HBp HBs ⊢
 have HI0 := Lib.hid (HI.out.on HB0.out)
 have HI20 := Lib.hid (HI2.out.on HB0.out)
 generalize hbe : W.heap.size = b at HBp HBs ⊢
 generalize hfe : b + 1 = f at HBs ⊢
 clear hbe hfe HI HI2
 have hbl := HBp.out.lt
 have hfl := HBs.out.lt
 have q0 : V.cell? ⟨b, 0, none⟩ = some (.slice Ag p.globals.length cg) := by rw [HBp.out.cell]; rfl
 have q1 : V.cell? ⟨b, 1, none⟩ = some (.slice Ap p.procs.length cp) := by rw [HBp.out.cell]; rfl
 have s0 : V.cell? ⟨f, 0, none⟩ = some (.int .i64 id) := by rw [HBs.out.cell]; rfl
 have s1 : V.cell? ⟨f, 1, none⟩ = some (.int .i64 kind) := by rw [HBs.out.cell]; rfl
 have s2 : V.cell? ⟨f, 2, none⟩ = some (.slice L labels.length lc) := by rw [HBs.out.cell]; rfl
 have s3 : V.cell? ⟨f, 3, none⟩ = some (.string nm) := by rw [HBs.out.cell]; rfl
 have s4 : V.cell? ⟨f, 4, none⟩ = some (.string proc) := by rw [HBs.out.cell]; rfl
 have s5 : V.cell? ⟨f, 5, none⟩ = some (.int .i64 y0) := by rw [HBs.out.cell]; rfl
 have s6 : V.cell? ⟨f, 6, none⟩ = some (.int .i64 y1) := by rw [HBs.out.cell]; rfl
 have s7 : V.cell? ⟨f, 7, none⟩ = some (.string y2) := by rw [HBs.out.cell]; rfl
 have s8 : V.cell? ⟨f, 8, none⟩ = some (.slice X xn xc) := by rw [HBs.out.cell]; rfl
 have s9 : V.cell? ⟨f, 9, none⟩ = some (.bool has) := by rw [HBs.out.cell]; rfl
 have s10 : V.cell? ⟨f, 10, none⟩ = some (.slice R args.length rc) := by rw [HBs.out.cell]; rfl
 have s11 : V.cell? ⟨f, 11, none⟩ = some (.slice T th.length tc) := by rw [HBs.out.cell]; rfl
 have s12 : V.cell? ⟨f, 12, none⟩ = some (.slice U el.length uc) := by rw [HBs.out.cell]; rfl
 have HSv : Hid (∀ w' : World, Below V.heap.size V w' → (w'.cell? ⟨b, 0, none⟩ = some (.slice Ag p.globals.length cg) ∧ w'.cell? ⟨b, 1, none⟩ = some (.slice Ap p.procs.length cp) ∧ w'.cell? ⟨f, 0, none⟩ = some (.int .i64 id) ∧ w'.cell? ⟨f, 1, none⟩ = some (.int .i64 kind) ∧ w'.cell? ⟨f, 2, none⟩ = some (.slice L labels.length lc) ∧ w'.cell? ⟨f, 3, none⟩ = some (.string nm) ∧ w'.cell? ⟨f, 4, none⟩ = some (.string proc) ∧ w'.cell? ⟨f, 5, none⟩ = some (.int .i64 y0) ∧ w'.cell? ⟨f, 6, none⟩ = some (.int .i64 y1) ∧ w'.cell? ⟨f, 7, none⟩ = some (.string y2) ∧ w'.cell? ⟨f, 8, none⟩ = some (.slice X xn xc) ∧ w'.cell? ⟨f, 9, none⟩ = some (.bool has) ∧ w'.cell? ⟨f, 10, none⟩ = some (.slice R args.length rc) ∧ w'.cell? ⟨f, 11, none⟩ = some (.slice T th.length tc) ∧ w'.cell? ⟨f, 12, none⟩ = some (.slice U el.length uc))) := Lib.hid (fun w' hb => ⟨(hb.cell (p := ⟨b, 0, none⟩) hbl).trans q0, (hb.cell (p := ⟨b, 1, none⟩) hbl).trans q1, (hb.cell (p := ⟨f, 0, none⟩) hfl).trans s0, (hb.cell (p := ⟨f, 1, none⟩) hfl).trans s1, (hb.cell (p := ⟨f, 2, none⟩) hfl).trans s2, (hb.cell (p := ⟨f, 3, none⟩) hfl).trans s3, (hb.cell (p := ⟨f, 4, none⟩) hfl).trans s4, (hb.cell (p := ⟨f, 5, none⟩) hfl).trans s5, (hb.cell (p := ⟨f, 6, none⟩) hfl).trans s6, (hb.cell (p := ⟨f, 7, none⟩) hfl).trans s7, (hb.cell (p := ⟨f, 8, none⟩) hfl).trans s8, (hb.cell (p := ⟨f, 9, none⟩) hfl).trans s9, (hb.cell (p := ⟨f, 10, none⟩) hfl).trans s10, (hb.cell (p := ⟨f, 11, none⟩) hfl).trans s11, (hb.cell (p := ⟨f, 12, none⟩) hfl).trans s12⟩)
 have hBD : Below V.heap.size V V.drew := (Below.refl _ _).drew
 have hdr : ∀ X : World, In Q w X → In Q w X.drew := fun X h => h
 clear HBp HBs
 go_region_held3 (fun w' => w'.cell? ⟨b, 0, none⟩ = some (.slice Ag p.globals.length cg) ∧ w'.cell? ⟨b, 1, none⟩ = some (.slice Ap p.procs.length cp) ∧ w'.cell? ⟨f, 0, none⟩ = some (.int .i64 id) ∧ w'.cell? ⟨f, 1, none⟩ = some (.int .i64 kind) ∧ w'.cell? ⟨f, 2, none⟩ = some (.slice L labels.length lc) ∧ w'.cell? ⟨f, 3, none⟩ = some (.string nm) ∧ w'.cell? ⟨f, 4, none⟩ = some (.string proc) ∧ w'.cell? ⟨f, 5, none⟩ = some (.int .i64 y0) ∧ w'.cell? ⟨f, 6, none⟩ = some (.int .i64 y1) ∧ w'.cell? ⟨f, 7, none⟩ = some (.string y2) ∧ w'.cell? ⟨f, 8, none⟩ = some (.slice X xn xc) ∧ w'.cell? ⟨f, 9, none⟩ = some (.bool has) ∧ w'.cell? ⟨f, 10, none⟩ = some (.slice R args.length rc) ∧ w'.cell? ⟨f, 11, none⟩ = some (.slice T th.length tc) ∧ w'.cell? ⟨f, 12, none⟩ = some (.slice U el.length uc))
  ((refine HSv.out _ ?_; with_reducible assumption))
  (first
   | (go_at_call 33; (with_reducible refine (HC.out V.drew (hdr V HI0.out)).mono ?_); rintro e' W3 ⟨rfl, hb3⟩; have g3 : Below V.heap.size V W3 := hBD.trans hb3; have HI3 := Lib.hid (HI0.out.on g3); have HI23 := Lib.hid (HI20.out.on g3))
   | (go_at_call 70; (with_reducible refine (HFt.out W3 HI3.out HI23.out).mono ?_); rintro e' W4 ⟨rfl, hb4⟩; have g4 : Below V.heap.size V W4 := below_step g3 hb4; have HI4 := Lib.hid (HI0.out.on g4); have HI24 := Lib.hid (HI20.out.on g4))
   | (go_at_call 60; (with_reducible refine (HNc.out W4).mono ?_); rintro e' W5 ⟨m, rfl, hm5, hc5, hb5⟩; have g5 : Below V.heap.size V W5 := below_step g4 hb5; have HI5 := Lib.hid (HI0.out.on g5); have HI25 := Lib.hid (HI20.out.on g5); have HQm : Hid (¬ Q m) := Lib.hid (fun hq => by have := HI4.out.1 m hq; omega); have HB5 : Hid (W4.heap.size ≤ W5.heap.size) := Lib.hid hb5.size; have HC5 := Lib.hid hc5; clear hc5 hb5)
   | (go_at_call 71; (with_reducible refine (HFi.out W4.heap.size m HQm.out W5 0 HC5.out HB5.out (by unfold maxLen; omega) HI5.out HI25.out).mono ?_); rintro e' W6 ⟨rfl, hc6, hm6⟩; have g6 : Below V.heap.size V W6 := g5.trans (hm6.below g5.size (fun j hj => by subst hj; exact Nat.le_trans g4.size hm5)); clear hc6 hm6))
 go_wp2_with fail
 go_ret
 exact ⟨ret_bool rfl, below_step HB0.out g6⟩
end Go.Proofs.YtimejkbmfbjomaaGreat
namespace Go.Proofs.YtimejkbmfbjomaaGreat
open Go.ChangeShapes Go.WideShapes Go.ChangeAt Go.RowKit Go.Deep
set_option linter.unusedVariables false
set_option linter.unusedSimpArgs false
theorem some_ok1 : 0 < someP.procs.length := by decide
theorem some_ok2 : 1 < someP.procs[0].body.length := by decide
end Go.Proofs.YtimejkbmfbjomaaGreat
