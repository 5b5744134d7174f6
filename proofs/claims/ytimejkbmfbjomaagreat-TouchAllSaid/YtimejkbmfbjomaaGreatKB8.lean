/- Texts, merged by a program; only what is used. -/
import Derived.Test.YtimejkbmfbjomaaGreatK1
import Derived.Test.YtimejkbmfbjomaaGreatK2
import Derived.Test.YtimejkbmfbjomaaGreatK3
import Derived.Test.YtimejkbmfbjomaaGreatK4
import Derived.Test.YtimejkbmfbjomaaGreatK5
import Derived.Test.YtimejkbmfbjomaaGreatK6
import Derived.Test.YtimejkbmfbjomaaGreatK7
import Derived.Test.YtimejkbmfbjomaaGreatK8
import Derived.Test.YtimejkbmfbjomaaGreatK9
import Derived.Test.YtimejkbmfbjomaaGreatK10
import Derived.Test.YtimejkbmfbjomaaGreatK11
import Derived.Test.YtimejkbmfbjomaaGreatK12
import Derived.Test.YtimejkbmfbjomaaGreatK13
import Derived.Test.YtimejkbmfbjomaaGreatK14
import Derived.Test.YtimejkbmfbjomaaGreatK15
import Derived.Test.YtimejkbmfbjomaaGreatK16
import Derived.Test.YtimejkbmfbjomaaGreatK17
import Derived.Test.YtimejkbmfbjomaaGreatK18
import Derived.Test.YtimejkbmfbjomaaGreatK19
import Derived.Test.YtimejkbmfbjomaaGreatK20
import Derived.Test.YtimejkbmfbjomaaGreatK21
import Derived.Test.YtimejkbmfbjomaaGreatK22
import Derived.Test.YtimejkbmfbjomaaGreatK23
import Derived.Test.YtimejkbmfbjomaaGreatK24
import Derived.Test.YtimejkbmfbjomaaGreatK25
import Derived.Test.YtimejkbmfbjomaaGreatK26
import Derived.Test.YtimejkbmfbjomaaGreatK27
import Derived.Test.YtimejkbmfbjomaaGreatK28
import Derived.Test.YtimejkbmfbjomaaGreatK29
import Derived.Test.YtimejkbmfbjomaaGreatK30
import Derived.Test.YtimejkbmfbjomaaGreatKB1
import Derived.Test.YtimejkbmfbjomaaGreatKB2
import Derived.Test.YtimejkbmfbjomaaGreatKB3
import Derived.Test.YtimejkbmfbjomaaGreatKB4
import Derived.Test.YtimejkbmfbjomaaGreatKB5
import Derived.Test.YtimejkbmfbjomaaGreatKB6
import Derived.Test.YtimejkbmfbjomaaGreatKB7
namespace Go.Proofs.YtimejkbmfbjomaaGreat
open Go.ChangeShapes Go.WideShapes Go.ChangeAt Go.RowKit Go.Deep
set_option linter.unusedVariables false
set_option linter.unusedSimpArgs false
def PcI6 (w : World) (Q : Nat → Prop) (r : Pr × Bool) (W : World) (e : Ending) (w' : World) : Prop := ∃ d0 d1 d2 d3 d4, e = .returned (.tuple #[.agg #[d0, d1, d2, d3, d4], .bool r.2]) ∧ Below W.heap.size W w' ∧ ProcI w Q r.1 [d0, d1, d2, d3, d4]
set_option maxHeartbeats 2000000 in
set_option maxRecDepth 100000 in
theorem rProc_any {w : World} {Q : Nat → Prop} {p : Pg} {c0 c1 : Value} (h : ProgI w Q p [c0, c1]) (nm : ByteArray) (W : World) (hI : In Q w W) :
  Calls Tryz.prog 43 #[.agg #[c0, c1], .string nm] W (PcI6 w Q (procP p nm) W) := by
 have HM := Lib.hid (fun V hV => rMay_any h V hV)
 obtain ⟨Ag, cg, Ap, cp, rfl, rfl, _, _, _, _, hgl, hpr⟩ := prog_open h
 have HP := Lib.hid hpr
 have HI := Lib.hid hI
 have HK : Hid (procP p nm = if mayP p = true then (p.procs.find? (isQ nm)).elim (P0, false) (fun q => (q, true)) else (P0, false)) := Lib.hid rfl
 clear h hI hpr hgl
 go_enter Tryz.func43, Tryz.ntmps43
 go_upto_region 1 with fail
 have HB0 : Hid (Below W.heap.size W ((W.alloc (.cells #[.slice Ag p.globals.length cg, .slice Ap p.procs.length cp] 25)).alloc (.cells zP 39))) := Lib.hid (below_two _ _)
 have HBp : Hid (Blk ((W.alloc (.cells #[.slice Ag p.globals.length cg, .slice Ap p.procs.length cp] 25)).alloc (.cells zP 39)) W.heap.size 25 #[.slice Ag p.globals.length cg, .slice Ap p.procs.length cp]) := Lib.hid ((Blk.new _ _ _).alloc _)
 have HBz : Hid (Blk ((W.alloc (.cells #[.slice Ag p.globals.length cg, .slice Ap p.procs.length cp] 25)).alloc (.cells zP 39)) (W.heap.size + 1) 39 zP) := Lib.hid (by have := Blk.new (W.alloc (.cells #[.slice Ag p.globals.length cg, .slice Ap p.procs.length cp] 25)) 39 zP; rw [World.size_alloc] at this; exact this)
 generalize World.alloc _ _ = V at HB0 HBp HBz ⊢
 have HI0 := Lib.hid (HI.out.on HB0.out)
 have q0 : V.cell? ⟨W.heap.size, 0, none⟩ = some (.slice Ag p.globals.length cg) := by rw [HBp.out.cell]; rfl
 have q1 : V.cell? ⟨W.heap.size, 1, none⟩ = some (.slice Ap p.procs.length cp) := by rw [HBp.out.cell]; rfl
 have hbl := HBp.out.lt
 cases hm : mayP p with
 | false =>
  rw [hm] at HM HK
  rw [if_neg (by decide)] at HK
  clear hm
  go_upto_region 8 with (go_at_call 86; refine (HM.out V HI0.out).mono ?_; rintro e W5 ⟨rfl, hb1⟩)
  have HB5 := Lib.hid (below_step HB0.out hb1)
  have HBz5 := Lib.hid (HBz.out.below hb1 HBz.out.lt)
  clear q0 q1 hbl hb1
  have y0 : W5.cell? ⟨W.heap.size + 1, 0, none⟩ = some (.string ⟨#[]⟩) := by rw [HBz5.out.cell]; rfl
  have y1 : W5.cell? ⟨W.heap.size + 1, 1, none⟩ = some (.slice none 0 0) := by rw [HBz5.out.cell]; rfl
  have y2 : W5.cell? ⟨W.heap.size + 1, 2, none⟩ = some (.slice none 0 0) := by rw [HBz5.out.cell]; rfl
  have y3 : W5.cell? ⟨W.heap.size + 1, 3, none⟩ = some (.slice none 0 0) := by rw [HBz5.out.cell]; rfl
  have y4 : W5.cell? ⟨W.heap.size + 1, 4, none⟩ = some (.slice none 0 0) := by rw [HBz5.out.cell]; rfl
  have f0 := HBz5.out.frozen 0
  have f1 := HBz5.out.frozen 1
  have f2 := HBz5.out.frozen 2
  have f3 := HBz5.out.frozen 3
  have f4 := HBz5.out.frozen 4
  have hzl := HBz5.out.lt
  go_wp2_with fail
  (try simp only [Exit.inBlock, Exit.then])
  refine bodyPost_ret (results_ct rfl _ _ (W.heap.size + 1) 39 _ (0, 0) _ rfl (pc5_blk HBz5.out) Tryz.underlying39 rfl (by kernel_rfl)) rfl ?_
  rw [HK.out]
  exact ⟨_, _, _, _, _, rfl, pc5_below HB5.out (by omega), zero_proc _ _⟩
 | true =>
  rw [hm] at HM HK
  rw [if_pos rfl] at HK
  clear hm
  go_upto_region 2 with (go_at_call 86; refine (HM.out V HI0.out).mono ?_; rintro e W5 ⟨rfl, hb1⟩)
  have HB5 := Lib.hid (below_step HB0.out hb1)
  have HI5 := Lib.hid (HI0.out.on hb1)
  have HBz5 := Lib.hid (HBz.out.below hb1 HBz.out.lt)
  have q1' : W5.cell? ⟨W.heap.size, 1, none⟩ = some (.slice Ap p.procs.length cp) := (hb1.cell (p := ⟨W.heap.size, 1, none⟩) hbl).trans q1
  clear q0 q1 hbl hb1 HBp HBz HB0 HI0
  go_upto_region 3 with fail
  clear q1'
  go_loopw [13] (fun iv wr => ∃ (k : Nat), k ≤ p.procs.length ∧ iv = .int .i64 k ∧ Hid ((p.procs.drop k).find? (isQ nm) = p.procs.find? (isQ nm)) ∧ Hid (Below W5.heap.size W5 wr)) (fun iv _ => p.procs.length - (intOf iv).toNat)
  case atStart => exact ⟨0, Nat.zero_le _, rfl, Lib.hid (by rw [List.drop_zero]), Lib.hid (Below.refl _ _)⟩
  case round =>
   obtain ⟨k, hk, rfl, HW, HR⟩ := hrel
   have HIr := Lib.hid (HI5.out.on HR.out)
   have HBW := Lib.hid (below_step HB5.out HR.out)
   have HBzr := Lib.hid (HBz5.out.below HR.out HBz5.out.lt)
   by_cases hlt : k < p.procs.length
   ·obtain ⟨a, Bp, kp, Bv, kv, Bb, kb, Be, ke, rfl, hqa, hrow, hnm, hpp, hvv, hbody, hee⟩ := proc_at HP.out HIr.out hlt
    have HPI : Hid (ProcI w Q p.procs[k] [.string p.procs[k].nm, .slice Bp p.procs[k].params.length kp, .slice Bv p.procs[k].vars.length kv, .slice Bb p.procs[k].body.length kb, .slice Be p.procs[k].end_.length ke]) := Lib.hid ⟨_, _, _, _, rfl, hnm, hpp, hvv, hbody, hee⟩
    have HD := HW.out
    rw [List.drop_eq_getElem_cons hlt, List.find?_cons] at HD
    have hv := isQ_eq nm p.procs[k]
    have hb' : ∃ b, isQ nm p.procs[k] = b := ⟨_, rfl⟩
    obtain ⟨b, hb⟩ := hb'
    rw [hb] at HD hv
    clear hb hnm hpp hvv hbody hee
    generalize hqq : p.procs[k] = qq at hrow HPI HD hv
    clear hqq
    generalize qq.nm = qn at hrow HPI hv
    generalize qq.params.length = x1 at hrow HPI
    generalize qq.vars.length = x2 at hrow HPI
    generalize qq.body.length = x3 at hrow HPI
    generalize qq.end_.length = x4 at hrow HPI
    obtain ⟨p0, p1, p2, p3, p4, _⟩ := hrow
    clear HW
    go_upto_region 5 with fail
    have HBq : Hid (Blk (wr.alloc (.cells #[.string qn, .slice Bp x1 kp, .slice Bv x2 kv, .slice Bb x3 kb, .slice Be x4 ke] 39)) wr.heap.size 39 #[.string qn, .slice Bp x1 kp, .slice Bv x2 kv, .slice Bb x3 kb, .slice Be x4 ke]) := Lib.hid (Blk.new _ _ _)
    have HBo : Hid (Below wr.heap.size wr (wr.alloc (.cells #[.string qn, .slice Bp x1 kp, .slice Bv x2 kv, .slice Bb x3 kb, .slice Be x4 ke] 39))) := Lib.hid (below_box _)
    clear p0 p1 p2 p3 p4
    generalize hW6 : World.alloc wr _ = W6 at HBq HBo ⊢
    clear hW6
    have HBzq := Lib.hid (HBzr.out.below HBo.out HBzr.out.lt)
    have HB6 := Lib.hid (below_step HBW.out HBo.out)
    have HR6 := Lib.hid (below_step HR.out HBo.out)
    have hne : wr.heap.size ≠ W.heap.size + 1 := by have := HBzr.out.lt; omega
    generalize wr.heap.size = bq at HBq hne ⊢
    have z0 : W6.cell? ⟨bq, 0, none⟩ = some (.string qn) := by rw [HBq.out.cell]; rfl
    have z1 : W6.cell? ⟨bq, 1, none⟩ = some (.slice Bp x1 kp) := by rw [HBq.out.cell]; rfl
    have z2 : W6.cell? ⟨bq, 2, none⟩ = some (.slice Bv x2 kv) := by rw [HBq.out.cell]; rfl
    have z3 : W6.cell? ⟨bq, 3, none⟩ = some (.slice Bb x3 kb) := by rw [HBq.out.cell]; rfl
    have z4 : W6.cell? ⟨bq, 4, none⟩ = some (.slice Be x4 ke) := by rw [HBq.out.cell]; rfl
    cases b with
    | true =>
     simp only at HD
     rw [← HD, Option.elim_some] at HK
     have y0 : W6.cell? ⟨W.heap.size + 1, 0, none⟩ = some (.string ⟨#[]⟩) := by rw [HBzq.out.cell]; rfl
     have y1 : W6.cell? ⟨W.heap.size + 1, 1, none⟩ = some (.slice none 0 0) := by rw [HBzq.out.cell]; rfl
     have y2 : W6.cell? ⟨W.heap.size + 1, 2, none⟩ = some (.slice none 0 0) := by rw [HBzq.out.cell]; rfl
     have y3 : W6.cell? ⟨W.heap.size + 1, 3, none⟩ = some (.slice none 0 0) := by rw [HBzq.out.cell]; rfl
     have y4 : W6.cell? ⟨W.heap.size + 1, 4, none⟩ = some (.slice none 0 0) := by rw [HBzq.out.cell]; rfl
     have f0 := HBzq.out.frozen 0
     have f1 := HBzq.out.frozen 1
     have f2 := HBzq.out.frozen 2
     have f3 := HBzq.out.frozen 3
     have f4 := HBzq.out.frozen 4
     have hzl := HBzq.out.lt
     have hv2 := hv.symm
     clear hv HD
     go_wp2_with fail
     (try simp only [Exit.inBlock, Exit.then])
     refine bodyPost_ret (results_ct rfl _ _ (W.heap.size + 1) 39 _ (0, 0) _ rfl (pc5_blk HBzq.out) Tryz.underlying39 rfl (by kernel_rfl)) rfl ?_
     rw [HK.out]
     exact ⟨_, _, _, _, _, rfl, pc5_below HB6.out (by omega), HPI.out⟩
    | false =>
     simp only at HD
     have HD := Lib.hid HD
     have hv2 := hv.symm
     clear hv
     go_wp2_with fail
     go_roundw
     case rel => exact ⟨k + 1, by omega, by go_num, HD, HR6⟩
     case measure => simp [intOf]; omega
   ·have hn := HW.out
    rw [List.drop_of_length_le (by omega), List.find?_nil] at hn
    rw [← hn, Option.elim_none] at HK
    clear hn HW
    have y0 : wr.cell? ⟨W.heap.size + 1, 0, none⟩ = some (.string ⟨#[]⟩) := by rw [HBzr.out.cell]; rfl
    have y1 : wr.cell? ⟨W.heap.size + 1, 1, none⟩ = some (.slice none 0 0) := by rw [HBzr.out.cell]; rfl
    have y2 : wr.cell? ⟨W.heap.size + 1, 2, none⟩ = some (.slice none 0 0) := by rw [HBzr.out.cell]; rfl
    have y3 : wr.cell? ⟨W.heap.size + 1, 3, none⟩ = some (.slice none 0 0) := by rw [HBzr.out.cell]; rfl
    have y4 : wr.cell? ⟨W.heap.size + 1, 4, none⟩ = some (.slice none 0 0) := by rw [HBzr.out.cell]; rfl
    have f0 := HBzr.out.frozen 0
    have f1 := HBzr.out.frozen 1
    have f2 := HBzr.out.frozen 2
    have f3 := HBzr.out.frozen 3
    have f4 := HBzr.out.frozen 4
    have hzl := HBzr.out.lt
    go_wp2_with fail
    (try simp only [Exit.inBlock, Exit.then])
    refine bodyPost_ret (results_ct rfl _ _ (W.heap.size + 1) 39 _ (0, 0) _ rfl (pc5_blk HBzr.out) Tryz.underlying39 rfl (by kernel_rfl)) rfl ?_
    rw [HK.out]
    exact ⟨_, _, _, _, _, rfl, pc5_below HBW.out (by omega), zero_proc _ _⟩
end Go.Proofs.YtimejkbmfbjomaaGreat
namespace Go.Proofs.YtimejkbmfbjomaaGreat
open Go.ChangeShapes Go.WideShapes Go.ChangeAt Go.RowKit Go.Deep
set_option linter.unusedVariables false
set_option linter.unusedSimpArgs false
set_option maxHeartbeats 4000000 in
set_option maxRecDepth 100000 in
theorem ProcAt_big {w : World} {Q : Nat → Prop} {p : Pg} {c0 c1 : Value} (h : ProgI w Q p [c0, c1]) (hn : p.procs.length ≤ 1000000) (n : Int) : ∃ s : ByteArray, ∀ W : World, In Q w W →
 Calls Tryz.prog 10 #[.agg #[c0, c1], .int .i64 n] W fun e w' => e = .returned (.string s) ∧ Below W.heap.size W w' := by
 by_cases h0 : p.procs.length = 0
 ·refine ⟨⟨#[]⟩, fun W hI => ?_⟩
  obtain ⟨Ag, cg, Ap, cp, rfl, rfl, _⟩ := prog_open h
  rw [h0]
  clear h hI
  go_enter Tryz.func10, Tryz.ntmps10
  go_upto_region 1 with fail
  have HB0 : Hid (Below W.heap.size W (W.alloc (.cells #[.slice Ag p.globals.length cg, .slice Ap 0 cp] 25))) := Lib.hid (below_box _)
  have HBp : Hid (Blk (W.alloc (.cells #[.slice Ag p.globals.length cg, .slice Ap 0 cp] 25)) W.heap.size 25 #[.slice Ag p.globals.length cg, .slice Ap 0 cp]) := Lib.hid (Blk.new _ _ _)
  generalize World.alloc _ _ = V at HB0 HBp ⊢
  generalize hbe : W.heap.size = b at HBp ⊢
  clear hbe
  have q1 : V.cell? ⟨b, 1, none⟩ = some (.slice Ap 0 cp) := by rw [HBp.out.cell]; rfl
  clear h0
  go_wp2_with fail
  go_ret
  exact ⟨rfl, HB0.out⟩
 ·obtain ⟨m, hm, hM⟩ := Mod_fix n p.procs.length (by omega) hn
  refine ⟨p.procs[m].nm, fun W hI => ?_⟩
  have HM := Lib.hid hM
  obtain ⟨Ag, cg, Ap, cp, rfl, rfl, _, _, _, _, hgl, hpr⟩ := prog_open h
  have HP := Lib.hid hpr
  have HI := Lib.hid hI
  have hn1 : 1 ≤ p.procs.length := by omega
  clear h hI hgl hpr hM h0
  go_enter Tryz.func10, Tryz.ntmps10
  go_upto_region 1 with fail
  have HB0 : Hid (Below W.heap.size W (W.alloc (.cells #[.slice Ag p.globals.length cg, .slice Ap p.procs.length cp] 25))) := Lib.hid (below_box _)
  have HBp : Hid (Blk (W.alloc (.cells #[.slice Ag p.globals.length cg, .slice Ap p.procs.length cp] 25)) W.heap.size 25 #[.slice Ag p.globals.length cg, .slice Ap p.procs.length cp]) := Lib.hid (Blk.new _ _ _)
  generalize World.alloc _ _ = V at HB0 HBp ⊢
  have HI0 := Lib.hid (HI.out.on HB0.out)
  generalize hbe : W.heap.size = b at HBp ⊢
  clear hbe
  obtain ⟨a, Bp, kp, Bv, kv, Bb, kb, Be, ke, rfl, _, ⟨p0, p1, p2, p3, p4, _⟩, _⟩ := proc_at HP.out HI0.out hm
  have q0 : V.cell? ⟨b, 0, none⟩ = some (.slice Ag p.globals.length cg) := by rw [HBp.out.cell]; rfl
  have q1 : V.cell? ⟨b, 1, none⟩ = some (.slice (some a) p.procs.length cp) := by rw [HBp.out.cell]; rfl
  clear p1 p2 p3 p4
  obtain ⟨xn, hx⟩ : ∃ xn, xn = p.procs[m].nm := ⟨_, rfl⟩
  rw [← hx] at p0
  have HX := Lib.hid hx
  clear hx
  go_upto_region 3 with fail
  go_quiet ((go_at_call 35; exact quiet_same (HM.out _)))
  go_wp2_with fail
  go_ret
  exact ⟨by rw [← HX.out]; rfl, below_drewN HB0.out _⟩
theorem procP_in2 {p : Pg} {nm : ByteArray} {q : Pr} (h : procP p nm = (q, true)) : q ∈ p.procs ∧ q.nm = nm := by
 unfold procP at h
 split at h
 ·cases hf : p.procs.find? (isQ nm) with
  | none => rw [hf] at h; cases h
  | some x =>
   rw [hf] at h
   cases h
   exact ⟨List.mem_of_find?_eq_some hf, of_decide_eq_true (show decide (q.nm = nm) = true from List.find?_some (p := isQ nm) hf)⟩
 ·cases h
/-- the answer for a procedure that is there, of a right program; none else -/
def WrP (p : Pg) (proc : ByteArray) (R : Pr → List ByteArray → Prop) (l : List ByteArray) : Prop := (¬ ((procP p proc).2 = true ∧ chkOK p = true) ∧ l = []) ∨ (((procP p proc).2 = true ∧ chkOK p = true) ∧ ∃ q ∈ p.procs, q.nm = proc ∧ R q l)
def CcRes (q : Pr) (l : List ByteArray) : Prop := l = srt (callsOf (preSL q.body))
theorem rcalls_ord {w : World} {Q : Nat → Prop} {p : Pg} {c0 c1 : Value} (h : ProgI w Q p [c0, c1]) (hok : ChOk p) {q : Pr} (hq : q ∈ p.procs) (W : World) (hI : In Q w W) :
 Calls Tryz.prog 45 #[.agg #[c0, c1], .string q.nm] W (OrdRow (CcRes q) W) := by
 refine (rcalls_any h q.nm W hI).mono ?_
 rintro e w' ⟨v, rfl, ho, hb⟩
 rw [rcP_at hok hq] at ho
 exact ⟨_, v, rfl, ho, hb, rfl⟩
set_option maxHeartbeats 4000000 in
set_option maxRecDepth 100000 in
theorem rCalls_any {w : World} {Q : Nat → Prop} {p : Pg} {c0 c1 : Value} (h : ProgI w Q p [c0, c1]) (hsm : SmG p) (proc : ByteArray) (W : World) (hI : In Q w W) :
 Calls Tryz.prog 13 #[.agg #[c0, c1], .string proc] W (OrdRow (WrP p proc CcRes) W) := by
 have HPc := Lib.hid (fun V hV => rProc_any h proc V hV)
 have HSc := Lib.hid (fun V hV => rScope_any h hsm V hV)
 have HIn := Lib.hid (fun (hok : ChOk p) (hc : chkOK p = true) q (hq : q ∈ p.procs) V hV => rcalls_ord h hok hq V hV)
 obtain ⟨Ag, cg, Ap, cp, rfl, rfl, _⟩ := prog_open h
 have HI := Lib.hid hI
 have hff : ∀ (a c : Int) (w : World), (Instr.field 34 (.agg #[.int .i64 a, .int .i64 c]) 0).run Tryz.prog w = .ok (.int .i64 a) w := fun _ _ _ => by kernel_rfl
 have HCk : Hid (chkOK p = decide ((chkP p).1 = 0)) := Lib.hid rfl
 have HOk := Lib.hid (fun hc : chkOK p = true => ck_ok9 hc)
 clear h hI hsm
 generalize hr : procP p proc = r at HPc
 have HRr := Lib.hid hr
 clear hr
 obtain ⟨q, rb⟩ := r
 go_enter Tryz.func13, Tryz.ntmps13
 go_upto_region 1 with fail
 have HB0 : Hid (Below W.heap.size W (W.alloc (.cells #[.slice Ag p.globals.length cg, .slice Ap p.procs.length cp] 25))) := Lib.hid (below_box _)
 have HBp0 : Hid (Blk (W.alloc (.cells #[.slice Ag p.globals.length cg, .slice Ap p.procs.length cp] 25)) W.heap.size 25 #[.slice Ag p.globals.length cg, .slice Ap p.procs.length cp]) := Lib.hid (Blk.new _ _ _)
 generalize World.alloc _ _ = W0 at HB0 HBp0 ⊢
 have HI0 := Lib.hid (HI.out.on HB0.out)
 generalize hbe : W.heap.size = b at HBp0 ⊢
 clear hbe
 have q0 : W0.cell? ⟨b, 0, none⟩ = some (.slice Ag p.globals.length cg) := by rw [HBp0.out.cell]; rfl
 have q1 : W0.cell? ⟨b, 1, none⟩ = some (.slice Ap p.procs.length cp) := by rw [HBp0.out.cell]; rfl
 go_upto_region 2 with (go_at_call 43; refine (HPc.out W0 HI0.out).mono ?_; rintro e' W6 ⟨d0, d1, d2, d3, d4, rfl, hb1, hp1⟩; have HPq := Lib.hid hp1; obtain ⟨vp, vv, vb, ve, hc, hn', hpp, hvv, hbb, hee⟩ := hp1; simp only [List.cons.injEq, and_true] at hc; obtain ⟨rfl, rfl, rfl, rfl, rfl⟩ := hc; obtain ⟨M1, k1, rfl, _, _⟩ := hpp.shape; obtain ⟨M2, k2, rfl, _, _⟩ := hvv.shape; obtain ⟨M3, k3, rfl, _⟩ := hbb.shape; obtain ⟨M4, k4, rfl, _⟩ := hee.shape; clear hn' hpp hvv hbb hee)
 (try simp only at HPq ⊢)
 have HB6 : Hid (Below W.heap.size W (W6.alloc (.cells #[.string q.nm, .slice M1 q.params.length k1, .slice M2 q.vars.length k2, .slice M3 q.body.length k3, .slice M4 q.end_.length k4] 39))) := Lib.hid (below_step HB0.out (below_stepA hb1 _))
 have HBp6 : Hid (Blk (W6.alloc (.cells #[.string q.nm, .slice M1 q.params.length k1, .slice M2 q.vars.length k2, .slice M3 q.body.length k3, .slice M4 q.end_.length k4] 39)) b 25 #[.slice Ag p.globals.length cg, .slice Ap p.procs.length cp]) := Lib.hid ((HBp0.out.below hb1 HBp0.out.lt).alloc _)
 clear hb1 q0 q1 HPc HBp0 HI0 HB0 HPq
 generalize World.alloc W6 _ = V6 at HB6 HBp6 ⊢
 have HI6 := Lib.hid (HI.out.on HB6.out)
 have q0 : V6.cell? ⟨b, 0, none⟩ = some (.slice Ag p.globals.length cg) := by rw [HBp6.out.cell]; rfl
 have q1 : V6.cell? ⟨b, 1, none⟩ = some (.slice Ap p.procs.length cp) := by rw [HBp6.out.cell]; rfl
 have hbl := HBp6.out.lt
 cases rb with
 | false =>
  go_wp2_with fail
  go_ret
  exact ⟨[], _, rfl, World.ownsRow_nil _ _ _ _, HB6.out, .inl ⟨fun h => (by rw [HRr.out] at h; cases h.1), rfl⟩⟩
 | true =>
  generalize hcr : chkP p = cr at HSc HCk
  clear hcr
  obtain ⟨rc, ri⟩ := cr
  simp only at HCk
  by_cases hr : rc = 0
  ·subst hr
   have HCk := Lib.hid (show chkOK p = true from HCk.out)
   obtain ⟨hqm, hqn⟩ := procP_in2 HRr.out
   have HF := Lib.hid (fun V hV => HIn.out (HOk.out HCk.out) HCk.out q hqm V hV)
   subst hqn
   have HCd : Hid ((procP p q.nm).2 = true ∧ chkOK p = true) := Lib.hid ⟨by rw [HRr.out], HCk.out⟩
   have HQm := Lib.hid hqm
   clear hqm HIn HOk HRr
   go_upto_region 4 with (go_at_call 44; refine (HSc.out V6 HI6.out).mono ?_; rintro e' W7 ⟨rfl, hb7⟩)
   have HB7 := Lib.hid (below_step HB6.out hb7)
   have HI7 := Lib.hid (HI6.out.on hb7)
   have HBp7 := Lib.hid (HBp6.out.below hb7 hbl)
   clear q0 q1 hb7 HB6 HI6 HBp6 HSc hff hbl
   have q0 : W7.cell? ⟨b, 0, none⟩ = some (.slice Ag p.globals.length cg) := by rw [HBp7.out.cell]; rfl
   have q1 : W7.cell? ⟨b, 1, none⟩ = some (.slice Ap p.procs.length cp) := by rw [HBp7.out.cell]; rfl
   go_wp2_with (go_at_call 45; refine (HF.out W7 HI7.out).mono ?_; rintro e' W8 ⟨l8, v8, rfl, ho8, hb8, hr8⟩; have HO8 := Lib.hid ho8; have HR8 := Lib.hid hr8; clear ho8 hr8)
   go_ret
   exact ⟨l8, v8, rfl, own_lower HO8.out HB7.out.size, below_step HB7.out hb8, .inr ⟨HCd.out, q, HQm.out, rfl, HR8.out⟩⟩
  ·have hr1 : (rc == 0) = false := beq_eq_false_iff_ne.2 hr
   have hr2 : (rc != 0) = true := by simp [bne, hr1]
   have HCn : Hid (¬ chkOK p = true) := Lib.hid (by rw [HCk.out]; simpa using hr)
   clear hr HCk
   go_wp2_with (go_at_call 44; refine (HSc.out V6 HI6.out).mono ?_; rintro e' W7 ⟨rfl, hb7⟩)
   go_ret
   exact ⟨[], _, rfl, World.ownsRow_nil _ _ _ _, below_step HB6.out hb7, .inl ⟨fun h => HCn.out h.2, rfl⟩⟩
set_option maxHeartbeats 4000000 in
set_option maxRecDepth 100000 in
theorem rCalled_any {w : World} {Q : Nat → Prop} {p : Pg} {c0 c1 : Value} (h : ProgI w Q p [c0, c1]) (hsm : SmG p) (proc : ByteArray) (W : World) (hI : In Q w W) :
 Calls Tryz.prog 15 #[.agg #[c0, c1], .string proc] W (OrdRow (WrP p proc (CdRes p)) W) := by
 have HPc := Lib.hid (fun V hV => rProc_any h proc V hV)
 have HSc := Lib.hid (fun V hV => rScope_any h hsm V hV)
 have HIn := Lib.hid (fun (hok : ChOk p) (hc : chkOK p = true) q (hq : q ∈ p.procs) V hV => rcalled_any h hok hq V hV)
 obtain ⟨Ag, cg, Ap, cp, rfl, rfl, _⟩ := prog_open h
 have HI := Lib.hid hI
 have hff : ∀ (a c : Int) (w : World), (Instr.field 34 (.agg #[.int .i64 a, .int .i64 c]) 0).run Tryz.prog w = .ok (.int .i64 a) w := fun _ _ _ => by kernel_rfl
 have HCk : Hid (chkOK p = decide ((chkP p).1 = 0)) := Lib.hid rfl
 have HOk := Lib.hid (fun hc : chkOK p = true => ck_ok9 hc)
 clear h hI hsm
 generalize hr : procP p proc = r at HPc
 have HRr := Lib.hid hr
 clear hr
 obtain ⟨q, rb⟩ := r
 go_enter Tryz.func15, Tryz.ntmps15
 go_upto_region 1 with fail
 have HB0 : Hid (Below W.heap.size W (W.alloc (.cells #[.slice Ag p.globals.length cg, .slice Ap p.procs.length cp] 25))) := Lib.hid (below_box _)
 have HBp0 : Hid (Blk (W.alloc (.cells #[.slice Ag p.globals.length cg, .slice Ap p.procs.length cp] 25)) W.heap.size 25 #[.slice Ag p.globals.length cg, .slice Ap p.procs.length cp]) := Lib.hid (Blk.new _ _ _)
 generalize World.alloc _ _ = W0 at HB0 HBp0 ⊢
 have HI0 := Lib.hid (HI.out.on HB0.out)
 generalize hbe : W.heap.size = b at HBp0 ⊢
 clear hbe
 have q0 : W0.cell? ⟨b, 0, none⟩ = some (.slice Ag p.globals.length cg) := by rw [HBp0.out.cell]; rfl
 have q1 : W0.cell? ⟨b, 1, none⟩ = some (.slice Ap p.procs.length cp) := by rw [HBp0.out.cell]; rfl
 go_upto_region 2 with (go_at_call 43; refine (HPc.out W0 HI0.out).mono ?_; rintro e' W6 ⟨d0, d1, d2, d3, d4, rfl, hb1, hp1⟩; have HPq := Lib.hid hp1; obtain ⟨vp, vv, vb, ve, hc, hn', hpp, hvv, hbb, hee⟩ := hp1; simp only [List.cons.injEq, and_true] at hc; obtain ⟨rfl, rfl, rfl, rfl, rfl⟩ := hc; obtain ⟨M1, k1, rfl, _, _⟩ := hpp.shape; obtain ⟨M2, k2, rfl, _, _⟩ := hvv.shape; obtain ⟨M3, k3, rfl, _⟩ := hbb.shape; obtain ⟨M4, k4, rfl, _⟩ := hee.shape; clear hn' hpp hvv hbb hee)
 (try simp only at HPq ⊢)
 have HB6 : Hid (Below W.heap.size W (W6.alloc (.cells #[.string q.nm, .slice M1 q.params.length k1, .slice M2 q.vars.length k2, .slice M3 q.body.length k3, .slice M4 q.end_.length k4] 39))) := Lib.hid (below_step HB0.out (below_stepA hb1 _))
 have HBp6 : Hid (Blk (W6.alloc (.cells #[.string q.nm, .slice M1 q.params.length k1, .slice M2 q.vars.length k2, .slice M3 q.body.length k3, .slice M4 q.end_.length k4] 39)) b 25 #[.slice Ag p.globals.length cg, .slice Ap p.procs.length cp]) := Lib.hid ((HBp0.out.below hb1 HBp0.out.lt).alloc _)
 clear hb1 q0 q1 HPc HBp0 HI0 HB0 HPq
 generalize World.alloc W6 _ = V6 at HB6 HBp6 ⊢
 have HI6 := Lib.hid (HI.out.on HB6.out)
 have q0 : V6.cell? ⟨b, 0, none⟩ = some (.slice Ag p.globals.length cg) := by rw [HBp6.out.cell]; rfl
 have q1 : V6.cell? ⟨b, 1, none⟩ = some (.slice Ap p.procs.length cp) := by rw [HBp6.out.cell]; rfl
 have hbl := HBp6.out.lt
 cases rb with
 | false =>
  go_wp2_with fail
  go_ret
  exact ⟨[], _, rfl, World.ownsRow_nil _ _ _ _, HB6.out, .inl ⟨fun h => (by rw [HRr.out] at h; cases h.1), rfl⟩⟩
 | true =>
  generalize hcr : chkP p = cr at HSc HCk
  clear hcr
  obtain ⟨rc, ri⟩ := cr
  simp only at HCk
  by_cases hr : rc = 0
  ·subst hr
   have HCk := Lib.hid (show chkOK p = true from HCk.out)
   obtain ⟨hqm, hqn⟩ := procP_in2 HRr.out
   have HF := Lib.hid (fun V hV => HIn.out (HOk.out HCk.out) HCk.out q hqm V hV)
   subst hqn
   have HCd : Hid ((procP p q.nm).2 = true ∧ chkOK p = true) := Lib.hid ⟨by rw [HRr.out], HCk.out⟩
   have HQm := Lib.hid hqm
   clear hqm HIn HOk HRr
   go_upto_region 4 with (go_at_call 44; refine (HSc.out V6 HI6.out).mono ?_; rintro e' W7 ⟨rfl, hb7⟩)
   have HB7 := Lib.hid (below_step HB6.out hb7)
   have HI7 := Lib.hid (HI6.out.on hb7)
   have HBp7 := Lib.hid (HBp6.out.below hb7 hbl)
   clear q0 q1 hb7 HB6 HI6 HBp6 HSc hff hbl
   have q0 : W7.cell? ⟨b, 0, none⟩ = some (.slice Ag p.globals.length cg) := by rw [HBp7.out.cell]; rfl
   have q1 : W7.cell? ⟨b, 1, none⟩ = some (.slice Ap p.procs.length cp) := by rw [HBp7.out.cell]; rfl
   go_wp2_with (go_at_call 47; refine (HF.out W7 HI7.out).mono ?_; rintro e' W8 ⟨l8, v8, rfl, ho8, hb8, hr8⟩; have HO8 := Lib.hid ho8; have HR8 := Lib.hid hr8; clear ho8 hr8)
   go_ret
   exact ⟨l8, v8, rfl, own_lower HO8.out HB7.out.size, below_step HB7.out hb8, .inr ⟨HCd.out, q, HQm.out, rfl, HR8.out⟩⟩
  ·have hr1 : (rc == 0) = false := beq_eq_false_iff_ne.2 hr
   have hr2 : (rc != 0) = true := by simp [bne, hr1]
   have HCn : Hid (¬ chkOK p = true) := Lib.hid (by rw [HCk.out]; simpa using hr)
   clear hr HCk
   go_wp2_with (go_at_call 44; refine (HSc.out V6 HI6.out).mono ?_; rintro e' W7 ⟨rfl, hb7⟩)
   go_ret
   exact ⟨[], _, rfl, World.ownsRow_nil _ _ _ _, below_step HB6.out hb7, .inl ⟨fun h => HCn.out h.2, rfl⟩⟩
set_option maxHeartbeats 4000000 in
set_option maxRecDepth 100000 in
theorem rTouched_any {w : World} {Q : Nat → Prop} {p : Pg} {c0 c1 : Value} (h : ProgI w Q p [c0, c1]) (hsm : SmG p) (hs1 : chkOK p = true → ∀ f ∈ p.procs, ∀ s ∈ preSL f.body, (saidS s).length ≤ 20000) (hs2 : chkOK p = true → ∀ f ∈ p.procs, (saidOf (preSL f.body)).length ≤ 10000000) (proc : ByteArray) (W : World) (hI : In Q w W) :
 Calls Tryz.prog 17 #[.agg #[c0, c1], .string proc] W (OrdRow (WrP p proc (TdRes p)) W) := by
 have HPc := Lib.hid (fun V hV => rProc_any h proc V hV)
 have HSc := Lib.hid (fun V hV => rScope_any h hsm V hV)
 have HIn := Lib.hid (fun (hok : ChOk p) (hc : chkOK p = true) q (hq : q ∈ p.procs) V hV => rtouched_any h hok (hs1 hc) (hs2 hc) hq V hV)
 obtain ⟨Ag, cg, Ap, cp, rfl, rfl, _⟩ := prog_open h
 have HI := Lib.hid hI
 have hff : ∀ (a c : Int) (w : World), (Instr.field 34 (.agg #[.int .i64 a, .int .i64 c]) 0).run Tryz.prog w = .ok (.int .i64 a) w := fun _ _ _ => by kernel_rfl
 have HCk : Hid (chkOK p = decide ((chkP p).1 = 0)) := Lib.hid rfl
 have HOk := Lib.hid (fun hc : chkOK p = true => ck_ok9 hc)
 clear h hI hsm
 generalize hr : procP p proc = r at HPc
 have HRr := Lib.hid hr
 clear hr
 obtain ⟨q, rb⟩ := r
 go_enter Tryz.func17, Tryz.ntmps17
 go_upto_region 1 with fail
 have HB0 : Hid (Below W.heap.size W (W.alloc (.cells #[.slice Ag p.globals.length cg, .slice Ap p.procs.length cp] 25))) := Lib.hid (below_box _)
 have HBp0 : Hid (Blk (W.alloc (.cells #[.slice Ag p.globals.length cg, .slice Ap p.procs.length cp] 25)) W.heap.size 25 #[.slice Ag p.globals.length cg, .slice Ap p.procs.length cp]) := Lib.hid (Blk.new _ _ _)
 generalize World.alloc _ _ = W0 at HB0 HBp0 ⊢
 have HI0 := Lib.hid (HI.out.on HB0.out)
 generalize hbe : W.heap.size = b at HBp0 ⊢
 clear hbe
 have q0 : W0.cell? ⟨b, 0, none⟩ = some (.slice Ag p.globals.length cg) := by rw [HBp0.out.cell]; rfl
 have q1 : W0.cell? ⟨b, 1, none⟩ = some (.slice Ap p.procs.length cp) := by rw [HBp0.out.cell]; rfl
 go_upto_region 2 with (go_at_call 43; refine (HPc.out W0 HI0.out).mono ?_; rintro e' W6 ⟨d0, d1, d2, d3, d4, rfl, hb1, hp1⟩; have HPq := Lib.hid hp1; obtain ⟨vp, vv, vb, ve, hc, hn', hpp, hvv, hbb, hee⟩ := hp1; simp only [List.cons.injEq, and_true] at hc; obtain ⟨rfl, rfl, rfl, rfl, rfl⟩ := hc; obtain ⟨M1, k1, rfl, _, _⟩ := hpp.shape; obtain ⟨M2, k2, rfl, _, _⟩ := hvv.shape; obtain ⟨M3, k3, rfl, _⟩ := hbb.shape; obtain ⟨M4, k4, rfl, _⟩ := hee.shape; clear hn' hpp hvv hbb hee)
 (try simp only at HPq ⊢)
 have HB6 : Hid (Below W.heap.size W (W6.alloc (.cells #[.string q.nm, .slice M1 q.params.length k1, .slice M2 q.vars.length k2, .slice M3 q.body.length k3, .slice M4 q.end_.length k4] 39))) := Lib.hid (below_step HB0.out (below_stepA hb1 _))
 have HBp6 : Hid (Blk (W6.alloc (.cells #[.string q.nm, .slice M1 q.params.length k1, .slice M2 q.vars.length k2, .slice M3 q.body.length k3, .slice M4 q.end_.length k4] 39)) b 25 #[.slice Ag p.globals.length cg, .slice Ap p.procs.length cp]) := Lib.hid ((HBp0.out.below hb1 HBp0.out.lt).alloc _)
 clear hb1 q0 q1 HPc HBp0 HI0 HB0 HPq
 generalize World.alloc W6 _ = V6 at HB6 HBp6 ⊢
 have HI6 := Lib.hid (HI.out.on HB6.out)
 have q0 : V6.cell? ⟨b, 0, none⟩ = some (.slice Ag p.globals.length cg) := by rw [HBp6.out.cell]; rfl
 have q1 : V6.cell? ⟨b, 1, none⟩ = some (.slice Ap p.procs.length cp) := by rw [HBp6.out.cell]; rfl
 have hbl := HBp6.out.lt
 cases rb with
 | false =>
  go_wp2_with fail
  go_ret
  exact ⟨[], _, rfl, World.ownsRow_nil _ _ _ _, HB6.out, .inl ⟨fun h => (by rw [HRr.out] at h; cases h.1), rfl⟩⟩
 | true =>
  generalize hcr : chkP p = cr at HSc HCk
  clear hcr
  obtain ⟨rc, ri⟩ := cr
  simp only at HCk
  by_cases hr : rc = 0
  ·subst hr
   have HCk := Lib.hid (show chkOK p = true from HCk.out)
   obtain ⟨hqm, hqn⟩ := procP_in2 HRr.out
   have HF := Lib.hid (fun V hV => HIn.out (HOk.out HCk.out) HCk.out q hqm V hV)
   subst hqn
   have HCd : Hid ((procP p q.nm).2 = true ∧ chkOK p = true) := Lib.hid ⟨by rw [HRr.out], HCk.out⟩
   have HQm := Lib.hid hqm
   clear hqm HIn HOk HRr
   go_upto_region 4 with (go_at_call 44; refine (HSc.out V6 HI6.out).mono ?_; rintro e' W7 ⟨rfl, hb7⟩)
   have HB7 := Lib.hid (below_step HB6.out hb7)
   have HI7 := Lib.hid (HI6.out.on hb7)
   have HBp7 := Lib.hid (HBp6.out.below hb7 hbl)
   clear q0 q1 hb7 HB6 HI6 HBp6 HSc hff hbl
   have q0 : W7.cell? ⟨b, 0, none⟩ = some (.slice Ag p.globals.length cg) := by rw [HBp7.out.cell]; rfl
   have q1 : W7.cell? ⟨b, 1, none⟩ = some (.slice Ap p.procs.length cp) := by rw [HBp7.out.cell]; rfl
   go_wp2_with (go_at_call 51; refine (HF.out W7 HI7.out).mono ?_; rintro e' W8 ⟨l8, v8, rfl, ho8, hb8, hr8⟩; have HO8 := Lib.hid ho8; have HR8 := Lib.hid hr8; clear ho8 hr8)
   go_ret
   exact ⟨l8, v8, rfl, own_lower HO8.out HB7.out.size, below_step HB7.out hb8, .inr ⟨HCd.out, q, HQm.out, rfl, HR8.out⟩⟩
  ·have hr1 : (rc == 0) = false := beq_eq_false_iff_ne.2 hr
   have hr2 : (rc != 0) = true := by simp [bne, hr1]
   have HCn : Hid (¬ chkOK p = true) := Lib.hid (by rw [HCk.out]; simpa using hr)
   clear hr HCk
   go_wp2_with (go_at_call 44; refine (HSc.out V6 HI6.out).mono ?_; rintro e' W7 ⟨rfl, hb7⟩)
   go_ret
   exact ⟨[], _, rfl, World.ownsRow_nil _ _ _ _, below_step HB6.out hb7, .inl ⟨fun h => HCn.out h.2, rfl⟩⟩
end Go.Proofs.YtimejkbmfbjomaaGreat
