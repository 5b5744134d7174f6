/- Scope, the reference: Proc, Kind (whittlerref6). -/
import Derived.Test.YtkbjlnmdlolhiaaTreeS5
namespace Go.Proofs.Ytkbjlnmdlolhiaa
open Go.ChangeShapes Go.WideShapes Go.ChangeAt Go.RowKit Go.Deep
set_option linter.unusedVariables false
set_option linter.unusedSimpArgs false
def PcIn (w : World) (Q : Nat → Prop) (r : Pr × Bool) (W : World) (e : Ending) (w' : World) : Prop := ∃ d0 d1 d2 d3 d4, e = .returned (.tuple #[.agg #[d0, d1, d2, d3, d4], .bool r.2]) ∧ Below W.heap.size W w' ∧ ProcI w Q r.1 [d0, d1, d2, d3, d4]
set_option maxHeartbeats 2000000 in
set_option maxRecDepth 100000 in
theorem rProc_any {w : World} {Q : Nat → Prop} {p : Pg} {c0 c1 : Value} (h : ProgI w Q p [c0, c1]) (nm : ByteArray) (W : World) (hI : In Q w W) :
  Calls Try.prog 36 #[.agg #[c0, c1], .string nm] W (PcIn w Q (procP p nm) W) := by
 have HM := Lib.hid (fun V hV => rMay_any h V hV)
 obtain ⟨Ag, cg, Ap, cp, rfl, rfl, _, _, _, _, hgl, hpr⟩ := prog_open h
 have HP := Lib.hid hpr
 have HI := Lib.hid hI
 have HK : Hid (procP p nm = if mayP p = true then (p.procs.find? (isQ nm)).elim (P0, false) (fun q => (q, true)) else (P0, false)) := Lib.hid rfl
 clear h hI hpr hgl
 go_enter Try.func36, Try.ntmps36
 go_upto_region 1 with fail
 have HB0 : Hid (Below W.heap.size W ((W.alloc (.cells #[.slice Ag p.globals.length cg, .slice Ap p.procs.length cp] 25)).alloc (.cells zP 47))) := Lib.hid (below_two _ _)
 have HBp : Hid (Blk ((W.alloc (.cells #[.slice Ag p.globals.length cg, .slice Ap p.procs.length cp] 25)).alloc (.cells zP 47)) W.heap.size 25 #[.slice Ag p.globals.length cg, .slice Ap p.procs.length cp]) := Lib.hid ((Blk.new _ _ _).alloc _)
 have HBz : Hid (Blk ((W.alloc (.cells #[.slice Ag p.globals.length cg, .slice Ap p.procs.length cp] 25)).alloc (.cells zP 47)) (W.heap.size + 1) 47 zP) := Lib.hid (by have := Blk.new (W.alloc (.cells #[.slice Ag p.globals.length cg, .slice Ap p.procs.length cp] 25)) 47 zP; rw [World.size_alloc] at this; exact this)
 generalize World.alloc _ _ = V at HB0 HBp HBz ⊢
 have HI0 := Lib.hid (HI.out.on HB0.out)
 have q0 : V.cell? ⟨W.heap.size, 0, none⟩ = some (.slice Ag p.globals.length cg) := by rw [HBp.out.cell]; rfl
 have q1 : V.cell? ⟨W.heap.size, 1, none⟩ = some (.slice Ap p.procs.length cp) := by rw [HBp.out.cell]; rfl
 have hbl := HBp.out.lt
 cases hm : mayP p with
 | false =>
  rw [hm] at HM HK
  rw [if_neg (by decide)] at HK
  clear hm
  go_upto_region 8 with (go_at_call 18; refine (HM.out V HI0.out).mono ?_; rintro e W5 ⟨rfl, hb1⟩)
  have HB5 := Lib.hid (below_step HB0.out hb1)
  have HBz5 := Lib.hid (HBz.out.below hb1 HBz.out.lt)
  clear q0 q1 hbl hb1
  have y0 : W5.cell? ⟨W.heap.size + 1, 0, none⟩ = some (.string ⟨#[]⟩) := by rw [HBz5.out.cell]; rfl
  have y1 : W5.cell? ⟨W.heap.size + 1, 1, none⟩ = some (.slice none 0 0) := by rw [HBz5.out.cell]; rfl
  have y2 : W5.cell? ⟨W.heap.size + 1, 2, none⟩ = some (.slice none 0 0) := by rw [HBz5.out.cell]; rfl
  have y3 : W5.cell? ⟨W.heap.size + 1, 3, none⟩ = some (.slice none 0 0) := by rw [HBz5.out.cell]; rfl
  have y4 : W5.cell? ⟨W.heap.size + 1, 4, none⟩ = some (.slice none 0 0) := by rw [HBz5.out.cell]; rfl
  have f0 := HBz5.out.frozen 0
  have f1 := HBz5.out.frozen 1
  have f2 := HBz5.out.frozen 2
  have f3 := HBz5.out.frozen 3
  have f4 := HBz5.out.frozen 4
  have hzl := HBz5.out.lt
  go_wp2_with fail
  (try simp only [Exit.inBlock, Exit.then])
  refine bodyPost_ret (results_ct rfl _ _ (W.heap.size + 1) 47 _ (0, 0) _ rfl (pc5_blk HBz5.out) Try.underlying47 rfl (by kernel_rfl)) rfl ?_
  rw [HK.out]
  exact ⟨_, _, _, _, _, rfl, pc5_below HB5.out (by omega), zero_proc _ _⟩
 | true =>
  rw [hm] at HM HK
  rw [if_pos rfl] at HK
  clear hm
  go_upto_region 2 with (go_at_call 18; refine (HM.out V HI0.out).mono ?_; rintro e W5 ⟨rfl, hb1⟩)
  have HB5 := Lib.hid (below_step HB0.out hb1)
  have HI5 := Lib.hid (HI0.out.on hb1)
  have HBz5 := Lib.hid (HBz.out.below hb1 HBz.out.lt)
  have q1' : W5.cell? ⟨W.heap.size, 1, none⟩ = some (.slice Ap p.procs.length cp) := (hb1.cell (p := ⟨W.heap.size, 1, none⟩) hbl).trans q1
  clear q0 q1 hbl hb1 HBp HBz HB0 HI0
  go_upto_region 3 with fail
  clear q1'
  go_loopw [13] (fun iv wr => ∃ (k : Nat), k ≤ p.procs.length ∧ iv = .int .i64 k ∧ Hid ((p.procs.drop k).find? (isQ nm) = p.procs.find? (isQ nm)) ∧ Hid (Below W5.heap.size W5 wr)) (fun iv _ => p.procs.length - (intOf iv).toNat)
  case atStart => exact ⟨0, Nat.zero_le _, rfl, Lib.hid (by rw [List.drop_zero]), Lib.hid (Below.refl _ _)⟩
  case round =>
   obtain ⟨k, hk, rfl, HW, HR⟩ := hrel
   have HIr := Lib.hid (HI5.out.on HR.out)
   have HBW := Lib.hid (below_step HB5.out HR.out)
   have HBzr := Lib.hid (HBz5.out.below HR.out HBz5.out.lt)
   by_cases hlt : k < p.procs.length
   ·obtain ⟨a, Bp, kp, Bv, kv, Bb, kb, Be, ke, rfl, hqa, hrow, hnm, hpp, hvv, hbody, hee⟩ := proc_at HP.out HIr.out hlt
    have HPI : Hid (ProcI w Q p.procs[k] [.string p.procs[k].nm, .slice Bp p.procs[k].params.length kp, .slice Bv p.procs[k].vars.length kv, .slice Bb p.procs[k].body.length kb, .slice Be p.procs[k].end_.length ke]) := Lib.hid ⟨_, _, _, _, rfl, hnm, hpp, hvv, hbody, hee⟩
    have HD := HW.out
    rw [List.drop_eq_getElem_cons hlt, List.find?_cons] at HD
    have hv := isQ_eq nm p.procs[k]
    have hb' : ∃ b, isQ nm p.procs[k] = b := ⟨_, rfl⟩
    obtain ⟨b, hb⟩ := hb'
    rw [hb] at HD hv
    clear hb hnm hpp hvv hbody hee
    generalize hqq : p.procs[k] = qq at hrow HPI HD hv
    clear hqq
    generalize qq.nm = qn at hrow HPI hv
    generalize qq.params.length = x1 at hrow HPI
    generalize qq.vars.length = x2 at hrow HPI
    generalize qq.body.length = x3 at hrow HPI
    generalize qq.end_.length = x4 at hrow HPI
    obtain ⟨p0, p1, p2, p3, p4, _⟩ := hrow
    clear HW
    go_upto_region 5 with fail
    have HBq : Hid (Blk (wr.alloc (.cells #[.string qn, .slice Bp x1 kp, .slice Bv x2 kv, .slice Bb x3 kb, .slice Be x4 ke] 47)) wr.heap.size 47 #[.string qn, .slice Bp x1 kp, .slice Bv x2 kv, .slice Bb x3 kb, .slice Be x4 ke]) := Lib.hid (Blk.new _ _ _)
    have HBo : Hid (Below wr.heap.size wr (wr.alloc (.cells #[.string qn, .slice Bp x1 kp, .slice Bv x2 kv, .slice Bb x3 kb, .slice Be x4 ke] 47))) := Lib.hid (below_box _)
    clear p0 p1 p2 p3 p4
    generalize hW6 : World.alloc wr _ = W6 at HBq HBo ⊢
    clear hW6
    have HBzq := Lib.hid (HBzr.out.below HBo.out HBzr.out.lt)
    have HB6 := Lib.hid (below_step HBW.out HBo.out)
    have HR6 := Lib.hid (below_step HR.out HBo.out)
    have hne : wr.heap.size ≠ W.heap.size + 1 := by have := HBzr.out.lt; omega
    generalize wr.heap.size = bq at HBq hne ⊢
    have z0 : W6.cell? ⟨bq, 0, none⟩ = some (.string qn) := by rw [HBq.out.cell]; rfl
    have z1 : W6.cell? ⟨bq, 1, none⟩ = some (.slice Bp x1 kp) := by rw [HBq.out.cell]; rfl
    have z2 : W6.cell? ⟨bq, 2, none⟩ = some (.slice Bv x2 kv) := by rw [HBq.out.cell]; rfl
    have z3 : W6.cell? ⟨bq, 3, none⟩ = some (.slice Bb x3 kb) := by rw [HBq.out.cell]; rfl
    have z4 : W6.cell? ⟨bq, 4, none⟩ = some (.slice Be x4 ke) := by rw [HBq.out.cell]; rfl
    cases b with
    | true =>
     simp only at HD
     rw [← HD, Option.elim_some] at HK
     have y0 : W6.cell? ⟨W.heap.size + 1, 0, none⟩ = some (.string ⟨#[]⟩) := by rw [HBzq.out.cell]; rfl
     have y1 : W6.cell? ⟨W.heap.size + 1, 1, none⟩ = some (.slice none 0 0) := by rw [HBzq.out.cell]; rfl
     have y2 : W6.cell? ⟨W.heap.size + 1, 2, none⟩ = some (.slice none 0 0) := by rw [HBzq.out.cell]; rfl
     have y3 : W6.cell? ⟨W.heap.size + 1, 3, none⟩ = some (.slice none 0 0) := by rw [HBzq.out.cell]; rfl
     have y4 : W6.cell? ⟨W.heap.size + 1, 4, none⟩ = some (.slice none 0 0) := by rw [HBzq.out.cell]; rfl
     have f0 := HBzq.out.frozen 0
     have f1 := HBzq.out.frozen 1
     have f2 := HBzq.out.frozen 2
     have f3 := HBzq.out.frozen 3
     have f4 := HBzq.out.frozen 4
     have hzl := HBzq.out.lt
     have hv2 := hv.symm
     clear hv HD
     go_wp2_with fail
     (try simp only [Exit.inBlock, Exit.then])
     refine bodyPost_ret (results_ct rfl _ _ (W.heap.size + 1) 47 _ (0, 0) _ rfl (pc5_blk HBzq.out) Try.underlying47 rfl (by kernel_rfl)) rfl ?_
     rw [HK.out]
     exact ⟨_, _, _, _, _, rfl, pc5_below HB6.out (by omega), HPI.out⟩
    | false =>
     simp only at HD
     have HD := Lib.hid HD
     have hv2 := hv.symm
     clear hv
     go_wp2_with fail
     go_roundw
     case rel => exact ⟨k + 1, by omega, by go_num, HD, HR6⟩
     case measure => simp [intOf]; omega
   ·have hn := HW.out
    rw [List.drop_of_length_le (by omega), List.find?_nil] at hn
    rw [← hn, Option.elim_none] at HK
    clear hn HW
    have y0 : wr.cell? ⟨W.heap.size + 1, 0, none⟩ = some (.string ⟨#[]⟩) := by rw [HBzr.out.cell]; rfl
    have y1 : wr.cell? ⟨W.heap.size + 1, 1, none⟩ = some (.slice none 0 0) := by rw [HBzr.out.cell]; rfl
    have y2 : wr.cell? ⟨W.heap.size + 1, 2, none⟩ = some (.slice none 0 0) := by rw [HBzr.out.cell]; rfl
    have y3 : wr.cell? ⟨W.heap.size + 1, 3, none⟩ = some (.slice none 0 0) := by rw [HBzr.out.cell]; rfl
    have y4 : wr.cell? ⟨W.heap.size + 1, 4, none⟩ = some (.slice none 0 0) := by rw [HBzr.out.cell]; rfl
    have f0 := HBzr.out.frozen 0
    have f1 := HBzr.out.frozen 1
    have f2 := HBzr.out.frozen 2
    have f3 := HBzr.out.frozen 3
    have f4 := HBzr.out.frozen 4
    have hzl := HBzr.out.lt
    go_wp2_with fail
    (try simp only [Exit.inBlock, Exit.then])
    refine bodyPost_ret (results_ct rfl _ _ (W.heap.size + 1) 47 _ (0, 0) _ rfl (pc5_blk HBzr.out) Try.underlying47 rfl (by kernel_rfl)) rfl ?_
    rw [HK.out]
    exact ⟨_, _, _, _, _, rfl, pc5_below HBW.out (by omega), zero_proc _ _⟩
end Go.Proofs.Ytkbjlnmdlolhiaa
