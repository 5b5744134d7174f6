/- Scope: a procedure by its name: Proc (scope). -/
import Derived.Test.YtkbjlnmdlolhiaaTreeS3
import Derived.Test.YtkbjlnmdlolhiaaTreeN8
namespace Go.Proofs.Ytkbjlnmdlolhiaa
open Go.ChangeShapes Go.WideShapes Go.ChangeAt Go.RowKit Go.Deep
set_option linter.unusedVariables false
set_option linter.unusedSimpArgs false
abbrev zP : Array Value := #[.string ⟨#[]⟩, .slice none 0 0, .slice none 0 0, .slice none 0 0, .slice none 0 0]
def P0 : Pr := ⟨⟨#[]⟩, [], [], [], []⟩
theorem zero_proc (w : World) (Q : Nat → Prop) : ProcI w Q P0 [.string ⟨#[]⟩, .slice none 0 0, .slice none 0 0, .slice none 0 0, .slice none 0 0] := ⟨_, _, _, _, rfl, by decide, nil_slice, nil_slice, nil_slice, nil_slice⟩
theorem pc5_blk {w : World} {b : Nat} {d0 d1 d2 d3 d4 : Value} (h : Blk w b 47 zP) : Blk (World.setCell (World.setCell (World.setCell (World.setCell (World.setCell w ⟨b, 0, none⟩ d0) ⟨b, 1, none⟩ d1) ⟨b, 2, none⟩ d2) ⟨b, 3, none⟩ d3) ⟨b, 4, none⟩ d4) b 47 #[d0, d1, d2, d3, d4] := by
 have := ((((h.set_ 0 d0).set_ 1 d1).set_ 2 d2).set_ 3 d3).set_ 4 d4
 simp only [List.setIfInBounds_toArray, List.set_cons_zero, List.set_cons_succ] at this
 exact this
theorem pc5_cell {w : World} {b : Nat} {d0 d1 d2 d3 d4 : Value} {p : Addr} (h : p.block ≠ b) : World.cell? (World.setCell (World.setCell (World.setCell (World.setCell (World.setCell w ⟨b, 0, none⟩ d0) ⟨b, 1, none⟩ d1) ⟨b, 2, none⟩ d2) ⟨b, 3, none⟩ d3) ⟨b, 4, none⟩ d4) p = w.cell? p := by
 have hne : ∀ j, p ≠ ⟨b, j, none⟩ := fun j e => h (by rw [e])
 rw [cell_set_ne _ (hne _), cell_set_ne _ (hne _), cell_set_ne _ (hne _), cell_set_ne _ (hne _), cell_set_ne _ (hne _)]
theorem pc5_size {w : World} {b : Nat} {d0 d1 d2 d3 d4 : Value} : (World.heap (World.setCell (World.setCell (World.setCell (World.setCell (World.setCell w ⟨b, 0, none⟩ d0) ⟨b, 1, none⟩ d1) ⟨b, 2, none⟩ d2) ⟨b, 3, none⟩ d3) ⟨b, 4, none⟩ d4)).size = w.heap.size := by simp
theorem pc5_below {B : Nat} {a w : World} {b : Nat} {d0 d1 d2 d3 d4 : Value} (h : Below B a w) (hb : B ≤ b) : Below B a (World.setCell (World.setCell (World.setCell (World.setCell (World.setCell w ⟨b, 0, none⟩ d0) ⟨b, 1, none⟩ d1) ⟨b, 2, none⟩ d2) ⟨b, 3, none⟩ d3) ⟨b, 4, none⟩ d4) := below_setc (below_setc (below_setc (below_setc (below_setc h hb _) hb _) hb _) hb _) hb _
theorem results_ct {P : Program} {fn : Func} {p u : Tmp} {ty : TypeId} (h : fn.results = #[.cell p ty, .tmp u]) (tmps : Array Value) (w : World) (g : Nat) (tt : TypeId) (cs : Array Value) (fr : Nat × Nat) (d : TypeDesc)
  (hp : tmps.getD p undef = .pointer (some ⟨g, 0, none⟩)) (hg : w.heap[g]? = some (.cells cs tt fr))
  (hu : P.underlying ty = some d) (hd : (match d with | .struct _ | .array _ _ => true | _ => false) = true) (hi : (P.info? ty).map (·.size) = some cs.size) :
  (results fn tmps).run P w = .ok (.tuple #[.agg cs, tmps.getD u undef]) w := by
 have hp' : tmps[p]?.getD undef = .pointer (some ⟨g, 0, none⟩) := by simpa using hp
 simp [results, h, hp', asAddr, run_loadVar_row w g tt ty cs fr d hg hu hd hi]
def procP (p : Pg) (nm : ByteArray) : Pr × Bool := if mayP p = true then (p.procs.find? (isQ nm)).elim (P0, false) (fun q => (q, true)) else (P0, false)
def PcRes (r : Pr × Bool) (W : World) (e : Ending) (w' : World) : Prop := ∃ d0 d1 d2 d3 d4, e = .returned (.tuple #[.agg #[d0, d1, d2, d3, d4], .bool r.2]) ∧ Below W.heap.size W w' ∧ ProcI w' (fun b => W.heap.size ≤ b ∧ b < w'.heap.size) r.1 [d0, d1, d2, d3, d4]
set_option maxHeartbeats 2000000 in
set_option maxRecDepth 100000 in
theorem Proc_any {w : World} {Q : Nat → Prop} {p : Pg} {c0 c1 : Value} (h : ProgI w Q p [c0, c1]) (hsm : SmG p) (nm : ByteArray) (W : World) (hI : In Q w W) :
  Calls Try.prog 35 #[.agg #[c0, c1], .string nm] W (PcRes (procP p nm) W) := by
 have HF := Lib.hid (fun V hV => find_any h nm V hV)
 have HN := Lib.hid (fun V hV hm => U.Number_any (W := V) h hV hsm hm)
 obtain ⟨Ag, cg, Ap, cp, rfl, rfl, _, _, _, _, hgl, hpr⟩ := prog_open h
 have HI := Lib.hid hI
 have hfd : (fndP p nm = -1 ∧ procP p nm = (P0, false)) ∨ ∃ j, ∃ hj : j < p.procs.length, fndP p nm = ((j : Nat) : Int) ∧ procP p nm = (p.procs[j], true) ∧ mayP p = true := by
  unfold fndP procP
  by_cases hm : mayP p = true
  ·rw [if_pos hm, if_pos hm]
   rcases idxL_get (isQ nm) p.procs 0 with ⟨h1, h2⟩ | ⟨j, hj, h1, _, h3⟩
   ·exact .inl ⟨h1, by rw [h2]; rfl⟩
   ·exact .inr ⟨j, hj, by rw [h1, Nat.zero_add], by rw [h3]; rfl, hm⟩
  ·rw [if_neg hm, if_neg hm]
   exact .inl ⟨rfl, rfl⟩
 clear h hI hpr hgl hsm
 generalize fndP p nm = z at HF hfd
 go_enter Try.func35, Try.ntmps35
 go_upto_region 1 with fail
 have HB0 : Hid (Below W.heap.size W ((W.alloc (.cells #[.slice Ag p.globals.length cg, .slice Ap p.procs.length cp] 25)).alloc (.cells zP 47))) := Lib.hid (below_two _ _)
 have HBp : Hid (Blk ((W.alloc (.cells #[.slice Ag p.globals.length cg, .slice Ap p.procs.length cp] 25)).alloc (.cells zP 47)) W.heap.size 25 #[.slice Ag p.globals.length cg, .slice Ap p.procs.length cp]) := Lib.hid ((Blk.new _ _ _).alloc _)
 have HBz : Hid (Blk ((W.alloc (.cells #[.slice Ag p.globals.length cg, .slice Ap p.procs.length cp] 25)).alloc (.cells zP 47)) (W.heap.size + 1) 47 zP) := Lib.hid (by have := Blk.new (W.alloc (.cells #[.slice Ag p.globals.length cg, .slice Ap p.procs.length cp] 25)) 47 zP; rw [World.size_alloc] at this; exact this)
 generalize World.alloc _ _ = V at HB0 HBp HBz ⊢
 have HI0 := Lib.hid (HI.out.on HB0.out)
 have q0 : V.cell? ⟨W.heap.size, 0, none⟩ = some (.slice Ag p.globals.length cg) := by rw [HBp.out.cell]; rfl
 have q1 : V.cell? ⟨W.heap.size, 1, none⟩ = some (.slice Ap p.procs.length cp) := by rw [HBp.out.cell]; rfl
 have hbl := HBp.out.lt
 go_upto_region 2 with (go_at_call 79; refine (HF.out V HI0.out).mono ?_; rintro e w1 ⟨rfl, hb1⟩)
 have HB1 := Lib.hid (below_step HB0.out hb1)
 have HI1 := Lib.hid (HI0.out.on hb1)
 have HBp1 := Lib.hid (HBp.out.below hb1 hbl)
 have HBz1 := Lib.hid (HBz.out.below hb1 HBz.out.lt)
 clear q0 q1 hbl hb1 HB0 HBp HBz HI0 HF
 rcases hfd with ⟨rfl, hk⟩ | ⟨j, hj, rfl, hk, hm⟩
 ·have HK0 := Lib.hid hk
  clear hk
  have y0 : w1.cell? ⟨W.heap.size + 1, 0, none⟩ = some (.string ⟨#[]⟩) := by rw [HBz1.out.cell]; rfl
  have y1 : w1.cell? ⟨W.heap.size + 1, 1, none⟩ = some (.slice none 0 0) := by rw [HBz1.out.cell]; rfl
  have y2 : w1.cell? ⟨W.heap.size + 1, 2, none⟩ = some (.slice none 0 0) := by rw [HBz1.out.cell]; rfl
  have y3 : w1.cell? ⟨W.heap.size + 1, 3, none⟩ = some (.slice none 0 0) := by rw [HBz1.out.cell]; rfl
  have y4 : w1.cell? ⟨W.heap.size + 1, 4, none⟩ = some (.slice none 0 0) := by rw [HBz1.out.cell]; rfl
  have f0 := HBz1.out.frozen 0
  have f1 := HBz1.out.frozen 1
  have f2 := HBz1.out.frozen 2
  have f3 := HBz1.out.frozen 3
  have f4 := HBz1.out.frozen 4
  have hzl := HBz1.out.lt
  go_wp2_with fail
  (try simp only [Exit.inBlock, Exit.then])
  refine bodyPost_ret (results_ct rfl _ _ (W.heap.size + 1) 47 _ (0, 0) _ rfl (pc5_blk HBz1.out) Try.underlying47 rfl (by kernel_rfl)) rfl ?_
  rw [HK0.out]
  exact ⟨_, _, _, _, _, rfl, pc5_below HB1.out (by omega), zero_proc _ _⟩
 ·have HK0 := Lib.hid hk
  have HN1 := Lib.hid (fun V hV => HN.out V hV hm)
  have hfl : ∀ (A : Option Addr) (n c : Nat) (B : Option Addr) (m d : Nat) (w : World), (Instr.field 25 (.agg #[.slice A n c, .slice B m d]) 1).run Try.prog w = .ok (.slice B m d) w := fun _ _ _ _ _ _ _ => by kernel_rfl
  clear hk hm
  have q0 : w1.cell? ⟨W.heap.size, 0, none⟩ = some (.slice Ag p.globals.length cg) := by rw [HBp1.out.cell]; rfl
  have q1 : w1.cell? ⟨W.heap.size, 1, none⟩ = some (.slice Ap p.procs.length cp) := by rw [HBp1.out.cell]; rfl
  have hbl := HBp1.out.lt
  go_upto_region 4 with fail
  go_wp2_with (go_at_call 21; refine (HN1.out w1 HI1.out).mono ?_; rintro e w2 ⟨e0, e1, rfl, hb2, hpg⟩; obtain ⟨Bg, bg, Bp, bp, rfl, rfl, _, _, _, _, _, hbp⟩ := prog_open hpg; obtain ⟨a, Ep, kp, Ev, kv, Eb, kb, Ee, ke, rfl, hqa, hrow, hnm, hpp, hvv, hbody, hee⟩ := proc_at hbp (W := w2) ⟨fun b hb => hb.2.lt, fun _ _ => rfl⟩ hj; obtain ⟨p0, p1, p2, p3, p4, _⟩ := hrow; have HBz2 := Lib.hid (HBz1.out.below hb2 HBz1.out.lt); have y0 : w2.cell? ⟨W.heap.size + 1, 0, none⟩ = some (.string ⟨#[]⟩) := (by rw [HBz2.out.cell]; rfl); have y1 : w2.cell? ⟨W.heap.size + 1, 1, none⟩ = some (.slice none 0 0) := (by rw [HBz2.out.cell]; rfl); have y2 : w2.cell? ⟨W.heap.size + 1, 2, none⟩ = some (.slice none 0 0) := (by rw [HBz2.out.cell]; rfl); have y3 : w2.cell? ⟨W.heap.size + 1, 3, none⟩ = some (.slice none 0 0) := (by rw [HBz2.out.cell]; rfl); have y4 : w2.cell? ⟨W.heap.size + 1, 4, none⟩ = some (.slice none 0 0) := (by rw [HBz2.out.cell]; rfl); have f0 := HBz2.out.frozen 0; have f1 := HBz2.out.frozen 1; have f2 := HBz2.out.frozen 2; have f3 := HBz2.out.frozen 3; have f4 := HBz2.out.frozen 4; have hzl := HBz2.out.lt; have HPc : Hid (ProcI w2 (U.nw w1 w2) p.procs[j] [.string p.procs[j].nm, .slice Ep p.procs[j].params.length kp, .slice Ev p.procs[j].vars.length kv, .slice Eb p.procs[j].body.length kb, .slice Ee p.procs[j].end_.length ke]) := Lib.hid ⟨_, _, _, _, rfl, hnm, hpp, hvv, hbody, hee⟩; have HB2 := Lib.hid (below_step HB1.out hb2); have HB12 := Lib.hid hb2; clear hnm hpp hvv hbody hee hpg hbp hb2)
  (try simp only [Exit.inBlock, Exit.then])
  refine bodyPost_ret (results_ct rfl _ _ (W.heap.size + 1) 47 _ (0, 0) _ rfl (pc5_blk HBz2.out) Try.underlying47 rfl (by kernel_rfl)) rfl ?_
  rw [HK0.out]
  have hz1 := HBz1.out.lt
  refine ⟨_, _, _, _, _, rfl, pc5_below HB2.out (by omega), ?_⟩
  exact HPc.out.keep (fun b hb => ⟨Nat.le_trans HB1.out.size hb.1, by rw [pc5_size]; exact hb.2.lt⟩) (fun p hp => pc5_cell (by have := hp.1; omega))
end Go.Proofs.Ytkbjlnmdlolhiaa
