/- Texts, merged by a program; only what is used. -/
import Derived.Test.YtehpinnmalpgpaaK1
import Derived.Test.YtehpinnmalpgpaaK2
import Derived.Test.YtehpinnmalpgpaaK3
import Derived.Test.YtehpinnmalpgpaaK4
import Derived.Test.YtehpinnmalpgpaaK5
import Derived.Test.YtehpinnmalpgpaaK6
import Derived.Test.YtehpinnmalpgpaaK7
import Derived.Test.YtehpinnmalpgpaaK8
import Derived.Test.YtehpinnmalpgpaaK9
import Derived.Test.YtehpinnmalpgpaaK10
import Derived.Test.YtehpinnmalpgpaaK11
import Derived.Test.YtehpinnmalpgpaaK12
import Derived.Test.YtehpinnmalpgpaaK13
import Derived.Test.YtehpinnmalpgpaaK14
import Derived.Test.YtehpinnmalpgpaaK15
import Derived.Test.YtehpinnmalpgpaaK16
import Derived.Test.YtehpinnmalpgpaaK17
import Derived.Test.YtehpinnmalpgpaaK18
import Derived.Test.YtehpinnmalpgpaaK19
import Derived.Test.YtehpinnmalpgpaaK20
import Derived.Test.YtehpinnmalpgpaaK21
import Derived.Test.YtehpinnmalpgpaaK22
import Derived.Test.YtehpinnmalpgpaaK23
import Derived.Test.YtehpinnmalpgpaaK24
import Derived.Test.YtehpinnmalpgpaaKM1
import Derived.Test.YtehpinnmalpgpaaKM2
import Derived.Test.YtehpinnmalpgpaaKM3
import Derived.Test.YtehpinnmalpgpaaKM4
import Derived.Test.YtehpinnmalpgpaaKM5
import Derived.Test.YtehpinnmalpgpaaKM6
import Derived.Test.YtehpinnmalpgpaaKM7
import Derived.Test.YtehpinnmalpgpaaKM8
namespace Go.Proofs.Ytehpinnmalpgpaa
open Go.ChangeShapes Go.WideShapes Go.ChangeAt Go.RowKit Go.Deep
set_option linter.unusedVariables false
set_option linter.unusedSimpArgs false
abbrev zP : Array Value := #[.string ⟨#[]⟩, .slice none 0 0, .slice none 0 0, .slice none 0 0, .slice none 0 0]
def P0 : Pr := ⟨⟨#[]⟩, [], [], [], []⟩
theorem zero_proc (w : World) (Q : Nat → Prop) : ProcI w Q P0 [.string ⟨#[]⟩, .slice none 0 0, .slice none 0 0, .slice none 0 0, .slice none 0 0] := ⟨_, _, _, _, rfl, by decide, nil_slice, nil_slice, nil_slice, nil_slice⟩
theorem pc5_blk {w : World} {b : Nat} {d0 d1 d2 d3 d4 : Value} (h : Blk w b 45 zP) : Blk (World.setCell (World.setCell (World.setCell (World.setCell (World.setCell w ⟨b, 0, none⟩ d0) ⟨b, 1, none⟩ d1) ⟨b, 2, none⟩ d2) ⟨b, 3, none⟩ d3) ⟨b, 4, none⟩ d4) b 45 #[d0, d1, d2, d3, d4] := by
 have := ((((h.set_ 0 d0).set_ 1 d1).set_ 2 d2).set_ 3 d3).set_ 4 d4
 simp only [List.setIfInBounds_toArray, List.set_cons_zero, List.set_cons_succ] at this
 exact this
theorem pc5_cell {w : World} {b : Nat} {d0 d1 d2 d3 d4 : Value} {p : Addr} (h : p.block ≠ b) : World.cell? (World.setCell (World.setCell (World.setCell (World.setCell (World.setCell w ⟨b, 0, none⟩ d0) ⟨b, 1, none⟩ d1) ⟨b, 2, none⟩ d2) ⟨b, 3, none⟩ d3) ⟨b, 4, none⟩ d4) p = w.cell? p := by
 have hne : ∀ j, p ≠ ⟨b, j, none⟩ := fun j e => h (by rw [e])
 rw [cell_set_ne _ (hne _), cell_set_ne _ (hne _), cell_set_ne _ (hne _), cell_set_ne _ (hne _), cell_set_ne _ (hne _)]
theorem pc5_size {w : World} {b : Nat} {d0 d1 d2 d3 d4 : Value} : (World.heap (World.setCell (World.setCell (World.setCell (World.setCell (World.setCell w ⟨b, 0, none⟩ d0) ⟨b, 1, none⟩ d1) ⟨b, 2, none⟩ d2) ⟨b, 3, none⟩ d3) ⟨b, 4, none⟩ d4)).size = w.heap.size := by simp
theorem pc5_below {B : Nat} {a w : World} {b : Nat} {d0 d1 d2 d3 d4 : Value} (h : Below B a w) (hb : B ≤ b) : Below B a (World.setCell (World.setCell (World.setCell (World.setCell (World.setCell w ⟨b, 0, none⟩ d0) ⟨b, 1, none⟩ d1) ⟨b, 2, none⟩ d2) ⟨b, 3, none⟩ d3) ⟨b, 4, none⟩ d4) := below_setc (below_setc (below_setc (below_setc (below_setc h hb _) hb _) hb _) hb _) hb _
theorem results_ct {P : Program} {fn : Func} {p u : Tmp} {ty : TypeId} (h : fn.results = #[.cell p ty, .tmp u]) (tmps : Array Value) (w : World) (g : Nat) (tt : TypeId) (cs : Array Value) (fr : Nat × Nat) (d : TypeDesc)
  (hp : tmps.getD p undef = .pointer (some ⟨g, 0, none⟩)) (hg : w.heap[g]? = some (.cells cs tt fr))
  (hu : P.underlying ty = some d) (hd : (match d with | .struct _ | .array _ _ => true | _ => false) = true) (hi : (P.info? ty).map (·.size) = some cs.size) :
  (results fn tmps).run P w = .ok (.tuple #[.agg cs, tmps.getD u undef]) w := by
 have hp' : tmps[p]?.getD undef = .pointer (some ⟨g, 0, none⟩) := by simpa using hp
 simp [results, h, hp', asAddr, run_loadVar_row w g tt ty cs fr d hg hu hd hi]
def procP (p : Pg) (nm : ByteArray) : Pr × Bool := if mayP p = true then (p.procs.find? (isQ nm)).elim (P0, false) (fun q => (q, true)) else (P0, false)
def PcRes (r : Pr × Bool) (W : World) (e : Ending) (w' : World) : Prop := ∃ d0 d1 d2 d3 d4, e = .returned (.tuple #[.agg #[d0, d1, d2, d3, d4], .bool r.2]) ∧ Below W.heap.size W w' ∧ ProcI w' (fun b => W.heap.size ≤ b ∧ b < w'.heap.size) r.1 [d0, d1, d2, d3, d4]
set_option maxHeartbeats 2000000 in
set_option maxRecDepth 100000 in
theorem Proc_any {w : World} {Q : Nat → Prop} {p : Pg} {c0 c1 : Value} (h : ProgI w Q p [c0, c1]) (hsm : SmG p) (nm : ByteArray) (W : World) (hI : In Q w W) :
  Calls Try.prog 27 #[.agg #[c0, c1], .string nm] W (PcRes (procP p nm) W) := by
 have HF := Lib.hid (fun V hV => find_any h nm V hV)
 have HN := Lib.hid (fun V hV hm => U.Number_any (W := V) h hV hsm hm)
 obtain ⟨Ag, cg, Ap, cp, rfl, rfl, _, _, _, _, hgl, hpr⟩ := prog_open h
 have HI := Lib.hid hI
 have hfd : (fndP p nm = -1 ∧ procP p nm = (P0, false)) ∨ ∃ j, ∃ hj : j < p.procs.length, fndP p nm = ((j : Nat) : Int) ∧ procP p nm = (p.procs[j], true) ∧ mayP p = true := by
  unfold fndP procP
  by_cases hm : mayP p = true
  ·rw [if_pos hm, if_pos hm]
   rcases idxL_get (isQ nm) p.procs 0 with ⟨h1, h2⟩ | ⟨j, hj, h1, _, h3⟩
   ·exact .inl ⟨h1, by rw [h2]; rfl⟩
   ·exact .inr ⟨j, hj, by rw [h1, Nat.zero_add], by rw [h3]; rfl, hm⟩
  ·rw [if_neg hm, if_neg hm]
   exact .inl ⟨rfl, rfl⟩
 clear h hI hpr hgl hsm
 generalize fndP p nm = z at HF hfd
 go_enter Try.func27, Try.ntmps27
 go_upto_region 1 with fail
 have HB0 : Hid (Below W.heap.size W ((W.alloc (.cells #[.slice Ag p.globals.length cg, .slice Ap p.procs.length cp] 25)).alloc (.cells zP 45))) := Lib.hid (below_two _ _)
 have HBp : Hid (Blk ((W.alloc (.cells #[.slice Ag p.globals.length cg, .slice Ap p.procs.length cp] 25)).alloc (.cells zP 45)) W.heap.size 25 #[.slice Ag p.globals.length cg, .slice Ap p.procs.length cp]) := Lib.hid ((Blk.new _ _ _).alloc _)
 have HBz : Hid (Blk ((W.alloc (.cells #[.slice Ag p.globals.length cg, .slice Ap p.procs.length cp] 25)).alloc (.cells zP 45)) (W.heap.size + 1) 45 zP) := Lib.hid (by have := Blk.new (W.alloc (.cells #[.slice Ag p.globals.length cg, .slice Ap p.procs.length cp] 25)) 45 zP; rw [World.size_alloc] at this; exact this)
 generalize World.alloc _ _ = V at HB0 HBp HBz ⊢
 have HI0 := Lib.hid (HI.out.on HB0.out)
 have q0 : V.cell? ⟨W.heap.size, 0, none⟩ = some (.slice Ag p.globals.length cg) := by rw [HBp.out.cell]; rfl
 have q1 : V.cell? ⟨W.heap.size, 1, none⟩ = some (.slice Ap p.procs.length cp) := by rw [HBp.out.cell]; rfl
 have hbl := HBp.out.lt
 go_upto_region 2 with (go_at_call 68; refine (HF.out V HI0.out).mono ?_; rintro e w1 ⟨rfl, hb1⟩)
 have HB1 := Lib.hid (below_step HB0.out hb1)
 have HI1 := Lib.hid (HI0.out.on hb1)
 have HBp1 := Lib.hid (HBp.out.below hb1 hbl)
 have HBz1 := Lib.hid (HBz.out.below hb1 HBz.out.lt)
 clear q0 q1 hbl hb1 HB0 HBp HBz HI0 HF
 rcases hfd with ⟨rfl, hk⟩ | ⟨j, hj, rfl, hk, hm⟩
 ·have HK0 := Lib.hid hk
  clear hk
  have y0 : w1.cell? ⟨W.heap.size + 1, 0, none⟩ = some (.string ⟨#[]⟩) := by rw [HBz1.out.cell]; rfl
  have y1 : w1.cell? ⟨W.heap.size + 1, 1, none⟩ = some (.slice none 0 0) := by rw [HBz1.out.cell]; rfl
  have y2 : w1.cell? ⟨W.heap.size + 1, 2, none⟩ = some (.slice none 0 0) := by rw [HBz1.out.cell]; rfl
  have y3 : w1.cell? ⟨W.heap.size + 1, 3, none⟩ = some (.slice none 0 0) := by rw [HBz1.out.cell]; rfl
  have y4 : w1.cell? ⟨W.heap.size + 1, 4, none⟩ = some (.slice none 0 0) := by rw [HBz1.out.cell]; rfl
  have f0 := HBz1.out.frozen 0
  have f1 := HBz1.out.frozen 1
  have f2 := HBz1.out.frozen 2
  have f3 := HBz1.out.frozen 3
  have f4 := HBz1.out.frozen 4
  have hzl := HBz1.out.lt
  go_wp2_with fail
  (try simp only [Exit.inBlock, Exit.then])
  refine bodyPost_ret (results_ct rfl _ _ (W.heap.size + 1) 45 _ (0, 0) _ rfl (pc5_blk HBz1.out) Try.underlying45 rfl (by kernel_rfl)) rfl ?_
  rw [HK0.out]
  exact ⟨_, _, _, _, _, rfl, pc5_below HB1.out (by omega), zero_proc _ _⟩
 ·have HK0 := Lib.hid hk
  have HN1 := Lib.hid (fun V hV => HN.out V hV hm)
  have hfl : ∀ (A : Option Addr) (n c : Nat) (B : Option Addr) (m d : Nat) (w : World), (Instr.field 25 (.agg #[.slice A n c, .slice B m d]) 1).run Try.prog w = .ok (.slice B m d) w := fun _ _ _ _ _ _ _ => by kernel_rfl
  clear hk hm
  have q0 : w1.cell? ⟨W.heap.size, 0, none⟩ = some (.slice Ag p.globals.length cg) := by rw [HBp1.out.cell]; rfl
  have q1 : w1.cell? ⟨W.heap.size, 1, none⟩ = some (.slice Ap p.procs.length cp) := by rw [HBp1.out.cell]; rfl
  have hbl := HBp1.out.lt
  go_upto_region 4 with fail
  go_wp2_with (go_at_call 14; refine (HN1.out w1 HI1.out).mono ?_; rintro e w2 ⟨e0, e1, rfl, hb2, hpg⟩; obtain ⟨Bg, bg, Bp, bp, rfl, rfl, _, _, _, _, _, hbp⟩ := prog_open hpg; obtain ⟨a, Ep, kp, Ev, kv, Eb, kb, Ee, ke, rfl, hqa, hrow, hnm, hpp, hvv, hbody, hee⟩ := proc_at hbp (W := w2) ⟨fun b hb => hb.2.lt, fun _ _ => rfl⟩ hj; obtain ⟨p0, p1, p2, p3, p4, _⟩ := hrow; have HBz2 := Lib.hid (HBz1.out.below hb2 HBz1.out.lt); have y0 : w2.cell? ⟨W.heap.size + 1, 0, none⟩ = some (.string ⟨#[]⟩) := (by rw [HBz2.out.cell]; rfl); have y1 : w2.cell? ⟨W.heap.size + 1, 1, none⟩ = some (.slice none 0 0) := (by rw [HBz2.out.cell]; rfl); have y2 : w2.cell? ⟨W.heap.size + 1, 2, none⟩ = some (.slice none 0 0) := (by rw [HBz2.out.cell]; rfl); have y3 : w2.cell? ⟨W.heap.size + 1, 3, none⟩ = some (.slice none 0 0) := (by rw [HBz2.out.cell]; rfl); have y4 : w2.cell? ⟨W.heap.size + 1, 4, none⟩ = some (.slice none 0 0) := (by rw [HBz2.out.cell]; rfl); have f0 := HBz2.out.frozen 0; have f1 := HBz2.out.frozen 1; have f2 := HBz2.out.frozen 2; have f3 := HBz2.out.frozen 3; have f4 := HBz2.out.frozen 4; have hzl := HBz2.out.lt; have HPc : Hid (ProcI w2 (U.nw w1 w2) p.procs[j] [.string p.procs[j].nm, .slice Ep p.procs[j].params.length kp, .slice Ev p.procs[j].vars.length kv, .slice Eb p.procs[j].body.length kb, .slice Ee p.procs[j].end_.length ke]) := Lib.hid ⟨_, _, _, _, rfl, hnm, hpp, hvv, hbody, hee⟩; have HB2 := Lib.hid (below_step HB1.out hb2); have HB12 := Lib.hid hb2; clear hnm hpp hvv hbody hee hpg hbp hb2)
  (try simp only [Exit.inBlock, Exit.then])
  refine bodyPost_ret (results_ct rfl _ _ (W.heap.size + 1) 45 _ (0, 0) _ rfl (pc5_blk HBz2.out) Try.underlying45 rfl (by kernel_rfl)) rfl ?_
  rw [HK0.out]
  have hz1 := HBz1.out.lt
  refine ⟨_, _, _, _, _, rfl, pc5_below HB2.out (by omega), ?_⟩
  exact HPc.out.keep (fun b hb => ⟨Nat.le_trans HB1.out.size hb.1, by rw [pc5_size]; exact hb.2.lt⟩) (fun p hp => pc5_cell (by have := hp.1; omega))
end Go.Proofs.Ytehpinnmalpgpaa
namespace Go.Proofs.Ytehpinnmalpgpaa
open Go.ChangeShapes Go.WideShapes Go.ChangeAt Go.RowKit Go.Deep
set_option linter.unusedVariables false
set_option linter.unusedSimpArgs false
theorem find_own : ∀ (l : List Pr), (l.map Pr.nm).Nodup → ∀ q ∈ l, l.find? (isQ q.nm) = some q
 | [], _, q, hq => by cases hq
 | x :: l, h, q, hq => by
  rw [List.map_cons, List.nodup_cons] at h
  rw [List.find?_cons]
  rcases List.mem_cons.1 hq with rfl | hq
  ·rw [show isQ q.nm q = true by simp [isQ]]
  ·have hne : isQ q.nm x = false := by
    unfold isQ
    exact decide_eq_false (fun e => h.1 (by rw [e]; exact List.mem_map_of_mem hq))
   rw [hne]
   exact find_own l h.2 q hq
end Go.Proofs.Ytehpinnmalpgpaa
namespace Go.Proofs.Ytehpinnmalpgpaa
open Go.ChangeShapes Go.WideShapes Go.ChangeAt Go.RowKit Go.Deep
set_option linter.unusedVariables false
set_option linter.unusedSimpArgs false
theorem ProcAt_any {w : World} {Q : Nat → Prop} {p : Pg} {c0 c1 : Value} (h : ProgI w Q p [c0, c1]) (hn : 1 ≤ p.procs.length ∧ p.procs.length ≤ 16) (n : Int) : ∃ m, ∃ hm : m < p.procs.length, ∀ W : World, In Q w W →
 Calls Try.prog 26 #[.agg #[c0, c1], .int .i64 n] W fun e w' => e = .returned (.string p.procs[m].nm) ∧ Below W.heap.size W w' := by
 obtain ⟨m, hm, hM⟩ := Mod_fix n p.procs.length hn.1 (by omega)
 refine ⟨m, hm, fun W hI => ?_⟩
 have HM := Lib.hid hM
 obtain ⟨Ag, cg, Ap, cp, rfl, rfl, _, _, _, _, hgl, hpr⟩ := prog_open h
 have HP := Lib.hid hpr
 have HI := Lib.hid hI
 obtain ⟨hn1, hn2⟩ := hn
 clear h hI hgl hpr hM
 go_enter Try.func26, Try.ntmps26
 go_upto_region 1 with fail
 have HB0 : Hid (Below W.heap.size W (W.alloc (.cells #[.slice Ag p.globals.length cg, .slice Ap p.procs.length cp] 25))) := Lib.hid (below_box _)
 have HBp : Hid (Blk (W.alloc (.cells #[.slice Ag p.globals.length cg, .slice Ap p.procs.length cp] 25)) W.heap.size 25 #[.slice Ag p.globals.length cg, .slice Ap p.procs.length cp]) := Lib.hid (Blk.new _ _ _)
 generalize World.alloc _ _ = V at HB0 HBp ⊢
 have HI0 := Lib.hid (HI.out.on HB0.out)
 generalize hbe : W.heap.size = b at HBp ⊢
 clear hbe
 obtain ⟨a, Bp, kp, Bv, kv, Bb, kb, Be, ke, rfl, _, ⟨p0, p1, p2, p3, p4, _⟩, _⟩ := proc_at HP.out HI0.out hm
 have q0 : V.cell? ⟨b, 0, none⟩ = some (.slice Ag p.globals.length cg) := by rw [HBp.out.cell]; rfl
 have q1 : V.cell? ⟨b, 1, none⟩ = some (.slice (some a) p.procs.length cp) := by rw [HBp.out.cell]; rfl
 clear p1 p2 p3 p4
 obtain ⟨xn, hx⟩ : ∃ xn, xn = p.procs[m].nm := ⟨_, rfl⟩
 rw [← hx] at p0
 have HX := Lib.hid hx
 clear hx
 go_upto_region 3 with fail
 go_quiet ((go_at_call 13; exact quiet_same (HM.out _)))
 go_wp2_with fail
 go_ret
 exact ⟨by rw [← HX.out]; rfl, below_drewN HB0.out _⟩
end Go.Proofs.Ytehpinnmalpgpaa
namespace Go.Proofs.Ytehpinnmalpgpaa
open Go.ChangeShapes Go.WideShapes Go.ChangeAt Go.RowKit Go.Deep
set_option linter.unusedVariables false
set_option linter.unusedSimpArgs false
def StRes (w : World) (Q : Nat → Prop) (s : S) (W : World) (e : Ending) (w' : World) : Prop := ∃ cs : List Value, e = .returned (.agg cs.toArray) ∧ StmtI w Q s cs ∧ Below W.heap.size W w'
set_option maxHeartbeats 4000000 in
set_option maxRecDepth 100000 in
theorem rStmt_any {w : World} {Q : Nat → Prop} {p : Pg} {c0 c1 : Value} (h : ProgI w Q p [c0, c1]) (id0 : Int) (W : World) (hI : In Q w W) :
 Calls Try.prog 30 #[.agg #[c0, c1], .int .i64 id0] W (StRes w Q (stP p id0) W) := by
 have HFd := Lib.hid (fun V hV => rFind_any h id0 V hV)
 obtain ⟨Ag, cg, Ap, cp, rfl, rfl, _⟩ := prog_open h
 have HI := Lib.hid hI
 have HK : Hid (stP p id0 = ((rfL p.procs id0).elim It0 Prod.fst).s) := Lib.hid rfl
 clear h hI
 generalize rfL p.procs id0 = r at HFd HK
 go_enter Try.func30, Try.ntmps30
 go_upto_region 1 with fail
 have HB0 : Hid (Below W.heap.size W ((W.alloc (.cells #[.slice Ag p.globals.length cg, .slice Ap p.procs.length cp] 25)).alloc (.cells zS 60))) := Lib.hid (below_two _ _)
 have HBp : Hid (Blk ((W.alloc (.cells #[.slice Ag p.globals.length cg, .slice Ap p.procs.length cp] 25)).alloc (.cells zS 60)) W.heap.size 25 #[.slice Ag p.globals.length cg, .slice Ap p.procs.length cp]) := Lib.hid ((Blk.new _ _ _).alloc _)
 have HBf : Hid (Blk ((W.alloc (.cells #[.slice Ag p.globals.length cg, .slice Ap p.procs.length cp] 25)).alloc (.cells zS 60)) (W.heap.size + 1) 60 zS) := Lib.hid (by have := Blk.new (W.alloc (.cells #[.slice Ag p.globals.length cg, .slice Ap p.procs.length cp] 25)) 60 zS; rw [World.size_alloc] at this; exact this)
 generalize World.alloc _ _ = V at HB0 HBp HBf ⊢
 have HI0 := Lib.hid (HI.out.on HB0.out)
 have hwb : W.heap.size ≤ W.heap.size + 1 := by omega
 generalize hbe : W.heap.size = b at HBp HBf hwb ⊢
 generalize hfe : b + 1 = f at HBf hwb ⊢
 have hWf : W.heap.size ≤ f := by omega
 clear hbe hfe
 have q0 : V.cell? ⟨b, 0, none⟩ = some (.slice Ag p.globals.length cg) := by rw [HBp.out.cell]; rfl
 have q1 : V.cell? ⟨b, 1, none⟩ = some (.slice Ap p.procs.length cp) := by rw [HBp.out.cell]; rfl
 have hfl := HBf.out.lt
 have hIt : ∀ cs : Array Value, ItemI w Q (r.elim It0 Prod.fst) cs.toList → ∃ (id kind : Int) (labels : List ByteArray) (nm proc : ByteArray) (x : E) (has : Bool) (args : List Ar) (th el : List S) (L : Option Addr) (lc : Nat) (y0 y1 : Int) (y2 : ByteArray) (X : Option Addr) (xn xc : Nat) (R : Option Addr) (rc : Nat) (T : Option Addr) (tc : Nat) (U : Option Addr) (uc : Nat) (dp inn : Int) (els : Bool), cs = #[.int .i64 id, .int .i64 kind, .slice L labels.length lc, .string nm, .string proc, .int .i64 y0, .int .i64 y1, .string y2, .slice X xn xc, .bool has, .slice R args.length rc, .slice T th.length tc, .slice U el.length uc, .int .i64 dp, .int .i64 inn, .bool els] ∧ StmtI w Q (r.elim It0 Prod.fst).s [.int .i64 id, .int .i64 kind, .slice L labels.length lc, .string nm, .string proc, .int .i64 y0, .int .i64 y1, .string y2, .slice X xn xc, .bool has, .slice R args.length rc, .slice T th.length tc, .slice U el.length uc] := by
  rintro cs ⟨c, hc, hst⟩
  obtain ⟨id, kind, labels, nm, proc, x, has, args, th, el, L, lc, y0, y1, y2, X, xn, xc, R, rc, T, tc, U, uc, hmk, rfl, _⟩ := stmt_open hst
  refine ⟨id, kind, labels, nm, proc, x, has, args, th, el, L, lc, y0, y1, y2, X, xn, xc, R, rc, T, tc, U, uc, (r.elim It0 Prod.fst).deep, (r.elim It0 Prod.fst).inn, (r.elim It0 Prod.fst).els, ?_, hst⟩
  rw [← Array.toArray_toList (xs := cs), hc]
  rfl
 have HIt := Lib.hid hIt
 clear hIt
 go_upto_region 2 with (go_at_call 35; refine (HFd.out V HI0.out).mono ?_; rintro e' w1 ⟨cs, rfl, hit, hb1⟩; obtain ⟨id, kind, labels, nm, proc, x, has, args, th, el, L, lc, y0, y1, y2, X, xn, xc, R, rc, T, tc, U, uc, dp, inn, els, rfl, hst⟩ := HIt.out _ hit; have HSt := Lib.hid hst; clear hst hit)
 have HBi : Hid (Blk (w1.alloc (.cells #[.int .i64 id, .int .i64 kind, .slice L labels.length lc, .string nm, .string proc, .int .i64 y0, .int .i64 y1, .string y2, .slice X xn xc, .bool has, .slice R args.length rc, .slice T th.length tc, .slice U el.length uc, .int .i64 dp, .int .i64 inn, .bool els] 64)) w1.heap.size 64 #[.int .i64 id, .int .i64 kind, .slice L labels.length lc, .string nm, .string proc, .int .i64 y0, .int .i64 y1, .string y2, .slice X xn xc, .bool has, .slice R args.length rc, .slice T th.length tc, .slice U el.length uc, .int .i64 dp, .int .i64 inn, .bool els]) := Lib.hid (Blk.new _ _ _)
 have HB1 : Hid (Below V.heap.size V (w1.alloc (.cells #[.int .i64 id, .int .i64 kind, .slice L labels.length lc, .string nm, .string proc, .int .i64 y0, .int .i64 y1, .string y2, .slice X xn xc, .bool has, .slice R args.length rc, .slice T th.length tc, .slice U el.length uc, .int .i64 dp, .int .i64 inn, .bool els] 64))) := Lib.hid (below_stepA hb1 _)
 clear q0 q1 hb1 HFd HIt
 generalize World.alloc w1 _ = V1 at HBi HB1 ⊢
 generalize w1.heap.size = bi at HBi ⊢
 have HBf1 := Lib.hid (HBf.out.below HB1.out hfl)
 have HBW := Lib.hid (below_step HB0.out HB1.out)
 have s0 : V1.cell? ⟨bi, 0, none⟩ = some (.int .i64 id) := by rw [HBi.out.cell]; rfl
 have s1 : V1.cell? ⟨bi, 1, none⟩ = some (.int .i64 kind) := by rw [HBi.out.cell]; rfl
 have s2 : V1.cell? ⟨bi, 2, none⟩ = some (.slice L labels.length lc) := by rw [HBi.out.cell]; rfl
 have s3 : V1.cell? ⟨bi, 3, none⟩ = some (.string nm) := by rw [HBi.out.cell]; rfl
 have s4 : V1.cell? ⟨bi, 4, none⟩ = some (.string proc) := by rw [HBi.out.cell]; rfl
 have s5 : V1.cell? ⟨bi, 5, none⟩ = some (.int .i64 y0) := by rw [HBi.out.cell]; rfl
 have s6 : V1.cell? ⟨bi, 6, none⟩ = some (.int .i64 y1) := by rw [HBi.out.cell]; rfl
 have s7 : V1.cell? ⟨bi, 7, none⟩ = some (.string y2) := by rw [HBi.out.cell]; rfl
 have s8 : V1.cell? ⟨bi, 8, none⟩ = some (.slice X xn xc) := by rw [HBi.out.cell]; rfl
 have s9 : V1.cell? ⟨bi, 9, none⟩ = some (.bool has) := by rw [HBi.out.cell]; rfl
 have s10 : V1.cell? ⟨bi, 10, none⟩ = some (.slice R args.length rc) := by rw [HBi.out.cell]; rfl
 have s11 : V1.cell? ⟨bi, 11, none⟩ = some (.slice T th.length tc) := by rw [HBi.out.cell]; rfl
 have s12 : V1.cell? ⟨bi, 12, none⟩ = some (.slice U el.length uc) := by rw [HBi.out.cell]; rfl
 have f0_ := HBf1.out.frozen 0
 have y0_ : V1.cell? ⟨f, 0, none⟩ = some (.int .i64 0) := by rw [HBf1.out.cell]; rfl
 have f1_ := HBf1.out.frozen 1
 have y1_ : V1.cell? ⟨f, 1, none⟩ = some (.int .i64 0) := by rw [HBf1.out.cell]; rfl
 have f2_ := HBf1.out.frozen 2
 have y2_ : V1.cell? ⟨f, 2, none⟩ = some (.slice none 0 0) := by rw [HBf1.out.cell]; rfl
 have f3_ := HBf1.out.frozen 3
 have y3_ : V1.cell? ⟨f, 3, none⟩ = some (.string ⟨#[]⟩) := by rw [HBf1.out.cell]; rfl
 have f4_ := HBf1.out.frozen 4
 have y4_ : V1.cell? ⟨f, 4, none⟩ = some (.string ⟨#[]⟩) := by rw [HBf1.out.cell]; rfl
 have f5_ := HBf1.out.frozen 5
 have y5_ : V1.cell? ⟨f, 5, none⟩ = some (.int .i64 0) := by rw [HBf1.out.cell]; rfl
 have f6_ := HBf1.out.frozen 6
 have y6_ : V1.cell? ⟨f, 6, none⟩ = some (.int .i64 0) := by rw [HBf1.out.cell]; rfl
 have f7_ := HBf1.out.frozen 7
 have y7_ : V1.cell? ⟨f, 7, none⟩ = some (.string ⟨#[]⟩) := by rw [HBf1.out.cell]; rfl
 have f8_ := HBf1.out.frozen 8
 have y8_ : V1.cell? ⟨f, 8, none⟩ = some (.slice none 0 0) := by rw [HBf1.out.cell]; rfl
 have f9_ := HBf1.out.frozen 9
 have y9_ : V1.cell? ⟨f, 9, none⟩ = some (.bool false) := by rw [HBf1.out.cell]; rfl
 have f10_ := HBf1.out.frozen 10
 have y10_ : V1.cell? ⟨f, 10, none⟩ = some (.slice none 0 0) := by rw [HBf1.out.cell]; rfl
 have f11_ := HBf1.out.frozen 11
 have y11_ : V1.cell? ⟨f, 11, none⟩ = some (.slice none 0 0) := by rw [HBf1.out.cell]; rfl
 have f12_ := HBf1.out.frozen 12
 have y12_ : V1.cell? ⟨f, 12, none⟩ = some (.slice none 0 0) := by rw [HBf1.out.cell]; rfl
 go_wp2_with fail
 refine bodyPost_ret (results_c1 rfl _ _ f 60 #[.int .i64 id, .int .i64 kind, .slice L labels.length lc, .string nm, .string proc, .int .i64 y0, .int .i64 y1, .string y2, .slice X xn xc, .bool has, .slice R args.length rc, .slice T th.length tc, .slice U el.length uc] (0, 0) _ rfl (blk13 HBf1.out) Try.underlying60 rfl (by kernel_rfl)) rfl ?_
 refine ⟨[.int .i64 id, .int .i64 kind, .slice L labels.length lc, .string nm, .string proc, .int .i64 y0, .int .i64 y1, .string y2, .slice X xn xc, .bool has, .slice R args.length rc, .slice T th.length tc, .slice U el.length uc], rfl, by rw [HK.out]; exact HSt.out, ?_⟩
 iterate 13 (refine below_setc ?_ hWf _)
 exact HBW.out
end Go.Proofs.Ytehpinnmalpgpaa
namespace Go.Proofs.Ytehpinnmalpgpaa
open Go.ChangeShapes Go.WideShapes Go.ChangeAt Go.RowKit Go.Deep
set_option linter.unusedVariables false
set_option linter.unusedSimpArgs false
theorem dupF_set : ∀ (l p : List ByteArray), dupF (setF p) l = dupL p l
 | [], _ => rfl
 | x :: l, p => by
  rw [dupF, dupL, ← dupF_set l (p ++ [x])]
  have : (fun y => setF p y || decide (y = x)) = setF (p ++ [x]) := by
   funext y
   simp [setF, isT]
  rw [this]
  rfl
theorem dupL_nodup {l p : List ByteArray} (hp : p.Nodup) : dupL p l = false ↔ (p ++ l).Nodup := by
 constructor
 ·intro h
  obtain ⟨h1, h2⟩ := dupL_false l p h
  exact List.nodup_append.2 ⟨hp, h2, fun a ha b hb e => h1 b hb (e ▸ ha)⟩
 ·intro h
  cases hd : dupL p l with
  | false => rfl
  | true => exact absurd h (dupL_true l p hp hd)
theorem wrL_none {f : ByteArray → Bool} : ∀ (l : List (S × Int)) (acc : List ByteArray), acc.Nodup → wrL f acc l = none → (acc ++ l.flatMap (fun x => x.1.labels)).Nodup ∧ ∀ x ∈ l, landsB f x.1.kind x.1.nm x.2 = true
 | [], acc, ha, _ => ⟨by simpa using ha, fun x hx => by cases hx⟩
 | x :: l, acc, ha, h => by
  rw [wrL] at h
  split at h
  ·cases h
  ·rename_i hw
   have hw2 : wrS f acc x = false := by simpa using hw
   unfold wrS at hw2
   rw [Bool.or_eq_false_iff, dupF_set, dupL_nodup ha] at hw2
   obtain ⟨h1, h2⟩ := wrL_none l (acc ++ x.1.labels) hw2.1 h
   refine ⟨by rw [List.flatMap_cons, ← List.append_assoc]; exact h1, fun y hy => ?_⟩
   rcases List.mem_cons.1 hy with rfl | hy
   ·simpa using hw2.2
   ·exact h2 y hy
theorem lab_lp (l : List S) (lp : Int) : (lpSL l lp).flatMap (fun x => x.1.labels) = labsOf (preSL l) := by
 rw [← lpSL_fst l lp, labsOf, List.flatMap_map]
theorem wrQ_ok {q : Pr} (h : (wrQ q).2 = false) : (allLb q).Nodup ∧ ∀ x ∈ lpSL q.body 0, landsB (setF (allLb q)) x.1.kind x.1.nm x.2 = true := by
 unfold wrQ at h
 cases hw : wrL (setF (allLb q)) [] (lpSL q.body 0) with
 | some i => rw [hw] at h; cases h
 | none =>
  rw [hw] at h
  obtain ⟨h1, h2⟩ := wrL_none (lpSL q.body 0) [] List.nodup_nil hw
  rw [List.nil_append, lab_lp] at h1
  have h3 : dupF (setF (labsOf (preSL q.body))) q.end_ = false := h
  rw [dupF_set, dupL_nodup h1] at h3
  exact ⟨h3, h2⟩
theorem chkJ_ok : ∀ (l : List Pr), (chkJ l).1 = 0 → ∀ q ∈ l, (wrQ q).2 = false
 | [], _, q, hq => by cases hq
 | x :: l, h, q, hq => by
  rw [chkJ] at h
  split at h
  ·cases h
  ·rename_i hx
   rcases List.mem_cons.1 hq with rfl | hq
   ·simpa using hx
   ·exact chkJ_ok l h q hq
theorem jck_ok {p : Pg} (h : (jCheck p).1 = 0) : chkOK p = true ∧ ∀ q ∈ p.procs, (allLb q).Nodup ∧ ∀ x ∈ lpSL q.body 0, landsB (setF (allLb q)) x.1.kind x.1.nm x.2 = true := by
 unfold jCheck at h
 split at h
 ·rename_i hc
  exact ⟨hc, fun q hq => wrQ_ok (chkJ_ok _ h q hq)⟩
 ·cases h
theorem jf_at {p : Pg} (hc : chkOK p = true) (hn : (p.procs.map Pr.nm).Nodup) {q : Pr} (hq : q ∈ p.procs) : ∃ m, ∃ hm : m < p.procs.length, jfP p q.nm = m ∧ p.procs[m] = q := by
 unfold jfP
 rw [if_pos hc]
 have hf := find_own p.procs hn q hq
 rcases idxL_get (isQ q.nm) p.procs 0 with ⟨h1, h2⟩ | ⟨j, hj, h1, h2, h3⟩
 ·rw [hf] at h2; cases h2
 ·refine ⟨j, hj, by rw [h1]; simp, ?_⟩
  rw [hf] at h3
  injection h3 with h3
  exact h3.symm
theorem jLabels_q {p : Pg} (hc : chkOK p = true) (hn : (p.procs.map Pr.nm).Nodup) {q : Pr} (hq : q ∈ p.procs) : jLabels p q.nm = allLb q := by
 obtain ⟨m, hm, h1, h2⟩ := jf_at hc hn hq
 unfold jLabels
 rw [h1, labZ_at hm, h2]
 rfl
theorem jAt_q {p : Pg} (hc : chkOK p = true) (hn : (p.procs.map Pr.nm).Nodup) {q : Pr} (hq : q ∈ p.procs) (label : ByteArray) : jAt p q.nm label = atQ label q := by
 obtain ⟨m, hm, h1, h2⟩ := jf_at hc hn hq
 unfold jAt
 rw [h1, atZ_at hm, h2]
theorem hasL_iff {s : S} {t : ByteArray} : hasL t s = true ↔ t ∈ s.labels := by simp [hasL, isT]
/-- a label of a procedure: where it stands -/
theorem at_label {p : Pg} (hm : mayP p = true) {q : Pr} (hq : q ∈ p.procs) (hd : (allLb q).Nodup) {t : ByteArray} (ht : t ∈ allLb q) :
 (∃ s, atQ t q = (s.id, true) ∧ 1 ≤ s.id ∧ q.end_.any (isT t) = false ∧ stP p s.id = s ∧ s.labels.any (isT t) = true) ∨ (atQ t q = (-1, true) ∧ q.end_.any (isT t) = true) := by
 unfold allLb at hd ht
 rw [List.nodup_append] at hd
 cases hf : (preSL q.body).find? (hasL t) with
 | some s =>
  have hs := List.mem_of_find?_eq_some hf
  have hl := List.find?_some hf
  have hid := may_ids hm q hq s hs
  refine .inl ⟨s, by unfold atQ; rw [hf], hid.1, ?_, (at_id hm hq hs).st, hl⟩
  rw [List.any_eq_false]
  intro x hx e
  have : t = x := by simpa [isT] using e
  subst this
  exact hd.2.2 t (List.mem_flatMap.2 ⟨s, hs, hasL_iff.1 hl⟩) t hx rfl
 | none =>
  have he : q.end_.any (isT t) = true := by
   rcases List.mem_append.1 ht with ht | ht
   ·obtain ⟨s, hs, hst⟩ := List.mem_flatMap.1 ht
    have := List.find?_eq_none.1 hf s hs
    exact absurd (hasL_iff.2 hst) this
   ·exact List.any_eq_true.2 ⟨t, ht, by simp [isT]⟩
  refine .inr ⟨?_, he⟩
  unfold atQ
  rw [hf, he]
  rfl
end Go.Proofs.Ytehpinnmalpgpaa
namespace Go.Proofs.Ytehpinnmalpgpaa
open Go.ChangeShapes Go.WideShapes Go.ChangeAt Go.RowKit Go.Deep
set_option linter.unusedVariables false
set_option linter.unusedSimpArgs false
theorem isT_eq (s t : ByteArray) : isT s t = (t.toList == s.toList) := by rw [dec_bytes]; unfold isT; exact decide_eq_decide.2 eq_comm
set_option maxHeartbeats 1000000 in
theorem rIn_any {w W : World} {Q : Nat → Prop} {l : List ByteArray} {v : Value} (h : TextsI w Q l v) (hI : In Q w W) (s : ByteArray) :
  Calls Try.prog 23 #[v, .string s] W fun e w' => e = .returned (.bool (l.any (isT s))) ∧ W = w' := by
 obtain ⟨A, cap, rfl, hl1, hl2⟩ := h.shape
 have H := Lib.hid h
 have HI := Lib.hid hI
 clear h hI
 go_enter Try.func23, Try.ntmps23
 go_wp2_with fail
 go_loopg [8] l.length (fun kk i wr => ∃ k : Nat, k + kk = l.length ∧ i = .int .i64 k ∧ Hid ((l.drop k).any (isT s) = l.any (isT s)) ∧ wr = W)
 case atStart => exact ⟨0, by omega, rfl, Lib.hid (by rw [List.drop_zero]), rfl⟩
 case round =>
  obtain ⟨k, hk, rfl, HW, rfl⟩ := hrel
  by_cases hlt : k < l.length
  ·obtain ⟨a, rfl, _, p1, hs⟩ := text_at H.out HI.out hlt
   have HD : Hid ((isT s l[k] || (l.drop (k + 1)).any (isT s)) = l.any (isT s)) := Lib.hid (by rw [← HW.out, List.drop_eq_getElem_cons hlt, List.any_cons])
   have hv := isT_eq s l[k]
   generalize l[k] = t at p1 hs HD hv
   cases hb : isT s t with
   | true =>
    rw [hb, Bool.true_or] at HD
    have hv2 : (t.toList == s.toList) = true := by rw [← hv]; exact hb
    clear hv hb
    go_wp2_with fail
    go_ret
    exact ⟨by rw [← HD.out]; rfl, rfl⟩
   | false =>
    rw [hb, Bool.false_or] at HD
    have hv2 : (t.toList == s.toList) = false := by rw [← hv]; exact hb
    clear hv hb
    go_wp2_with fail
    go_roundg (l.length - k - 1)
    case measure => omega
    case rel => exact ⟨k + 1, by omega, by go_num, HD, rfl⟩
  ·have HD : Hid (l.any (isT s) = false) := Lib.hid (by rw [← HW.out, List.drop_of_length_le (by omega)]; rfl)
   go_wp2_with fail
   go_ret
   exact ⟨by rw [HD.out]; rfl, rfl⟩
end Go.Proofs.Ytehpinnmalpgpaa
