/- Texts, merged by a program; only what is used. -/
import Derived.Test.YtehpinnmalpgpaaGreatK1
import Derived.Test.YtehpinnmalpgpaaGreatK2
import Derived.Test.YtehpinnmalpgpaaGreatK3
import Derived.Test.YtehpinnmalpgpaaGreatK4
import Derived.Test.YtehpinnmalpgpaaGreatK5
import Derived.Test.YtehpinnmalpgpaaGreatK6
import Derived.Test.YtehpinnmalpgpaaGreatK7
import Derived.Test.YtehpinnmalpgpaaGreatK8
import Derived.Test.YtehpinnmalpgpaaGreatK9
import Derived.Test.YtehpinnmalpgpaaGreatK10
import Derived.Test.YtehpinnmalpgpaaGreatK11
import Derived.Test.YtehpinnmalpgpaaGreatK12
import Derived.Test.YtehpinnmalpgpaaGreatK13
import Derived.Test.YtehpinnmalpgpaaGreatK14
import Derived.Test.YtehpinnmalpgpaaGreatK15
import Derived.Test.YtehpinnmalpgpaaGreatK16
import Derived.Test.YtehpinnmalpgpaaGreatK17
import Derived.Test.YtehpinnmalpgpaaGreatK18
import Derived.Test.YtehpinnmalpgpaaGreatK19
import Derived.Test.YtehpinnmalpgpaaGreatK20
import Derived.Test.YtehpinnmalpgpaaGreatK21
import Derived.Test.YtehpinnmalpgpaaGreatK22
import Derived.Test.YtehpinnmalpgpaaGreatK23
import Derived.Test.YtehpinnmalpgpaaGreatK24
import Derived.Test.YtehpinnmalpgpaaGreatK25
import Derived.Test.YtehpinnmalpgpaaGreatK26
import Derived.Test.YtehpinnmalpgpaaGreatK27
import Derived.Test.YtehpinnmalpgpaaGreatK28
import Derived.Test.YtehpinnmalpgpaaGreatK29
namespace Go.Proofs.YtehpinnmalpgpaaGreat
open Go.ChangeShapes Go.WideShapes Go.ChangeAt Go.RowKit Go.Deep
set_option linter.unusedVariables false
set_option linter.unusedSimpArgs false
def rLab (p : Pg) (proc : ByteArray) : List ByteArray := if (procP p proc).2 = true ∧ chkOK p = true then itLb (flatOf (procP p proc).1) ++ (procP p proc).1.end_ else []
def rAtD (p : Pg) (proc label : ByteArray) : Int × Bool := if (procP p proc).2 = true ∧ chkOK p = true then bearsD (flatOf (procP p proc).1) (procP p proc).1.end_ label else (0, false)
def LbOk (p : Pg) : Prop := chkOK p = true → ∀ q ∈ p.procs, (itLb (flatOf q)).length + q.end_.length ≤ 1000000
theorem in_self9 (A : Nat) (W9 : World) : In (fun b => A ≤ b ∧ b < W9.heap.size) W9 W9 := ⟨fun j h => h.2, fun _ _ => rfl⟩
theorem procP_in {p : Pg} {nm : ByteArray} {q : Pr} (h : procP p nm = (q, true)) : q ∈ p.procs := by
 unfold procP at h
 split at h
 ·cases hf : p.procs.find? (isQ nm) with
  | none => rw [hf] at h; cases h
  | some x =>
   rw [hf] at h
   injection h with h1
   subst h1
   exact List.mem_of_find?_eq_some hf
 ·cases h
set_option maxHeartbeats 4000000 in
set_option maxRecDepth 100000 in
theorem rLabels_any {w : World} {Q : Nat → Prop} {p : Pg} {c0 c1 : Value} (h : ProgI w Q p [c0, c1]) (hsm : SmG p) (hb : LbOk p) (proc : ByteArray) (W : World) (hI : In Q w W) :
 Calls Tryz.prog 17 #[.agg #[c0, c1], .string proc] W (NewRow (rLab p proc) W) := by
 have HPc := Lib.hid (fun V hV => rProc_any h proc V hV)
 have HSc := Lib.hid (fun V hV => rScope_any h hsm V hV)
 obtain ⟨Ag, cg, Ap, cp, rfl, rfl, _⟩ := prog_open h
 have HI := Lib.hid hI
 have HB := Lib.hid hb
 have hff : ∀ (a c : Int) (w : World), (Instr.field 34 (.agg #[.int .i64 a, .int .i64 c]) 0).run Tryz.prog w = .ok (.int .i64 a) w := fun _ _ _ => by kernel_rfl
 have HCk : Hid (chkOK p = decide ((chkP p).1 = 0)) := Lib.hid rfl
 clear h hI hb
 generalize hr : procP p proc = r at HPc
 have HRr := Lib.hid hr
 clear hr
 obtain ⟨q, rb⟩ := r
 go_enter Tryz.func17, Tryz.ntmps17
 go_upto_region 1 with fail
 have HB0 : Hid (Below W.heap.size W (W.alloc (.cells #[.slice Ag p.globals.length cg, .slice Ap p.procs.length cp] 25))) := Lib.hid (below_box _)
 have HBp0 : Hid (Blk (W.alloc (.cells #[.slice Ag p.globals.length cg, .slice Ap p.procs.length cp] 25)) W.heap.size 25 #[.slice Ag p.globals.length cg, .slice Ap p.procs.length cp]) := Lib.hid (Blk.new _ _ _)
 generalize World.alloc _ _ = W0 at HB0 HBp0 ⊢
 have HI0 := Lib.hid (HI.out.on HB0.out)
 generalize hbe : W.heap.size = b at HBp0 ⊢
 clear hbe
 have q0 : W0.cell? ⟨b, 0, none⟩ = some (.slice Ag p.globals.length cg) := by rw [HBp0.out.cell]; rfl
 have q1 : W0.cell? ⟨b, 1, none⟩ = some (.slice Ap p.procs.length cp) := by rw [HBp0.out.cell]; rfl
 go_upto_region 2 with (go_at_call 39; refine (HPc.out W0 HI0.out).mono ?_; rintro e' W6 ⟨d0, d1, d2, d3, d4, rfl, hb6, hp6⟩; have hp6' := hp6; obtain ⟨vp, vv, vb, ve, hc, hn', hpp, hvv, hbb, hee⟩ := hp6'; simp only [List.cons.injEq, and_true] at hc; obtain ⟨rfl, rfl, rfl, rfl, rfl⟩ := hc; obtain ⟨M1, k1, rfl, _, _⟩ := hpp.shape; obtain ⟨M2, k2, rfl, _, _⟩ := hvv.shape; obtain ⟨M3, k3, rfl, _⟩ := hbb.shape; obtain ⟨M4, k4, rfl, _⟩ := hee.shape; have HPi := Lib.hid hp6; have HEe := Lib.hid hee; clear hn' hpp hvv hbb hee hp6)
 (try simp only at HPi HEe ⊢)
 have HB6 : Hid (Below W.heap.size W (W6.alloc (.cells #[.string q.nm, .slice M1 q.params.length k1, .slice M2 q.vars.length k2, .slice M3 q.body.length k3, .slice M4 q.end_.length k4] 43))) := Lib.hid (below_step HB0.out (below_stepA hb6 _))
 have HBq : Hid (Blk (W6.alloc (.cells #[.string q.nm, .slice M1 q.params.length k1, .slice M2 q.vars.length k2, .slice M3 q.body.length k3, .slice M4 q.end_.length k4] 43)) W6.heap.size 43 #[.string q.nm, .slice M1 q.params.length k1, .slice M2 q.vars.length k2, .slice M3 q.body.length k3, .slice M4 q.end_.length k4]) := Lib.hid (Blk.new _ _ _)
 have HBp6 : Hid (Blk (W6.alloc (.cells #[.string q.nm, .slice M1 q.params.length k1, .slice M2 q.vars.length k2, .slice M3 q.body.length k3, .slice M4 q.end_.length k4] 43)) b 25 #[.slice Ag p.globals.length cg, .slice Ap p.procs.length cp]) := Lib.hid ((HBp0.out.below hb6 HBp0.out.lt).alloc _)
 clear hb6 q0 q1 HPc HBp0 HI0 HB0
 generalize World.alloc W6 _ = V6 at HB6 HBq HBp6 ⊢
 generalize W6.heap.size = bq at HBq ⊢
 have HI6 := Lib.hid (HI.out.on HB6.out)
 have q0 : V6.cell? ⟨b, 0, none⟩ = some (.slice Ag p.globals.length cg) := by rw [HBp6.out.cell]; rfl
 have q1 : V6.cell? ⟨b, 1, none⟩ = some (.slice Ap p.procs.length cp) := by rw [HBp6.out.cell]; rfl
 have hbl := HBp6.out.lt
 have hql := HBq.out.lt
 cases rb with
 | false =>
  go_wp2_with fail
  (first | go_ret | go_ret2)
  refine ⟨_, rfl, ?_, HB6.out⟩
  unfold rLab
  rw [HRr.out, if_neg (fun h => by cases h.1)]
  exact World.ownsRow_nil _ _ _ _
 | true =>
  generalize hcr : chkP p = cr at HSc HCk
  clear hcr
  obtain ⟨rc, ri⟩ := cr
  simp only at HCk
  by_cases hr : rc = 0
  ·subst hr
   have HCk := Lib.hid (show chkOK p = true from HCk.out)
   have hqm := procP_in HRr.out
   have HLa := Lib.hid (fun V hV => rlabels_any HPi.out (HB.out HCk.out _ hqm) V hV)
   have HRv : Hid (rLab p proc = itLb (flatOf q) ++ q.end_) := Lib.hid (by unfold rLab; rw [HRr.out, if_pos ⟨rfl, HCk.out⟩])
   go_upto_region 4 with (go_at_call 40; refine (HSc.out V6 HI6.out).mono ?_; rintro e' W7 ⟨rfl, hb7⟩)
   have HB7 := Lib.hid (below_step HB6.out hb7)
   have HI7 := Lib.hid (HI6.out.on hb7)
   have HBq7 := Lib.hid (HBq.out.below hb7 hql)
   clear q0 q1 hb7 HB6 HI6 HBq HBp6 HSc hff hbl hql
   have z0 : W7.cell? ⟨bq, 0, none⟩ = some (.string q.nm) := by rw [HBq7.out.cell]; rfl
   have z1 : W7.cell? ⟨bq, 1, none⟩ = some (.slice M1 q.params.length k1) := by rw [HBq7.out.cell]; rfl
   have z2 : W7.cell? ⟨bq, 2, none⟩ = some (.slice M2 q.vars.length k2) := by rw [HBq7.out.cell]; rfl
   have z3 : W7.cell? ⟨bq, 3, none⟩ = some (.slice M3 q.body.length k3) := by rw [HBq7.out.cell]; rfl
   have z4 : W7.cell? ⟨bq, 4, none⟩ = some (.slice M4 q.end_.length k4) := by rw [HBq7.out.cell]; rfl
   go_wp2_with (go_at_call 50; refine (HLa.out W7 HI7.out).mono ?_; rintro e' W8 ⟨v8, rfl, ho8, hb8⟩; have HO8 := Lib.hid ho8; clear ho8)
   (first | go_ret | go_ret2)
   exact ⟨v8, rfl, by rw [HRv.out]; exact own_lower HO8.out HB7.out.size, below_step HB7.out hb8⟩
  ·have hr1 : (rc == 0) = false := beq_eq_false_iff_ne.2 hr
   have hr2 : (rc != 0) = true := by simp [bne, hr1]
   have HCn : Hid (¬ chkOK p = true) := Lib.hid (by rw [HCk.out]; simpa using hr)
   clear hr HCk
   go_wp2_with (go_at_call 40; refine (HSc.out V6 HI6.out).mono ?_; rintro e' W7 ⟨rfl, hb7⟩)
   (first | go_ret | go_ret2)
   refine ⟨_, rfl, ?_, below_step HB6.out hb7⟩
   unfold rLab
   rw [if_neg (fun h => HCn.out h.2)]
   exact World.ownsRow_nil _ _ _ _
set_option maxHeartbeats 4000000 in
set_option maxRecDepth 100000 in
theorem rAt_any {w : World} {Q : Nat → Prop} {p : Pg} {c0 c1 : Value} (h : ProgI w Q p [c0, c1]) (hsm : SmG p) (hb : LbOk p) (proc label : ByteArray) (W : World) (hI : In Q w W) :
 Calls Tryz.prog 10 #[.agg #[c0, c1], .string proc, .string label] W fun e w' => e = .returned (.tuple #[.int .i64 (rAtD p proc label).1, .bool (rAtD p proc label).2]) ∧ Below W.heap.size W w' := by
 obtain ⟨res, hres⟩ : ∃ res, res = rAtD p proc label := ⟨_, rfl⟩
 rw [← hres]
 have HRs := Lib.hid hres
 clear hres
 have HPc := Lib.hid (fun V hV => rProc_any h proc V hV)
 have HSc := Lib.hid (fun V hV => rScope_any h hsm V hV)
 obtain ⟨Ag, cg, Ap, cp, rfl, rfl, _⟩ := prog_open h
 have HI := Lib.hid hI
 have HB := Lib.hid hb
 have hff : ∀ (a c : Int) (w : World), (Instr.field 34 (.agg #[.int .i64 a, .int .i64 c]) 0).run Tryz.prog w = .ok (.int .i64 a) w := fun _ _ _ => by kernel_rfl
 have HCk : Hid (chkOK p = decide ((chkP p).1 = 0)) := Lib.hid rfl
 clear h hI hb
 generalize hr : procP p proc = r at HPc
 have HRr := Lib.hid hr
 clear hr
 obtain ⟨q, rb⟩ := r
 go_enter Tryz.func10, Tryz.ntmps10
 go_upto_region 1 with fail
 have HB0 : Hid (Below W.heap.size W (W.alloc (.cells #[.slice Ag p.globals.length cg, .slice Ap p.procs.length cp] 25))) := Lib.hid (below_box _)
 have HBp0 : Hid (Blk (W.alloc (.cells #[.slice Ag p.globals.length cg, .slice Ap p.procs.length cp] 25)) W.heap.size 25 #[.slice Ag p.globals.length cg, .slice Ap p.procs.length cp]) := Lib.hid (Blk.new _ _ _)
 generalize World.alloc _ _ = W0 at HB0 HBp0 ⊢
 have HI0 := Lib.hid (HI.out.on HB0.out)
 generalize hbe : W.heap.size = b at HBp0 ⊢
 clear hbe
 have q0 : W0.cell? ⟨b, 0, none⟩ = some (.slice Ag p.globals.length cg) := by rw [HBp0.out.cell]; rfl
 have q1 : W0.cell? ⟨b, 1, none⟩ = some (.slice Ap p.procs.length cp) := by rw [HBp0.out.cell]; rfl
 go_upto_region 2 with (go_at_call 39; refine (HPc.out W0 HI0.out).mono ?_; rintro e' W6 ⟨d0, d1, d2, d3, d4, rfl, hb6, hp6⟩; have hp6' := hp6; obtain ⟨vp, vv, vb, ve, hc, hn', hpp, hvv, hbb, hee⟩ := hp6'; simp only [List.cons.injEq, and_true] at hc; obtain ⟨rfl, rfl, rfl, rfl, rfl⟩ := hc; obtain ⟨M1, k1, rfl, _, _⟩ := hpp.shape; obtain ⟨M2, k2, rfl, _, _⟩ := hvv.shape; obtain ⟨M3, k3, rfl, _⟩ := hbb.shape; obtain ⟨M4, k4, rfl, _⟩ := hee.shape; have HPi := Lib.hid hp6; have HEe := Lib.hid hee; clear hn' hpp hvv hbb hee hp6)
 (try simp only at HPi HEe ⊢)
 have HB6 : Hid (Below W.heap.size W (W6.alloc (.cells #[.string q.nm, .slice M1 q.params.length k1, .slice M2 q.vars.length k2, .slice M3 q.body.length k3, .slice M4 q.end_.length k4] 43))) := Lib.hid (below_step HB0.out (below_stepA hb6 _))
 have HBq : Hid (Blk (W6.alloc (.cells #[.string q.nm, .slice M1 q.params.length k1, .slice M2 q.vars.length k2, .slice M3 q.body.length k3, .slice M4 q.end_.length k4] 43)) W6.heap.size 43 #[.string q.nm, .slice M1 q.params.length k1, .slice M2 q.vars.length k2, .slice M3 q.body.length k3, .slice M4 q.end_.length k4]) := Lib.hid (Blk.new _ _ _)
 have HBp6 : Hid (Blk (W6.alloc (.cells #[.string q.nm, .slice M1 q.params.length k1, .slice M2 q.vars.length k2, .slice M3 q.body.length k3, .slice M4 q.end_.length k4] 43)) b 25 #[.slice Ag p.globals.length cg, .slice Ap p.procs.length cp]) := Lib.hid ((HBp0.out.below hb6 HBp0.out.lt).alloc _)
 clear hb6 q0 q1 HPc HBp0 HI0 HB0
 generalize World.alloc W6 _ = V6 at HB6 HBq HBp6 ⊢
 generalize W6.heap.size = bq at HBq ⊢
 have HI6 := Lib.hid (HI.out.on HB6.out)
 have q0 : V6.cell? ⟨b, 0, none⟩ = some (.slice Ag p.globals.length cg) := by rw [HBp6.out.cell]; rfl
 have q1 : V6.cell? ⟨b, 1, none⟩ = some (.slice Ap p.procs.length cp) := by rw [HBp6.out.cell]; rfl
 have hbl := HBp6.out.lt
 have hql := HBq.out.lt
 cases rb with
 | false =>
  go_wp2_with fail
  (first | go_ret | go_ret2)
  exact ⟨(by rw [HRs.out]; unfold rAtD; rw [HRr.out, if_neg (fun h => by cases h.1)]; rfl), HB6.out⟩
 | true =>
  generalize hcr : chkP p = cr at HSc HCk
  clear hcr
  obtain ⟨rc, ri⟩ := cr
  simp only at HCk
  by_cases hr : rc = 0
  ·subst hr
   have HCk := Lib.hid (show chkOK p = true from HCk.out)
   have HFl := Lib.hid (fun V hV => Flat_any (W := V) HPi.out hV hV.1)
   have HRv : Hid (res = bearsD (flatOf q) q.end_ label) := Lib.hid (by rw [HRs.out]; unfold rAtD; rw [HRr.out, if_pos ⟨rfl, HCk.out⟩])
   go_upto_region 4 with (go_at_call 40; refine (HSc.out V6 HI6.out).mono ?_; rintro e' W7 ⟨rfl, hb7⟩)
   have HB7 := Lib.hid (below_step HB6.out hb7)
   have HI7 := Lib.hid (HI6.out.on hb7)
   have HBq7 := Lib.hid (HBq.out.below hb7 hql)
   clear q0 q1 hb7 HB6 HI6 HBq HBp6 HSc hff hbl hql
   generalize flatOf q = its at HFl HRv
   have HBe : Hid (∀ (Q0 : Nat → Prop) (W9 V : World) (X : Option Addr) (c : Nat), SliceI W9 Q0 16 (ItemI w Q) its (.slice X its.length c) → In Q0 W9 V → In Q w V → Calls Tryz.prog 41 #[.slice X its.length c, .slice M4 q.end_.length k4, .string label] V fun e w' => e = .returned (.tuple #[.int .i64 res.1, .bool res.2]) ∧ Below V.heap.size V w') := Lib.hid (fun Q0 W9 V X c h1 h2 h3 => by
    have h := rBears_any h1 h2 h3 HEe.out h3 label
    rw [← HRv.out] at h
    exact h)
   obtain ⟨ra, rb⟩ := res
   simp only at HBe
   clear HRv HRs HEe
   have z0 : W7.cell? ⟨bq, 0, none⟩ = some (.string q.nm) := by rw [HBq7.out.cell]; rfl
   have z1 : W7.cell? ⟨bq, 1, none⟩ = some (.slice M1 q.params.length k1) := by rw [HBq7.out.cell]; rfl
   have z2 : W7.cell? ⟨bq, 2, none⟩ = some (.slice M2 q.vars.length k2) := by rw [HBq7.out.cell]; rfl
   have z3 : W7.cell? ⟨bq, 3, none⟩ = some (.slice M3 q.body.length k3) := by rw [HBq7.out.cell]; rfl
   have z4 : W7.cell? ⟨bq, 4, none⟩ = some (.slice M4 q.end_.length k4) := by rw [HBq7.out.cell]; rfl
   have hql := HBq7.out.lt
   have HS7 : Hid (∀ w' : World, Below W7.heap.size W7 w' → (w'.cell? ⟨bq, 0, none⟩ = some (.string q.nm) ∧ w'.cell? ⟨bq, 1, none⟩ = some (.slice M1 q.params.length k1) ∧ w'.cell? ⟨bq, 2, none⟩ = some (.slice M2 q.vars.length k2) ∧ w'.cell? ⟨bq, 3, none⟩ = some (.slice M3 q.body.length k3) ∧ w'.cell? ⟨bq, 4, none⟩ = some (.slice M4 q.end_.length k4))) := Lib.hid (fun w' hb => ⟨(hb.cell (p := ⟨bq, 0, none⟩) hql).trans z0, (hb.cell (p := ⟨bq, 1, none⟩) hql).trans z1, (hb.cell (p := ⟨bq, 2, none⟩) hql).trans z2, (hb.cell (p := ⟨bq, 3, none⟩) hql).trans z3, (hb.cell (p := ⟨bq, 4, none⟩) hql).trans z4⟩)
   have hBD : Below W7.heap.size W7 W7.drew := (Below.refl _ _).drew
   have hdr : ∀ V : World, In Q w V → In Q w V.drew := fun V h => h
   go_region_held3 (fun w' => w'.cell? ⟨bq, 0, none⟩ = some (.string q.nm) ∧ w'.cell? ⟨bq, 1, none⟩ = some (.slice M1 q.params.length k1) ∧ w'.cell? ⟨bq, 2, none⟩ = some (.slice M2 q.vars.length k2) ∧ w'.cell? ⟨bq, 3, none⟩ = some (.slice M3 q.body.length k3) ∧ w'.cell? ⟨bq, 4, none⟩ = some (.slice M4 q.end_.length k4))
    ((refine HS7.out _ ?_; with_reducible assumption))
    (first
     | (go_at_call 27; (with_reducible refine (HFl.out W7.drew (hdr W7 HI7.out)).mono ?_); rintro e' W9 ⟨v9, rows9, rfl, ho9, ha9, hb9⟩; obtain ⟨X9, cx9, rfl, hx9, hx9'⟩ := own_shape ho9; have k9 : Below W7.heap.size W7 W9 := hBD.trans hb9; have HSl := Lib.hid (slice_of_own ho9 ha9 (fun x cs h => by obtain ⟨c, rfl, hc⟩ := h; obtain ⟨_, _, _, _, _, _, _, _, _, _, _, _, _, _, _, _, _, _, _, _, _, _, _, _, _, rfl, _⟩ := stmt_open hc; rfl)); clear ho9 ha9 hb9)
     | (go_at_call 41; (with_reducible refine (HBe.out _ W9 W9 X9 cx9 HSl.out (in_self9 _ W9) (HI7.out.on k9)).mono ?_); rintro e' W10 ⟨rfl, hb10⟩; have k10 : Below W7.heap.size W7 W10 := below_step k9 hb10))
   go_wp2_with fail
   (first | go_ret | go_ret2)
   exact ⟨rfl, below_step HB7.out k10⟩
  ·have hr1 : (rc == 0) = false := beq_eq_false_iff_ne.2 hr
   have hr2 : (rc != 0) = true := by simp [bne, hr1]
   have HCn : Hid (¬ chkOK p = true) := Lib.hid (by rw [HCk.out]; simpa using hr)
   clear hr HCk
   go_wp2_with (go_at_call 40; refine (HSc.out V6 HI6.out).mono ?_; rintro e' W7 ⟨rfl, hb7⟩)
   (first | go_ret | go_ret2)
   exact ⟨(by rw [HRs.out]; unfold rAtD; rw [if_neg (fun h => HCn.out h.2)]; rfl), below_step HB6.out hb7⟩
end Go.Proofs.YtehpinnmalpgpaaGreat
namespace Go.Proofs.YtehpinnmalpgpaaGreat
open Go.ChangeShapes Go.WideShapes Go.ChangeAt Go.RowKit Go.Deep
set_option linter.unusedVariables false
theorem some_chk : (chkP someP).1 = 0 := by
 unfold chkP
 rw [if_pos some_may]
 decide +kernel
theorem empty_smG : SmG ⟨[], []⟩ := ⟨by decide, by decide, fun q hq => absurd hq (by simp)⟩
end Go.Proofs.YtehpinnmalpgpaaGreat
namespace Go.Proofs.YtehpinnmalpgpaaGreat
open Go.ChangeShapes Go.WideShapes Go.ChangeAt Go.RowKit Go.Deep
set_option linter.unusedVariables false
set_option linter.unusedSimpArgs false
theorem some_ck : chkOK someP = true := by
 unfold chkOK
 rw [some_chk]
 rfl
theorem some_jf : jfP someP ⟨#[112]⟩ = 1 := by
 unfold jfP
 rw [if_pos some_ck]
 decide +kernel
theorem some_at : jAt someP ⟨#[112]⟩ ⟨#[101]⟩ = (-1, true) := by
 unfold jAt
 rw [some_jf]
 decide +kernel
theorem some_lab : (jLabels someP ⟨#[112]⟩).length = 1 := by
 unfold jLabels
 rw [some_jf]
 decide +kernel
theorem empty_jc : jCheck ⟨[], []⟩ = (1, 0) := by decide +kernel
set_option maxHeartbeats 2000000 in
set_option maxRecDepth 100000 in
theorem jumping_any (W : World) : Calls Tryz.prog 6 #[] W (MayOk true W) := by
 go_enter Tryz.func6, Tryz.ntmps6
 go_upto_region 1 with fail
 go_upto_region 2 with (go_at_call 31; refine (Some_any _).mono ?_; rintro e w1 ⟨c0, c1, rfl, hb1, hp1⟩; obtain ⟨Ag, cg, Ap, cp, rfl, rfl, _⟩ := prog_open hp1)
 have HI1 : Hid (In (nw W w1) w1 (w1.alloc (.cells #[.slice Ag someP.globals.length cg, .slice Ap someP.procs.length cp] 25))) := Lib.hid (In.on ⟨fun b h => h.2, fun _ _ => rfl⟩ (below_box _))
 have HB1 : Hid (Below W.heap.size W (w1.alloc (.cells #[.slice Ag someP.globals.length cg, .slice Ap someP.procs.length cp] 25))) := Lib.hid (below_stepA hb1 _)
 have HBp : Hid (Blk (w1.alloc (.cells #[.slice Ag someP.globals.length cg, .slice Ap someP.procs.length cp] 25)) w1.heap.size 25 #[.slice Ag someP.globals.length cg, .slice Ap someP.procs.length cp]) := Lib.hid (Blk.new _ _ _)
 have HPi := Lib.hid hp1
 clear hp1 hb1
 generalize World.alloc w1 _ = W2 at HI1 HB1 HBp ⊢
 generalize w1.heap.size = b at HBp ⊢
 have HAt := Lib.hid (jAt_any HPi.out some_smG ⟨#[112]⟩ ⟨#[101]⟩ W2 HI1.out)
 rw [some_at] at HAt
 have HLa := Lib.hid (fun V hV => jLabels_any HPi.out some_smG ⟨#[112]⟩ V hV)
 have HCe := Lib.hid (fun V : World => jCheck_any (empty_prog W (fun _ => False)) empty_smG V ⟨fun _ h => h.elim, fun _ h => h.elim⟩)
 rw [empty_jc] at HCe
 have q0 : W2.cell? ⟨b, 0, none⟩ = some (.slice Ag someP.globals.length cg) := by rw [HBp.out.cell]; rfl
 have q1 : W2.cell? ⟨b, 1, none⟩ = some (.slice Ap someP.procs.length cp) := by rw [HBp.out.cell]; rfl
 go_upto_region 3 with (go_at_call 9; refine HAt.out.mono ?_; rintro e w3 ⟨rfl, hb3⟩)
 have HB3 := Lib.hid (below_step HB1.out hb3)
 have HI3 := Lib.hid (HI1.out.on hb3)
 have HBp3 := Lib.hid (HBp.out.below hb3 HBp.out.lt)
 clear q0 q1 hb3 HB1 HI1 HBp HAt
 have q0 : w3.cell? ⟨b, 0, none⟩ = some (.slice Ag someP.globals.length cg) := by rw [HBp3.out.cell]; rfl
 have q1 : w3.cell? ⟨b, 1, none⟩ = some (.slice Ap someP.procs.length cp) := by rw [HBp3.out.cell]; rfl
 have hln := some_lab
 go_wp2_with (first
  | (go_at_call 16; (with_reducible refine (HLa.out w3 HI3.out).mono ?_); rintro e w4 ⟨v4, rfl, ho4, hb4⟩; rw [hln] at ho4; obtain ⟨X4, k4, rfl, _, _⟩ := own_shape ho4; have HB4 := Lib.hid (below_step HB3.out hb4); clear hb4)
  | (go_at_call 13; (with_reducible refine (HCe.out w4).mono ?_); rintro e w5 ⟨rfl, hb5⟩))
 go_ret
 exact ⟨rfl, below_step HB4.out hb5⟩
end Go.Proofs.YtehpinnmalpgpaaGreat
