/- Scope: what a name stands for, a procedure's names, a procedure by its name (ScopeAll, whittlerlaw6). -/
import Derived.Test.YtkbjlnmdlolhiaaTreeS8
import Derived.Test.YtkbjlnmdlolhiaaTreeN16
import Derived.Test.YtkbjlnmdlolhiaaTreeWW
namespace Go.Proofs.Ytkbjlnmdlolhiaa
open Go.ChangeShapes Go.WideShapes Go.ChangeAt Go.RowKit Go.Deep
set_option linter.unusedVariables false
set_option linter.unusedSimpArgs false
theorem one_prog {w V : World} {Q : Nat → Prop} {q : Pr} {cs : List Value} (h : ProcI w Q q cs) (hI : In Q w V) :
  ProgI (V.alloc (.cells cs.toArray 47)) (fun k => Q k ∨ k = V.heap.size) ⟨[], [q]⟩ [.slice none 0 0, .slice (some ⟨V.heap.size, 0, none⟩) 1 1] ∧ In (fun k => Q k ∨ k = V.heap.size) (V.alloc (.cells cs.toArray 47)) (V.alloc (.cells cs.toArray 47)) := by
 have hI' := hI.alloc (.cells cs.toArray 47)
 refine ⟨⟨_, _, rfl, nil_slice, ⟨_, 1, fun _ => cs, rfl, ⟨Nat.le_refl _, by omega⟩, fun _ => ⟨_, rfl, .inr rfl, fun i hi j u hu => ?_⟩, fun i hi => ?_⟩⟩, ⟨fun b hb => ?_, fun _ _ => rfl⟩⟩
 ·have hi0 : i = 0 := by simp at hi; exact hi
  subst hi0
  rw [Nat.zero_mul, Nat.zero_add, addr0, (Blk.new V 47 cs.toArray).cell]
  simpa using hu
 ·have hi0 : i = 0 := by simp at hi; exact hi
  subst hi0
  exact h.keep (fun k hk => .inl hk) hI'.2
 ·rcases hb with hb | rfl
  ·exact hI'.1 b hb
  ·simp
theorem vars_small {p : Pg} (hsm : SmG p) (hm : mayP p = true) (proc : ByteArray) : ∀ s ∈ varsP p proc, s.size ≤ 9223372036854775807 := by
 intro s hs
 unfold varsP at hs
 rw [if_pos hm] at hs
 cases hf : p.procs.find? (isQ proc) with
 | none => rw [hf] at hs; cases hs
 | some q =>
  rw [hf, Option.elim_some] at hs
  have hc := U.smC_of hsm hm
  obtain ⟨_, h2, h3, _⟩ := hc.proc _ (List.mem_of_find?_eq_some hf)
  unfold namesP at hs
  simp only [List.mem_append, List.mem_map] at hs
  rcases hs with (hs | ⟨x, hx, rfl⟩) | hs
  ·exact Nat.le_trans (hc.globals.2 _ hs) (by omega)
  ·exact Nat.le_trans (h2.2 _ hx) (by omega)
  ·exact Nat.le_trans (h3.2 _ hs) (by omega)
set_option maxHeartbeats 4000000 in
set_option maxRecDepth 100000 in
theorem scopeAll_walk {w : World} {Q : Nat → Prop} {p : Pg} {c0 c1 : Value} (h : ProgI w Q p [c0, c1]) (proc : ByteArray) (hproc : proc.size ≤ maxLen) (name : ByteArray) (hname : name.size ≤ maxLen) (W : World) (hI : In Q w W) :
  Calls Try.prog 8 #[.agg #[c0, c1], .string proc, .string name] W fun e w' => e = .returned (.bool true) ∧ Below W.heap.size W w' := by
 have HP := Lib.hid h
 have HF := Lib.hid (fun V h1 => Fits_any h V h1)
 have HM := Lib.hid (fun V h1 => May_any h V h1)
 have HK := Lib.hid (fun V h1 => Kind_any h proc name V h1)
 have HRK := Lib.hid (fun V h1 => rKind_any h proc name V h1)
 have HRV := Lib.hid (fun V h1 => rVars_any h proc V h1)
 have HRP := Lib.hid (fun V h1 => rProc_any h proc V h1)
 have HI := Lib.hid hI
 obtain ⟨Ag, cg, Ap, cp, rfl, rfl, _⟩ := prog_open h
 clear h hI hproc hname
 go_enter Try.func8, Try.ntmps8
 go_upto_region 1 with fail
 have HB0 : Hid (Below W.heap.size W (W.alloc (.cells #[.slice Ag p.globals.length cg, .slice Ap p.procs.length cp] 25))) := Lib.hid (below_box _)
 have HBp0 : Hid (Blk (W.alloc (.cells #[.slice Ag p.globals.length cg, .slice Ap p.procs.length cp] 25)) W.heap.size 25 #[.slice Ag p.globals.length cg, .slice Ap p.procs.length cp]) := Lib.hid (Blk.new _ _ _)
 generalize World.alloc _ _ = W0 at HB0 HBp0 ⊢
 have HI0 := Lib.hid (HI.out.on HB0.out)
 generalize hbe : W.heap.size = b at HBp0 ⊢
 clear hbe
 go_upto_region 3 with (go_at_call 32; refine (known_any W0).mono ?_; rintro e' W1 ⟨rfl, hb1⟩)
 have HB1 : Hid (Below W.heap.size W W1) := Lib.hid (below_step HB0.out hb1)
 have HI1 := Lib.hid (HI0.out.on hb1)
 have HBp1 := Lib.hid (HBp0.out.below hb1 HBp0.out.lt)
 clear hb1 HB0 HBp0 HI0
 have q0 : W1.cell? ⟨b, 0, none⟩ = some (.slice Ag p.globals.length cg) := by rw [HBp1.out.cell]; rfl
 have q1 : W1.cell? ⟨b, 1, none⟩ = some (.slice Ap p.procs.length cp) := by rw [HBp1.out.cell]; rfl
 have hbl := HBp1.out.lt
 cases hf : fitsP p with
 | false =>
  rw [hf] at HF
  clear hf
  go_wp2_with (go_at_call 16; refine (HF.out _ HI1.out).mono ?_; rintro e' W2 ⟨rfl, hb2⟩)
  go_ret
  exact ⟨rfl, below_step HB1.out hb2⟩
 | true =>
  have HV := Lib.hid (fun V h1 => Vars_any HP.out (fits_smG hf) proc V h1)
  have HPc := Lib.hid (fun V h1 => Proc_any HP.out (fits_smG hf) proc V h1)
  have HSg := Lib.hid (fits_smG hf)
  rw [hf] at HF
  clear hf
  go_upto_region 5 with (go_at_call 16; refine (HF.out _ HI1.out).mono ?_; rintro e' W2 ⟨rfl, hb2⟩)
  have HB2 : Hid (Below W.heap.size W W2) := Lib.hid (below_step HB1.out hb2)
  have HI2 := Lib.hid (HI1.out.on hb2)
  have HBp2 := Lib.hid (HBp1.out.below hb2 hbl)
  clear hb2 HB1 HI1 HBp1 q0 q1 hbl HF
  have q0 : W2.cell? ⟨b, 0, none⟩ = some (.slice Ag p.globals.length cg) := by rw [HBp2.out.cell]; rfl
  have q1 : W2.cell? ⟨b, 1, none⟩ = some (.slice Ap p.procs.length cp) := by rw [HBp2.out.cell]; rfl
  have hbl := HBp2.out.lt
  cases hm : mayP p with
  | false =>
   have hk0 : kindP p proc name = 0 := by unfold kindP; rw [hm]; rfl
   have hv0 : varsP p proc = [] := by unfold varsP; rw [hm]; rfl
   rw [hk0] at HK
   rw [hv0] at HV
   rw [hm] at HM
   clear hm hk0 hv0
   go_wp2_with (first
    | (go_at_call 17; (with_reducible refine (HM.out W2 HI2.out).mono ?_); rintro e' W3 ⟨rfl, hb3⟩; have HI3 := Lib.hid (HI2.out.on hb3); have HB3 := Lib.hid (below_step HB2.out hb3); have r0 : W3.cell? ⟨b, 0, none⟩ = some (.slice Ag p.globals.length cg) := (hb3.cell (p := ⟨b, 0, none⟩) hbl).trans q0; have r1 : W3.cell? ⟨b, 1, none⟩ = some (.slice Ap p.procs.length cp) := (hb3.cell (p := ⟨b, 1, none⟩) hbl).trans q1; have hbl3 := Nat.lt_of_lt_of_le hbl hb3.size)
    | (go_at_call 33; (with_reducible refine (HK.out W3 HI3.out).mono ?_); rintro e' W4 ⟨rfl, hb4⟩; have HI4 := Lib.hid (HI3.out.on hb4); have HB4 := Lib.hid (below_step HB3.out hb4); have s0 : W4.cell? ⟨b, 0, none⟩ = some (.slice Ag p.globals.length cg) := (hb4.cell (p := ⟨b, 0, none⟩) hbl3).trans r0; have s1 : W4.cell? ⟨b, 1, none⟩ = some (.slice Ap p.procs.length cp) := (hb4.cell (p := ⟨b, 1, none⟩) hbl3).trans r1)
    | (go_at_call 34; (with_reducible refine (HV.out W4 HI4.out).mono ?_); rintro e' W5 ⟨v5, rfl, ho5, hb5⟩; obtain ⟨X5, k5, rfl, _, _⟩ := own_shape ho5))
   go_ret
   exact ⟨rfl, below_step HB4.out hb5⟩
  | true =>
   have hsv := vars_small HSg.out hm proc
   rw [hm] at HM
   clear hm
   go_upto_region 7 with (go_at_call 17; refine (HM.out W2 HI2.out).mono ?_; rintro e' W3 ⟨rfl, hb3⟩)
   have HB3 : Hid (Below W.heap.size W W3) := Lib.hid (below_step HB2.out hb3)
   have HI3 := Lib.hid (HI2.out.on hb3)
   have HBp3 := Lib.hid (HBp2.out.below hb3 hbl)
   clear hb3 HB2 HI2 HBp2 q0 q1 hbl HM
   have q0 : W3.cell? ⟨b, 0, none⟩ = some (.slice Ag p.globals.length cg) := by rw [HBp3.out.cell]; rfl
   have q1 : W3.cell? ⟨b, 1, none⟩ = some (.slice Ap p.procs.length cp) := by rw [HBp3.out.cell]; rfl
   have hbl := HBp3.out.lt
   generalize kindP p proc name = z at HK HRK
   generalize varsP p proc = vl at HV HRV hsv
   have HSv := Lib.hid hsv
   clear hsv
   generalize procP p proc = r at HPc HRP
   obtain ⟨rq, rb⟩ := r
   go_upto_region 8 with (go_at_call 35; refine (HPc.out W3 HI3.out).mono ?_; rintro e' W4 ⟨d0, d1, d2, d3, d4, rfl, hb4, hp4⟩; obtain ⟨vp, vv, vb, ve, hc, hn', hpp, hvv, hbb, hee⟩ := hp4; simp only [List.cons.injEq, and_true] at hc; obtain ⟨rfl, rfl, rfl, rfl, rfl⟩ := hc; obtain ⟨qP, qpc, rfl, _, _⟩ := hpp.shape; obtain ⟨qV, qvc, rfl, _, _⟩ := hvv.shape; obtain ⟨qB, qbc, rfl, _⟩ := hbb.shape; obtain ⟨qE, qec, rfl, _⟩ := hee.shape; have HqI := Lib.hid (show ProcI _ _ _ _ from ⟨_, _, _, _, rfl, hn', hpp, hvv, hbb, hee⟩); clear hn' hpp hvv hbb hee)
   have HI4 := Lib.hid (HI3.out.on (below_stepA hb4 (.cells #[.string rq.nm, .slice qP rq.params.length qpc, .slice qV rq.vars.length qvc, .slice qB rq.body.length qbc, .slice qE rq.end_.length qec] 47)))
   have HB4 : Hid (Below W.heap.size W (W4.alloc (.cells #[.string rq.nm, .slice qP rq.params.length qpc, .slice qV rq.vars.length qvc, .slice qB rq.body.length qbc, .slice qE rq.end_.length qec] 47))) := Lib.hid (below_stepA (below_step HB3.out hb4) _)
   have HBp4 : Hid (Blk (W4.alloc (.cells #[.string rq.nm, .slice qP rq.params.length qpc, .slice qV rq.vars.length qvc, .slice qB rq.body.length qbc, .slice qE rq.end_.length qec] 47)) b 25 #[.slice Ag p.globals.length cg, .slice Ap p.procs.length cp]) := Lib.hid ((HBp3.out.below hb4 hbl).alloc _)
   have HBq4 : Hid (Blk (W4.alloc (.cells #[.string rq.nm, .slice qP rq.params.length qpc, .slice qV rq.vars.length qvc, .slice qB rq.body.length qbc, .slice qE rq.end_.length qec] 47)) W4.heap.size 47 #[.string rq.nm, .slice qP rq.params.length qpc, .slice qV rq.vars.length qvc, .slice qB rq.body.length qbc, .slice qE rq.end_.length qec]) := Lib.hid (Blk.new _ _ _)
   have HIq4 : Hid (In (fun j => W3.heap.size ≤ j ∧ j < W4.heap.size) W4 (W4.alloc (.cells #[.string rq.nm, .slice qP rq.params.length qpc, .slice qV rq.vars.length qvc, .slice qB rq.body.length qbc, .slice qE rq.end_.length qec] 47))) := Lib.hid (In.on ⟨fun j h => h.2, fun _ _ => rfl⟩ (below_box _))
   clear hb4 q0 q1 hbl HB3 HI3 HBp3 HPc
   generalize hW5 : World.alloc W4 _ = W5 at HI4 HB4 HBp4 HBq4 HIq4 ⊢
   clear hW5
   generalize W4.heap.size = bq at HBq4 HqI HIq4 ⊢
   have q0 : W5.cell? ⟨b, 0, none⟩ = some (.slice Ag p.globals.length cg) := by rw [HBp4.out.cell]; rfl
   have q1 : W5.cell? ⟨b, 1, none⟩ = some (.slice Ap p.procs.length cp) := by rw [HBp4.out.cell]; rfl
   have hbl := HBp4.out.lt
   go_upto_region 9 with (go_at_call 36; refine (HRP.out W5 HI4.out).mono ?_; rintro e' W6 ⟨d0, d1, d2, d3, d4, rfl, hb6, hp6⟩; obtain ⟨vp, vv, vb, ve, hc, hn', hpp, hvv, hbb, hee⟩ := hp6; simp only [List.cons.injEq, and_true] at hc; obtain ⟨rfl, rfl, rfl, rfl, rfl⟩ := hc; obtain ⟨rP, rpc, rfl, _, _⟩ := hpp.shape; obtain ⟨rV, rvc, rfl, _, _⟩ := hvv.shape; obtain ⟨rB, rbc, rfl, _⟩ := hbb.shape; obtain ⟨rE, rec_, rfl, _⟩ := hee.shape; have HrI := Lib.hid (show ProcI _ _ _ _ from ⟨_, _, _, _, rfl, hn', hpp, hvv, hbb, hee⟩); clear hn' hpp hvv hbb hee)
   have HI7 := Lib.hid (HI4.out.on (below_stepA hb6 (.cells #[.string rq.nm, .slice rP rq.params.length rpc, .slice rV rq.vars.length rvc, .slice rB rq.body.length rbc, .slice rE rq.end_.length rec_] 47)))
   have HIq7 := Lib.hid (HIq4.out.on (below_stepA hb6 (.cells #[.string rq.nm, .slice rP rq.params.length rpc, .slice rV rq.vars.length rvc, .slice rB rq.body.length rbc, .slice rE rq.end_.length rec_] 47)))
   have HB7 : Hid (Below W.heap.size W (W6.alloc (.cells #[.string rq.nm, .slice rP rq.params.length rpc, .slice rV rq.vars.length rvc, .slice rB rq.body.length rbc, .slice rE rq.end_.length rec_] 47))) := Lib.hid (below_stepA (below_step HB4.out hb6) _)
   have HBp7 : Hid (Blk (W6.alloc (.cells #[.string rq.nm, .slice rP rq.params.length rpc, .slice rV rq.vars.length rvc, .slice rB rq.body.length rbc, .slice rE rq.end_.length rec_] 47)) b 25 #[.slice Ag p.globals.length cg, .slice Ap p.procs.length cp]) := Lib.hid ((HBp4.out.below hb6 hbl).alloc _)
   have HBq7 : Hid (Blk (W6.alloc (.cells #[.string rq.nm, .slice rP rq.params.length rpc, .slice rV rq.vars.length rvc, .slice rB rq.body.length rbc, .slice rE rq.end_.length rec_] 47)) bq 47 #[.string rq.nm, .slice qP rq.params.length qpc, .slice qV rq.vars.length qvc, .slice qB rq.body.length qbc, .slice qE rq.end_.length qec]) := Lib.hid ((HBq4.out.below hb6 HBq4.out.lt).alloc _)
   have HBr7 : Hid (Blk (W6.alloc (.cells #[.string rq.nm, .slice rP rq.params.length rpc, .slice rV rq.vars.length rvc, .slice rB rq.body.length rbc, .slice rE rq.end_.length rec_] 47)) W6.heap.size 47 #[.string rq.nm, .slice rP rq.params.length rpc, .slice rV rq.vars.length rvc, .slice rB rq.body.length rbc, .slice rE rq.end_.length rec_]) := Lib.hid (Blk.new _ _ _)
   clear hb6 q0 q1 hbl HB4 HI4 HBp4 HBq4 HIq4 HRP
   generalize hW7 : World.alloc W6 _ = W7 at HI7 HB7 HBp7 HBq7 HBr7 HIq7 ⊢
   clear hW7
   generalize W6.heap.size = br at HBr7 ⊢
   have HqP := Lib.hid (fun V hV => one_prog (V := V) HqI.out hV)
   have HrP := Lib.hid (fun V hV => one_prog (V := V) HrI.out hV)
   have lb := HBp7.out.lt
   have lbq := HBq7.out.lt
   have lbr := HBr7.out.lt
   have x0 : W7.cell? ⟨b, 0, none⟩ = some (.slice Ag p.globals.length cg) := by rw [HBp7.out.cell]; rfl
   have x1 : W7.cell? ⟨b, 1, none⟩ = some (.slice Ap p.procs.length cp) := by rw [HBp7.out.cell]; rfl
   have x2 : W7.cell? ⟨bq, 0, none⟩ = some (.string rq.nm) := by rw [HBq7.out.cell]; rfl
   have x3 : W7.cell? ⟨bq, 1, none⟩ = some (.slice qP rq.params.length qpc) := by rw [HBq7.out.cell]; rfl
   have x4 : W7.cell? ⟨bq, 2, none⟩ = some (.slice qV rq.vars.length qvc) := by rw [HBq7.out.cell]; rfl
   have x5 : W7.cell? ⟨bq, 3, none⟩ = some (.slice qB rq.body.length qbc) := by rw [HBq7.out.cell]; rfl
   have x6 : W7.cell? ⟨bq, 4, none⟩ = some (.slice qE rq.end_.length qec) := by rw [HBq7.out.cell]; rfl
   have x7 : W7.cell? ⟨br, 0, none⟩ = some (.string rq.nm) := by rw [HBr7.out.cell]; rfl
   have x8 : W7.cell? ⟨br, 1, none⟩ = some (.slice rP rq.params.length rpc) := by rw [HBr7.out.cell]; rfl
   have x9 : W7.cell? ⟨br, 2, none⟩ = some (.slice rV rq.vars.length rvc) := by rw [HBr7.out.cell]; rfl
   have x10 : W7.cell? ⟨br, 3, none⟩ = some (.slice rB rq.body.length rbc) := by rw [HBr7.out.cell]; rfl
   have x11 : W7.cell? ⟨br, 4, none⟩ = some (.slice rE rq.end_.length rec_) := by rw [HBr7.out.cell]; rfl
   have HS : Hid (∀ w' : World, Below W7.heap.size W7 w' → (w'.cell? ⟨b, 0, none⟩ = some (.slice Ag p.globals.length cg) ∧ w'.cell? ⟨b, 1, none⟩ = some (.slice Ap p.procs.length cp) ∧ w'.cell? ⟨bq, 0, none⟩ = some (.string rq.nm) ∧ w'.cell? ⟨bq, 1, none⟩ = some (.slice qP rq.params.length qpc) ∧ w'.cell? ⟨bq, 2, none⟩ = some (.slice qV rq.vars.length qvc) ∧ w'.cell? ⟨bq, 3, none⟩ = some (.slice qB rq.body.length qbc) ∧ w'.cell? ⟨bq, 4, none⟩ = some (.slice qE rq.end_.length qec) ∧ w'.cell? ⟨br, 0, none⟩ = some (.string rq.nm) ∧ w'.cell? ⟨br, 1, none⟩ = some (.slice rP rq.params.length rpc) ∧ w'.cell? ⟨br, 2, none⟩ = some (.slice rV rq.vars.length rvc) ∧ w'.cell? ⟨br, 3, none⟩ = some (.slice rB rq.body.length rbc) ∧ w'.cell? ⟨br, 4, none⟩ = some (.slice rE rq.end_.length rec_))) := Lib.hid (fun w' hb => ⟨(hb.cell (p := ⟨b, 0, none⟩) lb).trans x0, (hb.cell (p := ⟨b, 1, none⟩) lb).trans x1, (hb.cell (p := ⟨bq, 0, none⟩) lbq).trans x2, (hb.cell (p := ⟨bq, 1, none⟩) lbq).trans x3, (hb.cell (p := ⟨bq, 2, none⟩) lbq).trans x4, (hb.cell (p := ⟨bq, 3, none⟩) lbq).trans x5, (hb.cell (p := ⟨bq, 4, none⟩) lbq).trans x6, (hb.cell (p := ⟨br, 0, none⟩) lbr).trans x7, (hb.cell (p := ⟨br, 1, none⟩) lbr).trans x8, (hb.cell (p := ⟨br, 2, none⟩) lbr).trans x9, (hb.cell (p := ⟨br, 3, none⟩) lbr).trans x10, (hb.cell (p := ⟨br, 4, none⟩) lbr).trans x11⟩)
   have hBD : Below W7.heap.size W7 W7.drew := (Below.refl _ _).drew
   clear HqI HrI
   generalize rq.nm = n0 at *
   generalize rq.params.length = n1 at *
   generalize rq.vars.length = n2 at *
   generalize rq.body.length = n3 at *
   generalize rq.end_.length = n4 at *
   have hdr : In Q w W7 → In Q w W7.drew := fun h => h
   have HR1 : Hid (∀ V : World, In Q w V → In (fun j => W3.heap.size ≤ j ∧ j < bq) W4 V → Calls Try.prog 22 #[.agg #[.slice none 0 0, .slice (some ⟨V.heap.size, 0, none⟩) 1 1], .agg #[.slice none 0 0, .slice (some ⟨V.heap.size + 1, 0, none⟩) 1 1]] ((V.alloc (.cells #[.string n0, .slice qP n1 qpc, .slice qV n2 qvc, .slice qB n3 qbc, .slice qE n4 qec] 47)).alloc (.cells #[.string n0, .slice rP n1 rpc, .slice rV n2 rvc, .slice rB n3 rbc, .slice rE n4 rec_] 47)) (MayOk true ((V.alloc (.cells #[.string n0, .slice qP n1 qpc, .slice qV n2 qvc, .slice qB n3 qbc, .slice qE n4 qec] 47)).alloc (.cells #[.string n0, .slice rP n1 rpc, .slice rV n2 rvc, .slice rB n3 rbc, .slice rE n4 rec_] 47)))) := Lib.hid (fun V h1 h2 => by
    have A := HqP.out V h2
    have B := HrP.out (V.alloc (.cells #[.string n0, .slice qP n1 qpc, .slice qV n2 qvc, .slice qB n3 qbc, .slice qE n4 qec] 47)) (h1.alloc _)
    have h := rEq_any A.1 B.1 (A.2.alloc _) B.2
    rw [eqB_self, World.size_alloc] at h
    exact h)
   have HR2 : Hid (∀ V : World, In Q w V → In (fun j => W3.heap.size ≤ j ∧ j < bq) W4 V → Calls Try.prog 22 #[.agg #[.slice none 0 0, .slice (some ⟨V.heap.size + 1, 0, none⟩) 1 1], .agg #[.slice none 0 0, .slice (some ⟨V.heap.size, 0, none⟩) 1 1]] ((V.alloc (.cells #[.string n0, .slice rP n1 rpc, .slice rV n2 rvc, .slice rB n3 rbc, .slice rE n4 rec_] 47)).alloc (.cells #[.string n0, .slice qP n1 qpc, .slice qV n2 qvc, .slice qB n3 qbc, .slice qE n4 qec] 47)) (MayOk true ((V.alloc (.cells #[.string n0, .slice rP n1 rpc, .slice rV n2 rvc, .slice rB n3 rbc, .slice rE n4 rec_] 47)).alloc (.cells #[.string n0, .slice qP n1 qpc, .slice qV n2 qvc, .slice qB n3 qbc, .slice qE n4 qec] 47)))) := Lib.hid (fun V h1 h2 => by
    have B := HrP.out V h1
    have A := HqP.out (V.alloc (.cells #[.string n0, .slice rP n1 rpc, .slice rV n2 rvc, .slice rB n3 rbc, .slice rE n4 rec_] 47)) (h2.alloc _)
    have h := rEq_any A.1 B.1 A.2 (B.2.alloc _)
    rw [eqB_self, World.size_alloc] at h
    exact h)
   cases rb
   all_goals (go_region_held3 (fun w' => w'.cell? ⟨b, 0, none⟩ = some (.slice Ag p.globals.length cg) ∧ w'.cell? ⟨b, 1, none⟩ = some (.slice Ap p.procs.length cp) ∧ w'.cell? ⟨bq, 0, none⟩ = some (.string n0) ∧ w'.cell? ⟨bq, 1, none⟩ = some (.slice qP n1 qpc) ∧ w'.cell? ⟨bq, 2, none⟩ = some (.slice qV n2 qvc) ∧ w'.cell? ⟨bq, 3, none⟩ = some (.slice qB n3 qbc) ∧ w'.cell? ⟨bq, 4, none⟩ = some (.slice qE n4 qec) ∧ w'.cell? ⟨br, 0, none⟩ = some (.string n0) ∧ w'.cell? ⟨br, 1, none⟩ = some (.slice rP n1 rpc) ∧ w'.cell? ⟨br, 2, none⟩ = some (.slice rV n2 rvc) ∧ w'.cell? ⟨br, 3, none⟩ = some (.slice rB n3 rbc) ∧ w'.cell? ⟨br, 4, none⟩ = some (.slice rE n4 rec_))
     ((refine HS.out _ ?_; first | with_reducible assumption | (with_reducible refine below_stepA ?_ _; first | with_reducible assumption | (with_reducible refine below_stepA ?_ _; with_reducible assumption))))
     (first
     | (go_at_call 33; (with_reducible refine (HK.out W7.drew (hdr HI7.out)).mono ?_); rintro e1 w1 ⟨rfl, h1⟩; have g1 : Below W7.heap.size W7 w1 := hBD.trans h1; have i1 := Lib.hid (HI7.out.on g1))
     | (go_at_call 37; (with_reducible refine (HRK.out w1 i1.out).mono ?_); rintro e2 w2 ⟨rfl, h2⟩; have g2 : Below W7.heap.size W7 w2 := below_step g1 h2; have i2 := Lib.hid (HI7.out.on g2))
     | (go_at_call 34; (with_reducible refine (HV.out w2 i2.out).mono ?_); rintro e3 w3 ⟨v3, rfl, o3, h3⟩; obtain ⟨X3, k3, rfl, _, _⟩ := own_shape o3; have g3 : Below W7.heap.size W7 w3 := below_step g2 h3; have i3 := Lib.hid (HI7.out.on g3); have T3 := Lib.hid (texts_of_own HSv.out o3).2; clear o3)
     | (go_at_call 39; (with_reducible refine (HRV.out w3 i3.out).mono ?_); rintro e4 w4 ⟨v4, rfl, o4, h4⟩; obtain ⟨X4, k4, rfl, _, _⟩ := own_shape o4; have g4 : Below W7.heap.size W7 w4 := below_step g3 h4; have i4 := Lib.hid (HI7.out.on g4); have T4 := Lib.hid (texts_of_own HSv.out o4).2; have HE := Lib.hid (EqTexts_any T3.out T4.out (In.on ⟨fun b h => h.2, fun _ _ => rfl⟩ h4) ⟨fun b h => h.2, fun _ _ => rfl⟩); rw [decide_eq_true rfl] at HE; clear o4)
     | (go_at_call 38; (with_reducible refine HE.out.mono ?_); rintro e5 w5 ⟨rfl, h5⟩; have g5 : Below W7.heap.size W7 w5 := below_step g4 h5; have i5 := Lib.hid (HI7.out.on g5); have j5 := Lib.hid (HIq7.out.on g5); have C1 := HR1.out w5 i5.out j5.out; have C2 := HR2.out w5 i5.out j5.out; have HC1 := Lib.hid C1; have HC2 := Lib.hid C2; clear C1 C2)
     | (go_at_call 22; (with_reducible refine HC1.out.mono ?_); rintro e6 w6 ⟨rfl, h6⟩; have g6 : Below W7.heap.size W7 w6 := below_step (below_stepA (below_stepA g5 _) _) h6)
     | (go_at_call 22; (with_reducible refine HC2.out.mono ?_); rintro e6 w6 ⟨rfl, h6⟩; have g6 : Below W7.heap.size W7 w6 := below_step (below_stepA (below_stepA g5 _) _) h6)))
   all_goals go_wp2_with fail
   all_goals go_ret
   all_goals exact ⟨rfl, below_step HB7.out g6⟩
end Go.Proofs.Ytkbjlnmdlolhiaa
