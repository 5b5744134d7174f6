/- Texts, merged by a program; only what is used. -/
import Derived.Test.YtcocilpifdjibaaK1
import Derived.Test.YtcocilpifdjibaaK2
import Derived.Test.YtcocilpifdjibaaK3
import Derived.Test.YtcocilpifdjibaaK4
import Derived.Test.YtcocilpifdjibaaK5
import Derived.Test.YtcocilpifdjibaaK6
import Derived.Test.YtcocilpifdjibaaK7
import Derived.Test.YtcocilpifdjibaaK8
import Derived.Test.YtcocilpifdjibaaK9
import Derived.Test.YtcocilpifdjibaaK10
import Derived.Test.YtcocilpifdjibaaK11
import Derived.Test.YtcocilpifdjibaaK12
import Derived.Test.YtcocilpifdjibaaK13
import Derived.Test.YtcocilpifdjibaaK14
import Derived.Test.YtcocilpifdjibaaK15
import Derived.Test.YtcocilpifdjibaaK18
import Derived.Test.YtcocilpifdjibaaK19
import Derived.Test.YtcocilpifdjibaaK20
import Derived.Test.YtcocilpifdjibaaK21
import Derived.Test.YtcocilpifdjibaaK23
import Derived.Test.YtcocilpifdjibaaK25
import Derived.Test.YtcocilpifdjibaaK26
import Derived.Test.YtcocilpifdjibaaK27
import Derived.Test.YtcocilpifdjibaaK28
import Derived.Test.YtcocilpifdjibaaK29
import Derived.Test.YtcocilpifdjibaaK30
namespace Go.Proofs.Ytcocilpifdjibaa
open Go.ChangeShapes Go.WideShapes Go.ChangeAt Go.RowKit Go.Deep
set_option linter.unusedVariables false
set_option linter.unusedSimpArgs false
theorem results_c1 {P : Program} {fn : Func} {p : Tmp} {ty : TypeId} (h : fn.results = #[.cell p ty]) (tmps : Array Value) (w : World) (g : Nat) (tt : TypeId) (cs : Array Value) (fr : Nat × Nat) (d : TypeDesc)
  (hp : tmps.getD p undef = .pointer (some ⟨g, 0, none⟩)) (hg : w.heap[g]? = some (.cells cs tt fr))
  (hu : P.underlying ty = some d) (hd : (match d with | .struct _ | .array _ _ => true | _ => false) = true) (hi : (P.info? ty).map (·.size) = some cs.size) :
  (results fn tmps).run P w = .ok (.agg cs) w := by
 have hp' : tmps[p]?.getD undef = .pointer (some ⟨g, 0, none⟩) := by simpa using hp
 simp [results, h, hp', asAddr, run_loadVar_row w g tt ty cs fr d hg hu hd hi]
theorem empty_texts {w : World} {Q : Nat → Prop} {A : Option Addr} {c : Nat} (hc : c ≤ 9223372036854775807) : TextsI w Q [] (.slice A 0 c) := ⟨A, c, fun _ => [], rfl, ⟨Nat.zero_le _, hc⟩, fun h => absurd h (by simp), fun i h => absurd h (by simp)⟩
theorem empty_prog (w : World) (Q : Nat → Prop) : ProgI w Q ⟨[], []⟩ [.slice none 0 0, .slice none 0 0] := ⟨_, _, rfl, nil_slice, nil_slice⟩
set_option maxHeartbeats 2000000 in
set_option maxRecDepth 100000 in
theorem Check_empty (W : World) : Calls Try.prog 45 #[.agg #[.slice none 0 0, .slice none 0 0]] W fun e w' => e = .returned (.agg #[.int .i64 5, .int .i64 0]) ∧ Below W.heap.size W w' := by
 have HM := Lib.hid (fun V : World => May_any (empty_prog W (fun _ => False)) V ⟨fun _ h => h.elim, fun _ h => h.elim⟩)
 rw [show mayP ⟨[], []⟩ = true by decide] at HM
 have HX := Lib.hid (fun (V : World) (A : Option Addr) (c : Nat) (hc : c ≤ 9223372036854775807) (s : ByteArray) => Index_any (W := V) (empty_texts (w := V) (Q := fun _ => False) (A := A) hc) ⟨fun _ h => h.elim, fun _ h => h.elim⟩ s)
 obtain ⟨i1, z1, hi, hzz, hy1, hy2⟩ := info_frT
 obtain ⟨M, hM⟩ : ∃ M, M = madeCells z1.cells 0 := ⟨_, rfl⟩
 have hmk : ∀ W : World, (Instr.makeSlice 22 (.int .i64 0) (.int .i64 0)).run Try.prog W = .ok (.slice (some ⟨W.heap.size, 0, none⟩) 0 0) (W.alloc (.cells M 9)) := fun W => by
  rw [hM]
  have h := run_make (P := Try.prog) W 22 9 i1 z1 Try.underlying22 hi hzz .i64 .i64 0 0 (Int.le_refl _) (Int.le_refl _) (by omega) (by omega)
  simpa using h
 clear hi hzz hy1 hy2 hM
 go_enter Try.func45, Try.ntmps45
 go_upto_region 1 with fail
 have HB0 : Hid (Below W.heap.size W ((W.alloc (.cells #[.slice none 0 0, .slice none 0 0] 25)).alloc (.cells #[.int .i64 0, .int .i64 0] 39))) := Lib.hid (below_two _ _)
 have HBp : Hid (Blk ((W.alloc (.cells #[.slice none 0 0, .slice none 0 0] 25)).alloc (.cells #[.int .i64 0, .int .i64 0] 39)) W.heap.size 25 #[.slice none 0 0, .slice none 0 0]) := Lib.hid ((Blk.new _ _ _).alloc _)
 have HBf : Hid (Blk ((W.alloc (.cells #[.slice none 0 0, .slice none 0 0] 25)).alloc (.cells #[.int .i64 0, .int .i64 0] 39)) (W.heap.size + 1) 39 #[.int .i64 0, .int .i64 0]) := Lib.hid (by have := Blk.new (W.alloc (.cells #[.slice none 0 0, .slice none 0 0] 25)) 39 #[.int .i64 0, .int .i64 0]; rw [World.size_alloc] at this; exact this)
 generalize World.alloc _ _ = V at HB0 HBp HBf ⊢
 have q0 : V.cell? ⟨W.heap.size, 0, none⟩ = some (.slice none 0 0) := by rw [HBp.out.cell]; rfl
 have q1 : V.cell? ⟨W.heap.size, 1, none⟩ = some (.slice none 0 0) := by rw [HBp.out.cell]; rfl
 go_upto_region 3 with (go_at_call 17; refine (HM.out V).mono ?_; rintro e w1 ⟨rfl, hb1⟩)
 have HB1 := Lib.hid (below_step HB0.out hb1)
 have HBp1 := Lib.hid (HBp.out.below hb1 HBp.out.lt)
 have HBf1 := Lib.hid (HBf.out.below hb1 HBf.out.lt)
 clear q0 q1 hb1 HB0 HBp HBf
 have q1 : w1.cell? ⟨W.heap.size, 1, none⟩ = some (.slice none 0 0) := by rw [HBp1.out.cell]; rfl
 go_upto_region 4 with fail
 have HB2 : Hid (Below W.heap.size W (w1.alloc (.cells M 9))) := Lib.hid (below_stepA HB1.out _)
 have HBp2 : Hid (Blk (w1.alloc (.cells M 9)) W.heap.size 25 #[.slice none 0 0, .slice none 0 0]) := Lib.hid (HBp1.out.alloc _)
 have HBf2 : Hid (Blk (w1.alloc (.cells M 9)) (W.heap.size + 1) 39 #[.int .i64 0, .int .i64 0]) := Lib.hid (HBf1.out.alloc _)
 clear q1 hmk
 generalize World.alloc w1 _ = w2 at HB2 HBp2 HBf2 ⊢
 generalize w1.heap.size = g at *
 have q1 : w2.cell? ⟨W.heap.size, 1, none⟩ = some (.slice none 0 0) := by rw [HBp2.out.cell]; rfl
 go_upto_region 5 with fail
 clear q1
 go_loopw [22] (fun i wr => i = .int .i64 0 ∧ Hid (wr = w2)) (fun i _ => 0)
 case atStart => exact ⟨rfl, Lib.hid rfl⟩
 case round =>
  obtain ⟨rfl, HR⟩ := hrel
  have hwr := HR.out
  subst hwr
  have f0 := HBf2.out.frozen 0
  have f1 := HBf2.out.frozen 1
  have y0 : wr.cell? ⟨W.heap.size + 1, 0, none⟩ = some (.int .i64 0) := by rw [HBf2.out.cell]; rfl
  have y1 : wr.cell? ⟨W.heap.size + 1, 1, none⟩ = some (.int .i64 0) := by rw [HBf2.out.cell]; rfl
  have hfl := HBf2.out.lt
  have hx : idxL (isT ⟨#[109, 97, 105, 110]⟩) [] 0 = -1 := rfl
  go_wp2_with (go_at_call 101; refine (HX.out wr (some ⟨g, 0, none⟩) 0 (by omega) _).mono ?_; rintro e w3 ⟨rfl, rfl⟩)
  (try simp only [Exit.inBlock, Exit.then])
  refine bodyPost_ret (results_c1 rfl _ _ (W.heap.size + 1) 39 #[.int .i64 5, .int .i64 0] (0, 0) _ rfl ?_ Try.underlying39 rfl (by kernel_rfl)) rfl ?_
  ·have h := (HBf2.out.set_ 0 (.int .i64 5)).set_ 1 (.int .i64 0)
   simp only [List.setIfInBounds_toArray, List.set_cons_zero, List.set_cons_succ] at h
   exact h
  ·exact ⟨rfl, below_setc (below_setc HB2.out (show W.heap.size ≤ W.heap.size + 1 by omega) _) (show W.heap.size ≤ W.heap.size + 1 by omega) _⟩
theorem some_may : mayP someP = true := by
 have n1 : isNm (bl bv) = true := by decide
 have n2 : isNm (bl bg) = true := by decide
 have n3 : isNm (bl bp) = true := by decide
 have n4 : isNm (bl bx) = true := by decide
 have n5 : isNm (bl by_) = true := by decide
 have n6 : isNm (bl be) = true := by decide
 have n7 : isNm (bl bmain) = true := by decide
 have n8 : b0 = ByteArray.empty := rfl
 simp [mayP, someP, prOk, headOk, parsOk, allN, blkOk, oneOk, body1, body2, stmtOk_eq, shp, nmOk, xOk, argsOk, argOk, noneE, eNum, eName, eZ, mayE, mayL, opN, n1, n2, n3, n4, n5, n6, n7, n8]
theorem some_k1 : kindP someP bp by_ = 3 := by
 unfold kindP
 rw [if_pos some_may]
 decide
theorem some_k2 : kindP someP bmain bv = 4 := by
 unfold kindP
 rw [if_pos some_may]
 decide
theorem some_vars : (varsP someP bp).length = 3 := by
 unfold varsP
 rw [if_pos some_may]
 decide
theorem some_proc : procP someP bp = (⟨bp, [⟨bx, false⟩, ⟨by_, true⟩], [], body2, [be]⟩, true) := by
 unfold procP
 rw [if_pos some_may]
 rfl
theorem some_smG : SmG someP := by
 refine ⟨by decide, by decide, ?_⟩
 intro q hq
 simp only [someP, List.mem_cons, List.not_mem_nil, or_false] at hq
 rcases hq with rfl | rfl
 ·simp [body1, wSL, wS, wE, wL, wT, wAr, eNum, eName, eZ]
  decide
 ·simp [body2, wSL, wS, wE, wL, wT, wAr, eNum, eName, eZ]
  decide
set_option maxHeartbeats 2000000 in
set_option maxRecDepth 100000 in
theorem known_any (W : World) : Calls Try.prog 44 #[] W (MayOk true W) := by
 go_enter Try.func44, Try.ntmps44
 go_upto_region 1 with fail
 go_upto_region 2 with (go_at_call 50; refine (Some_any _).mono ?_; rintro e w1 ⟨c0, c1, rfl, hb1, hp1⟩; obtain ⟨Ag, cg, Ap, cp, rfl, rfl, _, _, _, _, _, hpr⟩ := prog_open hp1)
 have HI1 : Hid (In (nw W w1) w1 (w1.alloc (.cells #[.slice Ag someP.globals.length cg, .slice Ap someP.procs.length cp] 25))) := Lib.hid (In.on ⟨fun b h => h.2, fun _ _ => rfl⟩ (below_box _))
 have HB1 : Hid (Below W.heap.size W (w1.alloc (.cells #[.slice Ag someP.globals.length cg, .slice Ap someP.procs.length cp] 25))) := Lib.hid (below_stepA hb1 _)
 have HBp : Hid (Blk (w1.alloc (.cells #[.slice Ag someP.globals.length cg, .slice Ap someP.procs.length cp] 25)) w1.heap.size 25 #[.slice Ag someP.globals.length cg, .slice Ap someP.procs.length cp]) := Lib.hid (Blk.new _ _ _)
 have HPc := Lib.hid (fun V hV => Proc_any hp1 some_smG bp V hV)
 rw [some_proc] at HPc
 have HK1 := Lib.hid (fun V hV => Kind_any hp1 ⟨#[112]⟩ ⟨#[121]⟩ V hV)
 rw [show kindP someP ⟨#[112]⟩ ⟨#[121]⟩ = 3 from some_k1] at HK1
 have HK2 := Lib.hid (fun V hV => Kind_any hp1 ⟨#[109, 97, 105, 110]⟩ ⟨#[118]⟩ V hV)
 rw [show kindP someP ⟨#[109, 97, 105, 110]⟩ ⟨#[118]⟩ = 4 from some_k2] at HK2
 have HVr := Lib.hid (fun V hV => Vars_any hp1 some_smG ⟨#[112]⟩ V hV)
 have hvl : (varsP someP ⟨#[112]⟩).length = 3 := some_vars
 generalize varsP someP ⟨#[112]⟩ = vl at HVr hvl
 clear hpr hp1 hb1
 generalize hW2 : World.alloc w1 _ = W2 at HI1 HB1 HBp ⊢
 clear hW2
 generalize w1.heap.size = b at HBp ⊢
 have q0 : W2.cell? ⟨b, 0, none⟩ = some (.slice Ag someP.globals.length cg) := by rw [HBp.out.cell]; rfl
 have q1 : W2.cell? ⟨b, 1, none⟩ = some (.slice Ap someP.procs.length cp) := by rw [HBp.out.cell]; rfl
 have hbl := HBp.out.lt
 go_upto_region 3 with (go_at_call 99; refine (HPc.out W2 HI1.out).mono ?_; rintro e w3 ⟨d0, d1, d2, d3, d4, rfl, hb3, hp3⟩; obtain ⟨vp, vv, vb, ve, hc, _, hpp, hvv, hbb, hee⟩ := hp3; simp only [List.cons.injEq, and_true] at hc; obtain ⟨rfl, rfl, rfl, rfl, rfl⟩ := hc; obtain ⟨Bp, kp, rfl, _, _⟩ := hpp.shape; obtain ⟨Bv, kv, rfl, _, _⟩ := hvv.shape; obtain ⟨Bb, kb, rfl, _⟩ := hbb.shape; obtain ⟨Be, ke, rfl, _⟩ := hee.shape; clear hpp hvv hbb hee)
 have hl3 : body2.length = 3 := rfl
 rw [hl3]
 have HI4 : Hid (In (nw W w1) w1 (w3.alloc (.cells #[.string bp, .slice Bp 2 kp, .slice Bv 0 kv, .slice Bb 3 kb, .slice Be 1 ke] 59))) := Lib.hid (HI1.out.on (below_stepA hb3 _))
 have HB4 : Hid (Below W.heap.size W (w3.alloc (.cells #[.string bp, .slice Bp 2 kp, .slice Bv 0 kv, .slice Bb 3 kb, .slice Be 1 ke] 59))) := Lib.hid (below_stepA (below_step HB1.out hb3) _)
 have HBp4 : Hid (Blk (w3.alloc (.cells #[.string bp, .slice Bp 2 kp, .slice Bv 0 kv, .slice Bb 3 kb, .slice Be 1 ke] 59)) b 25 #[.slice Ag someP.globals.length cg, .slice Ap someP.procs.length cp]) := Lib.hid ((HBp.out.below hb3 hbl).alloc _)
 have HBq4 : Hid (Blk (w3.alloc (.cells #[.string bp, .slice Bp 2 kp, .slice Bv 0 kv, .slice Bb 3 kb, .slice Be 1 ke] 59)) w3.heap.size 59 #[.string bp, .slice Bp 2 kp, .slice Bv 0 kv, .slice Bb 3 kb, .slice Be 1 ke]) := Lib.hid (Blk.new _ _ _)
 clear q0 q1 hbl hb3 hl3
 generalize hW4 : World.alloc w3 _ = W4 at HI4 HB4 HBp4 HBq4 ⊢
 clear hW4
 generalize w3.heap.size = bq at HBq4 ⊢
 have q0 : W4.cell? ⟨b, 0, none⟩ = some (.slice Ag someP.globals.length cg) := by rw [HBp4.out.cell]; rfl
 have q1 : W4.cell? ⟨b, 1, none⟩ = some (.slice Ap someP.procs.length cp) := by rw [HBp4.out.cell]; rfl
 have hbl := HBp4.out.lt
 have hbq := HBq4.out.lt
 have hff : ∀ w : World, (Instr.field 39 (.agg #[.int .i64 5, .int .i64 0]) 0).run Try.prog w = .ok (.int .i64 5) w := fun _ => by kernel_rfl
 go_wp2_with (first
  | (go_at_call 100; (with_reducible refine (HK1.out W4 HI4.out).mono ?_); rintro e w5 ⟨rfl, hb5⟩; have HI5 := Lib.hid (HI4.out.on hb5); have HB5 := Lib.hid (below_step HB4.out hb5); have r0 : w5.cell? ⟨b, 0, none⟩ = some (.slice Ag someP.globals.length cg) := (hb5.cell (p := ⟨b, 0, none⟩) hbl).trans q0; have r1 : w5.cell? ⟨b, 1, none⟩ = some (.slice Ap someP.procs.length cp) := (hb5.cell (p := ⟨b, 1, none⟩) hbl).trans q1; have HBq5 := Lib.hid (HBq4.out.below hb5 hbq); have hbl5 := Nat.lt_of_lt_of_le hbl hb5.size; have hbq5 := Nat.lt_of_lt_of_le hbq hb5.size)
  | (go_at_call 100; (with_reducible refine (HK2.out w5 HI5.out).mono ?_); rintro e w6 ⟨rfl, hb6⟩; have HI6 := Lib.hid (HI5.out.on hb6); have HB6 := Lib.hid (below_step HB5.out hb6); have s0 : w6.cell? ⟨b, 0, none⟩ = some (.slice Ag someP.globals.length cg) := (hb6.cell (p := ⟨b, 0, none⟩) hbl5).trans r0; have s1 : w6.cell? ⟨b, 1, none⟩ = some (.slice Ap someP.procs.length cp) := (hb6.cell (p := ⟨b, 1, none⟩) hbl5).trans r1; have HBq6 := Lib.hid (HBq5.out.below hb6 hbq5); have hbq6 := Nat.lt_of_lt_of_le hbq5 hb6.size)
  | (go_at_call 48; (with_reducible refine (HVr.out w6 HI6.out).mono ?_); rintro e w7 ⟨v7, rfl, ho7, hb7⟩; obtain ⟨X7, k7, rfl, _, _⟩ := own_shape ho7; have HB7 := Lib.hid (below_step HB6.out hb7); have HBq7 := Lib.hid (HBq6.out.below hb7 hbq6); have z3 : w7.cell? ⟨bq, 3, none⟩ = some (.slice Bb 3 kb) := (by rw [HBq7.out.cell]; rfl))
  | (go_at_call 45; refine (Check_empty w7).mono ?_; rintro e w8 ⟨rfl, hb8⟩))
 go_ret
 exact ⟨rfl, below_step HB7.out hb8⟩
end Go.Proofs.Ytcocilpifdjibaa
