/- Texts, merged by a program; only what is used. -/
import Derived.Test.YtnnblklbjbkikaaM1
import Derived.Test.YtnnblklbjbkikaaM2
import Derived.Test.YtnnblklbjbkikaaM3
import Derived.Test.YtnnblklbjbkikaaM4
import Derived.Test.YtnnblklbjbkikaaM5
import Derived.Test.YtnnblklbjbkikaaM6
import Derived.Test.YtnnblklbjbkikaaM7
import Derived.Test.YtnnblklbjbkikaaM8
import Derived.Test.YtnnblklbjbkikaaM9
import Derived.Test.YtnnblklbjbkikaaM10
import Derived.Test.YtnnblklbjbkikaaM11
import Derived.Test.YtnnblklbjbkikaaM12
import Derived.Test.YtnnblklbjbkikaaM13
import Derived.Test.YtnnblklbjbkikaaM14
import Derived.Test.YtnnblklbjbkikaaM15
import Derived.Test.YtnnblklbjbkikaaM16
import Derived.Test.YtnnblklbjbkikaaM17
import Derived.Test.YtnnblklbjbkikaaM18
import Derived.Test.YtnnblklbjbkikaaM19
import Derived.Test.YtnnblklbjbkikaaM20
import Derived.Test.YtnnblklbjbkikaaM21
import Derived.Test.YtnnblklbjbkikaaM22
import Derived.Test.YtnnblklbjbkikaaM23
import Derived.Test.YtnnblklbjbkikaaM24
import Derived.Test.YtnnblklbjbkikaaM25
import Derived.Test.YtnnblklbjbkikaaM26
import Derived.Test.YtnnblklbjbkikaaM27
namespace Go.Proofs.Ytnnblklbjbkikaa
open Go.ChangeShapes Go.WideShapes Go.ChangeAt Go.RowKit Go.Deep
set_option linter.unusedVariables false
set_option linter.unusedSimpArgs false
theorem some_w : wT someP.globals ≤ 1000 ∧ someP.procs.length ≤ 1000 ∧ ∀ q ∈ someP.procs, wSL q.body ≤ 1000 ∧ wT q.vars ≤ 1000 ∧ wT q.end_ ≤ 1000 ∧ q.params.length ≤ 1000 := by
 refine ⟨by decide, by decide, ?_⟩
 intro q hq
 simp only [someP, List.mem_cons, List.not_mem_nil, or_false] at hq
 rcases hq with rfl | rfl
 ·simp [body1, wSL, wS, wE, wL, wT, wAr, eNum, eName, eZ]
  decide
 ·simp [body2, wSL, wS, wE, wL, wT, wAr, eNum, eName, eZ]
  decide
theorem some_smG2 : SmG someP := by
 obtain ⟨h1, h2, h3⟩ := some_w
 exact ⟨by omega, by omega, fun q hq => by obtain ⟨a, b, c, d⟩ := h3 q hq; exact ⟨by omega, by omega, by omega, by omega⟩⟩
theorem some_smG3 : SmG (swP bg bv someP) := by
 obtain ⟨h1, h2, h3⟩ := some_w
 have ha : bg.size ≤ 8 := by decide
 have hb : bv.size ≤ 8 := by decide
 have h4 := wT_sw ha hb someP.globals
 refine ⟨by show wT (someP.globals.map (oth bg bv)) ≤ _; omega, by show (someP.procs.map (swQ bg bv)).length ≤ _; rw [List.length_map]; omega, fun q hq => ?_⟩
 obtain ⟨q0, hq0, rfl⟩ := List.mem_map.1 hq
 obtain ⟨k1, k2, k3, k4⟩ := h3 q0 hq0
 have l1 := wSL_sw ha hb q0.body
 have l2 := wT_sw ha hb q0.vars
 have l3 := wT_sw ha hb q0.end_
 exact ⟨by show wSL (swSL bg bv q0.body) ≤ _; omega, by show wT (q0.vars.map _) ≤ _; omega, by show wT (q0.end_.map _) ≤ _; omega, by show (q0.params.map _).length ≤ _; rw [List.length_map]; omega⟩
theorem some_ne : eqB (swP bg bv someP) someP = false := by
 refine eqB_ne (fun h => ?_)
 have h1 : (swP bg bv someP).globals = someP.globals := by rw [h]
 have h2 : ([bv] : List ByteArray) = [bg] := by
  have h3 : (swP bg bv someP).globals = [oth bg bv bg] := rfl
  rw [h3] at h1
  have h4 : oth bg bv bg = bv := by unfold oth; rw [if_pos rfl]
  rw [h4] at h1
  exact h1
 injection h2 with h2
 revert h2
 decide
theorem nameMay (s : ByteArray) (hs : s.size ≤ 9223372036854775807) (V : World) : Calls Try.prog 24 #[.agg #[.int .i64 2, .int .i64 0, .string s, .slice none 0 0]] V (MayOk (isNm (bl s)) V) := by
 have h := MayExpr_any (w := V) (Q := fun _ => False) (e := eName s) (ExprI.of_slice nil_slice ⟨by omega, by omega⟩ ⟨by omega, by omega⟩ hs) V ⟨fun _ h => h.elim, fun _ h => h.elim⟩
 have h1 : mayE 20 (eName s) = isNm (bl s) := by simp [eName, mayE]
 rw [h1] at h
 exact h
set_option maxHeartbeats 8000000 in
set_option maxRecDepth 100000 in
theorem treeSwap_walk {w : World} {Q : Nat → Prop} {p : Pg} {c0 c1 : Value} (h : ProgI w Q p [c0, c1]) (sa : ByteArray) (wsa : sa.size ≤ maxLen) (sb : ByteArray) (wsb : sb.size ≤ maxLen) (W : World) (hI : In Q w W) :
 Calls Try.prog 4 #[.agg #[c0, c1], .string sa, .string sb] W fun e w' => e = .returned (.bool true) ∧ Below W.heap.size W w' := by
 have HP := Lib.hid h
 have HF := Lib.hid (fun V h1 => Fits_any h V h1)
 have HI := Lib.hid hI
 obtain ⟨Ag, cg, Ap, cp, rfl, rfl, _⟩ := prog_open h
 clear h hI
 go_enter Try.func4, Try.ntmps4
 go_upto_region 1 with fail
 have HB0 : Hid (Below W.heap.size W (W.alloc (.cells #[.slice Ag p.globals.length cg, .slice Ap p.procs.length cp] 25))) := Lib.hid (below_box _)
 have HBp0 : Hid (Blk (W.alloc (.cells #[.slice Ag p.globals.length cg, .slice Ap p.procs.length cp] 25)) W.heap.size 25 #[.slice Ag p.globals.length cg, .slice Ap p.procs.length cp]) := Lib.hid (Blk.new _ _ _)
 generalize World.alloc _ _ = W0 at HB0 HBp0 ⊢
 have HI0 := Lib.hid (HI.out.on HB0.out)
 generalize hbe : W.heap.size = b at HBp0 ⊢
 clear hbe
 go_upto_region 3 with (go_at_call 12; refine (treed_any W0).mono ?_; rintro e' W1 ⟨rfl, hb1⟩)
 have HB1 : Hid (Below W.heap.size W W1) := Lib.hid (below_step HB0.out hb1)
 have HI1 := Lib.hid (HI0.out.on hb1)
 have HBp1 := Lib.hid (HBp0.out.below hb1 HBp0.out.lt)
 clear hb1 HB0 HBp0 HI0
 have q0 : W1.cell? ⟨b, 0, none⟩ = some (.slice Ag p.globals.length cg) := by rw [HBp1.out.cell]; rfl
 have q1 : W1.cell? ⟨b, 1, none⟩ = some (.slice Ap p.procs.length cp) := by rw [HBp1.out.cell]; rfl
 have hbl := HBp1.out.lt
 cases hf : fitsP p with
 | false =>
  rw [hf] at HF
  clear hf
  go_wp2_with (go_at_call 13; refine (HF.out _ HI1.out).mono ?_; rintro e' W2 ⟨rfl, hb2⟩)
  go_ret
  exact ⟨rfl, below_step HB1.out hb2⟩
 | true =>
  have HSg := Lib.hid (fits_smG hf)
  have HM := Lib.hid (fun V hV => May_any HP.out V hV)
  have hsa : sa.size ≤ 9223372036854775807 := wsa
  have hsb : sb.size ≤ 9223372036854775807 := wsb
  have HSw := Lib.hid (fun V hV => Swap_any (W := V) HP.out hV (fits_smG hf) hsa hsb)
  have HSmw := Lib.hid (fun (ha : sa.size ≤ 8) (hb : sb.size ≤ 8) => fits_sw ha hb hf)
  have HXa := Lib.hid (fun V => nameMay sa hsa V)
  have HXb := Lib.hid (fun V => nameMay sb hsb V)
  have HSz := Lib.hid (And.intro hsa hsb)
  clear wsa wsb hsa hsb
  rw [hf] at HF
  clear hf
  go_upto_region 5 with (go_at_call 13; refine (HF.out _ HI1.out).mono ?_; rintro e' W2 ⟨rfl, hb2⟩)
  have HB2 : Hid (Below W.heap.size W W2) := Lib.hid (below_step HB1.out hb2)
  have HI2 := Lib.hid (HI1.out.on hb2)
  have HBp2 := Lib.hid (HBp1.out.below hb2 hbl)
  clear hb2 HB1 HI1 HBp1 q0 q1 hbl HF
  have q0 : W2.cell? ⟨b, 0, none⟩ = some (.slice Ag p.globals.length cg) := by rw [HBp2.out.cell]; rfl
  have q1 : W2.cell? ⟨b, 1, none⟩ = some (.slice Ap p.procs.length cp) := by rw [HBp2.out.cell]; rfl
  have hbl := HBp2.out.lt
  obtain ⟨ps, hps⟩ : ∃ ps, ps = swP bg bv someP := ⟨_, rfl⟩
  have HSs := Lib.hid (fun (w : World) (Q : Nat → Prop) (V : World) (f0 f1 : Value) (h : ProgI w Q someP [f0, f1]) (hI : In Q w V) => Swap_any (W := V) (sa := bg) (sb := bv) h hI some_smG2 (by decide) (by decide))
  have HSq := Lib.hid some_smG3
  have HNe := Lib.hid some_ne
  have HMs : Hid (mayP (swP bg bv someP) = true) := Lib.hid (by rw [mayP_sw nm_g nm_v someP, some_may])
  rw [← hps] at HSs HSq HNe HMs
  clear hps
  go_upto_region 6 with (first
   | (go_at_call 22; refine (Some_any _).mono ?_; rintro e' W3 ⟨f0, f1, rfl, hb3, hp3⟩; have HP3 := Lib.hid hp3; clear hp3)
   | (go_at_call 21; refine (HSs.out _ _ W3 _ _ HP3.out (In.self W2 W3)).mono ?_; rintro e' W4 ⟨d0, d1, rfl, hb4, hp4⟩; have HPq := Lib.hid hp4; obtain ⟨Aq, cq, Ar, cr, rfl, rfl, _⟩ := prog_open hp4; clear hp4))
  have HB5 : Hid (Below W2.heap.size W2 (W4.alloc (.cells #[.slice Aq ps.globals.length cq, .slice Ar ps.procs.length cr] 25))) := Lib.hid (below_stepA (below_step hb3 hb4) _)
  have HBq : Hid (Blk (W4.alloc (.cells #[.slice Aq ps.globals.length cq, .slice Ar ps.procs.length cr] 25)) W4.heap.size 25 #[.slice Aq ps.globals.length cq, .slice Ar ps.procs.length cr]) := Lib.hid (Blk.new _ _ _)
  have HIq : Hid (In (nw W3 W4) W4 (W4.alloc (.cells #[.slice Aq ps.globals.length cq, .slice Ar ps.procs.length cr] 25))) := Lib.hid (In.on ⟨fun j h => h.2, fun _ _ => rfl⟩ (below_box _))
  have hbq : W.heap.size ≤ W4.heap.size := Nat.le_trans HB2.out.size (below_step hb3 hb4).size
  have hbq2 : b < W4.heap.size := Nat.lt_of_lt_of_le hbl (below_step hb3 hb4).size
  clear hb3 hb4 HP3
  generalize World.alloc W4 _ = W5 at HB5 HBq HIq ⊢
  generalize W4.heap.size = bq at HBq hbq hbq2 ⊢
  have HB5W := Lib.hid (below_step HB2.out HB5.out)
  have HI5 := Lib.hid (HI2.out.on HB5.out)
  have HBp5 := Lib.hid (HBp2.out.below HB5.out hbl)
  clear HB2 HB5 HI2 HBp2 q0 q1 hbl
  have hbl := HBp5.out.lt
  have hql := HBq.out.lt
  have q0 : W5.cell? ⟨b, 0, none⟩ = some (.slice Ag p.globals.length cg) := by rw [HBp5.out.cell]; rfl
  have q1 : W5.cell? ⟨b, 1, none⟩ = some (.slice Ap p.procs.length cp) := by rw [HBp5.out.cell]; rfl
  have r0 : W5.cell? ⟨bq, 0, none⟩ = some (.slice Aq ps.globals.length cq) := by rw [HBq.out.cell]; rfl
  have r1 : W5.cell? ⟨bq, 1, none⟩ = some (.slice Ar ps.procs.length cr) := by rw [HBq.out.cell]; rfl
  have HS6 : Hid (∀ w' : World, Below W5.heap.size W5 w' → (w'.cell? ⟨b, 0, none⟩ = some (.slice Ag p.globals.length cg) ∧ w'.cell? ⟨b, 1, none⟩ = some (.slice Ap p.procs.length cp) ∧ w'.cell? ⟨bq, 0, none⟩ = some (.slice Aq ps.globals.length cq) ∧ w'.cell? ⟨bq, 1, none⟩ = some (.slice Ar ps.procs.length cr))) := Lib.hid (fun w' hb => ⟨(hb.cell (p := ⟨b, 0, none⟩) hbl).trans q0, (hb.cell (p := ⟨b, 1, none⟩) hbl).trans q1, (hb.cell (p := ⟨bq, 0, none⟩) hql).trans r0, (hb.cell (p := ⟨bq, 1, none⟩) hql).trans r1⟩)
  have hBD : Below W5.heap.size W5 W5.drew := (Below.refl _ _).drew
  have HE6 := Lib.hid (fun (w1 W1 : World) (Q1 : Nat → Prop) (a0 a1 : Value) (h1 : ProgI w1 Q1 someP [a0, a1]) (hI1 : In Q1 w1 W1) (hIq : In (nw W3 W4) W4 W1) => Eq_any (W := W1) HPq.out h1 hIq hI1 (szQ_of HSq.out) (szQ_of some_smG2))
  rw [HNe.out] at HE6
  have HMq := Lib.hid (fun V hV => May_any HPq.out V hV)
  rw [HMs.out] at HMq
  clear HPq HNe HMs HSq HSs
  go_region_held3 (fun w' => w'.cell? ⟨b, 0, none⟩ = some (.slice Ag p.globals.length cg) ∧ w'.cell? ⟨b, 1, none⟩ = some (.slice Ap p.procs.length cp) ∧ w'.cell? ⟨bq, 0, none⟩ = some (.slice Aq ps.globals.length cq) ∧ w'.cell? ⟨bq, 1, none⟩ = some (.slice Ar ps.procs.length cr))
   ((refine HS6.out _ ?_; with_reducible assumption))
   (first
    | (go_at_call 22; (with_reducible refine (Some_any W5.drew).mono ?_); rintro e' W6 ⟨f0, f1, rfl, hb6, hp6⟩; have k6 : Below W5.heap.size W5 W6 := hBD.trans hb6; have HIq6 := Lib.hid (HIq.out.on k6); have HP6 := Lib.hid hp6; clear hp6)
    | (go_at_call 23; (with_reducible refine (HE6.out _ W6 _ _ _ HP6.out (In.self _ W6) HIq6.out).mono ?_); rintro e' W7 ⟨rfl, hb7⟩; have k7 : Below W5.heap.size W5 W7 := below_step k6 hb7; have HIq7 := Lib.hid (HIq6.out.on hb7))
    | (go_at_call 14; (with_reducible refine (HMq.out W7 HIq7.out).mono ?_); rintro e' W8 ⟨rfl, hb8⟩; have k8 : Below W5.heap.size W5 W8 := below_step k7 hb8))
  have HB6W := Lib.hid (below_step HB5W.out k8)
  have HI6 := Lib.hid (HI5.out.on k8)
  have HBp6 := Lib.hid (HBp5.out.below k8 hbl)
  have HBq6 := Lib.hid (HBq.out.below k8 hql)
  clear q0 q1 r0 r1 hbl hql HS6 HE6 HMq hBD HIq HIq6 HIq7 HP6 HB5W HI5 HBp5 HBq k6 k7 k8 hb6 hb7 hb8
  generalize W8 = V at *
  have hbl := HBp6.out.lt
  have hql := HBq6.out.lt
  have q0 : V.cell? ⟨b, 0, none⟩ = some (.slice Ag p.globals.length cg) := by rw [HBp6.out.cell]; rfl
  have q1 : V.cell? ⟨b, 1, none⟩ = some (.slice Ap p.procs.length cp) := by rw [HBp6.out.cell]; rfl
  have r0 : V.cell? ⟨bq, 0, none⟩ = some (.slice Aq ps.globals.length cq) := by rw [HBq6.out.cell]; rfl
  have r1 : V.cell? ⟨bq, 1, none⟩ = some (.slice Ar ps.procs.length cr) := by rw [HBq6.out.cell]; rfl
  cases hm : mayP p with
  | false =>
   rw [hm] at HM
   clear hm
   go_wp2_with (go_at_call 14; refine (HM.out V HI6.out).mono ?_; rintro e' W9 ⟨rfl, hb9⟩)
   go_ret
   exact ⟨rfl, below_step HB6W.out hb9⟩
  | true =>
   have hcn : cntP p ≤ 200 := (may_flat hm).2.1
   have HMw := Lib.hid (fun (ha : isNm (bl sa) = true) (hb : isNm (bl sb) = true) => (mayP_sw ha hb p).trans hm)
   rw [hm] at HM
   clear hm
   go_upto_region 10 with (go_at_call 14; refine (HM.out V HI6.out).mono ?_; rintro e' W9 ⟨rfl, hb9⟩)
   have HI7 := Lib.hid (HI6.out.on hb9)
   have HB7W := Lib.hid (below_step HB6W.out hb9)
   have HBp7 := Lib.hid (HBp6.out.below hb9 hbl)
   have HBq7 := Lib.hid (HBq6.out.below hb9 hql)
   clear q0 q1 r0 r1 hbl hql HI6 HB6W HBp6 HBq6 hb9
   have hbl := HBp7.out.lt
   have hql := HBq7.out.lt
   have q0 : W9.cell? ⟨b, 0, none⟩ = some (.slice Ag p.globals.length cg) := by rw [HBp7.out.cell]; rfl
   have q1 : W9.cell? ⟨b, 1, none⟩ = some (.slice Ap p.procs.length cp) := by rw [HBp7.out.cell]; rfl
   have r0 : W9.cell? ⟨bq, 0, none⟩ = some (.slice Aq ps.globals.length cq) := by rw [HBq7.out.cell]; rfl
   have r1 : W9.cell? ⟨bq, 1, none⟩ = some (.slice Ar ps.procs.length cr) := by rw [HBq7.out.cell]; rfl
   have fz0 := HBq7.out.frozen 0
   have fz1 := HBq7.out.frozen 1
   obtain ⟨pq, hpq⟩ : ∃ pq, pq = swP sa sb p := ⟨_, rfl⟩
   have HPe := Lib.hid hpq
   rw [← hpq] at HSw HMw HSmw
   clear hpq
   go_upto_region 11 with (go_at_call 21; refine (HSw.out W9 HI7.out).mono ?_; rintro e' V1 ⟨g0, g1, rfl, hv1, hp1⟩; have HPq := Lib.hid hp1; obtain ⟨Av, cv, Az, cz, rfl, rfl, _⟩ := prog_open hp1; clear hp1; have fy0 : V1.frozen? ⟨bq, 0, none⟩ = false := (HBq7.out.below hv1 hql).frozen 0; have fy1 : V1.frozen? ⟨bq, 1, none⟩ = false := (HBq7.out.below hv1 hql).frozen 1; have fl1 : bq < V1.heap.size := Nat.lt_of_lt_of_le hql hv1.size; have s0 : V1.cell? ⟨bq, 0, none⟩ = some (.slice Aq ps.globals.length cq) := (hv1.cell (p := ⟨bq, 0, none⟩) hql).trans r0; have s1 : V1.cell? ⟨bq, 1, none⟩ = some (.slice Ar ps.procs.length cr) := (hv1.cell (p := ⟨bq, 1, none⟩) hql).trans r1)
   have HBq8 : Hid (Blk ((V1.setCell ⟨bq, 0, none⟩ (.slice Av pq.globals.length cv)).setCell ⟨bq, 1, none⟩ (.slice Az pq.procs.length cz)) bq 25 #[.slice Av pq.globals.length cv, .slice Az pq.procs.length cz]) := Lib.hid (by
    have h := ((HBq7.out.below hv1 hql).set_ 0 (.slice Av pq.globals.length cv)).set_ 1 (.slice Az pq.procs.length cz)
    simp only [List.setIfInBounds_toArray, List.set_cons_zero, List.set_cons_succ] at h
    exact h)
   have HB8W : Hid (Below W.heap.size W ((V1.setCell ⟨bq, 0, none⟩ (.slice Av pq.globals.length cv)).setCell ⟨bq, 1, none⟩ (.slice Az pq.procs.length cz))) := Lib.hid (below_setc (below_setc (below_step HB7W.out hv1) hbq _) hbq _)
   have HIq8 : Hid (In (nw W9 V1) V1 ((V1.setCell ⟨bq, 0, none⟩ (.slice Av pq.globals.length cv)).setCell ⟨bq, 1, none⟩ (.slice Az pq.procs.length cz))) := Lib.hid (((In.self W9 V1).setCell (fun h => Nat.not_lt.2 h.1 hql) _).setCell (fun h => Nat.not_lt.2 h.1 hql) _)
   have HBp8 : Hid (Blk ((V1.setCell ⟨bq, 0, none⟩ (.slice Av pq.globals.length cv)).setCell ⟨bq, 1, none⟩ (.slice Az pq.procs.length cz)) b 25 #[.slice Ag p.globals.length cg, .slice Ap p.procs.length cp]) := Lib.hid (((HBp7.out.below hv1 hbl).far (p := ⟨bq, 0, none⟩) (by show b ≠ bq; omega) _).far (p := ⟨bq, 1, none⟩) (by show b ≠ bq; omega) _)
   clear fy0 fy1 fl1 s0 s1 hv1 q0 q1 r0 r1 fz0 fz1 hbl hql HBp7 HBq7 HB7W HI7 HM
   generalize World.setCell (World.setCell V1 _ _) _ _ = V2 at HBq8 HB8W HIq8 HBp8 ⊢
   have HI8 := Lib.hid (HI.out.on HB8W.out)
   cases hna : isNm (bl sa) with
   | false =>
    rw [hna] at HXa
    clear hna
    go_wp2_with (go_at_call 24; (with_reducible refine (HXa.out V2).mono ?_); rintro e' W10 ⟨rfl, hb10⟩)
    go_ret
    exact ⟨rfl, below_step HB8W.out hb10⟩
   | true =>
    rw [hna] at HXa
    cases hnb : isNm (bl sb) with
    | false =>
     rw [hnb] at HXb
     clear hna hnb
     go_wp2_with (first
      | (go_at_call 24; (with_reducible refine (HXa.out V2).mono ?_); rintro e' W10 ⟨rfl, hb10⟩)
      | (go_at_call 24; (with_reducible refine (HXb.out W10).mono ?_); rintro e' W11 ⟨rfl, hb11⟩))
     go_ret
     exact ⟨rfl, below_step HB8W.out (below_step hb10 hb11)⟩
    | true =>
     rw [hnb] at HXb
     have HSm := Lib.hid (HSmw.out (nm_short hna).2 (nm_short hnb).2)
     have HMq := Lib.hid (fun V hV => May_any HPq.out V hV)
     rw [HMw.out hna hnb] at HMq
     have HSq := Lib.hid (fun V hV => Swap_any (W := V) HPq.out hV HSm.out HSz.out.1 HSz.out.2)
     have HE := Lib.hid (fun (w1 W1 : World) (Q1 : Nat → Prop) (a0 a1 : Value) (h1 : ProgI w1 Q1 (swP sa sb pq) [a0, a1]) (hI1 : In Q1 w1 W1) (hI : In Q w W1) => Eq_any (W := W1) h1 HP.out hI1 hI (szQ_of (by rw [HPe.out, swP_swP]; exact HSg.out)) (szQ_of HSg.out))
     rw [show swP sa sb pq = p by rw [HPe.out, swP_swP]] at HE HSq
     rw [eqB_self] at HE
     have hcq : cntP pq = cntP p := by rw [HPe.out]; exact cntP_sw sa sb p
     have HCq := Lib.hid (fun V hV => Count_any HPq.out V hV (by omega))
     have HCp := Lib.hid (fun V hV => Count_any HP.out V hV (by omega))
     rw [hcq] at HCq
     clear hna hnb hcq hcn
     generalize cntP p = cn at HCq HCp
     go_upto_region 12 with (first
      | (go_at_call 24; (with_reducible refine (HXa.out V2).mono ?_); rintro e' W10 ⟨rfl, hb10⟩)
      | (go_at_call 24; (with_reducible refine (HXb.out W10).mono ?_); rintro e' W11 ⟨rfl, hb11⟩))
     have g11 := below_step hb10 hb11
     have HB11W := Lib.hid (below_step HB8W.out g11)
     have HI11 := Lib.hid (HI8.out.on g11)
     have HIq11 := Lib.hid (HIq8.out.on g11)
     have HBp11 := Lib.hid (HBp8.out.below g11 HBp8.out.lt)
     have HBq11 := Lib.hid (HBq8.out.below g11 HBq8.out.lt)
     clear g11 hb10 hb11 HI8 HIq8 HBp8 HBq8 HB8W HXa HXb HSw HSmw HMw
     have hbl := HBp11.out.lt
     have hql := HBq11.out.lt
     have q0 : W11.cell? ⟨b, 0, none⟩ = some (.slice Ag p.globals.length cg) := by rw [HBp11.out.cell]; rfl
     have q1 : W11.cell? ⟨b, 1, none⟩ = some (.slice Ap p.procs.length cp) := by rw [HBp11.out.cell]; rfl
     have r0 : W11.cell? ⟨bq, 0, none⟩ = some (.slice Av pq.globals.length cv) := by rw [HBq11.out.cell]; rfl
     have r1 : W11.cell? ⟨bq, 1, none⟩ = some (.slice Az pq.procs.length cz) := by rw [HBq11.out.cell]; rfl
     have HS12 : Hid (∀ w' : World, Below W11.heap.size W11 w' → (w'.cell? ⟨b, 0, none⟩ = some (.slice Ag p.globals.length cg) ∧ w'.cell? ⟨b, 1, none⟩ = some (.slice Ap p.procs.length cp) ∧ w'.cell? ⟨bq, 0, none⟩ = some (.slice Av pq.globals.length cv) ∧ w'.cell? ⟨bq, 1, none⟩ = some (.slice Az pq.procs.length cz))) := Lib.hid (fun w' hb => ⟨(hb.cell (p := ⟨b, 0, none⟩) hbl).trans q0, (hb.cell (p := ⟨b, 1, none⟩) hbl).trans q1, (hb.cell (p := ⟨bq, 0, none⟩) hql).trans r0, (hb.cell (p := ⟨bq, 1, none⟩) hql).trans r1⟩)
     have hBD : Below W11.heap.size W11 W11.drew := (Below.refl _ _).drew
     have hdr : ∀ (Q : Nat → Prop) (w V : World), In Q w V → In Q w V.drew := fun Q w V h => h
     go_region_held3 (fun w' => w'.cell? ⟨b, 0, none⟩ = some (.slice Ag p.globals.length cg) ∧ w'.cell? ⟨b, 1, none⟩ = some (.slice Ap p.procs.length cp) ∧ w'.cell? ⟨bq, 0, none⟩ = some (.slice Av pq.globals.length cv) ∧ w'.cell? ⟨bq, 1, none⟩ = some (.slice Az pq.procs.length cz))
      ((refine HS12.out _ ?_; with_reducible assumption))
      (first
       | (go_at_call 14; (with_reducible refine (HMq.out W11.drew (hdr _ _ _ HIq11.out)).mono ?_); rintro e' W12 ⟨rfl, hb12⟩; have k12 : Below W11.heap.size W11 W12 := hBD.trans hb12; have HIq12 := Lib.hid (HIq11.out.on k12); have HI12 := Lib.hid (HI11.out.on k12))
       | (go_at_call 21; (with_reducible refine (HSq.out W12 HIq12.out).mono ?_); rintro e' W13 ⟨e0, e1, rfl, hb13, hp13⟩; have k13 : Below W11.heap.size W11 W13 := below_step k12 hb13; have HI13 := Lib.hid (HI12.out.on hb13); have HIq13 := Lib.hid (HIq12.out.on hb13); have HPr := Lib.hid hp13; clear hp13)
       | (go_at_call 23; (with_reducible refine (HE.out _ W13 _ _ _ HPr.out (In.self _ W13) HI13.out).mono ?_); rintro e' W14 ⟨rfl, hb14⟩; have k14 : Below W11.heap.size W11 W14 := below_step k13 hb14; have HI14 := Lib.hid (HI13.out.on hb14); have HIq14 := Lib.hid (HIq13.out.on hb14))
       | (go_at_call 19; (with_reducible refine (HCq.out W14 HIq14.out).mono ?_); rintro e' W15 ⟨rfl, hb15⟩; have k15 : Below W11.heap.size W11 W15 := below_step k14 hb15; have HI15 := Lib.hid (HI14.out.on hb15))
       | (go_at_call 19; (with_reducible refine (HCp.out W15 HI15.out).mono ?_); rintro e' W16 ⟨rfl, hb16⟩; have k16 : Below W11.heap.size W11 W16 := below_step k15 hb16))
     go_wp2_with fail
     go_ret
     exact ⟨rfl, below_step HB11W.out k16⟩
end Go.Proofs.Ytnnblklbjbkikaa
