/- Texts, merged by a program; only what is used. -/
import Derived.Test.YtimejkbmfbjomaaGreatK1
import Derived.Test.YtimejkbmfbjomaaGreatK2
import Derived.Test.YtimejkbmfbjomaaGreatK3
import Derived.Test.YtimejkbmfbjomaaGreatK4
import Derived.Test.YtimejkbmfbjomaaGreatK5
import Derived.Test.YtimejkbmfbjomaaGreatK6
import Derived.Test.YtimejkbmfbjomaaGreatK7
import Derived.Test.YtimejkbmfbjomaaGreatK8
import Derived.Test.YtimejkbmfbjomaaGreatK9
import Derived.Test.YtimejkbmfbjomaaGreatK10
import Derived.Test.YtimejkbmfbjomaaGreatK11
import Derived.Test.YtimejkbmfbjomaaGreatK12
import Derived.Test.YtimejkbmfbjomaaGreatK13
import Derived.Test.YtimejkbmfbjomaaGreatK14
import Derived.Test.YtimejkbmfbjomaaGreatK15
import Derived.Test.YtimejkbmfbjomaaGreatK16
import Derived.Test.YtimejkbmfbjomaaGreatK17
import Derived.Test.YtimejkbmfbjomaaGreatK18
import Derived.Test.YtimejkbmfbjomaaGreatK19
import Derived.Test.YtimejkbmfbjomaaGreatK20
import Derived.Test.YtimejkbmfbjomaaGreatK21
import Derived.Test.YtimejkbmfbjomaaGreatK22
import Derived.Test.YtimejkbmfbjomaaGreatK23
import Derived.Test.YtimejkbmfbjomaaGreatK24
import Derived.Test.YtimejkbmfbjomaaGreatK25
import Derived.Test.YtimejkbmfbjomaaGreatK26
import Derived.Test.YtimejkbmfbjomaaGreatK27
import Derived.Test.YtimejkbmfbjomaaGreatK28
import Derived.Test.YtimejkbmfbjomaaGreatK29
import Derived.Test.YtimejkbmfbjomaaGreatK30
import Derived.Test.YtimejkbmfbjomaaGreatKA1
import Derived.Test.YtimejkbmfbjomaaGreatKA2
import Derived.Test.YtimejkbmfbjomaaGreatKA3
import Derived.Test.YtimejkbmfbjomaaGreatKA4
import Derived.Test.YtimejkbmfbjomaaGreatKA5
import Derived.Test.YtimejkbmfbjomaaGreatKA6
import Derived.Test.YtimejkbmfbjomaaGreatKA7
namespace Go.Proofs.YtimejkbmfbjomaaGreat
open Go.ChangeShapes Go.WideShapes Go.ChangeAt Go.RowKit Go.Deep
set_option linter.unusedVariables false
set_option linter.unusedSimpArgs false
abbrev zSt : Array Value := #[.int .i64 0, .int .i64 0, .slice none 0 0, .string ⟨#[]⟩, .string ⟨#[]⟩, .int .i64 0, .int .i64 0, .string ⟨#[]⟩, .slice none 0 0, .bool false, .slice none 0 0, .slice none 0 0, .slice none 0 0]
theorem blk13s {w : World} {f : Nat} {d0 d1 d2 d3 d4 d5 d6 d7 d8 d9 d10 d11 d12 : Value} (h : Blk w f 49 zSt) : Blk (World.setCell (World.setCell (World.setCell (World.setCell (World.setCell (World.setCell (World.setCell (World.setCell (World.setCell (World.setCell (World.setCell (World.setCell (World.setCell w ⟨f, 0, none⟩ d0) ⟨f, 1, none⟩ d1) ⟨f, 2, none⟩ d2) ⟨f, 3, none⟩ d3) ⟨f, 4, none⟩ d4) ⟨f, 5, none⟩ d5) ⟨f, 6, none⟩ d6) ⟨f, 7, none⟩ d7) ⟨f, 8, none⟩ d8) ⟨f, 9, none⟩ d9) ⟨f, 10, none⟩ d10) ⟨f, 11, none⟩ d11) ⟨f, 12, none⟩ d12) f 49 #[d0, d1, d2, d3, d4, d5, d6, d7, d8, d9, d10, d11, d12] := by
 have := (((((((((((((h.set_ 0 d0).set_ 1 d1).set_ 2 d2).set_ 3 d3).set_ 4 d4).set_ 5 d5).set_ 6 d6).set_ 7 d7).set_ 8 d8).set_ 9 d9).set_ 10 d10).set_ 11 d11).set_ 12 d12)
 simp only [List.setIfInBounds_toArray, List.set_cons_zero, List.set_cons_succ] at this
 exact this
theorem below13 {B : Nat} {a w : World} {f : Nat} {d0 d1 d2 d3 d4 d5 d6 d7 d8 d9 d10 d11 d12 : Value} (h : Below B a w) (hb : B ≤ f) : Below B a (World.setCell (World.setCell (World.setCell (World.setCell (World.setCell (World.setCell (World.setCell (World.setCell (World.setCell (World.setCell (World.setCell (World.setCell (World.setCell w ⟨f, 0, none⟩ d0) ⟨f, 1, none⟩ d1) ⟨f, 2, none⟩ d2) ⟨f, 3, none⟩ d3) ⟨f, 4, none⟩ d4) ⟨f, 5, none⟩ d5) ⟨f, 6, none⟩ d6) ⟨f, 7, none⟩ d7) ⟨f, 8, none⟩ d8) ⟨f, 9, none⟩ d9) ⟨f, 10, none⟩ d10) ⟨f, 11, none⟩ d11) ⟨f, 12, none⟩ d12) := below_setc (below_setc (below_setc (below_setc (below_setc (below_setc (below_setc (below_setc (below_setc (below_setc (below_setc (below_setc (below_setc h hb _) hb _) hb _) hb _) hb _) hb _) hb _) hb _) hb _) hb _) hb _) hb _) hb _
theorem blkR13 {w : World} {f : Nat} (h : Blk w f 49 zSt) : (w.cell? ⟨f, 0, none⟩ = some (.int .i64 0) ∧ w.cell? ⟨f, 1, none⟩ = some (.int .i64 0) ∧ w.cell? ⟨f, 2, none⟩ = some (.slice none 0 0) ∧ w.cell? ⟨f, 3, none⟩ = some (.string ⟨#[]⟩) ∧ w.cell? ⟨f, 4, none⟩ = some (.string ⟨#[]⟩) ∧ w.cell? ⟨f, 5, none⟩ = some (.int .i64 0) ∧ w.cell? ⟨f, 6, none⟩ = some (.int .i64 0) ∧ w.cell? ⟨f, 7, none⟩ = some (.string ⟨#[]⟩) ∧ w.cell? ⟨f, 8, none⟩ = some (.slice none 0 0) ∧ w.cell? ⟨f, 9, none⟩ = some (.bool false) ∧ w.cell? ⟨f, 10, none⟩ = some (.slice none 0 0) ∧ w.cell? ⟨f, 11, none⟩ = some (.slice none 0 0) ∧ w.cell? ⟨f, 12, none⟩ = some (.slice none 0 0)) ∧ w.frozen? ⟨f, 0, none⟩ = false ∧ w.frozen? ⟨f, 1, none⟩ = false ∧ w.frozen? ⟨f, 2, none⟩ = false ∧ w.frozen? ⟨f, 3, none⟩ = false ∧ w.frozen? ⟨f, 4, none⟩ = false ∧ w.frozen? ⟨f, 5, none⟩ = false ∧ w.frozen? ⟨f, 6, none⟩ = false ∧ w.frozen? ⟨f, 7, none⟩ = false ∧ w.frozen? ⟨f, 8, none⟩ = false ∧ w.frozen? ⟨f, 9, none⟩ = false ∧ w.frozen? ⟨f, 10, none⟩ = false ∧ w.frozen? ⟨f, 11, none⟩ = false ∧ w.frozen? ⟨f, 12, none⟩ = false :=
 ⟨⟨by rw [h.cell]; rfl, by rw [h.cell]; rfl, by rw [h.cell]; rfl, by rw [h.cell]; rfl, by rw [h.cell]; rfl, by rw [h.cell]; rfl, by rw [h.cell]; rfl, by rw [h.cell]; rfl, by rw [h.cell]; rfl, by rw [h.cell]; rfl, by rw [h.cell]; rfl, by rw [h.cell]; rfl, by rw [h.cell]; rfl⟩, h.frozen 0, h.frozen 1, h.frozen 2, h.frozen 3, h.frozen 4, h.frozen 5, h.frozen 6, h.frozen 7, h.frozen 8, h.frozen 9, h.frozen 10, h.frozen 11, h.frozen 12⟩
/-- the picked statement, in a variable of its own -/
structure PkS (w : World) (Q : Nat → Prop) (p : Pg) (il : List Int) (W wx : World) (bs : Nat) : Prop where
 below : Below W.heap.size W wx
 ge : W.heap.size ≤ bs
 out : ∃ id cs, ((il = [] ∧ id = 0) ∨ id ∈ il) ∧ StmtI w Q (stP p id) cs ∧ Blk wx bs 49 cs.toArray
theorem ag_of {V U : World} {b : Nat} {v0 v1 : Value} (h : Below V.heap.size V U) (hk : b < V.heap.size ∧ V.cell? ⟨b, 0, none⟩ = some v0 ∧ V.cell? ⟨b, 1, none⟩ = some v1) : U.cell? ⟨b, 0, none⟩ = some v0 ∧ U.cell? ⟨b, 1, none⟩ = some v1 ∧ Below V.heap.size V U :=
 ⟨(h.cell (p := ⟨b, 0, none⟩) hk.1).trans hk.2.1, (h.cell (p := ⟨b, 1, none⟩) hk.1).trans hk.2.2, h⟩
set_option maxHeartbeats 8000000 in
set_option maxRecDepth 100000 in
theorem aliasGlobal_walk {w : World} {Q : Nat → Prop} {p : Pg} {c0 c1 : Value} (h : ProgI w Q p [c0, c1]) (n : Int) (wn : (Lit.int .i64 n).wf = true) (W : World) (hI : In Q w W) :
 Calls Tryz.prog 7 #[.agg #[c0, c1], .int .i64 n] W fun e w' => e = .returned (.bool true) ∧ Below W.heap.size W w' := by
 have HP := Lib.hid h
 have HF := Lib.hid (fun V h1 => Fits_any h V h1)
 have HI := Lib.hid hI
 obtain ⟨Ag, cg, Ap, cp, rfl, rfl, _⟩ := prog_open h
 clear h hI
 go_enter Tryz.func7, Tryz.ntmps7
 go_upto_region 1 with fail
 have HB0 : Hid (Below W.heap.size W (W.alloc (.cells #[.slice Ag p.globals.length cg, .slice Ap p.procs.length cp] 25))) := Lib.hid (below_box _)
 have HBp0 : Hid (Blk (W.alloc (.cells #[.slice Ag p.globals.length cg, .slice Ap p.procs.length cp] 25)) W.heap.size 25 #[.slice Ag p.globals.length cg, .slice Ap p.procs.length cp]) := Lib.hid (Blk.new _ _ _)
 generalize World.alloc _ _ = W0 at HB0 HBp0 ⊢
 have HI0 := Lib.hid (HI.out.on HB0.out)
 generalize hbe : W.heap.size = b at HBp0 ⊢
 clear hbe
 go_upto_region 3 with (go_at_call 24; refine (apart_any W0).mono ?_; rintro e' W1 ⟨rfl, hb1⟩)
 have HB1 : Hid (Below W.heap.size W W1) := Lib.hid (below_step HB0.out hb1)
 have HI1 := Lib.hid (HI0.out.on hb1)
 have HBp1 := Lib.hid (HBp0.out.below hb1 HBp0.out.lt)
 clear hb1 HB0 HBp0 HI0
 have q0 : W1.cell? ⟨b, 0, none⟩ = some (.slice Ag p.globals.length cg) := by rw [HBp1.out.cell]; rfl
 have q1 : W1.cell? ⟨b, 1, none⟩ = some (.slice Ap p.procs.length cp) := by rw [HBp1.out.cell]; rfl
 have hbl := HBp1.out.lt
 cases hf : fitsP p with
 | false =>
  rw [hf] at HF
  clear hf
  go_wp2_with (go_at_call 9; refine (HF.out _ HI1.out).mono ?_; rintro e' W2 ⟨rfl, hb2⟩)
  go_ret
  exact ⟨rfl, below_step HB1.out hb2⟩
 | true =>
  have HSg := Lib.hid (fits_smG hf)
  have HCA := Lib.hid (fun V hV => aCheck_any HP.out (fits_smG hf) V hV)
  have HCL := Lib.hid (fun V hV => alCheck_any HP.out (fits_smG hf) (fun hc => fits_hck hf hc) V hV)
  have HGl := Lib.hid (fun nm V hV => tGlobals_any HP.out (fits_smG hf) (fun hc => fits_hck hf hc) nm V hV)
  have HIs := Lib.hid (fun V hV => Ids_any HP.out 4 (by simp [i64]) V hV)
  have HSt := Lib.hid (fun id V hV => rStmt_any HP.out id V hV)
  rw [hf] at HF
  clear hf
  go_upto_region 5 with (go_at_call 9; refine (HF.out _ HI1.out).mono ?_; rintro e' W2 ⟨rfl, hb2⟩)
  have HB2 : Hid (Below W.heap.size W W2) := Lib.hid (below_step HB1.out hb2)
  have HI2 := Lib.hid (HI1.out.on hb2)
  have HBp2 := Lib.hid (HBp1.out.below hb2 hbl)
  clear hb2 HB1 HI1 HBp1 q0 q1 hbl HF
  have q0 : W2.cell? ⟨b, 0, none⟩ = some (.slice Ag p.globals.length cg) := by rw [HBp2.out.cell]; rfl
  have q1 : W2.cell? ⟨b, 1, none⟩ = some (.slice Ap p.procs.length cp) := by rw [HBp2.out.cell]; rfl
  have hbl := HBp2.out.lt
  have hff : ∀ (a c : Int) (w : World), (Instr.field 34 (.agg #[.int .i64 a, .int .i64 c]) 0).run Tryz.prog w = .ok (.int .i64 a) w := fun _ _ _ => by kernel_rfl
  have HPt := Lib.hid (fun (h : (alP p).1 = 0) id hi => pick_tk h (id := id) hi)
  have HAl : Hid ((alP p).1 = 0 → (arP p).1 = 0) := Lib.hid (fun h => (alP_ok h).2.1)
  have HMy : Hid ((alP p).1 = 0 → (idsOf 4 (allOf p)).length ≤ 1000 ∧ ∀ i ∈ idsOf 4 (allOf p), i64 i) := Lib.hid (fun h => by
   have hm := (alP_ok h).1.may
   refine ⟨?_, fun i hi => ?_⟩
   ·have h1 := allL_len p.procs [] (by simp)
    have h2 := idsOf_len (kind := 4) (l := allOf p) (k := (allOf p).length)
    rw [List.take_length] at h2
    have h3 : (allOf p).length ≤ 401 := h1
    omega
   ·obtain ⟨q, s, hat, _, h1, h2⟩ := ids_at hm hi
    unfold i64
    omega)
  by_cases ha : (arP p).1 = 0
  ·by_cases hl : (alP p).1 = 0
   ·have HP1 := Lib.hid (HPt.out hl)
    obtain ⟨hmy1, hmy2⟩ := HMy.out hl
    have HLn := Lib.hid hmy1
    have HIb := Lib.hid hmy2
    generalize arP p = r1 at HCA ha HAl
    generalize alP p = r2 at HCL hl HAl HPt HMy
    obtain ⟨a1, a2⟩ := r1
    obtain ⟨l1, l2⟩ := r2
    simp only at ha hl
    subst ha hl
    generalize idsOf 4 (allOf p) = il at HP1 HLn HIb HIs
    clear HAl HPt HMy hmy1 hmy2 HSg
    go_upto_region 7 with (first
     | (go_at_call 33; refine (HCA.out W2 HI2.out).mono ?_; rintro e' W3 ⟨rfl, hb3⟩; have HB3 : Hid (Below W.heap.size W W3) := Lib.hid (below_step HB2.out hb3); have HI3 := Lib.hid (HI2.out.on hb3); have HBp3 := Lib.hid (HBp2.out.below hb3 hbl); have r0 : W3.cell? ⟨b, 0, none⟩ = some (.slice Ag p.globals.length cg) := (by rw [HBp3.out.cell]; rfl); have r1 : W3.cell? ⟨b, 1, none⟩ = some (.slice Ap p.procs.length cp) := (by rw [HBp3.out.cell]; rfl); clear hb3)
     | (go_at_call 25; refine (HCL.out W3 HI3.out).mono ?_; rintro e' W4 ⟨rfl, hb4⟩; have HB4 : Hid (Below W.heap.size W W4) := Lib.hid (below_step HB3.out hb4); have HI4 := Lib.hid (HI3.out.on hb4); have HBp4 := Lib.hid (HBp3.out.below hb4 HBp3.out.lt); clear hb4))
    clear q0 q1 r0 r1 hbl HCA HCL hff HB2 HI2 HBp2 HB3 HI3 HBp3
    have HK : Hid (b < W4.heap.size ∧ W4.cell? ⟨b, 0, none⟩ = some (.slice Ag p.globals.length cg) ∧ W4.cell? ⟨b, 1, none⟩ = some (.slice Ap p.procs.length cp)) := Lib.hid ⟨HBp4.out.lt, by rw [HBp4.out.cell]; rfl, by rw [HBp4.out.cell]; rfl⟩
    have hBD : Below W4.heap.size W4 W4.drew := (Below.refl _ _).drew
    have hBA : Below W4.heap.size W4 (W4.alloc (.cells zSt 49)).drew := (below_box _).drew
    have hbl := HBp4.out.lt
    go_cut [5] from 23 to 28 (fun s wx => ∃ bs, s = .pointer (some ⟨bs, 0, none⟩) ∧ Hid (PkS w Q p il W4 wx bs))
    case first =>
     go_region_held3 (fun w' => w'.cell? ⟨b, 0, none⟩ = some (.slice Ag p.globals.length cg) ∧ w'.cell? ⟨b, 1, none⟩ = some (.slice Ap p.procs.length cp) ∧ Below W4.heap.size W4 w')
      ((refine ag_of ?_ HK.out; first | (with_reducible assumption) | (go_split_ands; with_reducible assumption) | (go_split_ands; (with_reducible refine below_stepA ?_ _); with_reducible assumption) | (go_split_ands; (iterate 13 (with_reducible refine below_setc ?_ (by first | exact Nat.le_refl _ | exact hB1.size | exact hB2.size) _)); with_reducible assumption)))
      (first
       | ((go_at_call 29; have hBU1 := below_step (V := W4) (by go_split_ands; assumption) (Below.refl _ _); refine (HIs.out _ (HI4.out.on hBU1)).mono ?_; rintro e' q1 ⟨v6, rfl, ho6, hb6⟩; obtain ⟨X6, k6, rfl, _, _⟩ := own_shape ho6; have hB1 := below_step (V := W4) (by go_split_ands; assumption) hb6; have HPk := Lib.hid (fun V hV => Pick_any ho6 HLn.out HIb.out n (W := V) hV); try (have z1 : Hid (Blk q1 W4.heap.size 49 zSt) := Lib.hid ((Blk.new W4.drew 49 zSt).below hb6 (by simp)))))
       | ((go_at_call 28; refine (HPk.out _ (by first | exact Below.refl _ _ | exact below_box _)).mono ?_; rintro e' q2 ⟨id, hidm, rfl, rfl⟩; have HId := Lib.hid hidm; have hid : i64 id := (by rcases hidm with ⟨_, rfl⟩ | h; simp [i64]; exact HIb.out _ h); unfold i64 at hid; clear hidm))
       | ((go_at_call 30; have hBU3 := below_step (V := W4) (by go_split_ands; assumption) (Below.refl _ _); refine (HSt.out id _ (HI4.out.on hBU3)).mono ?_; rintro e' q3 ⟨cs, rfl, hst, hb7⟩; have HSi := Lib.hid hst; have hB2 := below_step (V := W4) (by go_split_ands; assumption) hb7; obtain ⟨sid, kind, labels, nm, proc, x, has, args, th, el, L, lc, y0, y1, y2, X, xn, xc, R, rc, T, tc, U, uc, hse, rfl, _⟩ := stmt_open hst; try (first | (have z3 : Hid (Blk q3 W4.heap.size 49 zSt) := Lib.hid (z1.out.below hb7 z1.out.lt)) | (have z3 : Hid (Blk q3 q1.heap.size 49 zSt) := Lib.hid ((Blk.new q1 49 zSt).below hb7 (by simp)))); try (obtain ⟨⟨z0_, z1_, z2_, z3_, z4_, z5_, z6_, z7_, z8_, z9_, z10_, z11_, z12_⟩, f0_, f1_, f2_, f3_, f4_, f5_, f6_, f7_, f8_, f9_, f10_, f11_, f12_⟩ := blkR13 z3.out))))
     ·go_wp2_with fail
      go_meet
      exact ⟨_, rfl, Lib.hid ⟨below_stepA hB2 _, hB2.size, id, _, HId.out, HSi.out, Blk.new _ _ _⟩⟩
     ·go_wp2_with fail
      go_meet
      exact ⟨_, rfl, Lib.hid ⟨below13 hB2 hB1.size, hB1.size, id, _, HId.out, HSi.out, blk13s z3.out⟩⟩
     ·go_wp2_with fail
      go_meet
      exact ⟨_, rfl, Lib.hid ⟨below13 hB2 hB1.size, hB1.size, id, _, HId.out, HSi.out, blk13s z3.out⟩⟩
     ·go_wp2_with fail
      go_meet
      exact ⟨_, rfl, Lib.hid ⟨below13 hB2 (Nat.le_refl _), Nat.le_refl _, id, _, HId.out, HSi.out, blk13s z3.out⟩⟩
    case rest =>
     obtain ⟨bs, rfl, HPs⟩ := hcut
     have HBc := Lib.hid HPs.out.below
     obtain ⟨id, cs, hidm, hst, hbk⟩ := HPs.out.out
     have hTk := HP1.out id hidm
     generalize stP p id = s0 at hst hTk
     obtain ⟨sid, kind, labels, nm, proc, x, has, args, th, el, L, lc, y0, y1, y2, X, xn, xc, R, rc, T, tc, U, uc, rfl, rfl, _, _, _, _, _, _, har, _⟩ := stmt_open hst
     have HTk : Hid (∀ a ∈ args, a.ref = true → tkB p proc a.nm = false) := Lib.hid hTk
     have HBs : Hid (Blk wc bs 49 #[.int .i64 sid, .int .i64 kind, .slice L labels.length lc, .string nm, .string proc, .int .i64 y0, .int .i64 y1, .string y2, .slice X xn xc, .bool has, .slice R args.length rc, .slice T th.length tc, .slice U el.length uc]) := Lib.hid hbk
     have HAr := Lib.hid har
     obtain ⟨_, hrl, hrc, _⟩ := slice_len har
     have HI5 := Lib.hid (HI4.out.on HBc.out)
     have HBp5 := Lib.hid (HBp4.out.below HBc.out hbl)
     have HB5 := Lib.hid (below_step HB4.out HBc.out)
     have HG1 := Lib.hid (fun V hV => HGl.out proc V hV)
     have HGt : Hid (TextsI w Q p.globals (.slice Ag p.globals.length cg)) := Lib.hid (by
      obtain ⟨A1, c1, A2, c2, e1, e2, _, _, _, _, hg, _⟩ := prog_open HP.out
      rw [e1]
      exact hg)
     clear hst hTk hbk hidm har HPs HBc HK hBD hBA hbl HBp4 HI4 HB4 HP1 HLn HIb HIs HSt HGl HP
     have hbl := HBp5.out.lt
     have hsl := HBs.out.lt
     have s10 : wc.cell? ⟨bs, 10, none⟩ = some (.slice R args.length rc) := by rw [HBs.out.cell]; rfl
     go_upto_region 9 with fail
     clear s10
     go_loopg [32] args.length (fun kk iv wr => ∃ k : Nat, k + kk = args.length ∧ iv = .int .i64 k ∧ Hid (Below wc.heap.size wc wr))
     case atStart => exact ⟨0, by omega, rfl, Lib.hid (Below.refl _ _)⟩
     case round =>
      obtain ⟨k, hk, rfl, HR⟩ := hrel
      have HIr := Lib.hid (HI5.out.on HR.out)
      by_cases hlt : k < args.length
      ·obtain ⟨a2, o1, n1, s1, A1, l1, k1, rfl, _, ⟨p0, p1, p2, p3, p4, p5, _⟩, hs, hxa⟩ := arg_at HAr.out HIr.out hlt
       have HTa := Lib.hid (HTk.out args[k] (List.getElem_mem hlt))
       clear hxa
       generalize args[k] = y at p0 p1 hs HTa
       obtain ⟨xr, xnm, xx⟩ := y
       simp only at p0 p1 hs HTa
       go_upto_region 11 with fail
       have HBx : Hid (Blk (wr.alloc (.cells #[.bool xr, .string xnm, .int .i64 o1, .int .i64 n1, .string s1, .slice A1 l1 k1] 61)) wr.heap.size 61 #[.bool xr, .string xnm, .int .i64 o1, .int .i64 n1, .string s1, .slice A1 l1 k1]) := Lib.hid (Blk.new _ _ _)
       have HB6 : Hid (Below wc.heap.size wc (wr.alloc (.cells #[.bool xr, .string xnm, .int .i64 o1, .int .i64 n1, .string s1, .slice A1 l1 k1] 61))) := Lib.hid (below_stepA HR.out _)
       have HI6 : Hid (In Q w (wr.alloc (.cells #[.bool xr, .string xnm, .int .i64 o1, .int .i64 n1, .string s1, .slice A1 l1 k1] 61))) := Lib.hid (HIr.out.alloc _)
       clear p0 p1 p2 p3 p4 p5 HIr HR
       generalize World.alloc wr _ = V6 at HBx HB6 HI6 ⊢
       generalize wr.heap.size = bx at HBx ⊢
       have hxl := HBx.out.lt
       have z0 : V6.cell? ⟨bx, 0, none⟩ = some (.bool xr) := by rw [HBx.out.cell]; rfl
       have z1 : V6.cell? ⟨bx, 1, none⟩ = some (.string xnm) := by rw [HBx.out.cell]; rfl
       have HBp6 := Lib.hid (HBp5.out.below HB6.out hbl)
       have HBs6 := Lib.hid (HBs.out.below HB6.out hsl)
       have q0 : V6.cell? ⟨b, 0, none⟩ = some (.slice Ag p.globals.length cg) := by rw [HBp6.out.cell]; rfl
       have q1 : V6.cell? ⟨b, 1, none⟩ = some (.slice Ap p.procs.length cp) := by rw [HBp6.out.cell]; rfl
       have s4 : V6.cell? ⟨bs, 4, none⟩ = some (.string proc) := by rw [HBs6.out.cell]; rfl
       have hdrN : ∀ j, In Q w (V6.drewN j) := fun j => HI6.out
       have hdr : In Q w V6.drew := HI6.out
       have HIn := Lib.hid (fun V (hV : In Q w V) => rIn_any HGt.out hV xnm)
       cases xr with
       | false =>
        clear HTa
        go_quiet (fail)
        go_wp2_with fail
        go_roundg (args.length - k - 1)
        case measure => omega
        case rel => exact ⟨k + 1, by omega, by go_num, Lib.hid (below_drewN HB6.out _)⟩
       | true =>
        have HTb := Lib.hid (HTa.out rfl)
        cases hg : p.globals.any (isT xnm) with
        | false =>
         rw [hg] at HIn
         go_quiet ((go_at_call 22; exact quiet_same (HIn.out _ (hdrN _))))
         go_wp2_with fail
         go_roundg (args.length - k - 1)
         case measure => omega
         case rel => exact ⟨k + 1, by omega, by go_num, Lib.hid (below_drewN HB6.out _)⟩
        | true =>
         rw [hg] at HIn
         clear hg
         have hb6 := HBp6.out.lt
         have hs6 := HBs6.out.lt
         have HS6 : Hid (∀ w' : World, Below V6.heap.size V6 w' → (w'.cell? ⟨b, 0, none⟩ = some (.slice Ag p.globals.length cg) ∧ w'.cell? ⟨b, 1, none⟩ = some (.slice Ap p.procs.length cp) ∧ w'.cell? ⟨bs, 4, none⟩ = some (.string proc) ∧ w'.cell? ⟨bx, 0, none⟩ = some (.bool true) ∧ w'.cell? ⟨bx, 1, none⟩ = some (.string xnm))) := Lib.hid (fun w' hb => ⟨(hb.cell (p := ⟨b, 0, none⟩) hb6).trans q0, (hb.cell (p := ⟨b, 1, none⟩) hb6).trans q1, (hb.cell (p := ⟨bs, 4, none⟩) hs6).trans s4, (hb.cell (p := ⟨bx, 0, none⟩) hxl).trans z0, (hb.cell (p := ⟨bx, 1, none⟩) hxl).trans z1⟩)
         have hBD : Below V6.heap.size V6 V6.drew := (Below.refl _ _).drew
         go_region_held3 (fun w' => w'.cell? ⟨b, 0, none⟩ = some (.slice Ag p.globals.length cg) ∧ w'.cell? ⟨b, 1, none⟩ = some (.slice Ap p.procs.length cp) ∧ w'.cell? ⟨bs, 4, none⟩ = some (.string proc) ∧ w'.cell? ⟨bx, 0, none⟩ = some (.bool true) ∧ w'.cell? ⟨bx, 1, none⟩ = some (.string xnm))
          ((refine HS6.out _ ?_; with_reducible assumption))
          (first
           | (go_at_call 16; (with_reducible refine (HG1.out V6.drew hdr).mono ?_); rintro e' W8 ⟨l8, v8, rfl, ho8, hb8, ha8⟩; obtain ⟨X8, k8, rfl, _, _⟩ := own_shape ho8; have g8 : Below V6.heap.size V6 W8 := hBD.trans hb8; have HI8 := Lib.hid (rIn_any (texts_of_own (glob_small ha8) ho8).2 (in_slf _ W8) xnm); rw [tkB_any ha8, HTb.out] at HI8; clear ho8 hb8 ha8)
           | (go_at_call 22; (with_reducible refine HI8.out.mono ?_); rintro e' W9 ⟨rfl, rfl⟩)
           | (go_at_call 22; (with_reducible refine (HIn.out V6.drew hdr).mono ?_); rintro e' W7 ⟨rfl, rfl⟩))
         go_wp2_with fail
         go_roundg (args.length - k - 1)
         case measure => omega
         case rel => exact ⟨k + 1, by omega, by go_num, Lib.hid (below_step HB6.out g8)⟩
      ·go_wp2_with fail
       go_ret
       exact ⟨rfl, below_step HB5.out HR.out⟩
   ·generalize arP p = r1 at HCA ha HAl
    generalize alP p = r2 at HCL hl HAl HPt HMy
    obtain ⟨a1, a2⟩ := r1
    obtain ⟨l1, l2⟩ := r2
    simp only at ha hl
    subst ha
    have hr1 : (l1 == 0) = false := beq_eq_false_iff_ne.2 hl
    have hr2 : (l1 != 0) = true := by simp [bne, hr1]
    clear HAl HPt HMy
    go_wp2_with (first
     | (go_at_call 33; refine (HCA.out W2 HI2.out).mono ?_; rintro e' W3 ⟨rfl, hb3⟩; have HB3 : Hid (Below W.heap.size W W3) := Lib.hid (below_step HB2.out hb3); have HI3 := Lib.hid (HI2.out.on hb3); have HBp3 := Lib.hid (HBp2.out.below hb3 hbl); have r0 : W3.cell? ⟨b, 0, none⟩ = some (.slice Ag p.globals.length cg) := (by rw [HBp3.out.cell]; rfl); have r1 : W3.cell? ⟨b, 1, none⟩ = some (.slice Ap p.procs.length cp) := (by rw [HBp3.out.cell]; rfl); clear hb3)
     | (go_at_call 25; refine (HCL.out W3 HI3.out).mono ?_; rintro e' W4 ⟨rfl, hb4⟩; have HB4 : Hid (Below W.heap.size W W4) := Lib.hid (below_step HB3.out hb4); clear hb4))
    go_ret
    exact ⟨rfl, HB4.out⟩
  ·generalize arP p = r1 at HCA ha HAl
   obtain ⟨a1, a2⟩ := r1
   simp only at ha
   have hr1 : (a1 == 0) = false := beq_eq_false_iff_ne.2 ha
   have hr2 : (a1 != 0) = true := by simp [bne, hr1]
   clear HAl HPt HMy
   go_wp2_with (go_at_call 33; refine (HCA.out W2 HI2.out).mono ?_; rintro e' W3 ⟨rfl, hb3⟩; have HB3 : Hid (Below W.heap.size W W3) := Lib.hid (below_step HB2.out hb3); clear hb3)
   go_ret
   exact ⟨rfl, HB3.out⟩
end Go.Proofs.YtimejkbmfbjomaaGreat
