/- Texts, merged by a program; only what is used. -/
import Derived.Deep.Cut
import Derived.Test.YtcocilpifdjibaaK1
import Derived.Test.YtcocilpifdjibaaK2
import Derived.Test.YtcocilpifdjibaaK3
import Derived.Test.YtcocilpifdjibaaK4
import Derived.Test.YtcocilpifdjibaaK5
import Derived.Test.YtcocilpifdjibaaK6
import Derived.Test.YtcocilpifdjibaaK7
import Derived.Test.YtcocilpifdjibaaK8
import Derived.Test.YtcocilpifdjibaaK9
import Derived.Test.YtcocilpifdjibaaK10
import Derived.Test.YtcocilpifdjibaaK11
import Derived.Test.YtcocilpifdjibaaK12
import Derived.Test.YtcocilpifdjibaaK13
import Derived.Test.YtcocilpifdjibaaK14
import Derived.Test.YtcocilpifdjibaaK15
import Derived.Test.YtcocilpifdjibaaK16
import Derived.Test.YtcocilpifdjibaaK17
import Derived.Test.YtcocilpifdjibaaK18
import Derived.Test.YtcocilpifdjibaaK19
import Derived.Test.YtcocilpifdjibaaK20
import Derived.Test.YtcocilpifdjibaaK21
import Derived.Test.YtcocilpifdjibaaK22
import Derived.Test.YtcocilpifdjibaaK23
import Derived.Test.YtcocilpifdjibaaK24
import Derived.Test.YtcocilpifdjibaaK25
import Derived.Test.YtcocilpifdjibaaK26
import Derived.Test.YtcocilpifdjibaaK27
import Derived.Test.YtcocilpifdjibaaK28
import Derived.Test.YtcocilpifdjibaaK29
import Derived.Test.YtcocilpifdjibaaK30
import Derived.Test.YtcocilpifdjibaaK31
import Derived.Test.YtcocilpifdjibaaK32
import Derived.Test.YtcocilpifdjibaaK33
import Derived.Test.YtcocilpifdjibaaK34
namespace Go.Proofs.Ytcocilpifdjibaa
open Go.ChangeShapes Go.WideShapes Go.ChangeAt Go.RowKit Go.Deep
set_option linter.unusedVariables false
set_option linter.unusedSimpArgs false
set_option maxHeartbeats 8000000 in
set_option maxRecDepth 100000 in
theorem scopeTwice_walk {w : World} {Q : Nat → Prop} {p : Pg} {c0 c1 : Value} (h : ProgI w Q p [c0, c1]) (n : Int) (wn : (Lit.int .i64 n).wf = true) (k : Int) (wk : (Lit.int .i64 k).wf = true) (name : ByteArray) (wname : name.size ≤ maxLen) (W : World) (hI : In Q w W) :
 Calls Try.prog 14 #[.agg #[c0, c1], .int .i64 n, .int .i64 k, .string name] W fun e w' => e = .returned (.bool true) ∧ Below W.heap.size W w' := by
 have HP := Lib.hid h
 have HF := Lib.hid (fun V h1 => Fits_any h V h1)
 have HI := Lib.hid hI
 obtain ⟨Ag, cg, Ap, cp, rfl, rfl, _⟩ := prog_open h
 clear h hI
 go_enter Try.func14, Try.ntmps14
 go_upto_region 1 with fail
 have HB0 : Hid (Below W.heap.size W (W.alloc (.cells #[.slice Ag p.globals.length cg, .slice Ap p.procs.length cp] 25))) := Lib.hid (below_box _)
 have HBp0 : Hid (Blk (W.alloc (.cells #[.slice Ag p.globals.length cg, .slice Ap p.procs.length cp] 25)) W.heap.size 25 #[.slice Ag p.globals.length cg, .slice Ap p.procs.length cp]) := Lib.hid (Blk.new _ _ _)
 generalize World.alloc _ _ = W0 at HB0 HBp0 ⊢
 have HI0 := Lib.hid (HI.out.on HB0.out)
 generalize hbe : W.heap.size = b at HBp0 ⊢
 clear hbe
 go_upto_region 3 with (go_at_call 44; refine (known_any W0).mono ?_; rintro e' W1 ⟨rfl, hb1⟩)
 have HB1 : Hid (Below W.heap.size W W1) := Lib.hid (below_step HB0.out hb1)
 have HI1 := Lib.hid (HI0.out.on hb1)
 have HBp1 := Lib.hid (HBp0.out.below hb1 HBp0.out.lt)
 clear hb1 HB0 HBp0 HI0
 have q0 : W1.cell? ⟨b, 0, none⟩ = some (.slice Ag p.globals.length cg) := by rw [HBp1.out.cell]; rfl
 have q1 : W1.cell? ⟨b, 1, none⟩ = some (.slice Ap p.procs.length cp) := by rw [HBp1.out.cell]; rfl
 have hbl := HBp1.out.lt
 cases hf : fitsP p with
 | false =>
  rw [hf] at HF
  clear hf
  go_wp2_with (go_at_call 16; refine (HF.out _ HI1.out).mono ?_; rintro e' W2 ⟨rfl, hb2⟩)
  go_ret
  exact ⟨rfl, below_step HB1.out hb2⟩
 | true =>
  have HSg := Lib.hid (fits_smG hf)
  have HC := Lib.hid (fun V hV => Check_any HP.out (fits_smG hf) V hV)
  have HVr := Lib.hid (fun nm V hV => Vars_any HP.out (fits_smG hf) nm V hV)
  have HCp := Lib.hid (fun (hm : mayP p = true) V hV => Copy_own HP.out (W := V) hV (fits_smG hf) (fun q hq s hs => by have := may_ids hm q hq s hs; omega))
  have HNm := Lib.hid (fun V => Name_any name V wname)
  have HNs : Hid (name.size ≤ 9223372036854775807) := Lib.hid wname
  have HFt := Lib.hid hf
  clear wname
  rw [hf] at HF
  clear hf
  go_upto_region 5 with (go_at_call 16; refine (HF.out _ HI1.out).mono ?_; rintro e' W2 ⟨rfl, hb2⟩)
  have HB2 : Hid (Below W.heap.size W W2) := Lib.hid (below_step HB1.out hb2)
  have HI2 := Lib.hid (HI1.out.on hb2)
  have HBp2 := Lib.hid (HBp1.out.below hb2 hbl)
  clear hb2 HB1 HI1 HBp1 q0 q1 hbl HF
  have q0 : W2.cell? ⟨b, 0, none⟩ = some (.slice Ag p.globals.length cg) := by rw [HBp2.out.cell]; rfl
  have q1 : W2.cell? ⟨b, 1, none⟩ = some (.slice Ap p.procs.length cp) := by rw [HBp2.out.cell]; rfl
  have hbl := HBp2.out.lt
  have hff : ∀ (a c : Int) (w : World), (Instr.field 39 (.agg #[.int .i64 a, .int .i64 c]) 0).run Try.prog w = .ok (.int .i64 a) w := fun _ _ _ => by kernel_rfl
  have hok : (chkP p).1 = 0 → ChOk p := chk_ok
  have HOk0 := Lib.hid hok
  clear hok
  generalize chkP p = r at HC HOk0
  obtain ⟨rc, ri⟩ := r
  simp only at HOk0
  by_cases hr : rc = 0
  rotate_left
  ·have hr1 : (rc == 0) = false := beq_eq_false_iff_ne.2 hr
   have hr2 : (rc != 0) = true := by simp [bne, hr1]
   clear hr HOk0
   go_wp2_with (go_at_call 45; refine (HC.out W2 HI2.out).mono ?_; rintro e' W3 ⟨rfl, hb3⟩; have HI3 := Lib.hid (HI2.out.on hb3); have q0_ : W3.cell? ⟨b, 0, none⟩ = some (.slice Ag p.globals.length cg) := (hb3.cell (p := ⟨b, 0, none⟩) hbl).trans q0; have q1_ : W3.cell? ⟨b, 1, none⟩ = some (.slice Ap p.procs.length cp) := (hb3.cell (p := ⟨b, 1, none⟩) hbl).trans q1; have hbl_ := Nat.lt_of_lt_of_le hbl hb3.size)
   go_ret
   exact ⟨rfl, below_step HB2.out hb3⟩
  subst hr
  have HOk := Lib.hid (HOk0.out rfl)
  clear HOk0
  cases hnm : isNm (bl name) with
  | false =>
   rw [hnm] at HNm
   go_wp2_with (first
    | (go_at_call 45; refine (HC.out W2 HI2.out).mono ?_; rintro e' W3 ⟨rfl, hb3⟩; have HI3 := Lib.hid (HI2.out.on hb3); have q0_ : W3.cell? ⟨b, 0, none⟩ = some (.slice Ag p.globals.length cg) := (hb3.cell (p := ⟨b, 0, none⟩) hbl).trans q0; have q1_ : W3.cell? ⟨b, 1, none⟩ = some (.slice Ap p.procs.length cp) := (hb3.cell (p := ⟨b, 1, none⟩) hbl).trans q1; have hbl_ := Nat.lt_of_lt_of_le hbl hb3.size)
    | (go_at_call 46; (with_reducible refine (HNm.out W3).mono ?_); rintro e' w' ⟨rfl, rfl⟩))
   go_ret
   exact ⟨rfl, below_step HB2.out hb3⟩
  | true =>
   have HNn := Lib.hid hnm
   rw [hnm] at HNm
   obtain ⟨hl1, hl2, hl3⟩ := may_lens HOk.out.may
   have hpos : 1 ≤ p.procs.length := by
    have h := HOk.out.main
    unfold mainBad at h
    cases hp : p.procs with
    | nil => rw [hp] at h; cases h
    | cons _ _ => simp
   have hlz : ((p.procs.length : Int) == 0) = false := beq_eq_false_iff_ne.2 (by omega)
   go_upto_region 7 with (first
    | (go_at_call 45; refine (HC.out W2 HI2.out).mono ?_; rintro e' W3 ⟨rfl, hb3⟩; have HI3 := Lib.hid (HI2.out.on hb3); have q0_ : W3.cell? ⟨b, 0, none⟩ = some (.slice Ag p.globals.length cg) := (hb3.cell (p := ⟨b, 0, none⟩) hbl).trans q0; have q1_ : W3.cell? ⟨b, 1, none⟩ = some (.slice Ap p.procs.length cp) := (hb3.cell (p := ⟨b, 1, none⟩) hbl).trans q1; have hbl_ := Nat.lt_of_lt_of_le hbl hb3.size)
    | (go_at_call 46; (with_reducible refine (HNm.out W3).mono ?_); rintro e' w' ⟨rfl, rfl⟩))
   have HB3 : Hid (Below W.heap.size W W3) := Lib.hid (below_step HB2.out hb3)
   have HBp3 := Lib.hid (HBp2.out.below hb3 hbl)
   clear hb3 HB2 HI2 HBp2 q0 q1 hbl HC hff hlz HNm hnm q0_ q1_ hbl_
   have q0 : W3.cell? ⟨b, 0, none⟩ = some (.slice Ag p.globals.length cg) := by rw [HBp3.out.cell]; rfl
   have q1 : W3.cell? ⟨b, 1, none⟩ = some (.slice Ap p.procs.length cp) := by rw [HBp3.out.cell]; rfl
   have hbl := HBp3.out.lt
   obtain ⟨m, hm, hMod⟩ := Mod_fix n p.procs.length hpos (by omega)
   obtain ⟨m3, hm3, hMod3⟩ := Mod_fix k 3 (by omega) (by omega)
   have HM := Lib.hid hMod
   have HM3 := Lib.hid hMod3
   clear hMod hMod3
   go_upto_region 8 with (go_at_call 47; refine (HCp.out HOk.out.may W3 HI3.out).mono ?_; rintro e' W4 ⟨d0, d1, rfl, hb4, base, outs, hbase, hbz, hg1, hgb, hfst, hap, hr1⟩; obtain ⟨Bg, dg, rfl, _, _⟩ := own_form hg1; obtain ⟨Bp, dp, rfl, _⟩ := (hr1.choose_spec.1 |> own_form))
   have hol : outs.length = p.procs.length := by rw [← hfst, List.length_map]
   rw [hol] at hr1 ⊢
   obtain ⟨bq, hbq⟩ : ∃ bq, bq = W4.heap.size := ⟨_, rfl⟩
   have HBq5 : Hid (Blk (W4.alloc (.cells #[.slice Bg p.globals.length dg, .slice Bp p.procs.length dp] 25)) bq 25 #[.slice Bg p.globals.length dg, .slice Bp p.procs.length dp]) := Lib.hid (by rw [hbq]; exact Blk.new _ _ _)
   have HB45 : Hid (Below W4.heap.size W4 (W4.alloc (.cells #[.slice Bg p.globals.length dg, .slice Bp p.procs.length dp] 25))) := Lib.hid (below_box _)
   have HB4 := Lib.hid hb4
   rw [← hbq] at ⊢
   generalize World.alloc W4 _ = W5 at HBq5 HB45 ⊢
   clear hb4
   have HB5 : Hid (Below W.heap.size W W5) := Lib.hid (below_step HB3.out (below_step HB4.out HB45.out))
   have HB35 : Hid (Below W3.heap.size W3 W5) := Lib.hid (below_step HB4.out HB45.out)
   have hm' : m < outs.length := by omega
   obtain ⟨g, hg0⟩ : ∃ g, Bp = some ⟨g, 0, none⟩ := by
    obtain ⟨rows, ho, _⟩ := hr1
    rcases ho.2 with ⟨h1, h2⟩ | ⟨g, cap, cur, h1, _⟩
    ·exact absurd h2 (by omega)
    ·injection h1 with e1 _ _
     exact ⟨g, e1⟩
   subst hg0
   obtain ⟨cs4, hpk, hcl, hfz, hgl, hbg, -⟩ := prk_row hr1 hm'
   obtain ⟨vp, vv, e1, e2, ov, op, bv, bp⟩ := prk_rows hpk
   have hqn : cs4[0]? = some (.string p.procs[m].nm) := by
    obtain ⟨_, _, _, _, _, _, rfl, _⟩ := hpk
    show some _ = _
    have : outs[m].1 = p.procs[m] := by simp [← hfst]
    rw [this]
   have hc0 := hcl 0 _ hqn
   rw [Nat.add_zero] at hc0
   have hc1 := hcl 1 _ e1
   have hc2 := hcl 2 _ e2
   have HR1 := Lib.hid hr1
   have HAp := Lib.hid hap
   have HFst := Lib.hid hfst
   have HG1 := Lib.hid hg1
   have HGb := Lib.hid hgb
   have HFz := Lib.hid hfz
   have HOv := Lib.hid ov
   have HOp := Lib.hid op
   have HBv := Lib.hid bv
   have HBpp := Lib.hid bp
   have HVm := Lib.hid (fun V hV => HVr.out p.procs[m].nm V hV)
   have HC4 : Hid (W4.cell? ⟨g, m * 5, none⟩ = some (.string p.procs[m].nm) ∧ W4.cell? ⟨g, m * 5 + 1, none⟩ = some vp ∧ W4.cell? ⟨g, m * 5 + 2, none⟩ = some vv) := Lib.hid ⟨hc0, hc1, hc2⟩
   clear hr1 hap hfst hg1 hgb hcl hfz ov op bv bp e1 e2 hqn hc0 hc1 hc2 hpk
   obtain ⟨qn, hqn⟩ : ∃ qn, qn = p.procs[m].nm := ⟨_, rfl⟩
   rw [← hqn] at HC4 HVm
   have HQn := Lib.hid hqn
   clear hqn
   obtain ⟨a, ha⟩ : ∃ a : Addr, a = ⟨g, 0, none⟩ := ⟨_, rfl⟩
   have HA := Lib.hid ha
   have HBq : Hid (bq = W4.heap.size) := Lib.hid hbq
   rw [← ha] at HBq5 ⊢
   clear ha hbq q0 q1
   have HI5 := Lib.hid (HI3.out.on HB35.out)
   have HBp5 := Lib.hid (HBp3.out.below HB35.out hbl)
   have z1 : W5.cell? ⟨bq, 1, none⟩ = some (.slice (some a) p.procs.length dp) := by rw [HBq5.out.cell]; rfl
   have hbq5 := HBq5.out.lt
   have hpl : p.procs.length ≤ 16 := by omega
   clear hbl
   have hbl := HBp5.out.lt
   have HOl := Lib.hid hol
   have HGl := Lib.hid hgl
   have HBg := Lib.hid hbg
   clear hol hbg hgl
   go_upto_region 9 with (go_at_call 19; (with_reducible refine (HM.out W5).mono ?_); rintro e' w' ⟨rfl, rfl⟩)
   have HS : Hid (∀ w' : World, Below W5.heap.size W5 w' → (w'.cell? ⟨b, 0, none⟩ = some (.slice Ag p.globals.length cg) ∧ w'.cell? ⟨b, 1, none⟩ = some (.slice Ap p.procs.length cp) ∧ w'.cell? ⟨bq, 1, none⟩ = some (.slice (some a) p.procs.length dp) ∧ w'.cell? (a.add (m * 5)) = some (.string qn))) := Lib.hid (fun w' hb => ⟨(hb.cell (p := ⟨b, 0, none⟩) hbl).trans (by rw [HBp5.out.cell]; rfl), (hb.cell (p := ⟨b, 1, none⟩) hbl).trans (by rw [HBp5.out.cell]; rfl), (hb.cell (p := ⟨bq, 1, none⟩) hbq5).trans z1, by
    rw [HA.out, addr0]
    have h45 := HB45.out
    have h5 := h45.size
    exact (hb.cell (p := ⟨g, m * 5, none⟩) (by show g < _; have := HGl.out; omega)).trans ((h45.cell (p := ⟨g, m * 5, none⟩) HGl.out).trans HC4.out.1)⟩)
   have HBD : Hid (Below W5.heap.size W5 W5.drew) := Lib.hid (Below.refl _ _).drew
   clear z1
   refine wp_region_held (S := fun w' : World => w'.cell? ⟨b, 0, none⟩ = some (.slice Ag p.globals.length cg) ∧ w'.cell? ⟨b, 1, none⟩ = some (.slice Ap p.procs.length cp) ∧ w'.cell? ⟨bq, 1, none⟩ = some (.slice (some a) p.procs.length dp) ∧ w'.cell? (a.add (m * 5)) = some (.string qn)) (by kernel_rfl) ?_
   have hS0 : (fun w' : World => w'.cell? ⟨b, 0, none⟩ = some (.slice Ag p.globals.length cg) ∧ w'.cell? ⟨b, 1, none⟩ = some (.slice Ap p.procs.length cp) ∧ w'.cell? ⟨bq, 1, none⟩ = some (.slice (some a) p.procs.length dp) ∧ w'.cell? (a.add (m * 5)) = some (.string qn)) W5.drew := HS.out _ HBD.out
   change wpAnyH _ _ _ _ _ 9 _ _ W5.drew
   refine wpAnyH_take (i := 0) (v := ?_) rfl (by kernel_rfl) (by kernel_rfl) (by kernel_rfl) (fun _ _ _ h => h) (Or.inl ⟨by rfl, ?_⟩) (by assumption) ?_
   rotate_left
   ·intro w hSw
    (try dsimp only at hSw)
    go_split_ands
    go_simp
    (try (with_reducible rfl))
   (try simp only [Act.put, List.setIfInBounds_toArray, List.set_cons_zero, List.set_cons_succ])
   refine wpAnyH_take (i := 1) (v := ?_) rfl (by kernel_rfl) (by kernel_rfl) (by kernel_rfl) (fun _ _ _ h => h) (Or.inl ⟨by rfl, ?_⟩) (by assumption) ?_
   rotate_left
   ·intro w hSw
    (try dsimp only at hSw)
    go_split_ands
    go_simp
    (try (with_reducible rfl))
   (try simp only [Act.put, List.setIfInBounds_toArray, List.set_cons_zero, List.set_cons_succ])
   refine wpAnyH_take (i := 2) (v := ?_) rfl (by kernel_rfl) (by kernel_rfl) (by kernel_rfl) (fun _ _ _ h => h) (Or.inl ⟨by rfl, ?_⟩) (by assumption) ?_
   rotate_left
   ·intro w hSw
    (try dsimp only at hSw)
    go_split_ands
    go_simp
    (try (with_reducible rfl))
   (try simp only [Act.put, List.setIfInBounds_toArray, List.set_cons_zero, List.set_cons_succ])
   refine wpAnyH_take (i := 3) (v := ?_) rfl (by kernel_rfl) (by kernel_rfl) (by kernel_rfl) (fun _ _ _ h => h) (Or.inl ⟨by rfl, ?_⟩) (by assumption) ?_
   rotate_left
   ·intro w hSw
    (try dsimp only at hSw)
    go_split_ands
    go_simp
    (try (with_reducible rfl))
   (try simp only [Act.put, List.setIfInBounds_toArray, List.set_cons_zero, List.set_cons_succ])
   refine wpAnyH_take (i := 4) (v := ?_) rfl (by kernel_rfl) (by kernel_rfl) (by kernel_rfl) (fun _ _ _ h => h) (Or.inl ⟨by rfl, ?_⟩) (by assumption) ?_
   rotate_left
   ·intro w hSw
    (try dsimp only at hSw)
    go_split_ands
    go_simp
    (try (with_reducible rfl))
   (try simp only [Act.put, List.setIfInBounds_toArray, List.set_cons_zero, List.set_cons_succ])
   refine wpAnyH_take (i := 5) (v := ?_) rfl (by kernel_rfl) (by kernel_rfl) (by kernel_rfl) (fun _ _ _ h => h) (Or.inl ⟨by rfl, ?_⟩) (by assumption) ?_
   rotate_left
   ·intro w hSw
    (try dsimp only at hSw)
    go_split_ands
    go_simp
    (try (with_reducible rfl))
   (try simp only [Act.put, List.setIfInBounds_toArray, List.set_cons_zero, List.set_cons_succ])
   refine wpAnyH_take (i := 6) (v := ?_) rfl (by kernel_rfl) (by kernel_rfl) (by kernel_rfl) (fun _ _ _ h => h) (Or.inl ⟨by rfl, ?_⟩) (by assumption) ?_
   rotate_left
   ·intro w hSw
    (try dsimp only at hSw)
    go_split_ands
    go_simp
    (try (with_reducible rfl))
   (try simp only [Act.put, List.setIfInBounds_toArray, List.set_cons_zero, List.set_cons_succ])
   clear hS0
   refine wpAnyH_step (i := 7) (by kernel_rfl) rfl (fun K hK => ?_)
   go_simp
   refine (HVm.out W5.drew (HI5.out.on HBD.out)).mono ?_
   rintro e' W6 ⟨v6, rfl, ho6, hb6⟩
   obtain ⟨X6, k6, rfl, _, _⟩ := own_shape ho6
   have HO6 := Lib.hid ho6
   have HB6 := Lib.hid (below_step HBD.out hb6)
   clear ho6 hb6
   refine hK.out _ _ (HS.out _ HB6.out) ?_
   clear hK K
   (try simp only [Act.put, List.setIfInBounds_toArray, List.set_cons_zero, List.set_cons_succ])
   refine wpAnyH_step (i := 8) (by kernel_rfl) rfl (fun K hK => ?_)
   go_simp
   refine hK.out _ _ (HS.out _ HB6.out) ?_
   clear hK K
   (try simp only [Act.put, List.setIfInBounds_toArray, List.set_cons_zero, List.set_cons_succ])
   refine wpAnyH_done (by kernel_rfl) ?_ 0
   have HB56 := HB6
   have HI6 := Lib.hid (HI5.out.on HB6.out)
   have HSv := Lib.hid (vars_small HSg.out HOk.out.may qn)
   have hin := rIn_any (texts_of_own HSv.out HO6.out).2 (in_ow _ W6) name
   have HOld := Lib.hid (show ∃ old, old = (varsP p qn).any (isT name) from ⟨_, rfl⟩)
   obtain ⟨old, hold⟩ := HOld.out
   rw [← hold] at hin
   have HIn := Lib.hid hin
   have HOd := Lib.hid hold
   have HM3' : Hid (∀ w : World, Calls Try.prog 19 #[.int .i64 k, .int .i64 3] w fun e w' => e = .returned (.int .i64 m3) ∧ w = w') := Lib.hid HM3.out
   clear hin hold HOld HSv HO6
   generalize (varsP p qn).length = vl at HIn ⊢
   go_upto_region 11 with (go_at_call 49; (with_reducible refine HIn.out.mono ?_); rintro e' w' ⟨rfl, rfl⟩)
   have HB6W : Hid (Below W.heap.size W W6) := Lib.hid (below_step HB5.out HB6.out)
   have HBq6 := Lib.hid (HBq5.out.below HB6.out hbq5)
   have HBp6 := Lib.hid (HBp5.out.below HB6.out hbl)
   clear hbq5 hbl
   have hbq6 := HBq6.out.lt
   have hbl := HBp6.out.lt
   have HR4 : Hid (BuildI W6 base 59 5 PrK outs (.slice (some ⟨g, 0, none⟩) p.procs.length dp)) := Lib.hid (prk_sz HR1.out (fun b _ hb => (below_step HB45.out HB6.out).block b hb) (below_step HB45.out HB6.out).size)
   have HG6 : Hid (W6.ownsRow W3.heap.size 9 1 (.slice Bg p.globals.length dg) p.globals.length (strs p.globals)) := Lib.hid (own_stay HG1.out (fun j hj => (below_step HB45.out HB6.out).block j (HG1.out.lt j hj).2))
   have HAp6 : Hid (Apart base W6.heap.size outs) := Lib.hid (HAp.out.mono (below_step HB45.out HB6.out).size)
   have HGs : Hid (∀ s ∈ p.globals, s.size ≤ 9223372036854775807) := Lib.hid (fun s hs => Nat.le_trans ((U.smC_of HSg.out HOk.out.may).globals.2 _ hs) (by omega))
   have H46 : Hid (Below W4.heap.size W4 W6) := Lib.hid (below_step HB45.out HB6.out)
   have Hlo : Hid (W3.heap.size ≤ base) := Lib.hid (by omega)
   go_upto_region 18 with (go_at_call 19; (with_reducible refine (HM3'.out W6).mono ?_); rintro e' w' ⟨rfl, rfl⟩)
   have h3 : m3 = 0 ∨ m3 = 1 ∨ m3 = 2 := by omega
   clear HM3 HM3' hm3
   rcases h3 with rfl | rfl | rfl
   ·go_upto_region 19 with fail
    have HA2 : Hid (a.add (m * 5) = ⟨g, m * 5, none⟩) := Lib.hid (by rw [HA.out, addr0])
    have z1 : W6.cell? ⟨bq, 1, none⟩ = some (.slice (some a) p.procs.length dp) := by rw [HBq6.out.cell]; rfl
    have HS : Hid (∀ w' : World, Moves (fun j => vv.ownBlock = some j) W6 w' → (w'.cell? ⟨bq, 1, none⟩ = some (.slice (some a) p.procs.length dp) ∧ w'.cell? ⟨(a.add (m * 5)).block, (a.add (m * 5)).off + 2, none⟩ = some vv)) := Lib.hid (fun w' hm => ⟨(hm.cell (p := ⟨bq, 1, none⟩) hbq6 (fun e => by
     have h1 := (HBv.out _ e).2.1.2
     have h2 := HBq.out
     exact absurd h1 (by show ¬ bq < _; omega))).trans z1, by
     rw [HA2.out]
     have h6 := H46.out.size
     have h7 := HGl.out
     exact (hm.cell (p := ⟨g, m * 5 + 2, none⟩) (by show g < _; omega) (fun e => (HBv.out _ e).2.2 rfl)).trans ((H46.out.cell (p := ⟨g, m * 5 + 2, none⟩) HGl.out).trans HC4.out.2.2)⟩)
    clear z1
    have HMD : Hid (Moves (fun j => vv.ownBlock = some j) W6 W6.drew) := Lib.hid ⟨rfl, rfl, rfl, Nat.le_refl _, fun _ _ _ => rfl⟩
    have HMA : Hid (Moves (fun j => vv.ownBlock = some j) W6 (W6.drew.alloc (.cells #[.string name] 9))) := Lib.hid (HMD.out.alloc _)
    have HW : Hid (∀ ad : Addr, some (⟨W6.drew.heap.size, 0, none⟩ : Addr) = some ad → ∀ j u, [.string name][j]? = some u → (W6.drew.alloc (.cells #[.string name] 9)).cell? (ad.add j) = some u) := Lib.hid (fun ad e j u hu => by
     injection e with e
     subst e
     rw [addr0, (Blk.new _ _ _).cell]
     simpa using hu)
    have HRd : Hid (BuildI W6.drew base 59 5 PrK outs (.slice (some ⟨g, 0, none⟩) p.procs.length dp)) := Lib.hid (prk_sz HR4.out (fun _ _ _ => rfl) (Nat.le_refl _))
    have HGd : Hid (W6.drew.ownsRow W3.heap.size 9 1 (.slice Bg p.globals.length dg) p.globals.length (strs p.globals)) := Lib.hid (own_stay HG6.out (fun _ _ => rfl))
    have HAd : Hid (Apart base W6.drew.heap.size outs) := HAp6
    have HOw : Hid ((W6.drew.alloc (.cells #[.string name] 9)).ownsRow base 9 1 vv outs[m].1.vars.length (strs outs[m].1.vars)) := Lib.hid (own_lo ((own_stay (w' := W6.drew) HOv.out (fun j hj => H46.out.block j (HBv.out j hj).2.1.2)).alloc _) (HAp.out.2 _ (List.getElem_mem hm')).1)
    have HBb : Hid (base ≤ (W6.drew.alloc (.cells #[.string name] 9)).heap.size) := Lib.hid (by rw [World.size_alloc]; have h1 := H46.out.size; have h2 : base ≤ W4.heap.size := hbz; show base ≤ W6.heap.size + 1; omega)
    have hlm : outs[m].1.vars.length ≤ 16 := by
     have h1 : outs[m].1 = p.procs[m] := by simp [← HFst.out]
     rw [h1]
     have := hl3 _ (List.getElem_mem hm)
     omega
    obtain ⟨i0, hi0, hz0, hz1, hz2⟩ := info_parts string_info
    have hfz : ∀ w' : World, Moves (fun j => vv.ownBlock = some j) W6 w' → w'.frozen? ⟨(a.add (m * 5)).block, (a.add (m * 5)).off + 2, none⟩ = false := fun w' hm => by
     rw [HA2.out, frozen_same (w := W6) (hm.block g (by have h1 := H46.out.size; have h2 := HGl.out; omega) (fun e => (HBv.out _ e).2.2 rfl)), frozen_same (w := W4) (H46.out.block g HGl.out)]
     exact HFz.out _
    have HFr := Lib.hid hfz
    clear hfz
    refine wp_region_last (fun w' : World => w'.cell? ⟨bq, 1, none⟩ = some (.slice (some a) p.procs.length dp) ∧ w'.cell? ⟨(a.add (m * 5)).block, (a.add (m * 5)).off + 2, none⟩ = some vv) 14 (by kernel_rfl) ?_
    have hS0 : (fun w' : World => w'.cell? ⟨bq, 1, none⟩ = some (.slice (some a) p.procs.length dp) ∧ w'.cell? ⟨(a.add (m * 5)).block, (a.add (m * 5)).off + 2, none⟩ = some vv) W6.drew := HS.out _ HMD.out
    change wpAnyL _ _ _ _ _ _ 15 _ _ W6.drew
    refine wpAnyL_take1 (i := 0) (v := ?_) rfl (by kernel_rfl) (by kernel_rfl) (by kernel_rfl) (by kernel_rfl) (fun _ _ _ h => h) (Or.inl ⟨by rfl, ?_⟩) (by assumption) ?_
    rotate_left
    · intro w hSw
      (try dsimp only at hSw)
      go_split_ands
      go_simp
      (try (with_reducible rfl))
    (try simp only [Act.put, List.setIfInBounds_toArray, List.set_cons_zero, List.set_cons_succ])
    refine wpAnyL_take1 (i := 1) (v := ?_) rfl (by kernel_rfl) (by kernel_rfl) (by kernel_rfl) (by kernel_rfl) (fun _ _ _ h => h) (Or.inl ⟨by rfl, ?_⟩) (by assumption) ?_
    rotate_left
    · intro w hSw
      (try dsimp only at hSw)
      go_split_ands
      go_simp
      (try (with_reducible rfl))
    (try simp only [Act.put, List.setIfInBounds_toArray, List.set_cons_zero, List.set_cons_succ])
    refine wpAnyL_take1 (i := 2) (v := ?_) rfl (by kernel_rfl) (by kernel_rfl) (by kernel_rfl) (by kernel_rfl) (fun _ _ _ h => h) (Or.inl ⟨by rfl, ?_⟩) (by assumption) ?_
    rotate_left
    · intro w hSw
      (try dsimp only at hSw)
      go_split_ands
      go_simp
      (try (with_reducible rfl))
    (try simp only [Act.put, List.setIfInBounds_toArray, List.set_cons_zero, List.set_cons_succ])
    refine wpAnyL_take1 (i := 3) (v := ?_) rfl (by kernel_rfl) (by kernel_rfl) (by kernel_rfl) (by kernel_rfl) (fun _ _ _ h => h) (Or.inl ⟨by rfl, ?_⟩) (by assumption) ?_
    rotate_left
    · intro w hSw
      (try dsimp only at hSw)
      go_split_ands
      go_simp
      (try (with_reducible rfl))
    (try simp only [Act.put, List.setIfInBounds_toArray, List.set_cons_zero, List.set_cons_succ])
    refine wpAnyL_take1 (i := 4) (v := ?_) rfl (by kernel_rfl) (by kernel_rfl) (by kernel_rfl) (by kernel_rfl) (fun _ _ _ h => h) (Or.inl ⟨by rfl, ?_⟩) (by assumption) ?_
    rotate_left
    · intro w hSw
      (try dsimp only at hSw)
      go_split_ands
      go_simp
      (try (with_reducible rfl))
    (try simp only [Act.put, List.setIfInBounds_toArray, List.set_cons_zero, List.set_cons_succ])
    refine wpAnyL_take1 (i := 5) (v := ?_) rfl (by kernel_rfl) (by kernel_rfl) (by kernel_rfl) (by kernel_rfl) (fun _ _ _ h => h) (Or.inl ⟨by rfl, ?_⟩) (by assumption) ?_
    rotate_left
    · intro w hSw
      (try dsimp only at hSw)
      go_split_ands
      go_simp
      (try (with_reducible rfl))
    (try simp only [Act.put, List.setIfInBounds_toArray, List.set_cons_zero, List.set_cons_succ])
    refine wpAnyL_take1 (i := 6) (v := ?_) rfl (by kernel_rfl) (by kernel_rfl) (by kernel_rfl) (by kernel_rfl) (fun _ _ _ h => h) (Or.inl ⟨by rfl, ?_⟩) (by assumption) ?_
    rotate_left
    · intro w hSw
      (try dsimp only at hSw)
      go_split_ands
      go_simp
      (try (with_reducible rfl))
    (try simp only [Act.put, List.setIfInBounds_toArray, List.set_cons_zero, List.set_cons_succ])
    refine wpAnyL_take1 (i := 7) (v := ?_) rfl (by kernel_rfl) (by kernel_rfl) (by kernel_rfl) (by kernel_rfl) (fun _ _ _ h => h) (Or.inl ⟨by rfl, ?_⟩) (by assumption) ?_
    rotate_left
    · intro w hSw
      (try dsimp only at hSw)
      go_split_ands
      go_simp
      (try (with_reducible rfl))
    (try simp only [Act.put, List.setIfInBounds_toArray, List.set_cons_zero, List.set_cons_succ])
    refine wpAnyL_take1 (i := 8) (v := ?_) rfl (by kernel_rfl) (by kernel_rfl) (by kernel_rfl) (by kernel_rfl) (fun _ _ _ h => h) (Or.inl ⟨by rfl, ?_⟩) (by assumption) ?_
    rotate_left
    · intro w hSw
      (try dsimp only at hSw)
      go_split_ands
      go_simp
      (try (with_reducible rfl))
    (try simp only [Act.put, List.setIfInBounds_toArray, List.set_cons_zero, List.set_cons_succ])
    refine wpAnyL_take1 (i := 9) (v := ?_) rfl (by kernel_rfl) (by kernel_rfl) (by kernel_rfl) (by kernel_rfl) (fun _ _ _ h => h) (Or.inl ⟨by rfl, ?_⟩) (by assumption) ?_
    rotate_left
    · intro w hSw
      (try dsimp only at hSw)
      go_split_ands
      go_simp
      (try (with_reducible rfl))
    (try simp only [Act.put, List.setIfInBounds_toArray, List.set_cons_zero, List.set_cons_succ])
    clear hS0
    refine wpAnyL_step (i := 10) (by kernel_rfl) rfl (fun K hK => ?_)
    go_simp
    refine hK.out _ _ (fun _ => HS.out _ HMA.out) ?_
    clear hK K
    (try simp only [Act.put, List.setIfInBounds_toArray, List.set_cons_zero, List.set_cons_succ])
    refine wpAnyL_step (i := 11) (by kernel_rfl) rfl (fun K hK => ?_)
    refine step_append_gen (by rfl) (.tmp 89) (.tmp 91) 22 (by rfl) base 9 i0 _ 1 16 Try.underlying22 hi0 hz0 hz1 hz2 rfl (by decide) vv outs[m].1.vars.length (strs outs[m].1.vars) (by rfl) HOw.out (some ⟨W6.drew.heap.size, 0, none⟩) 1 1 [.string name] (by rfl) rfl HW.out (fun e => by cases e) (by simp [Value.oneCell']) (by unfold maxLen; omega) (by omega) HBb.out ?_
    intro v8 W8 hown8 hg8 hat8
    obtain ⟨X8, c8, rfl, _, _⟩ := own_shape hown8
    have HM8 : Hid (Moves (fun j => vv.ownBlock = some j) W6 W8) := Lib.hid (HMA.out.trans (moves_grown hg8) (fun j hj => .inr hj))
    have HO8 := Lib.hid hown8
    have HG8 := Lib.hid hg8
    have HAt := Lib.hid hat8
    clear hown8 hg8 hat8
    refine hK.out _ _ (fun _ => HS.out _ HM8.out) ?_
    clear hK K
    (try simp only [Act.put, List.setIfInBounds_toArray, List.set_cons_zero, List.set_cons_succ])
    refine wpAnyL_step (i := 12) (by kernel_rfl) rfl (fun K hK => ?_)
    go_simp
    refine hK.out _ _ (fun _ => HS.out _ HM8.out) ?_
    clear hK K
    (try simp only [Act.put, List.setIfInBounds_toArray, List.set_cons_zero, List.set_cons_succ])
    refine wpAnyL_step (i := 13) (by kernel_rfl) rfl (fun K hK => ?_)
    go_simp
    refine hK.out _ _ (fun _ => HS.out _ HM8.out) ?_
    clear hK K
    (try simp only [Act.put, List.setIfInBounds_toArray, List.set_cons_zero, List.set_cons_succ])
    have f8 := HFr.out _ HM8.out
    have hs8 := HS.out _ HM8.out
    obtain ⟨_, k8⟩ := hs8
    have hb8 := block_lt_of_cell k8
    refine wpAnyL_step (i := 14) (by kernel_rfl) rfl (fun K hK => ?_)
    go_simp
    refine hK.out _ _ (fun h => absurd rfl h) ?_
    clear hK K
    (try simp only [Act.put, List.setIfInBounds_toArray, List.set_cons_zero, List.set_cons_succ])
    refine wpAnyL_done (by kernel_rfl) ?_ 0
    have hadr : (⟨(a.add (m * 5)).block, (a.add (m * 5)).off + 2, none⟩ : Addr) = ⟨g, m * 5 + 2, none⟩ := by rw [HA2.out]
    rw [hadr]
    have HQE : Hid (Blk (W8.setCell ⟨g, m * 5 + 2, none⟩ (.slice X8 (outs[m].1.vars.length + 1) c8)) bq 25 #[.slice Bg p.globals.length dg, .slice (some a) p.procs.length dp]) := Lib.hid ((HM8.out.blk HBq6.out (fun e => by
     have h1 := (HBv.out _ e).2.1.2
     have h2 := HBq.out
     omega)).far (p := ⟨g, m * 5 + 2, none⟩) (by show bq ≠ g; have h1 := HBq.out; have h2 := HGl.out; omega) _)
    have h1m : outs[m].1 = p.procs[m] := by simp [← HFst.out]
    have HPp : Hid (ProgI (W8.setCell ⟨g, m * 5 + 2, none⟩ (.slice X8 (outs[m].1.vars.length + 1) c8)) (fun b => W3.heap.size ≤ b ∧ b < (W8.setCell ⟨g, m * 5 + 2, none⟩ (.slice X8 (outs[m].1.vars.length + 1) c8)).heap.size) ⟨p.globals, p.procs.set m (adV name p.procs[m])⟩ [.slice Bg p.globals.length dg, .slice (some a) p.procs.length dp]) := Lib.hid (by
     have h := var_done (o := _) HGd.out HGb.out HGs.out Hlo.out HRd.out HAd.out hm' ((H46.out.cell (p := ⟨g, m * 5 + 2, none⟩) HGl.out).trans HC4.out.2.2) HG8.out HAt.out HO8.out HNs.out
     have h2 : adV name outs[m].1 = adV name p.procs[m] := by rw [h1m]
     rw [HFst.out, h2] at h
     rw [HA.out]
     exact h)
    have HBE : Hid (Below W.heap.size W (W8.setCell ⟨g, m * 5 + 2, none⟩ (.slice X8 (outs[m].1.vars.length + 1) c8))) := Lib.hid (by
     have h1 := HB3.out.size
     have h2 := HB6W.out.size
     have h3 := HBg.out
     have h4 := Hlo.out
     exact below_setc (HB6W.out.trans (HM8.out.below h2 (fun j e => by have := (HBv.out j e).2.1.1; omega))) (by show W.heap.size ≤ g; omega) _)
    have HCk : Hid (mayP ⟨p.globals, p.procs.set m (adV name p.procs[m])⟩ = true → chkP ⟨p.globals, p.procs.set m (adV name p.procs[m])⟩ = if old = true then (5, 0) else (0, 0)) := Lib.hid (fun hmp => by
     rw [chk_adV HOk.out hm hmp, ← HQn.out, ← HOd.out])
    have HSmE : Hid (SmG ⟨p.globals, p.procs.set m (adV name p.procs[m])⟩) := Lib.hid (smG_adV HFt.out (nm_short HNn.out).2 hm)
    clear HQn HOd HO8 HG8 HAt HM8 f8 k8 hb8 HFr HOw HBb HRd HGd HAd HW HMA HMD HS hlm HR4 HG6 HAp6 h1m hadr
    generalize W8.setCell ⟨g, m * 5 + 2, none⟩ _ = V9 at HQE HPp HBE ⊢
    have HIp := Lib.hid (in_ow W3.heap.size V9)
    have HBqE := HQE
    clear HQE
    generalize (⟨p.globals, p.procs.set m (adV name p.procs[m])⟩ : Pg) = pp at HPp HCk HSmE
    have y0 := HBqE.out.cell 0
    have y1 := HBqE.out.cell 1
    have hby := HBqE.out.lt
    have HMy := Lib.hid (fun (V1 : World) hV => May_any HPp.out V1 hV)
    have HCy := Lib.hid (fun (V1 : World) hV => Check_any HPp.out HSmE.out V1 hV)
    clear HPp HSmE
    simp only [List.getElem?_toArray, List.getElem?_cons_zero, List.getElem?_cons_succ] at y0 y1
    generalize chkP pp = rc at HCy HCk
    cases hmp : mayP pp with
    | false =>
     rw [hmp] at HMy
     clear hmp HCk HCy
     go_wp2_with (go_at_call 17; (with_reducible refine (HMy.out V9 HIp.out).mono ?_); rintro e' V1 ⟨rfl, hbv⟩)
     go_ret
     exact ⟨rfl, below_step HBE.out hbv⟩
    | true =>
     have hck := HCk.out hmp
     rw [hmp] at HMy
     clear hmp HCk
     go_upto_region 25 with (go_at_call 17; (with_reducible refine (HMy.out V9 HIp.out).mono ?_); rintro e' V1 ⟨rfl, hbv⟩)
     have HBq2 := Lib.hid (HBqE.out.below hbv hby)
     have HIp2 := Lib.hid (HIp.out.on hbv)
     have HBE2 := Lib.hid (below_step HBE.out hbv)
     clear hbv y0 y1 hby HBqE HIp HBE HMy
     have y0 := HBq2.out.cell 0
     have y1 := HBq2.out.cell 1
     simp only [List.getElem?_toArray, List.getElem?_cons_zero, List.getElem?_cons_succ] at y0 y1
     have hby := HBq2.out.lt
     cases old with
     | false =>
      have hck2 : rc = (0, 0) := hck
      clear hck
      subst hck2
      go_wp2_with (go_at_call 45; (with_reducible refine (HCy.out V1 HIp2.out).mono ?_); rintro e' V2 ⟨rfl, hbv⟩)
      go_ret
      exact ⟨rfl, below_stepA (below_step HBE2.out hbv) _⟩
     | true =>
      have hck2 : rc = (5, 0) := hck
      clear hck
      subst hck2
      go_wp2_with (go_at_call 45; (with_reducible refine (HCy.out V1 HIp2.out).mono ?_); rintro e' V2 ⟨rfl, hbv⟩)
      go_ret
      exact ⟨rfl, below_stepA (below_step HBE2.out hbv) _⟩
   ·go_upto_region 21 with fail
    have HA2 : Hid (a.add (m * 5) = ⟨g, m * 5, none⟩) := Lib.hid (by rw [HA.out, addr0])
    have z1 : W6.cell? ⟨bq, 1, none⟩ = some (.slice (some a) p.procs.length dp) := by rw [HBq6.out.cell]; rfl
    have HS : Hid (∀ w' : World, Moves (fun j => vp.ownBlock = some j) W6 w' → (w'.cell? ⟨bq, 1, none⟩ = some (.slice (some a) p.procs.length dp) ∧ w'.cell? ⟨(a.add (m * 5)).block, (a.add (m * 5)).off + 1, none⟩ = some vp)) := Lib.hid (fun w' hm => ⟨(hm.cell (p := ⟨bq, 1, none⟩) hbq6 (fun e => by
     have h1 := (HBpp.out _ e).2.1.2
     have h2 := HBq.out
     exact absurd h1 (by show ¬ bq < _; omega))).trans z1, by
     rw [HA2.out]
     have h6 := H46.out.size
     have h7 := HGl.out
     exact (hm.cell (p := ⟨g, m * 5 + 1, none⟩) (by show g < _; omega) (fun e => (HBpp.out _ e).2.2 rfl)).trans ((H46.out.cell (p := ⟨g, m * 5 + 1, none⟩) HGl.out).trans HC4.out.2.1)⟩)
    clear z1
    have HMD : Hid (Moves (fun j => vp.ownBlock = some j) W6 W6.drew) := Lib.hid ⟨rfl, rfl, rfl, Nat.le_refl _, fun _ _ _ => rfl⟩
    have HMA : Hid (Moves (fun j => vp.ownBlock = some j) W6 (W6.drew.alloc (.cells #[.string name, .bool false] 61))) := Lib.hid (HMD.out.alloc _)
    have HW : Hid (∀ ad : Addr, some (⟨W6.drew.heap.size, 0, none⟩ : Addr) = some ad → ∀ j u, [.string name, .bool false][j]? = some u → (W6.drew.alloc (.cells #[.string name, .bool false] 61)).cell? (ad.add j) = some u) := Lib.hid (fun ad e j u hu => by
     injection e with e
     subst e
     rw [addr0, (Blk.new _ _ _).cell]
     simpa using hu)
    have HRd : Hid (BuildI W6.drew base 59 5 PrK outs (.slice (some ⟨g, 0, none⟩) p.procs.length dp)) := Lib.hid (prk_sz HR4.out (fun _ _ _ => rfl) (Nat.le_refl _))
    have HGd : Hid (W6.drew.ownsRow W3.heap.size 9 1 (.slice Bg p.globals.length dg) p.globals.length (strs p.globals)) := Lib.hid (own_stay HG6.out (fun _ _ => rfl))
    have HAd : Hid (Apart base W6.drew.heap.size outs) := HAp6
    have HOw : Hid ((W6.drew.alloc (.cells #[.string name, .bool false] 61)).ownsRow base 61 2 vp outs[m].1.params.length ((parCells outs[m].1.params).flatten)) := Lib.hid (own_lo ((own_stay (w' := W6.drew) HOp.out (fun j hj => H46.out.block j (HBpp.out j hj).2.1.2)).alloc _) (HAp.out.2 _ (List.getElem_mem hm')).1)
    have HBb : Hid (base ≤ (W6.drew.alloc (.cells #[.string name, .bool false] 61)).heap.size) := Lib.hid (by rw [World.size_alloc]; have h1 := H46.out.size; have h2 : base ≤ W4.heap.size := hbz; show base ≤ W6.heap.size + 1; omega)
    have hlm : outs[m].1.params.length ≤ 16 := by
     have h1 : outs[m].1 = p.procs[m] := by simp [← HFst.out]
     rw [h1]
     have := hl3 _ (List.getElem_mem hm)
     omega
    obtain ⟨i0, hi0, hz0, hz1, hz2⟩ := info_parts par_info
    have hfz : ∀ w' : World, Moves (fun j => vp.ownBlock = some j) W6 w' → w'.frozen? ⟨(a.add (m * 5)).block, (a.add (m * 5)).off + 1, none⟩ = false := fun w' hm => by
     rw [HA2.out, frozen_same (w := W6) (hm.block g (by have h1 := H46.out.size; have h2 := HGl.out; omega) (fun e => (HBpp.out _ e).2.2 rfl)), frozen_same (w := W4) (H46.out.block g HGl.out)]
     exact HFz.out _
    have HFr := Lib.hid hfz
    clear hfz
    refine wp_region_last (fun w' : World => w'.cell? ⟨bq, 1, none⟩ = some (.slice (some a) p.procs.length dp) ∧ w'.cell? ⟨(a.add (m * 5)).block, (a.add (m * 5)).off + 1, none⟩ = some vp) 15 (by kernel_rfl) ?_
    have hS0 : (fun w' : World => w'.cell? ⟨bq, 1, none⟩ = some (.slice (some a) p.procs.length dp) ∧ w'.cell? ⟨(a.add (m * 5)).block, (a.add (m * 5)).off + 1, none⟩ = some vp) W6.drew := HS.out _ HMD.out
    change wpAnyL _ _ _ _ _ _ 16 _ _ W6.drew
    refine wpAnyL_take1 (i := 0) (v := ?_) rfl (by kernel_rfl) (by kernel_rfl) (by kernel_rfl) (by kernel_rfl) (fun _ _ _ h => h) (Or.inl ⟨by rfl, ?_⟩) (by assumption) ?_
    rotate_left
    · intro w hSw
      (try dsimp only at hSw)
      go_split_ands
      go_simp
      (try (with_reducible rfl))
    (try simp only [Act.put, List.setIfInBounds_toArray, List.set_cons_zero, List.set_cons_succ])
    refine wpAnyL_take1 (i := 1) (v := ?_) rfl (by kernel_rfl) (by kernel_rfl) (by kernel_rfl) (by kernel_rfl) (fun _ _ _ h => h) (Or.inl ⟨by rfl, ?_⟩) (by assumption) ?_
    rotate_left
    · intro w hSw
      (try dsimp only at hSw)
      go_split_ands
      go_simp
      (try (with_reducible rfl))
    (try simp only [Act.put, List.setIfInBounds_toArray, List.set_cons_zero, List.set_cons_succ])
    refine wpAnyL_take1 (i := 2) (v := ?_) rfl (by kernel_rfl) (by kernel_rfl) (by kernel_rfl) (by kernel_rfl) (fun _ _ _ h => h) (Or.inl ⟨by rfl, ?_⟩) (by assumption) ?_
    rotate_left
    · intro w hSw
      (try dsimp only at hSw)
      go_split_ands
      go_simp
      (try (with_reducible rfl))
    (try simp only [Act.put, List.setIfInBounds_toArray, List.set_cons_zero, List.set_cons_succ])
    refine wpAnyL_take1 (i := 3) (v := ?_) rfl (by kernel_rfl) (by kernel_rfl) (by kernel_rfl) (by kernel_rfl) (fun _ _ _ h => h) (Or.inl ⟨by rfl, ?_⟩) (by assumption) ?_
    rotate_left
    · intro w hSw
      (try dsimp only at hSw)
      go_split_ands
      go_simp
      (try (with_reducible rfl))
    (try simp only [Act.put, List.setIfInBounds_toArray, List.set_cons_zero, List.set_cons_succ])
    refine wpAnyL_take1 (i := 4) (v := ?_) rfl (by kernel_rfl) (by kernel_rfl) (by kernel_rfl) (by kernel_rfl) (fun _ _ _ h => h) (Or.inl ⟨by rfl, ?_⟩) (by assumption) ?_
    rotate_left
    · intro w hSw
      (try dsimp only at hSw)
      go_split_ands
      go_simp
      (try (with_reducible rfl))
    (try simp only [Act.put, List.setIfInBounds_toArray, List.set_cons_zero, List.set_cons_succ])
    refine wpAnyL_take1 (i := 5) (v := ?_) rfl (by kernel_rfl) (by kernel_rfl) (by kernel_rfl) (by kernel_rfl) (fun _ _ _ h => h) (Or.inl ⟨by rfl, ?_⟩) (by assumption) ?_
    rotate_left
    · intro w hSw
      (try dsimp only at hSw)
      go_split_ands
      go_simp
      (try (with_reducible rfl))
    (try simp only [Act.put, List.setIfInBounds_toArray, List.set_cons_zero, List.set_cons_succ])
    refine wpAnyL_take1 (i := 6) (v := ?_) rfl (by kernel_rfl) (by kernel_rfl) (by kernel_rfl) (by kernel_rfl) (fun _ _ _ h => h) (Or.inl ⟨by rfl, ?_⟩) (by assumption) ?_
    rotate_left
    · intro w hSw
      (try dsimp only at hSw)
      go_split_ands
      go_simp
      (try (with_reducible rfl))
    (try simp only [Act.put, List.setIfInBounds_toArray, List.set_cons_zero, List.set_cons_succ])
    refine wpAnyL_take1 (i := 7) (v := ?_) rfl (by kernel_rfl) (by kernel_rfl) (by kernel_rfl) (by kernel_rfl) (fun _ _ _ h => h) (Or.inl ⟨by rfl, ?_⟩) (by assumption) ?_
    rotate_left
    · intro w hSw
      (try dsimp only at hSw)
      go_split_ands
      go_simp
      (try (with_reducible rfl))
    (try simp only [Act.put, List.setIfInBounds_toArray, List.set_cons_zero, List.set_cons_succ])
    refine wpAnyL_take1 (i := 8) (v := ?_) rfl (by kernel_rfl) (by kernel_rfl) (by kernel_rfl) (by kernel_rfl) (fun _ _ _ h => h) (Or.inl ⟨by rfl, ?_⟩) (by assumption) ?_
    rotate_left
    · intro w hSw
      (try dsimp only at hSw)
      go_split_ands
      go_simp
      (try (with_reducible rfl))
    (try simp only [Act.put, List.setIfInBounds_toArray, List.set_cons_zero, List.set_cons_succ])
    refine wpAnyL_take1 (i := 9) (v := ?_) rfl (by kernel_rfl) (by kernel_rfl) (by kernel_rfl) (by kernel_rfl) (fun _ _ _ h => h) (Or.inl ⟨by rfl, ?_⟩) (by assumption) ?_
    rotate_left
    · intro w hSw
      (try dsimp only at hSw)
      go_split_ands
      go_simp
      (try (with_reducible rfl))
    (try simp only [Act.put, List.setIfInBounds_toArray, List.set_cons_zero, List.set_cons_succ])
    refine wpAnyL_take1 (i := 10) (v := ?_) rfl (by kernel_rfl) (by kernel_rfl) (by kernel_rfl) (by kernel_rfl) (fun _ _ _ h => h) (Or.inl ⟨by rfl, ?_⟩) (by assumption) ?_
    rotate_left
    · intro w hSw
      (try dsimp only at hSw)
      go_split_ands
      go_simp
      (try (with_reducible rfl))
    (try simp only [Act.put, List.setIfInBounds_toArray, List.set_cons_zero, List.set_cons_succ])
    clear hS0
    refine wpAnyL_step (i := 11) (by kernel_rfl) rfl (fun K hK => ?_)
    go_simp
    refine hK.out _ _ (fun _ => HS.out _ HMA.out) ?_
    clear hK K
    (try simp only [Act.put, List.setIfInBounds_toArray, List.set_cons_zero, List.set_cons_succ])
    refine wpAnyL_step (i := 12) (by kernel_rfl) rfl (fun K hK => ?_)
    refine step_append_gen (by rfl) (.tmp 105) (.tmp 108) 56 (by rfl) base 61 i0 _ 2 24 Try.underlying56 hi0 hz0 hz1 hz2 rfl (by decide) vp outs[m].1.params.length ((parCells outs[m].1.params).flatten) (by rfl) HOw.out (some ⟨W6.drew.heap.size, 0, none⟩) 1 1 [.string name, .bool false] (by rfl) rfl HW.out (fun e => by cases e) (by simp [Value.oneCell']) (by unfold maxLen; omega) (by omega) HBb.out ?_
    intro v8 W8 hown8 hg8 hat8
    obtain ⟨X8, c8, rfl, _, _⟩ := own_shape hown8
    have HM8 : Hid (Moves (fun j => vp.ownBlock = some j) W6 W8) := Lib.hid (HMA.out.trans (moves_grown hg8) (fun j hj => .inr hj))
    have HO8 := Lib.hid hown8
    have HG8 := Lib.hid hg8
    have HAt := Lib.hid hat8
    clear hown8 hg8 hat8
    refine hK.out _ _ (fun _ => HS.out _ HM8.out) ?_
    clear hK K
    (try simp only [Act.put, List.setIfInBounds_toArray, List.set_cons_zero, List.set_cons_succ])
    refine wpAnyL_step (i := 13) (by kernel_rfl) rfl (fun K hK => ?_)
    go_simp
    refine hK.out _ _ (fun _ => HS.out _ HM8.out) ?_
    clear hK K
    (try simp only [Act.put, List.setIfInBounds_toArray, List.set_cons_zero, List.set_cons_succ])
    refine wpAnyL_step (i := 14) (by kernel_rfl) rfl (fun K hK => ?_)
    go_simp
    refine hK.out _ _ (fun _ => HS.out _ HM8.out) ?_
    clear hK K
    (try simp only [Act.put, List.setIfInBounds_toArray, List.set_cons_zero, List.set_cons_succ])
    have f8 := HFr.out _ HM8.out
    have hs8 := HS.out _ HM8.out
    obtain ⟨_, k8⟩ := hs8
    have hb8 := block_lt_of_cell k8
    refine wpAnyL_step (i := 15) (by kernel_rfl) rfl (fun K hK => ?_)
    go_simp
    refine hK.out _ _ (fun h => absurd rfl h) ?_
    clear hK K
    (try simp only [Act.put, List.setIfInBounds_toArray, List.set_cons_zero, List.set_cons_succ])
    refine wpAnyL_done (by kernel_rfl) ?_ 0
    have hadr : (⟨(a.add (m * 5)).block, (a.add (m * 5)).off + 1, none⟩ : Addr) = ⟨g, m * 5 + 1, none⟩ := by rw [HA2.out]
    rw [hadr]
    have HQE : Hid (Blk (W8.setCell ⟨g, m * 5 + 1, none⟩ (.slice X8 (outs[m].1.params.length + 1) c8)) bq 25 #[.slice Bg p.globals.length dg, .slice (some a) p.procs.length dp]) := Lib.hid ((HM8.out.blk HBq6.out (fun e => by
     have h1 := (HBpp.out _ e).2.1.2
     have h2 := HBq.out
     omega)).far (p := ⟨g, m * 5 + 1, none⟩) (by show bq ≠ g; have h1 := HBq.out; have h2 := HGl.out; omega) _)
    have h1m : outs[m].1 = p.procs[m] := by simp [← HFst.out]
    have HPp : Hid (ProgI (W8.setCell ⟨g, m * 5 + 1, none⟩ (.slice X8 (outs[m].1.params.length + 1) c8)) (fun b => W3.heap.size ≤ b ∧ b < (W8.setCell ⟨g, m * 5 + 1, none⟩ (.slice X8 (outs[m].1.params.length + 1) c8)).heap.size) ⟨p.globals, p.procs.set m (adP name p.procs[m])⟩ [.slice Bg p.globals.length dg, .slice (some a) p.procs.length dp]) := Lib.hid (by
     have h := par_done (o := _) HGd.out HGb.out HGs.out Hlo.out HRd.out HAd.out hm' ((H46.out.cell (p := ⟨g, m * 5 + 1, none⟩) HGl.out).trans HC4.out.2.1) HG8.out HAt.out HO8.out HNs.out
     have h2 : adP name outs[m].1 = adP name p.procs[m] := by rw [h1m]
     rw [HFst.out, h2] at h
     rw [HA.out]
     exact h)
    have HBE : Hid (Below W.heap.size W (W8.setCell ⟨g, m * 5 + 1, none⟩ (.slice X8 (outs[m].1.params.length + 1) c8))) := Lib.hid (by
     have h1 := HB3.out.size
     have h2 := HB6W.out.size
     have h3 := HBg.out
     have h4 := Hlo.out
     exact below_setc (HB6W.out.trans (HM8.out.below h2 (fun j e => by have := (HBpp.out j e).2.1.1; omega))) (by show W.heap.size ≤ g; omega) _)
    have HCk : Hid (mayP ⟨p.globals, p.procs.set m (adP name p.procs[m])⟩ = true → chkP ⟨p.globals, p.procs.set m (adP name p.procs[m])⟩ = if (old || isQ mainB p.procs[m]) = true then (5, 0) else (0, 0)) := Lib.hid (fun hmp => by
     rw [chk_adP HOk.out hm hmp, ← HQn.out, ← HOd.out])
    have HSmE : Hid (SmG ⟨p.globals, p.procs.set m (adP name p.procs[m])⟩) := Lib.hid (smG_adP HFt.out hm)
    have HZ0 : Hid ((W8.setCell ⟨g, m * 5 + 1, none⟩ (.slice X8 (outs[m].1.params.length + 1) c8)).cell? (a.add (m * 5)) = some (.string qn)) := Lib.hid (by
     have h6 := H46.out.size
     have h7 := HGl.out
     rw [HA2.out, cell_set_ne _ (by simp)]
     exact (HM8.out.cell (p := ⟨g, m * 5, none⟩) (by show g < _; omega) (fun e => (HBpp.out _ e).2.2 rfl)).trans ((H46.out.cell (p := ⟨g, m * 5, none⟩) HGl.out).trans HC4.out.1))
    have hqm : (qn.toList == [109, 97, 105, 110]) = isQ mainB p.procs[m] := by
     rw [HQn.out]
     exact main_eq _
    have HQm := Lib.hid hqm
    clear hqm
    clear HQn HOd HO8 HG8 HAt HM8 f8 k8 hb8 HFr HOw HBb HRd HGd HAd HW HMA HMD HS hlm HR4 HG6 HAp6 h1m hadr
    generalize W8.setCell ⟨g, m * 5 + 1, none⟩ _ = V9 at HQE HPp HBE HZ0 ⊢
    have HIp := Lib.hid (in_ow W3.heap.size V9)
    have HBqE := HQE
    clear HQE
    generalize (⟨p.globals, p.procs.set m (adP name p.procs[m])⟩ : Pg) = pp at HPp HCk HSmE
    have hqm := HQm.out
    generalize isQ mainB p.procs[m] = mb at hqm HCk
    have z1 : V9.cell? ⟨bq, 1, none⟩ = some (.slice (some a) p.procs.length dp) := by rw [HBqE.out.cell]; rfl
    have z0 := HZ0.out
    clear HQm HZ0
    cases old with
    | true =>
     go_upto_region 23 with fail
     clear z0 z1 hqm
     rw [Bool.true_or] at HCk
     have y0 := HBqE.out.cell 0
     have y1 := HBqE.out.cell 1
     have hby := HBqE.out.lt
     have HMy := Lib.hid (fun (V1 : World) hV => May_any HPp.out V1 hV)
     have HCy := Lib.hid (fun (V1 : World) hV => Check_any HPp.out HSmE.out V1 hV)
     clear HPp HSmE
     simp only [List.getElem?_toArray, List.getElem?_cons_zero, List.getElem?_cons_succ] at y0 y1
     generalize chkP pp = rc at HCy HCk
     cases hmp : mayP pp with
     | false =>
      rw [hmp] at HMy
      clear hmp HCk HCy
      go_wp2_with (go_at_call 17; (with_reducible refine (HMy.out V9 HIp.out).mono ?_); rintro e' V1 ⟨rfl, hbv⟩)
      go_ret
      exact ⟨rfl, below_step HBE.out hbv⟩
     | true =>
      have hck := HCk.out hmp
      rw [hmp] at HMy
      clear hmp HCk
      go_upto_region 25 with (go_at_call 17; (with_reducible refine (HMy.out V9 HIp.out).mono ?_); rintro e' V1 ⟨rfl, hbv⟩)
      have HBq2 := Lib.hid (HBqE.out.below hbv hby)
      have HIp2 := Lib.hid (HIp.out.on hbv)
      have HBE2 := Lib.hid (below_step HBE.out hbv)
      clear hbv y0 y1 hby HBqE HIp HBE HMy
      have y0 := HBq2.out.cell 0
      have y1 := HBq2.out.cell 1
      simp only [List.getElem?_toArray, List.getElem?_cons_zero, List.getElem?_cons_succ] at y0 y1
      have hby := HBq2.out.lt
      have hck2 : rc = (5, 0) := hck
      clear hck
      subst hck2
      go_wp2_with (go_at_call 45; (with_reducible refine (HCy.out V1 HIp2.out).mono ?_); rintro e' V2 ⟨rfl, hbv⟩)
      go_ret
      exact ⟨rfl, below_stepA (below_step HBE2.out hbv) _⟩
    | false =>
     go_upto_region 23 with fail
     clear z0 z1 hqm
     rw [Bool.false_or] at HCk
     have y0 := HBqE.out.cell 0
     have y1 := HBqE.out.cell 1
     have hby := HBqE.out.lt
     have HMy := Lib.hid (fun (V1 : World) hV => May_any HPp.out V1 hV)
     have HCy := Lib.hid (fun (V1 : World) hV => Check_any HPp.out HSmE.out V1 hV)
     clear HPp HSmE
     simp only [List.getElem?_toArray, List.getElem?_cons_zero, List.getElem?_cons_succ] at y0 y1
     generalize chkP pp = rc at HCy HCk
     cases hmp : mayP pp with
     | false =>
      rw [hmp] at HMy
      clear hmp HCk HCy
      go_wp2_with (go_at_call 17; (with_reducible refine (HMy.out V9 HIp.out).mono ?_); rintro e' V1 ⟨rfl, hbv⟩)
      go_ret
      exact ⟨rfl, below_step HBE.out hbv⟩
     | true =>
      have hck := HCk.out hmp
      rw [hmp] at HMy
      clear hmp HCk
      go_upto_region 25 with (go_at_call 17; (with_reducible refine (HMy.out V9 HIp.out).mono ?_); rintro e' V1 ⟨rfl, hbv⟩)
      have HBq2 := Lib.hid (HBqE.out.below hbv hby)
      have HIp2 := Lib.hid (HIp.out.on hbv)
      have HBE2 := Lib.hid (below_step HBE.out hbv)
      clear hbv y0 y1 hby HBqE HIp HBE HMy
      have y0 := HBq2.out.cell 0
      have y1 := HBq2.out.cell 1
      simp only [List.getElem?_toArray, List.getElem?_cons_zero, List.getElem?_cons_succ] at y0 y1
      have hby := HBq2.out.lt
      cases mb with
      | false =>
       have hck2 : rc = (0, 0) := hck
       clear hck
       subst hck2
       go_wp2_with (go_at_call 45; (with_reducible refine (HCy.out V1 HIp2.out).mono ?_); rintro e' V2 ⟨rfl, hbv⟩)
       go_ret
       exact ⟨rfl, below_stepA (below_step HBE2.out hbv) _⟩
      | true =>
       have hck2 : rc = (5, 0) := hck
       clear hck
       subst hck2
       go_wp2_with (go_at_call 45; (with_reducible refine (HCy.out V1 HIp2.out).mono ?_); rintro e' V2 ⟨rfl, hbv⟩)
       go_ret
       exact ⟨rfl, below_stepA (below_step HBE2.out hbv) _⟩
   ·obtain ⟨i0, hi0, hz0, hz1, hz2⟩ := info_parts string_info
    have HOg : Hid ((W6.alloc (.cells #[.string name] 9)).ownsRow W3.heap.size 9 1 (.slice Bg p.globals.length dg) p.globals.length (strs p.globals)) := Lib.hid (HG6.out.alloc _)
    have HW := Lib.hid (cell_one_new W6 (.string name) 9)
    have HBb : Hid (W3.heap.size ≤ (W6.alloc (.cells #[.string name] 9)).heap.size) := Lib.hid (by rw [World.size_alloc]; have h1 := H46.out.size; have h2 : base ≤ W4.heap.size := hbz; have h3 := Hlo.out; omega)
    have HMA : Hid (Moves (fun j => (Value.slice Bg p.globals.length dg).ownBlock = some j) W6 (W6.alloc (.cells #[.string name] 9))) := Lib.hid ((Moves.refl _ _).alloc _)
    have HGq : Hid (∀ j, (Value.slice Bg p.globals.length dg).ownBlock = some j → j ≠ bq) := Lib.hid (fun j hj => by have h1 := HGb.out j hj; have h2 := HBq.out; omega)
    have y0 : (W6.alloc (.cells #[.string name] 9)).cell? ⟨bq, 0, none⟩ = some (.slice Bg p.globals.length dg) := by rw [(HBq6.out.alloc _).cell]; rfl
    have y0' : W6.cell? ⟨bq, 0, none⟩ = some (.slice Bg p.globals.length dg) := by rw [HBq6.out.cell]; rfl
    go_upto_region 13 with (at_builtin; refine wpList_append_own_at _ rfl (.tmp 57) (.tmp 59) 22 rfl W3.heap.size 9 i0 _ 1 16 Try.underlying22 hi0 hz0 hz1 hz2 rfl (by decide) _ p.globals.length (strs p.globals) rfl HOg.out ⟨W6.heap.size, 0, none⟩ 1 1 [.string name] rfl rfl HW.out (by simp [Value.oneCell']) (by unfold maxLen; omega) (by omega) HBb.out ?_; intro v8 W8 hown8 hg8 _ hat8; obtain ⟨X8, c8, rfl, _, _⟩ := own_shape hown8; have HO8 := Lib.hid hown8; have HAt := Lib.hid hat8; have HM8 : Hid (Moves (fun j => (Value.slice Bg p.globals.length dg).ownBlock = some j) W6 W8) := Lib.hid (HMA.out.trans (moves_grown hg8) (fun j hj => .inr hj)); have HBq8 := Lib.hid (HM8.out.blk HBq6.out (fun e => HGq.out _ e rfl)); clear hown8 hg8 hat8 y0 y0'; have y0 : W8.cell? ⟨bq, 0, none⟩ = some (.slice Bg p.globals.length dg) := (by rw [HBq8.out.cell]; rfl); have f0 := HBq8.out.frozen 0; have hb8 := HBq8.out.lt)
    have HBqE : Hid (Blk (W8.setCell ⟨bq, 0, none⟩ (.slice X8 (p.globals.length + 1) c8)) bq 25 #[.slice X8 (p.globals.length + 1) c8, .slice (some a) p.procs.length dp]) := Lib.hid (by
     have h := HBq8.out.set_ 0 (.slice X8 (p.globals.length + 1) c8)
     simp only [List.setIfInBounds_toArray, List.set_cons_zero] at h
     exact h)
    have HPp : Hid (ProgI (W8.setCell ⟨bq, 0, none⟩ (.slice X8 (p.globals.length + 1) c8)) (fun b => W3.heap.size ≤ b ∧ b < (W8.setCell ⟨bq, 0, none⟩ (.slice X8 (p.globals.length + 1) c8)).heap.size) ⟨p.globals ++ [name], p.procs⟩ [.slice X8 (p.globals.length + 1) c8, .slice (some a) p.procs.length dp]) := Lib.hid (by
     have hbqe := HBq.out
     have h := glob_done (V := W8.setCell ⟨bq, 0, none⟩ (.slice X8 (p.globals.length + 1) c8)) HR1.out (fun j h1 h2 => by
      have h3 := H46.out.size
      have h4 := HM8.out.size
      rw [heap_set_ne W8 ⟨bq, 0, none⟩ _ (by omega) (by show j ≠ bq; omega), HM8.out.block j (by omega) (fun e => by have := HGb.out j e; omega)]
      exact H46.out.block j h2) (by simp only [size_set]; exact Nat.le_trans H46.out.size HM8.out.size) (own_stay HO8.out (fun j hj => heap_set_ne W8 ⟨bq, 0, none⟩ _ (HO8.out.lt j hj).2 (by
       show j ≠ bq
       rcases HAt.out with e | e
       ·exact HGq.out j (e.symm.trans hj)
       ·rw [e, World.size_alloc] at hj
        injection hj with hj
        omega))) HGs.out HNs.out Hlo.out
     rw [HFst.out] at h
     rw [HA.out]
     exact h)
    have HBE : Hid (Below W.heap.size W (W8.setCell ⟨bq, 0, none⟩ (.slice X8 (p.globals.length + 1) c8))) := Lib.hid (by
     have h1 := HB3.out.size
     have h2 := HB6W.out.size
     have h4 := Hlo.out
     have h5 := HBq.out
     exact below_setc (HB6W.out.trans (HM8.out.below h2 (fun j e => by have := (HG6.out.lt j e).1; omega))) (by show W.heap.size ≤ bq; omega) _)
    have HBW6 : Hid (Below W3.heap.size W3 (W8.setCell ⟨bq, 0, none⟩ (.slice X8 (p.globals.length + 1) c8))) := Lib.hid (by
     have h2 := (below_step HB35.out HB6.out).size
     have h4 := Hlo.out
     have h5 := HBq.out
     exact below_setc ((below_step HB35.out HB6.out).trans (HM8.out.below h2 (fun j e => (HG6.out.lt j e).1))) (by show W3.heap.size ≤ bq; omega) _)
    have HCk : Hid (mayP ⟨p.globals ++ [name], p.procs⟩ = true → chkP ⟨p.globals ++ [name], p.procs⟩ = if (old || p.procs.any (fun q => (varsP p q.nm).any (isT name))) = true then (5, 0) else (0, 0)) := Lib.hid (fun hmp => by
     rw [chk_glob HOk.out hm hmp, ← HQn.out, ← HOd.out])
    have HSmE : Hid (SmG ⟨p.globals ++ [name], p.procs⟩) := Lib.hid (smG_glob HFt.out (nm_short HNn.out).2)
    clear HQn HOd HO8 HAt HM8 HBq8 y0 f0 hb8 HOg HW HBb HMA HGq HR4 HG6 HAp6
    generalize W8.setCell ⟨bq, 0, none⟩ _ = V9 at HBqE HPp HBE HBW6 ⊢
    have HIp := Lib.hid (in_ow W3.heap.size V9)
    have hsl : SliceI V9 (fun b => W3.heap.size ≤ b ∧ b < V9.heap.size) 5 (ProcI V9 (fun b => W3.heap.size ≤ b ∧ b < V9.heap.size)) p.procs (.slice (some a) p.procs.length dp) := by
     obtain ⟨_, _, he, _, h2⟩ := HPp.out
     injection he with e1 e2
     injection e2 with e2 _
     subst e2
     exact h2
    have HSl := Lib.hid hsl
    have HI9 := Lib.hid (HI3.out.on HBW6.out)
    have HBp9 := Lib.hid (HBp3.out.below HBW6.out HBp3.out.lt)
    have HSs := Lib.hid (fun nm => vars_small HSg.out HOk.out.may nm)
    clear hsl
    have z1 : V9.cell? ⟨bq, 1, none⟩ = some (.slice (some a) p.procs.length dp) := by rw [HBqE.out.cell]; rfl
    have hby := HBqE.out.lt
    go_wp2_with fail
    clear z1 hby
    go_loopg [12, 65] p.procs.length (fun kk ov iv wr => ∃ (k : Nat) (o : Bool), k + kk = p.procs.length ∧ iv = .int .i64 k ∧ ov = .bool o ∧ Hid (o = (old || (p.procs.take k).any (fun q => (varsP p q.nm).any (isT name)))) ∧ Hid (Below V9.heap.size V9 wr))
    case atStart => exact ⟨0, old, by omega, rfl, rfl, Lib.hid (by simp), Lib.hid (Below.refl _ _)⟩
    case round =>
     obtain ⟨k, o, hkk, rfl, rfl, HO, HBr⟩ := hrel
     generalize wr = wo at *
     by_cases hlt : k < p.procs.length
     ·obtain ⟨a9, Cp, bp, Cv, bv, Cb, bb, Ce, be, hA9, _, ⟨p0, p1, p2, p3, p4, _⟩, _⟩ := proc_at HSl.out (HIp.out.on HBr.out) hlt
      injection hA9 with hA9
      subst hA9
      have HOn : Hid ((o || (varsP p p.procs[k].nm).any (isT name)) = (old || (p.procs.take (k + 1)).any (fun q => (varsP p q.nm).any (isT name)))) := Lib.hid (by
       rw [HO.out, List.take_add_one, List.getElem?_eq_getElem hlt, List.any_append, Option.toList_some]
       simp [Bool.or_assoc])
      have HVx := Lib.hid (fun V hV => HVr.out p.procs[k].nm V hV)
      have HSx := Lib.hid (HSs.out p.procs[k].nm)
      generalize p.procs[k].params.length = n1 at p1
      generalize p.procs[k].vars.length = n2 at p2
      generalize p.procs[k].body.length = n3 at p3
      generalize p.procs[k].end_.length = n4 at p4
      generalize p.procs[k].nm = nmk at p0 HOn HVx HSx
      clear HO
      go_upto_region 16 with fail
      clear p0 p1 p2 p3 p4
      have HBx : Hid (Blk (wo.alloc (.cells #[.string nmk, .slice Cp n1 bp, .slice Cv n2 bv, .slice Cb n3 bb, .slice Ce n4 be] 59)) wo.heap.size 59 #[.string nmk, .slice Cp n1 bp, .slice Cv n2 bv, .slice Cb n3 bb, .slice Ce n4 be]) := Lib.hid (Blk.new _ _ _)
      have HBr2 : Hid (Below V9.heap.size V9 (wo.alloc (.cells #[.string nmk, .slice Cp n1 bp, .slice Cv n2 bv, .slice Cb n3 bb, .slice Ce n4 be] 59))) := Lib.hid (below_stepA HBr.out _)
      generalize World.alloc wo _ = w1 at HBx HBr2 ⊢
      have HI1 := Lib.hid (HI9.out.on HBr2.out)
      have HBp1 := Lib.hid (HBp9.out.below HBr2.out HBp9.out.lt)
      have q0 : w1.cell? ⟨b, 0, none⟩ = some (.slice Ag p.globals.length cg) := by rw [HBp1.out.cell]; rfl
      have q1 : w1.cell? ⟨b, 1, none⟩ = some (.slice Ap p.procs.length cp) := by rw [HBp1.out.cell]; rfl
      have x0 : w1.cell? ⟨wo.heap.size, 0, none⟩ = some (.string nmk) := by rw [HBx.out.cell]; rfl
      cases o with
      | true =>
       go_wp2_with fail
       go_roundg (p.procs.length - k - 1)
       case measure => omega
       case rel => exact ⟨k + 1, true, by omega, by go_num, rfl, Lib.hid (by rw [← HOn.out, Bool.true_or]), HBr2⟩
      | false =>
       go_wp2_with (first
        | (go_at_call 48; (with_reducible refine (HVx.out w1 HI1.out).mono ?_); rintro e' w2 ⟨v2, rfl, ho2, hb2⟩; obtain ⟨X2, k2, rfl, _, _⟩ := own_shape ho2; have HT2 := Lib.hid (texts_of_own HSx.out ho2).2; clear ho2)
        | (go_at_call 49; (with_reducible refine (rIn_any HT2.out (in_ow _ w2) name).mono ?_); rintro e' w' ⟨rfl, rfl⟩))
       go_roundg (p.procs.length - k - 1)
       case measure => omega
       case rel => exact ⟨k + 1, _, by omega, by go_num, rfl, Lib.hid (by rw [← HOn.out, Bool.false_or]), Lib.hid (below_step HBr2.out hb2)⟩
     ·have hke : k = p.procs.length := by omega
      subst hke
      have hoe := HO.out
      rw [List.take_length] at hoe
      rw [← hoe] at HCk
      clear hoe HO
      have HBq9 := Lib.hid (HBqE.out.below HBr.out HBqE.out.lt)
      have HIp9 := Lib.hid (HIp.out.on HBr.out)
      have HBE9 := Lib.hid (below_step HBE.out HBr.out)
      clear HBqE HIp HBE
      generalize (⟨p.globals ++ [name], p.procs⟩ : Pg) = pp at HPp HCk HSmE
      go_upto_region 23 with fail
      have HBqE := HBq9
      have HIp := HIp9
      have HBE := HBE9
      clear HBq9 HIp9 HBE9
      have y0 := HBqE.out.cell 0
      have y1 := HBqE.out.cell 1
      have hby := HBqE.out.lt
      have HMy := Lib.hid (fun (V1 : World) hV => May_any HPp.out V1 hV)
      have HCy := Lib.hid (fun (V1 : World) hV => Check_any HPp.out HSmE.out V1 hV)
      clear HPp HSmE
      simp only [List.getElem?_toArray, List.getElem?_cons_zero, List.getElem?_cons_succ] at y0 y1
      generalize chkP pp = rc at HCy HCk
      cases hmp : mayP pp with
      | false =>
       rw [hmp] at HMy
       clear hmp HCk HCy
       go_wp2_with (go_at_call 17; (with_reducible refine (HMy.out wo HIp.out).mono ?_); rintro e' V1 ⟨rfl, hbv⟩)
       go_ret
       exact ⟨rfl, below_step HBE.out hbv⟩
      | true =>
       have hck := HCk.out hmp
       rw [hmp] at HMy
       clear hmp HCk
       go_upto_region 25 with (go_at_call 17; (with_reducible refine (HMy.out wo HIp.out).mono ?_); rintro e' V1 ⟨rfl, hbv⟩)
       have HBq2 := Lib.hid (HBqE.out.below hbv hby)
       have HIp2 := Lib.hid (HIp.out.on hbv)
       have HBE2 := Lib.hid (below_step HBE.out hbv)
       clear hbv y0 y1 hby HBqE HIp HBE HMy
       have y0 := HBq2.out.cell 0
       have y1 := HBq2.out.cell 1
       simp only [List.getElem?_toArray, List.getElem?_cons_zero, List.getElem?_cons_succ] at y0 y1
       have hby := HBq2.out.lt
       cases o with
       | false =>
        have hck2 : rc = (0, 0) := hck
        clear hck
        subst hck2
        go_wp2_with (go_at_call 45; (with_reducible refine (HCy.out V1 HIp2.out).mono ?_); rintro e' V2 ⟨rfl, hbv⟩)
        go_ret
        exact ⟨rfl, below_stepA (below_step HBE2.out hbv) _⟩
       | true =>
        have hck2 : rc = (5, 0) := hck
        clear hck
        subst hck2
        go_wp2_with (go_at_call 45; (with_reducible refine (HCy.out V1 HIp2.out).mono ?_); rintro e' V2 ⟨rfl, hbv⟩)
        go_ret
        exact ⟨rfl, below_stepA (below_step HBE2.out hbv) _⟩
end Go.Proofs.Ytcocilpifdjibaa
