/- Texts, merged by a program; only what is used. -/
import Derived.Test.YtnnblklbjbkikaaM1
import Derived.Test.YtnnblklbjbkikaaM2
import Derived.Test.YtnnblklbjbkikaaM3
import Derived.Test.YtnnblklbjbkikaaM4
import Derived.Test.YtnnblklbjbkikaaM5
import Derived.Test.YtnnblklbjbkikaaM6
import Derived.Test.YtnnblklbjbkikaaM7
import Derived.Test.YtnnblklbjbkikaaM8
import Derived.Test.YtnnblklbjbkikaaM9
import Derived.Test.YtnnblklbjbkikaaM10
import Derived.Test.YtnnblklbjbkikaaM11
import Derived.Test.YtnnblklbjbkikaaM12
import Derived.Test.YtnnblklbjbkikaaM13
import Derived.Test.YtnnblklbjbkikaaM15
import Derived.Test.YtnnblklbjbkikaaM20
import Derived.Test.YtnnblklbjbkikaaM21
import Derived.Test.YtnnblklbjbkikaaM22
import Derived.Test.YtnnblklbjbkikaaM23
import Derived.Test.YtnnblklbjbkikaaM24
import Derived.Test.YtnnblklbjbkikaaM25
import Derived.Test.YtnnblklbjbkikaaM26
namespace Go.Proofs.Ytnnblklbjbkikaa
open Go.ChangeShapes Go.WideShapes Go.ChangeAt Go.RowKit Go.Deep
set_option linter.unusedVariables false
set_option linter.unusedSimpArgs false
theorem s4_of {V U : World} {xb : Nat} {a0 a2 a3 a4 : Value} (h : Below V.heap.size V U) (hk : xb < V.heap.size ∧ V.cell? ⟨xb, 0, none⟩ = some a0 ∧ V.cell? ⟨xb, 2, none⟩ = some a2 ∧ V.cell? ⟨xb, 3, none⟩ = some a3 ∧ V.cell? ⟨xb, 4, none⟩ = some a4) :
    U.cell? ⟨xb, 0, none⟩ = some a0 ∧ U.cell? ⟨xb, 2, none⟩ = some a2 ∧ U.cell? ⟨xb, 3, none⟩ = some a3 ∧ U.cell? ⟨xb, 4, none⟩ = some a4 ∧ Below V.heap.size V U := by
  obtain ⟨h0, k0, k2, k3, k4⟩ := hk
  have e : ∀ j, U.cell? ⟨xb, j, none⟩ = V.cell? ⟨xb, j, none⟩ := fun j => h.cell (p := ⟨xb, j, none⟩) h0
  rw [e 0, e 2, e 3, e 4]
  exact ⟨k0, k2, k3, k4, h⟩
set_option maxHeartbeats 8000000 in
set_option maxRecDepth 100000 in
theorem Swap_full {w W : World} {Q : Nat → Prop} {p : Pg} {sa sb : ByteArray} {g0 g1 : Value} (h : ProgI w Q p [g0, g1]) (hI : In Q w W) (hsm : SmG p) (hsa : sa.size ≤ 9223372036854775807) (hsb : sb.size ≤ 9223372036854775807) :
    Calls Try.prog 21 #[.agg #[g0, g1], .string sa, .string sb] W fun e w' => ∃ d0 d1, e = .returned (.agg #[d0, d1]) ∧ Below W.heap.size W w' ∧ ∃ base, W.heap.size ≤ base ∧ base ≤ w'.heap.size ∧ TextsI w' (fun j => W.heap.size ≤ j ∧ j < base) (p.globals.map (oth sa sb)) d0 ∧ BuildI w' base 62 5 (fun w Q => ProcI w Q) (p.procs.map (swQ sa sb)) d1 := by
  have HPu : Hid (∀ (l : List S) {A : Option Addr} {cap : Nat} {V : World}, StmtsI w Q l (.slice A l.length cap) → In Q w V → wSL l ≤ 1000000 → Calls Try.prog 66 #[.slice A l.length cap, .string sa, .string sb] V (PutOk (swSL sa sb l) V)) := Lib.hid (fun l => SwapStmts_any hsa hsb ((preSL l).length + 1) l (by omega))
  obtain ⟨Ag, cg, Ap, cp, rfl, rfl, hg1, hg2, hp1, hp2, hgl, hpr⟩ := prog_open h
  obtain ⟨i0, hi0, hz0, hz1, hz2⟩ := info_parts proc_info
  obtain ⟨i1, hi1, hy0, hy1, hy2⟩ := info_parts par_info
  have hsmg := smT_of hsm.globals
  have HTx := Lib.hid (fun V hV => SwapTexts_at (W := V) hgl hsmg.1 hsa hsb hV)
  have HP := Lib.hid hpr
  have HI := Lib.hid hI
  have HSm := Lib.hid hsm
  have HSab := Lib.hid (And.intro hsa hsb)
  have HOa := Lib.hid (fun s V => other_any s sa sb V)
  have hpl : p.procs.length ≤ 1000000 := hsm.procs
  obtain ⟨gz, hgz⟩ : ∃ z, z = p.globals.map (oth sa sb) := ⟨_, rfl⟩
  rw [← hgz] at HTx ⊢
  clear h hI hsm hgl hpr hsmg hgz hsa hsb
  go_enter Try.func21, Try.ntmps21
  go_upto_region 1 with fail
  have HBp : Hid (Blk ((W.alloc (.cells #[.slice Ag p.globals.length cg, .slice Ap p.procs.length cp] 25)).alloc (.cells #[.slice none 0 0, .slice none 0 0] 25)) W.heap.size 25 #[.slice Ag p.globals.length cg, .slice Ap p.procs.length cp]) := Lib.hid ((Blk.new _ _ _).alloc _)
  have HBr : Hid (Blk ((W.alloc (.cells #[.slice Ag p.globals.length cg, .slice Ap p.procs.length cp] 25)).alloc (.cells #[.slice none 0 0, .slice none 0 0] 25)) (W.heap.size + 1) 25 #[.slice none 0 0, .slice none 0 0]) := Lib.hid (blk22 _ _ _ _)
  have HB0 : Hid (Below W.heap.size W ((W.alloc (.cells #[.slice Ag p.globals.length cg, .slice Ap p.procs.length cp] 25)).alloc (.cells #[.slice none 0 0, .slice none 0 0] 25))) := Lib.hid (below_two _ _)
  generalize World.alloc _ _ = V0 at HBp HBr HB0 ⊢
  have HQ : Hid (∀ j, Q j → j < W.heap.size) := Lib.hid HI.out.1
  have p0 : V0.cell? ⟨W.heap.size, 0, none⟩ = some (.slice Ag p.globals.length cg) := by rw [HBp.out.cell]; rfl
  have hpb := HBp.out.lt
  go_upto_region 2 with (go_at_call 36; refine (HTx.out _ (HI.out.on HB0.out)).mono ?_; rintro e q1 ⟨v1, rfl, hb1, ht1⟩; obtain ⟨G', gc', rfl, hl1, hl2⟩ := ht1.shape)
  clear p0 hpb
  have HIa : Hid (In Q w q1) := Lib.hid ((HI.out.on HB0.out).on hb1)
  have HS : Hid (SwI w Q W (q1.alloc (.cells #[.slice G' gz.length gc', .slice none 0 0] 25)) (q1.alloc (.cells #[.slice G' gz.length gc', .slice none 0 0] 25)) (W.heap.size + 1) q1.heap.size gz (.slice G' gz.length gc') ((p.procs.map (swQ sa sb)).take 0) none 0 0) := Lib.hid
    ⟨(HBr.out.below hb1 HBr.out.lt).alloc _, Blk.new _ _ _, BuildI.nil _ _ _ _ _, HIa.out.alloc _, Nat.le_refl _, below_stepA (below_step HB0.out hb1) _,
      SliceI.keep ht1 (fun j hj => ⟨⟨by have := hj.1; have := HBr.out.lt; omega, by rw [World.size_alloc]; have := hj.2; omega⟩, by have := hj.2; omega⟩) (fun p hp => (below_box _).cell hp.2) (fun _ _ _ h => h)⟩
  have hqr : W.heap.size + 1 < q1.heap.size := (HBr.out.below hb1 HBr.out.lt).lt
  have HBp1 := Lib.hid ((HBp.out.below hb1 HBp.out.lt).alloc (.cells #[.slice G' gz.length gc', .slice none 0 0] 25))
  have hqw : q1.heap.size < (q1.alloc (.cells #[.slice G' gz.length gc', .slice none 0 0] 25)).heap.size := by simp
  clear ht1 hb1 HIa HBp HBr HB0 HTx
  generalize World.alloc _ _ = W1 at HS HBp1 hqw ⊢
  generalize q1.heap.size = qb at HS hqr hqw ⊢
  generalize hW0 : W.heap.size = b0 at HS hqr HQ HBp1 ⊢
  have hb0 : W.heap.size ≤ b0 := by omega
  clear hW0
  generalize hrb : b0 + 1 = rb at HS hqr ⊢
  have hrb_ : b0 < rb := by omega
  clear hrb
  have p1 : W1.cell? ⟨b0, 1, none⟩ = some (.slice Ap p.procs.length cp) := by rw [HBp1.out.cell]; rfl
  have hpb := HBp1.out.lt
  go_wp2_with fail
  clear p1 hpb HBp1
  go_loopg [22] p.procs.length (fun kk iv wr => ∃ (k : Nat) (Xo : Option Addr) (co : Nat), k + kk = p.procs.length ∧ iv = .int .i64 k ∧ Hid (SwI w Q W W1 wr rb qb gz (.slice G' gz.length gc') ((p.procs.map (swQ sa sb)).take k) Xo k co))
  case atStart => exact ⟨0, none, 0, by omega, rfl, HS⟩
  case round =>
    clear HS
    obtain ⟨k, Xo, co, hk, rfl, HR⟩ := hrel
    have htk : ((p.procs.map (swQ sa sb)).take k).length = k := by rw [List.length_take, List.length_map]; omega
    obtain ⟨rows, hO, hAl⟩ := HR.out.row
    obtain ⟨_, _, hXe, hko, hco⟩ := own_form hO
    rw [htk] at hXe hko
    injection hXe with hX1 hX2 hX3
    subst hX1 hX3
    have HO := Lib.hid hO
    have HAl := Lib.hid hAl
    clear hO hAl hX2
    by_cases hlt : k < p.procs.length
    · obtain ⟨a, Bp, kp, Bv, kv, Bb, kb, Be, ke, rfl, _, hrow, hnm, hpp, hvv, hbody, hee⟩ := proc_at HP.out HR.out.inn hlt
      have hsq := HSm.out.proc p.procs[k] (List.getElem_mem hlt)
      have htake : (p.procs.map (swQ sa sb)).take (k + 1) = (p.procs.map (swQ sa sb)).take k ++ [swQ sa sb p.procs[k]] := by rw [List.take_succ_eq_append_getElem (by rw [List.length_map]; exact hlt), List.getElem_map]
      generalize p.procs[k] = x at hrow hnm hpp hvv hbody hee hsq htake
      obtain ⟨pn, pp, pv, pb, pe⟩ := x
      simp only [swQ] at hrow hnm hpp hvv hbody hee hsq htake
      obtain ⟨p0, p1, p2, p3, p4, _⟩ := hrow
      have s1 := smT_of hsq.2.1
      have s2 := smT_of hsq.2.2.1
      have HV := Lib.hid (fun V hV => SwapTexts_at (W := V) hvv s1.1 HSab.out.1 HSab.out.2 hV)
      have HE := Lib.hid (fun V hV => SwapTexts_at (W := V) hee s2.1 HSab.out.1 HSab.out.2 hV)
      have HBd := Lib.hid (fun V h1 => HPu.out pb (V := V) hbody h1 hsq.1)
      have HOn := Lib.hid (fun V => HOa.out pn V)
      have HPp := Lib.hid hpp
      have hpz_ := oth_le HSab.out.1 HSab.out.2 hnm
      have hppl : pp.length ≤ 1000000 := hsq.2.2.2
      obtain ⟨_, _, e0, hpc1, hpc2⟩ := hpp.shape
      injection e0 with e1 e2 e3
      subst e1 e3
      have HTk := Lib.hid htake
      obtain ⟨pz, hpz⟩ : ∃ z, z = oth sa sb pn := ⟨_, rfl⟩
      obtain ⟨vz, hvz⟩ : ∃ z, z = pv.map (oth sa sb) := ⟨_, rfl⟩
      obtain ⟨ez, hez⟩ : ∃ z, z = pe.map (oth sa sb) := ⟨_, rfl⟩
      obtain ⟨bz, hbz⟩ : ∃ z, z = swSL sa sb pb := ⟨_, rfl⟩
      obtain ⟨mz, hmz⟩ : ∃ z, z = pp.map (swPa sa sb) := ⟨_, rfl⟩
      have hmzl : mz.length = pp.length := by rw [hmz, List.length_map]
      have HMz : Hid (∀ k (h : k < mz.length) (h' : k < pp.length), mz[k] = swPa sa sb pp[k]) := Lib.hid (by subst hmz; intro k h h'; exact List.getElem_map _)
      rw [← hpz] at HOn hpz_ HTk
      rw [← hvz] at HV HTk
      rw [← hez] at HE HTk
      rw [← hbz] at HBd HTk
      rw [← hmz] at HTk
      have HNm := Lib.hid hpz_
      have hzr := HR.out.size
      have HQx : Hid (∀ j, Q j → j < wr.heap.size) := Lib.hid HR.out.inn.1
      clear hvv hee hbody hpp hnm hsq s1 s2 htake e2 hpz hvz hez hbz hmz hpz_
      go_upto_region 5 with fail
      have HBx : Hid (Blk (wr.alloc (.cells #[.string pn, .slice Bp pp.length kp, .slice Bv pv.length kv, .slice Bb pb.length kb, .slice Be pe.length ke] 62)) wr.heap.size 62 #[.string pn, .slice Bp pp.length kp, .slice Bv pv.length kv, .slice Bb pb.length kb, .slice Be pe.length ke]) := Lib.hid (Blk.new _ _ _)
      have HBa : Hid (Below wr.heap.size wr (wr.alloc (.cells #[.string pn, .slice Bp pp.length kp, .slice Bv pv.length kv, .slice Bb pb.length kb, .slice Be pe.length ke] 62))) := Lib.hid (below_box _)
      clear p0 p1 p2 p3 p4
      generalize World.alloc _ _ = wa at HBx HBa ⊢
      obtain ⟨xb, hxb⟩ : ∃ xb, xb = wr.heap.size := ⟨_, rfl⟩
      rw [← hxb] at HBx HQx ⊢
      have hxge : wr.heap.size ≤ xb := by omega
      clear hxb
      have HK : Hid (xb < wa.heap.size ∧ wa.cell? ⟨xb, 0, none⟩ = some (.string pn) ∧ wa.cell? ⟨xb, 2, none⟩ = some (.slice Bv pv.length kv) ∧ wa.cell? ⟨xb, 3, none⟩ = some (.slice Bb pb.length kb) ∧ wa.cell? ⟨xb, 4, none⟩ = some (.slice Be pe.length ke)) := Lib.hid ⟨HBx.out.lt, by rw [HBx.out.cell]; rfl, by rw [HBx.out.cell]; rfl, by rw [HBx.out.cell]; rfl, by rw [HBx.out.cell]; rfl⟩
      have hBD : Below wa.heap.size wa wa.drew := (Below.refl _ _).drew
      have hBA : Below wa.heap.size wa (wa.alloc (.cells zR 62)).drew := (below_box _).drew
      have L0 := HBx.out.lt
      have HIV := Lib.hid (HR.out.inn.on HBa.out)
      go_cut [10] from 26 to 46 (fun s wx => ∃ yb Av' cv' Ab' cb' Ae' ce', s = .pointer (some ⟨yb, 0, none⟩) ∧ Hid (PtA wa wx yb pz vz ez bz (.slice Av' vz.length cv') (.slice Ab' bz.length cb') (.slice Ae' ez.length ce')))
      case first =>
        go_region_held3 (fun w' => w'.cell? ⟨xb, 0, none⟩ = some (.string pn) ∧ w'.cell? ⟨xb, 2, none⟩ = some (.slice Bv pv.length kv) ∧ w'.cell? ⟨xb, 3, none⟩ = some (.slice Bb pb.length kb) ∧ w'.cell? ⟨xb, 4, none⟩ = some (.slice Be pe.length ke) ∧ Below wa.heap.size wa w')
          ((refine s4_of ?_ HK.out; first | (with_reducible assumption) | (go_split_ands; with_reducible assumption) | (go_split_ands; (with_reducible refine below_stepA ?_ _); with_reducible assumption) | (go_split_ands; (iterate 5 (with_reducible refine below_setc ?_ (by first | exact Nat.le_refl _ | exact hB1.size | exact hB2.size | exact hB3.size) _)); with_reducible assumption)))
          (first
            | ((go_at_call 65; refine (HOn.out _).mono ?_; rintro e' w' ⟨rfl, rfl⟩))
            | ((go_at_call 66; have hBU3 := below_step (V := wa) (by go_split_ands; assumption) (Below.refl _ _); refine (HBd.out _ (HIV.out.on hBU3)).mono ?_; rintro e q3 ⟨v3, rfl, hb3, hs3⟩; obtain ⟨Ab', cb', rfl, hl5, hl6⟩ := hs3.shape; have hB3 := below_step (V := wa) (by go_split_ands; assumption) hb3; try (first | (have z3 : Hid (Blk q3 wa.heap.size 62 zR) := Lib.hid (z2.out.below hb3 z2.out.lt)) | (have z3 : Hid (Blk q3 q1.heap.size 62 zR) := Lib.hid (z2.out.below hb3 z2.out.lt)) | (have z3 : Hid (Blk q3 q2.heap.size 62 zR) := Lib.hid ((Blk.new q2 62 zR).below hb3 (by simp)))); try (obtain ⟨⟨z0_, z1_, z2_, z3_, z4_⟩, f0_, f1_, f2_, f3_, f4_⟩ := blkR5 z3.out)))
            | ((go_at_call 36; have hBU1 := below_step (V := wa) (by go_split_ands; assumption) (Below.refl _ _); with_reducible refine (HV.out _ (HIV.out.on hBU1)).mono ?_; rintro e q1 ⟨v1, rfl, hb1, ht1⟩; obtain ⟨Av', cv', rfl, hl1, hl2⟩ := ht1.shape; have hB1 := below_step (V := wa) (by go_split_ands; assumption) hb1; try (have z1 : Hid (Blk q1 wa.heap.size 62 zR) := Lib.hid ((Blk.new wa.drew 62 zR).below hb1 (by simp)))))
            | ((go_at_call 36; have hBU2 := below_step (V := wa) (by go_split_ands; assumption) (Below.refl _ _); with_reducible refine (HE.out _ (HIV.out.on hBU2)).mono ?_; rintro e q2 ⟨v2, rfl, hb2, ht2⟩; obtain ⟨Ae', ce', rfl, hl3, hl4⟩ := ht2.shape; have hB2 := below_step (V := wa) (by go_split_ands; assumption) hb2; try (first | (have z2 : Hid (Blk q2 wa.heap.size 62 zR) := Lib.hid (z1.out.below hb2 z1.out.lt)) | (have z2 : Hid (Blk q2 q1.heap.size 62 zR) := Lib.hid ((Blk.new q1 62 zR).below hb2 (by simp)))))))
        · go_wp2_with fail
          go_meet
          exact ⟨_, Av', cv', Ab', cb', Ae', ce', rfl, Lib.hid (ptA_of (Blk.new _ _ _) (below_stepA hB3 _) hB3.size (by simp) (fun p hp _ => (below_box _).cell hp) hb2 hb3 hBU1.size hBU2.size hBU3.size ht1 ht2 hs3 (.inr (Nat.le_trans hb2.size hb3.size)) (.inr hb3.size) (.inr (Nat.le_refl _)))⟩
        · go_wp2_with fail
          go_meet
          exact ⟨_, Av', cv', Ab', cb', Ae', ce', rfl, Lib.hid (ptA_of (set5_blk z3.out) (set5_below hB3 hB2.size) hB2.size (by rw [set5_size]; exact Nat.le_refl _) (fun p _ hne => set5_cell hne) hb2 (below_new hb3) hBU1.size hBU2.size hBU3.size ht1 ht2 hs3 (.inr hb2.size) (.inr (Nat.le_refl _)) (.inl (by simp)))⟩
        · go_wp2_with fail
          go_meet
          exact ⟨_, Av', cv', Ab', cb', Ae', ce', rfl, Lib.hid (ptA_of (set5_blk z3.out) (set5_below hB3 hB1.size) hB1.size (by rw [set5_size]; exact Nat.le_refl _) (fun p _ hne => set5_cell hne) (below_new hb2) hb3 hBU1.size hBU2.size hBU3.size ht1 ht2 hs3 (.inr (Nat.le_refl _)) (.inl (by simp)) (.inl z2.out.lt))⟩
        · go_wp2_with fail
          go_meet
          exact ⟨_, Av', cv', Ab', cb', Ae', ce', rfl, Lib.hid (ptA_of (set5_blk z3.out) (set5_below hB3 (Nat.le_refl _)) (Nat.le_refl _) (by rw [set5_size]; exact Nat.le_refl _) (fun p _ hne => set5_cell hne) hb2 hb3 hBU1.size hBU2.size hBU3.size ht1 ht2 hs3 (.inl (by simp)) (.inl z1.out.lt) (.inl z2.out.lt))⟩
        · go_wp2_with fail
          go_meet
          exact ⟨_, Av', cv', Ab', cb', Ae', ce', rfl, Lib.hid (ptA_of (set5_blk z3.out) (set5_below hB3 (Nat.le_refl _)) (Nat.le_refl _) (by rw [set5_size]; exact Nat.le_refl _) (fun p _ hne => set5_cell hne) hb2 hb3 hBU1.size hBU2.size hBU3.size ht1 ht2 hs3 (.inl (by simp)) (.inl z1.out.lt) (.inl z2.out.lt))⟩
      case rest =>
      obtain ⟨yb, Av', cv', Ab', cb', Ae', ce', rfl, HC⟩ := hcut
      generalize wr = wo at *
      have HCx : Hid (SpI w Q wo wa wc wc xb yb #[.string pn, .slice Bp pp.length kp, .slice Bv pv.length kv, .slice Bb pb.length kb, .slice Be pe.length ke] pz vz ez bz (.slice Av' vz.length cv') (.slice Ab' bz.length cb') (.slice Ae' ez.length ce') mz 0 none 0) := Lib.hid ⟨HBx.out.below HC.out.below HBx.out.lt, HC.out.blk, BuildI.nil _ _ _ _ _, HIV.out.on HC.out.below, Nat.le_refl _, HBa.out.trans (HC.out.below.mono HBa.out.size), HC.out.vars, HC.out.ends, HC.out.body⟩
      have hyl : yb < wc.heap.size := HC.out.blk.lt
      have hyV : wa.heap.size ≤ yb := HC.out.le
      have hxa : xb < wa.heap.size := HBx.out.lt
      have a1 : wc.cell? ⟨xb, 1, none⟩ = some (.slice Bp pp.length kp) := by rw [HCx.out.bx.cell]; rfl
      clear HV HE HBd HOn HIV HBx HBa HK HC hBD hBA L0
      go_wp2_with fail
      go_loopw [50] (fun i wr => ∃ (kk : Nat) (Xa : Option Addr) (ca : Nat), kk ≤ pp.length ∧ i = .int .i64 kk ∧ Hid (SpI w Q wo wa wc wr xb yb #[.string pn, .slice Bp pp.length kp, .slice Bv pv.length kv, .slice Bb pb.length kb, .slice Be pe.length ke] pz vz ez bz (.slice Av' vz.length cv') (.slice Ab' bz.length cb') (.slice Ae' ez.length ce') mz kk Xa ca)) (fun i _ => pp.length - (intOf i).toNat)
      case atStart => exact ⟨0, none, 0, Nat.zero_le _, rfl, HCx⟩
      case round =>
        obtain ⟨kk, Xa, ca, hkk, rfl, HRi⟩ := hrel
        by_cases hlt2 : kk < pp.length
        · obtain ⟨ia, rfl, hqa, hrow, hnma⟩ := par_at HPp.out HRi.out.inn hlt2
          have HOq := Lib.hid (fun V => HOa.out pp[kk].nm V)
          have hnz2 := oth_le HSab.out.1 HSab.out.2 hnma
          obtain ⟨qz, hqz⟩ : ∃ z, z = oth sa sb pp[kk].nm := ⟨_, rfl⟩
          have HMk : Hid (∀ h : kk < mz.length, mz[kk] = ⟨qz, pp[kk].ref⟩) := Lib.hid (fun h => by rw [HMz.out kk h hlt2, hqz]; rfl)
          rw [← hqz] at HOq hnz2
          have HNa := Lib.hid hnz2
          obtain ⟨p0, p1, _⟩ := hrow
          clear hqa hnma hnz2 hqz
          go_wp2_with fail
          have HR2 := Lib.hid (HRi.out.on (below_box (.cells #[.string pp[kk].nm, .bool pp[kk].ref] 65)))
          have HB5 := Lib.hid (Blk.new wr 65 #[.string pp[kk].nm, .bool pp[kk].ref])
          have HRb : Hid (∀ j, (Value.slice Xa kk ca).ownBlock = some j → j < wr.heap.size) := Lib.hid (by obtain ⟨_, r1, _⟩ := HRi.out.row; exact fun j hj => (r1.lt j hj).2)
          have hsz5 := HRi.out.size
          clear p0 p1 HRi
          generalize hg5 : wr.heap.size = g5 at HB5 HRb hsz5 ⊢
          generalize World.alloc _ _ = wq at HR2 HB5 ⊢
          clear hg5
          have y1_ : wq.cell? ⟨yb, 1, none⟩ = some (.slice Xa kk ca) := by rw [HR2.out.by_.cell]; rfl
          have x0_ : wq.cell? ⟨g5, 0, none⟩ = some (.string pp[kk].nm) := by rw [HB5.out.cell]; rfl
          have x1_ : wq.cell? ⟨g5, 1, none⟩ = some (.bool pp[kk].ref) := by rw [HB5.out.cell]; rfl
          have hgl := HB5.out.lt
          have hyq := HR2.out.by_.lt
          have hsq := HR2.out.size
          have f1_ := HR2.out.by_.frozen 1
          obtain ⟨rows2, hO2, hAl2⟩ := HR2.out.row
          have HOi := Lib.hid hO2
          have HAli := Lib.hid hAl2
          have htk2 : (mz.take kk).length = kk := by rw [List.length_take]; omega
          have HO2 : Hid (wq.ownsRow wc.heap.size 65 2 (.slice Xa kk ca) kk rows2.flatten) := Lib.hid (by have := HOi.out; rw [htk2] at this; exact this)
          clear hO2 hAl2 htk2
          have hgy : g5 ≠ yb := by omega
          have HOn : Hid (∀ j, j < wc.heap.size ∨ g5 ≤ j → ¬ (Value.slice Xa kk ca).ownBlock = some j) := Lib.hid (fun j hj h => by have := (HOi.out.lt j h).1; have := HRb.out j h; omega)
          refine wp_region_last (fun w' : World => w'.cell? ⟨yb, 1, none⟩ = some (.slice Xa kk ca) ∧ w'.cell? ⟨g5, 0, none⟩ = some (.string pp[kk].nm) ∧ w'.cell? ⟨g5, 1, none⟩ = some (.bool pp[kk].ref)) 13 (by kernel_rfl) ?_
          have hS0 : (fun w' : World => w'.cell? ⟨yb, 1, none⟩ = some (.slice Xa kk ca) ∧ w'.cell? ⟨g5, 0, none⟩ = some (.string pp[kk].nm) ∧ w'.cell? ⟨g5, 1, none⟩ = some (.bool pp[kk].ref)) wq.drew := ⟨y1_, x0_, x1_⟩
          change wpAnyL _ _ _ _ _ _ 14 _ _ wq.drew
          refine wpAnyL_take (i := 0) (v := ?_) rfl (by kernel_rfl) (by decide) (by kernel_rfl) (by kernel_rfl) (by kernel_rfl) (fun _ _ _ h => h) (Or.inl ⟨by rfl, ?_⟩) (by assumption) ?_
          rotate_left
          · intro w hSw
            (try dsimp only at hSw)
            go_split_ands
            go_simp
            (try (with_reducible rfl))
          (try simp only [Act.put, List.setIfInBounds_toArray, List.set_cons_zero, List.set_cons_succ])
          refine wpAnyL_take (i := 1) (v := ?_) rfl (by kernel_rfl) (by decide) (by kernel_rfl) (by kernel_rfl) (by kernel_rfl) (fun _ _ _ h => h) (Or.inl ⟨by rfl, ?_⟩) (by assumption) ?_
          rotate_left
          · intro w hSw
            (try dsimp only at hSw)
            go_split_ands
            go_simp
            (try (with_reducible rfl))
          (try simp only [Act.put, List.setIfInBounds_toArray, List.set_cons_zero, List.set_cons_succ])
          refine wpAnyL_take (i := 2) (v := ?_) rfl (by kernel_rfl) (by decide) (by kernel_rfl) (by kernel_rfl) (by kernel_rfl) (fun _ _ _ h => h) (Or.inl ⟨by rfl, ?_⟩) (by assumption) ?_
          rotate_left
          · intro w hSw
            (try dsimp only at hSw)
            go_split_ands
            go_simp
            (try (with_reducible rfl))
          (try simp only [Act.put, List.setIfInBounds_toArray, List.set_cons_zero, List.set_cons_succ])
          refine wpAnyL_take (i := 3) (v := ?_) rfl (by kernel_rfl) (by decide) (by kernel_rfl) (by kernel_rfl) (by kernel_rfl) (fun _ _ _ h => h) (Or.inl ⟨by rfl, ?_⟩) (by assumption) ?_
          rotate_left
          · intro w hSw
            (try dsimp only at hSw)
            go_split_ands
            go_simp
            (try (with_reducible rfl))
          (try simp only [Act.put, List.setIfInBounds_toArray, List.set_cons_zero, List.set_cons_succ])
          refine wpAnyL_take (i := 4) (v := ?_) rfl (by kernel_rfl) (by decide) (by kernel_rfl) (by kernel_rfl) (by kernel_rfl) (fun _ _ _ h => h) (Or.inl ⟨by rfl, ?_⟩) (by assumption) ?_
          rotate_left
          · intro w hSw
            (try dsimp only at hSw)
            go_split_ands
            go_simp
            (try (with_reducible rfl))
          (try simp only [Act.put, List.setIfInBounds_toArray, List.set_cons_zero, List.set_cons_succ])
          refine wpAnyL_take (i := 5) (v := ?_) rfl (by kernel_rfl) (by decide) (by kernel_rfl) (by kernel_rfl) (by kernel_rfl) (fun _ _ _ h => h) (Or.inl ⟨by rfl, ?_⟩) (by assumption) ?_
          rotate_left
          · intro w hSw
            (try dsimp only at hSw)
            go_split_ands
            go_simp
            (try (with_reducible rfl))
          (try simp only [Act.put, List.setIfInBounds_toArray, List.set_cons_zero, List.set_cons_succ])
          refine wpAnyL_take (i := 6) (v := ?_) rfl (by kernel_rfl) (by decide) (by kernel_rfl) (by kernel_rfl) (by kernel_rfl) (fun _ _ _ h => h) (Or.inl ⟨by rfl, ?_⟩) (by assumption) ?_
          rotate_left
          · intro w hSw
            (try dsimp only at hSw)
            go_split_ands
            go_simp
            (try (with_reducible rfl))
          (try simp only [Act.put, List.setIfInBounds_toArray, List.set_cons_zero, List.set_cons_succ])
          refine wpAnyL_take (i := 7) (v := ?_) rfl (by kernel_rfl) (by decide) (by kernel_rfl) (by kernel_rfl) (by kernel_rfl) (fun _ _ _ h => h) (Or.inl ⟨by rfl, ?_⟩) (by assumption) ?_
          rotate_left
          · intro w hSw
            (try dsimp only at hSw)
            go_split_ands
            go_simp
            (try (with_reducible rfl))
          (try simp only [Act.put, List.setIfInBounds_toArray, List.set_cons_zero, List.set_cons_succ])
          refine wpAnyL_step (i := 8) (by kernel_rfl) rfl (fun K hK => ?_)
          go_simp
          refine (HOq.out _).mono ?_
          rintro e' w' ⟨rfl, rfl⟩
          have hb3' : Below wq.heap.size wq wq.drew := (Below.refl _ _).drew
          have yy3 : wq.drew.cell? ⟨yb, 1, none⟩ = some (.slice Xa kk ca) := y1_
          have ff3 : wq.drew.frozen? ⟨yb, 1, none⟩ = false := f1_
          have u0 : wq.drew.cell? ⟨g5, 0, none⟩ = some (.string pp[kk].nm) := x0_
          have u1 : wq.drew.cell? ⟨g5, 1, none⟩ = some (.bool pp[kk].ref) := x1_
          generalize wq.drew = w3 at hb3' yy3 ff3 u0 u1 ⊢
          have hgl3 := Nat.lt_of_lt_of_le hgl hb3'.size
          have hyq3 := Nat.lt_of_lt_of_le hyq hb3'.size
          have HO3 := Lib.hid ((Below.moves hb3').row HO2.out (fun j hj e => Nat.not_lt.2 e (HO2.out.lt j hj).2))
          have HNw := Lib.hid (new16 w3 65 [.string qz, .bool pp[kk].ref])
          have hcb : wc.heap.size ≤ w3.heap.size + 1 := (by have := hb3'.size; omega)
          refine hK.out _ _ (fun _ => ⟨yy3, u0, u1⟩) ?_
          clear hK K
          (try simp only [Act.put, List.setIfInBounds_toArray, List.set_cons_zero, List.set_cons_succ])
          refine wpAnyL_step (i := 9) (by kernel_rfl) rfl (fun K hK => ?_)
          go_simp
          refine hK.out _ _ (fun _ => ⟨yy3, u0, u1⟩) ?_
          clear hK K
          (try simp only [Act.put, List.setIfInBounds_toArray, List.set_cons_zero, List.set_cons_succ])
          refine wpAnyL_step (i := 10) (by kernel_rfl) rfl (fun K hK => ?_)
          go_simp
          refine hK.out _ _ (fun _ => ⟨cell_new yy3, cell_new u0, cell_new u1⟩) ?_
          clear hK K
          (try simp only [Act.put, List.setIfInBounds_toArray, List.set_cons_zero, List.set_cons_succ])
          refine wpAnyL_step (i := 11) (by kernel_rfl) rfl (fun K hK => ?_)
          refine step_append_lies _ (by rfl) _ _ _ (by rfl) wc.heap.size 65 i1 _ 2 24 Try.underlying60 hi1 hy0 hy1 hy2 rfl (by decide) (.slice Xa kk ca) kk rows2.flatten (by rfl) (HO3.out.alloc _) ⟨w3.heap.size, 0, none⟩ 1 1 [.string qz, .bool pp[kk].ref] (by rfl) rfl HNw.out (by simp [Value.oneCell']) (by decide) (by unfold maxLen; omega) (by omega) (by rw [World.size_alloc]; exact hcb) (w3.heap.size + 1) (by simp) ?_
          intro g cap5 w4 hown4 hgrow hat hlt4
          have hm4 : Moves (fun j => (Value.slice Xa kk ca).ownBlock = some j) w3 w4 := ((Moves.refl _ w3).alloc _).trans (moves_grown hgrow) (fun j hj => .inr hj)
          have hown_ := HOn.out
          have v0 : w4.cell? ⟨g5, 0, none⟩ = some (.string pp[kk].nm) := (hm4.cell (p := ⟨g5, 0, none⟩) hgl3 (hown_ g5 (.inr (Nat.le_refl _)))).trans u0
          have v1 : w4.cell? ⟨g5, 1, none⟩ = some (.bool pp[kk].ref) := (hm4.cell (p := ⟨g5, 1, none⟩) hgl3 (hown_ g5 (.inr (Nat.le_refl _)))).trans u1
          have yy4 : w4.cell? ⟨yb, 1, none⟩ = some (.slice Xa kk ca) := (hm4.cell (p := ⟨yb, 1, none⟩) hyq3 (hown_ yb (.inl hyl))).trans yy3
          have ff4 : w4.frozen? ⟨yb, 1, none⟩ = false := (hm4.blk (HR2.out.by_.below hb3' hyq) (hown_ yb (.inl hyl))).frozen 1
          refine hK.out _ _ (fun _ => ⟨yy4, v0, v1⟩) ?_
          clear hK K
          (try simp only [Act.put, List.setIfInBounds_toArray, List.set_cons_zero, List.set_cons_succ])
          refine wpAnyL_step (i := 12) (by kernel_rfl) rfl (fun K hK => ?_)
          go_simp
          refine hK.out _ _ (fun _ => ⟨yy4, v0, v1⟩) ?_
          clear hK K
          (try simp only [Act.put, List.setIfInBounds_toArray, List.set_cons_zero, List.set_cons_succ])
          refine wpAnyL_step (i := 13) (by kernel_rfl) rfl (fun K hK => ?_)
          go_simp
          refine hK.out _ _ (fun h => absurd rfl h) ?_
          clear hK K
          (try simp only [Act.put, List.setIfInBounds_toArray, List.set_cons_zero, List.set_cons_succ])
          refine wpAnyL_done (by kernel_rfl) ?_ 0
          go_wp2_with fail
          go_roundw
          case rel => exact ⟨kk + 1, _, _, by omega, by go_num, Lib.hid (sp_step (HR2.out.on hb3') (by omega) hyl (by omega) hxge HQx.out hsq (fun j hj => by have := HRb.out j hj; omega) (by rw [HMk.out (by omega)]; exact ⟨rfl, HNa.out⟩) ((Below.moves hb3').row HOi.out (fun j hj e => Nat.not_lt.2 e (HOi.out.lt j hj).2)) HAli.out hown4 hgrow hat)⟩
          case measure => simp [intOf]; omega
        · have hke2 : kk = pp.length := by omega
          subst hke2
          have HB := HRi
          rw [← hmzl] at HB
          have HB := Lib.hid (SpI.done HB.out HNm.out (by omega) (by omega))
          rw [hmzl] at HB
          clear HRi HCx
          have HR5 := Lib.hid (HR.out.on HB.out.below)
          have hO5 := (Below.moves HB.out.below).row HO.out (fun j hj e => Nat.not_lt.2 e (HO.out.lt j hj).2)
          have HO5 := Lib.hid hO5
          rw [htk] at hO5
          have HO5k := Lib.hid hO5
          clear hO5
          have HAl5 := Lib.hid (HAl.out.imp fun x cs h => h.keep (Q' := fun j => (W1.heap.size ≤ j ∧ j < wr.heap.size) ∧ (Value.slice Xo k co).ownBlock ≠ some j) (fun j h => ⟨⟨h.1.1, Nat.lt_of_lt_of_le h.1.2 HB.out.below.size⟩, h.2⟩) (fun p hp => HB.out.below.cell hp.1.2))
          have HNw := Lib.hid (new16 wr 62 [.string pz, .slice Xa pp.length ca, .slice Av' vz.length cv', .slice Ab' bz.length cb', .slice Ae' ez.length ce'])
          have hcb : W1.heap.size ≤ wr.heap.size + 1 := by have := HB.out.below.size; omega
          have HRl : Hid (∀ j, (Value.slice Xo k co).ownBlock = some j → j < wo.heap.size) := Lib.hid (fun j hj => (HO.out.lt j hj).2)
          obtain ⟨⟨y0_, y1_, y2_, y3_, y4_⟩, _⟩ := blkR5 HB.out.blk
          have q1c : wr.cell? ⟨qb, 1, none⟩ = some (.slice Xo k co) := by rw [HR5.out.bq.cell]; rfl
          have hyl := HB.out.blk.lt
          have hql := HR5.out.bq.lt
          go_wp2_with (at_builtin; refine wpList_append_own_at _ rfl (.tmp 69) (.tmp 71) 23 rfl W1.heap.size 62 i0 _ 5 112 Try.underlying23 hi0 hz0 hz1 hz2 rfl (by decide) _ k rows.flatten rfl (HO5k.out.alloc _) ⟨wr.heap.size, 0, none⟩ 1 1 [.string pz, .slice Xa pp.length ca, .slice Av' vz.length cv', .slice Ab' bz.length cb', .slice Ae' ez.length ce'] rfl rfl HNw.out (by simp [Value.oneCell']) (by unfold maxLen; omega) (by omega) (by rw [World.size_alloc]; exact hcb) ?_)
          intro v' w6 hown6 hg6 _ hat6
          obtain ⟨⟨X6, c6, rfl, hP6⟩, hbq6⟩ := sg_step HR5.out htk.symm (by omega) hqw (by omega) (fun j hj => by have := HQ.out j hj; omega) hzr HRl.out HB.out.proc HO5.out HAl5.out hown6 hg6 (hat6.imp Eq.symm (fun h => by rw [h, World.size_alloc]))
          have HP6 := Lib.hid hP6
          have q1d : w6.cell? ⟨qb, 1, none⟩ = some (.slice Xo k co) := by rw [hbq6.cell]; rfl
          have q1f := hbq6.frozen 1
          have hql6 := hbq6.lt
          clear hown6 hg6 hat6 hP6 hbq6 q1c y0_ y1_ y2_ y3_ y4_
          go_wp2_with fail
          go_roundg (p.procs.length - k - 1)
          case measure => omega
          case rel => exact ⟨k + 1, X6, c6, by omega, by go_num, Lib.hid (by rw [HTk.out]; exact HP6.out)⟩
    · have hke : k = p.procs.length := by omega
      subst hke
      have HSl := Lib.hid (BuildI.done (R := fun w Q => ProcI w Q) stayP (fun h => (procOk _ _ _ _ h).1) HR.out.row)
      rw [List.take_of_length_le (by rw [List.length_map]; omega)] at HSl
      have q0c : wr.cell? ⟨qb, 0, none⟩ = some (.slice G' gz.length gc') := by rw [HR.out.bq.cell]; rfl
      have q1c : wr.cell? ⟨qb, 1, none⟩ = some (.slice Xo p.procs.length co) := by rw [HR.out.bq.cell]; rfl
      have r0c : wr.cell? ⟨rb, 0, none⟩ = some (.slice none 0 0) := by rw [HR.out.br.cell]; rfl
      have r1c : wr.cell? ⟨rb, 1, none⟩ = some (.slice none 0 0) := by rw [HR.out.br.cell]; rfl
      have f0 := HR.out.br.frozen 0
      have f1 := HR.out.br.frozen 1
      have hl1 := HR.out.bq.lt
      have hl2 := HR.out.br.lt
      go_wp2_with fail
      (try simp only [Exit.inBlock, Exit.then])
      refine bodyPost_ret (results_cell_row rfl _ _ rb 25 _ (0, 0) _ rfl ((HR.out.br.set_ 0 _).set_ 1 _) Try.underlying25 rfl (by kernel_rfl)) rfl ⟨_, _, rfl, below_setc (below_setc HR.out.below (by show W.heap.size ≤ rb; omega) _) (by show W.heap.size ≤ rb; omega) _, W1.heap.size, by omega, by simp only [size_set]; exact HR.out.size, ?_, ?_⟩
      · exact SliceI.keep HR.out.glob (fun j hj => ⟨by have := hj.1.1; omega, hj.1.2⟩) (fun p hp => by
          have hne : p.block ≠ rb := by have := hp.1.1; omega
          rw [cell_set_ne _ (fun e => hne (by rw [e])), cell_set_ne _ (fun e => hne (by rw [e]))]) (fun _ _ _ h => h)
      · have hrow := HR.out.row
        rw [List.take_of_length_le (by rw [List.length_map]; omega)] at hrow
        exact BuildI.set (R := fun w Q => ProcI w Q) stayP (BuildI.set (R := fun w Q => ProcI w Q) stayP hrow (p := ⟨rb, 0, none⟩) (by show rb < W1.heap.size; omega) _) (p := ⟨rb, 1, none⟩) (by show rb < W1.heap.size; omega) _
theorem Swap_any {w W : World} {Q : Nat → Prop} {p : Pg} {sa sb : ByteArray} {g0 g1 : Value} (h : ProgI w Q p [g0, g1]) (hI : In Q w W) (hsm : SmG p) (hsa : sa.size ≤ 9223372036854775807) (hsb : sb.size ≤ 9223372036854775807) :
    Calls Try.prog 21 #[.agg #[g0, g1], .string sa, .string sb] W fun e w' => ∃ d0 d1, e = .returned (.agg #[d0, d1]) ∧ Below W.heap.size W w' ∧ ProgI w' (nw W w') (swP sa sb p) [d0, d1] := by
  refine (Swap_full h hI hsm hsa hsb).mono ?_
  rintro e w' ⟨d0, d1, rfl, hb, base, hbase, hz, hg, hr⟩
  have hs := BuildI.done (R := fun w Q => ProcI w Q) stayP (fun h => (procOk _ _ _ _ h).1) hr
  exact ⟨d0, d1, rfl, hb, d0, d1, rfl, SliceI.keep hg (fun j hj => ⟨hj.1, by have := hj.2; omega⟩) (fun _ _ => rfl) (fun _ _ _ h => h), SliceI.keep hs (fun j hj => ⟨by have := hj.1; omega, hj.2⟩) (fun _ _ => rfl) (fun a cs _ h => h.keep (fun j hj => ⟨by have := hj.1; omega, hj.2⟩) (fun _ _ => rfl))⟩
end Go.Proofs.Ytnnblklbjbkikaa
