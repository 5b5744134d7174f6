/- The walk of TreeEq. -/
import Derived.Test.YtobepaghdahcnaaTreeA
import Derived.Test.YtobepaghdahcnaaTreeN16
namespace Go.Proofs.Ytobepaghdahcnaa
open Go.ChangeShapes Go.WideShapes Go.ChangeAt Go.RowKit Go.Deep
set_option linter.unusedVariables false
set_option linter.unusedSimpArgs false

theorem s4_of {V U : World} {b b' : Nat} {v0 v1 v2 v3 : Value} (h : Below V.heap.size V U) (hk : b < V.heap.size ∧ b' < V.heap.size ∧ V.cell? ⟨b, 0, none⟩ = some v0 ∧ V.cell? ⟨b, 1, none⟩ = some v1 ∧ V.cell? ⟨b', 0, none⟩ = some v2 ∧ V.cell? ⟨b', 1, none⟩ = some v3) :
    U.cell? ⟨b, 0, none⟩ = some v0 ∧ U.cell? ⟨b, 1, none⟩ = some v1 ∧ U.cell? ⟨b', 0, none⟩ = some v2 ∧ U.cell? ⟨b', 1, none⟩ = some v3 ∧ Below V.heap.size V U := by
  obtain ⟨h0, h0', k0, k1, k2, k3⟩ := hk
  exact ⟨(h.cell (p := ⟨b, 0, none⟩) h0).trans k0, (h.cell (p := ⟨b, 1, none⟩) h0).trans k1, (h.cell (p := ⟨b', 0, none⟩) h0').trans k2, (h.cell (p := ⟨b', 1, none⟩) h0').trans k3, h⟩
set_option maxHeartbeats 8000000 in
set_option maxRecDepth 100000 in
theorem treeEq_walk {w : World} {Q Q' : Nat → Prop} {p q : Pg} {c0 c1 d0 d1 : Value} (h : ProgI w Q p [c0, c1]) (h' : ProgI w Q' q [d0, d1]) (W : World) (hI : In Q w W) (hI' : In Q' w W) :
    Calls Try.prog 6 #[.agg #[c0, c1], .agg #[d0, d1]] W fun e w' => e = .returned (.bool true) ∧ Below W.heap.size W w' := by
  have HPr := Lib.hid h
  have HQr := Lib.hid h'
  have HI := Lib.hid hI
  have HI' := Lib.hid hI'
  obtain ⟨Ag, cg, Ap, cp, rfl, rfl, _, _, hpl, hpc, _, _⟩ := prog_open h
  obtain ⟨Ag', cg', Ap', cp', rfl, rfl, _, _, hpl', hpc', _, _⟩ := prog_open h'
  have HF := Lib.hid (fun V h1 => Fits_any HPr.out V h1)
  have HF' := Lib.hid (fun V h1 => Fits_any HQr.out V h1)
  have HM := Lib.hid (fun V h1 => May_any HPr.out V h1)
  have HM' := Lib.hid (fun V h1 => May_any HQr.out V h1)
  clear h h' hI hI'
  have HB0 : Hid (Below W.heap.size W ((W.alloc (.cells #[.slice Ag p.globals.length cg, .slice Ap p.procs.length cp] 25)).alloc (.cells #[.slice Ag' q.globals.length cg', .slice Ap' q.procs.length cp'] 25))) := Lib.hid (below_two _ _)
  have HP0 : Hid (Blk ((W.alloc (.cells #[.slice Ag p.globals.length cg, .slice Ap p.procs.length cp] 25)).alloc (.cells #[.slice Ag' q.globals.length cg', .slice Ap' q.procs.length cp'] 25)) W.heap.size 25 #[.slice Ag p.globals.length cg, .slice Ap p.procs.length cp]) := Lib.hid ((Blk.new _ _ _).alloc _)
  have HQ0 : Hid (Blk ((W.alloc (.cells #[.slice Ag p.globals.length cg, .slice Ap p.procs.length cp] 25)).alloc (.cells #[.slice Ag' q.globals.length cg', .slice Ap' q.procs.length cp'] 25)) (W.heap.size + 1) 25 #[.slice Ag' q.globals.length cg', .slice Ap' q.procs.length cp']) := Lib.hid (blk22 _ _ _ _)
  go_enter Try.func6, Try.ntmps6
  go_upto_region 1 with fail
  generalize World.alloc _ _ = V0 at HB0 HP0 HQ0 ⊢
  have HI0 := Lib.hid (HI.out.on HB0.out)
  have HI0' := Lib.hid (HI'.out.on HB0.out)
  generalize hbe : W.heap.size = pb at HP0 HQ0 ⊢
  clear hbe
  generalize hqe : pb + 1 = qb at HQ0 ⊢
  have hne : pb ≠ qb := by omega
  clear hqe
  go_upto_region 3 with (go_at_call 10; refine (treed_any _).mono ?_; rintro e' W1 ⟨rfl, hb1⟩)
  have HB1 : Hid (Below W.heap.size W W1) := Lib.hid (below_step HB0.out hb1)
  have HI1 := Lib.hid (HI0.out.on hb1)
  have HI1' := Lib.hid (HI0'.out.on hb1)
  have HP := Lib.hid (HP0.out.on_ hb1)
  have HQ := Lib.hid (HQ0.out.on_ hb1)
  clear hb1 HB0 HI0 HI0' HP0 HQ0
  have p0 : W1.cell? ⟨pb, 0, none⟩ = some (.slice Ag p.globals.length cg) := by rw [HP.out.cell]; rfl
  have p1 : W1.cell? ⟨pb, 1, none⟩ = some (.slice Ap p.procs.length cp) := by rw [HP.out.cell]; rfl
  have q0 : W1.cell? ⟨qb, 0, none⟩ = some (.slice Ag' q.globals.length cg') := by rw [HQ.out.cell]; rfl
  have q1 : W1.cell? ⟨qb, 1, none⟩ = some (.slice Ap' q.procs.length cp') := by rw [HQ.out.cell]; rfl
  have lp := HP.out.lt
  have lq := HQ.out.lt
  cases hf : fitsP p with
  | false =>
    rw [hf] at HF
    clear hf
    go_wp2_with (go_at_call 11; refine (HF.out _ HI1.out).mono ?_; rintro e' W2 ⟨rfl, hb2⟩)
    go_ret
    exact ⟨rfl, below_step HB1.out hb2⟩
  | true =>
    have HSp := Lib.hid (fits_smG hf)
    rw [hf] at HF
    clear hf
    cases hf' : fitsP q with
    | false =>
      rw [hf'] at HF'
      clear hf'
      go_wp2_with (first
        | (go_at_call 11; (with_reducible refine (HF.out _ HI1.out).mono ?_); rintro e' W2 ⟨rfl, hb2⟩; have hc2 := (bcell hb2).1; have lp2 := Nat.lt_of_lt_of_le lp hb2.size; have lq2 := Nat.lt_of_lt_of_le lq hb2.size; have HI2' := Lib.hid (HI1'.out.on hb2))
        | (go_at_call 11; (with_reducible refine (HF'.out _ HI2'.out).mono ?_); rintro e' W3 ⟨rfl, hb3⟩))
      go_ret
      exact ⟨rfl, below_step (below_step HB1.out hb2) hb3⟩
    | true =>
      have HSq := Lib.hid (fits_smG hf')
      rw [hf'] at HF'
      clear hf'
      go_upto_region 5 with (first
        | (go_at_call 11; (with_reducible refine (HF.out _ HI1.out).mono ?_); rintro e' W2 ⟨rfl, hb2⟩; have hc2 := (bcell hb2).1; have lp2 := Nat.lt_of_lt_of_le lp hb2.size; have lq2 := Nat.lt_of_lt_of_le lq hb2.size; have HI2' := Lib.hid (HI1'.out.on hb2))
        | (go_at_call 11; (with_reducible refine (HF'.out _ HI2'.out).mono ?_); rintro e' W3 ⟨rfl, hb3⟩))
      have hb13 := below_step hb2 hb3
      have HB3 : Hid (Below W.heap.size W W3) := Lib.hid (below_step HB1.out hb13)
      have HI3 := Lib.hid (HI1.out.on hb13)
      have HI3' := Lib.hid (HI1'.out.on hb13)
      clear p0 p1 q0 q1 lp lq
      have HP3 := Lib.hid (HP.out.on_ hb13)
      have HQ3 := Lib.hid (HQ.out.on_ hb13)
      clear hb13 hb2 hb3 hc2 lp2 lq2 HI2' HB1 HI1 HI1' HP HQ
      have HP := HP3
      have HQ := HQ3
      clear HP3 HQ3
      have p0 : W3.cell? ⟨pb, 0, none⟩ = some (.slice Ag p.globals.length cg) := by rw [HP.out.cell]; rfl
      have p1 : W3.cell? ⟨pb, 1, none⟩ = some (.slice Ap p.procs.length cp) := by rw [HP.out.cell]; rfl
      have q0 : W3.cell? ⟨qb, 0, none⟩ = some (.slice Ag' q.globals.length cg') := by rw [HQ.out.cell]; rfl
      have q1 : W3.cell? ⟨qb, 1, none⟩ = some (.slice Ap' q.procs.length cp') := by rw [HQ.out.cell]; rfl
      have lp := HP.out.lt
      have lq := HQ.out.lt
      cases hm : mayP p with
      | false =>
        rw [hm] at HM
        clear hm
        go_wp2_with (go_at_call 12; refine (HM.out _ HI3.out).mono ?_; rintro e' W4 ⟨rfl, hb4⟩)
        go_ret
        exact ⟨rfl, below_step HB3.out hb4⟩
      | true =>
        have HIds := Lib.hid (may_ids hm)
        rw [hm] at HM
        clear hm
        cases hm' : mayP q with
        | false =>
          rw [hm'] at HM'
          clear hm'
          go_wp2_with (first
            | (go_at_call 12; (with_reducible refine (HM.out _ HI3.out).mono ?_); rintro e' W4 ⟨rfl, hb4⟩; have hc4 := (bcell hb4).1; have lp4 := Nat.lt_of_lt_of_le lp hb4.size; have lq4 := Nat.lt_of_lt_of_le lq hb4.size; have HI4' := Lib.hid (HI3'.out.on hb4))
            | (go_at_call 12; (with_reducible refine (HM'.out _ HI4'.out).mono ?_); rintro e' W5 ⟨rfl, hb5⟩))
          go_ret
          exact ⟨rfl, below_step (below_step HB3.out hb4) hb5⟩
        | true =>
          rw [hm'] at HM'
          clear hm'
          go_upto_region 7 with (first
            | (go_at_call 12; (with_reducible refine (HM.out _ HI3.out).mono ?_); rintro e' W4 ⟨rfl, hb4⟩; have hc4 := (bcell hb4).1; have lp4 := Nat.lt_of_lt_of_le lp hb4.size; have lq4 := Nat.lt_of_lt_of_le lq hb4.size; have HI4' := Lib.hid (HI3'.out.on hb4))
            | (go_at_call 12; (with_reducible refine (HM'.out _ HI4'.out).mono ?_); rintro e' W5 ⟨rfl, hb5⟩))
          have hb35 := below_step hb4 hb5
          have HB5 : Hid (Below W.heap.size W W5) := Lib.hid (below_step HB3.out hb35)
          have HI5 := Lib.hid (HI3.out.on hb35)
          have HI5' := Lib.hid (HI3'.out.on hb35)
          clear p0 p1 q0 q1 lp lq
          have HP5 := Lib.hid (HP.out.on_ hb35)
          have HQ5 := Lib.hid (HQ.out.on_ hb35)
          clear hb35 hb4 hb5 hc4 lp4 lq4 HI4' HB3 HI3 HI3' HP HQ HF HF' HM HM'
          have HK : Hid (pb < W5.heap.size ∧ qb < W5.heap.size ∧ W5.cell? ⟨pb, 0, none⟩ = some (.slice Ag p.globals.length cg) ∧ W5.cell? ⟨pb, 1, none⟩ = some (.slice Ap p.procs.length cp) ∧ W5.cell? ⟨qb, 0, none⟩ = some (.slice Ag' q.globals.length cg') ∧ W5.cell? ⟨qb, 1, none⟩ = some (.slice Ap' q.procs.length cp')) := Lib.hid ⟨HP5.out.lt, HQ5.out.lt, by rw [HP5.out.cell]; rfl, by rw [HP5.out.cell]; rfl, by rw [HQ5.out.cell]; rfl, by rw [HQ5.out.cell]; rfl⟩
          have HE1 := Lib.hid (fun V h1 h2 => Eq_any (W := V) HPr.out HQr.out h1 h2 (szQ_of HSp.out) (szQ_of HSq.out))
          have HE2 := Lib.hid (fun V h1 h2 => Eq_any (W := V) HQr.out HPr.out h1 h2 (szQ_of HSq.out) (szQ_of HSp.out))
          have HE3 := Lib.hid (fun V h1 h2 => rEq_any (W := V) HPr.out HQr.out h1 h2)
          have HCp := Lib.hid (fun V h1 => Copy_any (W := V) HPr.out h1 HSp.out HIds.out)
          have HE4 : Hid (∀ (v : World) (Qc : Nat → Prop) (e0 e1 : Value) (V : World), ProgI v Qc p [e0, e1] → In Q w V → In Qc v V → Calls Try.prog 22 #[.agg #[.slice Ag p.globals.length cg, .slice Ap p.procs.length cp], .agg #[e0, e1]] V (MayOk true V)) := Lib.hid (fun v Qc e0 e1 V hc h1 h2 => by have := Eq_any (W := V) HPr.out hc h1 h2 (szQ_of HSp.out) (szQ_of HSp.out); rw [eqB_self] at this; exact this)
          rw [eqB_symm q p] at HE2
          obtain ⟨b, hb⟩ : ∃ b, b = eqB p q := ⟨_, rfl⟩
          rw [← hb] at HE1 HE2 HE3
          clear hb
          have hBD : Below W5.heap.size W5 W5.drew := (Below.refl _ _).drew
          have L0 := HP5.out.lt
          have L1 := HQ5.out.lt
          clear HP5 HQ5
          cases b
          all_goals
            go_region_held3 (fun w' => w'.cell? ⟨pb, 0, none⟩ = some (.slice Ag p.globals.length cg) ∧ w'.cell? ⟨pb, 1, none⟩ = some (.slice Ap p.procs.length cp) ∧ w'.cell? ⟨qb, 0, none⟩ = some (.slice Ag' q.globals.length cg') ∧ w'.cell? ⟨qb, 1, none⟩ = some (.slice Ap' q.procs.length cp') ∧ Below W5.heap.size W5 w')
              ((refine s4_of ?_ HK.out; first | (with_reducible assumption) | (go_split_ands; with_reducible assumption)))
              (first
                | ((go_at_call 17; have hBU := below_step (V := W5) (by go_split_ands; assumption) (Below.refl _ _); refine (HE3.out _ (HI5.out.on hBU) (HI5'.out.on hBU)).mono ?_; rintro e x1 ⟨rfl, hx1⟩; have hBx := below_step (V := W5) (by go_split_ands; assumption) hx1))
                | ((go_at_call 23; have hBU := below_step (V := W5) (by go_split_ands; assumption) (Below.refl _ _); refine (HCp.out _ (HI5.out.on hBU)).mono ?_; rintro e x2 ⟨e0, e1, rfl, hx2, hcp⟩; obtain ⟨Eg, eg, Ep, ep, rfl, rfl, _⟩ := prog_open hcp; have hBx := below_step (V := W5) (by go_split_ands; assumption) hx2; have HCp2 := Lib.hid hcp))
                | ((go_at_call 22; have hBU := below_step (V := W5) (by go_split_ands; assumption) (Below.refl _ _); (with_reducible refine (HE1.out _ (HI5.out.on hBU) (HI5'.out.on hBU)).mono ?_); rintro e x3 ⟨rfl, hx3⟩; have hBx := below_step (V := W5) (by go_split_ands; assumption) hx3))
                | ((go_at_call 22; have hBU := below_step (V := W5) (by go_split_ands; assumption) (Below.refl _ _); (with_reducible refine (HE2.out _ (HI5'.out.on hBU) (HI5.out.on hBU)).mono ?_); rintro e x4 ⟨rfl, hx4⟩; have hBx := below_step (V := W5) (by go_split_ands; assumption) hx4))
                | ((go_at_call 22; have hBU := below_step (V := W5) (by go_split_ands; assumption) (Below.refl _ _); refine (HE4.out _ _ _ _ _ HCp2.out (HI5.out.on hBU) ⟨fun b hb => hb.2, fun _ _ => rfl⟩).mono ?_; rintro e x5 ⟨rfl, hx5⟩; have hBy := below_step (V := W5) (by go_split_ands; assumption) hx5)))
            go_wp2_with fail
            go_ret
            exact ⟨rfl, below_step HB5.out hBy⟩
theorem treeEq_law {w : World} {Q : Nat → Prop} {p q : Pg} {c0 c1 d0 d1 : Value} (h : ProgI w Q p [c0, c1]) (h' : ProgI w Q q [d0, d1]) (W : World) (hI : In Q w W) :
    Calls Try.prog 6 #[.agg #[c0, c1], .agg #[d0, d1]] W fun e w' => e = .returned (.bool true) ∧ Below W.heap.size W w' := treeEq_walk h h' W hI hI
end Go.Proofs.Ytobepaghdahcnaa
