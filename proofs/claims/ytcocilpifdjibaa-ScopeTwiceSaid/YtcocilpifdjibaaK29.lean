/- Texts, merged by a program; only what is used. -/
import Derived.Deep.LoopGhost
import Derived.Deep.RegionHeld3
import Derived.Test.YtcocilpifdjibaaK1
import Derived.Test.YtcocilpifdjibaaK2
import Derived.Test.YtcocilpifdjibaaK3
import Derived.Test.YtcocilpifdjibaaK4
import Derived.Test.YtcocilpifdjibaaK5
import Derived.Test.YtcocilpifdjibaaK6
import Derived.Test.YtcocilpifdjibaaK7
import Derived.Test.YtcocilpifdjibaaK8
import Derived.Test.YtcocilpifdjibaaK9
import Derived.Test.YtcocilpifdjibaaK10
import Derived.Test.YtcocilpifdjibaaK11
import Derived.Test.YtcocilpifdjibaaK12
import Derived.Test.YtcocilpifdjibaaK13
import Derived.Test.YtcocilpifdjibaaK14
import Derived.Test.YtcocilpifdjibaaK15
import Derived.Test.YtcocilpifdjibaaK18
import Derived.Test.YtcocilpifdjibaaK19
import Derived.Test.YtcocilpifdjibaaK21
import Derived.Test.YtcocilpifdjibaaK23
import Derived.Test.YtcocilpifdjibaaK25
import Derived.Test.YtcocilpifdjibaaK26
import Derived.Test.YtcocilpifdjibaaK27
import Derived.Test.YtcocilpifdjibaaK28
namespace Go.Proofs.Ytcocilpifdjibaa.U
open Go.ChangeShapes Go.WideShapes Go.ChangeAt Go.RowKit Go.Deep
set_option linter.unusedVariables false
set_option linter.unusedSimpArgs false
/-- a step: something new is made, and cells of the block g are turned -/
structure Stp (g : Nat) (y y' : World) : Prop where
  mv : Moves (fun k => k = g) y y'
  unf : ∀ b, Unf y b → Unf y' b
theorem Stp.refl (g : Nat) (y : World) : Stp g y y := ⟨Moves.refl _ _, fun _ h => h⟩
theorem Stp.trans {g : Nat} {a b c : World} (h : Stp g a b) (k : Stp g b c) : Stp g a c := ⟨h.mv.trans k.mv (fun j hj => .inr hj), fun b hb => k.unf b (h.unf b hb)⟩
theorem Stp.mk1 {g : Nat} {y q : World} (hb : Below y.heap.size y q) (o : Nat) (v : Value) : Stp g y (q.setCell ⟨g, o, none⟩ v) :=
  ⟨Moves.set_ (own := fun k => k = g) ⟨hb.os, hb.tape, hb.output, hb.size, fun k hk _ => hb.block k hk⟩ (.inl rfl) v, fun b h => (h.on hb).set_ _ _⟩
theorem Stp.cell {g : Nat} {y y' : World} (h : Stp g y y') {p : Addr} (hp : p.block < y.heap.size) (hn : p.block ≠ g) : y'.cell? p = y.cell? p := h.mv.cell hp hn
theorem Stp.inn {g : Nat} {y y' w : World} {Q : Nat → Prop} (h : Stp g y y') (hI : In Q w y) (hq : ¬ Q g) : In Q w y' := hI.moves h.mv (fun j hj hq' => hq (by subst hj; exact hq'))
theorem Stp.below {g B : Nat} {W y y' : World} (h : Stp g y y') (hb : Below B W y) (hB : B ≤ y.heap.size) (hg : B ≤ g) : Below B W y' := hb.trans (h.mv.below hB (fun j hj => by omega))
theorem Stp.slice {α : Type} {g B C : Nat} {y y' : World} {R : α → List Value → Prop} {l : List α} {v : Value} (h : Stp g y y') (hg : g < B) (hs : SliceI y (NN B y) C R l v) : SliceI y' (NN B y') C R l v :=
  hs.keep (fun k hk => ⟨hk.1, h.unf k hk.2⟩) (fun p hp => h.cell hp.2.lt (by have := hp.1; omega)) (fun _ _ _ h => h)
theorem Stp.stmts {g B : Nat} {y y' : World} {l : List S} {v : Value} (h : Stp g y y') (hg : g < B) (hs : StmtsI y (NN B y) l v) : StmtsI y' (NN B y') l v :=
  SliceI.keep hs (fun k hk => ⟨hk.1, h.unf k hk.2⟩) (fun p hp => h.cell hp.2.lt (by have := hp.1; omega)) (fun _ _ _ hx => hx.keep (fun k hk => ⟨hk.1, h.unf k hk.2⟩) (fun p hp => h.cell hp.2.lt (by have := hp.1; omega)))
theorem set_slice {α : Type} {g B C o : Nat} {u v : Value} {y q : World} {R : α → List Value → Prop} {l : List α} (hB : B ≤ y.heap.size) (hg : g < B) (hs : SliceI q (nw y q) C R l v) : SliceI (q.setCell ⟨g, o, none⟩ u) (NN B (q.setCell ⟨g, o, none⟩ u)) C R l v :=
  hs.keep (fun k hk => ⟨Nat.le_trans hB hk.1, hk.2.set_ _ _⟩) (fun p hp => cell_set_ne _ (fun e => by have := hp.1; rw [e] at this; simp at this; omega)) (fun _ _ _ h => h)
theorem set_stmts {g B o : Nat} {u v : Value} {y q : World} {l : List S} (hB : B ≤ y.heap.size) (hg : g < B) (hs : StmtsI q (nw y q) l v) : StmtsI (q.setCell ⟨g, o, none⟩ u) (NN B (q.setCell ⟨g, o, none⟩ u)) l v :=
  SliceI.keep hs (fun k hk => ⟨Nat.le_trans hB hk.1, hk.2.set_ _ _⟩) (fun p hp => cell_set_ne _ (fun e => by have := hp.1; rw [e] at this; simp at this; omega)) (fun _ _ _ hx => hx.keep (fun k hk => ⟨Nat.le_trans hB hk.1, hk.2.set_ _ _⟩) (fun p hp => cell_set_ne _ (fun e => by have := hp.1; rw [e] at this; simp at this; omega)))
/-- one cell of a row's piece is set -/
theorem blk_step {y q : World} {g n C k j : Nat} {t : TypeId} {css : Nat → List Value} {cur : List Value} (hB : Blk y g t (flatN css n).toArray) (hl : ∀ i, i < n → (css i).length = C) (hk : k < n) (hc : css k = cur) (hb : Below y.heap.size y q) (hj : j < C) (v : Value) :
    ∃ css', (∀ i, i ≠ k → css' i = css i) ∧ css' k = cur.set j v ∧ (∀ i, i < n → (css' i).length = C) ∧ Blk (q.setCell ⟨g, k * C + j, none⟩ v) g t (flatN css' n).toArray := by
  refine ⟨upd css k ((css k).set j v), fun i hi => upd_ne _ _ hi, by rw [upd_same, hc], upd_len hl (by rw [List.length_set]; exact hl k hk), ?_⟩
  exact (hB.below hb hB.lt).setN hl hk hj v
theorem fresh_q {w V w1 : World} {Q : Nat → Prop} {l : List Pr} {e : Ending} (h : FreshP 59 (ProcI w Q) l V e w1) (hl : l.length ≤ 1000000) :
    ∃ A cap g css, e = .returned (.slice A l.length cap) ∧ l.length ≤ cap ∧ cap ≤ 9223372036854775807 ∧ Below V.heap.size V w1 ∧ V.heap.size ≤ g ∧ (l.length = 0 ∨ (A = some ⟨g, 0, none⟩ ∧ cap = l.length ∧ Blk w1 g 59 (flatN css l.length).toArray ∧ ∀ i (h : i < l.length), ProcI w Q l[i] (css i))) := by
  rcases h with ⟨rfl, rfl, rfl⟩ | ⟨css, rfl, rfl, hr⟩
  · exact ⟨none, 0, _, fun _ => [], rfl, Nat.le_refl _, by omega, Below.refl _ _, Nat.le_refl _, .inl rfl⟩
  · exact ⟨_, l.length, V.heap.size, css, rfl, Nat.le_refl _, by omega, below_box _, Nat.le_refl _, .inr ⟨rfl, rfl, Blk.new _ _ _, hr⟩⟩
set_option maxHeartbeats 8000000 in
set_option maxRecDepth 100000 in
theorem cloneProgram_any {w W : World} {Q : Nat → Prop} {p : Pg} {c0 c1 : Value} (h : ProgI w Q p [c0, c1]) (hI : In Q w W) (hsm : SmC p) :
    Calls Try.prog 61 #[.agg #[c0, c1]] W fun e w' => ∃ d0 d1, e = .returned (.agg #[d0, d1]) ∧ Below W.heap.size W w' ∧ ProgI w' (nw W w') p [d0, d1] := by
  obtain ⟨Ag, cg, Ap, cp, rfl, rfl, hg1, hg2, hp1, hp2, hgl, hpr⟩ := prog_open h
  have HG := Lib.hid (fun V hV => cloneNames_any (W := V) hgl hV hsm.globals)
  have HF := Lib.hid (fun V hV => freshQ_any (W := V) hpr hV (procOk w Q) hsm.procs)
  have HI := Lib.hid hI
  have HSm := Lib.hid hsm
  have hpl := hsm.procs
  clear h hI hsm hgl hpr
  go_enter Try.func61, Try.ntmps61
  go_upto_region 1 with fail
  have HBp : Hid (Blk ((W.alloc (.cells #[.slice Ag p.globals.length cg, .slice Ap p.procs.length cp] 25)).alloc (.cells #[.slice none 0 0, .slice none 0 0] 25)) W.heap.size 25 #[.slice Ag p.globals.length cg, .slice Ap p.procs.length cp]) := Lib.hid ((Blk.new _ _ _).alloc _)
  have HBr : Hid (Blk ((W.alloc (.cells #[.slice Ag p.globals.length cg, .slice Ap p.procs.length cp] 25)).alloc (.cells #[.slice none 0 0, .slice none 0 0] 25)) (W.heap.size + 1) 25 #[.slice none 0 0, .slice none 0 0]) := Lib.hid (blk22 _ _ _ _)
  have HB0 : Hid (Below W.heap.size W ((W.alloc (.cells #[.slice Ag p.globals.length cg, .slice Ap p.procs.length cp] 25)).alloc (.cells #[.slice none 0 0, .slice none 0 0] 25))) := Lib.hid (below_two _ _)
  generalize World.alloc _ _ = V at HBp HBr HB0 ⊢
  have p1 : V.cell? ⟨W.heap.size, 1, none⟩ = some (.slice Ap p.procs.length cp) := by rw [HBp.out.cell]; rfl
  have hl := HBp.out.lt
  have hlr := HBr.out.lt
  go_upto_region 2 with (go_at_call 119; refine (HF.out V (HI.out.on HB0.out)).mono ?_; rintro e w1 hfr; obtain ⟨A, cap, g, css, rfl, hn1, hn2, hb1, hg0, hD⟩ := fresh_q hfr hpl)
  have HD := Lib.hid hD
  have HB1 := Lib.hid (below_step HB0.out hb1)
  have HBp1 := Lib.hid (HBp.out.below hb1 hl)
  have HBr1 := Lib.hid (HBr.out.below hb1 hlr)
  have hgr : W.heap.size + 1 < g := by omega
  have hgz : Hid (p.procs.length = 0 ∨ g < w1.heap.size) := Lib.hid (hD.imp id (fun h => h.2.2.1.lt))
  clear hD hb1 HBp HBr HB0 HF p1 hl hlr hg0
  go_wp2_with fail
  go_loopg [11] p.procs.length (fun kk iv wr => ∃ (k : Nat) (css : Nat → List Value), k + kk = p.procs.length ∧ iv = .int .i64 k ∧ Hid (Below W.heap.size W wr) ∧ Hid (Blk wr W.heap.size 25 #[.slice Ag p.globals.length cg, .slice Ap p.procs.length cp]) ∧ Hid (Blk wr (W.heap.size + 1) 25 #[.slice none 0 0, .slice none 0 0]) ∧
    Hid (p.procs.length = 0 ∨ (A = some ⟨g, 0, none⟩ ∧ cap = p.procs.length ∧ Blk wr g 59 (flatN css p.procs.length).toArray ∧ (∀ i (h : i < p.procs.length), i < k → ProcI wr (nb (g + 1) wr) p.procs[i] (css i)) ∧ ∀ i (h : i < p.procs.length), k ≤ i → ProcI w Q p.procs[i] (css i))))
  case atStart => exact ⟨0, css, by omega, rfl, HB1, HBp1, HBr1, Lib.hid (HD.out.imp id (fun h => ⟨h.1, h.2.1, h.2.2.1, fun i hi h0 => absurd h0 (by omega), fun i hi _ => h.2.2.2 i hi⟩))⟩
  case round =>
    clear HD HB1 HBp1 HBr1
    obtain ⟨k, css, hk, rfl, HBw, HBp, HBr, HD⟩ := hrel
    by_cases hlt : k < p.procs.length
    · obtain ⟨hA, hcap, hBk, hdn, hrw⟩ : (A = some ⟨g, 0, none⟩ ∧ cap = p.procs.length ∧ Blk wr g 59 (flatN css p.procs.length).toArray ∧ (∀ i (h : i < p.procs.length), i < k → ProcI wr (nb (g + 1) wr) p.procs[i] (css i)) ∧ ∀ i (h : i < p.procs.length), k ≤ i → ProcI w Q p.procs[i] (css i)) := by rcases HD.out with h0 | h0; exact absurd h0 (by omega); exact h0
      subst hA hcap
      have hl5 : ∀ i, i < p.procs.length → (css i).length = 5 := fun i hi => by by_cases h : i < k; exact (procOk _ _ _ _ (hdn i hi h)).1; exact (procOk _ _ _ _ (hrw i hi (by omega))).1
      obtain ⟨vp, vv, vb, ve, hcs, hnm, hpp, hvv, hbb, hee⟩ := hrw k hlt (Nat.le_refl _)
      have hsq := HSm.out.proc p.procs[k] (List.getElem_mem hlt)
      have HC0 := Lib.hid (fun V => Clone_any p.procs[k].nm V (by omega))
      have HC1 := Lib.hid (fun V hV => cloneParams_any (W := V) hpp hV hsq.2.1)
      have HC2 := Lib.hid (fun V hV => cloneNames_any (W := V) hvv hV hsq.2.2.1)
      have HC3 := Lib.hid (fun V hV => cloneStmts_any (W := V) hbb hV hsq.2.2.2.1)
      have HC4 := Lib.hid (fun V hV => cloneNames_any (W := V) hee hV hsq.2.2.2.2)
      obtain ⟨Pp, pc, rfl, _, _⟩ := hpp.shape
      obtain ⟨Pv, vc, rfl, _, _⟩ := hvv.shape
      obtain ⟨Pb, bc, rfl, _, _⟩ := hbb.shape
      obtain ⟨Pe, ec, rfl, _, _⟩ := hee.shape
      have HDn := Lib.hid hdn
      have HRw := Lib.hid hrw
      have HNm := Lib.hid hnm
      have HQg : Hid (¬ Q g) := Lib.hid (fun hq => by have := HI.out.1 g hq; omega)
      have hgw : g < wr.heap.size := hBk.lt
      have HB_0 := Lib.hid hBk
      have HL_0 := Lib.hid hl5
      have HC_0 := Lib.hid hcs
      have HE_0 : Hid (∀ i, i ≠ k → css i = css i) := Lib.hid (fun _ _ => rfl)
      have HS_0 := Lib.hid (Stp.refl g wr)
      have HI_0 := Lib.hid (HI.out.on HBw.out)
      generalize hx : p.procs[k] = x at HC0 HC1 HC2 HC3 HC4 HNm HC_0
      obtain ⟨pn, pp, pv, pb, pe⟩ := x
      simp only at HC0 HC1 HC2 HC3 HC4 HNm HC_0
      have HX := Lib.hid hx
      clear hdn hrw hnm hpp hvv hbb hee hsq hcs hl5 hBk HD hx
      go_upto_region 6 with fail
      have hgl0 := HB_0.out.lt
      have r0 : wr.cell? ⟨g, k * 5, none⟩ = some (.string pn) := by have := HB_0.out.getN HL_0.out hlt (show 0 < 5 by omega); rw [HC_0.out] at this; exact this
      go_upto_region 7 with (go_at_call 108; refine (HC0.out wr).mono ?_; rintro e q0 ⟨rfl, hb0⟩; have HBq := Lib.hid (HB_0.out.below hb0 hgl0); have cq : q0.cell? ⟨g, k * 5, none⟩ = some (.string pn) := (hb0.cell (p := ⟨g, k * 5, none⟩) hgl0).trans r0; have fq : q0.frozen? ⟨g, k * 5, none⟩ = false := HBq.out.frozen _; have hgq := HBq.out.lt)
      obtain ⟨css1, he1, hc1, hl1, hk1⟩ := blk_step HB_0.out HL_0.out hlt HC_0.out hb0 (show 0 < 5 by omega) (.string pn)
      have HB_1 := Lib.hid hk1
      have HL_1 := Lib.hid hl1
      have HC_1 : Hid (css1 k = [.string pn, .slice Pp pp.length pc, .slice Pv pv.length vc, .slice Pb pb.length bc, .slice Pe pe.length ec]) := Lib.hid hc1
      have HE_1 : Hid (∀ i, i ≠ k → css1 i = css i) := Lib.hid (fun i hi => he1 i hi)
      have st := Stp.mk1 (g := g) hb0 (k * 5 + 0) (.string pn)
      have HS_1 := Lib.hid (HS_0.out.trans st)
      have HI_1 := Lib.hid (st.inn HI_0.out HQg.out)
      have hz0 : wr.heap.size ≤ wr.heap.size := HS_0.out.mv.size
      clear st hk1 hl1 hc1 hb0 HBq cq fq hgq r0 hgl0 HB_0 HL_0 HC_0 HI_0
      (try simp only [Nat.add_zero] at HB_1 HS_1 HI_1)
      generalize World.setCell q0 _ _ = y1 at HB_1 HS_1 HI_1 ⊢
      have hgl1 := HB_1.out.lt
      have r1 : y1.cell? ⟨g, k * 5 + 1, none⟩ = some (.slice Pp pp.length pc) := by have := HB_1.out.getN HL_1.out hlt (show 1 < 5 by omega); rw [HC_1.out] at this; exact this
      go_upto_region 8 with (go_at_call 120; refine (HC1.out y1 HI_1.out).mono ?_; rintro e q1 ⟨v1, rfl, hb1, hv1⟩; obtain ⟨P1, k1, rfl, _, _⟩ := hv1.shape; have HBq := Lib.hid (HB_1.out.below hb1 hgl1); have cq : q1.cell? ⟨g, k * 5 + 1, none⟩ = some (.slice Pp pp.length pc) := (hb1.cell (p := ⟨g, k * 5 + 1, none⟩) hgl1).trans r1; have fq : q1.frozen? ⟨g, k * 5 + 1, none⟩ = false := HBq.out.frozen _; have hgq := HBq.out.lt)
      obtain ⟨css2, he2, hc2, hl2, hk2⟩ := blk_step HB_1.out HL_1.out hlt HC_1.out hb1 (show 1 < 5 by omega) (.slice P1 pp.length k1)
      have HB_2 := Lib.hid hk2
      have HL_2 := Lib.hid hl2
      have HC_2 : Hid (css2 k = [.string pn, .slice P1 pp.length k1, .slice Pv pv.length vc, .slice Pb pb.length bc, .slice Pe pe.length ec]) := Lib.hid hc2
      have HE_2 : Hid (∀ i, i ≠ k → css2 i = css i) := Lib.hid (fun i hi => (he2 i hi).trans (HE_1.out i hi))
      have st := Stp.mk1 (g := g) hb1 (k * 5 + 1) (.slice P1 pp.length k1)
      have HS_2 := Lib.hid (HS_1.out.trans st)
      have HI_2 := Lib.hid (st.inn HI_1.out HQg.out)
      have hz1 : wr.heap.size ≤ y1.heap.size := HS_1.out.mv.size
      have HR1_2 := Lib.hid (set_slice (g := g) (o := k * 5 + 1) (u := .slice P1 pp.length k1) hz1 hgw hv1)
      clear st hk2 hl2 hc2 hb1 HBq cq fq hgq r1 hgl1 HB_1 HL_1 HC_1 HI_1 hv1
      (try simp only [Nat.add_zero] at HB_2 HS_2 HI_2 HR1_2)
      generalize World.setCell q1 _ _ = y2 at HB_2 HS_2 HI_2 HR1_2 ⊢
      have hgl2 := HB_2.out.lt
      have r2 : y2.cell? ⟨g, k * 5 + 2, none⟩ = some (.slice Pv pv.length vc) := by have := HB_2.out.getN HL_2.out hlt (show 2 < 5 by omega); rw [HC_2.out] at this; exact this
      go_upto_region 9 with (go_at_call 121; refine (HC2.out y2 HI_2.out).mono ?_; rintro e q2 ⟨v2, rfl, hb2, hv2⟩; obtain ⟨P2, k2, rfl, _, _⟩ := hv2.shape; have HBq := Lib.hid (HB_2.out.below hb2 hgl2); have cq : q2.cell? ⟨g, k * 5 + 2, none⟩ = some (.slice Pv pv.length vc) := (hb2.cell (p := ⟨g, k * 5 + 2, none⟩) hgl2).trans r2; have fq : q2.frozen? ⟨g, k * 5 + 2, none⟩ = false := HBq.out.frozen _; have hgq := HBq.out.lt)
      obtain ⟨css3, he3, hc3, hl3, hk3⟩ := blk_step HB_2.out HL_2.out hlt HC_2.out hb2 (show 2 < 5 by omega) (.slice P2 pv.length k2)
      have HB_3 := Lib.hid hk3
      have HL_3 := Lib.hid hl3
      have HC_3 : Hid (css3 k = [.string pn, .slice P1 pp.length k1, .slice P2 pv.length k2, .slice Pb pb.length bc, .slice Pe pe.length ec]) := Lib.hid hc3
      have HE_3 : Hid (∀ i, i ≠ k → css3 i = css i) := Lib.hid (fun i hi => (he3 i hi).trans (HE_2.out i hi))
      have st := Stp.mk1 (g := g) hb2 (k * 5 + 2) (.slice P2 pv.length k2)
      have HS_3 := Lib.hid (HS_2.out.trans st)
      have HI_3 := Lib.hid (st.inn HI_2.out HQg.out)
      have hz2 : wr.heap.size ≤ y2.heap.size := HS_2.out.mv.size
      have HR1_3 := Lib.hid (st.slice hgw HR1_2.out)
      have HR2_3 := Lib.hid (set_slice (g := g) (o := k * 5 + 2) (u := .slice P2 pv.length k2) hz2 hgw hv2)
      clear st hk3 hl3 hc3 hb2 HBq cq fq hgq r2 hgl2 HB_2 HL_2 HC_2 HI_2 hv2 HR1_2
      (try simp only [Nat.add_zero] at HB_3 HS_3 HI_3 HR1_3 HR2_3)
      generalize World.setCell q2 _ _ = y3 at HB_3 HS_3 HI_3 HR1_3 HR2_3 ⊢
      have hgl3 := HB_3.out.lt
      have r3 : y3.cell? ⟨g, k * 5 + 3, none⟩ = some (.slice Pb pb.length bc) := by have := HB_3.out.getN HL_3.out hlt (show 3 < 5 by omega); rw [HC_3.out] at this; exact this
      go_upto_region 10 with (go_at_call 122; refine (HC3.out y3 HI_3.out).mono ?_; rintro e q3 ⟨v3, rfl, hb3, hv3⟩; obtain ⟨P3, k3, rfl, _, _⟩ := hv3.shape; have HBq := Lib.hid (HB_3.out.below hb3 hgl3); have cq : q3.cell? ⟨g, k * 5 + 3, none⟩ = some (.slice Pb pb.length bc) := (hb3.cell (p := ⟨g, k * 5 + 3, none⟩) hgl3).trans r3; have fq : q3.frozen? ⟨g, k * 5 + 3, none⟩ = false := HBq.out.frozen _; have hgq := HBq.out.lt)
      obtain ⟨css4, he4, hc4, hl4, hk4⟩ := blk_step HB_3.out HL_3.out hlt HC_3.out hb3 (show 3 < 5 by omega) (.slice P3 pb.length k3)
      have HB_4 := Lib.hid hk4
      have HL_4 := Lib.hid hl4
      have HC_4 : Hid (css4 k = [.string pn, .slice P1 pp.length k1, .slice P2 pv.length k2, .slice P3 pb.length k3, .slice Pe pe.length ec]) := Lib.hid hc4
      have HE_4 : Hid (∀ i, i ≠ k → css4 i = css i) := Lib.hid (fun i hi => (he4 i hi).trans (HE_3.out i hi))
      have st := Stp.mk1 (g := g) hb3 (k * 5 + 3) (.slice P3 pb.length k3)
      have HS_4 := Lib.hid (HS_3.out.trans st)
      have HI_4 := Lib.hid (st.inn HI_3.out HQg.out)
      have hz3 : wr.heap.size ≤ y3.heap.size := HS_3.out.mv.size
      have HR1_4 := Lib.hid (st.slice hgw HR1_3.out)
      have HR2_4 := Lib.hid (st.slice hgw HR2_3.out)
      have HR3_4 := Lib.hid (set_stmts (g := g) (o := k * 5 + 3) (u := .slice P3 pb.length k3) hz3 hgw hv3)
      clear st hk4 hl4 hc4 hb3 HBq cq fq hgq r3 hgl3 HB_3 HL_3 HC_3 HI_3 hv3 HR1_3 HR2_3
      (try simp only [Nat.add_zero] at HB_4 HS_4 HI_4 HR1_4 HR2_4 HR3_4)
      generalize World.setCell q3 _ _ = y4 at HB_4 HS_4 HI_4 HR1_4 HR2_4 HR3_4 ⊢
      have hgl4 := HB_4.out.lt
      have r4 : y4.cell? ⟨g, k * 5 + 4, none⟩ = some (.slice Pe pe.length ec) := by have := HB_4.out.getN HL_4.out hlt (show 4 < 5 by omega); rw [HC_4.out] at this; exact this
      go_upto_region 11 with (go_at_call 121; refine (HC4.out y4 HI_4.out).mono ?_; rintro e q4 ⟨v4, rfl, hb4, hv4⟩; obtain ⟨P4, k4, rfl, _, _⟩ := hv4.shape; have HBq := Lib.hid (HB_4.out.below hb4 hgl4); have cq : q4.cell? ⟨g, k * 5 + 4, none⟩ = some (.slice Pe pe.length ec) := (hb4.cell (p := ⟨g, k * 5 + 4, none⟩) hgl4).trans r4; have fq : q4.frozen? ⟨g, k * 5 + 4, none⟩ = false := HBq.out.frozen _; have hgq := HBq.out.lt)
      obtain ⟨css5, he5, hc5, hl5, hk5⟩ := blk_step HB_4.out HL_4.out hlt HC_4.out hb4 (show 4 < 5 by omega) (.slice P4 pe.length k4)
      have HB_5 := Lib.hid hk5
      have HL_5 := Lib.hid hl5
      have HC_5 : Hid (css5 k = [.string pn, .slice P1 pp.length k1, .slice P2 pv.length k2, .slice P3 pb.length k3, .slice P4 pe.length k4]) := Lib.hid hc5
      have HE_5 : Hid (∀ i, i ≠ k → css5 i = css i) := Lib.hid (fun i hi => (he5 i hi).trans (HE_4.out i hi))
      have st := Stp.mk1 (g := g) hb4 (k * 5 + 4) (.slice P4 pe.length k4)
      have HS_5 := Lib.hid (HS_4.out.trans st)
      have HI_5 := Lib.hid (st.inn HI_4.out HQg.out)
      have hz4 : wr.heap.size ≤ y4.heap.size := HS_4.out.mv.size
      have HR1_5 := Lib.hid (st.slice hgw HR1_4.out)
      have HR2_5 := Lib.hid (st.slice hgw HR2_4.out)
      have HR3_5 := Lib.hid (st.stmts hgw HR3_4.out)
      have HR4_5 := Lib.hid (set_slice (g := g) (o := k * 5 + 4) (u := .slice P4 pe.length k4) hz4 hgw hv4)
      clear st hk5 hl5 hc5 hb4 HBq cq fq hgq r4 hgl4 HB_4 HL_4 HC_4 HI_4 hv4 HR1_4 HR2_4 HR3_4
      (try simp only [Nat.add_zero] at HB_5 HS_5 HI_5 HR1_5 HR2_5 HR3_5 HR4_5)
      generalize World.setCell q4 _ _ = y5 at HB_5 HS_5 HI_5 HR1_5 HR2_5 HR3_5 HR4_5 ⊢
      have hz5 : wr.heap.size ≤ y5.heap.size := HS_5.out.mv.size
      have hsub : ∀ b, NN wr.heap.size y5 b → nb (g + 1) y5 b := fun b hb => ⟨by have := hb.1; omega, hb.2⟩
      have HK : Hid (ProcI y5 (nb (g + 1) y5) p.procs[k] (css5 k)) := Lib.hid (by
        rw [HX.out, HC_5.out]
        exact ⟨_, _, _, _, rfl, HNm.out, HR1_5.out.keep hsub (fun _ _ => rfl) (fun _ _ _ h => h), HR2_5.out.keep hsub (fun _ _ => rfl) (fun _ _ _ h => h), SliceI.keep HR3_5.out hsub (fun _ _ => rfl) (fun _ _ _ h => h.keep hsub (fun _ _ => rfl)), HR4_5.out.keep hsub (fun _ _ => rfl) (fun _ _ _ h => h)⟩)
      have HBw5 : Hid (Below W.heap.size W y5) := Lib.hid (HS_5.out.below HBw.out HBw.out.size (by omega))
      have HBp5 := Lib.hid (HS_5.out.mv.blk HBp.out (by show W.heap.size ≠ g; omega))
      have HBr5 := Lib.hid (HS_5.out.mv.blk HBr.out (by show W.heap.size + 1 ≠ g; omega))
      go_wp2_with fail
      go_roundg (p.procs.length - k - 1)
      case measure => omega
      case rel =>
        refine ⟨k + 1, css5, by omega, by go_num, HBw5, HBp5, HBr5, Lib.hid (.inr ⟨by trivial, by trivial, HB_5.out, fun i hi hik => ?_, fun i hi hik => ?_⟩)⟩
        · by_cases e : i = k
          · subst e; exact HK.out
          · rw [HE_5.out i e]
            exact (HDn.out i hi (by omega)).keep (fun b hb => ⟨hb.1, HS_5.out.unf b hb.2⟩) (fun q hq => HS_5.out.cell hq.2.lt (by have := hq.1; omega))
        · rw [HE_5.out i (by omega)]
          exact HRw.out i hi (by omega)
    · have hIr := HI.out.on HBw.out
      have q0 : wr.cell? ⟨W.heap.size, 0, none⟩ = some (.slice Ag p.globals.length cg) := by rw [HBp.out.cell]; rfl
      have hql := HBp.out.lt
      have hrl := HBr.out.lt
      go_wp2_with (go_at_call 121; refine (HG.out wr hIr).mono ?_; rintro e q ⟨vg, rfl, hbq, hvg⟩; obtain ⟨Gg, kg, rfl, _, _⟩ := hvg.shape; have HRq := Lib.hid (HBr.out.below hbq hrl); have u0 : q.cell? ⟨W.heap.size + 1, 0, none⟩ = some (.slice none 0 0) := (by rw [HRq.out.cell]; rfl); have u1 : q.cell? ⟨W.heap.size + 1, 1, none⟩ = some (.slice none 0 0) := (by rw [HRq.out.cell]; rfl); have f0 := HRq.out.frozen 0; have f1 := HRq.out.frozen 1; have hrl2 := HRq.out.lt)
      (try simp only [Exit.inBlock, Exit.then])
      have hzq := hbq.size
      have hzw := HBw.out.size
      refine bodyPost_ret (results_cell_row rfl _ _ (W.heap.size + 1) 25 _ (0, 0) _ rfl ((HRq.out.set_ 0 _).set_ 1 _) Try.underlying25 rfl (by kernel_rfl)) rfl ⟨_, _, rfl, below_setc (below_setc (below_step HBw.out hbq) (by show W.heap.size ≤ W.heap.size + 1; omega) _) (by show W.heap.size ≤ W.heap.size + 1; omega) _, _, _, rfl, ?_, ?_⟩
      · exact hvg.keep (fun j hj => ⟨Nat.le_trans hzw hj.1, (hj.2.set_ _ _).set_ _ _⟩) (fun a ha => by
          have hne : a.block ≠ W.heap.size + 1 := by have := ha.1; omega
          rw [cell_set_ne _ (fun e => hne (by rw [e])), cell_set_ne _ (fun e => hne (by rw [e]))]) (fun _ _ _ h => h)
      · rcases HD.out with h0 | ⟨rfl, rfl, hBk, hdn, _⟩
        · have hnil : p.procs = [] := List.eq_nil_of_length_eq_zero h0
          rw [hnil] at hn1 ⊢
          exact ⟨A, cap, fun _ => [], rfl, ⟨hn1, hn2⟩, fun h => absurd h (by simp), fun i h => absurd h (by simp)⟩
        · have hBq := hBk.below hbq hBk.lt
          have hB2 : Blk ((q.setCell ⟨W.heap.size + 1, 0, none⟩ (.slice Gg p.globals.length kg)).setCell ⟨W.heap.size + 1, 1, none⟩ (.slice (some ⟨g, 0, none⟩) p.procs.length p.procs.length)) g 59 (flatN css p.procs.length).toArray := (hBq.far (p := ⟨W.heap.size + 1, 0, none⟩) (by show g ≠ W.heap.size + 1; omega) _).far (p := ⟨W.heap.size + 1, 1, none⟩) (by show g ≠ W.heap.size + 1; omega) _
          refine row_slice hB2 (fun i hi => (hdn i hi (by omega)).keep (fun b hb => ⟨by have := hb.1; omega, ((hb.2.on hbq).set_ _ _).set_ _ _⟩) (fun a ha => ?_)) (procOk _ _) ⟨by omega, ⟨_, _, hB2⟩⟩ hpl
          have hne : a.block ≠ W.heap.size + 1 := by have := ha.1; omega
          rw [cell_set_ne _ (fun e => hne (by rw [e])), cell_set_ne _ (fun e => hne (by rw [e]))]
          exact hbq.cell ha.2.lt
end Go.Proofs.Ytcocilpifdjibaa.U
