/- Texts, merged by a program; only what is used. -/
import Derived.Deep.RegionHeld3
import Derived.Deep.Cut
import Derived.Deep.CutRange
import Derived.Deep.LoopGhost
import Derived.Maps.AppendAt
import Derived.OrdersHeld
import Derived.Test.YtcocilpifdjibaaK1
import Derived.Test.YtcocilpifdjibaaK2
import Derived.Test.YtcocilpifdjibaaK3
import Derived.Test.YtcocilpifdjibaaK4
import Derived.Test.YtcocilpifdjibaaK5
import Derived.Test.YtcocilpifdjibaaK6
import Derived.Test.YtcocilpifdjibaaK7
import Derived.Test.YtcocilpifdjibaaK8
import Derived.Test.YtcocilpifdjibaaK9
import Derived.Test.YtcocilpifdjibaaK10
import Derived.Test.YtcocilpifdjibaaK11
import Derived.Test.YtcocilpifdjibaaK12
import Derived.Test.YtcocilpifdjibaaK13
import Derived.Test.YtcocilpifdjibaaK14
import Derived.Test.YtcocilpifdjibaaK15
import Derived.Test.YtcocilpifdjibaaK16
import Derived.Test.YtcocilpifdjibaaK17
import Derived.Test.YtcocilpifdjibaaK18
import Derived.Test.YtcocilpifdjibaaK19
import Derived.Test.YtcocilpifdjibaaK20
import Derived.Test.YtcocilpifdjibaaK21
import Derived.Test.YtcocilpifdjibaaK22
import Derived.Test.YtcocilpifdjibaaK23
import Derived.Test.YtcocilpifdjibaaK24
import Derived.Test.YtcocilpifdjibaaK25
import Derived.Test.YtcocilpifdjibaaK26
import Derived.Test.YtcocilpifdjibaaK27
import Derived.Test.YtcocilpifdjibaaK28
import Derived.Test.YtcocilpifdjibaaK29
import Derived.Test.YtcocilpifdjibaaK30
import Derived.Test.YtcocilpifdjibaaK31
import Derived.Test.YtcocilpifdjibaaK32
import Derived.Test.YtcocilpifdjibaaK33
namespace Go.Proofs.Ytcocilpifdjibaa
open Go.ChangeShapes Go.WideShapes Go.ChangeAt Go.RowKit Go.Deep
set_option linter.unusedVariables false
set_option linter.unusedSimpArgs false
theorem turn_moves {w w4 : World} {vv : Value} {o : Obj} (hgrow : (w.alloc o).grownBy w4 vv.ownBlock) : Moves (fun b => vv.ownBlock = some b) w w4 := ((Moves.refl _ w).alloc o).trans (moves_grown hgrow) (fun j hj => .inr hj)
section
variable {w w4 : World} {base g n cap : Nat} {outs : List (Pr × Nat × Nat)} {k : Nat} {vv v' : Value} {o : Obj} {nm : ByteArray}
/-- where the rows of one element lie -/
theorem prk_rows {Q : Nat → Prop} {x : Pr × Nat × Nat} {cs : List Value} (h : PrK w Q x cs) : ∃ vp vv, cs[1]? = some vp ∧ cs[2]? = some vv ∧ w.ownsRow x.2.1 9 1 vv x.1.vars.length (strs x.1.vars) ∧ w.ownsRow x.2.1 61 2 vp x.1.params.length (parCells x.1.params).flatten ∧ (∀ j, vv.ownBlock = some j → (x.2.1 ≤ j ∧ j < x.2.2) ∧ Q j) ∧ (∀ j, vp.ownBlock = some j → (x.2.1 ≤ j ∧ j < x.2.2) ∧ Q j) := by
  obtain ⟨vp, vv, vb, ve, m1, m2, rfl, h2, ⟨h3, h3', h3''⟩, h4, h5, h6, h7, h8, h9, h10, h11⟩ := h
  exact ⟨vp, vv, rfl, rfl, h6, own_lo h10 (by omega), fun j hj => ⟨⟨(h6.lt j hj).1, by have := (h7 j hj).1; omega⟩, (h7 j hj).2⟩, fun j hj => ⟨⟨by have := (h10.lt j hj).1; omega, (h11 j hj).1⟩, (h11 j hj).2⟩⟩
theorem new_ne (hgl : g < w.heap.size) (hne : ∀ j, vv.ownBlock = some j → j ≠ g) (hat : vv.ownBlock = v'.ownBlock ∨ v'.ownBlock = some (w.alloc o).heap.size) : ∀ j, v'.ownBlock = some j → j ≠ g := by
  intro j hj
  rcases hat with h | h
  · exact hne j (h.trans hj)
  · rw [h] at hj; injection hj with hj; rw [World.size_alloc] at hj; omega
theorem twice_var (h : BuildI w base 59 5 PrK outs (.slice (some ⟨g, 0, none⟩) n cap)) (hap : Apart base w.heap.size outs) (hk : k < outs.length) (hvv : w.cell? ⟨g, k * 5 + 2, none⟩ = some vv) (hgrow : (w.alloc o).grownBy w4 vv.ownBlock) (hat : vv.ownBlock = v'.ownBlock ∨ v'.ownBlock = some (w.alloc o).heap.size)
    (hown : w4.ownsRow base 9 1 v' (outs[k].1.vars.length + 1) (strs outs[k].1.vars ++ [.string nm])) (hnm : nm.size ≤ 9223372036854775807) :
    BuildI (w4.setCell ⟨g, k * 5 + 2, none⟩ v') base 59 5 (fun w Q => ProcI w Q) ((outs.map Prod.fst).set k (adV nm outs[k].1)) (.slice (some ⟨g, 0, none⟩) n cap) := by
  obtain ⟨cs0, hP0, hcell0, _, hgl, hbg, hn⟩ := prk_row h hk
  obtain ⟨vp0, vv0, e1, e2, _, _, b2, b1⟩ := prk_rows hP0
  have hv0 := hcell0 2 _ e2
  rw [hvv] at hv0
  injection hv0 with hv0
  subst hv0
  have hm := turn_moves hgrow
  refine build_turn h hap hk hm (fun b hb => ⟨(b2 b hb).1, (b2 b hb).2.2⟩) (j := 2) (by omega) v' ?_
  intro cs hcs hP
  have hnn : ∀ j, v'.ownBlock = some j → j ≠ g := new_ne (o := o) hgl (fun j hj => (b2 j hj).2.2) hat
  have hPp := hP.proc
  obtain ⟨vp, vv', vb, ve, m1, m2, rfl, h2, ⟨h3, h3', h3''⟩, h4, h5, h6, h7, h8, h9, h10, h11⟩ := hP
  have hz := hm.size
  have hv1 := hcs 2 vv' rfl
  rw [hvv] at hv1
  injection hv1 with hv1
  subst hv1
  have hq : ∀ b, ((m1 ≤ b ∧ b < m2) ∧ (base ≤ b ∧ b < w.heap.size) ∧ b ≠ g) → (base ≤ b ∧ b < w4.heap.size) ∧ b ≠ g := fun b hb => ⟨⟨hb.2.1.1, by have := hb.2.1.2; omega⟩, hb.2.2⟩
  have hc : ∀ p : Addr, ((m1 ≤ p.block ∧ p.block < m2) ∧ (base ≤ p.block ∧ p.block < w.heap.size) ∧ p.block ≠ g) → w4.cell? p = w.cell? p := fun p hp => hm.cell hp.2.1.2 (fun e => by have := (h7 _ e).1; have := hp.1.1; omega)
  refine ⟨vp, v', vb, ve, rfl, h2, SliceI.keep (slice_own_block (pars_of_own h5 h10)) (fun j hj => ⟨⟨(h11 j hj).2.1.1, by have := (h11 j hj).2.1.2; omega⟩, (h11 j hj).2.2⟩) (fun p hp => hm.cell (h11 _ hp).2.1.2 (fun e => by have := (h7 _ e).1; have := (h10.lt _ hp).1; omega)) (fun _ _ _ h => h), ?_, SliceI.keep h9 hq hc (fun s cs _ h => h.keep hq hc), SliceI.keep h8 hq hc (fun _ _ _ h => h)⟩
  have ht := (texts_of_own (l := outs[k].1.vars ++ [nm]) (fun s hs => by
    rcases List.mem_append.1 hs with hs | hs
    · exact h4 s hs
    · obtain rfl := List.mem_singleton.1 hs; exact hnm) (by rw [strs_append]; exact hown)).2
  exact SliceI.keep (slice_own_block ht) (fun j hj => ⟨hown.lt j hj, hnn j hj⟩) (fun _ _ => rfl) (fun _ _ _ h => h)
theorem twice_par (h : BuildI w base 59 5 PrK outs (.slice (some ⟨g, 0, none⟩) n cap)) (hap : Apart base w.heap.size outs) (hk : k < outs.length) (hvv : w.cell? ⟨g, k * 5 + 1, none⟩ = some vv) (hgrow : (w.alloc o).grownBy w4 vv.ownBlock) (hat : vv.ownBlock = v'.ownBlock ∨ v'.ownBlock = some (w.alloc o).heap.size)
    (hown : w4.ownsRow base 61 2 v' (outs[k].1.params.length + 1) ((parCells outs[k].1.params).flatten ++ [.string nm, .bool false])) (hnm : nm.size ≤ 9223372036854775807) :
    BuildI (w4.setCell ⟨g, k * 5 + 1, none⟩ v') base 59 5 (fun w Q => ProcI w Q) ((outs.map Prod.fst).set k (adP nm outs[k].1)) (.slice (some ⟨g, 0, none⟩) n cap) := by
  obtain ⟨cs0, hP0, hcell0, _, hgl, hbg, hn⟩ := prk_row h hk
  obtain ⟨vp0, vv0, e1, e2, _, _, b2, b1⟩ := prk_rows hP0
  have hv0 := hcell0 1 _ e1
  rw [hvv] at hv0
  injection hv0 with hv0
  subst hv0
  have hm := turn_moves hgrow
  refine build_turn h hap hk hm (fun b hb => ⟨(b1 b hb).1, (b1 b hb).2.2⟩) (j := 1) (by omega) v' ?_
  intro cs hcs hP
  have hnn : ∀ j, v'.ownBlock = some j → j ≠ g := new_ne (o := o) hgl (fun j hj => (b1 j hj).2.2) hat
  obtain ⟨vp, vv', vb, ve, m1, m2, rfl, h2, ⟨h3, h3', h3''⟩, h4, h5, h6, h7, h8, h9, h10, h11⟩ := hP
  have hz := hm.size
  have hv1 := hcs 1 vp rfl
  rw [hvv] at hv1
  injection hv1 with hv1
  subst hv1
  have hq : ∀ b, ((m1 ≤ b ∧ b < m2) ∧ (base ≤ b ∧ b < w.heap.size) ∧ b ≠ g) → (base ≤ b ∧ b < w4.heap.size) ∧ b ≠ g := fun b hb => ⟨⟨hb.2.1.1, by have := hb.2.1.2; omega⟩, hb.2.2⟩
  have hc : ∀ p : Addr, ((m1 ≤ p.block ∧ p.block < m2) ∧ (base ≤ p.block ∧ p.block < w.heap.size) ∧ p.block ≠ g) → w4.cell? p = w.cell? p := fun p hp => hm.cell hp.2.1.2 (fun e => by have := (h10.lt _ e).1; have := hp.1.2; omega)
  refine ⟨v', vv', vb, ve, rfl, h2, ?_, SliceI.keep (slice_own_block (texts_of_own h4 h6).2) (fun j hj => ⟨⟨(h7 j hj).2.1.1, by have := (h7 j hj).2.1.2; omega⟩, (h7 j hj).2.2⟩) (fun p hp => hm.cell (h7 _ hp).2.1.2 (fun e => by have := (h10.lt _ e).1; have := (h7 _ hp).1; omega)) (fun _ _ _ h => h), SliceI.keep h9 hq hc (fun s cs _ h => h.keep hq hc), SliceI.keep h8 hq hc (fun _ _ _ h => h)⟩
  have ht := pars_of_own (l := outs[k].1.params ++ [⟨nm, false⟩]) (fun s hs => by
    rcases List.mem_append.1 hs with hs | hs
    · exact h5 s hs
    · obtain rfl := List.mem_singleton.1 hs; exact hnm) (v := v') (w := w4) (base := base) (by
      have : (parCells (outs[k].1.params ++ [⟨nm, false⟩])).flatten = (parCells outs[k].1.params).flatten ++ [.string nm, .bool false] := by simp [parCells]
      rw [this, List.length_append]; exact hown)
  exact SliceI.keep (slice_own_block ht) (fun j hj => ⟨hown.lt j hj, hnn j hj⟩) (fun _ _ => rfl) (fun _ _ _ h => h)
end
/-- the program's own cells: globals below, procedures from base on -/
theorem twice_prog {w : World} {lo base : Nat} {gl : List ByteArray} {ps : List Pr} {d0 d1 : Value} (hg : w.ownsRow lo 9 1 d0 gl.length (strs gl)) (hs : ∀ s ∈ gl, s.size ≤ 9223372036854775807) (hlo : lo ≤ base) (hp : BuildI w base 59 5 (fun w Q => ProcI w Q) ps d1) : ProgI w (fun b => lo ≤ b ∧ b < w.heap.size) ⟨gl, ps⟩ [d0, d1] := by
  have hd := BuildI.done (R := fun w Q => ProcI w Q) stayP (fun h => (procOk _ _ _ _ h).1) hp
  exact ⟨d0, d1, rfl, (texts_of_own hs hg).2, SliceI.keep hd (fun j hj => ⟨Nat.le_trans hlo hj.1, hj.2⟩) (fun _ _ => rfl) (fun a cs _ h => h.keep (fun j hj => ⟨Nat.le_trans hlo hj.1, hj.2⟩) (fun _ _ => rfl))⟩
/-- from own rows to plain procedures -/
theorem build_procs {w : World} {base : Nat} {outs : List (Pr × Nat × Nat)} {d1 : Value} (h : BuildI w base 59 5 PrK outs d1) : BuildI w base 59 5 (fun w Q => ProcI w Q) (outs.map Prod.fst) d1 := by
  obtain ⟨rows, ho, ha⟩ := h
  refine ⟨rows, by rw [List.length_map]; exact ho, all2_at (by rw [List.length_map]; exact ha.len) (fun i hi => ?_)⟩
  have hi' : i < outs.length := by simpa using hi
  rw [List.getElem_map]
  exact (ha.at_ i hi').proc.keep (fun b hb => hb.2) (fun _ _ => rfl)
end Go.Proofs.Ytcocilpifdjibaa
namespace Go.Proofs.Ytcocilpifdjibaa
open Go.ChangeShapes Go.WideShapes Go.ChangeAt Go.RowKit Go.Deep
set_option linter.unusedVariables false
set_option linter.unusedSimpArgs false
theorem fits_room {p : Pg} (h : fitsP p = true) : wT p.globals ≤ 20000 ∧ p.procs.length ≤ 20000 ∧ ∀ q ∈ p.procs, wSL q.body ≤ 20000 ∧ wT q.vars ≤ 20000 ∧ wT q.end_ ≤ 20000 ∧ q.params.length ≤ 20000 := by
 unfold fitsP weighP at h
 have h0 := of_decide_eq_true h
 obtain ⟨h1, h2⟩ := weighQs_full p.procs _ h0
 have h3 := weighTs_eq p.globals 0 (by omega)
 exact ⟨by omega, by omega, h2⟩
theorem wT_snoc (s : ByteArray) : ∀ (l : List ByteArray), wT (l ++ [s]) = wT l + (s.size + 1)
 | [] => by simp [wT]
 | x :: l => by rw [List.cons_append, wT, wT, wT_snoc s l]; omega
theorem smG_glob {p : Pg} {nm : ByteArray} (h : fitsP p = true) (hn : nm.size ≤ 8) : SmG ⟨p.globals ++ [nm], p.procs⟩ := by
 obtain ⟨h1, h2, h3⟩ := fits_room h
 refine ⟨?_, by show p.procs.length ≤ _; omega, fun q hq => by obtain ⟨a, b, c, d⟩ := h3 q hq; exact ⟨by omega, by omega, by omega, by omega⟩⟩
 show wT (p.globals ++ [nm]) ≤ _
 rw [wT_snoc]; omega
theorem smG_set {p : Pg} {k : Nat} {x : Pr} (h : fitsP p = true) (hk : k < p.procs.length) (hb : x.body = p.procs[k].body) (hv : wT x.vars ≤ wT p.procs[k].vars + 9) (he : x.end_ = p.procs[k].end_) (hp : x.params.length ≤ p.procs[k].params.length + 1) : SmG ⟨p.globals, p.procs.set k x⟩ := by
 obtain ⟨h1, h2, h3⟩ := fits_room h
 refine ⟨by show wT p.globals ≤ _; omega, by show (p.procs.set k x).length ≤ _; rw [List.length_set]; omega, fun q hq => ?_⟩
 rcases List.mem_or_eq_of_mem_set (show q ∈ p.procs.set k x from hq) with hq | rfl
 ·obtain ⟨a, b, c, d⟩ := h3 q hq; exact ⟨by omega, by omega, by omega, by omega⟩
 ·obtain ⟨a, b, c, d⟩ := h3 _ (List.getElem_mem hk)
  rw [hb, he]
  exact ⟨by omega, by omega, by omega, by omega⟩
theorem smG_adV {p : Pg} {k : Nat} {nm : ByteArray} (h : fitsP p = true) (hn : nm.size ≤ 8) (hk : k < p.procs.length) : SmG ⟨p.globals, p.procs.set k (adV nm p.procs[k])⟩ :=
 smG_set h hk rfl (by show wT (p.procs[k].vars ++ [nm]) ≤ _; rw [wT_snoc]; omega) rfl (by show p.procs[k].params.length ≤ _; omega)
theorem smG_adP {p : Pg} {k : Nat} {nm : ByteArray} (h : fitsP p = true) (hk : k < p.procs.length) : SmG ⟨p.globals, p.procs.set k (adP nm p.procs[k])⟩ :=
 smG_set h hk rfl (by show wT p.procs[k].vars ≤ _; omega) rfl (by show (p.procs[k].params ++ [(⟨nm, false⟩ : Pa)]).length ≤ _; rw [List.length_append]; simp)
theorem frozen_same {w w' : World} {a : Addr} (h : w'.heap[a.block]? = w.heap[a.block]?) : w'.frozen? a = w.frozen? a := by
 unfold World.frozen?
 rw [h]
theorem prk_sz {w : World} {base C : Nat} {e : TypeId} {outs : List (Pr × Nat × Nat)} {d1 : Value} (h : BuildI w base e C PrK outs d1) {V : World} (hsame : ∀ b, base ≤ b → b < w.heap.size → V.heap[b]? = w.heap[b]?) (hz : w.heap.size ≤ V.heap.size) : BuildI V base e C PrK outs d1 := by
 obtain ⟨rows, h1, h2⟩ := h
 exact ⟨rows, own_stay h1 (fun j hj => hsame j (h1.lt j hj).1 (h1.lt j hj).2), h2.imp fun x cs h => stayK h (fun b hb => ⟨⟨hb.1.1, Nat.lt_of_lt_of_le hb.1.2 hz⟩, hb.2⟩) (fun b hb => hsame b hb.1.1 hb.1.2)⟩
section
variable {w w4 : World} {lo base g n cap : Nat} {gl : List ByteArray} {outs : List (Pr × Nat × Nat)} {k : Nat} {d0 vv v' : Value} {o : Obj} {nm : ByteArray}
theorem glob_stay (hg : w.ownsRow lo 9 1 d0 gl.length (strs gl)) (hgb : ∀ j, d0.ownBlock = some j → j < base) (hbg : base ≤ g) (hgrow : (w.alloc o).grownBy w4 vv.ownBlock) (hvb : ∀ j, vv.ownBlock = some j → base ≤ j) (i : Nat) : (w4.setCell ⟨g, i, none⟩ v').ownsRow lo 9 1 d0 gl.length (strs gl) := by
 refine own_stay hg (fun j hj => ?_)
 have hl := (hg.lt j hj).2
 have hm := turn_moves hgrow
 have h1 := hgb j hj
 rw [heap_set_ne w4 ⟨g, i, none⟩ v' (Nat.lt_of_lt_of_le hl hm.size) (by show j ≠ g; omega)]
 exact hm.block j hl (fun e => by have := hvb j e; omega)
theorem var_done (hg : w.ownsRow lo 9 1 d0 gl.length (strs gl)) (hgb : ∀ j, d0.ownBlock = some j → j < base) (hs : ∀ s ∈ gl, s.size ≤ 9223372036854775807) (hlo : lo ≤ base)
  (h : BuildI w base 59 5 PrK outs (.slice (some ⟨g, 0, none⟩) n cap)) (hap : Apart base w.heap.size outs) (hk : k < outs.length) (hvv : w.cell? ⟨g, k * 5 + 2, none⟩ = some vv) (hgrow : (w.alloc o).grownBy w4 vv.ownBlock) (hat : v'.ownBlock = vv.ownBlock ∨ v'.ownBlock = some (w.alloc o).heap.size)
  (hown : w4.ownsRow base 9 1 v' (outs[k].1.vars.length + 1) (strs outs[k].1.vars ++ [.string nm])) (hnm : nm.size ≤ 9223372036854775807) :
  ProgI (w4.setCell ⟨g, k * 5 + 2, none⟩ v') (fun b => lo ≤ b ∧ b < (w4.setCell ⟨g, k * 5 + 2, none⟩ v').heap.size) ⟨gl, (outs.map Prod.fst).set k (adV nm outs[k].1)⟩ [d0, .slice (some ⟨g, 0, none⟩) n cap] := by
 obtain ⟨cs0, hP0, hcell0, _, hgl, hbg, hn⟩ := prk_row h hk
 obtain ⟨vp0, vv0, e1, e2, _, _, b2, b1⟩ := prk_rows hP0
 have hv0 := hcell0 2 _ e2
 rw [hvv] at hv0
 injection hv0 with hv0
 subst hv0
 exact twice_prog (glob_stay hg hgb hbg hgrow (fun j hj => (b2 j hj).2.1.1) _) hs hlo (twice_var h hap hk hvv hgrow (hat.imp Eq.symm id) hown hnm)
theorem par_done (hg : w.ownsRow lo 9 1 d0 gl.length (strs gl)) (hgb : ∀ j, d0.ownBlock = some j → j < base) (hs : ∀ s ∈ gl, s.size ≤ 9223372036854775807) (hlo : lo ≤ base)
  (h : BuildI w base 59 5 PrK outs (.slice (some ⟨g, 0, none⟩) n cap)) (hap : Apart base w.heap.size outs) (hk : k < outs.length) (hvv : w.cell? ⟨g, k * 5 + 1, none⟩ = some vv) (hgrow : (w.alloc o).grownBy w4 vv.ownBlock) (hat : v'.ownBlock = vv.ownBlock ∨ v'.ownBlock = some (w.alloc o).heap.size)
  (hown : w4.ownsRow base 61 2 v' (outs[k].1.params.length + 1) ((parCells outs[k].1.params).flatten ++ [.string nm, .bool false])) (hnm : nm.size ≤ 9223372036854775807) :
  ProgI (w4.setCell ⟨g, k * 5 + 1, none⟩ v') (fun b => lo ≤ b ∧ b < (w4.setCell ⟨g, k * 5 + 1, none⟩ v').heap.size) ⟨gl, (outs.map Prod.fst).set k (adP nm outs[k].1)⟩ [d0, .slice (some ⟨g, 0, none⟩) n cap] := by
 obtain ⟨cs0, hP0, hcell0, _, hgl, hbg, hn⟩ := prk_row h hk
 obtain ⟨vp0, vv0, e1, e2, _, _, b2, b1⟩ := prk_rows hP0
 have hv0 := hcell0 1 _ e1
 rw [hvv] at hv0
 injection hv0 with hv0
 subst hv0
 exact twice_prog (glob_stay hg hgb hbg hgrow (fun j hj => (b1 j hj).2.1.1) _) hs hlo (twice_par h hap hk hvv hgrow (hat.imp Eq.symm id) hown hnm)
end
theorem glob_done {w0 V : World} {lo base : Nat} {gl : List ByteArray} {outs : List (Pr × Nat × Nat)} {d1 v' : Value} {nm : ByteArray} (h : BuildI w0 base 59 5 PrK outs d1) (hsame : ∀ b, base ≤ b → b < w0.heap.size → V.heap[b]? = w0.heap[b]?) (hz : w0.heap.size ≤ V.heap.size)
  (hown : V.ownsRow lo 9 1 v' (gl.length + 1) (strs gl ++ [.string nm])) (hs : ∀ s ∈ gl, s.size ≤ 9223372036854775807) (hnm : nm.size ≤ 9223372036854775807) (hlo : lo ≤ base) : ProgI V (fun b => lo ≤ b ∧ b < V.heap.size) ⟨gl ++ [nm], outs.map Prod.fst⟩ [v', d1] :=
 twice_prog (by rw [strs_append, List.length_append]; exact hown) (fun s hm => by
  rcases List.mem_append.1 hm with hm | hm
  ·exact hs s hm
  ·rw [List.mem_singleton.1 hm]; exact hnm) hlo (build_procs (prk_sz h hsame hz))
theorem main_eq (q : Pr) : (q.nm.toList == [109, 97, 105, 110]) = isQ mainB q := by
 unfold isQ mainB
 rw [Lib.toList_data, Bool.eq_iff_iff]
 simp only [beq_iff_eq, decide_eq_true_eq]
 generalize q.nm = s
 cases s with
 | mk d =>
  constructor
  ·intro h
   have h2 : d = #[109, 97, 105, 110] := Array.toList_inj.1 h
   rw [h2]
  ·intro h
   injection h with h
   rw [h]
theorem in_ow (A : Nat) (W9 : World) : In (fun b => A ≤ b ∧ b < W9.heap.size) W9 W9 := ⟨fun j h => h.2, fun _ _ => rfl⟩
end Go.Proofs.Ytcocilpifdjibaa
namespace Go.Proofs.Ytcocilpifdjibaa
open Go
set_option linter.unusedVariables false
section
variable {P : Program} {md : Region.Mode} {ops : Array Oper} {Q : Exit → Act → World → Prop} {S : World → Prop} {z : Nat}
def waitsOn (md : Region.Mode) (ops : Array Oper) (z i : Nat) : Bool := ((ops[z]?).map (·.after.any fun e => Region.binds md e && e.on == i)).getD false
theorem waitsOn_spec {i : Nat} (h1 : waitsOn md ops z i = true) : ∃ oz, ops[z]? = some oz ∧ ∃ e ∈ oz.after, Region.binds md e = true ∧ e.on = i := by
  unfold waitsOn at h1
  cases hz : ops[z]? with
  | none => rw [hz] at h1; cases h1
  | some oz =>
    rw [hz] at h1
    simp only [Option.map_some, Option.getD_some, Array.any_eq_true, Bool.and_eq_true, beq_iff_eq] at h1
    obtain ⟨k, hk, h2, h3⟩ := h1
    exact ⟨oz, rfl, _, Array.getElem_mem hk, h2, h3⟩
theorem lastTake1 {i : Nat} {oi : Oper} {v : Value} (hi : ops[i]? = some oi) (hz : waitsOn md ops z i = true) (hsel : ∀ (j : Nat) (o : Oper) cs b, ops[j]? = some o → o.op ≠ .select cs b)
    (hQ : ∀ c a w, Q (.panic c) (a.put oi.dst v) w → Q (.panic c) a w) :
    ∀ (fuel : Nat) (listed : Array Bool) (a : Act) (w : World),
      (∀ j oj, ops[j]? = some oj → j ≠ i → listed.getD j true = false → (∀ e ∈ oj.after, Region.binds md e = true → e.on ≠ i) → oi.apart ops oj = true) →
      i ∈ Region.ready md ops listed → YieldsIf P ops S oi v a → S w →
      wpAnyL P md ops Q S z fuel (listed.setIfInBounds i true) (a.put oi.dst v) w → wpAnyL P md ops Q S z (fuel + 1) listed a w := by
  have hlt : i < ops.size := (Array.getElem?_eq_some_iff.1 hi).1
  -- one that may come up beside i does not wait for it
  have key : ∀ (listed : Array Bool) (j : Nat), i ∈ Region.ready md ops listed → j ∈ Region.ready md ops listed → j ≠ i → ∃ oj, ops[j]? = some oj ∧ listed.getD j true = false ∧ ∀ e ∈ oj.after, Region.binds md e = true → e.on ≠ i := by
    intro listed j hr hj hji
    obtain ⟨hjun, oj, hoj, hall⟩ := mem_ready.1 hj
    refine ⟨oj, hoj, hjun, fun e he hb heq => ?_⟩
    have h1 := hall e he hb
    have h0 := (mem_ready.1 hr).1
    rw [heq] at h1
    rcases Nat.lt_or_ge i listed.size with h' | h'
    · simp [h'] at h0 h1; rw [h0] at h1; cases h1
    · simp [Array.getElem?_eq_none h'] at h1
  intro fuel
  induction fuel with
  | zero =>
    intro listed a w _ hr hy hS H
    refine ⟨fun h => (by rw [h] at hr; cases hr), fun j hj => ?_⟩
    by_cases hji : j = i
    · subst hji; exact hy.wpOp hi hS ⟨fun _ => hS, H⟩
    · have := ready_mono hj hji
      rw [H.1] at this
      cases this
  | succ fuel ih =>
    intro listed a w hfree hr hy hS H
    refine ⟨fun h => (by rw [h] at hr; cases hr), fun j hj => ?_⟩
    by_cases hji : j = i
    · subst hji; exact hy.wpOp hi hS ⟨fun _ => hS, H⟩
    · obtain ⟨oj, hoj, hjun, hnot⟩ := key listed j hr hj hji
      have hjz : j ≠ z := by
        rintro rfl
        obtain ⟨oz, hoz, e, he, hb, heq⟩ := waitsOn_spec hz
        rw [hoj] at hoz
        injection hoz with hoz
        subst hoz
        exact hnot e he hb heq
      have h2 := wpOp_putIf hoj (hfree j oj hoj hji hjun hnot) (fun cs b => hsel i oi cs b hi) (fun cs b => hsel j oj cs b hoj) hQ hy (H.2 j (ready_mono hj hji))
      refine wpOp_mono (fun a' w' h3 => ⟨h3.2.1, ih (listed.setIfInBounds j true) a' w' (fun k ok hk hki hun hno => hfree k ok hk hki ?_ hno) (ready_mono hr (Ne.symm hji)) h3.1 (h3.2.1 hjz) ?_⟩) h2
      · by_cases hjk : j = k
        · subst hjk; exact hjun
        · rw [getD_set_ne true hjk] at hun; exact hun
      · rw [Array.setIfInBounds_comm _ _ hji]
        exact h3.2.2
theorem wpAnyL_take1 {i : Nat} {oi : Oper} {v : Value} {fuel : Nat} {listed : Array Bool} {a : Act} {w : World} (hi : ops[i]? = some oi) (hz : waitsOn md ops z i = true)
    (hs : Region.noSelect ops = true) (hf : Region.free md ops listed i = true) (hr : (Region.ready md ops listed).contains i = true)
    (hQ : ∀ c a w, Q (.panic c) (a.put oi.dst v) w → Q (.panic c) a w) (hy : YieldsIf P ops S oi v a) (hS : S w)
    (h : wpAnyL P md ops Q S z fuel (listed.setIfInBounds i true) (a.put oi.dst v) w) : wpAnyL P md ops Q S z (fuel + 1) listed a w :=
  lastTake1 hi hz (Region.noSelect_spec hs) hQ fuel listed a w (Region.free_spec hi hf) (by simpa using hr) hy hS h
end
end Go.Proofs.Ytcocilpifdjibaa
namespace Go.Proofs.Ytcocilpifdjibaa
open Go.ChangeShapes Go.WideShapes Go.ChangeAt Go.RowKit Go.Deep
set_option linter.unusedVariables false
set_option linter.unusedSimpArgs false
theorem isT_eq (s t : ByteArray) : isT s t = (t.toList == s.toList) := by rw [dec_bytes]; unfold isT; exact decide_eq_decide.2 eq_comm
set_option maxHeartbeats 1000000 in
theorem rIn_any {w W : World} {Q : Nat → Prop} {l : List ByteArray} {v : Value} (h : TextsI w Q l v) (hI : In Q w W) (s : ByteArray) :
  Calls Try.prog 49 #[v, .string s] W fun e w' => e = .returned (.bool (l.any (isT s))) ∧ W = w' := by
 obtain ⟨A, cap, rfl, hl1, hl2⟩ := h.shape
 have H := Lib.hid h
 have HI := Lib.hid hI
 clear h hI
 go_enter Try.func49, Try.ntmps49
 go_wp2_with fail
 go_loopg [8] l.length (fun kk i wr => ∃ k : Nat, k + kk = l.length ∧ i = .int .i64 k ∧ Hid ((l.drop k).any (isT s) = l.any (isT s)) ∧ wr = W)
 case atStart => exact ⟨0, by omega, rfl, Lib.hid (by rw [List.drop_zero]), rfl⟩
 case round =>
  obtain ⟨k, hk, rfl, HW, rfl⟩ := hrel
  by_cases hlt : k < l.length
  ·obtain ⟨a, rfl, _, p1, hs⟩ := text_at H.out HI.out hlt
   have HD : Hid ((isT s l[k] || (l.drop (k + 1)).any (isT s)) = l.any (isT s)) := Lib.hid (by rw [← HW.out, List.drop_eq_getElem_cons hlt, List.any_cons])
   have hv := isT_eq s l[k]
   generalize l[k] = t at p1 hs HD hv
   cases hb : isT s t with
   | true =>
    rw [hb, Bool.true_or] at HD
    have hv2 : (t.toList == s.toList) = true := by rw [← hv]; exact hb
    clear hv hb
    go_wp2_with fail
    go_ret
    exact ⟨by rw [← HD.out]; rfl, rfl⟩
   | false =>
    rw [hb, Bool.false_or] at HD
    have hv2 : (t.toList == s.toList) = false := by rw [← hv]; exact hb
    clear hv hb
    go_wp2_with fail
    go_roundg (l.length - k - 1)
    case measure => omega
    case rel => exact ⟨k + 1, by omega, by go_num, HD, rfl⟩
  ·have HD : Hid (l.any (isT s) = false) := Lib.hid (by rw [← HW.out, List.drop_of_length_le (by omega)]; rfl)
   go_wp2_with fail
   go_ret
   exact ⟨by rw [HD.out]; rfl, rfl⟩
end Go.Proofs.Ytcocilpifdjibaa
namespace Go.Proofs.Ytcocilpifdjibaa
open Go.ChangeShapes Go.WideShapes Go.ChangeAt Go.RowKit Go.Deep
set_option linter.unusedVariables false
set_option linter.unusedSimpArgs false
theorem vars_small {p : Pg} (hsm : SmG p) (hm : mayP p = true) (proc : ByteArray) : ∀ s ∈ varsP p proc, s.size ≤ 9223372036854775807 := by
 intro s hs
 unfold varsP at hs
 rw [if_pos hm] at hs
 cases hf : p.procs.find? (isQ proc) with
 | none => rw [hf] at hs; cases hs
 | some q =>
  rw [hf, Option.elim_some] at hs
  have hc := U.smC_of hsm hm
  obtain ⟨_, h2, h3, _⟩ := hc.proc _ (List.mem_of_find?_eq_some hf)
  unfold namesP at hs
  simp only [List.mem_append, List.mem_map] at hs
  rcases hs with (hs | ⟨x, hx, rfl⟩) | hs
  ·exact Nat.le_trans (hc.globals.2 _ hs) (by omega)
  ·exact Nat.le_trans (h2.2 _ hx) (by omega)
  ·exact Nat.le_trans (h3.2 _ hs) (by omega)
end Go.Proofs.Ytcocilpifdjibaa
namespace Go.Proofs.Ytcocilpifdjibaa
open Go.ChangeShapes Go.WideShapes Go.ChangeAt Go.RowKit Go.Deep
set_option linter.unusedVariables false
set_option linter.unusedSimpArgs false
theorem Mod_fix (n : Int) (k : Nat) (h1 : 1 ≤ k) (h2 : k ≤ 1000000) : ∃ m, m < k ∧ ∀ w : World, Calls Try.prog 19 #[.int .i64 n, .int .i64 k] w fun e w' => e = .returned (.int .i64 m) ∧ w = w' := by
 have hb : n.tmod k < k := Int.tmod_lt_of_pos n (by omega)
 have hb2 : -(k : Int) < n.tmod k := by
  have := Int.tmod_lt_of_pos (-n) (show (0 : Int) < k by omega)
  rw [Int.neg_tmod] at this
  omega
 by_cases hn : n.tmod k < 0
 ·refine ⟨(n.tmod k + k).toNat, by omega, fun w => ?_⟩
  go_enter Try.func19, Try.ntmps19
  go_wp2
  go_ret
  exact ⟨ret_int (by omega), rfl⟩
 ·refine ⟨(n.tmod k).toNat, by omega, fun w => ?_⟩
  go_enter Try.func19, Try.ntmps19
  go_wp2
  go_ret
  exact ⟨ret_int (by omega), rfl⟩
end Go.Proofs.Ytcocilpifdjibaa
namespace Go.Proofs.Ytcocilpifdjibaa
open Go.ChangeShapes Go.WideShapes Go.ChangeAt Go.RowKit Go.Deep
set_option linter.unusedVariables false
section
variable {P : Program} {w : World}
theorem run_append_gen (base : Nat) (t ty e : TypeId) (i : TypeInfo) (z : Value) (size bytes : Nat) (ht : P.underlying t = some (.slice e)) (hi : P.info? e = some i) (hz : i.zero = some z)
  (hsize : i.size = size) (hby : i.bytes = bytes) (hzs : z.cells.size = size) (hsz : 0 < size)
  (v : Value) (n : Nat) (xs : List Value) (hown : w.ownsRow base e size v n xs)
  (X : Option Addr) (m c : Nat) (news : List Value) (hlen : news.length = m * size) (hcells : ∀ ad, X = some ad → ∀ j u, news[j]? = some u → w.cell? (ad.add j) = some u) (hnone : X = none → m = 0 ∧ c = 0) (h1 : ∀ u ∈ news, u.oneCell' = true)
  (h63 : n + m ≤ maxLen) (hbytes : (n + m) * bytes ≤ 140737488355328) (hbase : base ≤ w.heap.size) :
  ∃ v' w', (Builtin.append_ #[t, t] ty #[v, .slice X m c]).run P w = .ok v' w' ∧ w'.ownsRow base e size v' (n + m) (xs ++ news) ∧ w.grownBy w' v.ownBlock ∧ (v'.ownBlock = v.ownBlock ∨ v'.ownBlock = some w.heap.size) := by
 cases X with
 | some ad =>
  obtain ⟨v', w', hr, h2, h3, _, h5⟩ := run_append_own_at (P := P) w base t ty e i z size bytes ht hi hz hsize hby hzs hsz v n xs hown ad m c news hlen (hcells ad rfl) h1 h63 hbytes hbase
  exact ⟨v', w', hr, h2, h3, h5⟩
 | none =>
  obtain ⟨rfl, rfl⟩ := hnone rfl
  obtain ⟨Xf, cf, rfl, hoc, hcx⟩ := own_form hown
  have hXn : Xf = none → n = 0 ∧ cf = 0 := fun e' => by
   subst e'
   rcases hown.2 with ⟨h1, h2⟩ | ⟨g, cap', cur, h1, _⟩
   ·injection h1 with _ h3 h4; exact ⟨h3, h4⟩
   ·cases h1
  have hn0 : news = [] := List.eq_nil_of_length_eq_zero (by rw [hlen]; simp)
  subst hn0
  refine ⟨_, _, run_append_none (P := P) (w := w) t ty e i ht hi Xf n cf hoc hXn, ?_, World.grownBy.refl _ _, .inl rfl⟩
  rw [Nat.add_zero, List.append_nil]
  exact hown
theorem step_append_gen {ops : Array Oper} {o : Oper} {a : Act} {K : Act → World → Prop} {Q : Exit → Act → World → Prop} {E : Prop} (hgd : o.guard = none) (s x : Operand) (t : TypeId)
  (ho : o.op = .call { callee := .builtin .append, args := #[s, x], argTypes := #[t, t] })
  (base : Nat) (e : TypeId) (i : TypeInfo) (z : Value) (size bytes : Nat) (ht : P.underlying t = some (.slice e)) (hi : P.info? e = some i) (hz : i.zero = some z)
  (hsize : i.size = size) (hby : i.bytes = bytes) (hzs : z.cells.size = size) (hsz : 0 < size)
  (v : Value) (n : Nat) (xs : List Value) (hs : a.eval s = v) (hown : w.ownsRow base e size v n xs)
  (X : Option Addr) (m c : Nat) (news : List Value) (hx : a.eval x = .slice X m c) (hlen : news.length = m * size) (hcells : ∀ ad, X = some ad → ∀ j u, news[j]? = some u → w.cell? (ad.add j) = some u) (hnone : X = none → m = 0 ∧ c = 0) (h1 : ∀ u ∈ news, u.oneCell' = true)
  (h63 : n + m ≤ maxLen) (hbytes : (n + m) * bytes ≤ 140737488355328) (hbase : base ≤ w.heap.size)
  (h : ∀ v' w', w'.ownsRow base e size v' (n + m) (xs ++ news) → w.grownBy w' v.ownBlock → (v'.ownBlock = v.ownBlock ∨ v'.ownBlock = some w.heap.size) → K (a.put o.dst v') w') :
  if Region.wanted o (yielded ops a.tmps) = true then Oper.wp P o a w K Q else E := by
 have hw : Region.wanted o (yielded ops a.tmps) = true := by simp [Region.wanted, hgd]
 rw [if_pos hw]
 obtain ⟨v', w', hr, h2, h3, h4⟩ := run_append_gen (P := P) (w := w) base t o.type e i z size bytes ht hi hz hsize hby hzs hsz v n xs hown X m c news hlen hcells hnone h1 h63 hbytes hbase
 unfold Oper.wp execOp
 simp only [ho, resolve, invoke, builtin, Sem.run_bind, Sem.run_pure, Result.andThen_ok, List.map_toArray, List.map_cons, List.map_nil, hs, hx, hr]
 exact h v' w' h2 h3 h4
end
end Go.Proofs.Ytcocilpifdjibaa
