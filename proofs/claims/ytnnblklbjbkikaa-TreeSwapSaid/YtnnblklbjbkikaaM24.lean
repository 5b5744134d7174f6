/- Texts, merged by a program; only what is used. -/
import Derived.Deep.RegionHeld3
import Derived.Test.YtnnblklbjbkikaaM1
import Derived.Test.YtnnblklbjbkikaaM2
import Derived.Test.YtnnblklbjbkikaaM3
import Derived.Test.YtnnblklbjbkikaaM4
import Derived.Test.YtnnblklbjbkikaaM5
import Derived.Test.YtnnblklbjbkikaaM6
import Derived.Test.YtnnblklbjbkikaaM7
import Derived.Test.YtnnblklbjbkikaaM8
import Derived.Test.YtnnblklbjbkikaaM9
import Derived.Test.YtnnblklbjbkikaaM10
import Derived.Test.YtnnblklbjbkikaaM11
import Derived.Test.YtnnblklbjbkikaaM12
import Derived.Test.YtnnblklbjbkikaaM13
import Derived.Test.YtnnblklbjbkikaaM15
import Derived.Test.YtnnblklbjbkikaaM20
import Derived.Test.YtnnblklbjbkikaaM21
import Derived.Test.YtnnblklbjbkikaaM22
import Derived.Test.YtnnblklbjbkikaaM23
namespace Go.Proofs.Ytnnblklbjbkikaa
open Go.ChangeShapes Go.WideShapes Go.ChangeAt Go.RowKit Go.Deep
set_option linter.unusedVariables false
theorem weighPa_len : ∀ (l : List Pa) (n : Nat), weighPa l n ≤ 20000 → n + l.length ≤ weighPa l n
  | [], n, h => by rw [weighPa]; simp
  | a :: l, n, h => by
    rw [weighPa] at h ⊢
    split at h
    · rename_i hn
      rw [if_pos hn]
      have h1 := weighPa_len l _ h
      have h2 := weighT_eq (s := a.nm.size) (n := n) (by omega)
      rw [List.length_cons]
      omega
    · omega
theorem weighQs_full : ∀ (l : List Pr) (n : Nat), weighQs l n ≤ 20000 → n + l.length ≤ weighQs l n ∧ ∀ q ∈ l, wSL q.body ≤ 20000 ∧ wT q.vars ≤ 20000 ∧ wT q.end_ ≤ 20000 ∧ q.params.length ≤ 20000
  | [], n, h => by rw [weighQs]; exact ⟨by simp, fun q hq => by simp at hq⟩
  | q :: l, n, h => by
    rw [weighQs] at h ⊢
    split at h
    · rename_i hn
      rw [if_pos hn]
      obtain ⟨h1, h2⟩ := weighQs_full l _ h
      have hq : weighQ q n ≤ 20000 := by omega
      unfold weighQ at hq h1
      have h3 := weighSL_eq q.body _ hq
      have h4 := weighPa_len q.params (weighTs q.end_ (weighTs q.vars (weighT q.nm.size n))) (by omega)
      have h5 := weighTs_eq q.end_ _ (show weighTs q.end_ (weighTs q.vars (weighT q.nm.size n)) ≤ 20000 by omega)
      have h6 := weighTs_eq q.vars _ (show weighTs q.vars (weighT q.nm.size n) ≤ 20000 by omega)
      have h7 := weighT_eq (s := q.nm.size) (n := n) (by omega)
      refine ⟨by unfold weighQ; rw [List.length_cons]; omega, fun y hy => ?_⟩
      rcases List.mem_cons.1 hy with rfl | hy
      · exact ⟨by omega, by omega, by omega, by omega⟩
      · exact h2 y hy
    · omega
theorem fits_smG {p : Pg} (h : fitsP p = true) : SmG p := by
  unfold fitsP weighP at h
  have h0 := of_decide_eq_true h
  obtain ⟨h1, h2⟩ := weighQs_full p.procs _ h0
  have h3 := weighTs_eq p.globals 0 (by omega)
  exact ⟨by omega, by omega, fun q hq => by obtain ⟨a, b, c, d⟩ := h2 q hq; exact ⟨by omega, by omega, by omega, by omega⟩⟩
theorem szB_of {l : List S} (h : wSL l ≤ 1000000) : szB l := by
  refine ⟨by rw [preSL_siz]; have := sizSL_w l; omega, fun s hs => ?_⟩
  have h1 := preSL_w l s hs
  obtain ⟨id, kind, labels, nm, proc, x, has, args, th, el⟩ := s
  rw [wS] at h1
  refine ⟨?_, ?_⟩
  · have := sizE_w x; show sizE x ≤ _; omega
  · intro a ha
    have := wAr_mem (l := args) ha
    have := sizE_w a.x
    omega
theorem szQ_of {p : Pg} (h : SmG p) : szQ p.procs := fun q hq => szB_of (h.proc q hq).1
end Go.Proofs.Ytnnblklbjbkikaa
namespace Go.Proofs.Ytnnblklbjbkikaa
open Go.ChangeShapes Go.WideShapes Go.ChangeAt Go.RowKit Go.Deep
set_option linter.unusedVariables false
set_option linter.unusedSimpArgs false
set_option linter.unusedSectionVars false
section
variable {a b : ByteArray} (ha : a.size ≤ 8) (hb : b.size ≤ 8)
include ha hb
theorem oth_s8 (s : ByteArray) : (oth a b s).size ≤ s.size + 8 := by
  unfold oth
  split
  · omega
  · split
    · omega
    · omega
theorem wT_sw : ∀ l : List ByteArray, wT (l.map (oth a b)) ≤ 9 * wT l
  | [] => by rw [List.map_nil, wT]; omega
  | s :: l => by
    rw [List.map_cons, wT, wT]
    have h1 := oth_s8 ha hb s
    have h2 := wT_sw l
    omega
mutual
theorem wE_sw : ∀ e : E, wE (swE a b e) ≤ 9 * wE e
  | .mk op n nm ks => by
    rw [swE, wE, wE]
    have h1 := oth_s8 ha hb nm
    have h2 := wL_sw ks
    omega
theorem wL_sw : ∀ l : List E, wL (swL a b l) ≤ 9 * wL l
  | [] => by rw [swL, wL]; omega
  | k :: l => by
    rw [swL, wL, wL]
    have h1 := wE_sw k
    have h2 := wL_sw l
    omega
end
theorem wAr_sw : ∀ l : List Ar, wAr (l.map (swA a b)) ≤ 9 * wAr l
  | [] => by rw [List.map_nil, wAr]; omega
  | r :: l => by
    rw [List.map_cons, wAr, wAr]
    have h1 := oth_s8 ha hb r.nm
    have h2 := wE_sw ha hb r.x
    have h3 := wAr_sw l
    simp only [swA]
    omega
mutual
theorem wS_sw : ∀ s : S, wS (swS a b s) ≤ 9 * wS s
  | .mk id kind labels nm proc x has args th el => by
    rw [swS, wS, wS]
    have h1 := oth_s8 ha hb nm
    have h2 := oth_s8 ha hb proc
    have h3 := wE_sw ha hb x
    have h4 := wT_sw ha hb labels
    have h5 := wAr_sw ha hb args
    have h6 := wSL_sw th
    have h7 := wSL_sw el
    omega
theorem wSL_sw : ∀ l : List S, wSL (swSL a b l) ≤ 9 * wSL l
  | [] => by rw [swSL, wSL]; omega
  | s :: l => by
    rw [swSL, wSL, wSL]
    have h1 := wS_sw s
    have h2 := wSL_sw l
    omega
end
/-- what fits is not too great with names changed for each other -/
theorem fits_sw {p : Pg} (h : fitsP p = true) : SmG (swP a b p) := by
  unfold fitsP weighP at h
  have h0 := of_decide_eq_true h
  obtain ⟨h1, h2⟩ := weighQs_full p.procs _ h0
  have h3 := weighTs_eq p.globals 0 (by omega)
  have h4 := wT_sw ha hb p.globals
  refine ⟨by show wT (p.globals.map (oth a b)) ≤ _; omega, by show (p.procs.map (swQ a b)).length ≤ _; rw [List.length_map]; omega, fun q hq => ?_⟩
  obtain ⟨q0, hq0, rfl⟩ := List.mem_map.1 hq
  obtain ⟨k1, k2, k3, k4⟩ := h2 q0 hq0
  have l1 := wSL_sw ha hb q0.body
  have l2 := wT_sw ha hb q0.vars
  have l3 := wT_sw ha hb q0.end_
  exact ⟨by show wSL (swSL a b q0.body) ≤ _; omega, by show wT (q0.vars.map _) ≤ _; omega, by show wT (q0.end_.map _) ≤ _; omega, by show (q0.params.map _).length ≤ _; rw [List.length_map]; omega⟩
end
end Go.Proofs.Ytnnblklbjbkikaa
namespace Go.Proofs.Ytnnblklbjbkikaa
open Go.ChangeShapes Go.WideShapes Go.ChangeAt Go.RowKit Go.Deep
set_option linter.unusedVariables false
set_option linter.unusedSimpArgs false
theorem stmt_info : (Try.prog.info? 55).map (fun i => (i.zero, i.size, i.bytes)) = some (some (.agg zS), 13, 208) := by kernel_rfl
theorem stayS : Stays (fun w Q => StmtI w Q) := fun h hQ hc => h.keep hQ hc
section
variable {w w2 W wr : World} {Q Q2 : Nat → Prop} {base tb : Nat} {ct : Array Value} {outs : List S} {X : Option Addr} {n c : Nat}
end
def PutOk (l : List S) (W : World) (e : Ending) (w' : World) : Prop := ∃ v', e = .returned v' ∧ Below W.heap.size W w' ∧ StmtsI w' (nw W w') l v'
end Go.Proofs.Ytnnblklbjbkikaa
namespace Go.Proofs.Ytnnblklbjbkikaa
open Go.ChangeShapes Go.WideShapes Go.ChangeAt Go.RowKit Go.Deep
set_option linter.unusedVariables false
set_option linter.unusedSimpArgs false
theorem proc_info : (Try.prog.info? 62).map (fun i => (i.zero, i.size, i.bytes)) = some (some (.agg #[.string ⟨#[]⟩, .slice none 0 0, .slice none 0 0, .slice none 0 0, .slice none 0 0]), 5, 112) := by kernel_rfl
theorem par_info : (Try.prog.info? 65).map (fun i => (i.zero, i.size, i.bytes)) = some (some (.agg #[.string ⟨#[]⟩, .bool false]), 2, 24) := by kernel_rfl
theorem stayP : Stays (fun w Q => ProcI w Q) := fun h hQ hc => h.keep hQ hc
abbrev zR : Array Value := #[.string ⟨#[]⟩, .slice none 0 0, .slice none 0 0, .slice none 0 0, .slice none 0 0]
theorem set5_blk {w : World} {b : Nat} {e0 e1 e2 e3 e4 d0 d1 d2 d3 d4 : Value} (h : Blk w b 62 #[e0, e1, e2, e3, e4]) : Blk (World.setCell (World.setCell (World.setCell (World.setCell (World.setCell w ⟨b, 0, none⟩ (d0)) ⟨b, 1, none⟩ (d1)) ⟨b, 2, none⟩ (d2)) ⟨b, 3, none⟩ (d3)) ⟨b, 4, none⟩ (d4)) b 62 #[d0, d1, d2, d3, d4] := by
  have := (((((h.set_ 0 d0).set_ 1 d1).set_ 2 d2).set_ 3 d3).set_ 4 d4)
  simp only [List.setIfInBounds_toArray, List.set_cons_zero, List.set_cons_succ] at this
  exact this
theorem set5_cell {w : World} {b : Nat} {d0 d1 d2 d3 d4 : Value} {p : Addr} (h : p.block ≠ b) : (World.setCell (World.setCell (World.setCell (World.setCell (World.setCell w ⟨b, 0, none⟩ (d0)) ⟨b, 1, none⟩ (d1)) ⟨b, 2, none⟩ (d2)) ⟨b, 3, none⟩ (d3)) ⟨b, 4, none⟩ (d4)).cell? p = w.cell? p := by
  have hne : ∀ j, p ≠ ⟨b, j, none⟩ := fun j e => h (by rw [e])
  rw [cell_set_ne _ (hne _), cell_set_ne _ (hne _), cell_set_ne _ (hne _), cell_set_ne _ (hne _), cell_set_ne _ (hne _)]
theorem set5_size {w : World} {b : Nat} {d0 d1 d2 d3 d4 : Value} : (World.setCell (World.setCell (World.setCell (World.setCell (World.setCell w ⟨b, 0, none⟩ (d0)) ⟨b, 1, none⟩ (d1)) ⟨b, 2, none⟩ (d2)) ⟨b, 3, none⟩ (d3)) ⟨b, 4, none⟩ (d4)).heap.size = w.heap.size := by simp only [size_set]
theorem set5_below {B : Nat} {a w : World} {b : Nat} {d0 d1 d2 d3 d4 : Value} (h : Below B a w) (hb : B ≤ b) : Below B a (World.setCell (World.setCell (World.setCell (World.setCell (World.setCell w ⟨b, 0, none⟩ (d0)) ⟨b, 1, none⟩ (d1)) ⟨b, 2, none⟩ (d2)) ⟨b, 3, none⟩ (d3)) ⟨b, 4, none⟩ (d4)) := below_setc (below_setc (below_setc (below_setc (below_setc (h) hb _) hb _) hb _) hb _) hb _
/-- what the first statement of Put's round leaves -/
structure PtA (V W1 : World) (yb : Nat) (nm : ByteArray) (vars end_ : List ByteArray) (body : List S) (vv vb ve : Value) : Prop where
  blk : Blk W1 yb 62 #[.string nm, .slice none 0 0, vv, vb, ve]
  below : Below V.heap.size V W1
  le : V.heap.size ≤ yb
  vars : TextsI W1 (NV V W1 yb) vars vv
  ends : TextsI W1 (NV V W1 yb) end_ ve
  body : StmtsI W1 (NV V W1 yb) body vb
theorem ptA_of {V W1 U1 U2 U3 q1 q2 q3 : World} {yb : Nat} {nm : ByteArray} {vars end_ : List ByteArray} {body : List S} {vv vb ve : Value} (blk : Blk W1 yb 62 #[.string nm, .slice none 0 0, vv, vb, ve]) (below : Below V.heap.size V W1) (le : V.heap.size ≤ yb)
    (hz : q3.heap.size ≤ W1.heap.size) (hc : ∀ p : Addr, p.block < q3.heap.size → p.block ≠ yb → W1.cell? p = q3.cell? p) (h12 : Below q1.heap.size q1 q2) (h23 : Below q2.heap.size q2 q3) (l1 : V.heap.size ≤ U1.heap.size) (l2 : V.heap.size ≤ U2.heap.size) (l3 : V.heap.size ≤ U3.heap.size)
    (h1 : TextsI q1 (nw U1 q1) vars vv) (h2 : TextsI q2 (nw U2 q2) end_ ve) (h3 : StmtsI q3 (nw U3 q3) body vb) (y1 : yb < U1.heap.size ∨ q1.heap.size ≤ yb) (y2 : yb < U2.heap.size ∨ q2.heap.size ≤ yb) (y3 : yb < U3.heap.size ∨ q3.heap.size ≤ yb) : PtA V W1 yb nm vars end_ body vv vb ve := by
  have z12 := h12.size
  have z23 := h23.size
  refine ⟨blk, below, le, SliceI.keep h1 (fun j hj => ?_) (fun p hp => ?_) (fun _ _ _ h => h), SliceI.keep h2 (fun j hj => ?_) (fun p hp => ?_) (fun _ _ _ h => h), SliceI.keep h3 (fun j hj => ?_) (fun p hp => hc p hp.2 ?_) (fun s cs _ h => h.keep (fun j hj => ?_) (fun p hp => hc p hp.2 ?_))⟩
  · have := hj.1; have := hj.2; exact ⟨⟨by omega, by omega⟩, by omega⟩
  · have := hp.1; have := hp.2; rw [hc p (by omega) (by omega), h23.cell (by omega), h12.cell (by omega)]
  · have := hj.1; have := hj.2; exact ⟨⟨by omega, by omega⟩, by omega⟩
  · have := hp.1; have := hp.2; rw [hc p (by omega) (by omega), h23.cell (by omega)]
  · have := hj.1; have := hj.2; exact ⟨⟨by omega, by omega⟩, by omega⟩
  · have := hp.1; have := hp.2; omega
  · have := hj.1; have := hj.2; exact ⟨⟨by omega, by omega⟩, by omega⟩
  · have := hp.1; have := hp.2; omega
section
variable {w w2 W W1 wr : World} {Q Q2 : Nat → Prop} {tb rb qb : Nat} {ct : Array Value} {globals : List ByteArray} {vg : Value} {outs : List Pr} {X : Option Addr} {n c : Nat}
end
/-- what the second statement of Put's round leaves: the procedure's copy -/
structure PtB (wr wx : World) (yb : Nat) (q : Pr) (c0 c1 c2 c3 c4 : Value) : Prop where
  blk : Blk wx yb 62 #[c0, c1, c2, c3, c4]
  below : Below wr.heap.size wr wx
  proc : ProcI wx (fun j => wr.heap.size ≤ j ∧ j < wx.heap.size) q [c0, c1, c2, c3, c4]
end Go.Proofs.Ytnnblklbjbkikaa
namespace Go.Proofs.Ytnnblklbjbkikaa
open Go.ChangeShapes Go.WideShapes Go.ChangeAt Go.RowKit Go.Deep
set_option linter.unusedVariables false
set_option linter.unusedSimpArgs false
/-- what holds of a row of statements that is built by append -/
structure RoI (w : World) (Q : Nat → Prop) (W wr : World) (base : Nat) (outs : List S) (X : Option Addr) (n c : Nat) : Prop where
  row : BuildI wr base 55 13 (fun w Q => StmtI w Q) outs (.slice X n c)
  inn : In Q w wr
  size : base ≤ wr.heap.size
  below : Below W.heap.size W wr
section
variable {w W wr : World} {Q : Nat → Prop} {base : Nat} {outs : List S} {X : Option Addr} {n c : Nat}
theorem RoI.on (h : RoI w Q W wr base outs X n c) {w3 : World} (hb : Below wr.heap.size wr w3) : RoI w Q W w3 base outs X n c :=
  ⟨BuildI.below (R := fun w Q => StmtI w Q) stayS h.row hb, h.inn.on hb, Nat.le_trans h.size hb.size, h.below.trans (hb.mono h.below.size)⟩
theorem ro_step {w3 w4 : World} (h : RoI w Q W w3 base outs X n c) (hn : n = outs.length) (hW : W.heap.size ≤ base) (hQ : ∀ j, Q j → j < base) {B : Nat} (hB : base ≤ B) (hrB : ∀ j, (Value.slice X n c).ownBlock = some j → j < B)
    {x : S} {cs : List Value} (he : StmtI w3 (fun j => B ≤ j ∧ j < w3.heap.size) x cs) {rows : List (List Value)} (h1 : w3.ownsRow base 55 13 (.slice X n c) outs.length rows.flatten) (h2 : All2 (StmtI w3 (fun j => (base ≤ j ∧ j < w3.heap.size) ∧ (Value.slice X n c).ownBlock ≠ some j)) outs rows) {o : Obj} {v' : Value} (hown4 : w4.ownsRow base 55 13 v' (n + 1) (rows.flatten ++ cs)) (hgrow : (w3.alloc o).grownBy w4 (Value.slice X n c).ownBlock) (hat : (Value.slice X n c).ownBlock = v'.ownBlock ∨ v'.ownBlock = some (w3.alloc o).heap.size) :
    ∃ X' c', v' = .slice X' (n + 1) c' ∧ RoI w Q W w4 base (outs ++ [x]) X' (n + 1) c' := by
  have hm4 : Moves (fun j => (Value.slice X n c).ownBlock = some j) w3 w4 := ((Moves.refl _ w3).alloc o).trans (moves_grown hgrow) (fun j hj => .inr hj)
  have hno : ∀ j, j < base → ¬ (Value.slice X n c).ownBlock = some j := fun j hj e => by have := (h1.lt j e).1; omega
  have hbu : BuildI w4 base 55 13 (fun w Q => StmtI w Q) (outs ++ [x]) v' :=
    BuildI.push (R := fun w Q => StmtI w Q) stayS h1 h2 (x := x) (B := B) he hB hrB (n := n + 1) (by omega) rfl hown4 hgrow hat
  obtain ⟨X', c', rfl, _, _⟩ := own_form hown4
  exact ⟨X', c', rfl, hbu, h.inn.moves hm4 (fun j hj hq => hno j (hQ j hq) hj), Nat.le_trans h.size hm4.size, h.below.trans (hm4.below (by have := h.below.size; omega) (fun j hj => by have := (h1.lt j hj).1; omega))⟩
end
end Go.Proofs.Ytnnblklbjbkikaa
namespace Go.Proofs.Ytnnblklbjbkikaa
open Go.ChangeShapes Go.WideShapes Go.ChangeAt Go.RowKit Go.Deep
set_option linter.unusedVariables false
set_option linter.unusedSimpArgs false
/-- what holds of the copy of k arguments -/
structure CwI (w : World) (Q : Nat → Prop) (W V W1 wr : World) (b yb : Nat) (cx : Array Value) (id kind : Int) (labels : List ByteArray) (nm proc : ByteArray) (x : E) (has : Bool) (vl y0 y1 y2 y3 : Value) (args : List Ar) (k : Nat) (X : Option Addr) (c : Nat) : Prop where
  bx : Blk wr b 55 cx
  by_ : Blk wr yb 55 #[.int .i64 id, .int .i64 kind, vl, .string nm, .string proc, y0, y1, y2, y3, .bool has, .slice X k c, .slice none 0 0, .slice none 0 0]
  row : BuildI wr W1.heap.size 72 6 (fun w Q => ArgI w Q) (args.take k) (.slice X k c)
  inn : In Q w wr
  size : W1.heap.size ≤ wr.heap.size
  below : Below W.heap.size W wr
  lab : TextsI wr (NV V W1 yb) labels vl
  ex : ExprI wr (NV V W1 yb) x [y0, y1, y2, y3]
section
variable {w : World} {Q : Nat → Prop} {W V W1 wr : World} {b yb : Nat} {cx : Array Value} {id kind : Int} {labels : List ByteArray} {nm proc : ByteArray} {x : E} {has : Bool} {vl y0 y1 y2 y3 : Value} {args : List Ar} {k : Nat} {X : Option Addr} {c : Nat}
theorem CwI.on (h : CwI w Q W V W1 wr b yb cx id kind labels nm proc x has vl y0 y1 y2 y3 args k X c) {w3 : World} (hb : Below wr.heap.size wr w3) : CwI w Q W V W1 w3 b yb cx id kind labels nm proc x has vl y0 y1 y2 y3 args k X c :=
  ⟨h.bx.below hb h.bx.lt, h.by_.below hb h.by_.lt, BuildI.below (R := fun w Q => ArgI w Q) stayA h.row hb, h.inn.on hb, Nat.le_trans h.size hb.size, h.below.trans (hb.mono h.below.size),
    SliceI.keep h.lab (fun _ h => h) (fun p hp => hb.cell (Nat.lt_of_lt_of_le hp.1.2 h.size)) (fun _ _ _ h => h), h.ex.keep (fun _ h => h) (fun p hp => hb.cell (Nat.lt_of_lt_of_le hp.1.2 h.size))⟩
theorem cw_step {w3 w4 : World} (h : CwI w Q W V W1 w3 b yb cx id kind labels nm proc x has vl y0 y1 y2 y3 args k X c) (hk : k < args.length) (hyl : yb < W1.heap.size) (hby : b < yb) (hbW : W.heap.size ≤ b) (hQ : ∀ j, Q j → j < b) {B : Nat} (hB : W1.heap.size ≤ B) (hrB : ∀ j, (Value.slice X k c).ownBlock = some j → j < B)
    {cs : List Value} (he : ArgI w3 (fun j => B ≤ j ∧ j < w3.heap.size) args[k] cs) {rows : List (List Value)} (h1 : w3.ownsRow W1.heap.size 72 6 (.slice X k c) (args.take k).length rows.flatten) (h2 : All2 (ArgI w3 (fun j => (W1.heap.size ≤ j ∧ j < w3.heap.size) ∧ (Value.slice X k c).ownBlock ≠ some j)) (args.take k) rows) {o : Obj} {g cap5 : Nat} (hown4 : w4.ownsRow W1.heap.size 72 6 (.slice (some ⟨g, 0, none⟩) (k + 1) cap5) (k + 1) (rows.flatten ++ cs)) (hgrow : (w3.alloc o).grownBy w4 (Value.slice X k c).ownBlock) (hat : (Value.slice X k c).ownBlock = some g ∨ g = w3.heap.size + 1) :
    CwI w Q W V W1 (w4.setCell ⟨yb, 10, none⟩ (.slice (some ⟨g, 0, none⟩) (k + 1) cap5)) b yb cx id kind labels nm proc x has vl y0 y1 y2 y3 args (k + 1) (some ⟨g, 0, none⟩) cap5 := by
  have htk : (args.take k).length = k := by rw [List.length_take]; omega
  have hm4 : Moves (fun j => (Value.slice X k c).ownBlock = some j) w3 w4 := ((Moves.refl _ w3).alloc o).trans (moves_grown hgrow) (fun j hj => .inr hj)
  have hno : ∀ j, j < W1.heap.size → ¬ (Value.slice X k c).ownBlock = some j := fun j hj e => by have := (h1.lt j e).1; omega
  have k1 : Blk w4 b _ _ := hm4.blk h.bx (hno b (by omega))
  have k3 : Blk w4 yb _ _ := hm4.blk h.by_ (hno yb hyl)
  have hbu : BuildI w4 W1.heap.size 72 6 (fun w Q => ArgI w Q) (args.take k ++ [args[k]]) (.slice (some ⟨g, 0, none⟩) (k + 1) cap5) :=
    BuildI.push (R := fun w Q => ArgI w Q) stayA h1 h2 (x := args[k]) (B := B) he hB hrB (n := k + 1) (by omega) rfl hown4 hgrow (by rcases hat with h | h; exact .inl h; right; rw [h]; simp [Value.ownBlock])
  rw [← List.take_succ_eq_append_getElem hk] at hbu
  have hsz : w4.heap.size ≥ w3.heap.size := hm4.size
  refine ⟨k1.far (p := ⟨yb, 10, none⟩) (by show b ≠ yb; omega) _, k3.set_ 10 _, BuildI.set (R := fun w Q => ArgI w Q) stayA hbu (p := ⟨yb, 10, none⟩) hyl _, ?_, by simp only [size_set]; have := h.size; omega, ?_, ?_, ?_⟩
  · exact (h.inn.moves hm4 (fun j hj hq => by have := hQ j hq; exact hno j (by omega) hj)).setCell (fun hq => by have := hQ _ hq; simp only at this; omega) _
  · exact below_setc (h.below.trans (hm4.below (by have := h.below.size; omega) (fun j hj => by have := (h1.lt j hj).1; have := h.bx.lt; omega))) (by show W.heap.size ≤ yb; omega) _
  · exact SliceI.keep h.lab (fun _ h => h) (fun p hp => (cell_set_ne _ (fun e => hp.2 (by rw [e]))).trans (hm4.cell (Nat.lt_of_lt_of_le hp.1.2 h.size) (hno _ hp.1.2))) (fun _ _ _ h => h)
  · exact h.ex.keep (fun _ h => h) (fun p hp => (cell_set_ne _ (fun e => hp.2 (by rw [e]))).trans (hm4.cell (Nat.lt_of_lt_of_le hp.1.2 h.size) (hno _ hp.1.2)))
end
theorem oth_le {a b s : ByteArray} (ha : a.size ≤ 9223372036854775807) (hb : b.size ≤ 9223372036854775807) (hs : s.size ≤ 9223372036854775807) : (oth a b s).size ≤ 9223372036854775807 := by
  unfold oth; split; exact hb; split; exact ha; exact hs
theorem oths_le {a b : ByteArray} {l : List ByteArray} (ha : a.size ≤ 9223372036854775807) (hb : b.size ≤ 9223372036854775807) (hs : ∀ s ∈ l, s.size ≤ 9223372036854775807) : ∀ s ∈ l.map (oth a b), s.size ≤ 9223372036854775807 := by
  intro s h
  obtain ⟨t, ht, rfl⟩ := List.mem_map.1 h
  exact oth_le ha hb (hs t ht)
theorem SwapTexts_at {w W : World} {Q : Nat → Prop} {l : List ByteArray} {v : Value} (h : TextsI w Q l v) (hl : l.length ≤ 1000000) {a b : ByteArray} (ha : a.size ≤ 9223372036854775807) (hb : b.size ≤ 9223372036854775807) (hI : In Q w W) :
    Calls Try.prog 36 #[v, .string a, .string b] W fun e w' => ∃ v', e = .returned v' ∧ Below W.heap.size W w' ∧ TextsI w' (nw W w') (l.map (oth a b)) v' := by
  refine (SwapTexts_any h hl a b hI).mono ?_
  rintro e w' ⟨v', rfl, ho, hb1⟩
  exact ⟨v', rfl, hb1, (texts_of_own (oths_le ha hb (texts_small h)) ho).2⟩
end Go.Proofs.Ytnnblklbjbkikaa
