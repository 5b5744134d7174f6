/- Texts, merged by a program; only what is used. -/
import Derived.Deep.RegionHeld3
import Derived.Deep.AppendLies
import Derived.Test.YtnnblklbjbkikaaM1
import Derived.Test.YtnnblklbjbkikaaM2
import Derived.Test.YtnnblklbjbkikaaM3
import Derived.Test.YtnnblklbjbkikaaM4
import Derived.Test.YtnnblklbjbkikaaM5
import Derived.Test.YtnnblklbjbkikaaM6
import Derived.Test.YtnnblklbjbkikaaM7
import Derived.Test.YtnnblklbjbkikaaM8
import Derived.Test.YtnnblklbjbkikaaM9
import Derived.Test.YtnnblklbjbkikaaM10
import Derived.Test.YtnnblklbjbkikaaM11
import Derived.Test.YtnnblklbjbkikaaM12
import Derived.Test.YtnnblklbjbkikaaM13
import Derived.Test.YtnnblklbjbkikaaM15
import Derived.Test.YtnnblklbjbkikaaM20
namespace Go.Proofs.Ytnnblklbjbkikaa
open Go.ChangeShapes Go.WideShapes Go.ChangeAt Go.RowKit Go.Deep
set_option linter.unusedVariables false
set_option linter.unusedSimpArgs false
theorem expr_info : (Try.prog.info? 41).map (fun i => (i.zero, i.size, i.bytes)) = some (some (.agg #[.int .i64 0, .int .i64 0, .string ⟨#[]⟩, .slice none 0 0]), 4, 56) := by kernel_rfl
theorem stayE : Stays (fun w Q => ExprI w Q) := fun h hQ hc => h.keep hQ hc
theorem cell_new {w : World} {p : Addr} {v : Value} {o : Obj} (h : w.cell? p = some v) : (w.alloc o).cell? p = some v := ((below_box (W := w) o).cell (World.block_lt_of_cell? _ _ h)).trans h
theorem set_far {w : World} {a p : Addr} (h : p.block ≠ a.block) (u : Value) {v : Value} (hp : w.cell? p = some v) : (w.setCell a u).cell? p = some v := (World.cell?_setCell_other w a p u (fun e => h (by rw [e]))).trans hp
theorem BuildI.set {α : Type} {R : World → (Nat → Prop) → α → List Value → Prop} {w : World} {base C : Nat} {e : TypeId} {l : List α} {v : Value} (hR : Stays R) (h : BuildI w base e C R l v) {p : Addr} (hp : p.block < base) (u : Value) : BuildI (w.setCell p u) base e C R l v := by
  obtain ⟨rows, h1, h2⟩ := h
  refine ⟨rows, (setMoves w p u).row h1 (fun j hj e => by have := (h1.lt j hj).1; omega), h2.imp fun x cs h => hR h (fun b h => ⟨⟨h.1.1, by simp only [size_set]; exact h.1.2⟩, h.2⟩) (fun q hq => World.cell?_setCell_other w p q u (fun e => by have := hq.1.1; rw [e] at hp; omega))⟩
/-- what holds of the copy of k kids -/
structure CxI (w : World) (Q : Nat → Prop) (W W1 wr : World) (b rb yb : Nat) (cx cz : Array Value) (op n : Int) (nm : ByteArray) (ks : List E) (k : Nat) (X : Option Addr) (c : Nat) : Prop where
  bx : Blk wr b 41 cx
  br : Blk wr rb 41 cz
  by_ : Blk wr yb 41 #[.int .i64 op, .int .i64 n, .string nm, .slice X k c]
  row : BuildI wr W1.heap.size 41 4 (fun w Q => ExprI w Q) (ks.take k) (.slice X k c)
  inn : In Q w wr
  size : W1.heap.size ≤ wr.heap.size
  below : Below W.heap.size W wr
theorem cx_step {w : World} {Q : Nat → Prop} {W W1 wr w3 w4 : World} {b rb yb : Nat} {cx cz : Array Value} {op n : Int} {nm : ByteArray} {ks : List E} {k : Nat} {X : Option Addr} {c : Nat} (h : CxI w Q W W1 wr b rb yb cx cz op n nm ks k X c) (hk : k < ks.length) (hyl : yb < W1.heap.size) (hbW : W.heap.size ≤ b) (hb1 : b < rb) (hb2 : rb < yb) (hQ : ∀ j, Q j → j < b)
    (hb3 : Below wr.heap.size wr w3) {cs : List Value} (he3 : ExprI w3 (nw wr w3) ks[k] cs) {rows : List (List Value)} (h1 : w3.ownsRow W1.heap.size 41 4 (.slice X k c) (ks.take k).length rows.flatten) (h2 : All2 (ExprI w3 (fun j => (W1.heap.size ≤ j ∧ j < w3.heap.size) ∧ (Value.slice X k c).ownBlock ≠ some j)) (ks.take k) rows) {o : Obj} {g cap5 : Nat} (hown4 : w4.ownsRow W1.heap.size 41 4 (.slice (some ⟨g, 0, none⟩) (k + 1) cap5) (k + 1) (rows.flatten ++ cs)) (hgrow : (w3.alloc o).grownBy w4 (Value.slice X k c).ownBlock) (hat : (Value.slice X k c).ownBlock = some g ∨ g = w3.heap.size + 1) :
    CxI w Q W W1 (w4.setCell ⟨yb, 3, none⟩ (.slice (some ⟨g, 0, none⟩) (k + 1) cap5)) b rb yb cx cz op n nm ks (k + 1) (some ⟨g, 0, none⟩) cap5 := by
  have htk : (ks.take k).length = k := by rw [List.length_take]; omega
  have hm4 : Moves (fun j => (Value.slice X k c).ownBlock = some j) w3 w4 := ((Moves.refl _ w3).alloc o).trans (moves_grown hgrow) (fun j hj => .inr hj)
  have hno : ∀ j, j < W1.heap.size → ¬ (Value.slice X k c).ownBlock = some j := fun j hj e => by have := (h1.lt j e).1; omega
  have hyb := h.by_.lt
  have k1 : Blk w4 b _ _ := hm4.blk (h.bx.below hb3 h.bx.lt) (hno b (by omega))
  have k2 : Blk w4 rb _ _ := hm4.blk (h.br.below hb3 h.br.lt) (hno rb (by omega))
  have k3 : Blk w4 yb _ _ := hm4.blk (h.by_.below hb3 h.by_.lt) (hno yb hyl)
  have hbu : BuildI w4 W1.heap.size 41 4 (fun w Q => ExprI w Q) (ks.take k ++ [ks[k]]) (.slice (some ⟨g, 0, none⟩) (k + 1) cap5) :=
    BuildI.push (R := fun w Q => ExprI w Q) stayE h1 h2 (x := ks[k]) (B := wr.heap.size) he3 h.size (fun j hj => by
      obtain ⟨_, r1, _⟩ := h.row
      exact (r1.lt j hj).2) (n := k + 1) (by omega) rfl hown4 hgrow (by rcases hat with h | h; exact .inl h; right; rw [h]; simp [Value.ownBlock])
  rw [← List.take_succ_eq_append_getElem hk] at hbu
  have hsz : w4.heap.size ≥ w3.heap.size := hm4.size
  have h3z := hb3.size
  refine ⟨k1.far (p := ⟨yb, 3, none⟩) (by show b ≠ yb; omega) _, k2.far (p := ⟨yb, 3, none⟩) (by show rb ≠ yb; omega) _, k3.set_ 3 _, BuildI.set (R := fun w Q => ExprI w Q) stayE hbu (p := ⟨yb, 3, none⟩) hyl _, ?_, by simp only [size_set]; have := h.size; omega, ?_⟩
  · exact ((h.inn.on hb3).moves hm4 (fun j hj hq => by have := hQ j hq; exact hno j (by omega) hj)).setCell (fun hq => by have := hQ _ hq; simp only at this; omega) _
  · exact below_setc ((h.below.trans (hb3.mono h.below.size)).trans (hm4.below (by have := h.below.size; omega) (fun j hj => by have := (h1.lt j hj).1; have := h.bx.lt; omega))) (by show W.heap.size ≤ yb; omega) _
end Go.Proofs.Ytnnblklbjbkikaa
namespace Go.Proofs.Ytnnblklbjbkikaa
open Go.ChangeShapes Go.WideShapes Go.ChangeAt Go.RowKit Go.Deep
set_option linter.unusedVariables false
end Go.Proofs.Ytnnblklbjbkikaa
namespace Go.Proofs.Ytnnblklbjbkikaa
open Go.ChangeShapes Go.WideShapes Go.ChangeAt Go.RowKit Go.Deep
set_option linter.unusedVariables false
set_option linter.unusedSimpArgs false
theorem texts_small {w : World} {Q : Nat → Prop} {l : List ByteArray} {v : Value} (h : TextsI w Q l v) : ∀ s ∈ l, s.size ≤ 9223372036854775807 := by
  obtain ⟨A, cap, css, _, _, _, h4⟩ := h
  intro s hs
  obtain ⟨i, hi, rfl⟩ := List.getElem_of_mem hs
  exact (h4 i hi).2
/-- new blocks but one -/
abbrev NV (V W : World) (yb : Nat) : Nat → Prop := fun j => (V.heap.size ≤ j ∧ j < W.heap.size) ∧ j ≠ yb
theorem arg_info : (Try.prog.info? 72).map (fun i => (i.zero, i.size, i.bytes)) = some (some (.agg #[.bool false, .string ⟨#[]⟩, .int .i64 0, .int .i64 0, .string ⟨#[]⟩, .slice none 0 0]), 6, 80) := by kernel_rfl
theorem stayA : Stays (fun w Q => ArgI w Q) := fun h hQ hc => h.keep hQ hc
/-- what the first statement of copyOne leaves -/
structure CoA (V W1 : World) (yb : Nat) (id kind : Int) (labels : List ByteArray) (nm proc : ByteArray) (x : E) (has : Bool) (vl y0 y1 y2 y3 : Value) : Prop where
  blk : Blk W1 yb 55 #[.int .i64 id, .int .i64 kind, vl, .string nm, .string proc, y0, y1, y2, y3, .bool has, .slice none 0 0, .slice none 0 0, .slice none 0 0]
  below : Below V.heap.size V W1
  le : V.heap.size ≤ yb
  lab : TextsI W1 (NV V W1 yb) labels vl
  ex : ExprI W1 (NV V W1 yb) x [y0, y1, y2, y3]
theorem coA_alloc {V U q1 q2 : World} {id kind : Int} {labels : List ByteArray} {nm proc : ByteArray} {x : E} {has : Bool} {vl y0 y1 y2 y3 : Value} (hb1 : Below V.heap.size V q1) (hU : V.heap.size ≤ U.heap.size) (ht : TextsI q1 (nw U q1) labels vl) (hb2 : Below q1.heap.size q1 q2) (hx : ExprI q2 (nw q1 q2) x [y0, y1, y2, y3]) :
    CoA V (q2.alloc (.cells #[.int .i64 id, .int .i64 kind, vl, .string nm, .string proc, y0, y1, y2, y3, .bool has, .slice none 0 0, .slice none 0 0, .slice none 0 0] 55)) q2.heap.size id kind labels nm proc x has vl y0 y1 y2 y3 := by
  have hz := hb2.size
  have hz1 := hb1.size
  refine ⟨Blk.new _ _ _, below_stepA (below_step hb1 hb2) _, Nat.le_trans hz1 hz, SliceI.keep ht (fun j hj => ⟨⟨Nat.le_trans hU hj.1, ?_⟩, ?_⟩) (fun p hp => ?_) (fun _ _ _ h => h), hx.keep (fun j hj => ⟨⟨Nat.le_trans hz1 hj.1, ?_⟩, ?_⟩) (fun p hp => (below_box _).cell hp.2)⟩
  · rw [World.size_alloc]; have := hj.2; omega
  · have := hj.2; omega
  · rw [(below_box (W := q2) _).cell (Nat.lt_of_lt_of_le hp.2 hz)]; exact hb2.cell hp.2
  · rw [World.size_alloc]; have := hj.2; omega
  · have := hj.2; omega
theorem coA_set {V U q1 U2 q2 : World} {yb : Nat} {id kind : Int} {labels : List ByteArray} {nm proc : ByteArray} {x : E} {has : Bool} {vl y0 y1 y2 y3 : Value} (z : Blk q2 yb 55 zS) (hb : Below V.heap.size V q2) (ho : V.heap.size ≤ yb) (hU : V.heap.size ≤ U.heap.size) (ht : TextsI q1 (nw U q1) labels vl) (hb2 : Below q1.heap.size q1 q2) (hn1 : yb < U.heap.size ∨ q1.heap.size ≤ yb) (hU2 : V.heap.size ≤ U2.heap.size) (hx : ExprI q2 (nw U2 q2) x [y0, y1, y2, y3]) (hn2 : yb < U2.heap.size) :
    CoA V (World.setCell (World.setCell (World.setCell (World.setCell (World.setCell (World.setCell (World.setCell (World.setCell (World.setCell (World.setCell (World.setCell (World.setCell (World.setCell q2 ⟨yb, 0, none⟩ (.int .i64 id)) ⟨yb, 1, none⟩ (.int .i64 kind)) ⟨yb, 2, none⟩ (vl)) ⟨yb, 3, none⟩ (.string nm)) ⟨yb, 4, none⟩ (.string proc)) ⟨yb, 5, none⟩ (y0)) ⟨yb, 6, none⟩ (y1)) ⟨yb, 7, none⟩ (y2)) ⟨yb, 8, none⟩ (y3)) ⟨yb, 9, none⟩ (.bool has)) ⟨yb, 10, none⟩ (.slice none 0 0)) ⟨yb, 11, none⟩ (.slice none 0 0)) ⟨yb, 12, none⟩ (.slice none 0 0)) yb id kind labels nm proc x has vl y0 y1 y2 y3 := by
  have hz := hb2.size
  refine ⟨set13_blk z, set13_below hb ho, ho, SliceI.keep ht (fun j hj => ⟨⟨Nat.le_trans hU hj.1, ?_⟩, ?_⟩) (fun p hp => ?_) (fun _ _ _ h => h), hx.keep (fun j hj => ⟨⟨Nat.le_trans hU2 hj.1, ?_⟩, ?_⟩) (fun p hp => set13_cell ?_)⟩
  · rw [set13_size]; have := hj.2; omega
  · have := hj.1; have := hj.2; omega
  · rw [set13_cell (by have := hp.1; have := hp.2; omega)]; exact hb2.cell hp.2
  · rw [set13_size]; exact hj.2
  · have := hj.1; omega
  · have := hp.1; omega
section
variable {w : World} {Q : Nat → Prop} {W V W1 wr : World} {b rb yb : Nat} {cx : Array Value} {id kind : Int} {labels : List ByteArray} {nm proc : ByteArray} {x : E} {has : Bool} {vl y0 y1 y2 y3 : Value} {args : List Ar} {k : Nat} {X : Option Addr} {c : Nat}
end
theorem ss_of {V U : World} {b : Nat} {v0 v1 v2 v3 v4 v5 v6 v7 v8 v9 : Value} (h : Below V.heap.size V U) (hk : b < V.heap.size ∧ V.cell? ⟨b, 0, none⟩ = some v0 ∧ V.cell? ⟨b, 1, none⟩ = some v1 ∧ V.cell? ⟨b, 2, none⟩ = some v2 ∧ V.cell? ⟨b, 3, none⟩ = some v3 ∧ V.cell? ⟨b, 4, none⟩ = some v4 ∧ V.cell? ⟨b, 5, none⟩ = some v5 ∧ V.cell? ⟨b, 6, none⟩ = some v6 ∧ V.cell? ⟨b, 7, none⟩ = some v7 ∧ V.cell? ⟨b, 8, none⟩ = some v8 ∧ V.cell? ⟨b, 9, none⟩ = some v9) :
    U.cell? ⟨b, 0, none⟩ = some v0 ∧ U.cell? ⟨b, 1, none⟩ = some v1 ∧ U.cell? ⟨b, 2, none⟩ = some v2 ∧ U.cell? ⟨b, 3, none⟩ = some v3 ∧ U.cell? ⟨b, 4, none⟩ = some v4 ∧ U.cell? ⟨b, 5, none⟩ = some v5 ∧ U.cell? ⟨b, 6, none⟩ = some v6 ∧ U.cell? ⟨b, 7, none⟩ = some v7 ∧ U.cell? ⟨b, 8, none⟩ = some v8 ∧ U.cell? ⟨b, 9, none⟩ = some v9 ∧ Below V.heap.size V U := by
  obtain ⟨h0, hk⟩ := hk
  have e : ∀ j, U.cell? ⟨b, j, none⟩ = V.cell? ⟨b, j, none⟩ := fun j => h.cell (p := ⟨b, j, none⟩) h0
  rw [e 0, e 1, e 2, e 3, e 4, e 5, e 6, e 7, e 8, e 9]
  obtain ⟨k0, k1, k2, k3, k4, k5, k6, k7, k8, k9⟩ := hk
  exact ⟨k0, k1, k2, k3, k4, k5, k6, k7, k8, k9, h⟩
end Go.Proofs.Ytnnblklbjbkikaa
namespace Go.Proofs.Ytnnblklbjbkikaa
open Go.ChangeShapes Go.WideShapes Go.ChangeAt Go.RowKit Go.Deep
set_option linter.unusedVariables false
set_option linter.unusedSimpArgs false
mutual
def swE (sa sb : ByteArray) : E → E
  | .mk op n nm ks => .mk op n (oth sa sb nm) (swL sa sb ks)
def swL (sa sb : ByteArray) : List E → List E
  | [] => []
  | k :: ks => swE sa sb k :: swL sa sb ks
end
theorem swL_len (sa sb : ByteArray) : ∀ ks : List E, (swL sa sb ks).length = ks.length
  | [] => rfl
  | k :: ks => by rw [swL, List.length_cons, List.length_cons, swL_len sa sb ks]
theorem swL_at (sa sb : ByteArray) : ∀ (ks : List E) (k : Nat) (h : k < (swL sa sb ks).length) (h' : k < ks.length), (swL sa sb ks)[k] = swE sa sb ks[k]
  | [], k, h, h' => absurd h' (by simp)
  | x :: ks, 0, h, h' => rfl
  | x :: ks, k + 1, h, h' => by
    have := swL_at sa sb ks k (by simpa [swL] using h) (by simpa using h')
    simpa [swL] using this
set_option maxHeartbeats 8000000 in
set_option maxRecDepth 100000 in
theorem SwapExpr_any (sa sb : ByteArray) {w : World} {Q : Nat → Prop} {e : E} {cs : List Value} (h : ExprI w Q e cs) : ∀ (c0 c1 c2 c3 : Value), cs = [c0, c1, c2, c3] → ∀ (W : World), In Q w W → wE e ≤ 1000000 → sa.size ≤ 9223372036854775807 → sb.size ≤ 9223372036854775807 →
    Calls Try.prog 110 #[.agg #[c0, c1, c2, c3], .string sa, .string sb] W fun e' w' => ∃ d0 d1 d2 d3, e' = .returned (.agg #[d0, d1, d2, d3]) ∧ Below W.heap.size W w' ∧ ExprI w' (nw W w') (swE sa sb e) [d0, d1, d2, d3] := by
  induction h with
  | @mk op n nm ks A cap css hop hn hnm hcap hA hk ih =>
    intro c0 c1 c2 c3 hcs W hI hw hsa hsb
    simp only [List.cons.injEq, and_true] at hcs
    obtain ⟨rfl, rfl, rfl, rfl⟩ := hcs
    rw [wE] at hw
    have hkl : ks.length ≤ 1000000 := Nat.le_trans (wL_len ks) (by omega)
    have HWm : Hid (∀ k (h : k < ks.length), wE ks[k] ≤ 1000000) := Lib.hid (fun k h => Nat.le_trans (wL_mem (List.getElem_mem h)) (by omega))
    have HA := Lib.hid hA
    have HK := Lib.hid hk
    have IH := Lib.hid @ih
    have HI := Lib.hid hI
    have HSab := Lib.hid (And.intro hsa hsb)
    have HOt := Lib.hid (fun V => other_any nm sa sb V)
    have hnz : (oth sa sb nm).size ≤ 9223372036854775807 := by unfold oth; split; exact hsb; split; exact hsa; exact hnm
    have HSw : Hid (swE sa sb (.mk op n nm ks) = .mk op n (oth sa sb nm) (swL sa sb ks)) := Lib.hid rfl
    rw [HSw.out]
    obtain ⟨kz, hkz⟩ : ∃ kz, kz = swL sa sb ks := ⟨_, rfl⟩
    have HKl : Hid (kz.length = ks.length) := Lib.hid (by rw [hkz, swL_len])
    have HKa : Hid (∀ k (h : k < kz.length) (h' : k < ks.length), kz[k] = swE sa sb ks[k]) := Lib.hid (by subst hkz; exact swL_at sa sb ks)
    rw [← hkz]
    generalize oth sa sb nm = nz at HOt hnz ⊢
    clear hA hk ih hI hsa hsb hkz HSw
    obtain ⟨i0, hi0, hz0, hz1, hz2⟩ := info_parts expr_info
    go_enter Try.func110, Try.ntmps110
    go_upto_region 1 with fail
    have HBx0 : Hid (Blk ((W.alloc (.cells #[.int .i64 op, .int .i64 n, .string nm, .slice A ks.length cap] 41)).alloc (.cells #[.int .i64 0, .int .i64 0, .string ⟨#[]⟩, .slice none 0 0] 41)) W.heap.size 41 #[.int .i64 op, .int .i64 n, .string nm, .slice A ks.length cap]) := Lib.hid ((Blk.new _ _ _).alloc _)
    have HBr0 : Hid (Blk ((W.alloc (.cells #[.int .i64 op, .int .i64 n, .string nm, .slice A ks.length cap] 41)).alloc (.cells #[.int .i64 0, .int .i64 0, .string ⟨#[]⟩, .slice none 0 0] 41)) (W.heap.size + 1) 41 #[.int .i64 0, .int .i64 0, .string ⟨#[]⟩, .slice none 0 0]) := Lib.hid (blk22 _ _ _ _)
    have HB00 : Hid (Below W.heap.size W ((W.alloc (.cells #[.int .i64 op, .int .i64 n, .string nm, .slice A ks.length cap] 41)).alloc (.cells #[.int .i64 0, .int .i64 0, .string ⟨#[]⟩, .slice none 0 0] 41))) := Lib.hid (below_two _ _)
    have hs2 : (((W.alloc (.cells #[.int .i64 op, .int .i64 n, .string nm, .slice A ks.length cap] 41)).alloc (.cells #[.int .i64 0, .int .i64 0, .string ⟨#[]⟩, .slice none 0 0] 41))).heap.size = W.heap.size + 1 + 1 := by simp
    generalize World.alloc _ _ = V at HBx0 HBr0 HB00 hs2 ⊢
    have HIV := Lib.hid (HI.out.on HB00.out)
    have x0 : V.cell? ⟨W.heap.size, 0, none⟩ = some (.int .i64 op) := by rw [HBx0.out.cell]; rfl
    have x1 : V.cell? ⟨W.heap.size, 1, none⟩ = some (.int .i64 n) := by rw [HBx0.out.cell]; rfl
    have x2 : V.cell? ⟨W.heap.size, 2, none⟩ = some (.string nm) := by rw [HBx0.out.cell]; rfl
    have hvl := HBx0.out.lt
    go_cut [7] from 9 to 18 (fun s wx => s = .pointer (some ⟨W.heap.size + 1 + 1, 0, none⟩) ∧ Hid (Below V.heap.size V wx) ∧ Hid (Blk wx (W.heap.size + 1 + 1) 41 #[.int .i64 op, .int .i64 n, .string nz, .slice none 0 0]))
    case first =>
      have HB1_ : Hid (Below V.heap.size V (V.alloc (.cells #[.int .i64 op, .int .i64 n, .string nz, .slice none 0 0] 41)).drew) := Lib.hid (below_box _).drew
      have HBl_ : Hid (Blk (V.alloc (.cells #[.int .i64 op, .int .i64 n, .string nz, .slice none 0 0] 41)).drew (W.heap.size + 1 + 1) 41 #[.int .i64 op, .int .i64 n, .string nz, .slice none 0 0]) := Lib.hid (by have h : Blk (V.alloc (.cells #[.int .i64 op, .int .i64 n, .string nz, .slice none 0 0] 41)).drew V.heap.size 41 #[.int .i64 op, .int .i64 n, .string nz, .slice none 0 0] := Blk.new V 41 #[.int .i64 op, .int .i64 n, .string nz, .slice none 0 0]; rw [hs2] at h; exact h)
      go_region_held3 (fun w' : World => w'.cell? ⟨W.heap.size, 0, none⟩ = some (.int .i64 op) ∧ w'.cell? ⟨W.heap.size, 1, none⟩ = some (.int .i64 n) ∧ w'.cell? ⟨W.heap.size, 2, none⟩ = some (.string nm))
        (go_keep)
        ((go_at_call 65; refine (HOt.out _).mono ?_; rintro e w' ⟨rfl, rfl⟩))
      all_goals
        go_wp2_with fail
        go_meet
        exact ⟨rfl, HB1_, HBl_⟩
    case rest =>
    obtain ⟨rfl, HCb, HBy⟩ := hcut
    have HBx := Lib.hid (HBx0.out.below HCb.out HBx0.out.lt)
    have HBr := Lib.hid (HBr0.out.below HCb.out HBr0.out.lt)
    have HB0 := Lib.hid (below_step HB00.out HCb.out)
    clear x0 x1 x2 hvl HBx0 HBr0 HB00 HIV HCb hs2 HOt
    generalize wc = W1 at *
    have hhx : W1.cell? ⟨W.heap.size, 3, none⟩ = some (.slice A ks.length cap) := by rw [HBx.out.cell]; rfl
    go_upto_region 3 with fail
    clear hhx
    have hxl := HBx.out.lt
    have hrl := HBr.out.lt
    have hyl := HBy.out.lt
    generalize hb : W.heap.size = b at HBx HBr HBy hxl hrl hyl ⊢
    have hb1 : b < b + 1 := by omega
    have hbW : W.heap.size ≤ b := by omega
    have HI1 := Lib.hid (HI.out.on HB0.out)
    have HQb : Hid (∀ j, Q j → j < b) := Lib.hid (fun j hj => by rw [← hb]; exact HI.out.1 j hj)
    clear hb
    generalize hrb : b + 1 = rb at HBr HBy hrl hyl hb1 ⊢
    have hyr : rb + 1 = rb + 1 := rfl
    generalize hyb : rb + 1 = yb at HBy hyl ⊢
    have hyb1 : rb < yb := by omega
    clear hrb hyb hyr HI
    go_loopw [22] (fun i wr => ∃ (k : Nat) (X : Option Addr) (cx : Nat), k ≤ ks.length ∧ i = .int .i64 k ∧ Hid (CxI w Q W W1 wr b rb yb #[.int .i64 op, .int .i64 n, .string nm, .slice A ks.length cap] #[.int .i64 0, .int .i64 0, .string ⟨#[]⟩, .slice none 0 0] op n nz kz k X cx)) (fun i _ => ks.length - (intOf i).toNat)
    case atStart => exact ⟨0, none, 0, Nat.zero_le _, rfl, Lib.hid ⟨HBx.out, HBr.out, HBy.out, BuildI.nil _ _ _ _ _, HI1.out, Nat.le_refl _, HB0.out⟩⟩
    case round =>
      obtain ⟨k, X, cx, hk, rfl, HX⟩ := hrel
      have HBx2 := Lib.hid HX.out.bx
      have HBr2 := Lib.hid HX.out.br
      have HBy2 := Lib.hid HX.out.by_
      have HIr := Lib.hid HX.out.inn
      have hzw := HX.out.size
      obtain ⟨rows, hO, hAl⟩ := HX.out.row
      have HO := Lib.hid hO
      have HAl := Lib.hid hAl
      clear hO hAl
      have hkzl := HKl.out
      have htk : (kz.take k).length = k := by rw [List.length_take]; omega
      by_cases hlt : k < ks.length
      · obtain ⟨a, o1, n1, s1, A1, l1, k1, rfl, hd, p0, p1, p2, p3⟩ := kid_at HA.out HK.out HIr.out hlt
        have hltz : k < kz.length := by omega
        have HC := Lib.hid (fun V h1 => IH.out k hlt _ _ _ _ hd V h1 (HWm.out k hlt) HSab.out.1 HSab.out.2)
        rw [← HKa.out k hltz hlt] at HC
        have x3 : wr.cell? ⟨b, 3, none⟩ = some (.slice (some a) ks.length cap) := by rw [HBx2.out.cell]; rfl
        have y3 : wr.cell? ⟨yb, 3, none⟩ = some (.slice X k cx) := by rw [HBy2.out.cell]; rfl
        have hbl := HBx2.out.lt
        have hbly := HBy2.out.lt
        have hab : (a.add (k * 4)).block < wr.heap.size := World.block_lt_of_cell? _ _ p0
        have hdr : ∀ {Q : Nat → Prop} {w V : World}, In Q w V → In Q w V.drew := fun h => h
        clear hd
        have hab2 : (a.add (k * 4)).block < W1.heap.size := by
          obtain ⟨a', ha', hq', _⟩ := HA.out (by omega)
          injection ha' with ha'
          subst ha'
          rw [block_add]
          exact HI1.out.1 _ hq'
        have hba : (a.add (k * 4)).block ≠ yb := by
          obtain ⟨a', ha', hq', _⟩ := HA.out (by omega)
          injection ha' with ha'
          subst ha'
          rw [block_add]
          have := HQb.out _ hq'
          omega
        have hne : b ≠ yb := by omega
        have f3 := HBy2.out.frozen 3
        have HOn : Hid (∀ j, j < W1.heap.size → ¬ (Value.slice X k cx).ownBlock = some j) := Lib.hid (fun j hj h => by have := (HO.out.lt j h).1; omega)
        have HO2 : Hid (wr.ownsRow W1.heap.size 41 4 (.slice X k cx) k rows.flatten) := Lib.hid (by have := HO.out; rw [htk] at this; exact this)
        go_upto_region 5 with fail
        refine wp_region_last (fun w' : World => w'.cell? ⟨yb, 3, none⟩ = some (.slice X k cx) ∧ w'.cell? ⟨b, 3, none⟩ = some (.slice (some a) ks.length cap) ∧ w'.cell? (a.add (k * 4)) = some (.int .i64 o1) ∧ w'.cell? ⟨(a.add (k * 4)).block, (a.add (k * 4)).off + 1, none⟩ = some (.int .i64 n1) ∧ w'.cell? ⟨(a.add (k * 4)).block, (a.add (k * 4)).off + 2, none⟩ = some (.string s1) ∧ w'.cell? ⟨(a.add (k * 4)).block, (a.add (k * 4)).off + 3, none⟩ = some (.slice A1 l1 k1)) 13 (by kernel_rfl) ?_
        have hS0 : (fun w' : World => w'.cell? ⟨yb, 3, none⟩ = some (.slice X k cx) ∧ w'.cell? ⟨b, 3, none⟩ = some (.slice (some a) ks.length cap) ∧ w'.cell? (a.add (k * 4)) = some (.int .i64 o1) ∧ w'.cell? ⟨(a.add (k * 4)).block, (a.add (k * 4)).off + 1, none⟩ = some (.int .i64 n1) ∧ w'.cell? ⟨(a.add (k * 4)).block, (a.add (k * 4)).off + 2, none⟩ = some (.string s1) ∧ w'.cell? ⟨(a.add (k * 4)).block, (a.add (k * 4)).off + 3, none⟩ = some (.slice A1 l1 k1)) wr.drew := ⟨y3, x3, p0, p1, p2, p3⟩
        change wpAnyL _ _ _ _ _ _ 14 _ _ wr.drew
        refine wpAnyL_take (i := 0) (v := ?_) rfl (by kernel_rfl) (by decide) (by kernel_rfl) (by kernel_rfl) (by kernel_rfl) (fun _ _ _ h => h) (Or.inl ⟨by rfl, ?_⟩) (by assumption) ?_
        rotate_left
        · intro w hSw
          (try dsimp only at hSw)
          go_split_ands
          go_simp
          (try (with_reducible rfl))
        (try simp only [Act.put, List.setIfInBounds_toArray, List.set_cons_zero, List.set_cons_succ])
        refine wpAnyL_take (i := 1) (v := ?_) rfl (by kernel_rfl) (by decide) (by kernel_rfl) (by kernel_rfl) (by kernel_rfl) (fun _ _ _ h => h) (Or.inl ⟨by rfl, ?_⟩) (by assumption) ?_
        rotate_left
        · intro w hSw
          (try dsimp only at hSw)
          go_split_ands
          go_simp
          (try (with_reducible rfl))
        (try simp only [Act.put, List.setIfInBounds_toArray, List.set_cons_zero, List.set_cons_succ])
        refine wpAnyL_take (i := 2) (v := ?_) rfl (by kernel_rfl) (by decide) (by kernel_rfl) (by kernel_rfl) (by kernel_rfl) (fun _ _ _ h => h) (Or.inl ⟨by rfl, ?_⟩) (by assumption) ?_
        rotate_left
        · intro w hSw
          (try dsimp only at hSw)
          go_split_ands
          go_simp
          (try (with_reducible rfl))
        (try simp only [Act.put, List.setIfInBounds_toArray, List.set_cons_zero, List.set_cons_succ])
        refine wpAnyL_take (i := 3) (v := ?_) rfl (by kernel_rfl) (by decide) (by kernel_rfl) (by kernel_rfl) (by kernel_rfl) (fun _ _ _ h => h) (Or.inl ⟨by rfl, ?_⟩) (by assumption) ?_
        rotate_left
        · intro w hSw
          (try dsimp only at hSw)
          go_split_ands
          go_simp
          (try (with_reducible rfl))
        (try simp only [Act.put, List.setIfInBounds_toArray, List.set_cons_zero, List.set_cons_succ])
        refine wpAnyL_take (i := 4) (v := ?_) rfl (by kernel_rfl) (by decide) (by kernel_rfl) (by kernel_rfl) (by kernel_rfl) (fun _ _ _ h => h) (Or.inl ⟨by rfl, ?_⟩) (by assumption) ?_
        rotate_left
        · intro w hSw
          (try dsimp only at hSw)
          go_split_ands
          go_simp
          (try (with_reducible rfl))
        (try simp only [Act.put, List.setIfInBounds_toArray, List.set_cons_zero, List.set_cons_succ])
        refine wpAnyL_take (i := 5) (v := ?_) rfl (by kernel_rfl) (by decide) (by kernel_rfl) (by kernel_rfl) (by kernel_rfl) (fun _ _ _ h => h) (Or.inl ⟨by rfl, ?_⟩) (by assumption) ?_
        rotate_left
        · intro w hSw
          (try dsimp only at hSw)
          go_split_ands
          go_simp
          (try (with_reducible rfl))
        (try simp only [Act.put, List.setIfInBounds_toArray, List.set_cons_zero, List.set_cons_succ])
        refine wpAnyL_take (i := 6) (v := ?_) rfl (by kernel_rfl) (by decide) (by kernel_rfl) (by kernel_rfl) (by kernel_rfl) (fun _ _ _ h => h) (Or.inl ⟨by rfl, ?_⟩) (by assumption) ?_
        rotate_left
        · intro w hSw
          (try dsimp only at hSw)
          go_split_ands
          go_simp
          (try (with_reducible rfl))
        (try simp only [Act.put, List.setIfInBounds_toArray, List.set_cons_zero, List.set_cons_succ])
        refine wpAnyL_take (i := 7) (v := ?_) rfl (by kernel_rfl) (by decide) (by kernel_rfl) (by kernel_rfl) (by kernel_rfl) (fun _ _ _ h => h) (Or.inl ⟨by rfl, ?_⟩) (by assumption) ?_
        rotate_left
        · intro w hSw
          (try dsimp only at hSw)
          go_split_ands
          go_simp
          (try (with_reducible rfl))
        (try simp only [Act.put, List.setIfInBounds_toArray, List.set_cons_zero, List.set_cons_succ])
        refine wpAnyL_take (i := 8) (v := ?_) rfl (by kernel_rfl) (by decide) (by kernel_rfl) (by kernel_rfl) (by kernel_rfl) (fun _ _ _ h => h) (Or.inl ⟨by rfl, ?_⟩) (by assumption) ?_
        rotate_left
        · intro w hSw
          (try dsimp only at hSw)
          go_split_ands
          go_simp
          (try (with_reducible rfl))
        (try simp only [Act.put, List.setIfInBounds_toArray, List.set_cons_zero, List.set_cons_succ])
        refine wpAnyL_step (i := 9) (by kernel_rfl) rfl (fun K hK => ?_)
        go_simp
        refine (HC.out _ (hdr HIr.out)).mono ?_
        rintro e' w3 ⟨d0, d1, d2, d3, rfl, hb3, he3⟩
        have hb3' : Below wr.heap.size wr w3 := (show Below wr.heap.size wr wr.drew from (Below.refl _ _).drew).trans hb3
        obtain ⟨g0, g1, g2, g3, m3, n3, hg⟩ := he3.form
        (simp only [List.cons.injEq, and_true] at hg)
        obtain ⟨rfl, rfl, rfl, rfl⟩ := hg
        have hbl3 := Nat.lt_of_lt_of_le hbl hb3'.size
        have hab3 := Nat.lt_of_lt_of_le hab hb3'.size
        have hbly3 := Nat.lt_of_lt_of_le hbly hb3'.size
        have yy3 : w3.cell? ⟨yb, 3, none⟩ = some (.slice X k cx) := (hb3'.cell (p := ⟨yb, 3, none⟩) hbly).trans y3
        have ff3 : w3.frozen? ⟨yb, 3, none⟩ = false := (hb3'.frozen (p := ⟨yb, 3, none⟩) hbly).trans f3
        have u0 : w3.cell? ⟨b, 3, none⟩ = some (.slice (some a) ks.length cap) := (hb3'.cell (p := ⟨b, 3, none⟩) hbl).trans x3
        have u1 : w3.cell? (a.add (k * 4)) = some (.int .i64 o1) := (hb3'.cell (p := (a.add (k * 4))) hab).trans p0
        have u2 : w3.cell? ⟨(a.add (k * 4)).block, (a.add (k * 4)).off + 1, none⟩ = some (.int .i64 n1) := (hb3'.cell (p := ⟨(a.add (k * 4)).block, (a.add (k * 4)).off + 1, none⟩) hab).trans p1
        have u3 : w3.cell? ⟨(a.add (k * 4)).block, (a.add (k * 4)).off + 2, none⟩ = some (.string s1) := (hb3'.cell (p := ⟨(a.add (k * 4)).block, (a.add (k * 4)).off + 2, none⟩) hab).trans p2
        have u4 : w3.cell? ⟨(a.add (k * 4)).block, (a.add (k * 4)).off + 3, none⟩ = some (.slice A1 l1 k1) := (hb3'.cell (p := ⟨(a.add (k * 4)).block, (a.add (k * 4)).off + 3, none⟩) hab).trans p3
        have HO3 := Lib.hid ((Below.moves hb3').row HO2.out (fun j hj e => Nat.not_lt.2 e (HO2.out.lt j hj).2))
        have HNw := Lib.hid (new16 w3 41 [.int .i64 g0, .int .i64 g1, .string g2, .slice g3 m3 n3])
        have hcb : W1.heap.size ≤ w3.heap.size + 1 := (by have := hb3'.size; omega)
        refine hK.out _ _ (fun _ => ⟨yy3, u0, u1, u2, u3, u4⟩) ?_
        clear hK K
        (try simp only [Act.put, List.setIfInBounds_toArray, List.set_cons_zero, List.set_cons_succ])
        refine wpAnyL_step (i := 10) (by kernel_rfl) rfl (fun K hK => ?_)
        go_simp
        refine hK.out _ _ (fun _ => ?_) ?_
        · exact ⟨cell_new yy3, cell_new u0, cell_new u1, cell_new u2, cell_new u3, cell_new u4⟩
        clear hK K
        (try simp only [Act.put, List.setIfInBounds_toArray, List.set_cons_zero, List.set_cons_succ])
        refine wpAnyL_step (i := 11) (by kernel_rfl) rfl (fun K hK => ?_)
        refine step_append_lies _ (by rfl) _ _ _ (by rfl) W1.heap.size 41 i0 _ 4 56 Try.underlying39 hi0 hz0 hz1 hz2 rfl (by decide) (.slice X k cx) k rows.flatten (by rfl) (HO3.out.alloc _) ⟨w3.heap.size, 0, none⟩ 1 1 [.int .i64 g0, .int .i64 g1, .string g2, .slice g3 m3 n3] (by rfl) rfl HNw.out (by simp [Value.oneCell']) (by decide) (by unfold maxLen; omega) (by omega) (by rw [World.size_alloc]; exact hcb) (w3.heap.size + 1) (by simp) ?_
        intro g cap5 w4 hown4 hgrow hat hlt4
        have hm4 : Moves (fun j => (Value.slice X k cx).ownBlock = some j) w3 w4 := ((Moves.refl _ w3).alloc _).trans (moves_grown hgrow) (fun j hj => .inr hj)
        have hown_ := HOn.out
        have hbx_ := hxl
        have hba_ := hab2
        have v0 : w4.cell? ⟨b, 3, none⟩ = some (.slice (some a) ks.length cap) := (hm4.cell (p := ⟨b, 3, none⟩) hbl3 (hown_ b hbx_)).trans u0
        have v1 : w4.cell? (a.add (k * 4)) = some (.int .i64 o1) := (hm4.cell (p := (a.add (k * 4))) hab3 (hown_ _ hba_)).trans u1
        have v2 : w4.cell? ⟨(a.add (k * 4)).block, (a.add (k * 4)).off + 1, none⟩ = some (.int .i64 n1) := (hm4.cell (p := ⟨(a.add (k * 4)).block, (a.add (k * 4)).off + 1, none⟩) hab3 (hown_ _ hba_)).trans u2
        have v3 : w4.cell? ⟨(a.add (k * 4)).block, (a.add (k * 4)).off + 2, none⟩ = some (.string s1) := (hm4.cell (p := ⟨(a.add (k * 4)).block, (a.add (k * 4)).off + 2, none⟩) hab3 (hown_ _ hba_)).trans u3
        have v4 : w4.cell? ⟨(a.add (k * 4)).block, (a.add (k * 4)).off + 3, none⟩ = some (.slice A1 l1 k1) := (hm4.cell (p := ⟨(a.add (k * 4)).block, (a.add (k * 4)).off + 3, none⟩) hab3 (hown_ _ hba_)).trans u4
        have yy4 : w4.cell? ⟨yb, 3, none⟩ = some (.slice X k cx) := (hm4.cell (p := ⟨yb, 3, none⟩) hbly3 (hown_ yb hyl)).trans yy3
        have ff4 : w4.frozen? ⟨yb, 3, none⟩ = false := (hm4.blk (HBy2.out.below hb3' hbly) (hown_ yb hyl)).frozen 3
        refine hK.out _ _ (fun _ => ⟨yy4, v0, v1, v2, v3, v4⟩) ?_
        clear hK K
        (try simp only [Act.put, List.setIfInBounds_toArray, List.set_cons_zero, List.set_cons_succ])
        refine wpAnyL_step (i := 12) (by kernel_rfl) rfl (fun K hK => ?_)
        go_simp
        refine hK.out _ _ (fun _ => ⟨yy4, v0, v1, v2, v3, v4⟩) ?_
        clear hK K
        (try simp only [Act.put, List.setIfInBounds_toArray, List.set_cons_zero, List.set_cons_succ])
        refine wpAnyL_step (i := 13) (by kernel_rfl) rfl (fun K hK => ?_)
        go_simp
        refine hK.out _ _ (fun h => absurd rfl h) ?_
        clear hK K
        (try simp only [Act.put, List.setIfInBounds_toArray, List.set_cons_zero, List.set_cons_succ])
        refine wpAnyL_done (by kernel_rfl) ?_ 0
        go_wp2_with fail
        go_roundw
        case rel => exact ⟨k + 1, _, _, by omega, by go_num, Lib.hid (cx_step HX.out hltz hyl hbW hb1 hyb1 HQb.out hb3' he3 ((Below.moves hb3').row HO.out (fun j hj e => Nat.not_lt.2 e (HO.out.lt j hj).2)) (HAl.out.imp fun x cs h => h.keep (fun j h => ⟨⟨h.1.1, Nat.lt_of_lt_of_le h.1.2 hb3'.size⟩, h.2⟩) (fun p hp => hb3'.cell hp.1.2)) hown4 hgrow hat)⟩
        case measure => simp [intOf]; omega
      · have hke : k = ks.length := by omega
        subst hke
        have q0 : wr.cell? ⟨yb, 0, none⟩ = some (.int .i64 op) := by rw [HBy2.out.cell]; rfl
        have q1 : wr.cell? ⟨yb, 1, none⟩ = some (.int .i64 n) := by rw [HBy2.out.cell]; rfl
        have q2 : wr.cell? ⟨yb, 2, none⟩ = some (.string nz) := by rw [HBy2.out.cell]; rfl
        have q3 : wr.cell? ⟨yb, 3, none⟩ = some (.slice X ks.length cx) := by rw [HBy2.out.cell]; rfl
        have f0 := HBr2.out.frozen 0
        have f1 := HBr2.out.frozen 1
        have f2 := HBr2.out.frozen 2
        have f3 := HBr2.out.frozen 3
        have r0 : wr.cell? ⟨rb, 0, none⟩ = some (.int .i64 0) := by rw [HBr2.out.cell]; rfl
        have r1 : wr.cell? ⟨rb, 1, none⟩ = some (.int .i64 0) := by rw [HBr2.out.cell]; rfl
        have r2 : wr.cell? ⟨rb, 2, none⟩ = some (.string ⟨#[]⟩) := by rw [HBr2.out.cell]; rfl
        have r3 : wr.cell? ⟨rb, 3, none⟩ = some (.slice none 0 0) := by rw [HBr2.out.cell]; rfl
        have hl1 := HBy2.out.lt
        have hl2 := HBr2.out.lt
        have HSl := Lib.hid (BuildI.done (R := fun w Q => ExprI w Q) stayE (fun h => h.len) HX.out.row)
        have hkz2 : kz.take ks.length = kz := by rw [← hkzl, List.take_length]
        rw [hkz2] at HSl
        have HBl := Lib.hid HX.out.below
        have hWW := HB0.out.size
        go_wp2_with fail
        (try simp only [Exit.inBlock, Exit.then])
        refine bodyPost_ret (results_cell_row rfl _ _ rb 41 _ (0, 0) _ rfl ((((HBr2.out.set_ 0 _).set_ 1 _).set_ 2 _).set_ 3 _) Try.underlying41 rfl (by kernel_rfl)) rfl ⟨_, _, _, _, rfl, below_set4 HBl.out (by omega) _ _ _ _, ?_⟩
        refine (ExprI.of_slice HSl.out hop hn hnz).keep (fun j hj => ⟨by have := hj.1; omega, by simp only [size_set]; exact hj.2⟩) (fun q hq => ?_)
        have hqr : q.block ≠ rb := by have := hq.1; omega
        rw [World.cell?_setCell_other _ _ q _ (fun e => hqr (by rw [← e])), World.cell?_setCell_other _ _ q _ (fun e => hqr (by rw [← e])), World.cell?_setCell_other _ _ q _ (fun e => hqr (by rw [← e])), World.cell?_setCell_other _ _ q _ (fun e => hqr (by rw [← e]))]
end Go.Proofs.Ytnnblklbjbkikaa
