/- Texts, merged by a program; only what is used. -/
import Derived.Test.YtnnblklbjbkikaaM1
import Derived.Test.YtnnblklbjbkikaaM2
import Derived.Test.YtnnblklbjbkikaaM3
import Derived.Test.YtnnblklbjbkikaaM4
import Derived.Test.YtnnblklbjbkikaaM5
import Derived.Test.YtnnblklbjbkikaaM6
import Derived.Test.YtnnblklbjbkikaaM7
import Derived.Test.YtnnblklbjbkikaaM8
import Derived.Test.YtnnblklbjbkikaaM9
import Derived.Test.YtnnblklbjbkikaaM10
import Derived.Test.YtnnblklbjbkikaaM11
import Derived.Test.YtnnblklbjbkikaaM12
import Derived.Test.YtnnblklbjbkikaaM13
import Derived.Test.YtnnblklbjbkikaaM15
import Derived.Test.YtnnblklbjbkikaaM20
import Derived.Test.YtnnblklbjbkikaaM21
import Derived.Test.YtnnblklbjbkikaaM22
import Derived.Test.YtnnblklbjbkikaaM23
import Derived.Test.YtnnblklbjbkikaaM24
import Derived.Test.YtnnblklbjbkikaaM25
namespace Go.Proofs.Ytnnblklbjbkikaa
open Go.ChangeShapes Go.WideShapes Go.ChangeAt Go.RowKit Go.Deep
set_option linter.unusedVariables false
set_option linter.unusedSimpArgs false
/-- what holds of a program's copy, some procedures of it -/
structure SwI (w : World) (Q : Nat → Prop) (W W1 wr : World) (rb qb : Nat) (globals : List ByteArray) (vg : Value) (outs : List Pr) (X : Option Addr) (n c : Nat) : Prop where
  br : Blk wr rb 25 #[.slice none 0 0, .slice none 0 0]
  bq : Blk wr qb 25 #[vg, .slice X n c]
  row : BuildI wr W1.heap.size 62 5 (fun w Q => ProcI w Q) outs (.slice X n c)
  inn : In Q w wr
  size : W1.heap.size ≤ wr.heap.size
  below : Below W.heap.size W wr
  glob : TextsI wr (fun j => (rb < j ∧ j < W1.heap.size) ∧ j ≠ qb) globals vg
section
variable {w W W1 wr : World} {Q : Nat → Prop} {rb qb : Nat} {globals : List ByteArray} {vg : Value} {outs : List Pr} {X : Option Addr} {n c : Nat}
theorem SwI.on (h : SwI w Q W W1 wr rb qb globals vg outs X n c) {w3 : World} (hb : Below wr.heap.size wr w3) : SwI w Q W W1 w3 rb qb globals vg outs X n c :=
  ⟨h.br.below hb h.br.lt, h.bq.below hb h.bq.lt, BuildI.below (R := fun w Q => ProcI w Q) stayP h.row hb, h.inn.on hb, Nat.le_trans h.size hb.size, h.below.trans (hb.mono h.below.size), SliceI.keep h.glob (fun _ h => h) (fun p hp => hb.cell (Nat.lt_of_lt_of_le hp.1.2 h.size)) (fun _ _ _ h => h)⟩
theorem sg_step {w3 w4 : World} (h : SwI w Q W W1 w3 rb qb globals vg outs X n c) (hn : n = outs.length) (hrb : rb < qb) (hqb : qb < W1.heap.size) (hW : W.heap.size ≤ qb) (hQ : ∀ j, Q j → j < qb) {B : Nat} (hB : W1.heap.size ≤ B) (hrB : ∀ j, (Value.slice X n c).ownBlock = some j → j < B)
    {x : Pr} {cs : List Value} (he : ProcI w3 (fun j => B ≤ j ∧ j < w3.heap.size) x cs) {rows : List (List Value)} (h1 : w3.ownsRow W1.heap.size 62 5 (.slice X n c) outs.length rows.flatten) (h2 : All2 (ProcI w3 (fun j => (W1.heap.size ≤ j ∧ j < w3.heap.size) ∧ (Value.slice X n c).ownBlock ≠ some j)) outs rows) {o : Obj} {v' : Value} (hown4 : w4.ownsRow W1.heap.size 62 5 v' (n + 1) (rows.flatten ++ cs)) (hgrow : (w3.alloc o).grownBy w4 (Value.slice X n c).ownBlock) (hat : (Value.slice X n c).ownBlock = v'.ownBlock ∨ v'.ownBlock = some (w3.alloc o).heap.size) :
    (∃ X' c', v' = .slice X' (n + 1) c' ∧ SwI w Q W W1 (w4.setCell ⟨qb, 1, none⟩ v') rb qb globals vg (outs ++ [x]) X' (n + 1) c') ∧ Blk w4 qb 25 #[vg, .slice X n c] := by
  have hm4 : Moves (fun j => (Value.slice X n c).ownBlock = some j) w3 w4 := ((Moves.refl _ w3).alloc o).trans (moves_grown hgrow) (fun j hj => .inr hj)
  have hno : ∀ j, j < W1.heap.size → ¬ (Value.slice X n c).ownBlock = some j := fun j hj e => by have := (h1.lt j e).1; omega
  have hbu : BuildI w4 W1.heap.size 62 5 (fun w Q => ProcI w Q) (outs ++ [x]) v' :=
    BuildI.push (R := fun w Q => ProcI w Q) stayP h1 h2 (x := x) (B := B) he hB hrB (n := n + 1) (by omega) rfl hown4 hgrow hat
  obtain ⟨X', c', rfl, _, _⟩ := own_form hown4
  have hbq : Blk w4 qb 25 #[vg, .slice X n c] := hm4.blk h.bq (hno qb hqb)
  refine ⟨⟨X', c', rfl, (hm4.blk h.br (hno rb (by omega))).far (p := ⟨qb, 1, none⟩) (by show rb ≠ qb; omega) _, hbq.set_ 1 _, BuildI.set (R := fun w Q => ProcI w Q) stayP hbu (p := ⟨qb, 1, none⟩) hqb _, ?_, by simp only [size_set]; exact Nat.le_trans h.size hm4.size, ?_, ?_⟩, hbq⟩
  · exact (h.inn.moves hm4 (fun j hj hq => hno j (by have := hQ j hq; omega) hj)).setCell (fun hq => by have := hQ _ hq; simp only at this; omega) _
  · exact below_setc (h.below.trans (hm4.below (by have := h.below.size; omega) (fun j hj => by have := (h1.lt j hj).1; omega))) hW _
  · exact SliceI.keep h.glob (fun _ h => h) (fun p hp => (cell_set_ne _ (fun e => hp.2 (by rw [e]))).trans (hm4.cell (Nat.lt_of_lt_of_le hp.1.2 h.size) (hno _ hp.1.2))) (fun _ _ _ h => h)
end
theorem stayM : Stays (fun (w : World) (Q : Nat → Prop) => ParI) := fun h _ _ => h
/-- what holds of a procedure with k parameters -/
structure SpI (w : World) (Q : Nat → Prop) (W V W1 wr : World) (b yb : Nat) (cx : Array Value) (nm : ByteArray) (vars end_ : List ByteArray) (body : List S) (vv vb ve : Value) (pars : List Pa) (k : Nat) (X : Option Addr) (c : Nat) : Prop where
  bx : Blk wr b 62 cx
  by_ : Blk wr yb 62 #[.string nm, .slice X k c, vv, vb, ve]
  row : BuildI wr W1.heap.size 65 2 (fun w Q => ParI) (pars.take k) (.slice X k c)
  inn : In Q w wr
  size : W1.heap.size ≤ wr.heap.size
  below : Below W.heap.size W wr
  vars : TextsI wr (NV V W1 yb) vars vv
  ends : TextsI wr (NV V W1 yb) end_ ve
  body : StmtsI wr (NV V W1 yb) body vb
section
variable {w : World} {Q : Nat → Prop} {W V W1 wr : World} {b yb : Nat} {cx : Array Value} {nm : ByteArray} {vars end_ : List ByteArray} {body : List S} {vv vb ve : Value} {pars : List Pa} {k : Nat} {X : Option Addr} {c : Nat}
theorem SpI.on (h : SpI w Q W V W1 wr b yb cx nm vars end_ body vv vb ve pars k X c) {w3 : World} (hb : Below wr.heap.size wr w3) : SpI w Q W V W1 w3 b yb cx nm vars end_ body vv vb ve pars k X c :=
  ⟨h.bx.below hb h.bx.lt, h.by_.below hb h.by_.lt, BuildI.below (R := fun w Q => ParI) stayM h.row hb, h.inn.on hb, Nat.le_trans h.size hb.size, h.below.trans (hb.mono h.below.size),
    SliceI.keep h.vars (fun _ h => h) (fun p hp => hb.cell (Nat.lt_of_lt_of_le hp.1.2 h.size)) (fun _ _ _ h => h), SliceI.keep h.ends (fun _ h => h) (fun p hp => hb.cell (Nat.lt_of_lt_of_le hp.1.2 h.size)) (fun _ _ _ h => h), SliceI.keep h.body (fun _ h => h) (fun p hp => hb.cell (Nat.lt_of_lt_of_le hp.1.2 h.size)) (fun s cs _ h' => h'.keep (fun _ h => h) (fun p hp => hb.cell (Nat.lt_of_lt_of_le hp.1.2 h.size)))⟩
theorem sp_step {w3 w4 : World} (h : SpI w Q W V W1 w3 b yb cx nm vars end_ body vv vb ve pars k X c) (hk : k < pars.length) (hyl : yb < W1.heap.size) (hby : b < yb) (hbW : W.heap.size ≤ b) (hQ : ∀ j, Q j → j < b) {B : Nat} (hB : W1.heap.size ≤ B) (hrB : ∀ j, (Value.slice X k c).ownBlock = some j → j < B)
    {cs : List Value} (he : ParI pars[k] cs) {rows : List (List Value)} (h1 : w3.ownsRow W1.heap.size 65 2 (.slice X k c) (pars.take k).length rows.flatten) (h2 : All2 ParI (pars.take k) rows) {o : Obj} {g cap5 : Nat} (hown4 : w4.ownsRow W1.heap.size 65 2 (.slice (some ⟨g, 0, none⟩) (k + 1) cap5) (k + 1) (rows.flatten ++ cs)) (hgrow : (w3.alloc o).grownBy w4 (Value.slice X k c).ownBlock) (hat : (Value.slice X k c).ownBlock = some g ∨ g = w3.heap.size + 1) :
    SpI w Q W V W1 (w4.setCell ⟨yb, 1, none⟩ (.slice (some ⟨g, 0, none⟩) (k + 1) cap5)) b yb cx nm vars end_ body vv vb ve pars (k + 1) (some ⟨g, 0, none⟩) cap5 := by
  have htk : (pars.take k).length = k := by rw [List.length_take]; omega
  have hm4 : Moves (fun j => (Value.slice X k c).ownBlock = some j) w3 w4 := ((Moves.refl _ w3).alloc o).trans (moves_grown hgrow) (fun j hj => .inr hj)
  have hno : ∀ j, j < W1.heap.size → ¬ (Value.slice X k c).ownBlock = some j := fun j hj e => by have := (h1.lt j e).1; omega
  have k1 : Blk w4 b _ _ := hm4.blk h.bx (hno b (by omega))
  have k3 : Blk w4 yb _ _ := hm4.blk h.by_ (hno yb hyl)
  have hbu : BuildI w4 W1.heap.size 65 2 (fun w Q => ParI) (pars.take k ++ [pars[k]]) (.slice (some ⟨g, 0, none⟩) (k + 1) cap5) :=
    BuildI.push (R := fun w Q => ParI) stayM h1 h2 (x := pars[k]) (B := B) he hB hrB (n := k + 1) (by omega) rfl hown4 hgrow (by rcases hat with h | h; exact .inl h; right; rw [h]; simp [Value.ownBlock])
  rw [← List.take_succ_eq_append_getElem hk] at hbu
  have hsz : w4.heap.size ≥ w3.heap.size := hm4.size
  have hc : ∀ p : Addr, NV V W1 yb p.block → (w4.setCell ⟨yb, 1, none⟩ (.slice (some ⟨g, 0, none⟩) (k + 1) cap5)).cell? p = w3.cell? p := fun p hp => (cell_set_ne _ (fun e => hp.2 (by rw [e]))).trans (hm4.cell (Nat.lt_of_lt_of_le hp.1.2 h.size) (hno _ hp.1.2))
  refine ⟨k1.far (p := ⟨yb, 1, none⟩) (by show b ≠ yb; omega) _, k3.set_ 1 _, BuildI.set (R := fun w Q => ParI) stayM hbu (p := ⟨yb, 1, none⟩) hyl _, ?_, by simp only [size_set]; have := h.size; omega, ?_, ?_, ?_, ?_⟩
  · exact (h.inn.moves hm4 (fun j hj hq => by have := hQ j hq; exact hno j (by omega) hj)).setCell (fun hq => by have := hQ _ hq; simp only at this; omega) _
  · exact below_setc (h.below.trans (hm4.below (by have := h.below.size; omega) (fun j hj => by have := (h1.lt j hj).1; have := h.bx.lt; omega))) (by show W.heap.size ≤ yb; omega) _
  · exact SliceI.keep h.vars (fun _ h => h) hc (fun _ _ _ h => h)
  · exact SliceI.keep h.ends (fun _ h => h) hc (fun _ _ _ h => h)
  · exact SliceI.keep h.body (fun _ h => h) hc (fun s cs _ h' => h'.keep (fun _ h => h) hc)
/-- all parameters are there -/
theorem SpI.done (h : SpI w Q W V W1 wr b yb cx nm vars end_ body vv vb ve pars pars.length X c) (hnm : nm.size ≤ 9223372036854775807) (hWV : W.heap.size ≤ V.heap.size) (hW1 : W.heap.size ≤ W1.heap.size) : PtB W wr yb ⟨nm, pars, vars, body, end_⟩ (.string nm) (.slice X pars.length c) vv vb ve := by
  have hz := h.size
  have hs := BuildI.done (R := fun w Q => ParI) stayM (fun h => by rw [h.1]; rfl) h.row
  rw [List.take_length] at hs
  have hj : ∀ j, NV V W1 yb j → W.heap.size ≤ j ∧ j < wr.heap.size := fun j hj => ⟨by have := hj.1.1; omega, by have := hj.1.2; omega⟩
  refine ⟨h.by_, h.below, _, vv, vb, ve, rfl, hnm, ?_, ?_, ?_, ?_⟩
  · exact SliceI.keep hs (fun j hj => ⟨by have := hj.1; omega, hj.2⟩) (fun _ _ => rfl) (fun _ _ _ h => h)
  · exact SliceI.keep h.vars hj (fun _ _ => rfl) (fun _ _ _ h => h)
  · exact SliceI.keep h.body hj (fun _ _ => rfl) (fun s cs _ h' => h'.keep hj (fun _ _ => rfl))
  · exact SliceI.keep h.ends hj (fun _ _ => rfl) (fun _ _ _ h => h)
end
end Go.Proofs.Ytnnblklbjbkikaa
