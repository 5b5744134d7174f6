/- Texts, merged by a program; only what is used. -/
import Derived.Deep.RegionHeld3
import Derived.Test.YtehpinnmalpgpaaK1
import Derived.Test.YtehpinnmalpgpaaK2
import Derived.Test.YtehpinnmalpgpaaK3
import Derived.Test.YtehpinnmalpgpaaK4
import Derived.Test.YtehpinnmalpgpaaK5
import Derived.Test.YtehpinnmalpgpaaK6
import Derived.Test.YtehpinnmalpgpaaK7
import Derived.Test.YtehpinnmalpgpaaK8
import Derived.Test.YtehpinnmalpgpaaK9
import Derived.Test.YtehpinnmalpgpaaK10
import Derived.Test.YtehpinnmalpgpaaK11
import Derived.Test.YtehpinnmalpgpaaK12
import Derived.Test.YtehpinnmalpgpaaK13
import Derived.Test.YtehpinnmalpgpaaK14
import Derived.Test.YtehpinnmalpgpaaK15
import Derived.Test.YtehpinnmalpgpaaK16
import Derived.Test.YtehpinnmalpgpaaK17
import Derived.Test.YtehpinnmalpgpaaK18
import Derived.Test.YtehpinnmalpgpaaK19
import Derived.Test.YtehpinnmalpgpaaK20
import Derived.Test.YtehpinnmalpgpaaK21
import Derived.Test.YtehpinnmalpgpaaK22
import Derived.Test.YtehpinnmalpgpaaK23
import Derived.Test.YtehpinnmalpgpaaK24
import Derived.Test.YtehpinnmalpgpaaKM1
import Derived.Test.YtehpinnmalpgpaaKM2
import Derived.Test.YtehpinnmalpgpaaKM3
import Derived.Test.YtehpinnmalpgpaaKM4
import Derived.Test.YtehpinnmalpgpaaKM5
import Derived.Test.YtehpinnmalpgpaaKM6
import Derived.Test.YtehpinnmalpgpaaKM7
import Derived.Test.YtehpinnmalpgpaaKM8
import Derived.Test.YtehpinnmalpgpaaKM9
import Derived.Test.YtehpinnmalpgpaaKM10
namespace Go.Proofs.Ytehpinnmalpgpaa
open Go.ChangeShapes Go.WideShapes Go.ChangeAt Go.RowKit Go.Deep
set_option linter.unusedVariables false
set_option linter.unusedSimpArgs false
/-- two procedures in blocks of their own -/
theorem blkR5 {w : World} {b : Nat} {e0 e1 e2 e3 e4 : Value} (h : Blk w b 45 #[e0, e1, e2, e3, e4]) : (w.cell? ⟨b, 0, none⟩ = some e0 ∧ w.cell? ⟨b, 1, none⟩ = some e1 ∧ w.cell? ⟨b, 2, none⟩ = some e2 ∧ w.cell? ⟨b, 3, none⟩ = some e3 ∧ w.cell? ⟨b, 4, none⟩ = some e4) ∧ w.frozen? ⟨b, 0, none⟩ = false ∧ w.frozen? ⟨b, 1, none⟩ = false ∧ w.frozen? ⟨b, 2, none⟩ = false ∧ w.frozen? ⟨b, 3, none⟩ = false ∧ w.frozen? ⟨b, 4, none⟩ = false := ⟨⟨by rw [h.cell]; rfl, by rw [h.cell]; rfl, by rw [h.cell]; rfl, by rw [h.cell]; rfl, by rw [h.cell]; rfl⟩, h.frozen 0, h.frozen 1, h.frozen 2, h.frozen 3, h.frozen 4⟩
end Go.Proofs.Ytehpinnmalpgpaa
namespace Go.Proofs.Ytehpinnmalpgpaa
open Go.ChangeShapes Go.WideShapes Go.ChangeAt Go.RowKit Go.Deep
set_option linter.unusedVariables false
end Go.Proofs.Ytehpinnmalpgpaa
namespace Go.Proofs.Ytehpinnmalpgpaa
open Go.ChangeShapes Go.WideShapes Go.ChangeAt Go.RowKit Go.Deep
set_option linter.unusedVariables false
def NewS (w : World) (b : Nat) : Prop := (w.cell? ⟨b, 0, none⟩ = some (.int .i64 0) ∧ w.cell? ⟨b, 1, none⟩ = some (.int .i64 0) ∧ w.cell? ⟨b, 2, none⟩ = some (.slice none 0 0) ∧ w.cell? ⟨b, 3, none⟩ = some (.string ⟨#[]⟩) ∧ w.cell? ⟨b, 4, none⟩ = some (.string ⟨#[]⟩) ∧ w.cell? ⟨b, 5, none⟩ = some (.int .i64 0) ∧ w.cell? ⟨b, 6, none⟩ = some (.int .i64 0) ∧ w.cell? ⟨b, 7, none⟩ = some (.string ⟨#[]⟩) ∧ w.cell? ⟨b, 8, none⟩ = some (.slice none 0 0) ∧ w.cell? ⟨b, 9, none⟩ = some (.bool false) ∧ w.cell? ⟨b, 10, none⟩ = some (.slice none 0 0) ∧ w.cell? ⟨b, 11, none⟩ = some (.slice none 0 0) ∧ w.cell? ⟨b, 12, none⟩ = some (.slice none 0 0)) ∧ w.frozen? ⟨b, 0, none⟩ = false ∧ w.frozen? ⟨b, 1, none⟩ = false ∧ w.frozen? ⟨b, 2, none⟩ = false ∧ w.frozen? ⟨b, 3, none⟩ = false ∧ w.frozen? ⟨b, 4, none⟩ = false ∧ w.frozen? ⟨b, 5, none⟩ = false ∧ w.frozen? ⟨b, 6, none⟩ = false ∧ w.frozen? ⟨b, 7, none⟩ = false ∧ w.frozen? ⟨b, 8, none⟩ = false ∧ w.frozen? ⟨b, 9, none⟩ = false ∧ w.frozen? ⟨b, 10, none⟩ = false ∧ w.frozen? ⟨b, 11, none⟩ = false ∧ w.frozen? ⟨b, 12, none⟩ = false
theorem newS_of {w : World} {b : Nat} (h : Blk w b 60 zS) : NewS w b := ⟨⟨by rw [h.cell]; rfl, by rw [h.cell]; rfl, by rw [h.cell]; rfl, by rw [h.cell]; rfl, by rw [h.cell]; rfl, by rw [h.cell]; rfl, by rw [h.cell]; rfl, by rw [h.cell]; rfl, by rw [h.cell]; rfl, by rw [h.cell]; rfl, by rw [h.cell]; rfl, by rw [h.cell]; rfl, by rw [h.cell]; rfl⟩, h.frozen 0, h.frozen 1, h.frozen 2, h.frozen 3, h.frozen 4, h.frozen 5, h.frozen 6, h.frozen 7, h.frozen 8, h.frozen 9, h.frozen 10, h.frozen 11, h.frozen 12⟩
theorem set13_cell {w : World} {b : Nat} {d0 d1 d2 d3 d4 d5 d6 d7 d8 d9 d10 d11 d12 : Value} {p : Addr} (h : p.block ≠ b) : (World.setCell (World.setCell (World.setCell (World.setCell (World.setCell (World.setCell (World.setCell (World.setCell (World.setCell (World.setCell (World.setCell (World.setCell (World.setCell w ⟨b, 0, none⟩ d0) ⟨b, 1, none⟩ d1) ⟨b, 2, none⟩ d2) ⟨b, 3, none⟩ d3) ⟨b, 4, none⟩ d4) ⟨b, 5, none⟩ d5) ⟨b, 6, none⟩ d6) ⟨b, 7, none⟩ d7) ⟨b, 8, none⟩ d8) ⟨b, 9, none⟩ d9) ⟨b, 10, none⟩ d10) ⟨b, 11, none⟩ d11) ⟨b, 12, none⟩ d12).cell? p = w.cell? p := by
  have hne : ∀ j, p ≠ ⟨b, j, none⟩ := fun j e => h (by rw [e])
  rw [cell_set_ne _ (hne _), cell_set_ne _ (hne _), cell_set_ne _ (hne _), cell_set_ne _ (hne _), cell_set_ne _ (hne _), cell_set_ne _ (hne _), cell_set_ne _ (hne _), cell_set_ne _ (hne _), cell_set_ne _ (hne _), cell_set_ne _ (hne _), cell_set_ne _ (hne _), cell_set_ne _ (hne _), cell_set_ne _ (hne _)]
theorem set13_size {w : World} {b : Nat} {d0 d1 d2 d3 d4 d5 d6 d7 d8 d9 d10 d11 d12 : Value} : (World.setCell (World.setCell (World.setCell (World.setCell (World.setCell (World.setCell (World.setCell (World.setCell (World.setCell (World.setCell (World.setCell (World.setCell (World.setCell w ⟨b, 0, none⟩ d0) ⟨b, 1, none⟩ d1) ⟨b, 2, none⟩ d2) ⟨b, 3, none⟩ d3) ⟨b, 4, none⟩ d4) ⟨b, 5, none⟩ d5) ⟨b, 6, none⟩ d6) ⟨b, 7, none⟩ d7) ⟨b, 8, none⟩ d8) ⟨b, 9, none⟩ d9) ⟨b, 10, none⟩ d10) ⟨b, 11, none⟩ d11) ⟨b, 12, none⟩ d12).heap.size = w.heap.size := by simp only [size_set]
theorem set13_below {B : Nat} {a w : World} {b : Nat} {d0 d1 d2 d3 d4 d5 d6 d7 d8 d9 d10 d11 d12 : Value} (h : Below B a w) (hb : B ≤ b) : Below B a (World.setCell (World.setCell (World.setCell (World.setCell (World.setCell (World.setCell (World.setCell (World.setCell (World.setCell (World.setCell (World.setCell (World.setCell (World.setCell w ⟨b, 0, none⟩ d0) ⟨b, 1, none⟩ d1) ⟨b, 2, none⟩ d2) ⟨b, 3, none⟩ d3) ⟨b, 4, none⟩ d4) ⟨b, 5, none⟩ d5) ⟨b, 6, none⟩ d6) ⟨b, 7, none⟩ d7) ⟨b, 8, none⟩ d8) ⟨b, 9, none⟩ d9) ⟨b, 10, none⟩ d10) ⟨b, 11, none⟩ d11) ⟨b, 12, none⟩ d12) := (below_setc (below_setc (below_setc (below_setc (below_setc (below_setc (below_setc (below_setc (below_setc (below_setc (below_setc (below_setc (below_setc h hb _) hb _) hb _) hb _) hb _) hb _) hb _) hb _) hb _) hb _) hb _) hb _) hb _)
end Go.Proofs.Ytehpinnmalpgpaa
namespace Go.Proofs.Ytehpinnmalpgpaa
open Go.ChangeShapes Go.WideShapes Go.ChangeAt Go.RowKit Go.Deep
set_option linter.unusedVariables false
theorem All2.imp {α : Type} {R R' : α → List Value → Prop} (hi : ∀ x cs, R x cs → R' x cs) : ∀ {l : List α} {rows : List (List Value)}, All2 R l rows → All2 R' l rows
  | [], [], _ => trivial
  | x :: l, c :: cs, h => ⟨hi _ _ h.1, All2.imp hi h.2⟩
section
variable {α : Type}
/-- a relation that holds on where its blocks stay -/
def Stays (R : World → (Nat → Prop) → α → List Value → Prop) : Prop := ∀ {w w' : World} {Q Q' : Nat → Prop} {x : α} {cs : List Value}, R w Q x cs → (∀ b, Q b → Q' b) → (∀ p : Addr, Q p.block → w'.cell? p = w.cell? p) → R w' Q' x cs
def BuildI (w : World) (base : Nat) (e : TypeId) (C : Nat) (R : World → (Nat → Prop) → α → List Value → Prop) (l : List α) (v : Value) : Prop :=
  ∃ rows : List (List Value), w.ownsRow base e C v l.length rows.flatten ∧ All2 (R w (fun b => (base ≤ b ∧ b < w.heap.size) ∧ v.ownBlock ≠ some b)) l rows
variable {R : World → (Nat → Prop) → α → List Value → Prop} {w w' : World} {base C : Nat} {e : TypeId} {l : List α} {v : Value}
theorem BuildI.nil (w : World) (base : Nat) (e : TypeId) (C : Nat) (R : World → (Nat → Prop) → α → List Value → Prop) : BuildI w base e C R [] (.slice none 0 0) := ⟨[], World.ownsRow_nil _ _ _ _, trivial⟩
theorem BuildI.below (hR : Stays R) (h : BuildI w base e C R l v) (hb : Below w.heap.size w w') : BuildI w' base e C R l v := by
  obtain ⟨rows, h1, h2⟩ := h
  exact ⟨rows, (Below.moves hb).row h1 (fun j hj e => Nat.not_lt.2 e (h1.lt j hj).2), h2.imp fun x cs h => hR h (fun b h => ⟨⟨h.1.1, Nat.lt_of_lt_of_le h.1.2 hb.size⟩, h.2⟩) (fun p hp => hb.cell hp.1.2)⟩
theorem BuildI.done (hR : Stays R) (hC : ∀ {w Q x cs}, R w Q x cs → cs.length = C) (h : BuildI w base e C R l v) : SliceI w (fun b => base ≤ b ∧ b < w.heap.size) C (R w (fun b => base ≤ b ∧ b < w.heap.size)) l v := by
  obtain ⟨rows, h1, h2⟩ := h
  exact slice_of_own h1 (h2.imp fun x cs h => hR h (fun b h => h.1) (fun p hp => rfl)) (fun x cs h => hC h)
/-- one more element, whose blocks are younger than the row's -/
theorem BuildI.push (hR : Stays R) {rows : List (List Value)} (h1 : w.ownsRow base e C v l.length rows.flatten) (h2 : All2 (R w (fun b => (base ≤ b ∧ b < w.heap.size) ∧ v.ownBlock ≠ some b)) l rows) {x : α} {cs : List Value} {B : Nat} (hx : R w (fun b => B ≤ b ∧ b < w.heap.size) x cs) (hB : base ≤ B) (hv : ∀ j, v.ownBlock = some j → j < B)
    {o : Obj} {w3 : World} {v' : Value} {n : Nat} (hn : n = l.length + 1) {xs : List Value} (hxs : xs = rows.flatten ++ cs) (h3 : w3.ownsRow base e C v' n xs) (hg : (w.alloc o).grownBy w3 v.ownBlock) (hat : v.ownBlock = v'.ownBlock ∨ v'.ownBlock = some (w.alloc o).heap.size) : BuildI w3 base e C R (l ++ [x]) v' := by
  subst hn hxs
  have hm : Moves (fun j => v.ownBlock = some j) w w3 := ((Moves.refl _ w).alloc o).trans (moves_grown hg) (fun j hj => .inr hj)
  have hsz := hm.size
  have key : ∀ b, (base ≤ b ∧ b < w.heap.size) ∧ v.ownBlock ≠ some b → (base ≤ b ∧ b < w3.heap.size) ∧ v'.ownBlock ≠ some b := by
    rintro b ⟨⟨h5, h6⟩, h7⟩
    refine ⟨⟨h5, by omega⟩, fun h => ?_⟩
    rcases hat with h8 | h8
    · exact h7 (h8.trans h)
    · rw [h8] at h; injection h with h; rw [World.size_alloc] at h; omega
  refine ⟨rows ++ [cs], by rw [List.length_append, List.flatten_append, List.flatten_cons, List.flatten_nil, List.append_nil]; exact h3, ?_⟩
  refine All2.snoc (hR hx (fun b hb => key b ⟨⟨by omega, hb.2⟩, fun h => by have := hv b h; omega⟩) (fun p hp => hm.cell hp.2 (fun h => by have := hv p.block h; omega))) (h2.imp fun y cy h => hR h key (fun p hp => hm.cell hp.1.2 hp.2))
end
end Go.Proofs.Ytehpinnmalpgpaa
namespace Go.Proofs.Ytehpinnmalpgpaa
open Go.ChangeShapes Go.WideShapes Go.ChangeAt Go.RowKit Go.Deep
set_option linter.unusedVariables false
end Go.Proofs.Ytehpinnmalpgpaa
namespace Go.Proofs.Ytehpinnmalpgpaa
open Go.ChangeShapes Go.WideShapes Go.ChangeAt Go.RowKit Go.Deep
set_option linter.unusedVariables false
end Go.Proofs.Ytehpinnmalpgpaa
