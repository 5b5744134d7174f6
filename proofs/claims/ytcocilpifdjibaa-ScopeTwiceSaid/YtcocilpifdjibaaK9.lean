/- Texts, merged by a program; only what is used. -/
import Derived.Deep.RegionHeld3
import Derived.Deep.LoopGhost
import Derived.Deep.Cut
import Derived.Deep.CutRange
import Derived.Laws.Rows
import Derived.Test.YtcocilpifdjibaaK1
import Derived.Test.YtcocilpifdjibaaK2
import Derived.Test.YtcocilpifdjibaaK3
import Derived.Test.YtcocilpifdjibaaK4
import Derived.Test.YtcocilpifdjibaaK5
import Derived.Test.YtcocilpifdjibaaK6
import Derived.Test.YtcocilpifdjibaaK7
import Derived.Test.YtcocilpifdjibaaK8
namespace Go.Proofs.Ytcocilpifdjibaa
open Go.ChangeShapes Go.WideShapes Go.ChangeAt Go.RowKit Go.Deep
set_option linter.unusedVariables false
/-- the blocks made since -/
abbrev nw (W w' : World) : Nat → Prop := fun b => W.heap.size ≤ b ∧ b < w'.heap.size
theorem addr0 (b k : Nat) : (⟨b, 0, none⟩ : Addr).add k = ⟨b, k, none⟩ := by
  by_cases h0 : k = 0
  · subst h0; rw [add_zero_]
  · rw [add_ne _ h0]; simp
theorem below_setc {B : Nat} {a b : World} (h : Below B a b) {p : Addr} (hp : B ≤ p.block) (u : Value) : Below B a (b.setCell p u) :=
  ⟨h.os, h.tape, h.output, by simp only [World.setCell, Array.size_modify]; exact h.size, fun k hk => (Below.heap_setCell _ _ _ _ (by omega)).trans (h.block k hk)⟩
theorem row_slice {α : Type} {w' : World} {Q : Nat → Prop} {C : Nat} {R : α → List Value → Prop} {l : List α} {b : Nat} {t : TypeId} {css : Nat → List Value} (hb : Blk w' b t (flatN css l.length).toArray) (hr : ∀ i (h : i < l.length), R l[i] (css i)) (hC : ∀ x cs, R x cs → CellsOk C cs) (hq : Q b) (hl : l.length ≤ 1000000) :
    SliceI w' Q C R l (.slice (some ⟨b, 0, none⟩) l.length l.length) := by
  refine ⟨some ⟨b, 0, none⟩, l.length, css, rfl, ⟨Nat.le_refl _, by omega⟩, fun _ => ⟨_, rfl, hq, fun i hi j u hu => ?_⟩, hr⟩
  rw [addr0, hb.cell]
  simp only [List.getElem?_toArray]
  have hj : j < C := by rw [← (hC _ _ (hr i hi)).1]; exact (List.getElem?_eq_some_iff.1 hu).1
  rw [flatN_get (fun i hi => (hC _ _ (hr i hi)).1) hi hj]
  exact hu
theorem nil_slice {α : Type} {w' : World} {Q : Nat → Prop} {C : Nat} {R : α → List Value → Prop} : SliceI w' Q C R ([] : List α) (.slice none 0 0) :=
  ⟨none, 0, fun _ => [], rfl, ⟨Nat.le_refl _, by omega⟩, fun h => absurd h (by simp), fun i h => absurd h (by simp)⟩
theorem set_same {cs : Array Value} {i : Nat} {u : Value} (h : cs[i]? = some u) : cs.setIfInBounds i u = cs := by
  apply Array.ext
  · simp
  · intro k h1 h2
    rw [Array.getElem_setIfInBounds]
    split
    · rename_i hk; subst hk; obtain ⟨_, h⟩ := Array.getElem?_eq_some_iff.1 h; exact h.symm
    · rfl
theorem textOk (s : ByteArray) (cs : List Value) (h : TextI s cs) : CellsOk 1 cs := by obtain ⟨rfl, _⟩ := h; exact ⟨rfl, by simp [Value.oneCell']⟩
theorem parOk (s : Pa) (cs : List Value) (h : ParI s cs) : CellsOk 2 cs := by obtain ⟨rfl, _⟩ := h; exact ⟨rfl, by simp [Value.oneCell']⟩
/-- texts that a copy takes no great memory for -/
def smT (l : List ByteArray) : Prop := l.length ≤ 1000000 ∧ ∀ s ∈ l, s.size ≤ 1000000
/-- parameters that a copy takes no great memory for -/
def smP (l : List Pa) : Prop := l.length ≤ 1000000 ∧ ∀ s ∈ l, s.nm.size ≤ 1000000
end Go.Proofs.Ytcocilpifdjibaa
namespace Go.Proofs.Ytcocilpifdjibaa
open Go.ChangeShapes Go.WideShapes Go.ChangeAt Go.RowKit Go.Deep
set_option linter.unusedVariables false
/-- a piece of a row: block, place, the nodes, the capacity that the cursor keeps of it -/
structure Hole (α : Type) where
  b : Nat
  o : Nat
  ts : List α
  cap : Nat
def slH {α : Type} (h : Hole α) : SL := (⟨h.b, h.o, none⟩, h.ts.length, h.cap)
/-- the cells of the piece, in W, read by R -/
def atH {α : Type} (C : Nat) (R : α → List Value → Prop) (W : World) (h : Hole α) : Prop :=
  ∀ i (hi : i < h.ts.length), ∃ cs, R h.ts[i] cs ∧ ∀ j u, cs[j]? = some u → W.cell? ⟨h.b, h.o + i * C + j, none⟩ = some u
def cov {α : Type} (C : Nat) (hs : List (Hole α)) (b off : Nat) : Prop := ∃ h ∈ hs, h.b = b ∧ h.o ≤ off ∧ off < h.o + h.ts.length * C
abbrev nb (base : Nat) (W : World) : Nat → Prop := fun b => base ≤ b ∧ b < W.heap.size
/-- whatever fills the holes and leaves the rest of the blocks T as it is: then G -/
def Compl {α : Type} (C : Nat) (R : World → (Nat → Prop) → α → List Value → Prop) (base : Nat) (T : Nat → Prop) (W : World) (hs : List (Hole α)) (G : World → Prop) : Prop :=
  ∀ W', W.heap.size ≤ W'.heap.size → (∀ p : Addr, T p.block → ¬ cov C hs p.block p.off → W'.cell? p = W.cell? p) → (∀ h ∈ hs, atH C (R W' (nb base W')) W' h) → G W'
def disH {α : Type} (C : Nat) (h k : Hole α) : Prop := h.b ≠ k.b ∨ h.o + h.ts.length * C ≤ k.o ∨ k.o + k.ts.length * C ≤ h.o
/-- the copy as far as it is -/
structure Copy {α : Type} (C : Nat) (R : World → (Nat → Prop) → α → List Value → Prop) (w : World) (Q : Nat → Prop) (base : Nat) (G : World → Prop) (W : World) (hs : List (Hole α)) (T : Nat → Prop) : Prop where
  tb : ∀ b, T b → base ≤ b ∧ b < W.heap.size
  raw : ∀ h ∈ hs, T h.b ∧ (∃ t cs, Blk W h.b t cs) ∧ atH C (R w Q) W h
  dis : hs.Pairwise (disH C)
  compl : Compl C R base T W hs G
section
variable {α : Type} {C : Nat} {R : World → (Nat → Prop) → α → List Value → Prop} {w W W' : World} {Q : Nat → Prop} {base : Nat} {G : World → Prop} {hs : List (Hole α)} {T : Nat → Prop}
theorem atH_same {R : α → List Value → Prop} {h : Hole α} (hk : ∀ off, h.o ≤ off → off < h.o + h.ts.length * C → W'.cell? ⟨h.b, off, none⟩ = W.cell? ⟨h.b, off, none⟩) (hC : ∀ x cs, R x cs → CellsOk C cs) (ha : atH C R W h) : atH C R W' h := by
  intro i hi
  obtain ⟨cs, h1, h2⟩ := ha i hi
  refine ⟨cs, h1, fun j u hu => ?_⟩
  have hj : j < C := by rw [← (hC _ _ h1).1]; exact (List.getElem?_eq_some_iff.1 hu).1
  have : i * C + j < h.ts.length * C := by
    have := Nat.mul_le_mul_right C (show i + 1 ≤ h.ts.length by omega)
    rw [Nat.succ_mul] at this
    omega
  rw [hk _ (by omega) (by omega)]
  exact h2 j u hu
theorem slice_of_at {R : α → List Value → Prop} {V : World} {b cap : Nat} {l : List α} (h1 : atH C R V ⟨b, 0, l, cap⟩) (hCk : ∀ x cs, R x cs → CellsOk C cs) (hC0 : 0 < C) (hb : base ≤ b) (hl : l.length ≤ 1000000) : SliceI V (nb base V) C R l (.slice (some ⟨b, 0, none⟩) l.length l.length) := by
  have h2 : ∀ i, ∃ cs, ∀ (hi : i < l.length), R l[i] cs ∧ ∀ j u, cs[j]? = some u → V.cell? ⟨b, 0 + i * C + j, none⟩ = some u := fun i => by
    by_cases hi : i < l.length
    · obtain ⟨cs, h3⟩ := h1 i hi; exact ⟨cs, fun _ => h3⟩
    · exact ⟨[], fun h => absurd h hi⟩
  obtain ⟨ds, hds⟩ := Classical.axiomOfChoice h2
  refine ⟨_, l.length, ds, rfl, ⟨Nat.le_refl _, by omega⟩, fun hpos => ⟨_, rfl, ⟨hb, ?_⟩, fun i hi j u hu => ?_⟩, fun i hi => (hds i hi).1⟩
  · have h3 := hds 0 hpos
    have h4 : 0 < (ds 0).length := by rw [(hCk _ _ h3.1).1]; exact hC0
    have h5 := block_lt_of_cell (h3.2 0 _ (List.getElem?_eq_getElem h4))
    exact h5
  · rw [addr0]; have := (hds i hi).2 j u hu; rw [Nat.zero_add] at this; exact this
end
end Go.Proofs.Ytcocilpifdjibaa
namespace Go.Proofs.Ytcocilpifdjibaa
open Go.ChangeShapes Go.WideShapes Go.ChangeAt Go.RowKit Go.Deep
set_option linter.unusedVariables false
theorem exprOk (w : World) (Q : Nat → Prop) (x : E) (cs : List Value) (h : ExprI w Q x cs) : CellsOk 4 cs := by cases h; exact ⟨rfl, by simp [Value.oneCell']⟩
theorem ExprI.of_slice {V : World} {Q : Nat → Prop} {op n : Int} {nm : ByteArray} {ks : List E} {v : Value} (h : SliceI V Q 4 (ExprI V Q) ks v) (hop : i64 op) (hn : i64 n) (hnm : nm.size ≤ 9223372036854775807) : ExprI V Q (.mk op n nm ks) [.int .i64 op, .int .i64 n, .string nm, v] := by
  obtain ⟨A, cap, css, rfl, h2, h3, h4⟩ := h
  exact .mk hop hn hnm h2 h3 h4
theorem ExprI.to_slice {V : World} {Q : Nat → Prop} {op n : Int} {nm : ByteArray} {ks : List E} {cs : List Value} (h : ExprI V Q (.mk op n nm ks) cs) : ∃ v, cs = [.int .i64 op, .int .i64 n, .string nm, v] ∧ SliceI V Q 4 (ExprI V Q) ks v ∧ i64 op ∧ i64 n ∧ nm.size ≤ 9223372036854775807 := by
  cases h with
  | mk hop hn hnm hcap hA hk => exact ⟨_, rfl, ⟨_, _, _, rfl, hcap, hA, hk⟩, hop, hn, hnm⟩
mutual
/-- how much an expression is: each node, each byte of a name -/
def wE : E → Nat
  | .mk _ _ nm ks => wL ks + nm.size + 1
def wL : List E → Nat
  | [] => 0
  | k :: ks => wE k + wL ks
end
theorem wL_mem {ks : List E} {k : E} (h : k ∈ ks) : wE k ≤ wL ks := by
  induction ks with
  | nil => simp at h
  | cons x ks ih =>
    rw [wL]
    rcases List.mem_cons.1 h with rfl | h
    · omega
    · have := ih h; omega
theorem wL_len (ks : List E) : ks.length ≤ wL ks := by
  induction ks with
  | nil => exact Nat.zero_le _
  | cons x ks ih => rw [wL, List.length_cons]; cases x; rw [wE]; omega
mutual
theorem sizE_w : ∀ e : E, sizE e ≤ wE e
  | .mk _ _ nm ks => by rw [sizE, wE]; have := sizL_w ks; omega
theorem sizL_w : ∀ ks : List E, sizL ks ≤ wL ks
  | [] => by rw [sizL]; exact Nat.zero_le _
  | k :: ks => by rw [sizL, wL]; have := sizE_w k; have := sizL_w ks; omega
end
/-- an expression that is not too great -/
def RE (w : World) (Q : Nat → Prop) (x : E) (cs : List Value) : Prop := ExprI w Q x cs ∧ wE x ≤ 1000000
theorem reOk (w : World) (Q : Nat → Prop) (x : E) (cs : List Value) (h : RE w Q x cs) : CellsOk 4 cs := exprOk w Q x cs h.1
/-- how many nodes are ahead -/
def szH : List (Hole E) → Nat
  | [] => 0
  | h :: hs => sizL h.ts + szH hs
theorem cell_set_ne {w : World} {p q : Addr} (u : Value) (h : q ≠ p) : (w.setCell p u).cell? q = w.cell? q := World.cell?_setCell_other _ _ _ _ (fun e => h e.symm)
theorem slice_er {V : World} {Q : Nat → Prop} {ks : List E} {v : Value} (h : SliceI V Q 4 (RE V Q) ks v) : SliceI V Q 4 (ExprI V Q) ks v := by
  obtain ⟨A, cap, css, h1, h2, h3, h4⟩ := h
  exact ⟨A, cap, css, h1, h2, h3, fun i hi => (h4 i hi).1⟩
end Go.Proofs.Ytcocilpifdjibaa
namespace Go.Proofs.Ytcocilpifdjibaa
open Go.ChangeShapes Go.WideShapes Go.ChangeAt Go.RowKit Go.Deep
set_option linter.unusedVariables false
theorem FreshP.below {α : Type} {t : TypeId} {R : α → List Value → Prop} {l : List α} {W w' : World} {e : Ending} (h : FreshP t R l W e w') : Below W.heap.size W w' := by
  rcases h with ⟨_, _, rfl⟩ | ⟨css, _, rfl, _⟩
  · exact Below.refl _ _
  · exact below_box _
theorem FreshP.value {α : Type} {t : TypeId} {R : α → List Value → Prop} {l : List α} {W w' : World} {e : Ending} (h : FreshP t R l W e w') : ∃ A cap, e = .returned (.slice A l.length cap) := by
  rcases h with ⟨rfl, rfl, _⟩ | ⟨css, rfl, _⟩
  · exact ⟨_, _, rfl⟩
  · exact ⟨_, _, rfl⟩
theorem freshE_v {w W : World} {Q : Nat → Prop} {l : List E} {v : Value} (h : SliceI w Q 4 (ExprI w Q) l v) (hI : In Q w W) (hw : wL l ≤ 1000000) :
    Calls Try.prog 199 #[v] W fun e w' => ∃ A cap, e = .returned (.slice A l.length cap) ∧ FreshP 45 (RE w Q) l W (.returned (.slice A l.length cap)) w' ∧ Below W.heap.size W w' := by
  have h' : SliceI w Q 4 (RE w Q) l v := by
    obtain ⟨A, cap, css, h1, h2, h3, h4⟩ := h
    exact ⟨A, cap, css, h1, h2, h3, fun i hi => ⟨h4 i hi, Nat.le_trans (wL_mem (List.getElem_mem hi)) hw⟩⟩
  refine (freshE_any h' hI (reOk w Q) (Nat.le_trans (wL_len l) hw)).mono ?_
  intro e w' hf
  obtain ⟨A, cap, rfl⟩ := hf.value
  exact ⟨A, cap, rfl, hf, hf.below⟩
abbrev zE : Array Value := #[.int .i64 0, .int .i64 0, .string ⟨#[]⟩, .slice none 0 0]
/-- a new variable of that kind: its cells -/
def NewE (w : World) (b : Nat) : Prop := (w.cell? ⟨b, 0, none⟩ = some (.int .i64 0) ∧ w.cell? ⟨b, 1, none⟩ = some (.int .i64 0) ∧ w.cell? ⟨b, 2, none⟩ = some (.string ⟨#[]⟩) ∧ w.cell? ⟨b, 3, none⟩ = some (.slice none 0 0)) ∧ w.frozen? ⟨b, 0, none⟩ = false ∧ w.frozen? ⟨b, 1, none⟩ = false ∧ w.frozen? ⟨b, 2, none⟩ = false ∧ w.frozen? ⟨b, 3, none⟩ = false
theorem newE_of {w : World} {b : Nat} (h : Blk w b 45 zE) : NewE w b := ⟨⟨by rw [h.cell]; rfl, by rw [h.cell]; rfl, by rw [h.cell]; rfl, by rw [h.cell]; rfl⟩, h.frozen 0, h.frozen 1, h.frozen 2, h.frozen 3⟩
theorem below_step {V U q : World} (h : Below V.heap.size V U) (hb : Below U.heap.size U q) : Below V.heap.size V q := h.trans (hb.mono h.size)
theorem below_stepA {V U : World} (h : Below V.heap.size V U) (o : Obj) : Below V.heap.size V (U.alloc o) := below_step h (below_box o)
theorem below_set4 {V U : World} (h : Below V.heap.size V U) {b : Nat} (hb : V.heap.size ≤ b) (v0 v1 v2 v3 : Value) : Below V.heap.size V ((((U.setCell ⟨b, 0, none⟩ v0).setCell ⟨b, 1, none⟩ v1).setCell ⟨b, 2, none⟩ v2).setCell ⟨b, 3, none⟩ v3) := below_setc (below_setc (below_setc (below_setc h hb _) hb _) hb _) hb _
theorem sx_of {V U : World} {b : Nat} {v0 v1 v2 v3 : Value} (h : Below V.heap.size V U) (hk : b < V.heap.size ∧ V.cell? ⟨b, 0, none⟩ = some v0 ∧ V.cell? ⟨b, 1, none⟩ = some v1 ∧ V.cell? ⟨b, 2, none⟩ = some v2 ∧ V.cell? ⟨b, 3, none⟩ = some v3) :
    U.cell? ⟨b, 0, none⟩ = some v0 ∧ U.cell? ⟨b, 1, none⟩ = some v1 ∧ U.cell? ⟨b, 2, none⟩ = some v2 ∧ U.cell? ⟨b, 3, none⟩ = some v3 ∧ Below V.heap.size V U :=
  ⟨(h.cell (p := ⟨b, 0, none⟩) hk.1).trans hk.2.1, (h.cell (p := ⟨b, 1, none⟩) hk.1).trans hk.2.2.1, (h.cell (p := ⟨b, 2, none⟩) hk.1).trans hk.2.2.2.1, (h.cell (p := ⟨b, 3, none⟩) hk.1).trans hk.2.2.2.2, h⟩
section
variable {α : Type} {C : Nat} {R : World → (Nat → Prop) → α → List Value → Prop} {w W W' : World} {Q : Nat → Prop} {base : Nat} {G : World → Prop} {hs : List (Hole α)} {T : Nat → Prop}
end
/-- the kids' new row -/
def KidR (w : World) (Q : Nat → Prop) (ks : List E) (A : Option Addr) (cap B ob : Nat) (W : World) : Prop :=
  (ks.length ≤ cap ∧ cap ≤ 9223372036854775807) ∧ (ks = [] ∨ ∃ b css, A = some ⟨b, 0, none⟩ ∧ cap = ks.length ∧ B ≤ b ∧ b ≠ ob ∧ Blk W b 45 (flatN css ks.length).toArray ∧ ∀ i (h : i < ks.length), RE w Q ks[i] (css i))
theorem fresh_kid {w U q : World} {Q : Nat → Prop} {ks : List E} {A : Option Addr} {cap : Nat} (hf : FreshP 45 (RE w Q) ks U (.returned (.slice A ks.length cap)) q) (hl : ks.length ≤ 1000000) :
    (ks.length ≤ cap ∧ cap ≤ 9223372036854775807) ∧ (ks = [] ∨ ∃ css, A = some ⟨U.heap.size, 0, none⟩ ∧ cap = ks.length ∧ Blk q U.heap.size 45 (flatN css ks.length).toArray ∧ ∀ i (h : i < ks.length), RE w Q ks[i] (css i)) := by
  rcases hf with ⟨rfl, e, _⟩ | ⟨css, e, rfl, hr⟩
  · simp only [Ending.returned.injEq, Value.slice.injEq] at e
    obtain ⟨_, _, rfl⟩ := e
    exact ⟨⟨Nat.le_refl _, by omega⟩, .inl rfl⟩
  · simp only [Ending.returned.injEq, Value.slice.injEq] at e
    obtain ⟨rfl, _, rfl⟩ := e
    exact ⟨⟨Nat.le_refl _, by omega⟩, .inr ⟨css, rfl, rfl, Blk.new _ _ _, hr⟩⟩
/-- what the first statement of cloneExpr leaves: the new expression with the kids' new row -/
structure RelX (w : World) (Q : Nat → Prop) (V : World) (op n : Int) (nm : ByteArray) (ks : List E) (ob : Nat) (A : Option Addr) (cap : Nat) (W : World) : Prop where
  blk : Blk W ob 45 #[.int .i64 op, .int .i64 n, .string nm, .slice A ks.length cap]
  below : Below V.heap.size V W
  le : V.heap.size ≤ ob
  kid : KidR w Q ks A cap V.heap.size ob W
theorem relX_alloc {w V U q : World} {Q : Nat → Prop} {op n : Int} {nm : ByteArray} {ks : List E} {A : Option Addr} {cap : Nat} (hb : Below V.heap.size V q) (hf : FreshP 45 (RE w Q) ks U (.returned (.slice A ks.length cap)) q) (hl : ks.length ≤ 1000000) (hU : V.heap.size ≤ U.heap.size) :
    RelX w Q V op n nm ks q.heap.size A cap (q.alloc (.cells #[.int .i64 op, .int .i64 n, .string nm, .slice A ks.length cap] 45)) := by
  obtain ⟨h1, h2⟩ := fresh_kid hf hl
  refine ⟨Blk.new _ _ _, below_stepA hb _, hb.size, h1, h2.imp id ?_⟩
  rintro ⟨css, e1, e2, hB, hr⟩
  exact ⟨_, css, e1, e2, hU, Nat.ne_of_lt hB.lt, hB.alloc _, hr⟩
theorem relX_set {w V U q : World} {Q : Nat → Prop} {op n : Int} {nm : ByteArray} {ks : List E} {A : Option Addr} {cap ob : Nat} (z : Blk q ob 45 zE) (hb : Below V.heap.size V q) (hf : FreshP 45 (RE w Q) ks U (.returned (.slice A ks.length cap)) q) (hl : ks.length ≤ 1000000) (hU : V.heap.size ≤ U.heap.size) (ho : V.heap.size ≤ ob) (hne : U.heap.size ≠ ob) :
    RelX w Q V op n nm ks ob A cap ((((q.setCell ⟨ob, 0, none⟩ (.int .i64 op)).setCell ⟨ob, 1, none⟩ (.int .i64 n)).setCell ⟨ob, 2, none⟩ (.string nm)).setCell ⟨ob, 3, none⟩ (.slice A ks.length cap)) := by
  obtain ⟨h1, h2⟩ := fresh_kid hf hl
  refine ⟨(((z.set_ 0 _).set_ 1 _).set_ 2 _).set_ 3 _, below_set4 hb ho _ _ _ _, ho, h1, h2.imp id ?_⟩
  rintro ⟨css, e1, e2, hB, hr⟩
  exact ⟨_, css, e1, e2, hU, hne, (((hB.far hne _).far hne _).far hne _).far hne _, hr⟩
theorem len_szH {hs : List (Hole E)} (hg : ∀ x ∈ hs.map slH, goodS x) : hs.length ≤ szH hs := by
  induction hs with
  | nil => exact Nat.zero_le _
  | cons k hs ih =>
    have h1 := ih (fun x hx => hg x (by rw [List.map_cons]; exact List.mem_cons_of_mem _ hx))
    have h2 := (hg (slH k) (by rw [List.map_cons]; exact List.mem_cons_self ..)).1
    obtain ⟨b, o, ts, cap⟩ := k
    rw [szH, List.length_cons]
    cases ts with
    | nil => simp [slH] at h2
    | cons t ts => simp only [sizL]; cases t; rw [sizE]; omega
theorem own_ge {w : World} {base n : Nat} {e : TypeId} {size : Nat} {v : Value} {xs : List Value} (h : w.ownsRow base e size v n xs) {j : Nat} (hj : v.ownBlock = some j) : base ≤ j := by
  rcases h.2 with ⟨rfl, _⟩ | ⟨g, cap, cur, rfl, hb, _⟩
  · simp [Value.ownBlock] at hj
  · have : g = j := by simpa [Value.ownBlock] using hj
    omega
theorem CurE.own_lt {w : World} {base c : Nat} {v : Value} {last : Option Addr} {s : List SL} (h : CurE w base c v last s) {k : Nat} (hk : ownE c v k) : k < w.heap.size := by
  rcases hk with rfl | hk
  · exact h.blk.lt
  · rcases h.row.2 with ⟨rfl, _⟩ | ⟨g, cap, cur, rfl, _, hg, _⟩
    · simp [Value.ownBlock] at hk
    · have : g = k := by simpa [Value.ownBlock] using hk
      subst this
      exact (Array.getElem?_eq_some_iff.1 hg).1
end Go.Proofs.Ytcocilpifdjibaa
