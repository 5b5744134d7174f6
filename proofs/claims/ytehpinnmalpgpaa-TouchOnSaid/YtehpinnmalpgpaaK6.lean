/- Texts, merged by a program; only what is used. -/
import Derived.Deep.RegionHeld3
import Derived.Deep.LoopGhost
import Derived.Deep.Cut
import Derived.Deep.CutRange
import Derived.Laws.Rows
import Derived.RangeFuncNested
import Derived.RangeFuncBound
import Derived.RangeFuncCalls
import Derived.RangeFuncLeaves
import Derived.Shelf.Abstract
import Derived.Shelf.RegionOpen
import Derived.WalkKit
import Derived.OwnWalkIn
import Derived.TacticsInMore
import Derived.LoopNIn
import Derived.LoopIn
import Derived.Test.YtehpinnmalpgpaaK1
import Derived.Test.YtehpinnmalpgpaaK2
import Derived.Test.YtehpinnmalpgpaaK3
import Derived.Test.YtehpinnmalpgpaaK4
import Derived.Test.YtehpinnmalpgpaaK5
namespace Go.Proofs.Ytehpinnmalpgpaa
open Go.ChangeShapes Go.WideShapes Go.ChangeAt Go.RowKit Go.Deep
set_option linter.unusedVariables false
/-- n pieces one behind the other -/
def flatN (css : Nat → List Value) : Nat → List Value
  | 0 => []
  | n + 1 => flatN css n ++ css n
section
variable {css : Nat → List Value} {C : Nat}
theorem flatN_len {n : Nat} (h : ∀ i, i < n → (css i).length = C) : (flatN css n).length = n * C := by
  induction n with
  | zero => simp [flatN]
  | succ n ih => rw [flatN, List.length_append, ih (fun i hi => h i (by omega)), h n (by omega), Nat.succ_mul]
theorem flatN_get {n : Nat} (h : ∀ i, i < n → (css i).length = C) {i j : Nat} (hi : i < n) (hj : j < C) : (flatN css n)[i * C + j]? = (css i)[j]? := by
  induction n with
  | zero => omega
  | succ n ih =>
    have hl : (flatN css n).length = n * C := flatN_len (fun i hi => h i (by omega))
    rw [flatN]
    by_cases hin : i < n
    · have : i * C + j < n * C := by
        have := Nat.mul_le_mul_right C (show i + 1 ≤ n by omega)
        rw [Nat.succ_mul] at this
        omega
      rw [List.getElem?_append_left (by rw [hl]; exact this)]
      exact ih (fun i hi => h i (by omega)) hin
    · have e : i = n := by omega
      subst e
      rw [List.getElem?_append_right (by rw [hl]; omega), hl]
      congr 1
      omega
end
def CellsOk (C : Nat) (cs : List Value) : Prop := cs.length = C ∧ ∀ u ∈ cs, u.oneCell' = true
theorem info_frT : ∃ i z, Try.prog.info? 9 = some i ∧ i.zero = some z ∧ i.size = 1 ∧ i.bytes ≤ 1000 := by
  have h : (Try.prog.info? 9).map (fun i => (i.zero.isSome, i.size, decide (i.bytes ≤ 1000))) = some (true, 1, true) := by kernel_rfl
  obtain ⟨i, hi, h2⟩ := Option.map_eq_some_iff.1 h
  simp only [Prod.mk.injEq, decide_eq_true_eq] at h2
  obtain ⟨z, hz⟩ := Option.isSome_iff_exists.1 h2.1
  exact ⟨i, z, hi, hz, h2.2.1, h2.2.2⟩
end Go.Proofs.Ytehpinnmalpgpaa
namespace Go.Proofs.Ytehpinnmalpgpaa
open Go.ChangeShapes Go.WideShapes Go.ChangeAt Go.RowKit Go.Deep
set_option linter.unusedVariables false
/-- the blocks made since -/
abbrev nw (W w' : World) : Nat → Prop := fun b => W.heap.size ≤ b ∧ b < w'.heap.size
theorem addr0 (b k : Nat) : (⟨b, 0, none⟩ : Addr).add k = ⟨b, k, none⟩ := by
  by_cases h0 : k = 0
  · subst h0; rw [add_zero_]
  · rw [add_ne _ h0]; simp
theorem below_setc {B : Nat} {a b : World} (h : Below B a b) {p : Addr} (hp : B ≤ p.block) (u : Value) : Below B a (b.setCell p u) :=
  ⟨h.os, h.tape, h.output, by simp only [World.setCell, Array.size_modify]; exact h.size, fun k hk => (Below.heap_setCell _ _ _ _ (by omega)).trans (h.block k hk)⟩
theorem row_slice {α : Type} {w' : World} {Q : Nat → Prop} {C : Nat} {R : α → List Value → Prop} {l : List α} {b : Nat} {t : TypeId} {css : Nat → List Value} (hb : Blk w' b t (flatN css l.length).toArray) (hr : ∀ i (h : i < l.length), R l[i] (css i)) (hC : ∀ x cs, R x cs → CellsOk C cs) (hq : Q b) (hl : l.length ≤ 1000000) :
    SliceI w' Q C R l (.slice (some ⟨b, 0, none⟩) l.length l.length) := by
  refine ⟨some ⟨b, 0, none⟩, l.length, css, rfl, ⟨Nat.le_refl _, by omega⟩, fun _ => ⟨_, rfl, hq, fun i hi j u hu => ?_⟩, hr⟩
  rw [addr0, hb.cell]
  simp only [List.getElem?_toArray]
  have hj : j < C := by rw [← (hC _ _ (hr i hi)).1]; exact (List.getElem?_eq_some_iff.1 hu).1
  rw [flatN_get (fun i hi => (hC _ _ (hr i hi)).1) hi hj]
  exact hu
theorem nil_slice {α : Type} {w' : World} {Q : Nat → Prop} {C : Nat} {R : α → List Value → Prop} : SliceI w' Q C R ([] : List α) (.slice none 0 0) :=
  ⟨none, 0, fun _ => [], rfl, ⟨Nat.le_refl _, by omega⟩, fun h => absurd h (by simp), fun i h => absurd h (by simp)⟩
theorem set_same {cs : Array Value} {i : Nat} {u : Value} (h : cs[i]? = some u) : cs.setIfInBounds i u = cs := by
  apply Array.ext
  · simp
  · intro k h1 h2
    rw [Array.getElem_setIfInBounds]
    split
    · rename_i hk; subst hk; obtain ⟨_, h⟩ := Array.getElem?_eq_some_iff.1 h; exact h.symm
    · rfl
theorem textOk (s : ByteArray) (cs : List Value) (h : TextI s cs) : CellsOk 1 cs := by obtain ⟨rfl, _⟩ := h; exact ⟨rfl, by simp [Value.oneCell']⟩
theorem parOk (s : Pa) (cs : List Value) (h : ParI s cs) : CellsOk 2 cs := by obtain ⟨rfl, _⟩ := h; exact ⟨rfl, by simp [Value.oneCell']⟩
end Go.Proofs.Ytehpinnmalpgpaa
namespace Go.Proofs.Ytehpinnmalpgpaa
open Go.ChangeShapes Go.WideShapes Go.ChangeAt Go.RowKit Go.Deep
set_option linter.unusedVariables false
/-- a piece of a row: block, place, the nodes, the capacity that the cursor keeps of it -/
structure Hole (α : Type) where
  b : Nat
  o : Nat
  ts : List α
  cap : Nat
section
variable {α : Type} {C : Nat} {R : World → (Nat → Prop) → α → List Value → Prop} {w W W' : World} {Q : Nat → Prop} {base : Nat} {G : World → Prop} {hs : List (Hole α)} {T : Nat → Prop}
end
end Go.Proofs.Ytehpinnmalpgpaa
namespace Go.Proofs.Ytehpinnmalpgpaa
open Go.ChangeShapes Go.WideShapes Go.ChangeAt Go.RowKit Go.Deep
set_option linter.unusedVariables false
theorem exprOk (w : World) (Q : Nat → Prop) (x : E) (cs : List Value) (h : ExprI w Q x cs) : CellsOk 4 cs := by cases h; exact ⟨rfl, by simp [Value.oneCell']⟩
theorem ExprI.of_slice {V : World} {Q : Nat → Prop} {op n : Int} {nm : ByteArray} {ks : List E} {v : Value} (h : SliceI V Q 4 (ExprI V Q) ks v) (hop : i64 op) (hn : i64 n) (hnm : nm.size ≤ 9223372036854775807) : ExprI V Q (.mk op n nm ks) [.int .i64 op, .int .i64 n, .string nm, v] := by
  obtain ⟨A, cap, css, rfl, h2, h3, h4⟩ := h
  exact .mk hop hn hnm h2 h3 h4
mutual
/-- how much an expression is: each node, each byte of a name -/
def wE : E → Nat
  | .mk _ _ nm ks => wL ks + nm.size + 1
def wL : List E → Nat
  | [] => 0
  | k :: ks => wE k + wL ks
end
mutual
theorem sizE_w : ∀ e : E, sizE e ≤ wE e
  | .mk _ _ nm ks => by rw [sizE, wE]; have := sizL_w ks; omega
theorem sizL_w : ∀ ks : List E, sizL ks ≤ wL ks
  | [] => by rw [sizL]; exact Nat.zero_le _
  | k :: ks => by rw [sizL, wL]; have := sizE_w k; have := sizL_w ks; omega
end
end Go.Proofs.Ytehpinnmalpgpaa
namespace Go.Proofs.Ytehpinnmalpgpaa
open Go.ChangeShapes Go.WideShapes Go.ChangeAt Go.RowKit Go.Deep
set_option linter.unusedVariables false
theorem below_step {V U q : World} (h : Below V.heap.size V U) (hb : Below U.heap.size U q) : Below V.heap.size V q := h.trans (hb.mono h.size)
theorem below_stepA {V U : World} (h : Below V.heap.size V U) (o : Obj) : Below V.heap.size V (U.alloc o) := below_step h (below_box o)
section
variable {α : Type} {C : Nat} {R : World → (Nat → Prop) → α → List Value → Prop} {w W W' : World} {Q : Nat → Prop} {base : Nat} {G : World → Prop} {hs : List (Hole α)} {T : Nat → Prop}
end
theorem own_ge {w : World} {base n : Nat} {e : TypeId} {size : Nat} {v : Value} {xs : List Value} (h : w.ownsRow base e size v n xs) {j : Nat} (hj : v.ownBlock = some j) : base ≤ j := by
  rcases h.2 with ⟨rfl, _⟩ | ⟨g, cap, cur, rfl, hb, _⟩
  · simp [Value.ownBlock] at hj
  · have : g = j := by simpa [Value.ownBlock] using hj
    omega
end Go.Proofs.Ytehpinnmalpgpaa
namespace Go.Proofs.Ytehpinnmalpgpaa
open Go.ChangeShapes Go.WideShapes Go.ChangeAt Go.RowKit Go.Deep
set_option linter.unusedVariables false
def wAr : List Ar → Nat
  | [] => 0
  | a :: l => wE a.x + (a.nm.size + 1) + wAr l
theorem argCk (w : World) (Q : Nat → Prop) (x : Ar) (cs : List Value) (h : ArgI w Q x cs) : CellsOk 6 cs := by
  obtain ⟨xcs, rfl, _, h⟩ := h
  obtain ⟨h1, h2⟩ := exprOk _ _ _ _ h
  exact ⟨by simp [h1], fun u hu => by rcases List.mem_cons.1 hu with rfl | hu; rfl; rcases List.mem_cons.1 hu with rfl | hu; rfl; exact h2 u hu⟩
end Go.Proofs.Ytehpinnmalpgpaa
namespace Go.Proofs.Ytehpinnmalpgpaa
open Go.ChangeShapes Go.WideShapes Go.ChangeAt Go.RowKit Go.Deep
set_option linter.unusedVariables false
def wT : List ByteArray → Nat
  | [] => 0
  | s :: l => s.size + 1 + wT l
theorem wT_mem {l : List ByteArray} {s : ByteArray} (h : s ∈ l) : s.size + 1 ≤ wT l := by
  induction l with
  | nil => simp at h
  | cons x l ih =>
    rw [wT]
    rcases List.mem_cons.1 h with rfl | h
    · omega
    · have := ih h; omega
theorem wT_len (l : List ByteArray) : l.length ≤ wT l := by
  induction l with
  | nil => exact Nat.zero_le _
  | cons x l ih => rw [wT, List.length_cons]; omega
mutual
/-- how much a statement is -/
def wS : S → Nat
  | .mk _ _ labels nm proc x _ args th el => wE x + wT labels + (nm.size + 1) + (proc.size + 1) + wAr args + wSL th + wSL el
def wSL : List S → Nat
  | [] => 0
  | s :: l => wS s + wSL l
end
theorem wSL_mem {l : List S} {s : S} (h : s ∈ l) : wS s ≤ wSL l := by
  induction l with
  | nil => simp at h
  | cons x l ih =>
    rw [wSL]
    rcases List.mem_cons.1 h with rfl | h
    · omega
    · have := ih h; omega
theorem StmtI.of_slice {w : World} {Q : Nat → Prop} {id kind : Int} {labels : List ByteArray} {nm proc : ByteArray} {x : E} {has : Bool} {args : List Ar} {th el : List S} {vl va vt ve : Value} {x0 x1 x2 x3 : Value} (hid : i64 id) (hkind : i64 kind) (hnm : nm.size ≤ 9223372036854775807) (hproc : proc.size ≤ 9223372036854775807)
    (hl : TextsI w Q labels vl) (hx : ExprI w Q x [x0, x1, x2, x3]) (ha : SliceI w Q 6 (ArgI w Q) args va) (ht : StmtsI w Q th vt) (he : StmtsI w Q el ve) : StmtI w Q (.mk id kind labels nm proc x has args th el) [.int .i64 id, .int .i64 kind, vl, .string nm, .string proc, x0, x1, x2, x3, .bool has, va, vt, ve] := by
  obtain ⟨A1, cap1, css1, rfl, h1, h2, h3⟩ := ht
  obtain ⟨A2, cap2, css2, rfl, h4, h5, h6⟩ := he
  exact .mk hid hkind hnm hproc hl hx ha h1 h4 h2 h5 h3 h6
end Go.Proofs.Ytehpinnmalpgpaa
namespace Go.Proofs.Ytehpinnmalpgpaa
open Go.ChangeShapes Go.WideShapes Go.ChangeAt Go.RowKit Go.Deep
set_option linter.unusedVariables false
set_option linter.unusedSimpArgs false
def S.id : S → Int | .mk id _ _ _ _ _ _ _ _ _ => id
def S.kind : S → Int | .mk _ kind _ _ _ _ _ _ _ _ => kind
def S.labels : S → List ByteArray | .mk _ _ labels _ _ _ _ _ _ _ => labels
def S.nm : S → ByteArray | .mk _ _ _ nm _ _ _ _ _ _ => nm
def S.proc : S → ByteArray | .mk _ _ _ _ proc _ _ _ _ _ => proc
def S.x : S → E | .mk _ _ _ _ _ x _ _ _ _ => x
def S.args : S → List Ar | .mk _ _ _ _ _ _ _ args _ _ => args
def S.th : S → List S | .mk _ _ _ _ _ _ _ _ th _ => th
def S.el : S → List S | .mk _ _ _ _ _ _ _ _ _ el => el
theorem subS_eq (s : S) : subS s = preSL s.th ++ preSL s.el := by cases s; rfl
/-- a program that is not too great -/
structure SmG (p : Pg) : Prop where
  globals : wT p.globals ≤ 1000000
  procs : p.procs.length ≤ 1000000
  proc : ∀ q ∈ p.procs, wSL q.body ≤ 1000000 ∧ wT q.vars ≤ 1000000 ∧ wT q.end_ ≤ 1000000 ∧ q.params.length ≤ 1000000
end Go.Proofs.Ytehpinnmalpgpaa
namespace Go.Proofs.Ytehpinnmalpgpaa
open Go.ChangeShapes Go.WideShapes Go.ChangeAt Go.RowKit Go.Deep Go.Shelf
set_option linter.unusedVariables false
set_option linter.unusedSimpArgs false
attribute [local go_sem] Oper.semAt_some
/-- what a round keeps: below n0 all but the blocks of own; at n0 and beyond all cells but rows of texts -/
structure KpC (n0 : Nat) (own : Nat → Prop) (W W' : World) : Prop where
 os : W'.os = W.os
 tape : W'.tape = W.tape
 output : W'.output = W.output
 size : W.heap.size ≤ W'.heap.size
 low : ∀ k, k < n0 → ¬ own k → W'.heap[k]? = W.heap[k]?
 high : ∀ k cs t fz, n0 ≤ k → t ≠ 9 → W.heap[k]? = some (.cells cs t fz) → W'.heap[k]? = some (.cells cs t fz)
section
variable {n0 : Nat} {own : Nat → Prop} {A B C : World}
theorem KpC.refl (W : World) : KpC n0 own W W := ⟨rfl, rfl, rfl, Nat.le_refl _, fun _ _ _ => rfl, fun _ _ _ _ _ _ h => h⟩
theorem KpC.trans (h : KpC n0 own A B) (k : KpC n0 own B C) : KpC n0 own A C := ⟨k.os.trans h.os, k.tape.trans h.tape, k.output.trans h.output, Nat.le_trans h.size k.size, fun j hj ho => (k.low j hj ho).trans (h.low j hj ho), fun j cs t fz hj ht hc => k.high j cs t fz hj ht (h.high j cs t fz hj ht hc)⟩
theorem KpC.of_below (hn : n0 ≤ A.heap.size) (h : Below A.heap.size A B) : KpC n0 own A B := ⟨h.os, h.tape, h.output, h.size, fun k hk _ => h.block k (Nat.lt_of_lt_of_le hk hn), fun k cs t fz _ _ hc => (h.block k (Array.getElem?_eq_some_iff.1 hc).1).trans hc⟩
theorem KpC.put {w : World} (hn : n0 ≤ w.heap.size) (W : World) (l : Nat) (o o' : Obj) (hl : w.heap.size ≤ l) (h : W.heap[l]? = some o) (hc : o.isCells = false) (_ : o.isWalk = false) : KpC n0 own W (W.putObj l o') := by
 have hb : Below n0 W (W.putObj l o') := (Below.refl n0 W).grown (grownBy_putObj' W l o') (by have := (Array.getElem?_eq_some_iff.1 h).1; omega) (fun k e => by cases e; omega)
 refine ⟨hb.os, hb.tape, hb.output, hb.size, fun k hk _ => hb.block k hk, fun k cs t fz hk _ hcs => ?_⟩
 by_cases e : k = l
 ·subst e
  rw [hcs] at h
  injection h with h
  subst h
  cases hc
 ·exact (World.putObj_heap_other (fun e' => e (by first | exact e' | exact e'.symm))).trans hcs
theorem KpC.set_ {W : World} {a : Addr} (ha : own a.block) (hl : a.block < n0) (u : Value) : KpC n0 own W (W.setCell a u) := by
 have hb : ∀ k, k ≠ a.block → (W.setCell a u).heap[k]? = W.heap[k]? := fun k hk => Below.heap_setCell _ _ _ _ hk
 exact ⟨rfl, rfl, rfl, by simp [World.setCell], fun k hk ho => hb k (fun e => ho (by rw [e]; exact ha)), fun k cs t fz hk _ hc => (hb k (by omega)).trans hc⟩
theorem KpC.blk {b : Nat} {t : TypeId} {cs : Array Value} (h : KpC n0 own A B) (hb : n0 ≤ b) (ht : t ≠ 9) (hB : Blk A b t cs) : Blk B b t cs := h.high b cs t (0, 0) hb ht hB
theorem KpC.inn {w : World} {Q : Nat → Prop} (h : KpC n0 own A B) (hQ : ∀ b, Q b → b < n0 ∧ ¬ own b) (hI : In Q w A) : In Q w B := by
 refine ⟨fun b hb => Nat.lt_of_lt_of_le (hI.1 b hb) h.size, fun p hp => ?_⟩
 obtain ⟨h1, h2⟩ := hQ _ hp
 refine Eq.trans ?_ (hI.2 p hp)
 have h3 := h.low p.block h1 h2
 unfold World.cell?
 rw [h3]
end
mutual
/-- the statements of a statement, each with the loop around it -/
def lpS : S → Int → List (S × Int)
 | .mk id kind labels nm proc x has args th el, lp => (.mk id kind labels nm proc x has args th el, lp) :: (lpSL th (if kind = 6 then id else lp) ++ lpSL el (if kind = 6 then id else lp))
def lpSL : List S → Int → List (S × Int)
 | [], _ => []
 | s :: l, lp => lpS s lp ++ lpSL l lp
end
mutual
theorem lpS_fst : ∀ (s : S) (lp : Int), (lpS s lp).map Prod.fst = preS s
 | .mk id kind labels nm proc x has args th el, lp => by
  rw [lpS, preS, List.map_cons, List.map_append, lpSL_fst th, lpSL_fst el]
theorem lpSL_fst : ∀ (l : List S) (lp : Int), (lpSL l lp).map Prod.fst = preSL l
 | [], _ => by rw [lpSL, preSL]; rfl
 | s :: l, lp => by rw [lpSL, preSL, List.map_append, lpS_fst s, lpSL_fst l]
end
theorem lpSL_take {l : List S} {k : Nat} (h : k < l.length) (lp : Int) : lpSL (l.take (k + 1)) lp = lpSL (l.take k) lp ++ lpS l[k] lp := by
 have key : ∀ (l : List S) (k : Nat) (h : k < l.length), lpSL (l.take (k + 1)) lp = lpSL (l.take k) lp ++ lpS l[k] lp := by
  intro l
  induction l with
  | nil => intro k h; cases h
  | cons s l ih =>
   intro k h
   cases k with
   | zero => simp [lpSL]
   | succ k =>
    simp only [List.take_succ_cons, lpSL, List.getElem_cons_succ]
    rw [ih k (by simpa using h), List.append_assoc]
 exact key l k h
theorem lpSL_prefix {l : List S} {k : Nat} (lp : Int) : lpSL (l.take k) lp <+: lpSL l lp := by
 have key : ∀ (a b : List S), lpSL (a ++ b) lp = lpSL a lp ++ lpSL b lp := by
  intro a b
  induction a with
  | nil => simp [lpSL]
  | cons s a ih => rw [List.cons_append, lpSL, lpSL, ih, List.append_assoc]
 refine ⟨lpSL (l.drop k) lp, ?_⟩
 rw [← key, List.take_append_drop]
/-- what a round is handed: a statement that is read, the loop around it -/
def YE (w : World) (Q : Nat → Prop) : Type := { x : (S × Int) × List Value // StmtI w Q x.1.1 x.2 ∧ i64 x.1.2 ∧ wS x.1.1 ≤ 1000000 }
def encY {w : World} {Q : Nat → Prop} (x : YE w Q) : Array Value := #[.agg x.1.2.toArray, .int .i64 x.1.1.2]
def valY {w : World} {Q : Nat → Prop} (x : YE w Q) : S × Int := x.1.1
/-- what a walk over some statements leaves -/
def WkOk (w : World) (Q : Nat → Prop) (n0 : Nat) (own : Nat → Prop) (J Jx : List (YE w Q) → World → Prop) (pre : List (YE w Q)) (L : List (S × Int)) (W : World) (e : Ending) (W' : World) : Prop :=
 (e = .returned (.bool true) ∧ ∃ ys : List (YE w Q), ys.map valY = L ∧ J (pre ++ ys) W' ∧ KpC n0 own W W') ∨ (e = .returned (.bool false) ∧ ∃ ys : List (YE w Q), ys.map valY <+: L ∧ Jx (pre ++ ys) W')
theorem wk_len {w : World} {Q : Nat → Prop} {P zs : List (YE w Q)} {th el : List S} {i : Int} {N : Nat} (h : P.length + (preSL th).length + (preSL el).length ≤ N) (hz : zs.map valY = lpSL th i) : (P ++ zs).length + (preSL el).length ≤ N := by
 have h1 := congrArg List.length hz
 have h2 : (lpSL th i).length = (preSL th).length := by rw [← lpSL_fst th i, List.length_map]
 rw [List.length_map] at h1
 rw [List.length_append]
 omega
set_option maxRecDepth 100000 in
set_option maxHeartbeats 4000000 in
theorem walk_in {F : Fence} (hd : F.depth = none) (hf : F.fn 116) (hro : F.round = none) {w : World} {Q : Nat → Prop} (l n0 N : Nat) (own : Nat → Prop) (hQ : ∀ b, Q b → b < n0 ∧ ¬ own b) (J Jx : List (YE w Q) → World → Prop) (hJ : ∀ pre W o, J pre W → J pre (W.alloc o))
 (hY : ∀ m pre (x : YE w Q) W, J pre W → pre.length < N → YieldAt F m Try.prog l (encY x) W fun e W' => (e = .returned (.bool true) ∧ J (pre ++ [x]) W' ∧ KpC n0 own W W') ∨ (e = .returned (.bool false) ∧ Jx (pre ++ [x]) W')) :
 ∀ (M : Nat) (blk : List S), (preSL blk).length < M → wSL blk ≤ 1000000 → ∀ (n : Nat) (A : Option Addr) (cap : Nat) (lp : Int) (pre : List (YE w Q)) (W : World), StmtsI w Q blk (.slice A blk.length cap) → In Q w W → i64 lp → J pre W → n0 ≤ W.heap.size → pre.length + (preSL blk).length ≤ N →
  CallsIn F n Try.prog 116 #[.slice A blk.length cap, .int .i64 lp, .func (.yield l) #[] #[]] W (WkOk w Q n0 own J Jx pre (lpSL blk lp) W) := by
 intro M
 induction M with
 | zero => intro blk h; omega
 | succ M ih =>
  intro blk hM hws n A cap lp pre W hbl hI hlp hj hn0 hN
  have hdd : ∀ k : Nat, (F.depth.isSome = true → 1 ≤ k) := fun k h => by rw [hd] at h; cases h
  refine callsIn_of_wp Try.func116 rfl hf ?_ hro
  simp only [Try.ntmps116, List.size_toArray, List.length_cons, List.length_nil, Nat.reduceAdd, Nat.reduceSub, Array.replicate_succ, Array.replicate_zero, List.push_toArray, List.append_toArray, List.nil_append, List.cons_append]
  obtain ⟨_, hlc, hcc, _⟩ := slice_len hbl
  have HBl := Lib.hid hbl
  have HI := Lib.hid hI
  have HJ := Lib.hid hJ
  have HY := Lib.hid hY
  have HQ := Lib.hid hQ
  have Hj := Lib.hid hj
  have HN := Lib.hid hN
  have HWs := Lib.hid hws
  unfold i64 at hlp
  clear hbl hI hJ hY hQ hj hN hws
  gi_wp2
  gi_loopw [12] (fun i wr => ∃ (k : Nat) (ys : List (YE w Q)), k ≤ blk.length ∧ i = .int .i64 k ∧ Hid (ys.map valY = lpSL (blk.take k) lp) ∧ Hid (J (pre ++ ys) wr) ∧ Hid (KpC n0 own W wr)) (fun i _ => blk.length - (intOf i).toNat)
  case atStart => exact ⟨0, [], Nat.zero_le _, rfl, Lib.hid (by simp [lpSL]), Lib.hid (by simpa using Hj.out), Lib.hid (KpC.refl W)⟩
  case round =>
   obtain ⟨k, ys, hk, rfl, HYs, HJs, HK⟩ := hrel
   by_cases hlt : k < blk.length
   ·have HIr := Lib.hid (HK.out.inn HQ.out HI.out)
    obtain ⟨a, sid, kind, labels, nm, proc, x, has, args, th, el, L, lc, y0, y1, y2, X, xn, xc, R, rc, T, tc, U, uc, rfl, hqa, hmk, ⟨p0, p1, p2, p3, p4, p5, p6, p7, p8, p9, p10, p11, p12, _⟩, hid, hkind, _, _, _, _, _, hth, hel, hst⟩ := stmt_at HBl.out HIr.out hlt
    have hnr : n0 ≤ wr.heap.size := Nat.le_trans hn0 HK.out.size
    obtain ⟨xv, hxv⟩ : ∃ xv : YE w Q, xv = ⟨((blk[k], lp), [.int .i64 sid, .int .i64 kind, .slice L labels.length lc, .string nm, .string proc, .int .i64 y0, .int .i64 y1, .string y2, .slice X xn xc, .bool has, .slice R args.length rc, .slice T th.length tc, .slice U el.length uc]), hst, hlp, Nat.le_trans (wSL_mem (List.getElem_mem hlt)) HWs.out⟩ := ⟨_, rfl⟩
    have HWk : Hid (wSL th ≤ 1000000 ∧ wSL el ≤ 1000000) := Lib.hid (by
     have h1 := Nat.le_trans (wSL_mem (List.getElem_mem hlt)) HWs.out
     rw [hmk, wS] at h1
     exact ⟨by omega, by omega⟩)
    have HXv := Lib.hid hxv
    have HXe : Hid (encY xv = #[.agg #[.int .i64 sid, .int .i64 kind, .slice L labels.length lc, .string nm, .string proc, .int .i64 y0, .int .i64 y1, .string y2, .slice X xn xc, .bool has, .slice R args.length rc, .slice T th.length tc, .slice U el.length uc], .int .i64 lp]) := Lib.hid (by rw [hxv]; rfl)
    have HXl : Hid (valY xv = (blk[k], lp)) := Lib.hid (by rw [hxv]; rfl)
    clear hxv
    have hlens : (lpSL blk lp).length = (preSL blk).length := by rw [← lpSL_fst blk lp, List.length_map]
    have hleny : ys.length = (lpSL (blk.take k) lp).length := by rw [← HYs.out, List.length_map]
    have hlenp := (lpSL_prefix (l := blk) (k := k + 1) lp).length_le
    rw [lpSL_take hlt, List.length_append, hmk, lpS, List.length_cons, List.length_append] at hlenp
    have HLen : Hid ((pre ++ ys).length < N ∧ (pre ++ ys ++ [xv]).length + (preSL th).length ≤ N ∧ (pre ++ ys ++ [xv]).length + (preSL th).length + (preSL el).length ≤ N) := Lib.hid (by
     have h1 := HN.out
     have h2 : ∀ (c : List S) (i : Int), (lpSL c i).length = (preSL c).length := fun c i => by rw [← lpSL_fst c i, List.length_map]
     simp only [h2] at hlenp hleny
     simp only [List.length_append, List.length_cons, List.length_nil]
     omega)
    have HPr : Hid ((preSL th).length < M ∧ (preSL el).length < M) := Lib.hid (by
     have h1 : (preS blk[k]).length ≤ (preSL blk).length := by
      have h2 := (lpSL_prefix (l := blk) (k := k + 1) lp).length_le
      rw [lpSL_take hlt, List.length_append] at h2
      have h3 := congrArg List.length (lpS_fst blk[k] lp)
      rw [List.length_map] at h3
      omega
     rw [hmk, preS, List.length_cons, List.length_append] at h1
     omega)
    have HYt : Hid ((ys ++ [xv]).map valY = lpSL (blk.take k) lp ++ [(blk[k], lp)]) := Lib.hid (by rw [List.map_append, HYs.out, List.map_cons, List.map_nil, HXl.out])
    have HTk : Hid (lpSL (blk.take (k + 1)) lp = lpSL (blk.take k) lp ++ [(blk[k], lp)] ++ (lpSL th (if kind = 6 then sid else lp) ++ lpSL el (if kind = 6 then sid else lp))) := Lib.hid (by rw [lpSL_take hlt, hmk, lpS]; simp)
    have HPf : Hid (lpSL (blk.take (k + 1)) lp <+: lpSL blk lp) := Lib.hid (lpSL_prefix lp)
    have HY1 := Lib.hid (YieldAt.mono (HY.out (n - 1) (pre ++ ys) xv (wr.alloc (.cells #[.int .i64 sid, .int .i64 kind, .slice L labels.length lc, .string nm, .string proc, .int .i64 y0, .int .i64 y1, .string y2, .slice X xn xc, .bool has, .slice R args.length rc, .slice T th.length tc, .slice U el.length uc] 60)) (HJ.out _ _ _ HJs.out) HLen.out.1) (R' := fun e W2 => (e = .returned (.bool true) ∧ Hid (J (pre ++ ys ++ [xv]) W2) ∧ Hid (KpC n0 own W W2) ∧ Hid (Blk W2 wr.heap.size 60 #[.int .i64 sid, .int .i64 kind, .slice L labels.length lc, .string nm, .string proc, .int .i64 y0, .int .i64 y1, .string y2, .slice X xn xc, .bool has, .slice R args.length rc, .slice T th.length tc, .slice U el.length uc]) ∧ W2.cell? ⟨wr.heap.size, 11, none⟩ = some (.slice T th.length tc)) ∨ (e = .returned (.bool false) ∧ Hid (Jx (pre ++ ys ++ [xv]) W2))) (fun e W2 h => by
     rcases h with ⟨h1, h2, h3⟩ | ⟨h1, h2⟩
     ·have hb := h3.blk hnr (by decide) (Blk.new wr 60 #[.int .i64 sid, .int .i64 kind, .slice L labels.length lc, .string nm, .string proc, .int .i64 y0, .int .i64 y1, .string y2, .slice X xn xc, .bool has, .slice R args.length rc, .slice T th.length tc, .slice U el.length uc])
      exact .inl ⟨h1, Lib.hid h2, Lib.hid ((HK.out.trans (KpC.of_below hnr (below_box _))).trans h3), Lib.hid hb, by rw [hb.cell]; rfl⟩
     ·exact .inr ⟨h1, Lib.hid h2⟩))
    rw [HXe.out] at HY1
    have HW1 := Lib.hid (fun (inner : Int) (hin : i64 inner) (ps : List (YE w Q)) (V : World) (hv : J ps V) (hk : KpC n0 own W V) (hl : ps.length + (preSL th).length ≤ N) => ih th HPr.out.1 HWk.out.1 (n - 1) T tc inner ps V hth (hk.inn HQ.out HI.out) hin hv (Nat.le_trans hn0 hk.size) hl)
    have HW2 := Lib.hid (fun (inner : Int) (hin : i64 inner) (ps : List (YE w Q)) (V : World) (hv : J ps V) (hk : KpC n0 own W V) (hl : ps.length + (preSL el).length ≤ N) => ih el HPr.out.2 HWk.out.2 (n - 1) U uc inner ps V hel (hk.inn HQ.out HI.out) hin hv (Nat.le_trans hn0 hk.size) hl)
    have hkb := hkind
    have hidb := hid
    unfold i64 at hkb hidb
    clear hth hel hst hqa hmk hlens hleny hlenp HPr HXv hid hkind ih
    obtain ⟨fn, tmps, assign, body, hy, hR⟩ := HY1.out
    by_cases hk6 : kind = 6
    ·subst hk6
     rw [if_pos rfl] at HTk
     have HTk := Lib.hid HTk.out
     gi_wp2_with (first
      | ((try refine ⟨hdd _, ?_⟩); refine hR.mono ?_; clear hR; rintro e W2 (⟨rfl, hJ2, hK2, hB2, c11⟩ | ⟨rfl, hx2⟩))
      | ((try refine ⟨hdd _, ?_⟩); gi_at_call 116; refine (HW1.out sid ⟨by omega, by omega⟩ (pre ++ ys ++ [xv]) W2 hJ2.out hK2.out HLen.out.2.1).mono ?_; clear HW1; rintro e W3 (⟨rfl, zs, hz, hJ3, hK3⟩ | ⟨rfl, zs, hz, hx3⟩); have HKB := Lib.hid hK3; have HZ3 := Lib.hid hz; have HJ3 := Lib.hid hJ3; have c12 : W3.cell? ⟨wr.heap.size, 12, none⟩ = some (.slice U el.length uc) := (by rw [(hK3.blk hnr (by decide) hB2.out).cell]; rfl); clear hz hJ3 hK3)
      | ((try refine ⟨hdd _, ?_⟩); gi_at_call 116; refine (HW2.out sid ⟨by omega, by omega⟩ (pre ++ ys ++ [xv] ++ zs) W3 HJ3.out (hK2.out.trans HKB.out) (wk_len HLen.out.2.2 HZ3.out)).mono ?_; rintro e W4 (⟨rfl, zt, ht, hJ4, hK4⟩ | ⟨rfl, zt, ht, hx4⟩)))
     ·refine ⟨⟨k + 1, ys ++ [xv] ++ zs ++ zt, by omega, by go_num, Lib.hid ?_, Lib.hid (by simpa only [List.append_assoc] using hJ4), Lib.hid ((hK2.out.trans HKB.out).trans hK4)⟩, by simp [intOf]; omega⟩
      rw [HTk.out, List.map_append, List.map_append, HYt.out, HZ3.out, ht]
      simp only [List.append_assoc]
     ·go_ret
      obtain ⟨r, hr⟩ := ht
      obtain ⟨s, hs⟩ := HPf.out
      refine .inr ⟨rfl, ys ++ [xv] ++ zs ++ zt, ⟨r ++ s, ?_⟩, by simpa only [List.append_assoc] using hx4⟩
      rw [← hs, HTk.out, List.map_append, List.map_append, HYt.out, HZ3.out, ← hr]
      simp only [List.append_assoc]
     ·go_ret
      obtain ⟨r, hr⟩ := hz
      obtain ⟨s, hs⟩ := HPf.out
      refine .inr ⟨rfl, ys ++ [xv] ++ zs, ⟨r ++ (lpSL el sid ++ s), ?_⟩, by simpa only [List.append_assoc] using hx3⟩
      rw [← hs, HTk.out, List.map_append, HYt.out, ← hr]
      simp only [List.append_assoc]
     ·go_ret
      obtain ⟨s, hs⟩ := HPf.out
      refine .inr ⟨rfl, ys ++ [xv], ⟨lpSL th sid ++ (lpSL el sid ++ s), ?_⟩, by simpa only [List.append_assoc] using hx2.out⟩
      rw [← hs, HTk.out, HYt.out]
      simp only [List.append_assoc]
    ·have hk7 : (kind == 6) = false := beq_eq_false_iff_ne.2 hk6
     rw [if_neg hk6] at HTk
     have HTk := Lib.hid HTk.out
     gi_wp2_with (first
      | ((try refine ⟨hdd _, ?_⟩); refine hR.mono ?_; clear hR; rintro e W2 (⟨rfl, hJ2, hK2, hB2, c11⟩ | ⟨rfl, hx2⟩))
      | ((try refine ⟨hdd _, ?_⟩); gi_at_call 116; refine (HW1.out lp ⟨by omega, by omega⟩ (pre ++ ys ++ [xv]) W2 hJ2.out hK2.out HLen.out.2.1).mono ?_; clear HW1; rintro e W3 (⟨rfl, zs, hz, hJ3, hK3⟩ | ⟨rfl, zs, hz, hx3⟩); have HKB := Lib.hid hK3; have HZ3 := Lib.hid hz; have HJ3 := Lib.hid hJ3; have c12 : W3.cell? ⟨wr.heap.size, 12, none⟩ = some (.slice U el.length uc) := (by rw [(hK3.blk hnr (by decide) hB2.out).cell]; rfl); clear hz hJ3 hK3)
      | ((try refine ⟨hdd _, ?_⟩); gi_at_call 116; refine (HW2.out lp ⟨by omega, by omega⟩ (pre ++ ys ++ [xv] ++ zs) W3 HJ3.out (hK2.out.trans HKB.out) (wk_len HLen.out.2.2 HZ3.out)).mono ?_; rintro e W4 (⟨rfl, zt, ht, hJ4, hK4⟩ | ⟨rfl, zt, ht, hx4⟩)))
     ·refine ⟨⟨k + 1, ys ++ [xv] ++ zs ++ zt, by omega, by go_num, Lib.hid ?_, Lib.hid (by simpa only [List.append_assoc] using hJ4), Lib.hid ((hK2.out.trans HKB.out).trans hK4)⟩, by simp [intOf]; omega⟩
      rw [HTk.out, List.map_append, List.map_append, HYt.out, HZ3.out, ht]
      simp only [List.append_assoc]
     ·go_ret
      obtain ⟨r, hr⟩ := ht
      obtain ⟨s, hs⟩ := HPf.out
      refine .inr ⟨rfl, ys ++ [xv] ++ zs ++ zt, ⟨r ++ s, ?_⟩, by simpa only [List.append_assoc] using hx4⟩
      rw [← hs, HTk.out, List.map_append, List.map_append, HYt.out, HZ3.out, ← hr]
      simp only [List.append_assoc]
     ·go_ret
      obtain ⟨r, hr⟩ := hz
      obtain ⟨s, hs⟩ := HPf.out
      refine .inr ⟨rfl, ys ++ [xv] ++ zs, ⟨r ++ (lpSL el lp ++ s), ?_⟩, by simpa only [List.append_assoc] using hx3⟩
      rw [← hs, HTk.out, List.map_append, HYt.out, ← hr]
      simp only [List.append_assoc]
     ·go_ret
      obtain ⟨s, hs⟩ := HPf.out
      refine .inr ⟨rfl, ys ++ [xv], ⟨lpSL th lp ++ (lpSL el lp ++ s), ?_⟩, by simpa only [List.append_assoc] using hx2.out⟩
      rw [← hs, HTk.out, HYt.out]
      simp only [List.append_assoc]
   ·obtain rfl : k = blk.length := by omega
    gi_wp2
    go_ret
    exact .inl ⟨rfl, ys, by have := HYs.out; rwa [List.take_length] at this, HJs.out, HK.out⟩
end Go.Proofs.Ytehpinnmalpgpaa
