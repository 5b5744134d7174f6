/- Texts, merged by a program; only what is used. -/
import Derived.Maps.AppendAt
import Derived.Maps.Range
import Derived.Deep.RegionHeld3
import Derived.Deep.LoopGhost
import Derived.Deep.Cut
import Derived.Deep.CutRange
import Derived.Laws.Rows
import Derived.Test.YtehpinnmalpgpaaGreatK1
import Derived.Test.YtehpinnmalpgpaaGreatK2
import Derived.Test.YtehpinnmalpgpaaGreatK3
import Derived.Test.YtehpinnmalpgpaaGreatK4
import Derived.Test.YtehpinnmalpgpaaGreatK5
namespace Go.Proofs.YtehpinnmalpgpaaGreat
open Go.ChangeShapes Go.WideShapes Go.ChangeAt Go.RowKit Go.Deep
set_option linter.unusedVariables false
def hasB (l : List ByteArray) (s : ByteArray) : Bool := l.any fun t => decide (t = s)
theorem hasB_iff {l : List ByteArray} {s : ByteArray} : hasB l s = true ↔ s ∈ l := by simp [hasB]
def spoke (l : List ByteArray) (s : ByteArray) : List ByteArray := if hasB l s then l else l ++ [s]
mutual
def walkE : E → List ByteArray → List ByteArray
  | .mk op _ nm ks, l => walkL ks (if op = 2 then spoke l nm else l)
def walkL : List E → List ByteArray → List ByteArray
  | [], l => l
  | k :: ks, l => walkL ks (walkE k l)
end
mutual
def sizE : E → Nat
  | .mk _ _ _ ks => sizL ks + 1
def sizL : List E → Nat
  | [] => 0
  | k :: ks => sizE k + sizL ks
end
theorem spoke_len (l : List ByteArray) (s : ByteArray) : l.length ≤ (spoke l s).length ∧ (spoke l s).length ≤ l.length + 1 := by unfold spoke; split <;> simp
theorem spoke_all {p : ByteArray → Prop} {l : List ByteArray} {s : ByteArray} (h : ∀ t ∈ l, p t) (hs : p s) : ∀ t ∈ spoke l s, p t := by
  unfold spoke; split
  · exact h
  · intro t ht; simp at ht; rcases ht with ht | rfl
    · exact h t ht
    · exact hs
mutual
theorem walkE_len : ∀ (e : E) (l : List ByteArray), (walkE e l).length ≤ l.length + sizE e
  | .mk op _ nm ks, l => by
    rw [walkE, sizE]
    have h1 := walkL_len ks (if op = 2 then spoke l nm else l)
    have h2 := spoke_len l nm
    split at h1 <;> simp_all <;> omega
theorem walkL_len : ∀ (ks : List E) (l : List ByteArray), (walkL ks l).length ≤ l.length + sizL ks
  | [], l => by simp [walkL]
  | k :: ks, l => by
    rw [walkL, sizL]
    have h1 := walkL_len ks (walkE k l)
    have h2 := walkE_len k l
    omega
end
mutual
theorem mayE_siz : ∀ (e : E) (d : Nat), mayE d e = true → sizE e + 1 ≤ 2 ^ d
  | .mk op n nm ks, d, h => by
    rw [mayE, Bool.and_eq_true, decide_eq_true_eq] at h
    obtain ⟨hd, h⟩ := h
    rw [sizE]
    have hp : 2 ^ d = 2 * 2 ^ (d - 1) := by rw [← Nat.pow_succ']; congr 1; omega
    have hp1 : 1 ≤ 2 ^ (d - 1) := Nat.one_le_two_pow
    by_cases h1 : op = 1
    · rw [if_pos h1] at h
      simp only [Bool.and_eq_true, decide_eq_true_eq] at h
      obtain rfl : ks = [] := List.eq_nil_of_length_eq_zero h.2
      simp only [sizL]; omega
    · rw [if_neg h1] at h
      by_cases h2 : op = 2
      · rw [if_pos h2] at h
        simp only [Bool.and_eq_true, decide_eq_true_eq] at h
        obtain rfl : ks = [] := List.eq_nil_of_length_eq_zero h.2
        simp only [sizL]; omega
      · rw [if_neg h2] at h
        simp only [Bool.and_eq_true, decide_eq_true_eq] at h
        have hl := mayL_siz ks (d - 1) h.2
        have ho := opN_le op
        have hlen : ks.length ≤ 2 := by omega
        have hm : ks.length * (2 ^ (d - 1) - 1) ≤ 2 * (2 ^ (d - 1) - 1) := Nat.mul_le_mul_right _ hlen
        omega
theorem mayL_siz : ∀ (ks : List E) (d : Nat), mayL d ks = true → sizL ks ≤ ks.length * (2 ^ d - 1)
  | [], d, _ => by simp [sizL]
  | k :: ks, d, h => by
    rw [mayL, Bool.and_eq_true] at h
    have h1 := mayE_siz k d h.1
    have h2 := mayL_siz ks d h.2
    rw [sizL, List.length_cons, Nat.succ_mul]
    omega
end
theorem walkL_drop {ks : List E} {k : Nat} (h : k < ks.length) (l : List ByteArray) : walkL (ks.drop k) l = walkL (ks.drop (k + 1)) (walkE ks[k] l) := by
  rw [List.drop_eq_getElem_cons h, walkL]
theorem sizL_drop {ks : List E} {k : Nat} (h : k < ks.length) : sizL (ks.drop k) = sizE ks[k] + sizL (ks.drop (k + 1)) := by
  rw [List.drop_eq_getElem_cons h, sizL]
theorem string_info : (Tryz.prog.info? 9).map (fun i => (i.zero, i.size, i.bytes)) = some (some (.string ⟨#[]⟩), 1, 16) := by kernel_rfl
def small (s : ByteArray) : Prop := s.size ≤ 9223372036854775807
/-- a row of texts of the call's own was answered, which lies where v lay or is new; nothing else has turned -/
def RowOk (base : Nat) (v : Value) (l : List ByteArray) (w : World) (e : Ending) (w' : World) : Prop :=
  ∃ v', e = .returned v' ∧ w'.ownsRow base 9 1 v' l.length (strs l) ∧ w.grownBy w' v.ownBlock ∧ ∀ j, v'.ownBlock = some j → w.heap.size ≤ j ∨ v.ownBlock = some j
theorem In.grown {Q : Nat → Prop} {w W W' : World} {row : Option Nat} (h : In Q w W) (hg : W.grownBy W' row) (hr : ∀ j, row = some j → ¬ Q j) : In Q w W' :=
  ⟨fun b hb => Nat.lt_of_lt_of_le (h.1 b hb) hg.size, fun p hp => (World.cell?_of_block (w := W) (hg.block _ (h.1 _ hp) (fun e => hr _ e.symm hp))).trans (h.2 p hp)⟩
theorem lies_then {a b : World} {u v v' : Option Nat} (h : a.grownBy b u) (h1 : ∀ j, v = some j → a.heap.size ≤ j ∨ u = some j) (h2 : ∀ j, v' = some j → b.heap.size ≤ j ∨ v = some j) : ∀ j, v' = some j → a.heap.size ≤ j ∨ u = some j := fun j hj => by
  rcases h2 j hj with h | h
  · exact .inl (Nat.le_trans (by assumption : a.grownBy b u).size h)
  · exact h1 j h
theorem own_shape {w : World} {base n : Nat} {e : TypeId} {size : Nat} {v : Value} {xs : List Value} (h : w.ownsRow base e size v n xs) : ∃ A cap, v = .slice A n cap ∧ n ≤ cap ∧ cap ≤ 9223372036854775807 := by
  rcases h.2 with ⟨rfl, rfl⟩ | ⟨g, cap, cur, rfl, _, _, h1, h2, _⟩
  · exact ⟨none, 0, rfl, by omega, by omega⟩
  · unfold maxLen at h2; exact ⟨_, cap, rfl, h1, by omega⟩
set_option maxHeartbeats 1000000 in
theorem walkE_all {w : World} {Q : Nat → Prop} {e : E} {cs : List Value} (h : ExprI w Q e cs) : ∀ {l : List ByteArray}, (∀ t ∈ l, small t) → ∀ t ∈ walkE e l, small t := by
  induction h with
  | @mk op n nm ks A cap css hop hn hnm hcap hA hk ih =>
    intro l hl
    have key : ∀ (m k : Nat), k + m = ks.length → ∀ l : List ByteArray, (∀ t ∈ l, small t) → ∀ t ∈ walkL (ks.drop k) l, small t := by
      intro m
      induction m with
      | zero => intro k hk l hl; rw [List.drop_of_length_le (by omega), walkL]; exact hl
      | succ m ihm =>
        intro k hk l hl
        rw [walkL_drop (by omega)]
        exact ihm (k + 1) (by omega) _ (ih k (by omega) hl)
    rw [walkE]
    have := key ks.length 0 (by omega) (if op = 2 then spoke l nm else l) (by split; exact spoke_all hl hnm; exact hl)
    rwa [List.drop_zero] at this
def namesE (e : E) : List ByteArray := if mayE 20 e then walkE e [] else []
def NewRow (l : List ByteArray) (w : World) (e : Ending) (w' : World) : Prop := ∃ v, e = .returned v ∧ w'.ownsRow w.heap.size 9 1 v l.length (strs l) ∧ Below w.heap.size w w'
theorem own_lower {w : World} {base base' n : Nat} {e : TypeId} {size : Nat} {v : Value} {xs : List Value} (h : w.ownsRow base e size v n xs) (hb : base' ≤ base) : w.ownsRow base' e size v n xs := by
  refine ⟨h.1, ?_⟩
  rcases h.2 with h1 | ⟨g, cap, cur, h1, h2, r⟩
  · exact .inl h1
  · exact .inr ⟨g, cap, cur, h1, by omega, r⟩
theorem new_one (w : World) (s : ByteArray) : ∀ j u, [Value.string s][j]? = some u → (w.alloc (.cells #[.string s] 9)).cell? ((⟨w.heap.size, 0, none⟩ : Addr).add j) = some u := by
  intro j u hu
  have hj : j = 0 := by have := (List.getElem?_eq_some_iff.1 hu).1; simp at this; exact this
  subst hj
  simp at hu
  subst hu
  simp [Addr.add]
theorem texts_cells {w W : World} {Q : Nat → Prop} {l : List ByteArray} {a : Addr} {n cap : Nat} (h : TextsI w Q l (.slice (some a) n cap)) (hI : In Q w W) : ∀ j u, (strs l)[j]? = some u → W.cell? (a.add j) = some u := by
  intro j u hu
  have hj : j < l.length := by have := (List.getElem?_eq_some_iff.1 hu).1; simpa [strs] using this
  obtain ⟨a', ha, _, hc, _⟩ := text_at h hI hj
  injection ha with ha
  subst ha
  rw [hc]
  simp only [strs, List.getElem?_map, List.getElem?_eq_getElem hj, Option.map_some] at hu
  exact hu
end Go.Proofs.YtehpinnmalpgpaaGreat
namespace Go.Proofs.YtehpinnmalpgpaaGreat
open Go.ChangeShapes Go.WideShapes Go.ChangeAt Go.RowKit Go.Deep
set_option linter.unusedVariables false
/-- the blocks made since -/
abbrev nw (W w' : World) : Nat → Prop := fun b => W.heap.size ≤ b ∧ b < w'.heap.size
theorem addr0 (b k : Nat) : (⟨b, 0, none⟩ : Addr).add k = ⟨b, k, none⟩ := by
  by_cases h0 : k = 0
  · subst h0; rw [add_zero_]
  · rw [add_ne _ h0]; simp
theorem below_setc {B : Nat} {a b : World} (h : Below B a b) {p : Addr} (hp : B ≤ p.block) (u : Value) : Below B a (b.setCell p u) :=
  ⟨h.os, h.tape, h.output, by simp only [World.setCell, Array.size_modify]; exact h.size, fun k hk => (Below.heap_setCell _ _ _ _ (by omega)).trans (h.block k hk)⟩
theorem row_slice {α : Type} {w' : World} {Q : Nat → Prop} {C : Nat} {R : α → List Value → Prop} {l : List α} {b : Nat} {t : TypeId} {css : Nat → List Value} (hb : Blk w' b t (flatN css l.length).toArray) (hr : ∀ i (h : i < l.length), R l[i] (css i)) (hC : ∀ x cs, R x cs → CellsOk C cs) (hq : Q b) (hl : l.length ≤ 1000000) :
    SliceI w' Q C R l (.slice (some ⟨b, 0, none⟩) l.length l.length) := by
  refine ⟨some ⟨b, 0, none⟩, l.length, css, rfl, ⟨Nat.le_refl _, by omega⟩, fun _ => ⟨_, rfl, hq, fun i hi j u hu => ?_⟩, hr⟩
  rw [addr0, hb.cell]
  simp only [List.getElem?_toArray]
  have hj : j < C := by rw [← (hC _ _ (hr i hi)).1]; exact (List.getElem?_eq_some_iff.1 hu).1
  rw [flatN_get (fun i hi => (hC _ _ (hr i hi)).1) hi hj]
  exact hu
theorem nil_slice {α : Type} {w' : World} {Q : Nat → Prop} {C : Nat} {R : α → List Value → Prop} : SliceI w' Q C R ([] : List α) (.slice none 0 0) :=
  ⟨none, 0, fun _ => [], rfl, ⟨Nat.le_refl _, by omega⟩, fun h => absurd h (by simp), fun i h => absurd h (by simp)⟩
theorem set_same {cs : Array Value} {i : Nat} {u : Value} (h : cs[i]? = some u) : cs.setIfInBounds i u = cs := by
  apply Array.ext
  · simp
  · intro k h1 h2
    rw [Array.getElem_setIfInBounds]
    split
    · rename_i hk; subst hk; obtain ⟨_, h⟩ := Array.getElem?_eq_some_iff.1 h; exact h.symm
    · rfl
theorem textOk (s : ByteArray) (cs : List Value) (h : TextI s cs) : CellsOk 1 cs := by obtain ⟨rfl, _⟩ := h; exact ⟨rfl, by simp [Value.oneCell']⟩
theorem parOk (s : Pa) (cs : List Value) (h : ParI s cs) : CellsOk 2 cs := by obtain ⟨rfl, _⟩ := h; exact ⟨rfl, by simp [Value.oneCell']⟩
end Go.Proofs.YtehpinnmalpgpaaGreat
namespace Go.Proofs.YtehpinnmalpgpaaGreat
open Go.ChangeShapes Go.WideShapes Go.ChangeAt Go.RowKit Go.Deep
set_option linter.unusedVariables false
/-- a piece of a row: block, place, the nodes, the capacity that the cursor keeps of it -/
structure Hole (α : Type) where
  b : Nat
  o : Nat
  ts : List α
  cap : Nat
section
variable {α : Type} {C : Nat} {R : World → (Nat → Prop) → α → List Value → Prop} {w W W' : World} {Q : Nat → Prop} {base : Nat} {G : World → Prop} {hs : List (Hole α)} {T : Nat → Prop}
end
end Go.Proofs.YtehpinnmalpgpaaGreat
namespace Go.Proofs.YtehpinnmalpgpaaGreat
open Go.ChangeShapes Go.WideShapes Go.ChangeAt Go.RowKit Go.Deep
set_option linter.unusedVariables false
theorem exprOk (w : World) (Q : Nat → Prop) (x : E) (cs : List Value) (h : ExprI w Q x cs) : CellsOk 4 cs := by cases h; exact ⟨rfl, by simp [Value.oneCell']⟩
theorem ExprI.of_slice {V : World} {Q : Nat → Prop} {op n : Int} {nm : ByteArray} {ks : List E} {v : Value} (h : SliceI V Q 4 (ExprI V Q) ks v) (hop : i64 op) (hn : i64 n) (hnm : nm.size ≤ 9223372036854775807) : ExprI V Q (.mk op n nm ks) [.int .i64 op, .int .i64 n, .string nm, v] := by
  obtain ⟨A, cap, css, rfl, h2, h3, h4⟩ := h
  exact .mk hop hn hnm h2 h3 h4
mutual
/-- how much an expression is: each node, each byte of a name -/
def wE : E → Nat
  | .mk _ _ nm ks => wL ks + nm.size + 1
def wL : List E → Nat
  | [] => 0
  | k :: ks => wE k + wL ks
end
mutual
theorem sizE_w : ∀ e : E, sizE e ≤ wE e
  | .mk _ _ nm ks => by rw [sizE, wE]; have := sizL_w ks; omega
theorem sizL_w : ∀ ks : List E, sizL ks ≤ wL ks
  | [] => by rw [sizL]; exact Nat.zero_le _
  | k :: ks => by rw [sizL, wL]; have := sizE_w k; have := sizL_w ks; omega
end
end Go.Proofs.YtehpinnmalpgpaaGreat
namespace Go.Proofs.YtehpinnmalpgpaaGreat
open Go.ChangeShapes Go.WideShapes Go.ChangeAt Go.RowKit Go.Deep
set_option linter.unusedVariables false
theorem below_step {V U q : World} (h : Below V.heap.size V U) (hb : Below U.heap.size U q) : Below V.heap.size V q := h.trans (hb.mono h.size)
theorem below_stepA {V U : World} (h : Below V.heap.size V U) (o : Obj) : Below V.heap.size V (U.alloc o) := below_step h (below_box o)
section
variable {α : Type} {C : Nat} {R : World → (Nat → Prop) → α → List Value → Prop} {w W W' : World} {Q : Nat → Prop} {base : Nat} {G : World → Prop} {hs : List (Hole α)} {T : Nat → Prop}
end
theorem own_ge {w : World} {base n : Nat} {e : TypeId} {size : Nat} {v : Value} {xs : List Value} (h : w.ownsRow base e size v n xs) {j : Nat} (hj : v.ownBlock = some j) : base ≤ j := by
  rcases h.2 with ⟨rfl, _⟩ | ⟨g, cap, cur, rfl, hb, _⟩
  · simp [Value.ownBlock] at hj
  · have : g = j := by simpa [Value.ownBlock] using hj
    omega
end Go.Proofs.YtehpinnmalpgpaaGreat
namespace Go.Proofs.YtehpinnmalpgpaaGreat
open Go.ChangeShapes Go.WideShapes Go.ChangeAt Go.RowKit Go.Deep
set_option linter.unusedVariables false
def wAr : List Ar → Nat
  | [] => 0
  | a :: l => wE a.x + (a.nm.size + 1) + wAr l
theorem argCk (w : World) (Q : Nat → Prop) (x : Ar) (cs : List Value) (h : ArgI w Q x cs) : CellsOk 6 cs := by
  obtain ⟨xcs, rfl, _, h⟩ := h
  obtain ⟨h1, h2⟩ := exprOk _ _ _ _ h
  exact ⟨by simp [h1], fun u hu => by rcases List.mem_cons.1 hu with rfl | hu; rfl; rcases List.mem_cons.1 hu with rfl | hu; rfl; exact h2 u hu⟩
end Go.Proofs.YtehpinnmalpgpaaGreat
namespace Go.Proofs.YtehpinnmalpgpaaGreat
open Go.ChangeShapes Go.WideShapes Go.ChangeAt Go.RowKit Go.Deep
set_option linter.unusedVariables false
def wT : List ByteArray → Nat
  | [] => 0
  | s :: l => s.size + 1 + wT l
theorem wT_mem {l : List ByteArray} {s : ByteArray} (h : s ∈ l) : s.size + 1 ≤ wT l := by
  induction l with
  | nil => simp at h
  | cons x l ih =>
    rw [wT]
    rcases List.mem_cons.1 h with rfl | h
    · omega
    · have := ih h; omega
theorem wT_len (l : List ByteArray) : l.length ≤ wT l := by
  induction l with
  | nil => exact Nat.zero_le _
  | cons x l ih => rw [wT, List.length_cons]; omega
mutual
/-- how much a statement is -/
def wS : S → Nat
  | .mk _ _ labels nm proc x _ args th el => wE x + wT labels + (nm.size + 1) + (proc.size + 1) + wAr args + wSL th + wSL el
def wSL : List S → Nat
  | [] => 0
  | s :: l => wS s + wSL l
end
theorem wSL_mem {l : List S} {s : S} (h : s ∈ l) : wS s ≤ wSL l := by
  induction l with
  | nil => simp at h
  | cons x l ih =>
    rw [wSL]
    rcases List.mem_cons.1 h with rfl | h
    · omega
    · have := ih h; omega
theorem StmtI.of_slice {w : World} {Q : Nat → Prop} {id kind : Int} {labels : List ByteArray} {nm proc : ByteArray} {x : E} {has : Bool} {args : List Ar} {th el : List S} {vl va vt ve : Value} {x0 x1 x2 x3 : Value} (hid : i64 id) (hkind : i64 kind) (hnm : nm.size ≤ 9223372036854775807) (hproc : proc.size ≤ 9223372036854775807)
    (hl : TextsI w Q labels vl) (hx : ExprI w Q x [x0, x1, x2, x3]) (ha : SliceI w Q 6 (ArgI w Q) args va) (ht : StmtsI w Q th vt) (he : StmtsI w Q el ve) : StmtI w Q (.mk id kind labels nm proc x has args th el) [.int .i64 id, .int .i64 kind, vl, .string nm, .string proc, x0, x1, x2, x3, .bool has, va, vt, ve] := by
  obtain ⟨A1, cap1, css1, rfl, h1, h2, h3⟩ := ht
  obtain ⟨A2, cap2, css2, rfl, h4, h5, h6⟩ := he
  exact .mk hid hkind hnm hproc hl hx ha h1 h4 h2 h5 h3 h6
end Go.Proofs.YtehpinnmalpgpaaGreat
namespace Go.Proofs.YtehpinnmalpgpaaGreat
open Go.ChangeShapes Go.WideShapes Go.ChangeAt Go.RowKit Go.Deep
set_option linter.unusedVariables false
theorem size_set (q : World) (p : Addr) (u : Value) : (q.setCell p u).heap.size = q.heap.size := by simp [World.setCell]
end Go.Proofs.YtehpinnmalpgpaaGreat
namespace Go.Proofs.YtehpinnmalpgpaaGreat
open Go.ChangeShapes Go.WideShapes Go.ChangeAt Go.RowKit Go.Deep
set_option linter.unusedVariables false
def S0 : S := .mk 0 0 [] ⟨#[]⟩ ⟨#[]⟩ (.mk 0 0 ⟨#[]⟩ []) false [] [] []
theorem i64_zero : i64 0 := ⟨by omega, by omega⟩
end Go.Proofs.YtehpinnmalpgpaaGreat
namespace Go.Proofs.YtehpinnmalpgpaaGreat
open Go.ChangeShapes Go.WideShapes Go.ChangeAt Go.RowKit Go.Deep
set_option linter.unusedVariables false
set_option linter.unusedSimpArgs false
def S.id : S → Int | .mk id _ _ _ _ _ _ _ _ _ => id
def S.kind : S → Int | .mk _ kind _ _ _ _ _ _ _ _ => kind
def S.labels : S → List ByteArray | .mk _ _ labels _ _ _ _ _ _ _ => labels
def S.nm : S → ByteArray | .mk _ _ _ nm _ _ _ _ _ _ => nm
def S.proc : S → ByteArray | .mk _ _ _ _ proc _ _ _ _ _ => proc
def S.x : S → E | .mk _ _ _ _ _ x _ _ _ _ => x
def S.args : S → List Ar | .mk _ _ _ _ _ _ _ args _ _ => args
def S.th : S → List S | .mk _ _ _ _ _ _ _ _ th _ => th
def S.el : S → List S | .mk _ _ _ _ _ _ _ _ _ el => el
theorem subS_eq (s : S) : subS s = preSL s.th ++ preSL s.el := by cases s; rfl
/-- a program that is not too great -/
structure SmG (p : Pg) : Prop where
  globals : wT p.globals ≤ 1000000
  procs : p.procs.length ≤ 1000000
  proc : ∀ q ∈ p.procs, wSL q.body ≤ 1000000 ∧ wT q.vars ≤ 1000000 ∧ wT q.end_ ≤ 1000000 ∧ q.params.length ≤ 1000000
end Go.Proofs.YtehpinnmalpgpaaGreat
namespace Go.Proofs.YtehpinnmalpgpaaGreat
open Go.ChangeShapes Go.WideShapes Go.ChangeAt Go.RowKit Go.Deep
set_option linter.unusedVariables false
/-- the first statement with that id, and its procedure -/
def findL : List Pr → Int → ByteArray × S × Bool
  | [], _ => (⟨#[]⟩, S0, false)
  | q :: l, id => ((preSL q.body).find? (fun s => s.id == id)).elim (findL l id) (fun s => (q.nm, s, true))
def findP (p : Pg) (id : Int) : ByteArray × S × Bool := findL p.procs id
mutual
theorem preS_w : ∀ (s : S) (x : S), x ∈ preS s → wS x ≤ wS s
  | .mk id kind labels nm proc e has args th el, x, h => by
    rw [preS] at h
    rcases List.mem_cons.1 h with rfl | h
    · exact Nat.le_refl _
    · rw [wS]
      rcases List.mem_append.1 h with h | h
      · have := preSL_w th x h; omega
      · have := preSL_w el x h; omega
theorem preSL_w : ∀ (l : List S) (x : S), x ∈ preSL l → wS x ≤ wSL l
  | [], x, h => by rw [preSL] at h; simp at h
  | s :: l, x, h => by
    rw [preSL] at h
    rw [wSL]
    rcases List.mem_append.1 h with h | h
    · have := preS_w s x h; omega
    · have := preSL_w l x h; omega
end
end Go.Proofs.YtehpinnmalpgpaaGreat
