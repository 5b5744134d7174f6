/- Texts, merged by a program; only what is used. -/
import Derived.Deep.LoopGhost
import Derived.Test.YtcocilpifdjibaaK1
import Derived.Test.YtcocilpifdjibaaK2
import Derived.Test.YtcocilpifdjibaaK3
import Derived.Test.YtcocilpifdjibaaK4
import Derived.Test.YtcocilpifdjibaaK5
import Derived.Test.YtcocilpifdjibaaK6
import Derived.Test.YtcocilpifdjibaaK7
import Derived.Test.YtcocilpifdjibaaK8
import Derived.Test.YtcocilpifdjibaaK9
import Derived.Test.YtcocilpifdjibaaK10
import Derived.Test.YtcocilpifdjibaaK11
import Derived.Test.YtcocilpifdjibaaK12
import Derived.Test.YtcocilpifdjibaaK13
import Derived.Test.YtcocilpifdjibaaK20
namespace Go.Proofs.Ytcocilpifdjibaa
open Go.ChangeShapes Go.WideShapes Go.ChangeAt Go.RowKit Go.Deep
set_option linter.unusedVariables false
def itOk (k : Nat) (x : It) : Bool := decide (x.s.id = ((k + 1 : Nat) : Int)) && decide (x.deep ≤ 12) && stmtOk x.s
theorem itOk_of {k : Nat} {x : It} (h1 : x.s.id = ((k + 1 : Nat) : Int)) (h2 : x.deep ≤ 12) (h3 : stmtOk x.s = true) : itOk k x = true := by
  unfold itOk; rw [decide_eq_true h1, decide_eq_true h2, h3]; rfl
theorem itOk_inv {k : Nat} {x : It} (h : itOk k x = true) : x.s.id = ((k + 1 : Nat) : Int) ∧ x.deep ≤ 12 ∧ stmtOk x.s = true := by
  unfold itOk at h
  rw [Bool.and_eq_true, Bool.and_eq_true] at h
  exact ⟨of_decide_eq_true h.1.1, of_decide_eq_true h.1.2, h.2⟩
def itsOk : List It → Nat → Bool
  | [], _ => true
  | x :: l, k => itOk k x && itsOk l (k + 1)
theorem itsOk_append : ∀ (a b : List It) (k : Nat), itsOk (a ++ b) k = (itsOk a k && itsOk b (k + a.length))
  | [], b, k => by simp [itsOk]
  | x :: a, b, k => by
    rw [List.cons_append, itsOk, itsOk, itsOk_append a b (k + 1), Bool.and_assoc, List.length_cons]
    congr 3
    omega
def allL : List Pr → List It → List It
  | [], out => out
  | q :: l, out => if 200 < (out ++ flatOf q).length then out ++ flatOf q else allL l (out ++ flatOf q)
def allOf (p : Pg) : List It := allL p.procs []
def rMayP (p : Pg) : Bool := !decide (16 < p.globals.length) && !decide (16 < p.procs.length) && allN p.globals && p.procs.all headOk && !decide (200 < (allOf p).length) && itsOk (allOf p) 0
theorem allL_more : ∀ (l : List Pr) (out : List It), ∃ xs, allL l out = out ++ xs
  | [], out => ⟨[], by rw [allL, List.append_nil]⟩
  | q :: l, out => by
    rw [allL]
    split
    · exact ⟨_, rfl⟩
    · obtain ⟨xs, h⟩ := allL_more l (out ++ flatOf q)
      exact ⟨flatOf q ++ xs, by rw [h, List.append_assoc]⟩
mutual
theorem flatL_more : ∀ (l : List S) (d : Nat) (i : Int) (e : Bool) (out : List It), ∃ xs, flatL l d i e out = out ++ xs
  | [], d, i, e, out => ⟨[], by rw [flatL, List.append_nil]⟩
  | s :: l, d, i, e, out => by
    rw [flatL]
    split
    · obtain ⟨xs, h⟩ := flatS_more s d i e out
      obtain ⟨ys, h'⟩ := flatL_more l d i e (out ++ ⟨s, d, i, e⟩ :: xs)
      exact ⟨⟨s, d, i, e⟩ :: xs ++ ys, by rw [h, h']; simp⟩
    · exact ⟨[], by rw [List.append_nil]⟩
theorem flatS_more : ∀ (s : S) (d : Nat) (i : Int) (e : Bool) (out : List It), ∃ xs, flatS s d i e out = out ++ ⟨s, d, i, e⟩ :: xs
  | .mk id kind labels nm proc x has args th el, d, i, e, out => by
    rw [flatS]
    split
    · obtain ⟨xs, h⟩ := flatL_more th (d + 1) id false (out ++ [⟨.mk id kind labels nm proc x has args th el, d, i, e⟩])
      obtain ⟨ys, h'⟩ := flatL_more el (d + 1) id true (out ++ [⟨.mk id kind labels nm proc x has args th el, d, i, e⟩] ++ xs)
      exact ⟨xs ++ ys, by rw [h, h']; simp⟩
    · exact ⟨[], rfl⟩
end
mutual
/-- what may be stands in the row, one behind the other -/
theorem flatL_ok : ∀ (l : List S) (d c c' : Nat), blkOk l d c = some c' → c ≤ 200 → ∀ (i : Int) (e : Bool) (out : List It), out.length ≤ c → ∃ xs, flatL l d i e out = out ++ xs ∧ c' = c + xs.length ∧ itsOk xs c = true
  | [], d, c, c', h, hc, i, e, out, ho => by
    rw [blkOk] at h
    injection h with h
    exact ⟨[], by rw [flatL, List.append_nil], by simp [h], rfl⟩
  | s :: l, d, c, c', h, hc, i, e, out, ho => by
    rw [blkOk] at h
    cases h1 : oneOk s d c with
    | none => rw [h1] at h; simp at h
    | some c1 =>
      rw [h1] at h
      simp only [Option.bind_some] at h
      obtain ⟨xs, a1, a2, a3⟩ := flatS_ok s d c c1 h1 hc i e out ho
      obtain ⟨ys, b1, b2, b3⟩ := flatL_ok l d c1 c' h (oneOk_le s d c c1 hc h1) i e (out ++ xs) (by rw [List.length_append]; omega)
      refine ⟨xs ++ ys, ?_, by rw [List.length_append]; omega, ?_⟩
      · rw [flatL, if_pos (by omega), a1, b1, List.append_assoc]
      · rw [itsOk_append, a3, ← a2, b3]; rfl
theorem flatS_ok : ∀ (s : S) (d c c' : Nat), oneOk s d c = some c' → c ≤ 200 → ∀ (i : Int) (e : Bool) (out : List It), out.length ≤ c → ∃ xs, flatS s d i e out = out ++ xs ∧ c' = c + xs.length ∧ itsOk xs c = true
  | .mk id kind labels nm proc x has args th el, d, c, c', h, hc, i, e, out, ho => by
    rw [oneOk] at h
    split at h
    · rename_i hcnd
      obtain ⟨hd, hc1, hid, hok⟩ := hcnd
      cases h1 : blkOk th (d + 1) (c + 1) with
      | none => rw [h1] at h; simp at h
      | some c1 =>
        rw [h1] at h
        simp only [Option.bind_some] at h
        obtain ⟨xs, a1, a2, a3⟩ := flatL_ok th (d + 1) (c + 1) c1 h1 hc1 id false (out ++ [⟨.mk id kind labels nm proc x has args th el, d, i, e⟩]) (by simp; omega)
        obtain ⟨ys, b1, b2, b3⟩ := flatL_ok el (d + 1) c1 c' h (blkOk_le th (d + 1) (c + 1) c1 hc1 h1) id true (out ++ [⟨.mk id kind labels nm proc x has args th el, d, i, e⟩] ++ xs) (by simp; omega)
        refine ⟨⟨.mk id kind labels nm proc x has args th el, d, i, e⟩ :: (xs ++ ys), ?_, by simp; omega, ?_⟩
        · rw [flatS, if_pos hd, a1, b1]; simp
        · rw [itsOk, itsOk_append, a3, ← a2, b3, itOk_of (by exact hid) (by show (d : Int) ≤ 12; omega) hok]
          rfl
    · cases h
end
mutual
/-- what may not be: too many, or one of them may not be -/
theorem flatL_bad : ∀ (l : List S) (d c : Nat), blkOk l d c = none → c ≤ 200 → ∀ (i : Int) (e : Bool) (out : List It), out.length ≤ c → ∃ xs, flatL l d i e out = out ++ xs ∧ (200 < c + xs.length ∨ itsOk xs c = false)
  | [], d, c, h, hc, i, e, out, ho => by rw [blkOk] at h; cases h
  | s :: l, d, c, h, hc, i, e, out, ho => by
    rw [blkOk] at h
    rw [flatL, if_pos (by omega)]
    cases h1 : oneOk s d c with
    | none =>
      obtain ⟨xs, a1, a2⟩ := flatS_bad s d c h1 hc i e out ho
      obtain ⟨ys, b1⟩ := flatL_more l d i e (out ++ xs)
      refine ⟨xs ++ ys, by rw [a1, b1, List.append_assoc], ?_⟩
      rcases a2 with a2 | a2
      · left; rw [List.length_append]; omega
      · right; rw [itsOk_append, a2]; rfl
    | some c1 =>
      rw [h1] at h
      simp only [Option.bind_some] at h
      obtain ⟨xs, a1, a2, a3⟩ := flatS_ok s d c c1 h1 hc i e out ho
      obtain ⟨ys, b1, b2⟩ := flatL_bad l d c1 h (oneOk_le s d c c1 hc h1) i e (out ++ xs) (by rw [List.length_append]; omega)
      refine ⟨xs ++ ys, by rw [a1, b1, List.append_assoc], ?_⟩
      rcases b2 with b2 | b2
      · left; rw [List.length_append]; omega
      · right; rw [itsOk_append, a3, ← a2, b2]; rfl
theorem flatS_bad : ∀ (s : S) (d c : Nat), oneOk s d c = none → c ≤ 200 → ∀ (i : Int) (e : Bool) (out : List It), out.length ≤ c → ∃ xs, flatS s d i e out = out ++ xs ∧ (200 < c + xs.length ∨ itsOk xs c = false)
  | .mk id kind labels nm proc x has args th el, d, c, h, hc, i, e, out, ho => by
    rw [oneOk] at h
    split at h
    · rename_i hcnd
      obtain ⟨hd, hc1, hid, hok⟩ := hcnd
      rw [flatS, if_pos hd]
      have hone : itOk c ⟨.mk id kind labels nm proc x has args th el, d, i, e⟩ = true := itOk_of (by exact hid) (by show (d : Int) ≤ 12; omega) hok
      cases h1 : blkOk th (d + 1) (c + 1) with
      | none =>
        obtain ⟨xs, a1, a2⟩ := flatL_bad th (d + 1) (c + 1) h1 hc1 id false (out ++ [⟨.mk id kind labels nm proc x has args th el, d, i, e⟩]) (by simp; omega)
        obtain ⟨ys, b1⟩ := flatL_more el (d + 1) id true (out ++ [⟨.mk id kind labels nm proc x has args th el, d, i, e⟩] ++ xs)
        refine ⟨⟨.mk id kind labels nm proc x has args th el, d, i, e⟩ :: (xs ++ ys), by rw [a1, b1]; simp, ?_⟩
        rcases a2 with a2 | a2
        · left; simp; omega
        · right; rw [itsOk, itsOk_append, a2]; simp
      | some c1 =>
        rw [h1] at h
        simp only [Option.bind_some] at h
        obtain ⟨xs, a1, a2, a3⟩ := flatL_ok th (d + 1) (c + 1) c1 h1 hc1 id false (out ++ [⟨.mk id kind labels nm proc x has args th el, d, i, e⟩]) (by simp; omega)
        obtain ⟨ys, b1, b2⟩ := flatL_bad el (d + 1) c1 h (blkOk_le th (d + 1) (c + 1) c1 hc1 h1) id true (out ++ [⟨.mk id kind labels nm proc x has args th el, d, i, e⟩] ++ xs) (by simp; omega)
        refine ⟨⟨.mk id kind labels nm proc x has args th el, d, i, e⟩ :: (xs ++ ys), by rw [a1, b1]; simp, ?_⟩
        rcases b2 with b2 | b2
        · left; simp; omega
        · right; rw [itsOk, itsOk_append, a3, ← a2, b2]; simp
    · rename_i hcnd
      obtain ⟨xs, a1⟩ := flatS_more (.mk id kind labels nm proc x has args th el) d i e out
      refine ⟨_, a1, ?_⟩
      by_cases hc1 : c + 1 ≤ 200
      · right
        rw [itsOk]
        have : itOk c ⟨.mk id kind labels nm proc x has args th el, d, i, e⟩ = false := by
          cases hx : itOk c ⟨.mk id kind labels nm proc x has args th el, d, i, e⟩ with
          | false => rfl
          | true =>
            obtain ⟨e1, e2, e3⟩ := itOk_inv hx
            have e2' : (d : Int) ≤ 12 := e2
            exact absurd ⟨by omega, hc1, e1, e3⟩ hcnd
        rw [this]; rfl
      · left; simp; omega
end
theorem prOk_all : ∀ (l : List Pr) (c : Nat) (out : List It), out.length = c → c ≤ 200 → ∃ xs, allL l out = out ++ xs ∧ (prOk l c).isSome = (l.all headOk && !decide (200 < c + xs.length) && itsOk xs c)
  | [], c, out, ho, hc => ⟨[], by rw [allL, List.append_nil], by simp [prOk, itsOk]; omega⟩
  | q :: l, c, out, ho, hc => by
    rw [List.all_cons]
    cases hh : headOk q with
    | false =>
      have hp : prOk (q :: l) c = none := by rw [prOk, hh]; rfl
      rw [hp, allL]
      by_cases hgt : 200 < (out ++ flatOf q).length
      · rw [if_pos hgt]
        exact ⟨_, rfl, by simp⟩
      · rw [if_neg hgt]
        obtain ⟨xs, h⟩ := allL_more l (out ++ flatOf q)
        exact ⟨flatOf q ++ xs, by rw [h, List.append_assoc], by simp⟩
    | true =>
      have hp : prOk (q :: l) c = (blkOk q.body 1 c).bind fun c' => prOk l c' := by rw [prOk, hh]; rfl
      rw [hp, allL, Bool.true_and]
      cases h1 : blkOk q.body 1 c with
      | some c1 =>
        obtain ⟨xs, a1, a2, a3⟩ := flatL_ok q.body 1 c c1 h1 hc 0 false [] (by simp)
        rw [List.nil_append] at a1
        have hc1 := blkOk_le q.body 1 c c1 hc h1
        have hx : flatOf q = xs := a1
        rw [hx, if_neg (by rw [List.length_append]; omega)]
        obtain ⟨ys, b1, b2⟩ := prOk_all l c1 (out ++ xs) (by rw [List.length_append]; omega) hc1
        refine ⟨xs ++ ys, by rw [b1, List.append_assoc], ?_⟩
        rw [Option.bind_some, b2, itsOk_append, a3, ← a2, Bool.true_and, List.length_append, ← Nat.add_assoc, ← a2]
      | none =>
        obtain ⟨xs, a1, a2⟩ := flatL_bad q.body 1 c h1 hc 0 false [] (by simp)
        rw [List.nil_append] at a1
        have hx : flatOf q = xs := a1
        rw [hx, Option.bind_none]
        split
        · rename_i hgt
          rw [List.length_append] at hgt
          exact ⟨xs, rfl, by rw [decide_eq_true (by omega)]; simp⟩
        · obtain ⟨ys, b1⟩ := allL_more l (out ++ xs)
          refine ⟨xs ++ ys, by rw [b1, List.append_assoc], ?_⟩
          rcases a2 with a2 | a2
          · rw [decide_eq_true (by rw [List.length_append]; omega)]; simp
          · rw [itsOk_append, a2]; simp
/-- the two roads meet -/
theorem rMayP_eq (p : Pg) : rMayP p = mayP p := by
  obtain ⟨xs, h1, h2⟩ := prOk_all p.procs 0 [] rfl (by omega)
  rw [List.nil_append] at h1
  unfold rMayP mayP allOf
  rw [h1, h2, Nat.zero_add]
  simp only [Bool.and_assoc]
end Go.Proofs.Ytcocilpifdjibaa
namespace Go.Proofs.Ytcocilpifdjibaa
open Go.ChangeShapes Go.WideShapes Go.ChangeAt Go.RowKit Go.Deep
set_option linter.unusedVariables false
set_option linter.unusedSimpArgs false
/-- the cells of a row of the call's own -/
theorem own_cells {w : World} {base n : Nat} {e : TypeId} {size : Nat} {a : Addr} {m cap : Nat} {xs : List Value} (h : w.ownsRow base e size (.slice (some a) m cap) n xs) : ∀ j u, xs[j]? = some u → w.cell? (a.add j) = some u := by
  obtain ⟨hl, h⟩ := h
  rcases h with ⟨h, _⟩ | ⟨g, cap', cur, he, _, hg, _, _, _, ht⟩
  · cases h
  · injection he with e1 e2 e3
    injection e1 with e1
    subst e1
    intro j u hj
    rw [addr0, cell_of_row w g j cur e (0, 0) hg, ← Array.getElem?_toList]
    rw [← ht, List.getElem?_take] at hj
    split at hj
    · exact hj
    · cases hj
section
variable {P : Program} {w : World}
theorem run_append_none (t ty e : TypeId) (i : TypeInfo) (ht : P.underlying t = some (.slice e)) (hi : P.info? e = some i) (X : Option Addr) (n c : Nat) (hnc : n ≤ c) (hX : X = none → n = 0 ∧ c = 0) :
    (Builtin.append_ #[t, t] ty #[.slice X n c, .slice none 0 0]).run P w = .ok (.slice X n c) w := by
  cases X with
  | none =>
    obtain ⟨rfl, rfl⟩ := hX rfl
    simp [Builtin.append_, run_underlying ht, sizeOf, typeInfo, hi, Builtin.lenOf, Builtin.firstCells, loadCells, loadCellsFrom]
  | some b =>
    simp [Builtin.append_, run_underlying ht, sizeOf, typeInfo, hi, Builtin.lenOf, Builtin.firstCells, loadCells, loadCellsFrom, hnc, storeCells]
end
end Go.Proofs.Ytcocilpifdjibaa
namespace Go.Proofs.Ytcocilpifdjibaa
open Go.ChangeShapes Go.WideShapes Go.ChangeAt Go.RowKit Go.Deep
set_option linter.unusedVariables false
set_option linter.unusedSimpArgs false
section
variable {P : Program} {w : World}
theorem texts_none {w0 : World} {Q : Nat → Prop} {l : List ByteArray} {m c : Nat} (hT : TextsI w0 Q l (.slice none m c)) : l = [] ∧ m = 0 := by
 obtain ⟨A', cap', css, h1, h2, h3, h4⟩ := hT
 simp only [Value.slice.injEq] at h1
 obtain ⟨rfl, rfl, rfl⟩ := h1
 cases l with
 | nil => exact ⟨rfl, rfl⟩
 | cons s l => obtain ⟨a, ha, _⟩ := h3 (by simp); cases ha
theorem run_append_nil (t ty e : TypeId) (i : TypeInfo) (ht : P.underlying t = some (.slice e)) (hi : P.info? e = some i) (X : Option Addr) (n c c' : Nat) (hnc : n ≤ c) (hX : X = none → n = 0 ∧ c = 0) :
  (Builtin.append_ #[t, t] ty #[.slice X n c, .slice none 0 c']).run P w = .ok (.slice X n c) w := by
 cases X with
 | none =>
  obtain ⟨rfl, rfl⟩ := hX rfl
  simp [Builtin.append_, run_underlying ht, sizeOf, typeInfo, hi, Builtin.lenOf, Builtin.firstCells, loadCells, loadCellsFrom]
 | some b =>
  simp [Builtin.append_, run_underlying ht, sizeOf, typeInfo, hi, Builtin.lenOf, Builtin.firstCells, loadCells, loadCellsFrom, hnc, storeCells]
theorem run_append_texts (base : Nat) (t ty e : TypeId) (i : TypeInfo) (z : Value) (ht : P.underlying t = some (.slice e)) (hi : P.info? e = some i) (hz : i.zero = some z)
  (hsize : i.size = 1) (hby : i.bytes = 16) (hzs : z.cells.size = 1)
  (v : Value) (n : Nat) (xs : List Value) (hown : w.ownsRow base e 1 v n xs)
  (w0 : World) (Q0 : Nat → Prop) (X : Option Addr) (l : List ByteArray) (m c : Nat) (hm : m = l.length) (hT : TextsI w0 Q0 l (.slice X m c)) (hI : In Q0 w0 w)
  (h63 : n + m ≤ 1000000) (hbase : base ≤ w.heap.size) :
  ∃ v' w', (Builtin.append_ #[t, t] ty #[v, .slice X m c]).run P w = .ok v' w' ∧ w'.ownsRow base e 1 v' (n + m) (xs ++ strs l) ∧ w.grownBy w' v.ownBlock := by
 cases X with
 | some ad =>
  obtain ⟨v', w', hr, h2, h3, _, _⟩ := run_append_own_at (P := P) w base t ty e i z 1 16 ht hi hz hsize hby hzs (by decide) v n xs hown ad m c (strs l) (by simp [strs, hm]) (texts_cells hT hI) (by simp [strs, Value.oneCell']) (by unfold maxLen; omega) (by omega) hbase
  exact ⟨v', w', hr, h2, h3⟩
 | none =>
  obtain ⟨rfl, rfl⟩ := texts_none hT
  obtain ⟨Xf, cf, rfl, hoc, hcx⟩ := own_form hown
  have hXn : Xf = none → n = 0 ∧ cf = 0 := fun e' => by
   subst e'
   rcases hown.2 with ⟨h1, h2⟩ | ⟨g, cap', cur, h1, _⟩
   ·injection h1 with _ h3 h4; exact ⟨h3, h4⟩
   ·cases h1
  refine ⟨_, _, run_append_nil (P := P) (w := w) t ty e i ht hi Xf n cf c hoc hXn, ?_, World.grownBy.refl _ _⟩
  rw [Nat.add_zero]
  simpa [strs] using hown
theorem wpList_append_texts {ops : Array Oper} {rest : List Oper} {o : Oper} {a : Act} {Q : Exit → Act → World → Prop} (hgd : o.guard = none) (s x : Operand) (t : TypeId)
  (ho : o.op = .call { callee := .builtin .append, args := #[s, x], argTypes := #[t, t] })
  (base : Nat) (e : TypeId) (i : TypeInfo) (z : Value) (ht : P.underlying t = some (.slice e)) (hi : P.info? e = some i) (hz : i.zero = some z)
  (hsize : i.size = 1) (hby : i.bytes = 16) (hzs : z.cells.size = 1)
  (v : Value) (n : Nat) (xs : List Value) (hs : a.eval s = v) (hown : w.ownsRow base e 1 v n xs)
  (w0 : World) (Q0 : Nat → Prop) (X : Option Addr) (l : List ByteArray) (m c : Nat) (hx : a.eval x = .slice X m c) (hm : m = l.length) (hT : TextsI w0 Q0 l (.slice X m c)) (hI : In Q0 w0 w)
  (h63 : n + m ≤ 1000000) (hbase : base ≤ w.heap.size)
  (h : ∀ v' w', w'.ownsRow base e 1 v' (n + m) (xs ++ strs l) → w.grownBy w' v.ownBlock → wpList P ops Q rest (a.put o.dst v') w') :
  wpList P ops Q (o :: rest) a w := by
 obtain ⟨v', w', hr, h2, h3⟩ := run_append_texts (P := P) (w := w) base t o.type e i z ht hi hz hsize hby hzs v n xs hown w0 Q0 X l m c hm hT hI h63 hbase
 refine wpList_plain hgd fun K hK => ?_
 unfold Oper.wp execOp
 simp only [ho, resolve, invoke, builtin, Sem.run_bind, Sem.run_pure, Result.andThen_ok, List.map_toArray, List.map_cons, List.map_nil, hs, hx, hr]
 exact hK _ _ (h v' w' h2 h3)
end
structure NmI (V wr : World) (l : List ByteArray) (X : Option Addr) (n c : Nat) : Prop where
 row : wr.ownsRow V.heap.size 9 1 (.slice X n c) n (strs l)
 below : Below V.heap.size V wr
def namesP (gl : List ByteArray) (q : Pr) : List ByteArray := gl ++ q.params.map Pa.nm ++ q.vars
set_option maxHeartbeats 2000000 in
set_option maxRecDepth 100000 in
theorem namesIn_any {w : World} {Q : Nat → Prop} {gl : List ByteArray} {vg : Value} {q : Pr} {c0 c1 c2 c3 c4 : Value} (hg : TextsI w Q gl vg) (h : ProcI w Q q [c0, c1, c2, c3, c4]) (hl : gl.length ≤ 16 ∧ q.params.length ≤ 8 ∧ q.vars.length ≤ 16) (W : World) (hI : In Q w W) :
  Calls Try.prog 103 #[vg, .agg #[c0, c1, c2, c3, c4]] W (NewRow (namesP gl q) W) := by
 obtain ⟨vp, vv, vb, ve, hc, hnm, hpp, hvv, hbb, hee⟩ := h
 simp only [List.cons.injEq, and_true] at hc
 obtain ⟨rfl, rfl, rfl, rfl, rfl⟩ := hc
 obtain ⟨Ap, cp, rfl, _, _⟩ := hpp.shape
 obtain ⟨Av, cv, rfl, _, _⟩ := hvv.shape
 obtain ⟨Ab, cb, rfl, _⟩ := hbb.shape
 obtain ⟨Ae, ce, rfl, _⟩ := hee.shape
 obtain ⟨Ag, cg, rfl, _⟩ := hg.shape
 obtain ⟨hl1, hl2, hl3⟩ := hl
 have HG := Lib.hid hg
 have HV := Lib.hid hvv
 have HPp := Lib.hid hpp
 have HI := Lib.hid hI
 have HQ : Hid (∀ j, Q j → j < W.heap.size) := Lib.hid hI.1
 obtain ⟨i0, hi0, hz0, hz1, hz2⟩ := info_parts string_info
 obtain ⟨i1, z1, hi, hzz, hy1, hy2⟩ := info_frT
 obtain ⟨N, hN⟩ : ∃ N, N = gl.length + q.params.length + q.vars.length := ⟨_, rfl⟩
 obtain ⟨M, hM⟩ : ∃ M, M = madeCells z1.cells (N * i1.size) := ⟨_, rfl⟩
 have hMs : M.size = N * 1 := by rw [hM, size_madeCells, hy1]
 have hbi : (i1.bytes : Int) * (N : Int) ≤ 281474976710656 := by have h := Int.ofNat_le.2 (Nat.mul_le_mul hy2 (show N ≤ 40 by omega)); rw [Int.natCast_mul] at h; omega
 have hmk : ∀ W : World, (Instr.makeSlice 22 (.int .i64 0) (.int .i64 (N : Int))).run Try.prog W = .ok (.slice (some ⟨W.heap.size, 0, none⟩) 0 N) (W.alloc (.cells M 9)) := fun W => by
  have h := run_make (P := Try.prog) W 22 9 i1 z1 Try.underlying22 hi hzz .i64 .i64 0 (N : Int) (Int.le_refl _) (by omega) hbi (by omega)
  simp only [Int.toNat_zero, Int.toNat_natCast] at h
  rw [← hM] at h
  exact h
 have hNi : (gl.length : Int) + (q.params.length : Int) + (q.vars.length : Int) = (N : Int) := by omega
 rw [← hNi] at hmk
 have HMs := Lib.hid hMs
 have HN : Hid (N ≤ 40) := Lib.hid (by omega)
 clear hNi hN
 clear hg hpp hvv hbb hee hI hM hMs hbi hi hzz hy1 hy2
 go_enter Try.func103, Try.ntmps103
 go_upto_region 1 with fail
 have HBp : Hid (Blk (W.alloc (.cells #[.string q.nm, .slice Ap q.params.length cp, .slice Av q.vars.length cv, .slice Ab q.body.length cb, .slice Ae q.end_.length ce] 59)) W.heap.size 59 #[.string q.nm, .slice Ap q.params.length cp, .slice Av q.vars.length cv, .slice Ab q.body.length cb, .slice Ae q.end_.length ce]) := Lib.hid (Blk.new _ _ _)
 have HB0 : Hid (Below W.heap.size W (W.alloc (.cells #[.string q.nm, .slice Ap q.params.length cp, .slice Av q.vars.length cv, .slice Ab q.body.length cb, .slice Ae q.end_.length ce] 59))) := Lib.hid (below_box _)
 generalize World.alloc _ _ = V at HBp HB0 ⊢
 have q1 : V.cell? ⟨W.heap.size, 1, none⟩ = some (.slice Ap q.params.length cp) := by rw [HBp.out.cell]; rfl
 have q2 : V.cell? ⟨W.heap.size, 2, none⟩ = some (.slice Av q.vars.length cv) := by rw [HBp.out.cell]; rfl
 have hbl := HBp.out.lt
 have HI0 := Lib.hid (HI.out.on HB0.out)
 go_upto_region 2 with fail
 have HO1 : Hid ((V.alloc (.cells M 9)).ownsRow V.heap.size 9 1 (.slice (some ⟨V.heap.size, 0, none⟩) 0 N) 0 []) := Lib.hid (World.ownsRow_made V M N (Nat.le_refl _) (by have := HN.out; unfold maxLen; omega) HMs.out)
 have HB1 : Hid (Below V.heap.size V (V.alloc (.cells M 9))) := Lib.hid (below_box _)
 clear q1 q2 hmk HMs
 generalize World.alloc V _ = V1 at HO1 HB1 ⊢
 have HI1 := Lib.hid (HI0.out.on HB1.out)
 go_upto_region 3 with (at_builtin; refine wpList_append_texts rfl (.tmp 19) (.tmp 20) 22 rfl V.heap.size 9 i0 _ Try.underlying22 hi0 hz0 hz1 hz2 rfl _ 0 [] rfl HO1.out w Q Ag gl gl.length cg rfl rfl HG.out HI1.out (by omega) HB1.out.size ?_; intro v2 w2 hown2 hg2; obtain ⟨X2, k2, rfl, _, _⟩ := own_shape hown2; have HO2 := Lib.hid hown2; have HG2 := Lib.hid hg2; clear hown2 hg2)
 have HS : Hid (NmI V w2 (gl ++ (q.params.take 0).map Pa.nm) X2 (gl.length + 0) k2) := Lib.hid ⟨by rw [List.take_zero, List.map_nil, List.append_nil, Nat.add_zero]; have := HO2.out; rwa [Nat.zero_add, List.nil_append] at this, HB1.out.grown HG2.out HB1.out.size (fun j hj => (HO1.out.lt j hj).1)⟩
 have HBp2 := Lib.hid (HBp.out.below HS.out.below hbl)
 clear hbl HO1 HB1 HI1 HO2 HG2 HN
 have q1 : w2.cell? ⟨W.heap.size, 1, none⟩ = some (.slice Ap q.params.length cp) := by rw [HBp2.out.cell]; rfl
 go_upto_region 4 with fail
 clear q1 HBp2
 go_loopw [5, 25] (fun ov iv wr => ∃ (k : Nat) (X : Option Addr) (c : Nat), k ≤ q.params.length ∧ iv = .int .i64 k ∧ ov = .slice X (gl.length + k) c ∧ Hid (NmI V wr (gl ++ (q.params.take k).map Pa.nm) X (gl.length + k) c)) (fun _ iv _ => q.params.length - (intOf iv).toNat)
 case atStart => exact ⟨0, X2, k2, Nat.zero_le _, rfl, by simp, HS⟩
 case round =>
  clear HS
  obtain ⟨k, X, c, hk, rfl, rfl, HR⟩ := hrel
  have HIr := Lib.hid (HI0.out.on HR.out.below)
  have HBr := Lib.hid (HBp.out.below HR.out.below HBp.out.lt)
  by_cases hlt : k < q.params.length
  ·obtain ⟨a, rfl, _, ⟨p0, p1, _⟩, _⟩ := par_at HPp.out HIr.out hlt
   have HT : Hid (q.params.take (k + 1) = q.params.take k ++ [q.params[k]]) := Lib.hid (List.take_succ_eq_append_getElem hlt)
   generalize q.params[k] = x at p0 p1 HT
   obtain ⟨xn, xr⟩ := x
   simp only at p0 p1
   have hs4 : (strs (gl ++ List.map Pa.nm (q.params.take k))).length = gl.length + k := by simp [strs]; omega
   go_upto_region 6 with fail
   have HBx : Hid (Blk (wr.alloc (.cells #[.string xn, .bool xr] 61)) wr.heap.size 61 #[.string xn, .bool xr]) := Lib.hid (Blk.new _ _ _)
   have HO4 : Hid ((wr.alloc (.cells #[.string xn, .bool xr] 61)).ownsRow V.heap.size 9 1 (.slice X (gl.length + k) c) (gl.length + k) (strs (gl ++ (q.params.take k).map Pa.nm))) := Lib.hid (HR.out.row.alloc _)
   have HB4 : Hid (Below V.heap.size V (wr.alloc (.cells #[.string xn, .bool xr] 61))) := Lib.hid (below_stepA HR.out.below _)
   clear p0 p1
   generalize World.alloc wr _ = V4 at HBx HO4 HB4 ⊢
   generalize wr.heap.size = bx at HBx ⊢
   have z0 : V4.cell? ⟨bx, 0, none⟩ = some (.string xn) := by rw [HBx.out.cell]; rfl
   have HW := Lib.hid (new_one V4 xn)
   have HO5 : Hid ((V4.alloc (.cells #[.string xn] 9)).ownsRow V.heap.size 9 1 (.slice X (gl.length + k) c) (gl.length + k) (strs (gl ++ (q.params.take k).map Pa.nm))) := Lib.hid (HO4.out.alloc _)
   have HB5 : Hid (Below V.heap.size V (V4.alloc (.cells #[.string xn] 9))) := Lib.hid (below_stepA HB4.out _)
   go_upto_region 7 with (at_builtin; refine wpList_append_own_at _ rfl (.tmp 29) (.tmp 32) 22 rfl V.heap.size 9 i0 _ 1 16 Try.underlying22 hi0 hz0 hz1 hz2 rfl (by decide) _ (gl.length + k) (strs (gl ++ (q.params.take k).map Pa.nm)) rfl HO5.out ⟨V4.heap.size, 0, none⟩ 1 1 [.string xn] rfl rfl HW.out (by simp [Value.oneCell']) (by unfold maxLen; omega) (by omega) HB5.out.size ?_; intro v6 w6 hown6 hg6 _ hat6; obtain ⟨X6, k6, rfl, _, _⟩ := own_shape hown6; have HO6 := Lib.hid hown6; have HG6 := Lib.hid hg6; clear hown6 hg6 hat6)
   have HS : Hid (NmI V w6 (gl ++ (q.params.take (k + 1)).map Pa.nm) X6 (gl.length + (k + 1)) k6) := Lib.hid ⟨by rw [HT.out, List.map_append, ← List.append_assoc, strs_append]; exact HO6.out, HB5.out.grown HG6.out HB5.out.size (fun j hj => (HO5.out.lt j hj).1)⟩
   clear z0
   go_wp2_with fail
   go_roundw
   case rel => exact ⟨k + 1, X6, k6, by omega, by go_num, rfl, HS⟩
   case measure => simp [intOf]; omega
  ·have hke : k = q.params.length := by omega
   subst hke
   have q2 : wr.cell? ⟨W.heap.size, 2, none⟩ = some (.slice Av q.vars.length cv) := by rw [HBr.out.cell]; rfl
   go_wp2_with (at_builtin; refine wpList_append_texts rfl (.tmp 35) (.tmp 37) 22 rfl V.heap.size 9 i0 _ Try.underlying22 hi0 hz0 hz1 hz2 rfl _ (gl.length + q.params.length) (strs (gl ++ (q.params.take q.params.length).map Pa.nm)) rfl HR.out.row w Q Av q.vars q.vars.length cv rfl rfl HV.out HIr.out (by omega) HR.out.below.size ?_; intro v7 w7 hown7 hg7; have HO7 := Lib.hid hown7; have HG7 := Lib.hid hg7; clear hown7 hg7)
   go_ret
   refine ⟨v7, rfl, own_lower ?_ HB0.out.size, below_step HB0.out (HR.out.below.grown HG7.out HR.out.below.size (fun j hj => (HR.out.row.lt j hj).1))⟩
   have h := HO7.out
   rw [List.take_length, ← strs_append] at h
   rw [show (namesP gl q).length = gl.length + q.params.length + q.vars.length by simp [namesP]; omega]
   exact h
end Go.Proofs.Ytcocilpifdjibaa
