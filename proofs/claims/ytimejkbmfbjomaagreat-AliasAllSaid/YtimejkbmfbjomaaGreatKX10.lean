/- Texts, merged by a program; only what is used. -/
import Derived.Deep.LoopGhost
import Derived.Test.YtimejkbmfbjomaaGreatKX1
import Derived.Test.YtimejkbmfbjomaaGreatKX2
import Derived.Test.YtimejkbmfbjomaaGreatKX3
import Derived.Test.YtimejkbmfbjomaaGreatKX4
import Derived.Test.YtimejkbmfbjomaaGreatKX5
import Derived.Test.YtimejkbmfbjomaaGreatKX6
import Derived.Test.YtimejkbmfbjomaaGreatKX7
import Derived.Test.YtimejkbmfbjomaaGreatKX8
import Derived.Test.YtimejkbmfbjomaaGreatKX9
namespace Go.Proofs.YtimejkbmfbjomaaGreat
open Go.ChangeShapes Go.WideShapes Go.ChangeAt Go.RowKit Go.Deep
set_option linter.unusedVariables false
def itOk (k : Nat) (x : It) : Bool := decide (x.s.id = ((k + 1 : Nat) : Int)) && decide (x.deep ≤ 12) && stmtOk x.s
theorem itOk_of {k : Nat} {x : It} (h1 : x.s.id = ((k + 1 : Nat) : Int)) (h2 : x.deep ≤ 12) (h3 : stmtOk x.s = true) : itOk k x = true := by
  unfold itOk; rw [decide_eq_true h1, decide_eq_true h2, h3]; rfl
theorem itOk_inv {k : Nat} {x : It} (h : itOk k x = true) : x.s.id = ((k + 1 : Nat) : Int) ∧ x.deep ≤ 12 ∧ stmtOk x.s = true := by
  unfold itOk at h
  rw [Bool.and_eq_true, Bool.and_eq_true] at h
  exact ⟨of_decide_eq_true h.1.1, of_decide_eq_true h.1.2, h.2⟩
def itsOk : List It → Nat → Bool
  | [], _ => true
  | x :: l, k => itOk k x && itsOk l (k + 1)
theorem itsOk_append : ∀ (a b : List It) (k : Nat), itsOk (a ++ b) k = (itsOk a k && itsOk b (k + a.length))
  | [], b, k => by simp [itsOk]
  | x :: a, b, k => by
    rw [List.cons_append, itsOk, itsOk, itsOk_append a b (k + 1), Bool.and_assoc, List.length_cons]
    congr 3
    omega
theorem itsOk_drop {l : List It} {k : Nat} (h : k < l.length) : itsOk (l.drop k) k = (itOk k l[k] && itsOk (l.drop (k + 1)) (k + 1)) := by
  rw [List.drop_eq_getElem_cons h, itsOk]
def allL : List Pr → List It → List It
  | [], out => out
  | q :: l, out => if 200 < (out ++ flatOf q).length then out ++ flatOf q else allL l (out ++ flatOf q)
theorem allL_drop {l : List Pr} {k : Nat} {out : List It} (h : k < l.length) : allL (l.drop k) out = if 200 < (out ++ flatOf l[k]).length then out ++ flatOf l[k] else allL (l.drop (k + 1)) (out ++ flatOf l[k]) := by
  rw [List.drop_eq_getElem_cons h, allL]
def allOf (p : Pg) : List It := allL p.procs []
def rMayP (p : Pg) : Bool := !decide (16 < p.globals.length) && !decide (16 < p.procs.length) && allN p.globals && p.procs.all headOk && !decide (200 < (allOf p).length) && itsOk (allOf p) 0
theorem allL_more : ∀ (l : List Pr) (out : List It), ∃ xs, allL l out = out ++ xs
  | [], out => ⟨[], by rw [allL, List.append_nil]⟩
  | q :: l, out => by
    rw [allL]
    split
    · exact ⟨_, rfl⟩
    · obtain ⟨xs, h⟩ := allL_more l (out ++ flatOf q)
      exact ⟨flatOf q ++ xs, by rw [h, List.append_assoc]⟩
theorem allL_len : ∀ (l : List Pr) (out : List It), out.length ≤ 200 → (allL l out).length ≤ 401
  | [], out, h => by rw [allL]; omega
  | q :: l, out, h => by
    rw [allL]
    have := flatOf_len q
    split
    · rw [List.length_append]; omega
    · exact allL_len l _ (by omega)
mutual
theorem flatL_more : ∀ (l : List S) (d : Nat) (i : Int) (e : Bool) (out : List It), ∃ xs, flatL l d i e out = out ++ xs
  | [], d, i, e, out => ⟨[], by rw [flatL, List.append_nil]⟩
  | s :: l, d, i, e, out => by
    rw [flatL]
    split
    · obtain ⟨xs, h⟩ := flatS_more s d i e out
      obtain ⟨ys, h'⟩ := flatL_more l d i e (out ++ ⟨s, d, i, e⟩ :: xs)
      exact ⟨⟨s, d, i, e⟩ :: xs ++ ys, by rw [h, h']; simp⟩
    · exact ⟨[], by rw [List.append_nil]⟩
theorem flatS_more : ∀ (s : S) (d : Nat) (i : Int) (e : Bool) (out : List It), ∃ xs, flatS s d i e out = out ++ ⟨s, d, i, e⟩ :: xs
  | .mk id kind labels nm proc x has args th el, d, i, e, out => by
    rw [flatS]
    split
    · obtain ⟨xs, h⟩ := flatL_more th (d + 1) id false (out ++ [⟨.mk id kind labels nm proc x has args th el, d, i, e⟩])
      obtain ⟨ys, h'⟩ := flatL_more el (d + 1) id true (out ++ [⟨.mk id kind labels nm proc x has args th el, d, i, e⟩] ++ xs)
      exact ⟨xs ++ ys, by rw [h, h']; simp⟩
    · exact ⟨[], rfl⟩
end
mutual
/-- what may be stands in the row, one behind the other -/
theorem flatL_ok : ∀ (l : List S) (d c c' : Nat), blkOk l d c = some c' → c ≤ 200 → ∀ (i : Int) (e : Bool) (out : List It), out.length ≤ c → ∃ xs, flatL l d i e out = out ++ xs ∧ c' = c + xs.length ∧ itsOk xs c = true
  | [], d, c, c', h, hc, i, e, out, ho => by
    rw [blkOk] at h
    injection h with h
    exact ⟨[], by rw [flatL, List.append_nil], by simp [h], rfl⟩
  | s :: l, d, c, c', h, hc, i, e, out, ho => by
    rw [blkOk] at h
    cases h1 : oneOk s d c with
    | none => rw [h1] at h; simp at h
    | some c1 =>
      rw [h1] at h
      simp only [Option.bind_some] at h
      obtain ⟨xs, a1, a2, a3⟩ := flatS_ok s d c c1 h1 hc i e out ho
      obtain ⟨ys, b1, b2, b3⟩ := flatL_ok l d c1 c' h (oneOk_le s d c c1 hc h1) i e (out ++ xs) (by rw [List.length_append]; omega)
      refine ⟨xs ++ ys, ?_, by rw [List.length_append]; omega, ?_⟩
      · rw [flatL, if_pos (by omega), a1, b1, List.append_assoc]
      · rw [itsOk_append, a3, ← a2, b3]; rfl
theorem flatS_ok : ∀ (s : S) (d c c' : Nat), oneOk s d c = some c' → c ≤ 200 → ∀ (i : Int) (e : Bool) (out : List It), out.length ≤ c → ∃ xs, flatS s d i e out = out ++ xs ∧ c' = c + xs.length ∧ itsOk xs c = true
  | .mk id kind labels nm proc x has args th el, d, c, c', h, hc, i, e, out, ho => by
    rw [oneOk] at h
    split at h
    · rename_i hcnd
      obtain ⟨hd, hc1, hid, hok⟩ := hcnd
      cases h1 : blkOk th (d + 1) (c + 1) with
      | none => rw [h1] at h; simp at h
      | some c1 =>
        rw [h1] at h
        simp only [Option.bind_some] at h
        obtain ⟨xs, a1, a2, a3⟩ := flatL_ok th (d + 1) (c + 1) c1 h1 hc1 id false (out ++ [⟨.mk id kind labels nm proc x has args th el, d, i, e⟩]) (by simp; omega)
        obtain ⟨ys, b1, b2, b3⟩ := flatL_ok el (d + 1) c1 c' h (blkOk_le th (d + 1) (c + 1) c1 hc1 h1) id true (out ++ [⟨.mk id kind labels nm proc x has args th el, d, i, e⟩] ++ xs) (by simp; omega)
        refine ⟨⟨.mk id kind labels nm proc x has args th el, d, i, e⟩ :: (xs ++ ys), ?_, by simp; omega, ?_⟩
        · rw [flatS, if_pos hd, a1, b1]; simp
        · rw [itsOk, itsOk_append, a3, ← a2, b3, itOk_of (by exact hid) (by show (d : Int) ≤ 12; omega) hok]
          rfl
    · cases h
end
mutual
/-- what may not be: too many, or one of them may not be -/
theorem flatL_bad : ∀ (l : List S) (d c : Nat), blkOk l d c = none → c ≤ 200 → ∀ (i : Int) (e : Bool) (out : List It), out.length ≤ c → ∃ xs, flatL l d i e out = out ++ xs ∧ (200 < c + xs.length ∨ itsOk xs c = false)
  | [], d, c, h, hc, i, e, out, ho => by rw [blkOk] at h; cases h
  | s :: l, d, c, h, hc, i, e, out, ho => by
    rw [blkOk] at h
    rw [flatL, if_pos (by omega)]
    cases h1 : oneOk s d c with
    | none =>
      obtain ⟨xs, a1, a2⟩ := flatS_bad s d c h1 hc i e out ho
      obtain ⟨ys, b1⟩ := flatL_more l d i e (out ++ xs)
      refine ⟨xs ++ ys, by rw [a1, b1, List.append_assoc], ?_⟩
      rcases a2 with a2 | a2
      · left; rw [List.length_append]; omega
      · right; rw [itsOk_append, a2]; rfl
    | some c1 =>
      rw [h1] at h
      simp only [Option.bind_some] at h
      obtain ⟨xs, a1, a2, a3⟩ := flatS_ok s d c c1 h1 hc i e out ho
      obtain ⟨ys, b1, b2⟩ := flatL_bad l d c1 h (oneOk_le s d c c1 hc h1) i e (out ++ xs) (by rw [List.length_append]; omega)
      refine ⟨xs ++ ys, by rw [a1, b1, List.append_assoc], ?_⟩
      rcases b2 with b2 | b2
      · left; rw [List.length_append]; omega
      · right; rw [itsOk_append, a3, ← a2, b2]; rfl
theorem flatS_bad : ∀ (s : S) (d c : Nat), oneOk s d c = none → c ≤ 200 → ∀ (i : Int) (e : Bool) (out : List It), out.length ≤ c → ∃ xs, flatS s d i e out = out ++ xs ∧ (200 < c + xs.length ∨ itsOk xs c = false)
  | .mk id kind labels nm proc x has args th el, d, c, h, hc, i, e, out, ho => by
    rw [oneOk] at h
    split at h
    · rename_i hcnd
      obtain ⟨hd, hc1, hid, hok⟩ := hcnd
      rw [flatS, if_pos hd]
      have hone : itOk c ⟨.mk id kind labels nm proc x has args th el, d, i, e⟩ = true := itOk_of (by exact hid) (by show (d : Int) ≤ 12; omega) hok
      cases h1 : blkOk th (d + 1) (c + 1) with
      | none =>
        obtain ⟨xs, a1, a2⟩ := flatL_bad th (d + 1) (c + 1) h1 hc1 id false (out ++ [⟨.mk id kind labels nm proc x has args th el, d, i, e⟩]) (by simp; omega)
        obtain ⟨ys, b1⟩ := flatL_more el (d + 1) id true (out ++ [⟨.mk id kind labels nm proc x has args th el, d, i, e⟩] ++ xs)
        refine ⟨⟨.mk id kind labels nm proc x has args th el, d, i, e⟩ :: (xs ++ ys), by rw [a1, b1]; simp, ?_⟩
        rcases a2 with a2 | a2
        · left; simp; omega
        · right; rw [itsOk, itsOk_append, a2]; simp
      | some c1 =>
        rw [h1] at h
        simp only [Option.bind_some] at h
        obtain ⟨xs, a1, a2, a3⟩ := flatL_ok th (d + 1) (c + 1) c1 h1 hc1 id false (out ++ [⟨.mk id kind labels nm proc x has args th el, d, i, e⟩]) (by simp; omega)
        obtain ⟨ys, b1, b2⟩ := flatL_bad el (d + 1) c1 h (blkOk_le th (d + 1) (c + 1) c1 hc1 h1) id true (out ++ [⟨.mk id kind labels nm proc x has args th el, d, i, e⟩] ++ xs) (by simp; omega)
        refine ⟨⟨.mk id kind labels nm proc x has args th el, d, i, e⟩ :: (xs ++ ys), by rw [a1, b1]; simp, ?_⟩
        rcases b2 with b2 | b2
        · left; simp; omega
        · right; rw [itsOk, itsOk_append, a3, ← a2, b2]; simp
    · rename_i hcnd
      obtain ⟨xs, a1⟩ := flatS_more (.mk id kind labels nm proc x has args th el) d i e out
      refine ⟨_, a1, ?_⟩
      by_cases hc1 : c + 1 ≤ 200
      · right
        rw [itsOk]
        have : itOk c ⟨.mk id kind labels nm proc x has args th el, d, i, e⟩ = false := by
          cases hx : itOk c ⟨.mk id kind labels nm proc x has args th el, d, i, e⟩ with
          | false => rfl
          | true =>
            obtain ⟨e1, e2, e3⟩ := itOk_inv hx
            have e2' : (d : Int) ≤ 12 := e2
            exact absurd ⟨by omega, hc1, e1, e3⟩ hcnd
        rw [this]; rfl
      · left; simp; omega
end
theorem prOk_all : ∀ (l : List Pr) (c : Nat) (out : List It), out.length = c → c ≤ 200 → ∃ xs, allL l out = out ++ xs ∧ (prOk l c).isSome = (l.all headOk && !decide (200 < c + xs.length) && itsOk xs c)
  | [], c, out, ho, hc => ⟨[], by rw [allL, List.append_nil], by simp [prOk, itsOk]; omega⟩
  | q :: l, c, out, ho, hc => by
    rw [List.all_cons]
    cases hh : headOk q with
    | false =>
      have hp : prOk (q :: l) c = none := by rw [prOk, hh]; rfl
      rw [hp, allL]
      by_cases hgt : 200 < (out ++ flatOf q).length
      · rw [if_pos hgt]
        exact ⟨_, rfl, by simp⟩
      · rw [if_neg hgt]
        obtain ⟨xs, h⟩ := allL_more l (out ++ flatOf q)
        exact ⟨flatOf q ++ xs, by rw [h, List.append_assoc], by simp⟩
    | true =>
      have hp : prOk (q :: l) c = (blkOk q.body 1 c).bind fun c' => prOk l c' := by rw [prOk, hh]; rfl
      rw [hp, allL, Bool.true_and]
      cases h1 : blkOk q.body 1 c with
      | some c1 =>
        obtain ⟨xs, a1, a2, a3⟩ := flatL_ok q.body 1 c c1 h1 hc 0 false [] (by simp)
        rw [List.nil_append] at a1
        have hc1 := blkOk_le q.body 1 c c1 hc h1
        have hx : flatOf q = xs := a1
        rw [hx, if_neg (by rw [List.length_append]; omega)]
        obtain ⟨ys, b1, b2⟩ := prOk_all l c1 (out ++ xs) (by rw [List.length_append]; omega) hc1
        refine ⟨xs ++ ys, by rw [b1, List.append_assoc], ?_⟩
        rw [Option.bind_some, b2, itsOk_append, a3, ← a2, Bool.true_and, List.length_append, ← Nat.add_assoc, ← a2]
      | none =>
        obtain ⟨xs, a1, a2⟩ := flatL_bad q.body 1 c h1 hc 0 false [] (by simp)
        rw [List.nil_append] at a1
        have hx : flatOf q = xs := a1
        rw [hx, Option.bind_none]
        split
        · rename_i hgt
          rw [List.length_append] at hgt
          exact ⟨xs, rfl, by rw [decide_eq_true (by omega)]; simp⟩
        · obtain ⟨ys, b1⟩ := allL_more l (out ++ xs)
          refine ⟨xs ++ ys, by rw [b1, List.append_assoc], ?_⟩
          rcases a2 with a2 | a2
          · rw [decide_eq_true (by rw [List.length_append]; omega)]; simp
          · rw [itsOk_append, a2]; simp
/-- the two roads meet -/
theorem rMayP_eq (p : Pg) : rMayP p = mayP p := by
  obtain ⟨xs, h1, h2⟩ := prOk_all p.procs 0 [] rfl (by omega)
  rw [List.nil_append] at h1
  unfold rMayP mayP allOf
  rw [h1, h2, Nat.zero_add]
  simp only [Bool.and_assoc]
end Go.Proofs.YtimejkbmfbjomaaGreat
namespace Go.Proofs.YtimejkbmfbjomaaGreat
open Go.ChangeShapes Go.WideShapes Go.ChangeAt Go.RowKit Go.Deep
set_option linter.unusedVariables false
set_option linter.unusedSimpArgs false
theorem item_one {w : World} {Q : Nat → Prop} {x : It} {cs : List Value} (h : ItemI w Q x cs) : CellsOk 16 cs := by
  obtain ⟨c, rfl, hs⟩ := h
  obtain ⟨h1, h2⟩ := stmtCk _ _ _ _ hs
  refine ⟨by rw [List.length_append, h1]; rfl, fun u hu => ?_⟩
  rcases List.mem_append.1 hu with hu | hu
  · exact h2 u hu
  · simp only [List.mem_cons, List.not_mem_nil, or_false] at hu
    rcases hu with rfl | rfl | rfl <;> rfl
theorem All2.append {α : Type} {R : α → List Value → Prop} : ∀ {l l' : List α} {r r' : List (List Value)}, All2 R l r → All2 R l' r' → All2 R (l ++ l') (r ++ r')
  | [], l', [], r', _, h => h
  | x :: l, l', c :: r, r', h, h' => ⟨h.1, All2.append h.2 h'⟩
  | [], _, _ :: _, _, h, _ => h.elim
  | _ :: _, _, [], _, h, _ => h.elim
theorem All2.one {α : Type} {R : α → List Value → Prop} {C : Nat} (hC : ∀ x cs, R x cs → CellsOk C cs) : ∀ {l : List α} {rows : List (List Value)}, All2 R l rows → (∀ u ∈ rows.flatten, u.oneCell' = true) ∧ rows.flatten.length = l.length * C
  | [], [], _ => ⟨fun u h => by simp at h, by simp⟩
  | x :: l, c :: r, h => by
    obtain ⟨a1, a2⟩ := hC _ _ h.1
    obtain ⟨b1, b2⟩ := All2.one hC h.2
    refine ⟨fun u hu => ?_, by simp only [List.flatten_cons, List.length_append, List.length_cons]; rw [a1, b2, Nat.add_mul]; omega⟩
    rw [List.flatten_cons] at hu
    rcases List.mem_append.1 hu with hu | hu
    · exact a2 u hu
    · exact b1 u hu
  | [], _ :: _, h => h.elim
  | _ :: _, [], h => h.elim
/-- the cells of a row of the call's own -/
theorem own_cells {w : World} {base n : Nat} {e : TypeId} {size : Nat} {a : Addr} {m cap : Nat} {xs : List Value} (h : w.ownsRow base e size (.slice (some a) m cap) n xs) : ∀ j u, xs[j]? = some u → w.cell? (a.add j) = some u := by
  obtain ⟨hl, h⟩ := h
  rcases h with ⟨h, _⟩ | ⟨g, cap', cur, he, _, hg, _, _, _, ht⟩
  · cases h
  · injection he with e1 e2 e3
    injection e1 with e1
    subst e1
    intro j u hj
    rw [addr0, cell_of_row w g j cur e (0, 0) hg, ← Array.getElem?_toList]
    rw [← ht, List.getElem?_take] at hj
    split at hj
    · exact hj
    · cases hj
section
variable {P : Program} {w : World}
theorem run_append_none (t ty e : TypeId) (i : TypeInfo) (ht : P.underlying t = some (.slice e)) (hi : P.info? e = some i) (X : Option Addr) (n c : Nat) (hnc : n ≤ c) (hX : X = none → n = 0 ∧ c = 0) :
    (Builtin.append_ #[t, t] ty #[.slice X n c, .slice none 0 0]).run P w = .ok (.slice X n c) w := by
  cases X with
  | none =>
    obtain ⟨rfl, rfl⟩ := hX rfl
    simp [Builtin.append_, run_underlying ht, sizeOf, typeInfo, hi, Builtin.lenOf, Builtin.firstCells, loadCells, loadCellsFrom]
  | some b =>
    simp [Builtin.append_, run_underlying ht, sizeOf, typeInfo, hi, Builtin.lenOf, Builtin.firstCells, loadCells, loadCellsFrom, hnc, storeCells]
theorem wpList_append_none {ops : Array Oper} {rest : List Oper} {o : Oper} {a : Act} {Q : Exit → Act → World → Prop} (hgd : o.guard = none) (s x : Operand) (t : TypeId)
    (ho : o.op = .call { callee := .builtin .append, args := #[s, x], argTypes := #[t, t] }) (e : TypeId) (i : TypeInfo) (ht : P.underlying t = some (.slice e)) (hi : P.info? e = some i)
    (X : Option Addr) (n c : Nat) (hs : a.eval s = .slice X n c) (hx : a.eval x = .slice none 0 0) (hnc : n ≤ c) (hX : X = none → n = 0 ∧ c = 0) (h : wpList P ops Q rest (a.put o.dst (.slice X n c)) w) :
    wpList P ops Q (o :: rest) a w := by
  refine wpList_plain hgd fun K hK => ?_
  have hr := run_append_none (P := P) (w := w) t o.type e i ht hi X n c hnc hX
  unfold Oper.wp execOp
  simp only [ho, resolve, invoke, builtin, Sem.run_bind, Sem.run_pure, Result.andThen_ok, List.map_toArray, List.map_cons, List.map_nil, hs, hx, hr]
  exact hK _ _ h
/-- one row of the call's own behind another one, whatever their lengths -/
theorem wpList_append_rows {ops : Array Oper} {rest : List Oper} {o : Oper} {a : Act} {Q : Exit → Act → World → Prop} (hgd : o.guard = none) (s x : Operand) (t : TypeId)
    (ho : o.op = .call { callee := .builtin .append, args := #[s, x], argTypes := #[t, t] })
    (base : Nat) (e : TypeId) (i : TypeInfo) (z : Value) (size bytes : Nat) (ht : P.underlying t = some (.slice e)) (hi : P.info? e = some i) (hz : i.zero = some z)
    (hsize : i.size = size) (hby : i.bytes = bytes) (hzs : z.cells.size = size) (hsz : 0 < size)
    (v : Value) (n : Nat) (xs : List Value) (hs : a.eval s = v) (hown : w.ownsRow base e size v n xs)
    (base' : Nat) (X : Option Addr) (m c : Nat) (news : List Value) (hx : a.eval x = .slice X m c) (hnew : w.ownsRow base' e size (.slice X m c) m news) (h1 : ∀ u ∈ news, u.oneCell' = true)
    (h63 : n + m ≤ maxLen) (hbytes : (n + m) * bytes ≤ 140737488355328) (hbase : base ≤ w.heap.size)
    (h : ∀ v' w', w'.ownsRow base e size v' (n + m) (xs ++ news) → w.grownBy w' v.ownBlock → (v'.ownBlock = v.ownBlock ∨ v'.ownBlock = some w.heap.size) → wpList P ops Q rest (a.put o.dst v') w') :
    wpList P ops Q (o :: rest) a w := by
  cases X with
  | some ad => exact wpList_append_own_at w hgd s x t ho base e i z size bytes ht hi hz hsize hby hzs hsz v n xs hs hown ad m c news hx hnew.1 (own_cells hnew) h1 h63 hbytes hbase (fun v' w' a1 a2 _ a4 => h v' w' a1 a2 a4)
  | none =>
    have hl := hnew.1
    rcases hnew.2 with ⟨h2, h3⟩ | ⟨g, cap', cur, h2, _⟩
    · injection h2 with _ h4 h5
      subst h4 h5
      have hn0 : news = [] := List.eq_nil_of_length_eq_zero (by rw [hl]; simp)
      subst hn0
      obtain ⟨Xf, cf, rfl, hoc, hcx⟩ := own_form hown
      have hXn : Xf = none → n = 0 ∧ cf = 0 := fun e' => by
        subst e'
        rcases hown.2 with ⟨h1, h2⟩ | ⟨g, cap', cur, h1, _⟩
        · injection h1 with _ h3 h4; exact ⟨h3, h4⟩
        · cases h1
      refine wpList_append_none hgd s x t ho e i ht hi Xf n cf hs hx hoc hXn (h _ _ ?_ (World.grownBy.refl _ _) (.inl rfl))
      rw [Nat.add_zero, List.append_nil]
      exact hown
    · cases h2
end
/-- the row of all statements, some procedures of it -/
structure AlI (w : World) (Q : Nat → Prop) (W wr : World) (out : List It) (X : Option Addr) (n c : Nat) : Prop where
  row : ∃ rows, wr.ownsRow W.heap.size 51 16 (.slice X n c) out.length rows.flatten ∧ All2 (ItemI w Q) out rows
  inn : In Q w wr
  below : Below W.heap.size W wr
set_option maxHeartbeats 4000000 in
set_option maxRecDepth 100000 in
theorem All_any {w W : World} {Q : Nat → Prop} {p : Pg} {c0 c1 : Value} (h : ProgI w Q p [c0, c1]) (hI : In Q w W) :
    Calls Tryz.prog 68 #[.agg #[c0, c1]] W fun e w' => ∃ X n c, e = .returned (.slice X n c) ∧ AlI w Q W w' (allOf p) X n c := by
  obtain ⟨Ag, cg, Ap, cp, rfl, rfl, hg1, hg2, hp1, hp2, hgl, hpr⟩ := prog_open h
  obtain ⟨i0, hi0, hz0, hz1, hz2⟩ := info_parts item_info
  have HP := Lib.hid hpr
  have HI := Lib.hid hI
  have HQ : Hid (∀ j, Q j → j < W.heap.size) := Lib.hid hI.1
  clear h hI hgl hpr
  go_enter Tryz.func68, Tryz.ntmps68
  go_upto_region 2 with fail
  have HB0 : Hid (Below W.heap.size W (W.alloc (.cells #[.slice Ag p.globals.length cg, .slice Ap p.procs.length cp] 25))) := Lib.hid (below_box _)
  have HBp : Hid (Blk (W.alloc (.cells #[.slice Ag p.globals.length cg, .slice Ap p.procs.length cp] 25)) W.heap.size 25 #[.slice Ag p.globals.length cg, .slice Ap p.procs.length cp]) := Lib.hid (Blk.new _ _ _)
  generalize World.alloc _ _ = V0 at HBp HB0 ⊢
  have q1 : V0.cell? ⟨W.heap.size, 1, none⟩ = some (.slice Ap p.procs.length cp) := by rw [HBp.out.cell]; rfl
  have hbl := HBp.out.lt
  have HI0 := Lib.hid (HI.out.on HB0.out)
  go_wp2_with fail
  clear q1 hbl HBp
  have HS : Hid (AlI w Q W V0 [] none 0 0) := Lib.hid ⟨⟨[], World.ownsRow_nil _ _ _ _, trivial⟩, HI0.out, HB0.out⟩
  clear HB0 HI0
  go_loopw [3, 9] (fun ov iv wr => ∃ (k : Nat) (out : List It) (X : Option Addr) (c : Nat), k ≤ p.procs.length ∧ iv = .int .i64 k ∧ ov = .slice X out.length c ∧ out.length ≤ 200 ∧ Hid (allL (p.procs.drop k) out = allOf p) ∧ Hid (AlI w Q W wr out X out.length c)) (fun _ iv _ => p.procs.length - (intOf iv).toNat)
  case atStart => exact ⟨0, [], none, 0, Nat.zero_le _, rfl, rfl, by simp, Lib.hid (by rw [List.drop_zero]; rfl), HS⟩
  case round =>
    clear HS
    obtain ⟨k, out, X, c, hk, rfl, rfl, ho, HW, HR⟩ := hrel
    by_cases hlt : k < p.procs.length
    · obtain ⟨a, Bp, kp, Bv, kv, Bb, kb, Be, ke, rfl, _, hrow, hnm, hpp, hvv, hbody, hee⟩ := proc_at HP.out HR.out.inn hlt
      have HD := Lib.hid (allL_drop (out := out) hlt)
      rw [HW.out] at HD
      generalize p.procs[k] = x at hrow hnm hpp hvv hbody hee HD
      obtain ⟨pn, pp, pv, pb, pe⟩ := x
      simp only at hrow hnm hpp hvv hbody hee HD
      obtain ⟨p0, p1, p2, p3, p4, _⟩ := hrow
      have HPI : Hid (ProcI w Q ⟨pn, pp, pv, pb, pe⟩ [.string pn, .slice Bp pp.length kp, .slice Bv pv.length kv, .slice Bb pb.length kb, .slice Be pe.length ke]) := Lib.hid ⟨_, _, _, _, rfl, hnm, hpp, hvv, hbody, hee⟩
      clear hnm hpp hvv hbody hee
      have HC := Lib.hid (fun V h1 h2 => Flat_any (W := V) HPI.out h1 h2)
      have hfll := flatOf_len ⟨pn, pp, pv, pb, pe⟩
      obtain ⟨its, hits⟩ : ∃ its, its = flatOf ⟨pn, pp, pv, pb, pe⟩ := ⟨_, rfl⟩
      rw [← hits] at HC hfll HD
      clear hits
      go_upto_region 5 with fail
      have HBq : Hid (Blk (wr.alloc (.cells #[.string pn, .slice Bp pp.length kp, .slice Bv pv.length kv, .slice Bb pb.length kb, .slice Be pe.length ke] 39)) wr.heap.size 39 #[.string pn, .slice Bp pp.length kp, .slice Bv pv.length kv, .slice Bb pb.length kb, .slice Be pe.length ke]) := Lib.hid (Blk.new _ _ _)
      have HBo : Hid (Below wr.heap.size wr (wr.alloc (.cells #[.string pn, .slice Bp pp.length kp, .slice Bv pv.length kv, .slice Bb pb.length kb, .slice Be pe.length ke] 39))) := Lib.hid (below_box _)
      generalize World.alloc _ _ = W6 at HBq HBo ⊢
      generalize wr.heap.size = bQ at HBq ⊢
      have HI6 := Lib.hid (HR.out.inn.on HBo.out)
      obtain ⟨rows, hO, hAl⟩ := HR.out.row
      have HO6 := Lib.hid ((Below.moves HBo.out).row hO (fun j hj e => Nat.not_lt.2 e (hO.lt j hj).2))
      have HAl := Lib.hid hAl
      have HB6 := Lib.hid (below_step HR.out.below HBo.out)
      have HRl : Hid (∀ j, (Value.slice X out.length c).ownBlock = some j → W.heap.size ≤ j ∧ j < W6.heap.size) := Lib.hid (fun j hj => ⟨(hO.lt j hj).1, Nat.lt_of_lt_of_le (hO.lt j hj).2 HBo.out.size⟩)
      clear p0 p1 p2 p3 p4 hO hAl
      have z0 : W6.cell? ⟨bQ, 0, none⟩ = some (.string pn) := by rw [HBq.out.cell]; rfl
      have z1 : W6.cell? ⟨bQ, 1, none⟩ = some (.slice Bp pp.length kp) := by rw [HBq.out.cell]; rfl
      have z2 : W6.cell? ⟨bQ, 2, none⟩ = some (.slice Bv pv.length kv) := by rw [HBq.out.cell]; rfl
      have z3 : W6.cell? ⟨bQ, 3, none⟩ = some (.slice Bb pb.length kb) := by rw [HBq.out.cell]; rfl
      have z4 : W6.cell? ⟨bQ, 4, none⟩ = some (.slice Be pe.length ke) := by rw [HBq.out.cell]; rfl
      have hbq := HBq.out.lt
      obtain ⟨Xf, cf, hXe, hoc, hcx⟩ := own_form HO6.out
      injection hXe with hX1 _ hX3
      subst hX1 hX3
      clear hcx
      by_cases hgt : 200 < out.length + its.length
      · rw [if_pos (by rw [List.length_append]; exact hgt)] at HD
        go_wp2_with (first
          | (go_at_call 20; refine (HC.out W6 HI6.out HI6.out.1).mono ?_; rintro e' W7 ⟨v7, rows7, rfl, ho7, ha7, hb7⟩; obtain ⟨X7, cx7, rfl, hx7, hx7'⟩ := own_shape ho7; have HO7 := Lib.hid ((Below.moves hb7).row HO6.out (fun j hj e => Nat.not_lt.2 e (HRl.out j hj).2)); have HA7 := Lib.hid ha7; have HV7 := Lib.hid ho7; have HB67 := Lib.hid hb7; have HI7 := Lib.hid (HI6.out.on hb7); clear ho7 ha7 hb7 HC z0 z1 z2 z3 z4 hbq HO6)
          | (at_builtin; refine wpList_append_rows rfl (.tmp 13) (.tmp 15) 42 rfl W.heap.size 51 i0 _ 16 232 Tryz.underlying42 hi0 hz0 hz1 hz2 rfl (by decide) (.slice X out.length c) out.length rows.flatten rfl HO7.out W6.heap.size X7 its.length cx7 rows7.flatten rfl HV7.out (All2.one (fun _ _ => item_one) HA7.out).1 (by unfold maxLen; omega) (by omega) (Nat.le_trans HB6.out.size HB67.out.size) ?_; intro v' w8 hown8 hg8 hat8; obtain ⟨X8, c8, rfl, _, _⟩ := own_form hown8; have HO8 := Lib.hid hown8; have HG8 := Lib.hid hg8; clear hown8 hg8 hat8))
        have hm8 := moves_grown HG8.out
        have HA : Hid (AlI w Q W w8 (out ++ its) X8 (out.length + its.length) c8) := Lib.hid ⟨⟨rows ++ rows7, by rw [List.length_append, List.flatten_append]; exact HO8.out, HAl.out.append HA7.out⟩, HI7.out.moves hm8 (fun j hj hq => by have := (HO7.out.lt j hj).1; have := HQ.out j hq; omega), (below_step HB6.out HB67.out).trans (hm8.below (Nat.le_trans HB6.out.size HB67.out.size) (fun j hj => (HO7.out.lt j hj).1))⟩
        go_ret
        exact ⟨X8, _, c8, rfl, by rw [HD.out]; exact HA.out⟩
      · rw [if_neg (by rw [List.length_append]; exact hgt)] at HD
        go_wp2_with (first
          | (go_at_call 20; refine (HC.out W6 HI6.out HI6.out.1).mono ?_; rintro e' W7 ⟨v7, rows7, rfl, ho7, ha7, hb7⟩; obtain ⟨X7, cx7, rfl, hx7, hx7'⟩ := own_shape ho7; have HO7 := Lib.hid ((Below.moves hb7).row HO6.out (fun j hj e => Nat.not_lt.2 e (HRl.out j hj).2)); have HA7 := Lib.hid ha7; have HV7 := Lib.hid ho7; have HB67 := Lib.hid hb7; have HI7 := Lib.hid (HI6.out.on hb7); clear ho7 ha7 hb7 HC z0 z1 z2 z3 z4 hbq HO6)
          | (at_builtin; refine wpList_append_rows rfl (.tmp 13) (.tmp 15) 42 rfl W.heap.size 51 i0 _ 16 232 Tryz.underlying42 hi0 hz0 hz1 hz2 rfl (by decide) (.slice X out.length c) out.length rows.flatten rfl HO7.out W6.heap.size X7 its.length cx7 rows7.flatten rfl HV7.out (All2.one (fun _ _ => item_one) HA7.out).1 (by unfold maxLen; omega) (by omega) (Nat.le_trans HB6.out.size HB67.out.size) ?_; intro v' w8 hown8 hg8 hat8; obtain ⟨X8, c8, rfl, _, _⟩ := own_form hown8; have HO8 := Lib.hid hown8; have HG8 := Lib.hid hg8; clear hown8 hg8 hat8))
        have hm8 := moves_grown HG8.out
        have HA : Hid (AlI w Q W w8 (out ++ its) X8 (out.length + its.length) c8) := Lib.hid ⟨⟨rows ++ rows7, by rw [List.length_append, List.flatten_append]; exact HO8.out, HAl.out.append HA7.out⟩, HI7.out.moves hm8 (fun j hj hq => by have := (HO7.out.lt j hj).1; have := HQ.out j hq; omega), (below_step HB6.out HB67.out).trans (hm8.below (Nat.le_trans HB6.out.size HB67.out.size) (fun j hj => (HO7.out.lt j hj).1))⟩
        go_roundw
        case rel => exact ⟨k + 1, out ++ its, X8, c8, by omega, by go_num, by rw [List.length_append], by rw [List.length_append]; omega, Lib.hid HD.out.symm, by rw [List.length_append]; exact HA⟩
        case measure => simp [intOf]; omega
    · have hD := HW.out
      rw [List.drop_of_length_le (by omega), allL] at hD
      have HD := Lib.hid hD
      clear hD
      go_wp2_with fail
      go_ret
      exact ⟨X, out.length, c, rfl, by rw [← HD.out]; exact HR.out⟩
end Go.Proofs.YtimejkbmfbjomaaGreat
