/- What may be, by the reference's road, as data: all statements in one row, each asked by itself; and that this is what tree's own road says. -/
import Derived.Test.YtkbjlnmdlolhiaaTreeFF
namespace Go.Proofs.Ytkbjlnmdlolhiaa
open Go.ChangeShapes Go.WideShapes Go.ChangeAt Go.RowKit Go.Deep
set_option linter.unusedVariables false

def itOk (k : Nat) (x : It) : Bool := decide (x.s.id = ((k + 1 : Nat) : Int)) && decide (x.deep ≤ 12) && stmtOk x.s
theorem itOk_of {k : Nat} {x : It} (h1 : x.s.id = ((k + 1 : Nat) : Int)) (h2 : x.deep ≤ 12) (h3 : stmtOk x.s = true) : itOk k x = true := by
  unfold itOk; rw [decide_eq_true h1, decide_eq_true h2, h3]; rfl
theorem itOk_inv {k : Nat} {x : It} (h : itOk k x = true) : x.s.id = ((k + 1 : Nat) : Int) ∧ x.deep ≤ 12 ∧ stmtOk x.s = true := by
  unfold itOk at h
  rw [Bool.and_eq_true, Bool.and_eq_true] at h
  exact ⟨of_decide_eq_true h.1.1, of_decide_eq_true h.1.2, h.2⟩
def itsOk : List It → Nat → Bool
  | [], _ => true
  | x :: l, k => itOk k x && itsOk l (k + 1)
theorem itsOk_append : ∀ (a b : List It) (k : Nat), itsOk (a ++ b) k = (itsOk a k && itsOk b (k + a.length))
  | [], b, k => by simp [itsOk]
  | x :: a, b, k => by
    rw [List.cons_append, itsOk, itsOk, itsOk_append a b (k + 1), Bool.and_assoc, List.length_cons]
    congr 3
    omega
theorem itsOk_drop {l : List It} {k : Nat} (h : k < l.length) : itsOk (l.drop k) k = (itOk k l[k] && itsOk (l.drop (k + 1)) (k + 1)) := by
  rw [List.drop_eq_getElem_cons h, itsOk]
def allL : List Pr → List It → List It
  | [], out => out
  | q :: l, out => if 200 < (out ++ flatOf q).length then out ++ flatOf q else allL l (out ++ flatOf q)
theorem allL_drop {l : List Pr} {k : Nat} {out : List It} (h : k < l.length) : allL (l.drop k) out = if 200 < (out ++ flatOf l[k]).length then out ++ flatOf l[k] else allL (l.drop (k + 1)) (out ++ flatOf l[k]) := by
  rw [List.drop_eq_getElem_cons h, allL]
def allOf (p : Pg) : List It := allL p.procs []
def rMayP (p : Pg) : Bool := !decide (16 < p.globals.length) && !decide (16 < p.procs.length) && allN p.globals && p.procs.all headOk && !decide (200 < (allOf p).length) && itsOk (allOf p) 0
theorem allL_more : ∀ (l : List Pr) (out : List It), ∃ xs, allL l out = out ++ xs
  | [], out => ⟨[], by rw [allL, List.append_nil]⟩
  | q :: l, out => by
    rw [allL]
    split
    · exact ⟨_, rfl⟩
    · obtain ⟨xs, h⟩ := allL_more l (out ++ flatOf q)
      exact ⟨flatOf q ++ xs, by rw [h, List.append_assoc]⟩
theorem allL_len : ∀ (l : List Pr) (out : List It), out.length ≤ 200 → (allL l out).length ≤ 401
  | [], out, h => by rw [allL]; omega
  | q :: l, out, h => by
    rw [allL]
    have := flatOf_len q
    split
    · rw [List.length_append]; omega
    · exact allL_len l _ (by omega)
mutual
theorem flatL_more : ∀ (l : List S) (d : Nat) (i : Int) (e : Bool) (out : List It), ∃ xs, flatL l d i e out = out ++ xs
  | [], d, i, e, out => ⟨[], by rw [flatL, List.append_nil]⟩
  | s :: l, d, i, e, out => by
    rw [flatL]
    split
    · obtain ⟨xs, h⟩ := flatS_more s d i e out
      obtain ⟨ys, h'⟩ := flatL_more l d i e (out ++ ⟨s, d, i, e⟩ :: xs)
      exact ⟨⟨s, d, i, e⟩ :: xs ++ ys, by rw [h, h']; simp⟩
    · exact ⟨[], by rw [List.append_nil]⟩
theorem flatS_more : ∀ (s : S) (d : Nat) (i : Int) (e : Bool) (out : List It), ∃ xs, flatS s d i e out = out ++ ⟨s, d, i, e⟩ :: xs
  | .mk id kind labels nm proc x has args th el, d, i, e, out => by
    rw [flatS]
    split
    · obtain ⟨xs, h⟩ := flatL_more th (d + 1) id false (out ++ [⟨.mk id kind labels nm proc x has args th el, d, i, e⟩])
      obtain ⟨ys, h'⟩ := flatL_more el (d + 1) id true (out ++ [⟨.mk id kind labels nm proc x has args th el, d, i, e⟩] ++ xs)
      exact ⟨xs ++ ys, by rw [h, h']; simp⟩
    · exact ⟨[], rfl⟩
end
mutual
/-- what may be stands in the row, one behind the other -/
theorem flatL_ok : ∀ (l : List S) (d c c' : Nat), blkOk l d c = some c' → c ≤ 200 → ∀ (i : Int) (e : Bool) (out : List It), out.length ≤ c → ∃ xs, flatL l d i e out = out ++ xs ∧ c' = c + xs.length ∧ itsOk xs c = true
  | [], d, c, c', h, hc, i, e, out, ho => by
    rw [blkOk] at h
    injection h with h
    exact ⟨[], by rw [flatL, List.append_nil], by simp [h], rfl⟩
  | s :: l, d, c, c', h, hc, i, e, out, ho => by
    rw [blkOk] at h
    cases h1 : oneOk s d c with
    | none => rw [h1] at h; simp at h
    | some c1 =>
      rw [h1] at h
      simp only [Option.bind_some] at h
      obtain ⟨xs, a1, a2, a3⟩ := flatS_ok s d c c1 h1 hc i e out ho
      obtain ⟨ys, b1, b2, b3⟩ := flatL_ok l d c1 c' h (oneOk_le s d c c1 hc h1) i e (out ++ xs) (by rw [List.length_append]; omega)
      refine ⟨xs ++ ys, ?_, by rw [List.length_append]; omega, ?_⟩
      · rw [flatL, if_pos (by omega), a1, b1, List.append_assoc]
      · rw [itsOk_append, a3, ← a2, b3]; rfl
theorem flatS_ok : ∀ (s : S) (d c c' : Nat), oneOk s d c = some c' → c ≤ 200 → ∀ (i : Int) (e : Bool) (out : List It), out.length ≤ c → ∃ xs, flatS s d i e out = out ++ xs ∧ c' = c + xs.length ∧ itsOk xs c = true
  | .mk id kind labels nm proc x has args th el, d, c, c', h, hc, i, e, out, ho => by
    rw [oneOk] at h
    split at h
    · rename_i hcnd
      obtain ⟨hd, hc1, hid, hok⟩ := hcnd
      cases h1 : blkOk th (d + 1) (c + 1) with
      | none => rw [h1] at h; simp at h
      | some c1 =>
        rw [h1] at h
        simp only [Option.bind_some] at h
        obtain ⟨xs, a1, a2, a3⟩ := flatL_ok th (d + 1) (c + 1) c1 h1 hc1 id false (out ++ [⟨.mk id kind labels nm proc x has args th el, d, i, e⟩]) (by simp; omega)
        obtain ⟨ys, b1, b2, b3⟩ := flatL_ok el (d + 1) c1 c' h (blkOk_le th (d + 1) (c + 1) c1 hc1 h1) id true (out ++ [⟨.mk id kind labels nm proc x has args th el, d, i, e⟩] ++ xs) (by simp; omega)
        refine ⟨⟨.mk id kind labels nm proc x has args th el, d, i, e⟩ :: (xs ++ ys), ?_, by simp; omega, ?_⟩
        · rw [flatS, if_pos hd, a1, b1]; simp
        · rw [itsOk, itsOk_append, a3, ← a2, b3, itOk_of (by exact hid) (by show (d : Int) ≤ 12; omega) hok]
          rfl
    · cases h
end
mutual
/-- what may not be: too many, or one of them may not be -/
theorem flatL_bad : ∀ (l : List S) (d c : Nat), blkOk l d c = none → c ≤ 200 → ∀ (i : Int) (e : Bool) (out : List It), out.length ≤ c → ∃ xs, flatL l d i e out = out ++ xs ∧ (200 < c + xs.length ∨ itsOk xs c = false)
  | [], d, c, h, hc, i, e, out, ho => by rw [blkOk] at h; cases h
  | s :: l, d, c, h, hc, i, e, out, ho => by
    rw [blkOk] at h
    rw [flatL, if_pos (by omega)]
    cases h1 : oneOk s d c with
    | none =>
      obtain ⟨xs, a1, a2⟩ := flatS_bad s d c h1 hc i e out ho
      obtain ⟨ys, b1⟩ := flatL_more l d i e (out ++ xs)
      refine ⟨xs ++ ys, by rw [a1, b1, List.append_assoc], ?_⟩
      rcases a2 with a2 | a2
      · left; rw [List.length_append]; omega
      · right; rw [itsOk_append, a2]; rfl
    | some c1 =>
      rw [h1] at h
      simp only [Option.bind_some] at h
      obtain ⟨xs, a1, a2, a3⟩ := flatS_ok s d c c1 h1 hc i e out ho
      obtain ⟨ys, b1, b2⟩ := flatL_bad l d c1 h (oneOk_le s d c c1 hc h1) i e (out ++ xs) (by rw [List.length_append]; omega)
      refine ⟨xs ++ ys, by rw [a1, b1, List.append_assoc], ?_⟩
      rcases b2 with b2 | b2
      · left; rw [List.length_append]; omega
      · right; rw [itsOk_append, a3, ← a2, b2]; rfl
theorem flatS_bad : ∀ (s : S) (d c : Nat), oneOk s d c = none → c ≤ 200 → ∀ (i : Int) (e : Bool) (out : List It), out.length ≤ c → ∃ xs, flatS s d i e out = out ++ xs ∧ (200 < c + xs.length ∨ itsOk xs c = false)
  | .mk id kind labels nm proc x has args th el, d, c, h, hc, i, e, out, ho => by
    rw [oneOk] at h
    split at h
    · rename_i hcnd
      obtain ⟨hd, hc1, hid, hok⟩ := hcnd
      rw [flatS, if_pos hd]
      have hone : itOk c ⟨.mk id kind labels nm proc x has args th el, d, i, e⟩ = true := itOk_of (by exact hid) (by show (d : Int) ≤ 12; omega) hok
      cases h1 : blkOk th (d + 1) (c + 1) with
      | none =>
        obtain ⟨xs, a1, a2⟩ := flatL_bad th (d + 1) (c + 1) h1 hc1 id false (out ++ [⟨.mk id kind labels nm proc x has args th el, d, i, e⟩]) (by simp; omega)
        obtain ⟨ys, b1⟩ := flatL_more el (d + 1) id true (out ++ [⟨.mk id kind labels nm proc x has args th el, d, i, e⟩] ++ xs)
        refine ⟨⟨.mk id kind labels nm proc x has args th el, d, i, e⟩ :: (xs ++ ys), by rw [a1, b1]; simp, ?_⟩
        rcases a2 with a2 | a2
        · left; simp; omega
        · right; rw [itsOk, itsOk_append, a2]; simp
      | some c1 =>
        rw [h1] at h
        simp only [Option.bind_some] at h
        obtain ⟨xs, a1, a2, a3⟩ := flatL_ok th (d + 1) (c + 1) c1 h1 hc1 id false (out ++ [⟨.mk id kind labels nm proc x has args th el, d, i, e⟩]) (by simp; omega)
        obtain ⟨ys, b1, b2⟩ := flatL_bad el (d + 1) c1 h (blkOk_le th (d + 1) (c + 1) c1 hc1 h1) id true (out ++ [⟨.mk id kind labels nm proc x has args th el, d, i, e⟩] ++ xs) (by simp; omega)
        refine ⟨⟨.mk id kind labels nm proc x has args th el, d, i, e⟩ :: (xs ++ ys), by rw [a1, b1]; simp, ?_⟩
        rcases b2 with b2 | b2
        · left; simp; omega
        · right; rw [itsOk, itsOk_append, a3, ← a2, b2]; simp
    · rename_i hcnd
      obtain ⟨xs, a1⟩ := flatS_more (.mk id kind labels nm proc x has args th el) d i e out
      refine ⟨_, a1, ?_⟩
      by_cases hc1 : c + 1 ≤ 200
      · right
        rw [itsOk]
        have : itOk c ⟨.mk id kind labels nm proc x has args th el, d, i, e⟩ = false := by
          cases hx : itOk c ⟨.mk id kind labels nm proc x has args th el, d, i, e⟩ with
          | false => rfl
          | true =>
            obtain ⟨e1, e2, e3⟩ := itOk_inv hx
            have e2' : (d : Int) ≤ 12 := e2
            exact absurd ⟨by omega, hc1, e1, e3⟩ hcnd
        rw [this]; rfl
      · left; simp; omega
end
theorem prOk_all : ∀ (l : List Pr) (c : Nat) (out : List It), out.length = c → c ≤ 200 → ∃ xs, allL l out = out ++ xs ∧ (prOk l c).isSome = (l.all headOk && !decide (200 < c + xs.length) && itsOk xs c)
  | [], c, out, ho, hc => ⟨[], by rw [allL, List.append_nil], by simp [prOk, itsOk]; omega⟩
  | q :: l, c, out, ho, hc => by
    rw [List.all_cons]
    cases hh : headOk q with
    | false =>
      have hp : prOk (q :: l) c = none := by rw [prOk, hh]; rfl
      rw [hp, allL]
      by_cases hgt : 200 < (out ++ flatOf q).length
      · rw [if_pos hgt]
        exact ⟨_, rfl, by simp⟩
      · rw [if_neg hgt]
        obtain ⟨xs, h⟩ := allL_more l (out ++ flatOf q)
        exact ⟨flatOf q ++ xs, by rw [h, List.append_assoc], by simp⟩
    | true =>
      have hp : prOk (q :: l) c = (blkOk q.body 1 c).bind fun c' => prOk l c' := by rw [prOk, hh]; rfl
      rw [hp, allL, Bool.true_and]
      cases h1 : blkOk q.body 1 c with
      | some c1 =>
        obtain ⟨xs, a1, a2, a3⟩ := flatL_ok q.body 1 c c1 h1 hc 0 false [] (by simp)
        rw [List.nil_append] at a1
        have hc1 := blkOk_le q.body 1 c c1 hc h1
        have hx : flatOf q = xs := a1
        rw [hx, if_neg (by rw [List.length_append]; omega)]
        obtain ⟨ys, b1, b2⟩ := prOk_all l c1 (out ++ xs) (by rw [List.length_append]; omega) hc1
        refine ⟨xs ++ ys, by rw [b1, List.append_assoc], ?_⟩
        rw [Option.bind_some, b2, itsOk_append, a3, ← a2, Bool.true_and, List.length_append, ← Nat.add_assoc, ← a2]
      | none =>
        obtain ⟨xs, a1, a2⟩ := flatL_bad q.body 1 c h1 hc 0 false [] (by simp)
        rw [List.nil_append] at a1
        have hx : flatOf q = xs := a1
        rw [hx, Option.bind_none]
        split
        · rename_i hgt
          rw [List.length_append] at hgt
          exact ⟨xs, rfl, by rw [decide_eq_true (by omega)]; simp⟩
        · obtain ⟨ys, b1⟩ := allL_more l (out ++ xs)
          refine ⟨xs ++ ys, by rw [b1, List.append_assoc], ?_⟩
          rcases a2 with a2 | a2
          · rw [decide_eq_true (by rw [List.length_append]; omega)]; simp
          · rw [itsOk_append, a2]; simp
/-- the two roads meet -/
theorem rMayP_eq (p : Pg) : rMayP p = mayP p := by
  obtain ⟨xs, h1, h2⟩ := prOk_all p.procs 0 [] rfl (by omega)
  rw [List.nil_append] at h1
  unfold rMayP mayP allOf
  rw [h1, h2, Nat.zero_add]
  simp only [Bool.and_assoc]
end Go.Proofs.Ytkbjlnmdlolhiaa
