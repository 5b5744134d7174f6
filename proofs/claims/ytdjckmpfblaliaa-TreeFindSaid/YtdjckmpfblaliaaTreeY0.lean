/- Sameness: words, and what two cursors that go side by side tell. -/
import Derived.Test.YtdjckmpfblaliaaTreeX
import Derived.Test.YtdjckmpfblaliaaTreeL
namespace Go.Proofs.Ytdjckmpfblaliaa
open Go.ChangeShapes Go.WideShapes Go.ChangeAt Go.RowKit Go.Deep
set_option linter.unusedVariables false

/-- equal or not, as a Bool -/
noncomputable def eqB {α : Type} (a b : α) : Bool := @decide (a = b) (Classical.propDecidable _)
theorem eqB_iff {α : Type} {a b : α} : eqB a b = true ↔ a = b := by unfold eqB; exact @decide_eq_true_iff _ (Classical.propDecidable _)
theorem eqB_self {α : Type} (a : α) : eqB a a = true := eqB_iff.2 rfl
theorem eqB_ne {α : Type} {a b : α} (h : a ≠ b) : eqB a b = false := by cases hx : eqB a b; rfl; exact absurd (eqB_iff.1 hx) h
theorem eqB_of {α : Type} {a b : α} {c : Bool} (h : c = true ↔ a = b) : c = eqB a b := by rw [Bool.eq_iff_iff, eqB_iff]; exact h
theorem eqB_symm {α : Type} (a b : α) : eqB a b = eqB b a := by rw [Bool.eq_iff_iff, eqB_iff, eqB_iff]; exact eq_comm
theorem eqB_dec {α : Type} [DecidableEq α] (a b : α) : decide (a = b) = eqB a b := eqB_of decide_eq_true_iff
def sameP {α : Type} (h : α → α → Bool) : List α → List α → Bool
  | [], [] => true
  | x :: xs, y :: ys => h x y && sameP h xs ys
  | [], _ :: _ => false
  | _ :: _, [] => false
def headE (x y : E) : Bool := (x.op == y.op) && (x.n == y.n) && (x.nm.toList == y.nm.toList) && (((x.ks.length : Nat) : Int) == ((y.ks.length : Nat) : Int))
theorem headE_iff {x y : E} : headE x y = true ↔ x.op = y.op ∧ x.n = y.n ∧ x.nm = y.nm ∧ x.ks.length = y.ks.length := by
  simp only [headE, Bool.and_eq_true, beq_iff_eq, dec_bytes, decide_eq_true_eq]
  constructor
  · rintro ⟨⟨⟨h1, h2⟩, h3⟩, h4⟩; exact ⟨h1, h2, h3, by omega⟩
  · rintro ⟨h1, h2, h3, h4⟩; exact ⟨⟨⟨h1, h2⟩, h3⟩, by omega⟩
theorem sameP_preL : ∀ (N : Nat) (l l' : List E) (r r' : List E), (preL l).length < N → l.length = l'.length → (sameP headE (preL l ++ r) (preL l' ++ r') = true ↔ l = l' ∧ sameP headE r r' = true)
  | 0, l, l', r, r', h, _ => by omega
  | N + 1, [], [], r, r', _, _ => by simp [preL]
  | N + 1, [], y :: ys, r, r', _, h => by simp at h
  | N + 1, x :: xs, [], r, r', _, h => by simp at h
  | N + 1, x :: xs, y :: ys, r, r', hN, hl => by
    rw [preL_cons] at hN
    simp only [List.length_cons, List.length_append] at hN
    rw [preL_cons, preL_cons]
    simp only [List.cons_append, List.append_assoc, sameP, Bool.and_eq_true]
    constructor
    · rintro ⟨h1, h2⟩
      obtain ⟨e1, e2, e3, e4⟩ := headE_iff.1 h1
      obtain ⟨h3, h4⟩ := (sameP_preL N x.ks y.ks _ _ (by omega) e4).1 h2
      obtain ⟨h5, h6⟩ := (sameP_preL N xs ys _ _ (by omega) (by simpa using hl)).1 h4
      refine ⟨?_, h6⟩
      rw [h5]
      congr 1
      cases x; cases y
      simp only [E.op, E.n, E.nm, E.ks] at e1 e2 e3 h3
      rw [e1, e2, e3, h3]
    · rintro ⟨h1, h2⟩
      injection h1 with h1 h3
      subst h1 h3
      refine ⟨headE_iff.2 ⟨rfl, rfl, rfl, rfl⟩, (sameP_preL N x.ks x.ks _ _ (by omega) rfl).2 ⟨rfl, (sameP_preL N xs xs _ _ (by omega) rfl).2 ⟨rfl, h2⟩⟩⟩
theorem same_expr (x y : E) : (headE x y && sameP headE (preL x.ks) (preL y.ks)) = eqB x y := by
  apply eqB_of
  rw [Bool.and_eq_true]
  constructor
  · rintro ⟨h1, h2⟩
    obtain ⟨e1, e2, e3, e4⟩ := headE_iff.1 h1
    have h3 := (sameP_preL ((preL x.ks).length + 1) x.ks y.ks [] [] (by omega) e4).1 (by simpa using h2)
    cases x; cases y
    simp only [E.op, E.n, E.nm, E.ks] at e1 e2 e3 h3
    rw [e1, e2, e3, h3.1]
  · rintro rfl
    refine ⟨headE_iff.2 ⟨rfl, rfl, rfl, rfl⟩, ?_⟩
    have := (sameP_preL ((preL x.ks).length + 1) x.ks x.ks [] [] (by omega) rfl).2 ⟨rfl, rfl⟩
    simpa using this
def S.id : S → Int | .mk id _ _ _ _ _ _ _ _ _ => id
def S.kind : S → Int | .mk _ kind _ _ _ _ _ _ _ _ => kind
def S.labels : S → List ByteArray | .mk _ _ labels _ _ _ _ _ _ _ => labels
def S.nm : S → ByteArray | .mk _ _ _ nm _ _ _ _ _ _ => nm
def S.proc : S → ByteArray | .mk _ _ _ _ proc _ _ _ _ _ => proc
def S.x : S → E | .mk _ _ _ _ _ x _ _ _ _ => x
def S.has : S → Bool | .mk _ _ _ _ _ _ has _ _ _ => has
def S.args : S → List Ar | .mk _ _ _ _ _ _ _ args _ _ => args
def S.th : S → List S | .mk _ _ _ _ _ _ _ _ th _ => th
def S.el : S → List S | .mk _ _ _ _ _ _ _ _ _ el => el
theorem subS_eq (s : S) : subS s = preSL s.th ++ preSL s.el := by cases s; rfl
noncomputable def headS (x y : S) : Bool := (x.id == y.id) && (x.kind == y.kind) && (x.nm.toList == y.nm.toList) && (x.proc.toList == y.proc.toList) && (x.has == y.has) && (((x.th.length : Nat) : Int) == ((y.th.length : Nat) : Int)) && (((x.el.length : Nat) : Int) == ((y.el.length : Nat) : Int)) && eqB x.labels y.labels && eqB x.x y.x && eqB x.args y.args
theorem headS_iff {x y : S} : headS x y = true ↔ x.id = y.id ∧ x.kind = y.kind ∧ x.nm = y.nm ∧ x.proc = y.proc ∧ x.has = y.has ∧ x.th.length = y.th.length ∧ x.el.length = y.el.length ∧ x.labels = y.labels ∧ x.x = y.x ∧ x.args = y.args := by
  simp only [headS, Bool.and_eq_true, beq_iff_eq, dec_bytes, decide_eq_true_eq, eqB_iff]
  constructor
  · rintro ⟨⟨⟨⟨⟨⟨⟨⟨⟨h1, h2⟩, h3⟩, h4⟩, h5⟩, h6⟩, h7⟩, h8⟩, h9⟩, h10⟩; exact ⟨h1, h2, h3, h4, h5, by omega, by omega, h8, h9, h10⟩
  · rintro ⟨h1, h2, h3, h4, h5, h6, h7, h8, h9, h10⟩; exact ⟨⟨⟨⟨⟨⟨⟨⟨⟨h1, h2⟩, h3⟩, h4⟩, h5⟩, by omega⟩, by omega⟩, h8⟩, h9⟩, h10⟩
theorem sameP_preSL : ∀ (N : Nat) (l l' : List S) (r r' : List S), (preSL l).length < N → l.length = l'.length → (sameP headS (preSL l ++ r) (preSL l' ++ r') = true ↔ l = l' ∧ sameP headS r r' = true)
  | 0, l, l', r, r', h, _ => by omega
  | N + 1, [], [], r, r', _, _ => by simp [preSL]
  | N + 1, [], y :: ys, r, r', _, h => by simp at h
  | N + 1, x :: xs, [], r, r', _, h => by simp at h
  | N + 1, x :: xs, y :: ys, r, r', hN, hl => by
    rw [preSL_cons, subS_eq] at hN
    simp only [List.length_cons, List.length_append] at hN
    rw [preSL_cons, preSL_cons, subS_eq, subS_eq]
    simp only [List.cons_append, List.append_assoc, sameP, Bool.and_eq_true]
    constructor
    · rintro ⟨h1, h2⟩
      obtain ⟨e1, e2, e3, e4, e5, e6, e7, e8, e9, e10⟩ := headS_iff.1 h1
      obtain ⟨h3, h4⟩ := (sameP_preSL N x.th y.th _ _ (by omega) e6).1 h2
      obtain ⟨h5, h6⟩ := (sameP_preSL N x.el y.el _ _ (by omega) e7).1 h4
      obtain ⟨h7, h8⟩ := (sameP_preSL N xs ys _ _ (by omega) (by simpa using hl)).1 h6
      refine ⟨?_, h8⟩
      rw [h7]
      congr 1
      cases x; cases y
      simp only [S.id, S.kind, S.nm, S.proc, S.has, S.labels, S.x, S.args, S.th, S.el] at e1 e2 e3 e4 e5 e8 e9 e10 h3 h5
      rw [e1, e2, e3, e4, e5, e8, e9, e10, h3, h5]
    · rintro ⟨h1, h2⟩
      injection h1 with h1 h3
      subst h1 h3
      exact ⟨headS_iff.2 ⟨rfl, rfl, rfl, rfl, rfl, rfl, rfl, rfl, rfl, rfl⟩, (sameP_preSL N x.th x.th _ _ (by omega) rfl).2 ⟨rfl, (sameP_preSL N x.el x.el _ _ (by omega) rfl).2 ⟨rfl, (sameP_preSL N xs xs _ _ (by omega) rfl).2 ⟨rfl, h2⟩⟩⟩⟩
theorem sameP_head {x y : S} {xs ys : List S} : sameP headS (preSL (x :: xs)) (preSL (y :: ys)) = (headS x y && sameP headS (subS x ++ preSL xs) (subS y ++ preSL ys)) := by rw [preSL_cons, preSL_cons, sameP]
/-- two bodies, walked side by side without asking their lengths first -/
theorem sameP_len : ∀ (N : Nat) (l l' : List S), (preSL l).length < N → (sameP headS (preSL l) (preSL l') = true ↔ l = l')
  | 0, l, l', h => by omega
  | N + 1, [], [], _ => by simp [preSL, sameP]
  | N + 1, [], y :: ys, _ => by rw [preSL_cons, preSL]; simp [sameP]
  | N + 1, x :: xs, [], _ => by rw [preSL_cons, preSL]; simp [sameP]
  | N + 1, x :: xs, y :: ys, hN => by
    rw [preSL_cons, subS_eq] at hN
    simp only [List.length_cons, List.length_append] at hN
    rw [preSL_cons, preSL_cons, subS_eq, subS_eq]
    simp only [List.append_assoc, sameP, Bool.and_eq_true]
    constructor
    · rintro ⟨h1, h2⟩
      obtain ⟨e1, e2, e3, e4, e5, e6, e7, e8, e9, e10⟩ := headS_iff.1 h1
      obtain ⟨h3, h4⟩ := (sameP_preSL N x.th y.th _ _ (by omega) e6).1 h2
      obtain ⟨h5, h6⟩ := (sameP_preSL N x.el y.el _ _ (by omega) e7).1 h4
      have h7 := (sameP_len N xs ys (by omega)).1 h6
      rw [h7]
      congr 1
      cases x; cases y
      simp only [S.id, S.kind, S.nm, S.proc, S.has, S.labels, S.x, S.args, S.th, S.el] at e1 e2 e3 e4 e5 e8 e9 e10 h3 h5
      rw [e1, e2, e3, e4, e5, e8, e9, e10, h3, h5]
    · intro h1
      injection h1 with h1 h3
      subst h1 h3
      exact ⟨headS_iff.2 ⟨rfl, rfl, rfl, rfl, rfl, rfl, rfl, rfl, rfl, rfl⟩, (sameP_preSL N x.th x.th _ _ (by omega) rfl).2 ⟨rfl, (sameP_preSL N x.el x.el _ _ (by omega) rfl).2 ⟨rfl, (sameP_len N xs xs (by omega)).2 rfl⟩⟩⟩
theorem same_body (l l' : List S) : sameP headS (preSL l) (preSL l') = eqB l l' := eqB_of (sameP_len ((preSL l).length + 1) l l' (by omega))
end Go.Proofs.Ytdjckmpfblaliaa
