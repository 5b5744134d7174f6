/- Texts, merged by a program; only what is used. -/
import Derived.Test.YtnnblklbjbkikaaM1
import Derived.Test.YtnnblklbjbkikaaM2
import Derived.Test.YtnnblklbjbkikaaM3
import Derived.Test.YtnnblklbjbkikaaM4
import Derived.Test.YtnnblklbjbkikaaM5
import Derived.Test.YtnnblklbjbkikaaM6
import Derived.Test.YtnnblklbjbkikaaM7
import Derived.Test.YtnnblklbjbkikaaM8
import Derived.Test.YtnnblklbjbkikaaM9
import Derived.Test.YtnnblklbjbkikaaM10
import Derived.Test.YtnnblklbjbkikaaM11
namespace Go.Proofs.Ytnnblklbjbkikaa
open Go.ChangeShapes Go.WideShapes Go.ChangeAt Go.RowKit Go.Deep
set_option linter.unusedVariables false
set_option linter.unusedSimpArgs false
/-- equal or not, as a Bool -/
noncomputable def eqB {α : Type} (a b : α) : Bool := @decide (a = b) (Classical.propDecidable _)
theorem eqB_iff {α : Type} {a b : α} : eqB a b = true ↔ a = b := by unfold eqB; exact @decide_eq_true_iff _ (Classical.propDecidable _)
theorem eqB_self {α : Type} (a : α) : eqB a a = true := eqB_iff.2 rfl
theorem eqB_ne {α : Type} {a b : α} (h : a ≠ b) : eqB a b = false := by cases hx : eqB a b; rfl; exact absurd (eqB_iff.1 hx) h
theorem eqB_of {α : Type} {a b : α} {c : Bool} (h : c = true ↔ a = b) : c = eqB a b := by rw [Bool.eq_iff_iff, eqB_iff]; exact h
theorem eqB_dec {α : Type} [DecidableEq α] (a b : α) : decide (a = b) = eqB a b := eqB_of decide_eq_true_iff
def sameP {α : Type} (h : α → α → Bool) : List α → List α → Bool
  | [], [] => true
  | x :: xs, y :: ys => h x y && sameP h xs ys
  | [], _ :: _ => false
  | _ :: _, [] => false
def headE (x y : E) : Bool := (x.op == y.op) && (x.n == y.n) && (x.nm.toList == y.nm.toList) && (((x.ks.length : Nat) : Int) == ((y.ks.length : Nat) : Int))
theorem headE_iff {x y : E} : headE x y = true ↔ x.op = y.op ∧ x.n = y.n ∧ x.nm = y.nm ∧ x.ks.length = y.ks.length := by
  simp only [headE, Bool.and_eq_true, beq_iff_eq, dec_bytes, decide_eq_true_eq]
  constructor
  · rintro ⟨⟨⟨h1, h2⟩, h3⟩, h4⟩; exact ⟨h1, h2, h3, by omega⟩
  · rintro ⟨h1, h2, h3, h4⟩; exact ⟨⟨⟨h1, h2⟩, h3⟩, by omega⟩
theorem sameP_preL : ∀ (N : Nat) (l l' : List E) (r r' : List E), (preL l).length < N → l.length = l'.length → (sameP headE (preL l ++ r) (preL l' ++ r') = true ↔ l = l' ∧ sameP headE r r' = true)
  | 0, l, l', r, r', h, _ => by omega
  | N + 1, [], [], r, r', _, _ => by simp [preL]
  | N + 1, [], y :: ys, r, r', _, h => by simp at h
  | N + 1, x :: xs, [], r, r', _, h => by simp at h
  | N + 1, x :: xs, y :: ys, r, r', hN, hl => by
    rw [preL_cons] at hN
    simp only [List.length_cons, List.length_append] at hN
    rw [preL_cons, preL_cons]
    simp only [List.cons_append, List.append_assoc, sameP, Bool.and_eq_true]
    constructor
    · rintro ⟨h1, h2⟩
      obtain ⟨e1, e2, e3, e4⟩ := headE_iff.1 h1
      obtain ⟨h3, h4⟩ := (sameP_preL N x.ks y.ks _ _ (by omega) e4).1 h2
      obtain ⟨h5, h6⟩ := (sameP_preL N xs ys _ _ (by omega) (by simpa using hl)).1 h4
      refine ⟨?_, h6⟩
      rw [h5]
      congr 1
      cases x; cases y
      simp only [E.op, E.n, E.nm, E.ks] at e1 e2 e3 h3
      rw [e1, e2, e3, h3]
    · rintro ⟨h1, h2⟩
      injection h1 with h1 h3
      subst h1 h3
      refine ⟨headE_iff.2 ⟨rfl, rfl, rfl, rfl⟩, (sameP_preL N x.ks x.ks _ _ (by omega) rfl).2 ⟨rfl, (sameP_preL N xs xs _ _ (by omega) rfl).2 ⟨rfl, h2⟩⟩⟩
theorem same_expr (x y : E) : (headE x y && sameP headE (preL x.ks) (preL y.ks)) = eqB x y := by
  apply eqB_of
  rw [Bool.and_eq_true]
  constructor
  · rintro ⟨h1, h2⟩
    obtain ⟨e1, e2, e3, e4⟩ := headE_iff.1 h1
    have h3 := (sameP_preL ((preL x.ks).length + 1) x.ks y.ks [] [] (by omega) e4).1 (by simpa using h2)
    cases x; cases y
    simp only [E.op, E.n, E.nm, E.ks] at e1 e2 e3 h3
    rw [e1, e2, e3, h3.1]
  · rintro rfl
    refine ⟨headE_iff.2 ⟨rfl, rfl, rfl, rfl⟩, ?_⟩
    have := (sameP_preL ((preL x.ks).length + 1) x.ks x.ks [] [] (by omega) rfl).2 ⟨rfl, rfl⟩
    simpa using this
def S.id : S → Int | .mk id _ _ _ _ _ _ _ _ _ => id
def S.kind : S → Int | .mk _ kind _ _ _ _ _ _ _ _ => kind
def S.labels : S → List ByteArray | .mk _ _ labels _ _ _ _ _ _ _ => labels
def S.nm : S → ByteArray | .mk _ _ _ nm _ _ _ _ _ _ => nm
def S.proc : S → ByteArray | .mk _ _ _ _ proc _ _ _ _ _ => proc
def S.x : S → E | .mk _ _ _ _ _ x _ _ _ _ => x
def S.has : S → Bool | .mk _ _ _ _ _ _ has _ _ _ => has
def S.args : S → List Ar | .mk _ _ _ _ _ _ _ args _ _ => args
def S.th : S → List S | .mk _ _ _ _ _ _ _ _ th _ => th
def S.el : S → List S | .mk _ _ _ _ _ _ _ _ _ el => el
theorem subS_eq (s : S) : subS s = preSL s.th ++ preSL s.el := by cases s; rfl
noncomputable def headS (x y : S) : Bool := (x.id == y.id) && (x.kind == y.kind) && (x.nm.toList == y.nm.toList) && (x.proc.toList == y.proc.toList) && (x.has == y.has) && (((x.th.length : Nat) : Int) == ((y.th.length : Nat) : Int)) && (((x.el.length : Nat) : Int) == ((y.el.length : Nat) : Int)) && eqB x.labels y.labels && eqB x.x y.x && eqB x.args y.args
theorem headS_iff {x y : S} : headS x y = true ↔ x.id = y.id ∧ x.kind = y.kind ∧ x.nm = y.nm ∧ x.proc = y.proc ∧ x.has = y.has ∧ x.th.length = y.th.length ∧ x.el.length = y.el.length ∧ x.labels = y.labels ∧ x.x = y.x ∧ x.args = y.args := by
  simp only [headS, Bool.and_eq_true, beq_iff_eq, dec_bytes, decide_eq_true_eq, eqB_iff]
  constructor
  · rintro ⟨⟨⟨⟨⟨⟨⟨⟨⟨h1, h2⟩, h3⟩, h4⟩, h5⟩, h6⟩, h7⟩, h8⟩, h9⟩, h10⟩; exact ⟨h1, h2, h3, h4, h5, by omega, by omega, h8, h9, h10⟩
  · rintro ⟨h1, h2, h3, h4, h5, h6, h7, h8, h9, h10⟩; exact ⟨⟨⟨⟨⟨⟨⟨⟨⟨h1, h2⟩, h3⟩, h4⟩, h5⟩, by omega⟩, by omega⟩, h8⟩, h9⟩, h10⟩
theorem sameP_preSL : ∀ (N : Nat) (l l' : List S) (r r' : List S), (preSL l).length < N → l.length = l'.length → (sameP headS (preSL l ++ r) (preSL l' ++ r') = true ↔ l = l' ∧ sameP headS r r' = true)
  | 0, l, l', r, r', h, _ => by omega
  | N + 1, [], [], r, r', _, _ => by simp [preSL]
  | N + 1, [], y :: ys, r, r', _, h => by simp at h
  | N + 1, x :: xs, [], r, r', _, h => by simp at h
  | N + 1, x :: xs, y :: ys, r, r', hN, hl => by
    rw [preSL_cons, subS_eq] at hN
    simp only [List.length_cons, List.length_append] at hN
    rw [preSL_cons, preSL_cons, subS_eq, subS_eq]
    simp only [List.cons_append, List.append_assoc, sameP, Bool.and_eq_true]
    constructor
    · rintro ⟨h1, h2⟩
      obtain ⟨e1, e2, e3, e4, e5, e6, e7, e8, e9, e10⟩ := headS_iff.1 h1
      obtain ⟨h3, h4⟩ := (sameP_preSL N x.th y.th _ _ (by omega) e6).1 h2
      obtain ⟨h5, h6⟩ := (sameP_preSL N x.el y.el _ _ (by omega) e7).1 h4
      obtain ⟨h7, h8⟩ := (sameP_preSL N xs ys _ _ (by omega) (by simpa using hl)).1 h6
      refine ⟨?_, h8⟩
      rw [h7]
      congr 1
      cases x; cases y
      simp only [S.id, S.kind, S.nm, S.proc, S.has, S.labels, S.x, S.args, S.th, S.el] at e1 e2 e3 e4 e5 e8 e9 e10 h3 h5
      rw [e1, e2, e3, e4, e5, e8, e9, e10, h3, h5]
    · rintro ⟨h1, h2⟩
      injection h1 with h1 h3
      subst h1 h3
      exact ⟨headS_iff.2 ⟨rfl, rfl, rfl, rfl, rfl, rfl, rfl, rfl, rfl, rfl⟩, (sameP_preSL N x.th x.th _ _ (by omega) rfl).2 ⟨rfl, (sameP_preSL N x.el x.el _ _ (by omega) rfl).2 ⟨rfl, (sameP_preSL N xs xs _ _ (by omega) rfl).2 ⟨rfl, h2⟩⟩⟩⟩
/-- two bodies, walked side by side without asking their lengths first -/
theorem sameP_len : ∀ (N : Nat) (l l' : List S), (preSL l).length < N → (sameP headS (preSL l) (preSL l') = true ↔ l = l')
  | 0, l, l', h => by omega
  | N + 1, [], [], _ => by simp [preSL, sameP]
  | N + 1, [], y :: ys, _ => by rw [preSL_cons, preSL]; simp [sameP]
  | N + 1, x :: xs, [], _ => by rw [preSL_cons, preSL]; simp [sameP]
  | N + 1, x :: xs, y :: ys, hN => by
    rw [preSL_cons, subS_eq] at hN
    simp only [List.length_cons, List.length_append] at hN
    rw [preSL_cons, preSL_cons, subS_eq, subS_eq]
    simp only [List.append_assoc, sameP, Bool.and_eq_true]
    constructor
    · rintro ⟨h1, h2⟩
      obtain ⟨e1, e2, e3, e4, e5, e6, e7, e8, e9, e10⟩ := headS_iff.1 h1
      obtain ⟨h3, h4⟩ := (sameP_preSL N x.th y.th _ _ (by omega) e6).1 h2
      obtain ⟨h5, h6⟩ := (sameP_preSL N x.el y.el _ _ (by omega) e7).1 h4
      have h7 := (sameP_len N xs ys (by omega)).1 h6
      rw [h7]
      congr 1
      cases x; cases y
      simp only [S.id, S.kind, S.nm, S.proc, S.has, S.labels, S.x, S.args, S.th, S.el] at e1 e2 e3 e4 e5 e8 e9 e10 h3 h5
      rw [e1, e2, e3, e4, e5, e8, e9, e10, h3, h5]
    · intro h1
      injection h1 with h1 h3
      subst h1 h3
      exact ⟨headS_iff.2 ⟨rfl, rfl, rfl, rfl, rfl, rfl, rfl, rfl, rfl, rfl⟩, (sameP_preSL N x.th x.th _ _ (by omega) rfl).2 ⟨rfl, (sameP_preSL N x.el x.el _ _ (by omega) rfl).2 ⟨rfl, (sameP_len N xs xs (by omega)).2 rfl⟩⟩⟩
theorem same_body (l l' : List S) : sameP headS (preSL l) (preSL l') = eqB l l' := eqB_of (sameP_len ((preSL l).length + 1) l l' (by omega))
theorem in_drew {Q : Nat → Prop} {w W : World} (h : In Q w W) : In Q w W.drew := h
theorem eqB_arg (r r' : Bool) (n n' : ByteArray) (x x' : E) : eqB (⟨r, n, x⟩ : Ar) ⟨r', n', x'⟩ = ((r == r') && (n.toList == n'.toList) && eqB x x') := by
  rw [dec_bytes]
  symm
  apply eqB_of
  simp only [Bool.and_eq_true, beq_iff_eq, decide_eq_true_eq, eqB_iff, Ar.mk.injEq, and_assoc]
def szA (l : List Ar) : Prop := ∀ a ∈ l, sizE a.x ≤ 1000000000
def szS (s : S) : Prop := sizE s.x ≤ 1000000000 ∧ szA s.args
theorem eqB_proc (q q' : Pr) : eqB q q' = ((q.nm.toList == q'.nm.toList) && eqB q.params q'.params && eqB q.vars q'.vars && eqB q.end_ q'.end_ && eqB q.body q'.body) := by
  rw [dec_bytes]
  symm
  apply eqB_of
  cases q; cases q'
  simp only [Bool.and_eq_true, decide_eq_true_eq, eqB_iff, Pr.mk.injEq]
  constructor
  · rintro ⟨⟨⟨⟨h1, h2⟩, h3⟩, h4⟩, h5⟩; exact ⟨h1, h2, h3, h5, h4⟩
  · rintro ⟨h1, h2, h3, h5, h4⟩; exact ⟨⟨⟨⟨h1, h2⟩, h3⟩, h4⟩, h5⟩
/-- a body whose statements are not too great -/
def szB (l : List S) : Prop := (preSL l).length ≤ 1000000000 ∧ ∀ s ∈ preSL l, szS s
def szQ (l : List Pr) : Prop := ∀ q ∈ l, szB q.body
theorem eqB_prog (p q : Pg) : eqB p q = (eqB p.globals q.globals && eqB p.procs q.procs) := by
  symm
  apply eqB_of
  cases p; cases q
  simp only [Bool.and_eq_true, eqB_iff, Pg.mk.injEq]
/-- a program that is not too great -/
structure SmG (p : Pg) : Prop where
  globals : wT p.globals ≤ 1000000
  procs : p.procs.length ≤ 1000000
  proc : ∀ q ∈ p.procs, wSL q.body ≤ 1000000 ∧ wT q.vars ≤ 1000000 ∧ wT q.end_ ≤ 1000000 ∧ q.params.length ≤ 1000000
/-- two procedures in blocks of their own -/
theorem blkR5 {w : World} {b : Nat} {e0 e1 e2 e3 e4 : Value} (h : Blk w b 62 #[e0, e1, e2, e3, e4]) : (w.cell? ⟨b, 0, none⟩ = some e0 ∧ w.cell? ⟨b, 1, none⟩ = some e1 ∧ w.cell? ⟨b, 2, none⟩ = some e2 ∧ w.cell? ⟨b, 3, none⟩ = some e3 ∧ w.cell? ⟨b, 4, none⟩ = some e4) ∧ w.frozen? ⟨b, 0, none⟩ = false ∧ w.frozen? ⟨b, 1, none⟩ = false ∧ w.frozen? ⟨b, 2, none⟩ = false ∧ w.frozen? ⟨b, 3, none⟩ = false ∧ w.frozen? ⟨b, 4, none⟩ = false := ⟨⟨by rw [h.cell]; rfl, by rw [h.cell]; rfl, by rw [h.cell]; rfl, by rw [h.cell]; rfl, by rw [h.cell]; rfl⟩, h.frozen 0, h.frozen 1, h.frozen 2, h.frozen 3, h.frozen 4⟩
end Go.Proofs.Ytnnblklbjbkikaa
namespace Go.Proofs.Ytnnblklbjbkikaa
open Go.ChangeShapes Go.WideShapes Go.ChangeAt Go.RowKit Go.Deep
set_option linter.unusedVariables false
/-- the first statement with that id, and its procedure -/
def findL : List Pr → Int → ByteArray × S × Bool
  | [], _ => (⟨#[]⟩, S0, false)
  | q :: l, id => ((preSL q.body).find? (fun s => s.id == id)).elim (findL l id) (fun s => (q.nm, s, true))
def findP (p : Pg) (id : Int) : ByteArray × S × Bool := findL p.procs id
theorem findL_drop {l : List Pr} {k : Nat} (h : k < l.length) (id : Int) : findL (l.drop k) id = ((preSL l[k].body).find? (fun s => s.id == id)).elim (findL (l.drop (k + 1)) id) (fun s => (l[k].nm, s, true)) := by rw [List.drop_eq_getElem_cons h, findL]
mutual
theorem preS_w : ∀ (s : S) (x : S), x ∈ preS s → wS x ≤ wS s
  | .mk id kind labels nm proc e has args th el, x, h => by
    rw [preS] at h
    rcases List.mem_cons.1 h with rfl | h
    · exact Nat.le_refl _
    · rw [wS]
      rcases List.mem_append.1 h with h | h
      · have := preSL_w th x h; omega
      · have := preSL_w el x h; omega
theorem preSL_w : ∀ (l : List S) (x : S), x ∈ preSL l → wS x ≤ wSL l
  | [], x, h => by rw [preSL] at h; simp at h
  | s :: l, x, h => by
    rw [preSL] at h
    rw [wSL]
    rcases List.mem_append.1 h with h | h
    · have := preS_w s x h; omega
    · have := preSL_w l x h; omega
end
mutual
theorem preS_siz : ∀ s : S, (preS s).length = sizS s
  | .mk id kind labels nm proc e has args th el => by rw [preS, sizS, List.length_cons, List.length_append, preSL_siz th, preSL_siz el]
theorem preSL_siz : ∀ l : List S, (preSL l).length = sizSL l
  | [] => by rw [preSL, sizSL]; rfl
  | s :: l => by rw [preSL, sizSL, List.length_append, preS_siz s, preSL_siz l]
end
/-- procedures that are not too great -/
def smQ (l : List Pr) : Prop := ∀ q ∈ l, wSL q.body ≤ 1000000 ∧ q.nm.size ≤ 1000000
theorem results_tct {P : Program} {fn : Func} {t p u : Tmp} {ty : TypeId} (h : fn.results = #[.tmp t, .cell p ty, .tmp u]) (tmps : Array Value) (w : World) (g : Nat) (tt : TypeId) (cs : Array Value) (fr : Nat × Nat) (d : TypeDesc)
    (hp : tmps.getD p undef = .pointer (some ⟨g, 0, none⟩)) (hg : w.heap[g]? = some (.cells cs tt fr))
    (hu : P.underlying ty = some d) (hd : (match d with | .struct _ | .array _ _ => true | _ => false) = true) (hi : (P.info? ty).map (·.size) = some cs.size) :
    (results fn tmps).run P w = .ok (.tuple #[tmps.getD t undef, .agg cs, tmps.getD u undef]) w := by
  have hp' : tmps[p]?.getD undef = .pointer (some ⟨g, 0, none⟩) := by simpa using hp
  simp [results, h, hp', asAddr, run_loadVar_row w g tt ty cs fr d hg hu hd hi]
theorem sF_same {w w' : World} {a : Addr} {fb : Nat} {pn : ByteArray} {d0 d1 d2 d3 d4 d5 d6 d7 d8 d9 d10 d11 d12 : Value} (hs : ∀ p : Addr, p.block = a.block ∨ p.block = fb → w'.cell? p = w.cell? p) (h : w.cell? a = some d0 ∧ w.cell? ⟨a.block, a.off + 1, none⟩ = some d1 ∧ w.cell? ⟨a.block, a.off + 2, none⟩ = some d2 ∧ w.cell? ⟨a.block, a.off + 3, none⟩ = some d3 ∧ w.cell? ⟨a.block, a.off + 4, none⟩ = some d4 ∧ w.cell? ⟨a.block, a.off + 5, none⟩ = some d5 ∧ w.cell? ⟨a.block, a.off + 6, none⟩ = some d6 ∧ w.cell? ⟨a.block, a.off + 7, none⟩ = some d7 ∧ w.cell? ⟨a.block, a.off + 8, none⟩ = some d8 ∧ w.cell? ⟨a.block, a.off + 9, none⟩ = some d9 ∧ w.cell? ⟨a.block, a.off + 10, none⟩ = some d10 ∧ w.cell? ⟨a.block, a.off + 11, none⟩ = some d11 ∧ w.cell? ⟨a.block, a.off + 12, none⟩ = some d12 ∧ w.cell? ⟨fb, 0, none⟩ = some (.string pn)) : w'.cell? a = some d0 ∧ w'.cell? ⟨a.block, a.off + 1, none⟩ = some d1 ∧ w'.cell? ⟨a.block, a.off + 2, none⟩ = some d2 ∧ w'.cell? ⟨a.block, a.off + 3, none⟩ = some d3 ∧ w'.cell? ⟨a.block, a.off + 4, none⟩ = some d4 ∧ w'.cell? ⟨a.block, a.off + 5, none⟩ = some d5 ∧ w'.cell? ⟨a.block, a.off + 6, none⟩ = some d6 ∧ w'.cell? ⟨a.block, a.off + 7, none⟩ = some d7 ∧ w'.cell? ⟨a.block, a.off + 8, none⟩ = some d8 ∧ w'.cell? ⟨a.block, a.off + 9, none⟩ = some d9 ∧ w'.cell? ⟨a.block, a.off + 10, none⟩ = some d10 ∧ w'.cell? ⟨a.block, a.off + 11, none⟩ = some d11 ∧ w'.cell? ⟨a.block, a.off + 12, none⟩ = some d12 ∧ w'.cell? ⟨fb, 0, none⟩ = some (.string pn) :=
  ⟨(hs a (.inl rfl)).trans h.1, (hs ⟨a.block, a.off + 1, none⟩ (.inl rfl)).trans h.2.1, (hs ⟨a.block, a.off + 2, none⟩ (.inl rfl)).trans h.2.2.1, (hs ⟨a.block, a.off + 3, none⟩ (.inl rfl)).trans h.2.2.2.1, (hs ⟨a.block, a.off + 4, none⟩ (.inl rfl)).trans h.2.2.2.2.1, (hs ⟨a.block, a.off + 5, none⟩ (.inl rfl)).trans h.2.2.2.2.2.1, (hs ⟨a.block, a.off + 6, none⟩ (.inl rfl)).trans h.2.2.2.2.2.2.1, (hs ⟨a.block, a.off + 7, none⟩ (.inl rfl)).trans h.2.2.2.2.2.2.2.1, (hs ⟨a.block, a.off + 8, none⟩ (.inl rfl)).trans h.2.2.2.2.2.2.2.2.1, (hs ⟨a.block, a.off + 9, none⟩ (.inl rfl)).trans h.2.2.2.2.2.2.2.2.2.1, (hs ⟨a.block, a.off + 10, none⟩ (.inl rfl)).trans h.2.2.2.2.2.2.2.2.2.2.1, (hs ⟨a.block, a.off + 11, none⟩ (.inl rfl)).trans h.2.2.2.2.2.2.2.2.2.2.2.1, (hs ⟨a.block, a.off + 12, none⟩ (.inl rfl)).trans h.2.2.2.2.2.2.2.2.2.2.2.2.1, (hs _ (.inr rfl)).trans h.2.2.2.2.2.2.2.2.2.2.2.2.2⟩
set_option maxHeartbeats 4000000 in
set_option maxRecDepth 100000 in
theorem Find_any {w : World} {Q : Nat → Prop} {p : Pg} {c0 c1 : Value} (h : ProgI w Q p [c0, c1]) (id : Int) (W : World) (hI : In Q w W) (hn : smQ p.procs) :
    Calls Try.prog 51 #[.agg #[c0, c1], .int .i64 id] W fun e w' => ∃ d0 d1 d2 d3 d4 d5 d6 d7 d8 d9 d10 d11 d12, e = .returned (.tuple #[.string (findP p id).1, .agg #[d0, d1, d2, d3, d4, d5, d6, d7, d8, d9, d10, d11, d12], .bool (findP p id).2.2]) ∧ Below W.heap.size W w' ∧ StmtI w' (nw W w') (findP p id).2.1 [d0, d1, d2, d3, d4, d5, d6, d7, d8, d9, d10, d11, d12] := by
  obtain ⟨Ag, cg, Ap, cp, rfl, rfl, hg1, hg2, hp1, hp2, _, hpr⟩ := prog_open h
  have HI := Lib.hid hI
  have HP := Lib.hid hpr
  have HSm := Lib.hid hn
  clear h hI hpr hn
  unfold findP
  obtain ⟨res, hres⟩ : ∃ r, r = findL p.procs id := ⟨_, rfl⟩
  rw [← hres]
  have HRes := Lib.hid hres
  clear hres
  go_enter Try.func51, Try.ntmps51
  go_wp2_with fail
  have HBb : Hid (Blk ((W.alloc (.cells #[.slice Ag p.globals.length cg, .slice Ap p.procs.length cp] 25)).alloc (.cells zS 55)) (W.heap.size + 1) 55 zS) := Lib.hid (by have := Blk.new (W.alloc (.cells #[.slice Ag p.globals.length cg, .slice Ap p.procs.length cp] 25)) 55 zS; simpa using this)
  have HB1 : Hid (Below W.heap.size W ((W.alloc (.cells #[.slice Ag p.globals.length cg, .slice Ap p.procs.length cp] 25)).alloc (.cells zS 55))) := Lib.hid (below_two _ _)
  generalize World.alloc _ _ = W1 at HB1 HBb ⊢
  go_loopw [14] (fun i wr => ∃ (k : Nat), k ≤ p.procs.length ∧ i = .int .i64 k ∧ Hid (findL (p.procs.drop k) id = res) ∧ Hid (Below W1.heap.size W1 wr)) (fun i _ => p.procs.length - (intOf i).toNat)
  case atStart => exact ⟨0, Nat.zero_le _, rfl, Lib.hid (by rw [List.drop_zero]; exact HRes.out.symm), Lib.hid (Below.refl _ _)⟩
  case round =>
    obtain ⟨k, hk, rfl, HQk, HR⟩ := hrel
    generalize wr = wo at *
    by_cases hlt : k < p.procs.length
    · have hIr : In Q w wo := HI.out.on (HB1.out.trans (HR.out.mono HB1.out.size))
      obtain ⟨a, Bp, bp, Bv, bv, Bb, bb, Be, be, rfl, _, ⟨p0, p1, p2, p3, p4, _⟩, _, _, _, hbody, _⟩ := proc_at HP.out hIr hlt
      have HBd := Lib.hid hbody
      have HIr := Lib.hid hIr
      have HQ' := Lib.hid HQk.out
      rw [findL_drop hlt] at HQ'
      have hsm := HSm.out _ (List.getElem_mem hlt)
      have hLn : (preSL p.procs[k].body).length ≤ 1000000 := by rw [preSL_siz]; exact Nat.le_trans (sizSL_w _) hsm.1
      have HWx : Hid (∀ x ∈ preSL p.procs[k].body, wS x ≤ 1000000) := Lib.hid (fun x hx => Nat.le_trans (preSL_w _ x hx) hsm.1)
      have hpn : p.procs[k].nm.size ≤ 281474976710656 := by have := hsm.2; omega
      clear hbody hIr hsm
      have HFB : Hid (Blk (wo.alloc (.cells #[.string p.procs[k].nm, .slice Bp p.procs[k].params.length bp, .slice Bv p.procs[k].vars.length bv, .slice Bb p.procs[k].body.length bb, .slice Be p.procs[k].end_.length be] 62)) wo.heap.size 62 #[.string p.procs[k].nm, .slice Bp p.procs[k].params.length bp, .slice Bv p.procs[k].vars.length bv, .slice Bb p.procs[k].body.length bb, .slice Be p.procs[k].end_.length be]) := Lib.hid (Blk.new _ _ _)
      go_wp2_with fail
      refine (stmts_any (W := _) HBd.out).mono ?_
      rintro e w2 ⟨v, rfl, hw2, hb2, hj2⟩
      have HFB2 := Lib.hid (HFB.out.below hb2 HFB.out.lt)
      have hz2 : wo.heap.size + 1 < w2.heap.size := by have := hw2; obtain ⟨_, _, _, hc, _⟩ := this; have := hc.blk.lt; simp at this; omega
      have hb2' : Below wo.heap.size wo w2 := below_new hb2
      have HI2 := Lib.hid (HIr.out.on hb2')
      have HB2 := Lib.hid hb2'
      have HW2 := Lib.hid hw2
      have HJ2 := Lib.hid hj2
      clear hw2 hb2 hb2' hj2 HFB
      simp only [World.size_alloc] at HW2 HJ2 ⊢
      obtain ⟨fb, hfb⟩ : ∃ fb, fb = wo.heap.size := ⟨_, rfl⟩
      rw [← hfb] at HFB2 ⊢
      have HFb := Lib.hid hfb
      generalize hc : wo.heap.size + 1 = c at *
      have hfc : fb < c := by omega
      rw [show fb + 1 = c by omega]
      clear hfb
      have HN2 : Hid (∀ (v : Value) (R : List S) (W' : World), WalkS w W' Q c c v R → In Q w W' → R.length ≤ 1000000 → Calls Try.prog 62 #[.pointer (some ⟨c, 0, none⟩)] W' fun e w' => ∃ o, e = .returned (.pointer o) ∧ AtS w w' Q c c o R ∧ Below c W' w') :=
        Lib.hid (fun v R W' h1 h2 h3 => nextS_at h1 h2 (by have := h1.lt.1; omega) (Nat.le_refl _) (by omega))
      obtain ⟨L0, hL⟩ : ∃ L, L = preSL p.procs[k].body := ⟨_, rfl⟩
      obtain ⟨pn, hpn'⟩ : ∃ n, n = p.procs[k].nm := ⟨_, rfl⟩
      rw [← hL] at HW2 HQ' HWx hLn
      rw [← hpn'] at HQ' hpn HFB2
      have HCl := Lib.hid (fun V => Clone_any pn V hpn)
      clear hL hpn' hpn
      go_wp2_with fail
      refine (HN2.out v L0 w2 HW2.out HI2.out hLn).mono ?_
      rintro e w3 ⟨o, rfl, hat, hb3⟩
      have HA3 := Lib.hid hat
      have HI3 := Lib.hid (HI2.out.below (fun b hb => Nat.lt_trans (HIr.out.1 b hb) (by omega)) hb3)
      have HB3 : Hid (Below wo.heap.size wo w3) := Lib.hid (HB2.out.trans (hb3.mono (by omega)))
      have HFB3 := Lib.hid (HFB2.out.below hb3 hfc)
      clear hat hb3 HW2 HI2 HB2 HJ2 HFB2
      go_wp2_with fail
      go_loopg [10] L0.length (fun kk i w4 => ∃ (o : Option Addr) (L2 : List S), L2.length = kk ∧ i = .pointer o ∧ L2.length ≤ 1000000 ∧ Hid ((L2.find? (fun s => s.id == id)).elim (findL (p.procs.drop (k + 1)) id) (fun s => (pn, s, true)) = res) ∧ Hid (∀ x ∈ L2, wS x ≤ 1000000) ∧ Hid (AtS w w4 Q c c o L2) ∧ Hid (In Q w w4) ∧ Hid (Below wo.heap.size wo w4) ∧ Hid (Blk w4 fb 62 #[.string pn, .slice Bp p.procs[k].params.length bp, .slice Bv p.procs[k].vars.length bv, .slice Bb p.procs[k].body.length bb, .slice Be p.procs[k].end_.length be]))
      case atStart => exact ⟨o, L0, rfl, rfl, hLn, HQ', HWx, HA3, HI3, HB3, HFB3⟩
      case round =>
        obtain ⟨o, L2, hLk, rfl, hL2, HF4, HW4x, HA4, HI4, HB4, HFB4⟩ := hrel
        rcases HA4.out with ⟨rfl, rfl⟩ | ⟨a4, x, R, v4, rfl, rfl, hn4, hw4⟩
        · have HF5 : Hid (findL (p.procs.drop (k + 1)) id = res) := Lib.hid HF4.out
          go_wp2_with fail
          go_roundw
          case rel => exact ⟨k + 1, by omega, by go_num, HF5, Lib.hid (HR.out.trans (HB4.out.mono HR.out.size))⟩
          case measure => simp [intOf]; omega
        · obtain ⟨hqa, cs, hst, hcell⟩ := hn4
          have hwx := HW4x.out x (List.mem_cons_self ..)
          obtain ⟨id', kind, labels, nm, proc, ex, has, args, th, el, L, lc, x0, x1, x2, X, xn, xc, Rr, rc, Tt, tc, U, uc, rfl, rfl, _⟩ := stmt_open hst
          have hcw : ∀ j u, _ = some u → wr.cell? (a4.add j) = some u := fun j u hu => (HI4.out.cell (by rw [block_add]; exact hqa)).trans (hcell j u hu)
          have hrow := rowAt_of hcw
          obtain ⟨q0, q1, q2, q3, q4, q5, q6, q7, q8, q9, q10, q11, q12, _⟩ := hrow
          have HW4 := Lib.hid hw4
          have HCS := Lib.hid (fun V hV => cloneStmt_any (W := V) hst hV hwx)
          have hal : a4.block < wr.heap.size := HI4.out.1 _ hqa
          have hra : a4.block < W1.heap.size := Nat.lt_of_lt_of_le (HI.out.1 _ hqa) HB1.out.size
          have hra' : a4.block < W.heap.size := HI.out.1 _ hqa
          have n0 : wr.cell? ⟨fb, 0, none⟩ = some (.string pn) := by rw [HFB4.out.cell]; rfl
          have hfl := HFB4.out.lt
          have HBR := Lib.hid (HR.out.trans (HB4.out.mono HR.out.size))
          have HBb4 := Lib.hid (HBb.out.below HBR.out HBb.out.lt)
          have hW1 := HBb.out.lt
          clear hcw hcell hst hw4
          cases hv : (id' == id) with
          | false =>
            have HF5 : Hid ((R.find? (fun s => s.id == id)).elim (findL (p.procs.drop (k + 1)) id) (fun s => (pn, s, true)) = res) := Lib.hid (by have := HF4.out; rw [List.find?_cons_of_neg (by show ¬ (id' == id) = true; rw [hv]; decide)] at this; exact this)
            simp only [List.length_cons] at hL2 hLk
            go_wp2_with (go_at_call 62; refine (HN2.out v4 R wr HW4.out HI4.out (by omega)).mono ?_; rintro e w5 ⟨o5, rfl, hat5, hb5⟩)
            have HFB5 := Lib.hid (HFB4.out.below hb5 hfc)
            go_roundg R.length
            case measure => omega
            case rel => exact ⟨o5, R, rfl, rfl, by omega, HF5, Lib.hid (fun y hy => HW4x.out y (List.mem_cons_of_mem _ hy)), Lib.hid hat5, Lib.hid (HI4.out.below (fun b hb => Nat.lt_trans (HIr.out.1 b hb) (by omega)) hb5), Lib.hid (HB4.out.trans (hb5.mono (by omega))), HFB5⟩
          | true =>
            have HF5 : Hid (res = (pn, .mk id' kind labels nm proc ex has args th el, true)) := Lib.hid (by have := HF4.out; rw [List.find?_cons_of_pos (by show (id' == id) = true; exact hv)] at this; exact this.symm)
            have hS0 : (fun w' => w'.cell? a4 = some (.int .i64 id') ∧ w'.cell? ⟨a4.block, a4.off + 1, none⟩ = some (.int .i64 kind) ∧ w'.cell? ⟨a4.block, a4.off + 2, none⟩ = some (.slice L labels.length lc) ∧ w'.cell? ⟨a4.block, a4.off + 3, none⟩ = some (.string nm) ∧ w'.cell? ⟨a4.block, a4.off + 4, none⟩ = some (.string proc) ∧ w'.cell? ⟨a4.block, a4.off + 5, none⟩ = some (.int .i64 x0) ∧ w'.cell? ⟨a4.block, a4.off + 6, none⟩ = some (.int .i64 x1) ∧ w'.cell? ⟨a4.block, a4.off + 7, none⟩ = some (.string x2) ∧ w'.cell? ⟨a4.block, a4.off + 8, none⟩ = some (.slice X xn xc) ∧ w'.cell? ⟨a4.block, a4.off + 9, none⟩ = some (.bool has) ∧ w'.cell? ⟨a4.block, a4.off + 10, none⟩ = some (.slice Rr args.length rc) ∧ w'.cell? ⟨a4.block, a4.off + 11, none⟩ = some (.slice Tt th.length tc) ∧ w'.cell? ⟨a4.block, a4.off + 12, none⟩ = some (.slice U el.length uc) ∧ w'.cell? ⟨fb, 0, none⟩ = some (.string pn)) wr := ⟨q0, q1, q2, q3, q4, q5, q6, q7, q8, q9, q10, q11, q12, n0⟩
            have HS0 := Lib.hid hS0
            clear hS0 HF4 HA4 HW4 HN2 HQ' HW4x
            obtain ⟨⟨y0, y1, y2, y3, y4, y5, y6, y7, y8, y9, y10, y11, y12⟩, g0, g1, g2, g3, g4, g5, g6, g7, g8, g9, g10, g11, g12⟩ := newS_of HBb4.out
            have hne1 : a4.block ≠ W.heap.size + 1 := by omega
            have hne2 : fb ≠ W.heap.size + 1 := by have := HFb.out; have := HR.out.size; omega
            go_wp2_with fail
            go_region_held3 (fun w' => w'.cell? a4 = some (.int .i64 id') ∧ w'.cell? ⟨a4.block, a4.off + 1, none⟩ = some (.int .i64 kind) ∧ w'.cell? ⟨a4.block, a4.off + 2, none⟩ = some (.slice L labels.length lc) ∧ w'.cell? ⟨a4.block, a4.off + 3, none⟩ = some (.string nm) ∧ w'.cell? ⟨a4.block, a4.off + 4, none⟩ = some (.string proc) ∧ w'.cell? ⟨a4.block, a4.off + 5, none⟩ = some (.int .i64 x0) ∧ w'.cell? ⟨a4.block, a4.off + 6, none⟩ = some (.int .i64 x1) ∧ w'.cell? ⟨a4.block, a4.off + 7, none⟩ = some (.string x2) ∧ w'.cell? ⟨a4.block, a4.off + 8, none⟩ = some (.slice X xn xc) ∧ w'.cell? ⟨a4.block, a4.off + 9, none⟩ = some (.bool has) ∧ w'.cell? ⟨a4.block, a4.off + 10, none⟩ = some (.slice Rr args.length rc) ∧ w'.cell? ⟨a4.block, a4.off + 11, none⟩ = some (.slice Tt th.length tc) ∧ w'.cell? ⟨a4.block, a4.off + 12, none⟩ = some (.slice U el.length uc) ∧ w'.cell? ⟨fb, 0, none⟩ = some (.string pn))
              (first | (with_reducible assumption) | (with_reducible exact hS1) | (with_reducible exact hS2) | (with_reducible refine sF_same (w := r2) ?_ hS2; intro p hp; exact set13_cell (by rcases hp with hp | hp; rw [hp]; exact hne1; rw [hp]; exact hne2)) | exact HS0.out)
              (first
                | ((go_at_call 86; (with_reducible refine (HCl.out _).mono ?_); rintro e r1 ⟨rfl, hb1⟩; have hS1 : (fun w' => w'.cell? a4 = some (.int .i64 id') ∧ w'.cell? ⟨a4.block, a4.off + 1, none⟩ = some (.int .i64 kind) ∧ w'.cell? ⟨a4.block, a4.off + 2, none⟩ = some (.slice L labels.length lc) ∧ w'.cell? ⟨a4.block, a4.off + 3, none⟩ = some (.string nm) ∧ w'.cell? ⟨a4.block, a4.off + 4, none⟩ = some (.string proc) ∧ w'.cell? ⟨a4.block, a4.off + 5, none⟩ = some (.int .i64 x0) ∧ w'.cell? ⟨a4.block, a4.off + 6, none⟩ = some (.int .i64 x1) ∧ w'.cell? ⟨a4.block, a4.off + 7, none⟩ = some (.string x2) ∧ w'.cell? ⟨a4.block, a4.off + 8, none⟩ = some (.slice X xn xc) ∧ w'.cell? ⟨a4.block, a4.off + 9, none⟩ = some (.bool has) ∧ w'.cell? ⟨a4.block, a4.off + 10, none⟩ = some (.slice Rr args.length rc) ∧ w'.cell? ⟨a4.block, a4.off + 11, none⟩ = some (.slice Tt th.length tc) ∧ w'.cell? ⟨a4.block, a4.off + 12, none⟩ = some (.slice U el.length uc) ∧ w'.cell? ⟨fb, 0, none⟩ = some (.string pn)) r1 := sF_same (w := wr) (fun p hp => hb1.cell (by rcases hp with hp | hp; rw [hp]; exact hal; rw [hp]; exact hfl)) HS0.out; have HBr1 := Lib.hid ((show Blk wr.drew (W.heap.size + 1) 55 zS from HBb4.out).below hb1 HBb4.out.lt); have HIr1 := Lib.hid ((in_drew HI4.out).on hb1); have HBx1 : Hid (Below W1.heap.size W1 r1) := Lib.hid ((HBR.out.drew).trans (hb1.mono HBR.out.size)); have hz1 : wr.heap.size ≤ r1.heap.size := hb1.size; clear hb1))
                | ((go_at_call 96; (with_reducible refine (HCS.out _ HIr1.out).mono ?_); rintro e r2 ⟨d0, d1, d2, d3, d4, d5, d6, d7, d8, d9, d10, d11, d12, rfl, hb2, hx2⟩; have hS2 : (fun w' => w'.cell? a4 = some (.int .i64 id') ∧ w'.cell? ⟨a4.block, a4.off + 1, none⟩ = some (.int .i64 kind) ∧ w'.cell? ⟨a4.block, a4.off + 2, none⟩ = some (.slice L labels.length lc) ∧ w'.cell? ⟨a4.block, a4.off + 3, none⟩ = some (.string nm) ∧ w'.cell? ⟨a4.block, a4.off + 4, none⟩ = some (.string proc) ∧ w'.cell? ⟨a4.block, a4.off + 5, none⟩ = some (.int .i64 x0) ∧ w'.cell? ⟨a4.block, a4.off + 6, none⟩ = some (.int .i64 x1) ∧ w'.cell? ⟨a4.block, a4.off + 7, none⟩ = some (.string x2) ∧ w'.cell? ⟨a4.block, a4.off + 8, none⟩ = some (.slice X xn xc) ∧ w'.cell? ⟨a4.block, a4.off + 9, none⟩ = some (.bool has) ∧ w'.cell? ⟨a4.block, a4.off + 10, none⟩ = some (.slice Rr args.length rc) ∧ w'.cell? ⟨a4.block, a4.off + 11, none⟩ = some (.slice Tt th.length tc) ∧ w'.cell? ⟨a4.block, a4.off + 12, none⟩ = some (.slice U el.length uc) ∧ w'.cell? ⟨fb, 0, none⟩ = some (.string pn)) r2 := sF_same (w := r1) (fun p hp => hb2.cell (by rcases hp with hp | hp; rw [hp]; exact Nat.lt_of_lt_of_le hal hz1; rw [hp]; exact Nat.lt_of_lt_of_le hfl hz1)) hS1; have HBr2 := Lib.hid (HBr1.out.below hb2 HBr1.out.lt); obtain ⟨⟨y0, y1, y2, y3, y4, y5, y6, y7, y8, y9, y10, y11, y12⟩, g0, g1, g2, g3, g4, g5, g6, g7, g8, g9, g10, g11, g12⟩ := newS_of HBr2.out; obtain ⟨id2, kind2, labels2, nm2, proc2, ex2, has2, args2, th2, el2, L2', lc2, x02, x12, x22, X2, xn2, xc2, R2, rc2, Tt2, tc2, U2, uc2, hs2, hcs2, _⟩ := stmt_open hx2; simp only [List.cons.injEq, and_true] at hcs2; obtain ⟨rfl, rfl, rfl, rfl, rfl, rfl, rfl, rfl, rfl, rfl, rfl, rfl, rfl⟩ := hcs2; have HX2 := Lib.hid hx2; have HBx2 : Hid (Below W1.heap.size W1 r2) := Lib.hid (HBx1.out.trans (hb2.mono HBx1.out.size)); have hz2' : r1.heap.size ≤ r2.heap.size := hb2.size; clear hb2 hx2 hs2)))
            go_wp2_with fail
            (try simp only [Exit.inBlock, Exit.then])
            refine bodyPost_ret (results_tct rfl _ _ (W.heap.size + 1) 55 _ (0, 0) _ rfl (set13_blk HBr2.out) Try.underlying55 rfl (by kernel_rfl)) rfl ?_
            have hww := HR.out.size
            have hwz := HB4.out.size
            have hw1 := HB1.out.size
            have hww1 : W1.heap.size ≤ wr.heap.size := Nat.le_trans hww hwz
            rw [HF5.out]
            refine ⟨_, _, _, _, _, _, _, _, _, _, _, _, _, rfl, set13_below (HB1.out.trans (HBx2.out.mono hw1)) (by omega), ?_⟩
            exact HX2.out.keep (fun b hb => ⟨by have := hb.1; omega, by rw [set13_size]; exact hb.2⟩) (fun p hp => set13_cell (by have := hp.1; omega))
    · have hq2 : findL (p.procs.drop k) id = (⟨#[]⟩, S0, false) := by rw [List.drop_of_length_le (by omega), findL]
      have HN : Hid (res = (⟨#[]⟩, S0, false)) := Lib.hid (by rw [← HQk.out]; exact hq2)
      have HBb4 := Lib.hid (HBb.out.below HR.out HBb.out.lt)
      obtain ⟨⟨y0, y1, y2, y3, y4, y5, y6, y7, y8, y9, y10, y11, y12⟩, g0, g1, g2, g3, g4, g5, g6, g7, g8, g9, g10, g11, g12⟩ := newS_of HBb4.out
      have HBR := Lib.hid (HB1.out.trans (HR.out.mono HB1.out.size))
      clear hq2
      go_wp2_with fail
      (try simp only [Exit.inBlock, Exit.then])
      refine bodyPost_ret (results_tct rfl _ _ (W.heap.size + 1) 55 _ (0, 0) _ rfl (set13_blk HBb4.out) Try.underlying55 rfl (by kernel_rfl)) rfl ?_
      rw [HN.out]
      exact ⟨_, _, _, _, _, _, _, _, _, _, _, _, _, rfl, set13_below HBR.out (by omega), zero_stmt _ _⟩
end Go.Proofs.Ytnnblklbjbkikaa
