/- Sameness: words, and what two cursors that go side by side tell. Two cursors that go side by side: next with all that it tells, sameNodes for expressions. -/
import Derived.Test.YtkbjlnmdlolhiaaTreeX
import Derived.Test.YtkbjlnmdlolhiaaTreeN9
import Derived.Deep.LoopGhost
namespace Go.Proofs.Ytkbjlnmdlolhiaa
open Go.ChangeShapes Go.WideShapes Go.ChangeAt Go.RowKit Go.Deep
set_option linter.unusedVariables false

/-- equal or not, as a Bool -/
noncomputable def eqB {α : Type} (a b : α) : Bool := @decide (a = b) (Classical.propDecidable _)
theorem eqB_iff {α : Type} {a b : α} : eqB a b = true ↔ a = b := by unfold eqB; exact @decide_eq_true_iff _ (Classical.propDecidable _)
theorem eqB_self {α : Type} (a : α) : eqB a a = true := eqB_iff.2 rfl
theorem eqB_ne {α : Type} {a b : α} (h : a ≠ b) : eqB a b = false := by cases hx : eqB a b; rfl; exact absurd (eqB_iff.1 hx) h
theorem eqB_of {α : Type} {a b : α} {c : Bool} (h : c = true ↔ a = b) : c = eqB a b := by rw [Bool.eq_iff_iff, eqB_iff]; exact h
theorem eqB_symm {α : Type} (a b : α) : eqB a b = eqB b a := by rw [Bool.eq_iff_iff, eqB_iff, eqB_iff]; exact eq_comm
theorem eqB_dec {α : Type} [DecidableEq α] (a b : α) : decide (a = b) = eqB a b := eqB_of decide_eq_true_iff
def sameP {α : Type} (h : α → α → Bool) : List α → List α → Bool
  | [], [] => true
  | x :: xs, y :: ys => h x y && sameP h xs ys
  | [], _ :: _ => false
  | _ :: _, [] => false
def headE (x y : E) : Bool := (x.op == y.op) && (x.n == y.n) && (x.nm.toList == y.nm.toList) && (((x.ks.length : Nat) : Int) == ((y.ks.length : Nat) : Int))
theorem headE_iff {x y : E} : headE x y = true ↔ x.op = y.op ∧ x.n = y.n ∧ x.nm = y.nm ∧ x.ks.length = y.ks.length := by
  simp only [headE, Bool.and_eq_true, beq_iff_eq, dec_bytes, decide_eq_true_eq]
  constructor
  · rintro ⟨⟨⟨h1, h2⟩, h3⟩, h4⟩; exact ⟨h1, h2, h3, by omega⟩
  · rintro ⟨h1, h2, h3, h4⟩; exact ⟨⟨⟨h1, h2⟩, h3⟩, by omega⟩
theorem sameP_preL : ∀ (N : Nat) (l l' : List E) (r r' : List E), (preL l).length < N → l.length = l'.length → (sameP headE (preL l ++ r) (preL l' ++ r') = true ↔ l = l' ∧ sameP headE r r' = true)
  | 0, l, l', r, r', h, _ => by omega
  | N + 1, [], [], r, r', _, _ => by simp [preL]
  | N + 1, [], y :: ys, r, r', _, h => by simp at h
  | N + 1, x :: xs, [], r, r', _, h => by simp at h
  | N + 1, x :: xs, y :: ys, r, r', hN, hl => by
    rw [preL_cons] at hN
    simp only [List.length_cons, List.length_append] at hN
    rw [preL_cons, preL_cons]
    simp only [List.cons_append, List.append_assoc, sameP, Bool.and_eq_true]
    constructor
    · rintro ⟨h1, h2⟩
      obtain ⟨e1, e2, e3, e4⟩ := headE_iff.1 h1
      obtain ⟨h3, h4⟩ := (sameP_preL N x.ks y.ks _ _ (by omega) e4).1 h2
      obtain ⟨h5, h6⟩ := (sameP_preL N xs ys _ _ (by omega) (by simpa using hl)).1 h4
      refine ⟨?_, h6⟩
      rw [h5]
      congr 1
      cases x; cases y
      simp only [E.op, E.n, E.nm, E.ks] at e1 e2 e3 h3
      rw [e1, e2, e3, h3]
    · rintro ⟨h1, h2⟩
      injection h1 with h1 h3
      subst h1 h3
      refine ⟨headE_iff.2 ⟨rfl, rfl, rfl, rfl⟩, (sameP_preL N x.ks x.ks _ _ (by omega) rfl).2 ⟨rfl, (sameP_preL N xs xs _ _ (by omega) rfl).2 ⟨rfl, h2⟩⟩⟩
theorem same_expr (x y : E) : (headE x y && sameP headE (preL x.ks) (preL y.ks)) = eqB x y := by
  apply eqB_of
  rw [Bool.and_eq_true]
  constructor
  · rintro ⟨h1, h2⟩
    obtain ⟨e1, e2, e3, e4⟩ := headE_iff.1 h1
    have h3 := (sameP_preL ((preL x.ks).length + 1) x.ks y.ks [] [] (by omega) e4).1 (by simpa using h2)
    cases x; cases y
    simp only [E.op, E.n, E.nm, E.ks] at e1 e2 e3 h3
    rw [e1, e2, e3, h3.1]
  · rintro rfl
    refine ⟨headE_iff.2 ⟨rfl, rfl, rfl, rfl⟩, ?_⟩
    have := (sameP_preL ((preL x.ks).length + 1) x.ks x.ks [] [] (by omega) rfl).2 ⟨rfl, rfl⟩
    simpa using this
def S.id : S → Int | .mk id _ _ _ _ _ _ _ _ _ => id
def S.kind : S → Int | .mk _ kind _ _ _ _ _ _ _ _ => kind
def S.labels : S → List ByteArray | .mk _ _ labels _ _ _ _ _ _ _ => labels
def S.nm : S → ByteArray | .mk _ _ _ nm _ _ _ _ _ _ => nm
def S.proc : S → ByteArray | .mk _ _ _ _ proc _ _ _ _ _ => proc
def S.x : S → E | .mk _ _ _ _ _ x _ _ _ _ => x
def S.has : S → Bool | .mk _ _ _ _ _ _ has _ _ _ => has
def S.args : S → List Ar | .mk _ _ _ _ _ _ _ args _ _ => args
def S.th : S → List S | .mk _ _ _ _ _ _ _ _ th _ => th
def S.el : S → List S | .mk _ _ _ _ _ _ _ _ _ el => el
theorem subS_eq (s : S) : subS s = preSL s.th ++ preSL s.el := by cases s; rfl
noncomputable def headS (x y : S) : Bool := (x.id == y.id) && (x.kind == y.kind) && (x.nm.toList == y.nm.toList) && (x.proc.toList == y.proc.toList) && (x.has == y.has) && (((x.th.length : Nat) : Int) == ((y.th.length : Nat) : Int)) && (((x.el.length : Nat) : Int) == ((y.el.length : Nat) : Int)) && eqB x.labels y.labels && eqB x.x y.x && eqB x.args y.args
theorem headS_iff {x y : S} : headS x y = true ↔ x.id = y.id ∧ x.kind = y.kind ∧ x.nm = y.nm ∧ x.proc = y.proc ∧ x.has = y.has ∧ x.th.length = y.th.length ∧ x.el.length = y.el.length ∧ x.labels = y.labels ∧ x.x = y.x ∧ x.args = y.args := by
  simp only [headS, Bool.and_eq_true, beq_iff_eq, dec_bytes, decide_eq_true_eq, eqB_iff]
  constructor
  · rintro ⟨⟨⟨⟨⟨⟨⟨⟨⟨h1, h2⟩, h3⟩, h4⟩, h5⟩, h6⟩, h7⟩, h8⟩, h9⟩, h10⟩; exact ⟨h1, h2, h3, h4, h5, by omega, by omega, h8, h9, h10⟩
  · rintro ⟨h1, h2, h3, h4, h5, h6, h7, h8, h9, h10⟩; exact ⟨⟨⟨⟨⟨⟨⟨⟨⟨h1, h2⟩, h3⟩, h4⟩, h5⟩, by omega⟩, by omega⟩, h8⟩, h9⟩, h10⟩
theorem sameP_preSL : ∀ (N : Nat) (l l' : List S) (r r' : List S), (preSL l).length < N → l.length = l'.length → (sameP headS (preSL l ++ r) (preSL l' ++ r') = true ↔ l = l' ∧ sameP headS r r' = true)
  | 0, l, l', r, r', h, _ => by omega
  | N + 1, [], [], r, r', _, _ => by simp [preSL]
  | N + 1, [], y :: ys, r, r', _, h => by simp at h
  | N + 1, x :: xs, [], r, r', _, h => by simp at h
  | N + 1, x :: xs, y :: ys, r, r', hN, hl => by
    rw [preSL_cons, subS_eq] at hN
    simp only [List.length_cons, List.length_append] at hN
    rw [preSL_cons, preSL_cons, subS_eq, subS_eq]
    simp only [List.cons_append, List.append_assoc, sameP, Bool.and_eq_true]
    constructor
    · rintro ⟨h1, h2⟩
      obtain ⟨e1, e2, e3, e4, e5, e6, e7, e8, e9, e10⟩ := headS_iff.1 h1
      obtain ⟨h3, h4⟩ := (sameP_preSL N x.th y.th _ _ (by omega) e6).1 h2
      obtain ⟨h5, h6⟩ := (sameP_preSL N x.el y.el _ _ (by omega) e7).1 h4
      obtain ⟨h7, h8⟩ := (sameP_preSL N xs ys _ _ (by omega) (by simpa using hl)).1 h6
      refine ⟨?_, h8⟩
      rw [h7]
      congr 1
      cases x; cases y
      simp only [S.id, S.kind, S.nm, S.proc, S.has, S.labels, S.x, S.args, S.th, S.el] at e1 e2 e3 e4 e5 e8 e9 e10 h3 h5
      rw [e1, e2, e3, e4, e5, e8, e9, e10, h3, h5]
    · rintro ⟨h1, h2⟩
      injection h1 with h1 h3
      subst h1 h3
      exact ⟨headS_iff.2 ⟨rfl, rfl, rfl, rfl, rfl, rfl, rfl, rfl, rfl, rfl⟩, (sameP_preSL N x.th x.th _ _ (by omega) rfl).2 ⟨rfl, (sameP_preSL N x.el x.el _ _ (by omega) rfl).2 ⟨rfl, (sameP_preSL N xs xs _ _ (by omega) rfl).2 ⟨rfl, h2⟩⟩⟩⟩
theorem sameP_head {x y : S} {xs ys : List S} : sameP headS (preSL (x :: xs)) (preSL (y :: ys)) = (headS x y && sameP headS (subS x ++ preSL xs) (subS y ++ preSL ys)) := by rw [preSL_cons, preSL_cons, sameP]
/-- two bodies, walked side by side without asking their lengths first -/
theorem sameP_len : ∀ (N : Nat) (l l' : List S), (preSL l).length < N → (sameP headS (preSL l) (preSL l') = true ↔ l = l')
  | 0, l, l', h => by omega
  | N + 1, [], [], _ => by simp [preSL, sameP]
  | N + 1, [], y :: ys, _ => by rw [preSL_cons, preSL]; simp [sameP]
  | N + 1, x :: xs, [], _ => by rw [preSL_cons, preSL]; simp [sameP]
  | N + 1, x :: xs, y :: ys, hN => by
    rw [preSL_cons, subS_eq] at hN
    simp only [List.length_cons, List.length_append] at hN
    rw [preSL_cons, preSL_cons, subS_eq, subS_eq]
    simp only [List.append_assoc, sameP, Bool.and_eq_true]
    constructor
    · rintro ⟨h1, h2⟩
      obtain ⟨e1, e2, e3, e4, e5, e6, e7, e8, e9, e10⟩ := headS_iff.1 h1
      obtain ⟨h3, h4⟩ := (sameP_preSL N x.th y.th _ _ (by omega) e6).1 h2
      obtain ⟨h5, h6⟩ := (sameP_preSL N x.el y.el _ _ (by omega) e7).1 h4
      have h7 := (sameP_len N xs ys (by omega)).1 h6
      rw [h7]
      congr 1
      cases x; cases y
      simp only [S.id, S.kind, S.nm, S.proc, S.has, S.labels, S.x, S.args, S.th, S.el] at e1 e2 e3 e4 e5 e8 e9 e10 h3 h5
      rw [e1, e2, e3, e4, e5, e8, e9, e10, h3, h5]
    · intro h1
      injection h1 with h1 h3
      subst h1 h3
      exact ⟨headS_iff.2 ⟨rfl, rfl, rfl, rfl, rfl, rfl, rfl, rfl, rfl, rfl⟩, (sameP_preSL N x.th x.th _ _ (by omega) rfl).2 ⟨rfl, (sameP_preSL N x.el x.el _ _ (by omega) rfl).2 ⟨rfl, (sameP_len N xs xs (by omega)).2 rfl⟩⟩⟩
theorem same_body (l l' : List S) : sameP headS (preSL l) (preSL l') = eqB l l' := eqB_of (sameP_len ((preSL l).length + 1) l l' (by omega))
end Go.Proofs.Ytkbjlnmdlolhiaa
namespace Go.Proofs.Ytkbjlnmdlolhiaa
open Go.ChangeShapes Go.WideShapes Go.ChangeAt Go.RowKit Go.Deep
set_option linter.unusedVariables false

def AvE (w W : World) (Q : Nat → Prop) (base c : Nat) (v : Value) (o : Option Addr) (L : List E) : Prop := (o = none ∧ L = []) ∨ ∃ a x R, o = some a ∧ L = x :: R ∧ NodeI w Q (ExprI w Q) a x ∧ WalkE w W Q base c v R
theorem nextE_av {w W : World} {Q : Nat → Prop} {base c : Nat} {v : Value} {R : List E} (h : WalkE w W Q base c v R) (hI : In Q w W) (hbase : base ≤ W.heap.size) (hR : R.length ≤ 1099511627770) :
    Calls Try.prog 98 #[.pointer (some ⟨c, 0, none⟩)] W fun e w' => ∃ o v', e = .returned (.pointer o) ∧ AvE w w' Q base c v' o R ∧ Moves (ownE c v) W w' ∧ ∀ j, v'.ownBlock = some j → W.heap.size ≤ j ∨ v.ownBlock = some j := by
  refine (nextE_any h hI hbase hR).mono ?_
  rintro e w' ⟨v', hm, hl, hd⟩
  rcases hd with ⟨rfl, rfl⟩ | ⟨a, x, R', rfl, rfl, hn, hw⟩
  · exact ⟨none, v', rfl, .inl ⟨rfl, rfl⟩, hm, hl⟩
  · exact ⟨some a, v', rfl, .inr ⟨a, x, R', rfl, rfl, hn, hw⟩, hm, hl⟩
theorem AvE.keep {own : Nat → Prop} {w W W' : World} {Q : Nat → Prop} {base c : Nat} {v : Value} {o : Option Addr} {L : List E} (h : AvE w W Q base c v o L) (hm : Moves own W W') (hn : ∀ k, ownE c v k → ¬ own k) : AvE w W' Q base c v o L := by
  rcases h with h | ⟨a, x, R, h1, h2, h3, h4⟩
  · exact .inl h
  · exact .inr ⟨a, x, R, h1, h2, h3, h4.keep hm hn⟩
set_option maxHeartbeats 2000000 in
theorem sameHead_any {w1 w2 W : World} {Q1 Q2 : Nat → Prop} {a b : Addr} {x y : E} (h1 : NodeI w1 Q1 (ExprI w1 Q1) a x) (h2 : NodeI w2 Q2 (ExprI w2 Q2) b y) (hI1 : In Q1 w1 W) (hI2 : In Q2 w2 W) :
    Calls Try.prog 154 #[.pointer (some a), .pointer (some b)] W fun e w' => e = .returned (.bool (headE x y)) ∧ ∃ k, w' = W.drewN k := by
  obtain ⟨hqa, cs, hx, hca⟩ := h1
  obtain ⟨hqb, ds, hy, hcb⟩ := h2
  cases hx with
  | @mk op n nm ks A cap css hop hn hnm hcap hA hk =>
  cases hy with
  | @mk op' n' nm' ks' A' cap' css' hop' hn' hnm' hcap' hA' hk' =>
  have p0 : W.cell? a = some (.int .i64 op) := by have := (hI1.cell (p := a.add 0) (by rw [block_add]; exact hqa)).trans (hca 0 _ rfl); rwa [add_zero_] at this
  have p1 : W.cell? ⟨a.block, a.off + 1, none⟩ = some (.int .i64 n) := by rw [← add_ne a (by decide)]; exact (hI1.cell (by rw [block_add]; exact hqa)).trans (hca 1 _ rfl)
  have p2 : W.cell? ⟨a.block, a.off + 2, none⟩ = some (.string nm) := by rw [← add_ne a (by decide)]; exact (hI1.cell (by rw [block_add]; exact hqa)).trans (hca 2 _ rfl)
  have p3 : W.cell? ⟨a.block, a.off + 3, none⟩ = some (.slice A ks.length cap) := by rw [← add_ne a (by decide)]; exact (hI1.cell (by rw [block_add]; exact hqa)).trans (hca 3 _ rfl)
  have q0 : W.cell? b = some (.int .i64 op') := by have := (hI2.cell (p := b.add 0) (by rw [block_add]; exact hqb)).trans (hcb 0 _ rfl); rwa [add_zero_] at this
  have q1 : W.cell? ⟨b.block, b.off + 1, none⟩ = some (.int .i64 n') := by rw [← add_ne b (by decide)]; exact (hI2.cell (by rw [block_add]; exact hqb)).trans (hcb 1 _ rfl)
  have q2 : W.cell? ⟨b.block, b.off + 2, none⟩ = some (.string nm') := by rw [← add_ne b (by decide)]; exact (hI2.cell (by rw [block_add]; exact hqb)).trans (hcb 2 _ rfl)
  have q3 : W.cell? ⟨b.block, b.off + 3, none⟩ = some (.slice A' ks'.length cap') := by rw [← add_ne b (by decide)]; exact (hI2.cell (by rw [block_add]; exact hqb)).trans (hcb 3 _ rfl)
  have HM : Hid (headE (.mk op n nm ks) (.mk op' n' nm' ks') = ((op == op') && (n == n') && (nm.toList == nm'.toList) && (((ks.length : Nat) : Int) == ((ks'.length : Nat) : Int)))) := Lib.hid rfl
  clear hca hcb hA hk hA' hk' hI1 hI2 hqa hqb
  unfold i64 at hop hn hop' hn'
  cases b1 : (op == op') with
  | false =>
    rw [b1] at HM
    go_enter Try.func154, Try.ntmps154
    go_wp2_with fail
    go_quiet (fail)
    go_wp2_with fail
    go_ret
    exact ⟨ret_bool (by rw [HM.out]; rfl), _, rfl⟩
  | true =>
    cases b2 : (n == n') with
    | false =>
      rw [b1, b2] at HM
      go_enter Try.func154, Try.ntmps154
      go_wp2_with fail
      go_quiet (fail)
      go_wp2_with fail
      go_ret
      exact ⟨ret_bool (by rw [HM.out]; rfl), _, rfl⟩
    | true =>
      cases b3 : (nm.toList == nm'.toList) with
      | false =>
        rw [b1, b2, b3] at HM
        go_enter Try.func154, Try.ntmps154
        go_wp2_with fail
        go_quiet (fail)
        go_wp2_with fail
        go_ret
        exact ⟨ret_bool (by rw [HM.out]; rfl), _, rfl⟩
      | true =>
        cases b4 : (((ks.length : Nat) : Int) == ((ks'.length : Nat) : Int)) with
        | false =>
          rw [b1, b2, b3, b4] at HM
          go_enter Try.func154, Try.ntmps154
          go_wp2_with fail
          go_quiet (fail)
          go_wp2_with fail
          go_ret
          exact ⟨ret_bool (by rw [HM.out]; rfl), _, rfl⟩
        | true =>
          rw [b1, b2, b3, b4] at HM
          go_enter Try.func154, Try.ntmps154
          go_wp2_with fail
          go_quiet (fail)
          go_wp2_with fail
          go_ret
          exact ⟨ret_bool (by rw [HM.out]; rfl), _, rfl⟩

set_option maxHeartbeats 2000000 in
theorem sameNodesE_any {w1 w2 W : World} {Q1 Q2 : Nat → Prop} {B b1 b2 c1 c2 : Nat} {v1 v2 : Value} {R1 R2 : List E} (h1 : WalkE w1 W Q1 b1 c1 v1 R1) (h2 : WalkE w2 W Q2 b2 c2 v2 R2) (hI1 : In Q1 w1 W) (hI2 : In Q2 w2 W)
    (hQ1 : ∀ b, Q1 b → b < B) (hQ2 : ∀ b, Q2 b → b < B) (hB1 : B ≤ b1) (hB2 : B ≤ b2) (hc1 : b1 ≤ c1) (hc2 : b2 ≤ c2) (hb2 : b2 ≤ W.heap.size) (hd : ∀ k, ownE c1 v1 k → ¬ ownE c2 v2 k) (hR1 : R1.length ≤ 1000000000) (hR2 : R2.length ≤ 1000000000) :
    Calls Try.prog 155 #[.pointer (some ⟨c1, 0, none⟩), .pointer (some ⟨c2, 0, none⟩), .func (.func 154) #[] #[]] W fun e w' => e = .returned (.bool (sameP headE R1 R2)) ∧ Below B W w' := by
  have hsz1 : b1 ≤ W.heap.size := by have := h1.lt.1; omega
  have H1 := Lib.hid h1
  have H2 := Lib.hid h2
  have HI1 := Lib.hid hI1
  have HI2 := Lib.hid hI2
  have HD := Lib.hid hd
  have HQ1 := Lib.hid hQ1
  have HQ2 := Lib.hid hQ2
  have HN1 : Hid (∀ (v : Value) (R : List E) (W' : World), WalkE w1 W' Q1 b1 c1 v R → In Q1 w1 W' → b1 ≤ W'.heap.size → R.length ≤ 1000000000 → Calls Try.prog 98 #[.pointer (some ⟨c1, 0, none⟩)] W' fun e w' => ∃ o v', e = .returned (.pointer o) ∧ AvE w1 w' Q1 b1 c1 v' o R ∧ Moves (ownE c1 v) W' w' ∧ ∀ j, v'.ownBlock = some j → W'.heap.size ≤ j ∨ v.ownBlock = some j) :=
    Lib.hid (fun v R W' h1 h2 h3 h4 => nextE_av h1 h2 h3 (by omega))
  have HN2 : Hid (∀ (v : Value) (R : List E) (W' : World), WalkE w2 W' Q2 b2 c2 v R → In Q2 w2 W' → b2 ≤ W'.heap.size → R.length ≤ 1000000000 → Calls Try.prog 98 #[.pointer (some ⟨c2, 0, none⟩)] W' fun e w' => ∃ o v', e = .returned (.pointer o) ∧ AvE w2 w' Q2 b2 c2 v' o R ∧ Moves (ownE c2 v) W' w' ∧ ∀ j, v'.ownBlock = some j → W'.heap.size ≤ j ∨ v.ownBlock = some j) :=
    Lib.hid (fun v R W' h1 h2 h3 h4 => nextE_av h1 h2 h3 (by omega))
  clear h1 h2 hI1 hI2 hd hQ1 hQ2
  go_enter Try.func155, Try.ntmps155
  go_wp2_with fail
  go_loopg [6] R1.length (fun kk u wr => ∃ (L1 L2 : List E) (x1 x2 : Value), L1.length = kk ∧ u = .bool false ∧ L1.length ≤ 1000000000 ∧ L2.length ≤ 1000000000 ∧ W.heap.size ≤ wr.heap.size ∧ Hid (sameP headE L1 L2 = sameP headE R1 R2) ∧ Hid (WalkE w1 wr Q1 b1 c1 x1 L1) ∧ Hid (WalkE w2 wr Q2 b2 c2 x2 L2) ∧ Hid (∀ k, ownE c1 x1 k → ¬ ownE c2 x2 k) ∧
    Hid (In Q1 w1 wr) ∧ Hid (In Q2 w2 wr) ∧ Hid (Below B W wr))
  case atStart => exact ⟨R1, R2, v1, v2, rfl, rfl, hR1, hR2, Nat.le_refl _, Lib.hid rfl, H1, H2, HD, HI1, HI2, Lib.hid (Below.refl _ _)⟩
  case round =>
    obtain ⟨L1, L2, x1, x2, hLk, rfl, hL1, hL2, hrz, HP, HW1, HW2, HDr, HI1r, HI2r, HBr⟩ := hrel
    have hz1 : b1 ≤ wr.heap.size := by omega
    have hz2 : b2 ≤ wr.heap.size := by omega
    go_wp2_with fail
    refine (HN1.out x1 L1 wr HW1.out HI1r.out hz1 hL1).mono ?_
    rintro e w3 ⟨o1, y1, rfl, hat1, hm1, hl1⟩
    have low1 : ∀ j, ownE c1 x1 j → B ≤ j := fun j hj => by rcases hj with rfl | hj; omega; have := (HW1.out.lt.2 j hj).1; omega
    have low2 : ∀ j, ownE c2 x2 j → B ≤ j := fun j hj => by rcases hj with rfl | hj; omega; have := (HW2.out.lt.2 j hj).1; omega
    have hz3 : b2 ≤ w3.heap.size := Nat.le_trans hz2 hm1.size
    have HW3 := Lib.hid (HW2.out.keep hm1 (fun k h2 h1 => HDr.out k h1 h2))
    have HI13 := Lib.hid (HI1r.out.moves hm1 (fun j hj hq => by have := low1 j hj; have := HQ1.out j hq; omega))
    have HI23 := Lib.hid (HI2r.out.moves hm1 (fun j hj hq => by have := low1 j hj; have := HQ2.out j hq; omega))
    have HB3 := Lib.hid (HBr.out.trans (hm1.below (by omega) low1))
    have HD3 : Hid (∀ k, ownE c1 y1 k → ¬ ownE c2 x2 k) := Lib.hid (fun k hk h2 => by
      rcases hk with rfl | hk
      · exact HDr.out k (.inl rfl) h2
      · rcases hl1 k hk with h | h
        · rcases h2 with rfl | h2
          · have := HW2.out.lt.1; omega
          · have := (HW2.out.lt.2 k h2).2; omega
        · exact HDr.out k (.inr h) h2)
    have HA1 := Lib.hid hat1
    have hs3 := hm1.size
    clear hat1 hm1 hl1 low1
    go_wp2_with fail
    refine (HN2.out x2 L2 w3 HW3.out HI23.out hz3 hL2).mono ?_
    rintro e w4 ⟨o2, y2, rfl, hat2, hm2, hl2⟩
    have HA1' := Lib.hid (HA1.out.keep hm2 (fun k h1 h2 => HD3.out k h1 h2))
    have HI14 := Lib.hid (HI13.out.moves hm2 (fun j hj hq => by have := low2 j hj; have := HQ1.out j hq; omega))
    have HI24 := Lib.hid (HI23.out.moves hm2 (fun j hj hq => by have := low2 j hj; have := HQ2.out j hq; omega))
    have HB4 := Lib.hid (HB3.out.trans (hm2.below (by omega) low2))
    have HD4 : Hid (∀ a x R, o1 = some a → L1 = x :: R → WalkE w1 w4 Q1 b1 c1 y1 R → ∀ k, ownE c1 y1 k → ¬ ownE c2 y2 k) := Lib.hid (fun a x R e1 e2 hw k hk h2 => by
      rcases h2 with rfl | h2
      · exact HD3.out k hk (.inl rfl)
      · rcases hl2 k h2 with h | h
        · have hw3 : k < w3.heap.size := by
            rcases HA1.out with ⟨h5, _⟩ | ⟨a5, x5, R5, h5, h6, h7, h8⟩
            · rw [e1] at h5; cases h5
            · rcases hk with rfl | hk
              · exact h8.lt.1
              · exact (h8.lt.2 k hk).2
          omega
        · exact HD3.out k hk (.inr h))
    have HA2 := Lib.hid hat2
    have hs4 := hm2.size
    clear hat2 hm2 hl2 low2 HA1
    rcases HA1'.out with ⟨rfl, rfl⟩ | ⟨a1, n1, T1, rfl, rfl, hn1, hw1⟩
    · rcases HA2.out with ⟨rfl, rfl⟩ | ⟨a2, n2, T2, rfl, rfl, hn2, hw2⟩
      · go_wp2_with fail
        go_ret
        exact ⟨ret_bool (by rw [← HP.out]; rfl), HB4.out⟩
      · clear hn2 hw2
        go_wp2_with fail
        go_ret
        exact ⟨ret_bool (by rw [← HP.out]; rfl), HB4.out⟩
    · rcases HA2.out with ⟨rfl, rfl⟩ | ⟨a2, n2, T2, rfl, rfl, hn2, hw2⟩
      · clear hn1 hw1
        go_wp2_with fail
        go_ret
        exact ⟨ret_bool (by rw [← HP.out]; rfl), HB4.out⟩
      · have HD5 := Lib.hid (HD4.out a1 n1 T1 rfl rfl hw1)
        have HX1 := Lib.hid hw1
        have HX2 := Lib.hid hw2
        have HC := Lib.hid (sameHead_any hn1 hn2 HI14.out HI24.out)
        have HP2 : Hid (sameP headE R1 R2 = (headE n1 n2 && sameP headE T1 T2)) := Lib.hid (by rw [← HP.out]; rfl)
        simp only [List.length_cons] at hL1 hL2 hLk
        clear hn1 hn2 hw1 hw2
        cases hv : headE n1 n2 with
        | false =>
          rw [hv] at HC HP2
          clear hv
          go_wp2_with (go_at_call 154; refine HC.out.mono ?_; rintro e w5 ⟨rfl, kq, rfl⟩; have hb5 : Below w4.heap.size w4 (w4.drewN kq) := below_drewN (Below.refl _ _) kq; generalize w4.drewN kq = w5 at hb5 ⊢)
          go_ret
          exact ⟨ret_bool (by rw [HP2.out]; rfl), HB4.out.trans (hb5.mono (by have := HB4.out.size; omega))⟩
        | true =>
          rw [hv] at HC HP2
          clear hv
          go_wp2_with (go_at_call 154; refine HC.out.mono ?_; rintro e w5 ⟨rfl, kq, rfl⟩; have hb5 : Below w4.heap.size w4 (w4.drewN kq) := below_drewN (Below.refl _ _) kq; generalize w4.drewN kq = w5 at hb5 ⊢)
          have hm5 := Below.moves hb5
          have out1 : ∀ k, ownE c1 y1 k → ¬ w4.heap.size ≤ k := fun k hk => by rcases hk with rfl | hk; have := HX1.out.lt.1; omega; have := (HX1.out.lt.2 k hk).2; omega
          have out2 : ∀ k, ownE c2 y2 k → ¬ w4.heap.size ≤ k := fun k hk => by rcases hk with rfl | hk; have := HX2.out.lt.1; omega; have := (HX2.out.lt.2 k hk).2; omega
          have K1 := Lib.hid (HX1.out.keep hm5 out1)
          have K2 := Lib.hid (HX2.out.keep hm5 out2)
          have K3 := Lib.hid (HI14.out.on hb5)
          have K4 := Lib.hid (HI24.out.on hb5)
          have K5 := Lib.hid (HB4.out.trans (hb5.mono (by have := HB4.out.size; omega)))
          have hs5 := hb5.size
          clear hm5 out1 out2 hb5
          go_roundg T1.length
          case measure => omega
          case rel => exact ⟨T1, T2, y1, y2, rfl, rfl, by omega, by omega, by omega, Lib.hid (by rw [HP2.out]; rfl), K1, K2, HD5, K3, K4, K5⟩
end Go.Proofs.Ytkbjlnmdlolhiaa
