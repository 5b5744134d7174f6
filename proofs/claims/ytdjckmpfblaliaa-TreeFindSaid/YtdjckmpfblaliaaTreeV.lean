/- What a cursor still has ahead: nodes in memory, a stack of lists that read, whatever the kind of the nodes. -/
import Derived.Test.YtdjckmpfblaliaaTreeCE
import Derived.Test.YtdjckmpfblaliaaTreeCS
namespace Go.Proofs.Ytdjckmpfblaliaa
open Go.ChangeShapes Go.WideShapes Go.ChangeAt Go.RowKit Go.Deep
set_option linter.unusedVariables false

/-- at the address a lies a node that reads as x -/
def NodeI {α : Type} (w : World) (Q : Nat → Prop) (RI : α → List Value → Prop) (a : Addr) (x : α) : Prop := Q a.block ∧ ∃ cs, RI x cs ∧ ∀ j u, cs[j]? = some u → w.cell? (a.add j) = some u
inductive PendI {α : Type} (w : World) (Q : Nat → Prop) (C : Nat) (RI : α → List Value → Prop) (pre : List α → List α) : List SL → List α → Prop where
  | nil : PendI w Q C RI pre [] []
  | cons {x : SL} {s : List SL} {l R : List α} (h : SliceI w Q C RI l (sl x)) (t : PendI w Q C RI pre s R) : PendI w Q C RI pre (x :: s) (pre l ++ R)
section
variable {α : Type} {w : World} {Q : Nat → Prop} {C : Nat} {RI : α → List Value → Prop} {pre sub : List α → List α}
theorem slice_head {x : α} {l : List α} {a : Addr} {n cap : Nat} (h : SliceI w Q C RI (x :: l) (.slice (some a) n cap)) : NodeI w Q RI a x := by
  obtain ⟨A, cap', css, h1, h2, h3, h4⟩ := h
  injection h1 with hA
  subst hA
  obtain ⟨a', h5, h6, h7⟩ := h3 (by simp)
  injection h5 with h5
  subst h5
  refine ⟨h6, css 0, h4 0 (by simp), fun j u hu => ?_⟩
  have := h7 0 (by simp) j u hu
  rwa [Nat.zero_mul, Nat.zero_add] at this
theorem slice_tail {x : α} {l : List α} {a : Addr} {n cap : Nat} (h : SliceI w Q C RI (x :: l) (.slice (some a) n cap)) : SliceI w Q C RI l (.slice (some (a.add C)) (n - 1) (cap - 1)) := by
  obtain ⟨A, cap', css, h1, h2, h3, h4⟩ := h
  injection h1 with hA hn hc
  subst hA hn hc
  simp only [List.length_cons] at h2 h3
  refine ⟨some (a.add C), cap - 1, fun i => css (i + 1), by simp, ⟨by omega, by omega⟩, fun h0 => ?_, fun i hi => ?_⟩
  · obtain ⟨a', h5, h6, h7⟩ := h3 (by omega)
    injection h5 with h5
    subst h5
    refine ⟨_, rfl, by rw [block_add]; exact h6, fun i hi j u hu => ?_⟩
    have := h7 (i + 1) (by omega) j u hu
    rw [add_add]
    rwa [show C + (i * C + j) = (i + 1) * C + j by rw [Nat.succ_mul]; omega]
  · have := h4 (i + 1) (by simp; omega)
    simpa using this
theorem slice_len {l : List α} {A : Option Addr} {n cap : Nat} (h : SliceI w Q C RI l (.slice A n cap)) : n = l.length ∧ n ≤ cap ∧ cap ≤ 9223372036854775807 ∧ (0 < n → A ≠ none) := by
  obtain ⟨A', cap', css, h1, h2, h3, h4⟩ := h
  injection h1 with hA hn hc
  subst hA hn hc
  refine ⟨rfl, h2.1, h2.2, fun h0 => ?_⟩
  obtain ⟨a, h5, _⟩ := h3 h0
  rw [h5]; simp
theorem pend_push {s : List SL} {R l : List α} {A : Option Addr} {n cap : Nat} (h0 : pre [] = []) (hp : PendI w Q C RI pre s R) (h : SliceI w Q C RI l (.slice A n cap)) : PendI w Q C RI pre (pushS s A n cap) (pre l ++ R) := by
  obtain ⟨rfl, h1, h2, h3⟩ := slice_len h
  rcases Nat.eq_zero_or_pos l.length with hl | hl
  · obtain rfl : l = [] := List.eq_nil_of_length_eq_zero hl
    rw [List.length_nil, pushS_zero, h0]
    exact hp
  · obtain ⟨a, rfl⟩ : ∃ a, A = some a := by cases A with | none => exact absurd rfl (h3 hl) | some a => exact ⟨a, rfl⟩
    rw [pushS_pos s a cap hl]
    exact .cons h hp
theorem pend_len {s : List SL} {R : List α} (hpre : ∀ x l, 1 ≤ (pre (x :: l)).length) (hg : ∀ x ∈ s, goodS x) (hp : PendI w Q C RI pre s R) : s.length ≤ R.length := by
  induction hp with
  | nil => simp
  | @cons x s l R h t ih =>
    have h1 := ih (fun y hy => hg y (List.mem_cons_of_mem _ hy))
    obtain ⟨h2, _⟩ := slice_len h
    have h3 := (hg x (List.mem_cons_self ..)).1
    cases l with
    | nil => simp at h2; omega
    | cons y l => have := hpre y l; simp only [List.length_cons, List.length_append]; omega
theorem pend_none {R : List α} (h : PendI w Q C RI pre [] R) : R = [] := by cases h; rfl
theorem pend_some {x : SL} {s : List SL} {R : List α} (hg : goodS x) (h : PendI w Q C RI pre (x :: s) R) : ∃ e l R', R = pre (e :: l) ++ R' ∧ NodeI w Q RI x.1 e ∧ PendI w Q C RI pre s R' ∧ x.2.1 = l.length + 1 ∧ SliceI w Q C RI l (.slice (some (x.1.add C)) (x.2.1 - 1) (x.2.2 - 1)) := by
  cases h with
  | @cons _ _ l R h t =>
    obtain ⟨h2, _⟩ := slice_len h
    have h3 := hg.1
    cases l with
    | nil => simp at h2; omega
    | cons y l => exact ⟨y, l, _, rfl, slice_head h, t, by simpa using h2, slice_tail h⟩
end
/-! ### expressions -/
mutual
def preE : E → List E
  | .mk op n nm ks => .mk op n nm ks :: preL ks
def preL : List E → List E
  | [] => []
  | k :: ks => preE k ++ preL ks
end
theorem preE_eq (e : E) : preE e = e :: preL e.ks := by cases e; rw [preE]; rfl
theorem preL_cons (e : E) (l : List E) : preL (e :: l) = e :: (preL e.ks ++ preL l) := by rw [preL, preE_eq]; rfl
/-- the cursor c has the nodes R ahead -/
def WalkE (w W : World) (Q : Nat → Prop) (base c : Nat) (v : Value) (R : List E) : Prop :=
  ∃ last s R0, CurE W base c v last s ∧ PendI w Q 4 (ExprI w Q) preL s R0 ∧ ((last = none ∧ R = R0) ∨ ∃ a e, last = some a ∧ NodeI w Q (ExprI w Q) a e ∧ R = preL e.ks ++ R0)
def NextE (w : World) (Q : Nat → Prop) (base c : Nat) (v : Value) (R : List E) (W : World) (e : Ending) (w' : World) : Prop :=
  ∃ v', Moves (ownE c v) W w' ∧ (∀ j, v'.ownBlock = some j → W.heap.size ≤ j ∨ v.ownBlock = some j) ∧
    ((R = [] ∧ e = .returned (.pointer none)) ∨ ∃ a x R', R = x :: R' ∧ e = .returned (.pointer (some a)) ∧ NodeI w Q (ExprI w Q) a x ∧ WalkE w w' Q base c v' R')
theorem popped {w W w' : World} {Q : Nat → Prop} {base c : Nat} {v : Value} {s : List SL} {R : List E} {e : Ending} (hg : ∀ x ∈ s, goodS x) (hp : PendI w Q 4 (ExprI w Q) preL s R)
    (h : StepE base c v (.pointer (popSE s).1) (popSE s).1 (popSE s).2 W e w') : NextE w Q base c v R W e w' := by
  obtain ⟨v', he, hc, hm, hl⟩ := h
  refine ⟨v', hm, hl, ?_⟩
  match s with
  | [] => exact .inl ⟨pend_none hp, he⟩
  | (a, n, cap) :: s =>
    obtain ⟨x, l, R', rfl, hn, hp', hlen, hsl⟩ := pend_some (hg _ (List.mem_cons_self ..)) hp
    refine .inr ⟨a, x, preL x.ks ++ (preL l ++ R'), by rw [preL_cons]; simp, he, hn, _, _, preL l ++ R', hc, ?_, .inr ⟨a, x, rfl, hn, rfl⟩⟩
    simp only at hlen
    simp only [popSE]
    by_cases h1 : n = 1
    · rw [if_pos h1]
      obtain rfl : l = [] := List.eq_nil_of_length_eq_zero (by omega)
      exact hp'
    · rw [if_neg h1]
      exact .cons (x := (a.add 4, n - 1, cap - 1)) hsl hp'
theorem nextE_any {w W : World} {Q : Nat → Prop} {base c : Nat} {v : Value} {R : List E} (h : WalkE w W Q base c v R) (hI : In Q w W) (hbase : base ≤ W.heap.size) (hR : R.length ≤ 1099511627770) :
    Calls Try.prog 43 #[.pointer (some ⟨c, 0, none⟩)] W (NextE w Q base c v R W) := by
  obtain ⟨last, s, R0, hc, hp, hl⟩ := h
  have hlen := pend_len (pre := preL) (fun x l => by rw [preL_cons]; simp) hc.good hp
  rcases hl with ⟨rfl, rfl⟩ | ⟨a, e, rfl, hn, rfl⟩
  · exact (nextE_none base c v s W hc (by omega)).mono fun e' w' h' => popped hc.good hp h'
  · obtain ⟨hqa, cs, hx, hcell⟩ := hn
    cases hx with
    | @mk op n nm ks A cap css hop hn hnm hcap hA hk =>
      have hsl : SliceI w Q 4 (ExprI w Q) ks (.slice A ks.length cap) := ⟨A, cap, css, rfl, hcap, hA, hk⟩
      have hk3 : W.cell? ⟨a.block, a.off + 3, none⟩ = some (.slice A ks.length cap) := by
        rw [← add_ne a (by decide)]
        exact (hI.cell (by rw [block_add]; exact hqa)).trans (hcell 3 _ rfl)
      obtain ⟨_, _, _, hA'⟩ := slice_len hsl
      simp only [List.length_append] at hR
      refine (nextE_some base c v s a A ks.length cap W hc hk3 hA' hcap.1 hcap.2 hbase (by omega)).mono fun e' w' h' => ?_
      exact popped (pushS_goodE hc.good hcap.1 hcap.2) (pend_push (pre := preL) (by rw [preL]) hp hsl) h'
/-- a new cursor has all nodes ahead -/
theorem exprs_any {w W : World} {Q : Nat → Prop} {l : List E} {A : Option Addr} {n cap : Nat} (h : SliceI w Q 4 (ExprI w Q) l (.slice A n cap)) :
    Calls Try.prog 42 #[.slice A n cap] W fun e w' => ∃ v, e = .returned (.pointer (some ⟨W.heap.size, 0, none⟩)) ∧ WalkE w w' Q W.heap.size W.heap.size v (preL l) ∧ Below W.heap.size W w' ∧ ∀ j, v.ownBlock = some j → W.heap.size < j := by
  obtain ⟨rfl, h1, h2, h3⟩ := slice_len h
  refine (makeE_any A l.length cap W h3 h1 h2).mono fun e w' ⟨v, he, hc, hb, hj⟩ => ⟨v, he, ⟨none, _, _, hc, ?_, .inl ⟨rfl, rfl⟩⟩, hb, hj⟩
  have := pend_push (pre := preL) (s := []) (R := []) (by rw [preL]) .nil h
  rwa [List.append_nil] at this
/-! ### statements -/
mutual
def preS : S → List S
  | .mk id kind labels nm proc x has args th el => .mk id kind labels nm proc x has args th el :: (preSL th ++ preSL el)
def preSL : List S → List S
  | [] => []
  | k :: ks => preS k ++ preSL ks
end
def subS : S → List S
  | .mk _ _ _ _ _ _ _ _ th el => preSL th ++ preSL el
theorem preS_eq (e : S) : preS e = e :: subS e := by cases e; rw [preS]; rfl
theorem preSL_cons (e : S) (l : List S) : preSL (e :: l) = e :: (subS e ++ preSL l) := by rw [preSL, preS_eq]; rfl
/-- the cursor c has the nodes R ahead -/
def WalkS (w W : World) (Q : Nat → Prop) (base c : Nat) (v : Value) (R : List S) : Prop :=
  ∃ last s R0, CurS W base c v last s ∧ PendI w Q 13 (StmtI w Q) preSL s R0 ∧ ((last = none ∧ R = R0) ∨ ∃ a e, last = some a ∧ NodeI w Q (StmtI w Q) a e ∧ R = subS e ++ R0)
def NextS (w : World) (Q : Nat → Prop) (base c : Nat) (v : Value) (R : List S) (W : World) (e : Ending) (w' : World) : Prop :=
  ∃ v', Moves (ownS c v) W w' ∧ (∀ j, v'.ownBlock = some j → W.heap.size ≤ j ∨ v.ownBlock = some j) ∧
    ((R = [] ∧ e = .returned (.pointer none)) ∨ ∃ a x R', R = x :: R' ∧ e = .returned (.pointer (some a)) ∧ NodeI w Q (StmtI w Q) a x ∧ WalkS w w' Q base c v' R')
theorem poppedS {w W w' : World} {Q : Nat → Prop} {base c : Nat} {v : Value} {s : List SL} {R : List S} {e : Ending} (hg : ∀ x ∈ s, goodS x) (hp : PendI w Q 13 (StmtI w Q) preSL s R)
    (h : StepS base c v (.pointer (popSS s).1) (popSS s).1 (popSS s).2 W e w') : NextS w Q base c v R W e w' := by
  obtain ⟨v', he, hc, hm, hl⟩ := h
  refine ⟨v', hm, hl, ?_⟩
  match s with
  | [] => exact .inl ⟨pend_none hp, he⟩
  | (a, n, cap) :: s =>
    obtain ⟨x, l, R', rfl, hn, hp', hlen, hsl⟩ := pend_some (hg _ (List.mem_cons_self ..)) hp
    refine .inr ⟨a, x, subS x ++ (preSL l ++ R'), by rw [preSL_cons]; simp, he, hn, _, _, preSL l ++ R', hc, ?_, .inr ⟨a, x, rfl, hn, rfl⟩⟩
    simp only at hlen
    simp only [popSS]
    by_cases h1 : n = 1
    · rw [if_pos h1]
      obtain rfl : l = [] := List.eq_nil_of_length_eq_zero (by omega)
      exact hp'
    · rw [if_neg h1]
      exact .cons (x := (a.add 13, n - 1, cap - 1)) hsl hp'
theorem nextS_any {w W : World} {Q : Nat → Prop} {base c : Nat} {v : Value} {R : List S} (h : WalkS w W Q base c v R) (hI : In Q w W) (hbase : base ≤ W.heap.size) (hR : R.length ≤ 1099511627770) :
    Calls Try.prog 58 #[.pointer (some ⟨c, 0, none⟩)] W (NextS w Q base c v R W) := by
  obtain ⟨last, s, R0, hc, hp, hl⟩ := h
  have hlen := pend_len (pre := preSL) (fun x l => by rw [preSL_cons]; simp) hc.good hp
  rcases hl with ⟨rfl, rfl⟩ | ⟨a, e, rfl, hn, rfl⟩
  · exact (nextS_none base c v s W hc (by omega)).mono fun e' w' h' => poppedS hc.good hp h'
  · obtain ⟨hqa, cs, hx, hcell⟩ := hn
    cases hx with
    | @mk id kind labels nm proc x has args th el vl va x0 x1 x2 x3 A1 A2 cap1 cap2 css1 css2 hid hkind hnm hproc hl hx ha hc1 hc2 hA1 hA2 hk1 hk2 =>
      have hsl1 : SliceI w Q 13 (StmtI w Q) th (.slice A1 th.length cap1) := ⟨A1, cap1, css1, rfl, hc1, hA1, hk1⟩
      have hsl2 : SliceI w Q 13 (StmtI w Q) el (.slice A2 el.length cap2) := ⟨A2, cap2, css2, rfl, hc2, hA2, hk2⟩
      have hk11 : W.cell? ⟨a.block, a.off + 11, none⟩ = some (.slice A1 th.length cap1) := by
        rw [← add_ne a (by decide)]
        exact (hI.cell (by rw [block_add]; exact hqa)).trans (hcell 11 _ rfl)
      have hk12 : W.cell? ⟨a.block, a.off + 12, none⟩ = some (.slice A2 el.length cap2) := by
        rw [← add_ne a (by decide)]
        exact (hI.cell (by rw [block_add]; exact hqa)).trans (hcell 12 _ rfl)
      obtain ⟨_, _, _, hA1'⟩ := slice_len hsl1
      obtain ⟨_, _, _, hA2'⟩ := slice_len hsl2
      simp only [subS, List.length_append] at hR
      refine (nextS_some base c v s a A1 A2 th.length cap1 el.length cap2 W hc hk11 hk12 hA1' hc1.1 hc1.2 hA2' hc2.1 hc2.2 hbase (by omega)).mono fun e' w' h' => ?_
      have hp2 := pend_push (pre := preSL) (by rw [preSL]) (pend_push (pre := preSL) (by rw [preSL]) hp hsl2) hsl1
      rw [← List.append_assoc] at hp2
      exact poppedS (pushS_goodS (pushS_goodS hc.good hc2.1 hc2.2) hc1.1 hc1.2) hp2 h'
/-- a new cursor has all nodes ahead -/
theorem stmts_any {w W : World} {Q : Nat → Prop} {l : List S} {A : Option Addr} {n cap : Nat} (h : SliceI w Q 13 (StmtI w Q) l (.slice A n cap)) :
    Calls Try.prog 57 #[.slice A n cap] W fun e w' => ∃ v, e = .returned (.pointer (some ⟨W.heap.size, 0, none⟩)) ∧ WalkS w w' Q W.heap.size W.heap.size v (preSL l) ∧ Below W.heap.size W w' ∧ ∀ j, v.ownBlock = some j → W.heap.size < j := by
  obtain ⟨rfl, h1, h2, h3⟩ := slice_len h
  refine (makeS_any A l.length cap W h3 h1 h2).mono fun e w' ⟨v, he, hc, hb, hj⟩ => ⟨v, he, ⟨none, _, _, hc, ?_, .inl ⟨rfl, rfl⟩⟩, hb, hj⟩
  have := pend_push (pre := preSL) (s := []) (R := []) (by rw [preSL]) .nil h
  rwa [List.append_nil] at this
theorem WalkE.keep {own : Nat → Prop} {w W W' : World} {Q : Nat → Prop} {base c : Nat} {v : Value} {R : List E} (h : WalkE w W Q base c v R) (hm : Moves own W W') (hn : ∀ k, ownE c v k → ¬ own k) : WalkE w W' Q base c v R := by
  obtain ⟨last, s, R0, hc, hp, hl⟩ := h
  exact ⟨last, s, R0, hc.keep hm hn, hp, hl⟩
theorem WalkE.lt {w W : World} {Q : Nat → Prop} {base c : Nat} {v : Value} {R : List E} (h : WalkE w W Q base c v R) : c < W.heap.size ∧ ∀ j, v.ownBlock = some j → base ≤ j ∧ j < W.heap.size := by
  obtain ⟨last, s, R0, hc, hp, hl⟩ := h
  exact ⟨hc.blk.lt, hc.row.lt⟩
/-- the node at hand, and what is ahead -/
def AtE (w W : World) (Q : Nat → Prop) (base c : Nat) (o : Option Addr) (L : List E) : Prop := (o = none ∧ L = []) ∨ ∃ a x R v, o = some a ∧ L = x :: R ∧ NodeI w Q (ExprI w Q) a x ∧ WalkE w W Q base c v R
theorem nextE_at {w W : World} {Q : Nat → Prop} {base c : Nat} {v : Value} {R : List E} (h : WalkE w W Q base c v R) (hI : In Q w W) (hbase : base ≤ W.heap.size) (hc : base ≤ c) (hR : R.length ≤ 1099511627770) :
    Calls Try.prog 43 #[.pointer (some ⟨c, 0, none⟩)] W fun e w' => ∃ o, e = .returned (.pointer o) ∧ AtE w w' Q base c o R ∧ Below base W w' := by
  refine (nextE_any h hI hbase hR).mono ?_
  rintro e w' ⟨v', hm, hl, hd⟩
  have hb : Below base W w' := hm.below hbase (fun j hj => by rcases hj with rfl | hj; exact hc; exact (h.lt.2 j hj).1)
  rcases hd with ⟨rfl, rfl⟩ | ⟨a, x, R', rfl, rfl, hn, hw⟩
  · exact ⟨none, rfl, .inl ⟨rfl, rfl⟩, hb⟩
  · exact ⟨some a, rfl, .inr ⟨a, x, R', v', rfl, rfl, hn, hw⟩, hb⟩
theorem WalkS.keep {own : Nat → Prop} {w W W' : World} {Q : Nat → Prop} {base c : Nat} {v : Value} {R : List S} (h : WalkS w W Q base c v R) (hm : Moves own W W') (hn : ∀ k, ownS c v k → ¬ own k) : WalkS w W' Q base c v R := by
  obtain ⟨last, s, R0, hc, hp, hl⟩ := h
  exact ⟨last, s, R0, hc.keep hm hn, hp, hl⟩
theorem WalkS.lt {w W : World} {Q : Nat → Prop} {base c : Nat} {v : Value} {R : List S} (h : WalkS w W Q base c v R) : c < W.heap.size ∧ ∀ j, v.ownBlock = some j → base ≤ j ∧ j < W.heap.size := by
  obtain ⟨last, s, R0, hc, hp, hl⟩ := h
  exact ⟨hc.blk.lt, hc.row.lt⟩
/-- the node at hand, and what is ahead -/
def AtS (w W : World) (Q : Nat → Prop) (base c : Nat) (o : Option Addr) (L : List S) : Prop := (o = none ∧ L = []) ∨ ∃ a x R v, o = some a ∧ L = x :: R ∧ NodeI w Q (StmtI w Q) a x ∧ WalkS w W Q base c v R
theorem nextS_at {w W : World} {Q : Nat → Prop} {base c : Nat} {v : Value} {R : List S} (h : WalkS w W Q base c v R) (hI : In Q w W) (hbase : base ≤ W.heap.size) (hc : base ≤ c) (hR : R.length ≤ 1099511627770) :
    Calls Try.prog 58 #[.pointer (some ⟨c, 0, none⟩)] W fun e w' => ∃ o, e = .returned (.pointer o) ∧ AtS w w' Q base c o R ∧ Below base W w' := by
  refine (nextS_any h hI hbase hR).mono ?_
  rintro e w' ⟨v', hm, hl, hd⟩
  have hb : Below base W w' := hm.below hbase (fun j hj => by rcases hj with rfl | hj; exact hc; exact (h.lt.2 j hj).1)
  rcases hd with ⟨rfl, rfl⟩ | ⟨a, x, R', rfl, rfl, hn, hw⟩
  · exact ⟨none, rfl, .inl ⟨rfl, rfl⟩, hb⟩
  · exact ⟨some a, rfl, .inr ⟨a, x, R', v', rfl, rfl, hn, hw⟩, hb⟩
theorem nextE_mv {w W : World} {Q : Nat → Prop} {base c : Nat} {v : Value} {R : List E} (h : WalkE w W Q base c v R) (hI : In Q w W) (hbase : base ≤ W.heap.size) (hR : R.length ≤ 1099511627770) :
    Calls Try.prog 43 #[.pointer (some ⟨c, 0, none⟩)] W fun e w' => ∃ o, e = .returned (.pointer o) ∧ AtE w w' Q base c o R ∧ Moves (ownE c v) W w' := by
  refine (nextE_any h hI hbase hR).mono ?_
  rintro e w' ⟨v', hm, hl, hd⟩
  rcases hd with ⟨rfl, rfl⟩ | ⟨a, x, R', rfl, rfl, hn, hw⟩
  · exact ⟨none, rfl, .inl ⟨rfl, rfl⟩, hm⟩
  · exact ⟨some a, rfl, .inr ⟨a, x, R', v', rfl, rfl, hn, hw⟩, hm⟩
theorem nextS_mv {w W : World} {Q : Nat → Prop} {base c : Nat} {v : Value} {R : List S} (h : WalkS w W Q base c v R) (hI : In Q w W) (hbase : base ≤ W.heap.size) (hR : R.length ≤ 1099511627770) :
    Calls Try.prog 58 #[.pointer (some ⟨c, 0, none⟩)] W fun e w' => ∃ o, e = .returned (.pointer o) ∧ AtS w w' Q base c o R ∧ Moves (ownS c v) W w' := by
  refine (nextS_any h hI hbase hR).mono ?_
  rintro e w' ⟨v', hm, hl, hd⟩
  rcases hd with ⟨rfl, rfl⟩ | ⟨a, x, R', rfl, rfl, hn, hw⟩
  · exact ⟨none, rfl, .inl ⟨rfl, rfl⟩, hm⟩
  · exact ⟨some a, rfl, .inr ⟨a, x, R', v', rfl, rfl, hn, hw⟩, hm⟩
end Go.Proofs.Ytdjckmpfblaliaa
