/- Expressions in memory: what four cells read as an expression, that it stays in a world that has grown, and that an argument that reads is one. -/
import Derived.Test.YtdjckmpfblaliaaTreeB
import Derived.ChangeSame
import Derived.Deep.Slices
namespace Go.Proofs.Ytdjckmpfblaliaa
open Go.ChangeShapes Go.WideShapes Go.ChangeAt Go.RowKit Go.Deep
set_option linter.unusedVariables false

inductive E where
  | mk (op n : Int) (nm : ByteArray) (ks : List E)

def i64 (n : Int) : Prop := -9223372036854775808 ≤ n ∧ n ≤ 9223372036854775807
/-- what lies in blocks of Q is in W as it was in w, and is there -/
def In (Q : Nat → Prop) (w W : World) : Prop := (∀ b, Q b → b < W.heap.size) ∧ ∀ p : Addr, Q p.block → W.cell? p = w.cell? p
abbrev lt_ (B : Nat) : Nat → Prop := fun b => b < B
section
variable {Q : Nat → Prop} {w W W' : World}
theorem In.refl (w : World) : In (lt_ w.heap.size) w w := ⟨fun _ h => h, fun _ _ => rfl⟩
theorem In.size (h : In Q w W) {b : Nat} (hb : Q b) : b < W.heap.size := h.1 b hb
theorem In.cell (h : In Q w W) {p : Addr} (hp : Q p.block) : W.cell? p = w.cell? p := h.2 p hp
theorem In.below {B : Nat} (h : In Q w W) (hQ : ∀ b, Q b → b < B) (hb : Below B W W') : In Q w W' := ⟨fun b hq => Nat.lt_of_lt_of_le (h.1 b hq) hb.size, fun p hp => (hb.cell (hQ _ hp)).trans (h.2 p hp)⟩
theorem In.on (h : In Q w W) (hb : Below W.heap.size W W') : In Q w W' := h.below h.1 hb
theorem In.alloc (h : In Q w W) (o : Obj) : In Q w (W.alloc o) := h.on ((Below.refl _ _).alloc (Nat.le_refl _) o)
theorem In.setCell (h : In Q w W) {a : Addr} (ha : ¬ Q a.block) (u : Value) : In Q w (W.setCell a u) :=
  ⟨fun b hq => by simpa [World.setCell] using h.1 b hq, fun p hp => (World.cell?_setCell_other W a p u (fun e => by subst e; exact ha hp)).trans (h.2 p hp)⟩
theorem In.trans (h : In Q w W) (k : In Q W W') : In Q w W' := ⟨k.1, fun p hp => (k.2 p hp).trans (h.2 p hp)⟩
theorem In.mono {Q' : Nat → Prop} (h : In Q w W) (hQ : ∀ b, Q' b → Q b) : In Q' w W := ⟨fun b hb => h.1 b (hQ b hb), fun p hp => h.2 p (hQ _ hp)⟩
end

/-- the cells cs read as the expression e, in the world w; all that is met lies in blocks of Q -/
inductive ExprI (w : World) (Q : Nat → Prop) : E → List Value → Prop where
  | mk {op n : Int} {nm : ByteArray} {ks : List E} {A : Option Addr} {cap : Nat} {css : Nat → List Value}
      (hop : i64 op) (hn : i64 n) (hnm : nm.size ≤ 9223372036854775807)
      (hcap : ks.length ≤ cap ∧ cap ≤ 9223372036854775807)
      (hA : 0 < ks.length → ∃ a, A = some a ∧ Q a.block ∧ ∀ i, i < ks.length → ∀ j u, (css i)[j]? = some u → w.cell? (a.add (i * 4 + j)) = some u)
      (hk : ∀ i (h : i < ks.length), ExprI w Q ks[i] (css i)) :
      ExprI w Q (.mk op n nm ks) [.int .i64 op, .int .i64 n, .string nm, .slice A ks.length cap]
theorem ExprI.len {w : World} {Q : Nat → Prop} {e : E} {cs : List Value} (h : ExprI w Q e cs) : cs.length = 4 := by cases h; rfl
theorem ExprI.form {w : World} {Q : Nat → Prop} {e : E} {cs : List Value} (h : ExprI w Q e cs) : ∃ op n nm A l cap, cs = [.int .i64 op, .int .i64 n, .string nm, .slice A l cap] := by cases h; exact ⟨_, _, _, _, _, _, rfl⟩
theorem block_add (a : Addr) (n : Nat) : (a.add n).block = a.block := by unfold Addr.add; split <;> rfl
theorem ExprI.keep {w w' : World} {Q Q' : Nat → Prop} {e : E} {cs : List Value} (h : ExprI w Q e cs) (hQ : ∀ b, Q b → Q' b) (hc : ∀ p : Addr, Q p.block → w'.cell? p = w.cell? p) : ExprI w' Q' e cs := by
  induction h with
  | @mk op n nm ks A cap css hop hn hnm hcap hA hk ih =>
    refine .mk (css := css) hop hn hnm hcap (fun h0 => ?_) ih
    obtain ⟨a, h1, h2, h3⟩ := hA h0
    exact ⟨a, h1, hQ _ h2, fun i hi j u hu => (hc _ (by rw [block_add]; exact h2)).trans (h3 i hi j u hu)⟩
theorem ExprI.into {w W : World} {Q : Nat → Prop} {e : E} {cs : List Value} (h : ExprI w Q e cs) (hI : In Q w W) : ExprI W Q e cs := h.keep (fun _ h => h) hI.2
theorem i64_of {n : Int} (h : (Lit.int .i64 n).wf = true) : i64 n := by
  unfold i64
  simp only [Lit.wf, IntKind.min, IntKind.max, IntKind.signed, IntKind.bits, Bool.and_eq_true, decide_eq_true_eq, if_true] at h
  omega
theorem cell_off {w : World} {a : Addr} {n j : Nat} {u : Value} (hj : j ≠ 0) (h : w.cell? (a.add (n + j)) = some u) : w.cell? ⟨(a.add n).block, (a.add n).off + j, none⟩ = some u := by
  rw [← add_add] at h
  have : (a.add n).add j = ⟨(a.add n).block, (a.add n).off + j, none⟩ := by
    generalize a.add n = b
    unfold Addr.add
    rw [if_neg (by simpa using hj)]
  rwa [this] at h
/-- the cells of the kid k, in a later world -/
theorem kid_at {w W : World} {Q : Nat → Prop} {ks : List E} {A : Option Addr} {css : Nat → List Value}
    (hA : 0 < ks.length → ∃ a, A = some a ∧ Q a.block ∧ ∀ i, i < ks.length → ∀ j u, (css i)[j]? = some u → w.cell? (a.add (i * 4 + j)) = some u)
    (hk : ∀ i (h : i < ks.length), ExprI w Q ks[i] (css i)) (hI : In Q w W) {k : Nat} (h : k < ks.length) :
    ∃ a o1 n1 s1 A1 l1 c1, A = some a ∧ css k = [.int .i64 o1, .int .i64 n1, .string s1, .slice A1 l1 c1] ∧ W.cell? (a.add (k * 4)) = some (.int .i64 o1) ∧
      W.cell? ⟨(a.add (k * 4)).block, (a.add (k * 4)).off + 1, none⟩ = some (.int .i64 n1) ∧ W.cell? ⟨(a.add (k * 4)).block, (a.add (k * 4)).off + 2, none⟩ = some (.string s1) ∧
      W.cell? ⟨(a.add (k * 4)).block, (a.add (k * 4)).off + 3, none⟩ = some (.slice A1 l1 c1) := by
  obtain ⟨a, rfl, hab, hcell⟩ := hA (by omega)
  obtain ⟨o1, n1, s1, A1, l1, c1, hd⟩ := (hk k h).form
  have hq : ∀ j, Q (a.add (k * 4 + j)).block := fun j => by rw [block_add]; exact hab
  refine ⟨a, o1, n1, s1, A1, l1, c1, rfl, hd, (hI.cell (hq 0)).trans (hcell k h 0 _ (by rw [hd]; rfl)), ?_, ?_, ?_⟩
  · exact cell_off (by decide) ((hI.cell (hq 1)).trans (hcell k h 1 _ (by rw [hd]; rfl)))
  · exact cell_off (by decide) ((hI.cell (hq 2)).trans (hcell k h 2 _ (by rw [hd]; rfl)))
  · exact cell_off (by decide) ((hI.cell (hq 3)).trans (hcell k h 3 _ (by rw [hd]; rfl)))
theorem cellsE : Try.prog.cellsOf 24 = 4 := by kernel_rfl
theorem cells_i : Try.prog.cellsOf 3 = 1 := by kernel_rfl
theorem cells_l : Try.prog.cellsOf 2 = 1 := by kernel_rfl
theorem cells_s : Try.prog.cellsOf 9 = 1 := by kernel_rfl
theorem cells_k : Try.prog.cellsOf 22 = 1 := by kernel_rfl
theorem four {cs : List Value} (h : cs.length = 4) : ∃ c0 c1 c2 c3, cs = [c0, c1, c2, c3] := by
  match cs, h with
  | [c0, c1, c2, c3], _ => exact ⟨c0, c1, c2, c3, rfl⟩
/-- an argument that reads is an expression -/
theorem open_expr {H : Type} {enc : TypeId × Value → H} {w : World} {base : Nat} {spare : Nat → Bool} {held : Bool} : ∀ (fuel : Nat) (cs : List Value) (x : DataW H × List MemPlace),
    DataW.trod enc Try.prog w base spare held fuel 24 cs = some x → ∃ e, ExprI w (lt_ w.heap.size) e cs := by
  intro fuel
  induction fuel using Nat.strongRecOn with
  | _ fuel ih =>
    intro cs x h
    obtain ⟨xs, n, hfu, _, hlen, hxl, hf⟩ := DataW.trod_struct Try.underlying24 h
    rw [cellsE] at hlen
    obtain ⟨c0, c1, c2, c3, rfl⟩ := four hlen
    have g0 : DataW.trod enc Try.prog w base spare held n 3 (([c0, c1, c2, c3].drop 0).take (Try.prog.cellsOf 3)) = xs[0]? := hf 0 _ rfl
    have g1 : DataW.trod enc Try.prog w base spare held n 2 (([c0, c1, c2, c3].drop 1).take (Try.prog.cellsOf 2)) = xs[1]? := hf 1 _ rfl
    have g2 : DataW.trod enc Try.prog w base spare held n 9 (([c0, c1, c2, c3].drop 2).take (Try.prog.cellsOf 9)) = xs[2]? := hf 2 _ rfl
    have g3 : DataW.trod enc Try.prog w base spare held n 22 (([c0, c1, c2, c3].drop 3).take (Try.prog.cellsOf 22)) = xs[3]? := hf 3 _ rfl
    rw [cells_i] at g0
    rw [cells_l] at g1
    rw [cells_s] at g2
    rw [cells_k] at g3
    simp only [List.drop_zero, List.drop_succ_cons, List.take_succ_cons, List.take_zero] at g0 g1 g2 g3
    have hx : ∀ i, i < 4 → ∃ y, xs[i]? = some y := fun i hi => ⟨_, List.getElem?_eq_getElem (by rw [hxl]; exact hi)⟩
    obtain ⟨y0, h0⟩ := hx 0 (by omega)
    obtain ⟨y1, h1⟩ := hx 1 (by omega)
    obtain ⟨y2, h2⟩ := hx 2 (by omega)
    obtain ⟨y3, h3⟩ := hx 3 (by omega)
    obtain ⟨op, e0, _, w0⟩ := DataW.trod_int Try.underlying3 (g0.trans h0)
    obtain ⟨nn, e1, _, w1⟩ := DataW.trod_int Try.underlying2 (g1.trans h1)
    obtain ⟨s, e2, _, w2⟩ := DataW.trod_string Try.underlying9 (g2.trans h2)
    injection e0 with e0
    injection e1 with e1
    injection e2 with e2
    subst e0 e1 e2
    unfold maxLen at w2
    rcases DataW.trod_slice Try.underlying22 (g3.trans h3) with ⟨e3, _⟩ | ⟨a, len, cap, elems, rest, m, hm, e3, _, hb, hlc, hcm, hel, hat, _⟩
    · injection e3 with e3
      subst e3
      exact ⟨.mk op nn s [], .mk (css := fun _ => []) (i64_of w0) (i64_of w1) (by omega) ⟨Nat.le_refl _, by omega⟩ (fun h => absurd h (by simp)) (fun i h => absurd h (by simp))⟩
    · injection e3 with e3
      subst e3
      unfold maxLen at hcm
      have key : ∀ i, ∃ (p : List Value × E), i < len → (∀ j u, p.1[j]? = some u → w.cell? (a.add (i * 4 + j)) = some u) ∧ ExprI w (lt_ w.heap.size) p.2 p.1 := by
        intro i
        by_cases hi : i < len
        · have h4 := hat i hi
          rw [cellsE] at h4
          have hy : ∃ y, elems[i]? = some y := ⟨_, List.getElem?_eq_getElem (by omega)⟩
          obtain ⟨y, hy⟩ := hy
          rw [hy] at h4
          obtain ⟨cs', h5, h6⟩ := Option.bind_eq_some_iff.1 h4
          obtain ⟨_, h7, h8⟩ := World.cells?_some h5
          obtain ⟨e, he⟩ := ih m (by omega) cs' y h6
          refine ⟨(cs', e), fun _ => ⟨fun j u hu => ?_, he⟩⟩
          have hj : j < 4 := by have := (List.getElem?_eq_some_iff.1 hu).1; simp only at this; omega
          rw [← add_add]
          exact (h8 j hj).trans hu
        · exact ⟨([], .mk 0 0 ⟨#[]⟩ []), fun h => absurd h hi⟩
      have hc := fun i => (Classical.choose_spec (key i))
      refine ⟨.mk op nn s ((List.range len).map fun i => (Classical.choose (key i)).2), ?_⟩
      have hl : ((List.range len).map fun i => (Classical.choose (key i)).2).length = len := by simp
      have := ExprI.mk (w := w) (Q := lt_ w.heap.size) (op := op) (n := nn) (nm := s) (ks := (List.range len).map fun i => (Classical.choose (key i)).2) (A := some a) (cap := cap) (css := fun i => (Classical.choose (key i)).1)
        (i64_of w0) (i64_of w1) (by omega) ⟨by rw [hl]; exact hlc, by omega⟩ (fun h0 => ?_) (fun i hi => ?_)
      · rw [hl] at this
        exact this
      · rw [hl] at h0
        refine ⟨a, rfl, ?_, fun i hi j u hu => (hc i (by rw [hl] at hi; exact hi)).1 j u hu⟩
        obtain ⟨h5, h6⟩ := hc 0 h0
        have h7 := h6.len
        have h8 := h5 0 ((Classical.choose (key 0)).1[0]'(by omega)) (List.getElem?_eq_getElem (by omega))
        have h9 := World.block_lt_of_cell? _ _ h8
        rw [block_add] at h9
        exact h9
      · rw [hl] at hi
        have h5 := (hc i hi).2
        simpa using h5
end Go.Proofs.Ytdjckmpfblaliaa
