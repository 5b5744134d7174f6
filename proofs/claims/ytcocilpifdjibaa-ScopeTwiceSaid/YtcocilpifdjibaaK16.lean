/- Texts, merged by a program; only what is used. -/
import Derived.Test.YtcocilpifdjibaaK1
import Derived.Test.YtcocilpifdjibaaK2
import Derived.Test.YtcocilpifdjibaaK3
import Derived.Test.YtcocilpifdjibaaK4
import Derived.Test.YtcocilpifdjibaaK5
import Derived.Test.YtcocilpifdjibaaK6
import Derived.Test.YtcocilpifdjibaaK7
import Derived.Test.YtcocilpifdjibaaK8
import Derived.Test.YtcocilpifdjibaaK9
import Derived.Test.YtcocilpifdjibaaK10
import Derived.Test.YtcocilpifdjibaaK11
import Derived.Test.YtcocilpifdjibaaK12
import Derived.Test.YtcocilpifdjibaaK13
import Derived.Test.YtcocilpifdjibaaK14
import Derived.Test.YtcocilpifdjibaaK15
namespace Go.Proofs.Ytcocilpifdjibaa
open Go.ChangeShapes Go.WideShapes Go.ChangeAt Go.RowKit Go.Deep
set_option linter.unusedVariables false
set_option linter.unusedSimpArgs false
theorem own_stay {w w' : World} {base C n : Nat} {e : TypeId} {v : Value} {xs : List Value} (h : w.ownsRow base e C v n xs) (hs : ∀ j, v.ownBlock = some j → w'.heap[j]? = w.heap[j]?) : w'.ownsRow base e C v n xs := by
  refine ⟨h.1, ?_⟩
  rcases h.2 with h1 | ⟨g, cap, cur, h1, h2, h3, r⟩
  · exact .inl h1
  · exact .inr ⟨g, cap, cur, h1, h2, (hs g (by rw [h1]; rfl)).trans h3, r⟩
section
variable {α : Type}
/-- a relation that holds on where its blocks are as they were -/
def StaysH (R : World → (Nat → Prop) → α → List Value → Prop) : Prop := ∀ {w w' : World} {Q Q' : Nat → Prop} {x : α} {cs : List Value}, R w Q x cs → (∀ b, Q b → Q' b) → (∀ b, Q b → w'.heap[b]? = w.heap[b]?) → R w' Q' x cs
variable {R : World → (Nat → Prop) → α → List Value → Prop} {w w' : World} {base C : Nat} {e : TypeId} {l : List α} {v : Value}
theorem BuildI.belowH (hR : StaysH R) (h : BuildI w base e C R l v) (hb : Below w.heap.size w w') : BuildI w' base e C R l v := by
  obtain ⟨rows, h1, h2⟩ := h
  exact ⟨rows, own_stay h1 (fun j hj => hb.block j (h1.lt j hj).2), h2.imp fun x cs h => hR h (fun b h => ⟨⟨h.1.1, Nat.lt_of_lt_of_le h.1.2 hb.size⟩, h.2⟩) (fun b hp => hb.block b hp.1.2)⟩
theorem heap_set_ne (w : World) (p : Addr) (u : Value) {b : Nat} (hb : b < w.heap.size) (hne : b ≠ p.block) : (w.setCell p u).heap[b]? = w.heap[b]? := (setMoves w p u).block b hb hne
theorem BuildI.setH (hR : StaysH R) (h : BuildI w base e C R l v) {p : Addr} (hp : p.block < base) (u : Value) : BuildI (w.setCell p u) base e C R l v := by
  obtain ⟨rows, h1, h2⟩ := h
  refine ⟨rows, (setMoves w p u).row h1 (fun j hj e => by have := (h1.lt j hj).1; omega), h2.imp fun x cs h => hR h (fun b h => ⟨⟨h.1.1, by simp only [size_set]; exact h.1.2⟩, h.2⟩) (fun b hq => heap_set_ne w p u hq.1.2 (by have := hq.1.1; omega))⟩
theorem BuildI.pushH (hR : StaysH R) {rows : List (List Value)} (h1 : w.ownsRow base e C v l.length rows.flatten) (h2 : All2 (R w (fun b => (base ≤ b ∧ b < w.heap.size) ∧ v.ownBlock ≠ some b)) l rows) {x : α} {cs : List Value} {B : Nat} (hx : R w (fun b => B ≤ b ∧ b < w.heap.size) x cs) (hB : base ≤ B) (hv : ∀ j, v.ownBlock = some j → j < B)
    {o : Obj} {w3 : World} {v' : Value} {n : Nat} (hn : n = l.length + 1) {xs : List Value} (hxs : xs = rows.flatten ++ cs) (h3 : w3.ownsRow base e C v' n xs) (hg : (w.alloc o).grownBy w3 v.ownBlock) (hat : v.ownBlock = v'.ownBlock ∨ v'.ownBlock = some (w.alloc o).heap.size) : BuildI w3 base e C R (l ++ [x]) v' := by
  subst hn hxs
  have hm : Moves (fun j => v.ownBlock = some j) w w3 := ((Moves.refl _ w).alloc o).trans (moves_grown hg) (fun j hj => .inr hj)
  have hsz := hm.size
  have key : ∀ b, (base ≤ b ∧ b < w.heap.size) ∧ v.ownBlock ≠ some b → (base ≤ b ∧ b < w3.heap.size) ∧ v'.ownBlock ≠ some b := by
    rintro b ⟨⟨h5, h6⟩, h7⟩
    refine ⟨⟨h5, by omega⟩, fun h => ?_⟩
    rcases hat with h8 | h8
    · exact h7 (h8.trans h)
    · rw [h8] at h; injection h with h; rw [World.size_alloc] at h; omega
  refine ⟨rows ++ [cs], by rw [List.length_append, List.flatten_append, List.flatten_cons, List.flatten_nil, List.append_nil]; exact h3, ?_⟩
  refine All2.snoc (hR hx (fun b hb => key b ⟨⟨by omega, hb.2⟩, fun h => by have := hv b h; omega⟩) (fun b hp => hm.block b hp.2 (fun h => by have := hv b h; omega))) (h2.imp fun y cy h => hR h key (fun b hp => hm.block b hp.1.2 hp.2))
end
/-- a procedure whose rows of variables and of parameters are own rows; the blocks of it lie from x.2.1 on, below x.2.2 -/
def PrK (w : World) (Q : Nat → Prop) (x : Pr × Nat × Nat) (cs : List Value) : Prop :=
  ∃ vp vv vb ve m1 m2, cs = [.string x.1.nm, vp, vv, vb, ve] ∧ x.1.nm.size ≤ 9223372036854775807 ∧ (x.2.1 ≤ m1 ∧ m1 ≤ m2 ∧ m2 ≤ x.2.2) ∧ (∀ s ∈ x.1.vars, s.size ≤ 9223372036854775807) ∧ (∀ q ∈ x.1.params, q.nm.size ≤ 9223372036854775807) ∧
  w.ownsRow x.2.1 9 1 vv x.1.vars.length (strs x.1.vars) ∧ (∀ j, vv.ownBlock = some j → j < m1 ∧ Q j) ∧
  TextsI w (fun j => (m1 ≤ j ∧ j < m2) ∧ Q j) x.1.end_ ve ∧ StmtsI w (fun j => (m1 ≤ j ∧ j < m2) ∧ Q j) x.1.body vb ∧
  w.ownsRow m2 61 2 vp x.1.params.length (parCells x.1.params).flatten ∧ (∀ j, vp.ownBlock = some j → j < x.2.2 ∧ Q j)
theorem stayK : StaysH PrK := by
  rintro w w' Q Q' x cs ⟨vp, vv, vb, ve, m1, m2, h1, h2, h3, h4, h5, h6, h7, h8, h9, h10, h11⟩ hQ hh
  have hc : ∀ p : Addr, ((m1 ≤ p.block ∧ p.block < m2) ∧ Q p.block) → w'.cell? p = w.cell? p := fun p hp => World.cell?_of_block (w := w) (hh _ hp.2)
  have hq : ∀ b, ((m1 ≤ b ∧ b < m2) ∧ Q b) → (m1 ≤ b ∧ b < m2) ∧ Q' b := fun b hb => ⟨hb.1, hQ b hb.2⟩
  exact ⟨vp, vv, vb, ve, m1, m2, h1, h2, h3, h4, h5, own_stay h6 (fun j hj => hh j (h7 j hj).2), fun j hj => ⟨(h7 j hj).1, hQ j (h7 j hj).2⟩, SliceI.keep h8 hq hc (fun _ _ _ h => h), SliceI.keep h9 hq hc (fun s cs _ h => h.keep hq hc), own_stay h10 (fun j hj => hh j (h11 j hj).2), fun j hj => ⟨(h11 j hj).1, hQ j (h11 j hj).2⟩⟩
theorem slice_own_block {α : Type} {w : World} {Q : Nat → Prop} {C : Nat} {R : α → List Value → Prop} {l : List α} {v : Value} (h : SliceI w Q C R l v) : SliceI w (fun b => v.ownBlock = some b) C R l v := by
  obtain ⟨A, cap, css, rfl, h2, h3, h4⟩ := h
  refine ⟨A, cap, css, rfl, h2, fun h0 => ?_, h4⟩
  obtain ⟨a, rfl, _, h7⟩ := h3 h0
  exact ⟨a, rfl, rfl, h7⟩
/-- it is a procedure -/
theorem PrK.proc {w : World} {Q : Nat → Prop} {x : Pr × Nat × Nat} {cs : List Value} (h : PrK w Q x cs) : ProcI w (fun j => (x.2.1 ≤ j ∧ j < x.2.2) ∧ Q j) x.1 cs := by
  obtain ⟨vp, vv, vb, ve, m1, m2, h1, h2, ⟨h3, h3', h3''⟩, h4, h5, h6, h7, h8, h9, h10, h11⟩ := h
  have hq : ∀ b, ((m1 ≤ b ∧ b < m2) ∧ Q b) → (x.2.1 ≤ b ∧ b < x.2.2) ∧ Q b := fun b hb => ⟨⟨by omega, by omega⟩, hb.2⟩
  exact ⟨vp, vv, vb, ve, h1, h2, SliceI.keep (slice_own_block (pars_of_own h5 h10)) (fun j hj => ⟨⟨by have := (h10.lt j hj).1; omega, (h11 j hj).1⟩, (h11 j hj).2⟩) (fun _ _ => rfl) (fun _ _ _ h => h),
    SliceI.keep (slice_own_block (texts_of_own h4 h6).2) (fun j hj => ⟨⟨(h6.lt j hj).1, by have := (h7 j hj).1; omega⟩, (h7 j hj).2⟩) (fun _ _ => rfl) (fun _ _ _ h => h),
    SliceI.keep h9 hq (fun _ _ => rfl) (fun s cs _ h => h.keep hq (fun _ _ => rfl)), SliceI.keep h8 hq (fun _ _ => rfl) (fun _ _ _ h => h)⟩
theorem texts_own_any {w W : World} {Q : Nat → Prop} {l : List ByteArray} {v : Value} (h : TextsI w Q l v) (hI : In Q w W) (hl : l.length ≤ 1000000) (hs : ∀ s ∈ l, s.size ≤ 9223372036854775807) :
    Calls Try.prog 157 #[v] W fun e w' => ∃ v', e = .returned v' ∧ Below W.heap.size W w' ∧ w'.ownsRow W.heap.size 9 1 v' l.length (strs l) := by
  obtain ⟨A, cap, rfl, hlc, hcap⟩ := h.shape
  obtain ⟨i0, hi0, hz0, hz1, hz2⟩ := info_parts string_info
  cases l with
  | nil =>
    clear h hI hs hl
    cases A with
    | none =>
      go_enter Try.func157, Try.ntmps157
      go_wp2_with fail
      go_ret
      exact ⟨.slice none 0 0, rfl, Below.refl _ _, World.ownsRow_nil _ _ _ _⟩
    | some a =>
      go_enter Try.func157, Try.ntmps157
      go_wp2_with fail
      go_ret
      exact ⟨.slice none 0 0, rfl, Below.refl _ _, World.ownsRow_nil _ _ _ _⟩
  | cons s l =>
    obtain ⟨a, rfl, _, _, _⟩ := text_at h hI (k := 0) (by simp)
    have HC := Lib.hid (texts_cells h hI)
    have HS := Lib.hid hs
    clear h hI hs
    generalize hL : s :: l = L at HC HS hl hlc ⊢
    have h0 : 0 < L.length := by rw [← hL]; simp
    clear hL
    go_enter Try.func157, Try.ntmps157
    go_wp2_with (at_builtin; refine wpList_append_own_at _ rfl (.tmp 4) (.tmp 5) 22 rfl W.heap.size 9 i0 _ 1 16 Try.underlying22 hi0 hz0 hz1 hz2 rfl (by decide) _ 0 [] rfl (World.ownsRow_nil _ _ _ _) a L.length cap (strs L) rfl (by simp [strs]) HC.out (by simp [strs, Value.oneCell']) (by unfold maxLen; omega) (by omega) (Nat.le_refl _) ?_)
    intro v' w3 hown3 hg3 _ hat3
    go_wp2_with fail
    go_ret
    have hb : Below W.heap.size W w3 := (Below.refl _ _).grown hg3 (Nat.le_refl _) (by simp [Value.ownBlock])
    exact ⟨v', rfl, hb, by simpa using hown3⟩
/-- a copy of some procedures, each apart: where the blocks of each begin and end -/
def Apart (lo hi : Nat) (l : List (Pr × Nat × Nat)) : Prop := l.Pairwise (fun a b => a.2.2 ≤ b.2.1) ∧ ∀ a ∈ l, lo ≤ a.2.1 ∧ a.2.2 ≤ hi
theorem Apart.snoc {lo hi hi' : Nat} {l : List (Pr × Nat × Nat)} (h : Apart lo hi l) {x : Pr × Nat × Nat} (h1 : hi ≤ x.2.1) (h2 : lo ≤ x.2.1) (h3 : x.2.2 ≤ hi') (h4 : hi ≤ hi') : Apart lo hi' (l ++ [x]) := by
  refine ⟨List.pairwise_append.2 ⟨h.1, List.pairwise_singleton _ _, fun a ha b hb => ?_⟩, fun a ha => ?_⟩
  · obtain rfl := List.mem_singleton.1 hb
    exact Nat.le_trans (h.2 a ha).2 h1
  · rcases List.mem_append.1 ha with ha | ha
    · exact ⟨(h.2 a ha).1, Nat.le_trans (h.2 a ha).2 h4⟩
    · obtain rfl := List.mem_singleton.1 ha
      exact ⟨h2, h3⟩
theorem Apart.mono {lo hi hi' : Nat} {l : List (Pr × Nat × Nat)} (h : Apart lo hi l) (h4 : hi ≤ hi') : Apart lo hi' l := ⟨h.1, fun a ha => ⟨(h.2 a ha).1, Nat.le_trans (h.2 a ha).2 h4⟩⟩
end Go.Proofs.Ytcocilpifdjibaa
