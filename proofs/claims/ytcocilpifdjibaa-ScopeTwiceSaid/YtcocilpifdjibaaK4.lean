/- Texts, merged by a program; only what is used. -/
import Derived.Deep.AppendLies
import Derived.Maps.AppendAt
import Derived.Maps.Range
import Derived.Test.YtcocilpifdjibaaK1
import Derived.Test.YtcocilpifdjibaaK2
import Derived.Test.YtcocilpifdjibaaK3
namespace Go.Proofs.Ytcocilpifdjibaa
open Go.ChangeShapes Go.WideShapes Go.ChangeAt Go.RowKit Go.Deep
set_option linter.unusedVariables false
theorem SliceI.shape {α : Type} {w : World} {Q : Nat → Prop} {C : Nat} {R : α → List Value → Prop} {l : List α} {v : Value} (h : SliceI w Q C R l v) : ∃ A cap, v = .slice A l.length cap ∧ l.length ≤ cap ∧ cap ≤ 9223372036854775807 := by
  obtain ⟨A, cap, css, h1, h2, h3, h4⟩ := h
  exact ⟨A, cap, h1, h2.1, h2.2⟩
theorem text_at {w W : World} {Q : Nat → Prop} {l : List ByteArray} {A : Option Addr} {n cap : Nat} (h : TextsI w Q l (.slice A n cap)) (hI : In Q w W) {k : Nat} (hk : k < l.length) :
    ∃ a, A = some a ∧ Q a.block ∧ W.cell? (a.add k) = some (.string l[k]) ∧ l[k].size ≤ 9223372036854775807 := by
  obtain ⟨A', cap', css, h1, h2, h3, h4⟩ := h
  injection h1 with hA hn hc
  subst hA
  obtain ⟨a, rfl, hq, hc⟩ := h3 (by omega)
  obtain ⟨h5, h6⟩ := h4 k hk
  refine ⟨a, rfl, hq, ?_, h6⟩
  have := hc k hk 0 (.string l[k]) (by rw [h5]; rfl)
  rw [Nat.mul_one, Nat.add_zero] at this
  exact (hI.cell (by rw [block_add]; exact hq)).trans this
def strs (l : List ByteArray) : List Value := l.map Value.string
theorem strs_append (a b : List ByteArray) : strs (a ++ b) = strs a ++ strs b := by simp [strs]
/-- a row of the call's own, of texts, reads as a list of texts -/
theorem texts_of_own {w : World} {base n : Nat} {l : List ByteArray} {v : Value} (hl : ∀ s ∈ l, s.size ≤ 9223372036854775807) (h : w.ownsRow base 9 1 v n (strs l)) : n = l.length ∧ TextsI w (fun b => base ≤ b ∧ b < w.heap.size) l v := by
  obtain ⟨h1, h2⟩ := h
  have hn : n = l.length := by simp [strs] at h1; omega
  refine ⟨hn, ?_⟩
  subst hn
  rcases h2 with ⟨rfl, h0⟩ | ⟨g, cap, cur, rfl, hb, hg, hnc, hcm, hsz, htk⟩
  · refine ⟨none, 0, fun _ => [], ?_, ⟨by omega, by omega⟩, fun h => absurd h (by omega), fun i h => absurd h (by omega)⟩
    rw [h0]
  · unfold maxLen at hcm
    refine ⟨some ⟨g, 0, none⟩, cap, fun i => [.string (l.getD i ⟨#[]⟩)], rfl, ⟨hnc, by omega⟩, fun h0 => ⟨_, rfl, ⟨hb, (Array.getElem?_eq_some_iff.1 hg).1⟩, fun i hi j u hu => ?_⟩, fun i hi => ⟨by simp [hi], hl _ (List.getElem_mem hi)⟩⟩
    have hj : j = 0 := by have := (List.getElem?_eq_some_iff.1 hu).1; simp at this; exact this
    subst hj
    simp only [List.getElem?_cons_zero, Option.some.injEq] at hu
    subst hu
    have hc : w.cell? ⟨g, i, none⟩ = cur[i]? := cell_of_row w g i cur _ (0, 0) hg
    have ha : (⟨g, 0, none⟩ : Addr).add (i * 1 + 0) = ⟨g, i, none⟩ := by
      unfold Addr.add
      by_cases h0 : i * 1 + 0 = 0
      · rw [if_pos (by simpa using h0)]; simp at h0; rw [h0]
      · rw [if_neg (by simpa using h0)]; simp
    rw [ha, hc]
    have h5 : (cur.toList.take (l.length * 1))[i]? = (strs l)[i]? := by rw [htk]
    rw [List.getElem?_take, if_pos (by omega)] at h5
    rw [Array.getElem?_toList] at h5
    rw [h5]
    simp [strs, hi]
theorem dec_bytes (a b : ByteArray) : (a.toList == b.toList) = decide (a = b) := by
  rw [Bool.eq_iff_iff]
  simp only [beq_iff_eq, decide_eq_true_eq]
  constructor
  · intro h
    rw [bl_toList, bl_toList] at h
    rw [← bs_bl a, ← bs_bl b, h]
  · intro h; rw [h]
end Go.Proofs.Ytcocilpifdjibaa
namespace Go.Proofs.Ytcocilpifdjibaa
open Go.ChangeShapes Go.WideShapes Go.ChangeAt Go.RowKit Go.Deep
set_option linter.unusedVariables false
/-- nothing has turned but the blocks of own, and new ones -/
structure Moves (own : Nat → Prop) (w w' : World) : Prop where
  os : w'.os = w.os
  tape : w'.tape = w.tape
  output : w'.output = w.output
  size : w.heap.size ≤ w'.heap.size
  block : ∀ k, k < w.heap.size → ¬ own k → w'.heap[k]? = w.heap[k]?
section
variable {own own' : Nat → Prop} {a b c w w' : World}
theorem Moves.refl (own : Nat → Prop) (w : World) : Moves own w w := ⟨rfl, rfl, rfl, Nat.le_refl _, fun _ _ _ => rfl⟩
theorem Moves.trans (h : Moves own a b) (k : Moves own' b c) (hr : ∀ j, own' j → a.heap.size ≤ j ∨ own j) : Moves own a c :=
  ⟨k.os.trans h.os, k.tape.trans h.tape, k.output.trans h.output, Nat.le_trans h.size k.size, fun i hi hn => (k.block i (Nat.lt_of_lt_of_le hi h.size) (fun e => by rcases hr i e with h1 | h1; omega; exact hn h1)).trans (h.block i hi hn)⟩
theorem Moves.mono (h : Moves own a b) (hr : ∀ j, own j → own' j) : Moves own' a b := ⟨h.os, h.tape, h.output, h.size, fun k hk hn => h.block k hk (fun e => hn (hr k e))⟩
theorem Moves.below {B : Nat} (h : Moves own a b) (hB : B ≤ a.heap.size) (hr : ∀ j, own j → B ≤ j) : Below B a b := ⟨h.os, h.tape, h.output, h.size, fun k hk => h.block k (by omega) (fun e => by have := hr k e; omega)⟩
theorem Below.moves {B : Nat} (h : Below B a b) : Moves (B ≤ ·) a b := ⟨h.os, h.tape, h.output, h.size, fun k _ hn => h.block k (by omega)⟩
theorem moves_grown {row : Option Nat} (h : a.grownBy b row) : Moves (fun k => row = some k) a b := ⟨h.os, h.tape, h.output, h.size, fun k hk hn => h.block k hk (fun e => hn e.symm)⟩
theorem Moves.alloc (h : Moves own a b) (o : Obj) : Moves own a (b.alloc o) := h.trans (own' := fun _ => False) ⟨rfl, rfl, rfl, by simp, fun k hk _ => Below.heap_alloc _ _ _ hk⟩ (fun _ h => h.elim)
theorem Moves.set_ (h : Moves own a b) {p : Addr} (hp : own p.block ∨ a.heap.size ≤ p.block) (u : Value) : Moves own a (b.setCell p u) :=
  h.trans (own' := fun k => k = p.block) ⟨rfl, rfl, rfl, by simp [World.setCell], fun k hk hn => Below.heap_setCell _ _ _ _ hn⟩ (fun j hj => by subst hj; exact hp.symm)
theorem setMoves (w : World) (p : Addr) (u : Value) : Moves (fun k => k = p.block) w (w.setCell p u) := ⟨rfl, rfl, rfl, by simp [World.setCell], fun k hk hn => Below.heap_setCell _ _ _ _ hn⟩
theorem Moves.drewN (h : Moves own a b) (k : Nat) : Moves own a (b.drewN k) := ⟨h.os, h.tape, h.output, h.size, h.block⟩
theorem Moves.cell (h : Moves own a b) {p : Addr} (hp : p.block < a.heap.size) (hn : ¬ own p.block) : b.cell? p = a.cell? p := World.cell?_of_block (w := a) (h.block _ hp hn)
theorem Moves.blk {g : Nat} {t : TypeId} {cs : Array Value} (h : Moves own a b) (hb : Blk a g t cs) (hn : ¬ own g) : Blk b g t cs := (h.block g hb.lt hn).trans hb
theorem Moves.row {base : Nat} {e : TypeId} {size : Nat} {v : Value} {n : Nat} {xs : List Value} (h : Moves own a b) (ho : a.ownsRow base e size v n xs) (hn : ∀ j, v.ownBlock = some j → ¬ own j) : b.ownsRow base e size v n xs := by
  refine ⟨ho.1, ?_⟩
  rcases ho.2 with h1 | ⟨g, cap, cur, h1, h2, h3, r⟩
  · exact .inl h1
  · refine .inr ⟨g, cap, cur, h1, h2, (h.block g (Array.getElem?_eq_some_iff.1 h3).1 (hn g (by rw [h1]; rfl))).trans h3, r⟩
theorem In.moves {Q : Nat → Prop} {w : World} (h : In Q w a) (hm : Moves own a b) (hr : ∀ j, own j → ¬ Q j) : In Q w b :=
  ⟨fun k hk => Nat.lt_of_lt_of_le (h.1 k hk) hm.size, fun p hp => (hm.cell (h.1 _ hp) (fun e => hr _ e hp)).trans (h.2 p hp)⟩
end
theorem Blk.ne_ {w : World} {g : Nat} {t : TypeId} {cs : Array Value} {g' : Nat} {t' : TypeId} {cs' : Array Value} (h : Blk w g t cs) (h' : Blk w g' t' cs') (hne : t ≠ t') : g ≠ g' := by
  rintro rfl
  unfold Blk at h h'
  rw [h] at h'
  injection h' with h'
  injection h' with _ ht
  exact hne ht
theorem own_blk_ne {w : World} {g : Nat} {t : TypeId} {cs : Array Value} {base : Nat} {e : TypeId} {size n : Nat} {v : Value} {xs : List Value} (h : w.ownsRow base e size v n xs) (hg : Blk w g t cs) (hne : e ≠ t) : v.ownBlock ≠ some g := by
  rcases h.2 with ⟨rfl, _⟩ | ⟨g', cap, cur, rfl, _, hh, _⟩
  · simp [Value.ownBlock]
  · intro he
    have : g' = g := by simpa [Value.ownBlock] using he
    subst this
    exact Blk.ne_ (t := e) hh hg hne rfl
theorem Blk.drewN {w : World} {g : Nat} {t : TypeId} {cs : Array Value} (h : Blk w g t cs) (k : Nat) : Blk (w.drewN k) g t cs := h
theorem own_form {w : World} {base n : Nat} {e : TypeId} {size : Nat} {v : Value} {xs : List Value} (h : w.ownsRow base e size v n xs) : ∃ A cap, v = .slice A n cap ∧ n ≤ cap ∧ cap ≤ 9223372036854775807 := by
  rcases h.2 with ⟨rfl, rfl⟩ | ⟨g, cap, cur, rfl, _, _, h1, h2, _⟩
  · exact ⟨none, 0, rfl, by omega, by omega⟩
  · unfold maxLen at h2; exact ⟨_, cap, rfl, h1, by omega⟩
/-- a list of nodes on the stack: where it lies, how many, its capacity -/
abbrev SL := Addr × Nat × Nat
def sl (x : SL) : Value := .slice (some x.1) x.2.1 x.2.2
def goodS (x : SL) : Prop := 0 < x.2.1 ∧ x.2.1 ≤ x.2.2 ∧ x.2.2 ≤ 9223372036854775807
def rowS (s : List SL) : List Value := (s.map sl).reverse
theorem rowS_cons (x : SL) (s : List SL) : rowS (x :: s) = rowS s ++ [sl x] := by simp [rowS]
theorem rowS_len (s : List SL) : (rowS s).length = s.length := by simp [rowS]
def pushS (s : List SL) (A : Option Addr) (n cap : Nat) : List SL := match A, n with
  | some a, n + 1 => (a, n + 1, cap) :: s
  | _, _ => s
theorem pushS_zero (s : List SL) (A : Option Addr) (cap : Nat) : pushS s A 0 cap = s := by unfold pushS; cases A <;> rfl
theorem pushS_pos (s : List SL) (a : Addr) {n : Nat} (cap : Nat) (h : 0 < n) : pushS s (some a) n cap = (a, n, cap) :: s := by
  cases n with
  | zero => omega
  | succ n => rfl
/-- the first k of a row of the call's own -/
theorem own_cut {w : World} {base n k cap g : Nat} {e : TypeId} {xs : List Value} (h : w.ownsRow base e 1 (.slice (some ⟨g, 0, none⟩) n cap) n xs) (hk : k ≤ n) : w.ownsRow base e 1 (.slice (some ⟨g, 0, none⟩) k cap) k (xs.take k) := by
  obtain ⟨h1, h2⟩ := h
  rcases h2 with ⟨h', _⟩ | ⟨g', cap', cur, h', hb, hg, hnc, hcm, hcs, htake⟩
  · simp at h'
  · simp only [Value.slice.injEq, Option.some.injEq, Addr.mk.injEq, and_true, true_and] at h'
    obtain ⟨rfl, rfl⟩ := h'
    refine ⟨by rw [List.length_take, h1]; omega, .inr ⟨g, cap, cur, rfl, hb, hg, by omega, hcm, hcs, ?_⟩⟩
    rw [← htake, List.take_take]
    congr 1
    omega
theorem below_drewN_moves {own : Nat → Prop} {a b : World} (h : Moves own a b) : Moves own a b.drew := ⟨h.os, h.tape, h.output, h.size, h.block⟩
theorem add_ne (a : Addr) {k : Nat} (h : k ≠ 0) : a.add k = ⟨a.block, a.off + k, none⟩ := by unfold Addr.add; rw [if_neg (by simpa using h)]
theorem add_zero_ (a : Addr) : a.add 0 = a := by unfold Addr.add; simp
end Go.Proofs.Ytcocilpifdjibaa
