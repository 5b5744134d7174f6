/- A tree that is being copied row by row: the rows that are not yet gone through ('holes'), and what will hold of the whole when they are. -/
import Derived.Test.YtdjckmpfblaliaaTreeG
namespace Go.Proofs.Ytdjckmpfblaliaa
open Go.ChangeShapes Go.WideShapes Go.ChangeAt Go.RowKit Go.Deep
set_option linter.unusedVariables false

/-- a piece of a row: block, place, the nodes, the capacity that the cursor keeps of it -/
structure Hole (α : Type) where
  b : Nat
  o : Nat
  ts : List α
  cap : Nat
def slH {α : Type} (h : Hole α) : SL := (⟨h.b, h.o, none⟩, h.ts.length, h.cap)
/-- the cells of the piece, in W, read by R -/
def atH {α : Type} (C : Nat) (R : α → List Value → Prop) (W : World) (h : Hole α) : Prop :=
  ∀ i (hi : i < h.ts.length), ∃ cs, R h.ts[i] cs ∧ ∀ j u, cs[j]? = some u → W.cell? ⟨h.b, h.o + i * C + j, none⟩ = some u
def cov {α : Type} (C : Nat) (hs : List (Hole α)) (b off : Nat) : Prop := ∃ h ∈ hs, h.b = b ∧ h.o ≤ off ∧ off < h.o + h.ts.length * C
abbrev nb (base : Nat) (W : World) : Nat → Prop := fun b => base ≤ b ∧ b < W.heap.size
/-- whatever fills the holes and leaves the rest of the blocks T as it is: then G -/
def Compl {α : Type} (C : Nat) (R : World → (Nat → Prop) → α → List Value → Prop) (base : Nat) (T : Nat → Prop) (W : World) (hs : List (Hole α)) (G : World → Prop) : Prop :=
  ∀ W', W.heap.size ≤ W'.heap.size → (∀ p : Addr, T p.block → ¬ cov C hs p.block p.off → W'.cell? p = W.cell? p) → (∀ h ∈ hs, atH C (R W' (nb base W')) W' h) → G W'
def disH {α : Type} (C : Nat) (h k : Hole α) : Prop := h.b ≠ k.b ∨ h.o + h.ts.length * C ≤ k.o ∨ k.o + k.ts.length * C ≤ h.o
/-- the copy as far as it is -/
structure Copy {α : Type} (C : Nat) (R : World → (Nat → Prop) → α → List Value → Prop) (w : World) (Q : Nat → Prop) (base : Nat) (G : World → Prop) (W : World) (hs : List (Hole α)) (T : Nat → Prop) : Prop where
  tb : ∀ b, T b → base ≤ b ∧ b < W.heap.size
  raw : ∀ h ∈ hs, T h.b ∧ (∃ t cs, Blk W h.b t cs) ∧ atH C (R w Q) W h
  dis : hs.Pairwise (disH C)
  compl : Compl C R base T W hs G
section
variable {α : Type} {C : Nat} {R : World → (Nat → Prop) → α → List Value → Prop} {w W W' : World} {Q : Nat → Prop} {base : Nat} {G : World → Prop} {hs : List (Hole α)} {T : Nat → Prop}
theorem atH_same {R : α → List Value → Prop} {h : Hole α} (hk : ∀ off, h.o ≤ off → off < h.o + h.ts.length * C → W'.cell? ⟨h.b, off, none⟩ = W.cell? ⟨h.b, off, none⟩) (hC : ∀ x cs, R x cs → CellsOk C cs) (ha : atH C R W h) : atH C R W' h := by
  intro i hi
  obtain ⟨cs, h1, h2⟩ := ha i hi
  refine ⟨cs, h1, fun j u hu => ?_⟩
  have hj : j < C := by rw [← (hC _ _ h1).1]; exact (List.getElem?_eq_some_iff.1 hu).1
  have : i * C + j < h.ts.length * C := by
    have := Nat.mul_le_mul_right C (show i + 1 ≤ h.ts.length by omega)
    rw [Nat.succ_mul] at this
    omega
  rw [hk _ (by omega) (by omega)]
  exact h2 j u hu
/-- a world in which the copy's blocks are as they were -/
theorem Copy.on (h : Copy C R w Q base G W hs T) (hb : ∀ b, T b → W'.heap[b]? = W.heap[b]?) (hz : W.heap.size ≤ W'.heap.size) : Copy C R w Q base G W' hs T := by
  have hc : ∀ p : Addr, T p.block → W'.cell? p = W.cell? p := fun p ht => World.cell?_of_block (w := W) (a := p) (hb _ ht)
  refine ⟨fun b ht => ⟨(h.tb b ht).1, Nat.lt_of_lt_of_le (h.tb b ht).2 hz⟩, fun k hk => ?_, h.dis, fun V hs' hv hd => h.compl V (Nat.le_trans hz hs') (fun p ht hn => (hv p ht hn).trans (hc p ht)) hd⟩
  obtain ⟨h1, ⟨t, cs, h2⟩, h3⟩ := h.raw k hk
  refine ⟨h1, ⟨t, cs, (hb _ h1).trans h2⟩, fun i hi => ?_⟩
  obtain ⟨cs, h4, h5⟩ := h3 i hi
  exact ⟨cs, h4, fun j u hu => (hc ⟨k.b, k.o + i * C + j, none⟩ h1).trans (h5 j u hu)⟩
theorem Copy.moves {own : Nat → Prop} (h : Copy C R w Q base G W hs T) (hm : Moves own W W') (hd : ∀ b, T b → ¬ own b) : Copy C R w Q base G W' hs T :=
  h.on (fun b ht => hm.block b (h.tb b ht).2 (hd b ht)) hm.size
theorem Copy.end_ (h : Copy C R w Q base G W [] T) : G W := h.compl W (Nat.le_refl _) (fun _ _ _ => rfl) (fun _ h => absurd h (by simp))
/-- the first node of the first piece for itself -/
theorem Copy.pop {b o cap : Nat} {t : α} {ts : List α} (h : Copy C R w Q base G W (⟨b, o, t :: ts, cap⟩ :: hs) T) : Copy C R w Q base G W (⟨b, o, [t], 1⟩ :: (if ts.length = 0 then hs else ⟨b, o + C, ts, cap - 1⟩ :: hs)) T := by
  have hraw := h.raw _ (List.mem_cons_self ..)
  have e0 : ∀ i, o + (i + 1) * C = o + C + i * C := fun i => by rw [Nat.succ_mul]; omega
  have r1 : atH C (R w Q) W ⟨b, o, [t], 1⟩ := fun i hi => by
    have hi0 : i = 0 := by simp at hi; exact hi
    subst hi0
    exact hraw.2.2 0 (by simp)
  have r2 : atH C (R w Q) W ⟨b, o + C, ts, cap - 1⟩ := fun i hi => by
    obtain ⟨cs, h1, h2⟩ := hraw.2.2 (i + 1) (by simpa using hi)
    exact ⟨cs, by simpa using h1, fun j u hu => by have := h2 j u hu; simp only [e0] at this; exact this⟩
  have hp := List.pairwise_cons.1 h.dis
  have c2 : ∀ V, (∀ k ∈ (⟨b, o, [t], 1⟩ :: ⟨b, o + C, ts, cap - 1⟩ :: hs : List (Hole α)), atH C (R V (nb base V)) V k) → ∀ k ∈ (⟨b, o, t :: ts, cap⟩ :: hs : List (Hole α)), atH C (R V (nb base V)) V k := fun V hv k hk => by
    rcases List.mem_cons.1 hk with rfl | hk
    · intro i hi
      cases i with
      | zero => exact hv _ (List.mem_cons_self ..) 0 (by simp)
      | succ i =>
        obtain ⟨cs, h1, h2⟩ := hv ⟨b, o + C, ts, cap - 1⟩ (by simp) i (by simpa using hi)
        exact ⟨cs, by simpa using h1, fun j u hu => by have := h2 j u hu; simp only [e0]; exact this⟩
    · exact hv k (by simp [hk])
  have hl : (t :: ts).length * C = C + ts.length * C := by rw [List.length_cons, Nat.succ_mul]; omega
  split
  · rename_i h0
    have : ts = [] := List.length_eq_zero_iff.1 h0
    subst this
    refine ⟨h.tb, fun k hk => ?_, List.pairwise_cons.2 ⟨fun k hk => hp.1 k hk, hp.2⟩, fun V hs' hv hd => h.compl V hs' (fun p ht hn => hv p ht (fun hc => hn ?_)) (fun k hk => ?_)⟩
    · rcases List.mem_cons.1 hk with rfl | hk
      · exact ⟨hraw.1, hraw.2.1, r1⟩
      · exact h.raw k (by simp [hk])
    · obtain ⟨k, hk, h1, h2, h3⟩ := hc
      rcases List.mem_cons.1 hk with rfl | hk
      · exact ⟨_, List.mem_cons_self .., h1, h2, h3⟩
      · exact ⟨k, by simp [hk], h1, h2, h3⟩
    · rcases List.mem_cons.1 hk with rfl | hk
      · intro i hi; exact hd ⟨b, o, [t], 1⟩ (by simp) i hi
      · exact hd k (by simp [hk])
  · rename_i h0
    refine ⟨h.tb, fun k hk => ?_, List.pairwise_cons.2 ⟨fun k hk => ?_, List.pairwise_cons.2 ⟨fun k hk => ?_, hp.2⟩⟩, fun V hs' hv hd => h.compl V hs' (fun p ht hn => hv p ht (fun hc => hn ?_)) (c2 V hd)⟩
    · rcases List.mem_cons.1 hk with rfl | hk
      · exact ⟨hraw.1, hraw.2.1, r1⟩
      rcases List.mem_cons.1 hk with rfl | hk
      · exact ⟨hraw.1, hraw.2.1, r2⟩
      · exact h.raw k (by simp [hk])
    · rcases List.mem_cons.1 hk with rfl | hk
      · exact .inr (.inl (by simp))
      · rcases hp.1 k hk with h1 | h1 | h1
        · exact .inl h1
        · exact .inr (.inl (by simp only [hl] at h1; simp; omega))
        · exact .inr (.inr h1)
    · rcases hp.1 k hk with h1 | h1 | h1
      · exact .inl h1
      · exact .inr (.inl (by simp only [hl] at h1; simp; omega))
      · exact .inr (.inr (by simp at h1 ⊢; omega))
    · obtain ⟨k, hk, h1, h2, h3⟩ := hc
      rcases List.mem_cons.1 hk with rfl | hk
      · exact ⟨_, List.mem_cons_self .., h1, h2, by simp only [hl]; simp at h3; omega⟩
      rcases List.mem_cons.1 hk with rfl | hk
      · exact ⟨_, List.mem_cons_self .., h1, by simp at h2 ⊢; omega, by simp only [hl]; simp at h3; omega⟩
      · exact ⟨k, by simp [hk], h1, h2, h3⟩
/-- the node is filled: its own cells have turned, new blocks are there, with new pieces in them -/
theorem Copy.fill {b o cap : Nat} {t : α} {new : List (Hole α)} (hCk : ∀ w Q x cs, R w Q x cs → CellsOk C cs) (h : Copy C R w Q base G W (⟨b, o, [t], cap⟩ :: hs) T) (hbase : base ≤ W.heap.size) (hz : W.heap.size ≤ W'.heap.size)
    (hsame : ∀ p : Addr, T p.block → ¬ (p.block = b ∧ o ≤ p.off ∧ p.off < o + C) → W'.cell? p = W.cell? p)
    (hblk : ∀ b', T b' → (∃ t cs, Blk W b' t cs) → ∃ t cs, Blk W' b' t cs)
    (hnew : ∀ k ∈ new, (W.heap.size ≤ k.b ∧ k.b < W'.heap.size) ∧ (∃ t cs, Blk W' k.b t cs) ∧ atH C (R w Q) W' k) (hdn : new.Pairwise (disH C))
    (hfill : ∀ V, W'.heap.size ≤ V.heap.size → (∀ p : Addr, (T p.block ∨ nw W W' p.block) → ¬ cov C (new ++ hs) p.block p.off → V.cell? p = W'.cell? p) → (∀ k ∈ new, atH C (R V (nb base V)) V k) → (∀ off, o ≤ off → off < o + C → ¬ cov C (new ++ hs) b off) →
      ∃ cs, R V (nb base V) t cs ∧ ∀ j u, cs[j]? = some u → V.cell? ⟨b, o + j, none⟩ = some u) :
    Copy C R w Q base G W' (new ++ hs) (fun b => T b ∨ nw W W' b) := by
  have hp := List.pairwise_cons.1 h.dis
  have hTb := (h.raw _ (List.mem_cons_self ..)).1
  have hTn : ∀ b', T b' → ∀ k ∈ new, k.b ≠ b' := fun b' ht k hk e => by have := (hnew k hk).1.1; have := (h.tb b' ht).2; omega
  have hapart : ∀ off, o ≤ off → off < o + C → ¬ cov C (new ++ hs) b off := fun off h1 h2 hc => by
    obtain ⟨k, hk, e1, e2, e3⟩ := hc
    rcases List.mem_append.1 hk with hk | hk
    · exact hTn b hTb k hk e1
    · rcases hp.1 k hk with h3 | h3 | h3
      · exact h3 e1.symm
      · simp at h3; omega
      · simp at h3; omega
  refine ⟨fun b' hb' => ?_, fun k hk => ?_, List.pairwise_append.2 ⟨hdn, hp.2, fun k hk k' hk' => .inl (fun e => hTn _ (h.raw k' (by simp [hk'])).1 k hk e)⟩, fun V hs' hv hd => h.compl V (Nat.le_trans hz hs') (fun p ht hn => ?_) (fun k hk => ?_)⟩
  · rcases hb' with h1 | h1
    · exact ⟨(h.tb _ h1).1, Nat.lt_of_lt_of_le (h.tb _ h1).2 hz⟩
    · exact ⟨Nat.le_trans hbase h1.1, h1.2⟩
  · rcases List.mem_append.1 hk with hk | hk
    · obtain ⟨h1, h2, h3⟩ := hnew k hk
      exact ⟨.inr h1, h2, h3⟩
    · obtain ⟨h1, h2, h3⟩ := h.raw k (by simp [hk])
      refine ⟨.inl h1, hblk _ h1 h2, atH_same (fun off e1 e2 => hsame ⟨k.b, off, none⟩ h1 (fun e => ?_)) (hCk w Q) h3⟩
      refine hapart off e.2.1 e.2.2 ⟨k, List.mem_append.2 (.inr hk), e.1, e1, e2⟩
  · rw [hv p (.inl ht) (fun hc => hn ?_)]
    · refine hsame p ht (fun e => hn ⟨_, List.mem_cons_self .., e.1.symm, e.2.1, by simp; omega⟩)
    · obtain ⟨k, hk, e1, e2, e3⟩ := hc
      rcases List.mem_append.1 hk with hk | hk
      · exact absurd e1 (hTn _ ht k hk)
      · exact ⟨k, by simp [hk], e1, e2, e3⟩
  · rcases List.mem_cons.1 hk with rfl | hk
    · intro i hi
      have hi0 : i = 0 := by simp at hi; exact hi
      subst hi0
      obtain ⟨cs, h1, h2⟩ := hfill V hs' hv (fun k hk => hd k (List.mem_append.2 (.inl hk))) hapart
      exact ⟨cs, by simpa using h1, fun j u hu => by rw [Nat.zero_mul, Nat.add_zero]; exact h2 j u hu⟩
    · exact hd k (List.mem_append.2 (.inr hk))
theorem slice_of_at {R : α → List Value → Prop} {V : World} {b cap : Nat} {l : List α} (h1 : atH C R V ⟨b, 0, l, cap⟩) (hCk : ∀ x cs, R x cs → CellsOk C cs) (hC0 : 0 < C) (hb : base ≤ b) (hl : l.length ≤ 1000000) : SliceI V (nb base V) C R l (.slice (some ⟨b, 0, none⟩) l.length l.length) := by
  have h2 : ∀ i, ∃ cs, ∀ (hi : i < l.length), R l[i] cs ∧ ∀ j u, cs[j]? = some u → V.cell? ⟨b, 0 + i * C + j, none⟩ = some u := fun i => by
    by_cases hi : i < l.length
    · obtain ⟨cs, h3⟩ := h1 i hi; exact ⟨cs, fun _ => h3⟩
    · exact ⟨[], fun h => absurd h hi⟩
  obtain ⟨ds, hds⟩ := Classical.axiomOfChoice h2
  refine ⟨_, l.length, ds, rfl, ⟨Nat.le_refl _, by omega⟩, fun hpos => ⟨_, rfl, ⟨hb, ?_⟩, fun i hi j u hu => ?_⟩, fun i hi => (hds i hi).1⟩
  · have h3 := hds 0 hpos
    have h4 : 0 < (ds 0).length := by rw [(hCk _ _ h3.1).1]; exact hC0
    have h5 := block_lt_of_cell (h3.2 0 _ (List.getElem?_eq_getElem h4))
    exact h5
  · rw [addr0]; have := (hds i hi).2 j u hu; rw [Nat.zero_add] at this; exact this
/-- the beginning: one row -/
theorem Copy.start {b : Nat} {l : List α} {t : TypeId} {css : Nat → List Value} (hb : base ≤ b) (hB : Blk W b t (flatN css l.length).toArray) (hr : ∀ i (h : i < l.length), R w Q l[i] (css i)) (hCk : ∀ w Q x cs, R w Q x cs → CellsOk C cs) (hC0 : 0 < C) (hl : l.length ≤ 1000000) :
    Copy C R w Q base (fun V => SliceI V (nb base V) C (R V (nb base V)) l (.slice (some ⟨b, 0, none⟩) l.length l.length)) W (if l.length = 0 then [] else [⟨b, 0, l, l.length⟩]) (fun k => k = b) := by
  have hC := hCk w Q
  have hat : atH C (R w Q) W ⟨b, 0, l, l.length⟩ := fun i hi => ⟨css i, hr i hi, fun j u hu => by
    have hj : j < C := by rw [← (hC _ _ (hr i hi)).1]; exact (List.getElem?_eq_some_iff.1 hu).1
    rw [hB.cell]
    simp only [List.getElem?_toArray, Nat.zero_add]
    rw [flatN_get (fun i hi => (hC _ _ (hr i hi)).1) hi hj]
    exact hu⟩
  split
  · rename_i h0
    have : l = [] := List.length_eq_zero_iff.1 h0
    subst this
    exact ⟨fun k hk => by subst hk; exact ⟨hb, hB.lt⟩, fun _ h => absurd h (by simp), .nil, fun V _ hv hd => ⟨_, 0, fun _ => [], rfl, ⟨Nat.le_refl _, by omega⟩, fun h => absurd h (by simp), fun i h => absurd h (by simp)⟩⟩
  · rename_i h0
    refine ⟨fun k hk => by subst hk; exact ⟨hb, hB.lt⟩, fun k hk => ?_, List.pairwise_singleton _ _, fun V _ hv hd => ?_⟩
    · have : k = ⟨b, 0, l, l.length⟩ := by simpa using hk
      subst this
      exact ⟨rfl, ⟨_, _, hB⟩, hat⟩
    · exact slice_of_at (hd _ (List.mem_singleton.2 rfl)) (hCk _ _) hC0 hb hl
end
end Go.Proofs.Ytdjckmpfblaliaa
