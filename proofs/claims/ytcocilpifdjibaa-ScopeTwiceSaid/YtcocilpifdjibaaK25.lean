/- Texts, merged by a program; only what is used. -/
import Derived.Test.YtcocilpifdjibaaK1
import Derived.Test.YtcocilpifdjibaaK2
import Derived.Test.YtcocilpifdjibaaK3
import Derived.Test.YtcocilpifdjibaaK4
import Derived.Test.YtcocilpifdjibaaK5
import Derived.Test.YtcocilpifdjibaaK6
import Derived.Test.YtcocilpifdjibaaK7
import Derived.Test.YtcocilpifdjibaaK8
import Derived.Test.YtcocilpifdjibaaK9
import Derived.Test.YtcocilpifdjibaaK10
namespace Go.Proofs.Ytcocilpifdjibaa.U
open Go.ChangeShapes Go.WideShapes Go.ChangeAt Go.RowKit Go.Deep
set_option linter.unusedVariables false
/-- a row of cells that is not shut -/
def Unf (w : World) (b : Nat) : Prop := ∃ t cs, Blk w b t cs
theorem Unf.lt {w : World} {b : Nat} (h : Unf w b) : b < w.heap.size := by obtain ⟨_, _, h⟩ := h; exact h.lt
theorem Unf.of_eq {w w' : World} {b : Nat} (h : Unf w b) (e : w'.heap[b]? = w.heap[b]?) : Unf w' b := by obtain ⟨t, cs, h⟩ := h; exact ⟨t, cs, e.trans h⟩
theorem Unf.below {w w' : World} {b B : Nat} (h : Unf w b) (hb : Below B w w') (hl : b < B) : Unf w' b := h.of_eq (hb.block b hl)
theorem Unf.on {w w' : World} {b : Nat} (h : Unf w b) (hb : Below w.heap.size w w') : Unf w' b := h.below hb h.lt
theorem Unf.set_ {w : World} {b : Nat} (h : Unf w b) (p : Addr) (u : Value) : Unf (w.setCell p u) b := by
  obtain ⟨t, cs, h⟩ := h
  by_cases e : b = p.block
  · refine ⟨t, if p.spot.isSome then cs else cs.setIfInBounds p.off u, ?_⟩
    unfold Blk at h ⊢
    subst e
    simp only [World.setCell, Array.getElem?_modify, if_true, h]
    rfl
  · exact ⟨t, cs, h.far e u⟩
abbrev rg (W w' : World) : Nat → Prop := fun b => W.heap.size ≤ b ∧ b < w'.heap.size
/-- the blocks made since, and not shut -/
abbrev nw (W w' : World) : Nat → Prop := fun b => W.heap.size ≤ b ∧ Unf w' b
abbrev nb (base : Nat) (W : World) : Nat → Prop := fun b => base ≤ b ∧ Unf W b
set_option maxHeartbeats 1000000 in
theorem cloneNames_any {w W : World} {Q : Nat → Prop} {l : List ByteArray} {v : Value} (h : TextsI w Q l v) (hI : In Q w W) (hs : smT l) :
    Calls Try.prog 121 #[v] W fun e w' => ∃ v', e = .returned v' ∧ Below W.heap.size W w' ∧ TextsI w' (nw W w') l v' := by
  obtain ⟨A, cap, rfl, _, _⟩ := h.shape
  have HF := Lib.hid (freshT_any h hI textOk hs.1)
  have HS := Lib.hid hs
  clear h hI hs
  go_enter Try.func121, Try.ntmps121
  go_wp2_with fail
  refine HF.out.mono ?_
  rintro e w1 (⟨rfl, rfl, rfl⟩ | ⟨css, rfl, hw1, hr⟩)
  · clear HF
    go_wp2_with fail
    go_loopw [10] (fun i wr => i = .int .i64 0 ∧ Hid (wr = w1)) (fun i _ => 0)
    case atStart => exact ⟨rfl, Lib.hid rfl⟩
    case round =>
      obtain ⟨rfl, HR⟩ := hrel
      go_wp2_with fail
      go_ret
      exact ⟨_, rfl, by rw [HR.out]; exact Below.refl _ _, nil_slice⟩
  · have HB : Hid (Blk w1 W.heap.size 9 (flatN css l.length).toArray) := Lib.hid (by rw [hw1]; exact Blk.new _ _ _)
    have HW : Hid (Below W.heap.size W w1) := Lib.hid (by rw [hw1]; exact below_box _)
    have HR := Lib.hid hr
    obtain ⟨a, ha⟩ : ∃ a : Addr, a = ⟨W.heap.size, 0, none⟩ := ⟨_, rfl⟩
    have HA := Lib.hid ha
    rw [← ha]
    have hlen := HS.out.1
    clear HF hw1 hr ha
    go_wp2_with fail
    go_loopw [10] (fun i wr => ∃ k : Nat, k ≤ l.length ∧ i = .int .i64 k ∧ Hid (Below W.heap.size W wr) ∧ Hid (Blk wr W.heap.size 9 (flatN css l.length).toArray)) (fun i _ => l.length - (intOf i).toNat)
    case atStart => exact ⟨0, Nat.zero_le _, rfl, HW, HB⟩
    case round =>
      obtain ⟨k, hk, rfl, HWr, HBr⟩ := hrel
      by_cases hlt : k < l.length
      · have hy : (flatN css l.length)[k]? = some (.string l[k]) := by
          have h1 := flatN_get (C := 1) (j := 0) (fun i hi => (textOk _ _ (HR.out i hi)).1) hlt (by omega)
          rw [Nat.mul_one, Nat.add_zero] at h1
          rw [h1, (HR.out k hlt).1]; rfl
        have HY := Lib.hid hy
        have hc : a.add k = ⟨W.heap.size, k, none⟩ := by rw [HA.out, addr0]
        have p : wr.cell? (a.add k) = some (.string l[k]) := by rw [hc, HBr.out.cell]; simpa using hy
        have hsz : l[k].size ≤ 281474976710656 := Nat.le_trans (HS.out.2 _ (List.getElem_mem hlt)) (by omega)
        have HCl := Lib.hid (fun V => Clone_any l[k] V hsz)
        have HC := Lib.hid hc
        clear hy hsz hc
        obtain ⟨s, hs⟩ : ∃ s, s = l[k] := ⟨_, rfl⟩
        rw [← hs] at HY p HCl
        clear hs
        go_wp2_with (go_at_call 108; refine (HCl.out _).mono ?_; rintro e w2 ⟨rfl, hb2⟩; have HB2 := Lib.hid (HBr.out.below hb2 HBr.out.lt); have HW2 := Lib.hid (HWr.out.trans (hb2.mono HWr.out.size)); have p2 : w2.cell? (a.add k) = some (.string s) := (by rw [HC.out, HB2.out.cell]; simpa using HY.out); have f2 : w2.frozen? (a.add k) = false := (by rw [HC.out]; exact HB2.out.frozen k); clear hb2)
        go_roundw
        case rel =>
          refine ⟨k + 1, by omega, by go_num, Lib.hid (below_setc HW2.out (by rw [HC.out]; exact Nat.le_refl _) _), Lib.hid ?_⟩
          have := HB2.out.set_ k (.string s)
          rw [set_same (by simpa using HY.out)] at this
          rw [HC.out]
          exact this
        case measure => simp [intOf]; omega
      · go_wp2_with fail
        go_ret
        refine ⟨_, rfl, HWr.out, ?_⟩
        rw [HA.out]
        exact row_slice HBr.out HR.out textOk ⟨Nat.le_refl _, ⟨_, _, HBr.out⟩⟩ hlen
set_option maxHeartbeats 1000000 in
theorem cloneParams_any {w W : World} {Q : Nat → Prop} {l : List Pa} {v : Value} (h : SliceI w Q 2 ParI l v) (hI : In Q w W) (hs : smP l) :
    Calls Try.prog 120 #[v] W fun e w' => ∃ v', e = .returned v' ∧ Below W.heap.size W w' ∧ SliceI w' (nw W w') 2 ParI l v' := by
  obtain ⟨A, cap, rfl, _, _⟩ := h.shape
  have HF := Lib.hid (freshP_any h hI parOk hs.1)
  have HS := Lib.hid hs
  clear h hI hs
  go_enter Try.func120, Try.ntmps120
  go_wp2_with fail
  refine HF.out.mono ?_
  rintro e w1 (⟨rfl, rfl, rfl⟩ | ⟨css, rfl, hw1, hr⟩)
  · clear HF
    go_wp2_with fail
    go_loopw [9] (fun i wr => i = .int .i64 0 ∧ Hid (wr = w1)) (fun i _ => 0)
    case atStart => exact ⟨rfl, Lib.hid rfl⟩
    case round =>
      obtain ⟨rfl, HR⟩ := hrel
      go_wp2_with fail
      go_ret
      exact ⟨_, rfl, by rw [HR.out]; exact Below.refl _ _, nil_slice⟩
  · have HB : Hid (Blk w1 W.heap.size 61 (flatN css l.length).toArray) := Lib.hid (by rw [hw1]; exact Blk.new _ _ _)
    have HW : Hid (Below W.heap.size W w1) := Lib.hid (by rw [hw1]; exact below_box _)
    have HR := Lib.hid hr
    obtain ⟨a, ha⟩ : ∃ a : Addr, a = ⟨W.heap.size, 0, none⟩ := ⟨_, rfl⟩
    have HA := Lib.hid ha
    rw [← ha]
    have hlen := HS.out.1
    clear HF hw1 hr ha
    go_wp2_with fail
    go_loopw [9] (fun i wr => ∃ k : Nat, k ≤ l.length ∧ i = .int .i64 k ∧ Hid (Below W.heap.size W wr) ∧ Hid (Blk wr W.heap.size 61 (flatN css l.length).toArray)) (fun i _ => l.length - (intOf i).toNat)
    case atStart => exact ⟨0, Nat.zero_le _, rfl, HW, HB⟩
    case round =>
      obtain ⟨k, hk, rfl, HWr, HBr⟩ := hrel
      by_cases hlt : k < l.length
      · have hy : (flatN css l.length)[k * 2]? = some (.string l[k].nm) := by
          have h1 := flatN_get (C := 2) (j := 0) (fun i hi => (parOk _ _ (HR.out i hi)).1) hlt (by omega)
          rw [Nat.add_zero] at h1
          rw [h1, (HR.out k hlt).1]; rfl
        have HY := Lib.hid hy
        have hc : a.add (k * 2) = ⟨W.heap.size, k * 2, none⟩ := by rw [HA.out, addr0]
        have p : wr.cell? (a.add (k * 2)) = some (.string l[k].nm) := by rw [hc, HBr.out.cell]; simpa using hy
        have hsz : l[k].nm.size ≤ 281474976710656 := Nat.le_trans (HS.out.2 _ (List.getElem_mem hlt)) (by omega)
        have HCl := Lib.hid (fun V => Clone_any l[k].nm V hsz)
        have HC := Lib.hid hc
        clear hy hsz hc
        obtain ⟨s, hs⟩ : ∃ s, s = l[k].nm := ⟨_, rfl⟩
        rw [← hs] at HY p HCl
        clear hs
        go_wp2_with (go_at_call 108; refine (HCl.out _).mono ?_; rintro e w2 ⟨rfl, hb2⟩; have HB2 := Lib.hid (HBr.out.below hb2 HBr.out.lt); have HW2 := Lib.hid (HWr.out.trans (hb2.mono HWr.out.size)); have p2 : w2.cell? (a.add (k * 2)) = some (.string s) := (by rw [HC.out, HB2.out.cell]; simpa using HY.out); have f2 : w2.frozen? (a.add (k * 2)) = false := (by rw [HC.out]; exact HB2.out.frozen _); clear hb2)
        go_roundw
        case rel =>
          refine ⟨k + 1, by omega, by go_num, Lib.hid (below_setc HW2.out (by rw [HC.out]; exact Nat.le_refl _) _), Lib.hid ?_⟩
          have := HB2.out.set_ (k * 2) (.string s)
          rw [set_same (by simpa using HY.out)] at this
          rw [HC.out]
          exact this
        case measure => simp [intOf]; omega
      · go_wp2_with fail
        go_ret
        refine ⟨_, rfl, HWr.out, ?_⟩
        rw [HA.out]
        exact row_slice HBr.out HR.out parOk ⟨Nat.le_refl _, ⟨_, _, HBr.out⟩⟩ hlen
/-- whatever fills the holes and leaves the rest of the blocks T as it is: then G -/
def Compl {α : Type} (C : Nat) (R : World → (Nat → Prop) → α → List Value → Prop) (base : Nat) (T : Nat → Prop) (W : World) (hs : List (Hole α)) (G : World → Prop) : Prop :=
  ∀ W', W.heap.size ≤ W'.heap.size → (∀ p : Addr, T p.block → ¬ cov C hs p.block p.off → W'.cell? p = W.cell? p) → (∀ b, T b → Unf W b → Unf W' b) → (∀ h ∈ hs, atH C (R W' (nb base W')) W' h) → G W'
/-- the copy as far as it is -/
structure Copy {α : Type} (C : Nat) (R : World → (Nat → Prop) → α → List Value → Prop) (w : World) (Q : Nat → Prop) (base : Nat) (G : World → Prop) (W : World) (hs : List (Hole α)) (T : Nat → Prop) : Prop where
  tb : ∀ b, T b → base ≤ b ∧ b < W.heap.size
  raw : ∀ h ∈ hs, T h.b ∧ (∃ t cs, Blk W h.b t cs) ∧ atH C (R w Q) W h
  dis : hs.Pairwise (disH C)
  compl : Compl C R base T W hs G
section
variable {α : Type} {C : Nat} {R : World → (Nat → Prop) → α → List Value → Prop} {w W W' : World} {Q : Nat → Prop} {base : Nat} {G : World → Prop} {hs : List (Hole α)} {T : Nat → Prop}
/-- a world in which the copy's blocks are as they were -/
theorem Copy.on (h : Copy C R w Q base G W hs T) (hb : ∀ b, T b → W'.heap[b]? = W.heap[b]?) (hz : W.heap.size ≤ W'.heap.size) : Copy C R w Q base G W' hs T := by
  have hc : ∀ p : Addr, T p.block → W'.cell? p = W.cell? p := fun p ht => World.cell?_of_block (w := W) (a := p) (hb _ ht)
  refine ⟨fun b ht => ⟨(h.tb b ht).1, Nat.lt_of_lt_of_le (h.tb b ht).2 hz⟩, fun k hk => ?_, h.dis, fun V hs' hv hu hd => h.compl V (Nat.le_trans hz hs') (fun p ht hn => (hv p ht hn).trans (hc p ht)) (fun b ht hub => hu b ht (hub.of_eq (hb b ht))) hd⟩
  obtain ⟨h1, ⟨t, cs, h2⟩, h3⟩ := h.raw k hk
  refine ⟨h1, ⟨t, cs, (hb _ h1).trans h2⟩, fun i hi => ?_⟩
  obtain ⟨cs, h4, h5⟩ := h3 i hi
  exact ⟨cs, h4, fun j u hu => (hc ⟨k.b, k.o + i * C + j, none⟩ h1).trans (h5 j u hu)⟩
theorem Copy.moves {own : Nat → Prop} (h : Copy C R w Q base G W hs T) (hm : Moves own W W') (hd : ∀ b, T b → ¬ own b) : Copy C R w Q base G W' hs T :=
  h.on (fun b ht => hm.block b (h.tb b ht).2 (hd b ht)) hm.size
theorem Copy.end_ (h : Copy C R w Q base G W [] T) : G W := h.compl W (Nat.le_refl _) (fun _ _ _ => rfl) (fun _ _ h => h) (fun _ h => absurd h (by simp))
/-- the first node of the first piece for itself -/
theorem Copy.pop {b o cap : Nat} {t : α} {ts : List α} (h : Copy C R w Q base G W (⟨b, o, t :: ts, cap⟩ :: hs) T) : Copy C R w Q base G W (⟨b, o, [t], 1⟩ :: (if ts.length = 0 then hs else ⟨b, o + C, ts, cap - 1⟩ :: hs)) T := by
  have hraw := h.raw _ (List.mem_cons_self ..)
  have e0 : ∀ i, o + (i + 1) * C = o + C + i * C := fun i => by rw [Nat.succ_mul]; omega
  have r1 : atH C (R w Q) W ⟨b, o, [t], 1⟩ := fun i hi => by
    have hi0 : i = 0 := by simp at hi; exact hi
    subst hi0
    exact hraw.2.2 0 (by simp)
  have r2 : atH C (R w Q) W ⟨b, o + C, ts, cap - 1⟩ := fun i hi => by
    obtain ⟨cs, h1, h2⟩ := hraw.2.2 (i + 1) (by simpa using hi)
    exact ⟨cs, by simpa using h1, fun j u hu => by have := h2 j u hu; simp only [e0] at this; exact this⟩
  have hp := List.pairwise_cons.1 h.dis
  have c2 : ∀ V, (∀ k ∈ (⟨b, o, [t], 1⟩ :: ⟨b, o + C, ts, cap - 1⟩ :: hs : List (Hole α)), atH C (R V (nb base V)) V k) → ∀ k ∈ (⟨b, o, t :: ts, cap⟩ :: hs : List (Hole α)), atH C (R V (nb base V)) V k := fun V hv k hk => by
    rcases List.mem_cons.1 hk with rfl | hk
    · intro i hi
      cases i with
      | zero => exact hv _ (List.mem_cons_self ..) 0 (by simp)
      | succ i =>
        obtain ⟨cs, h1, h2⟩ := hv ⟨b, o + C, ts, cap - 1⟩ (by simp) i (by simpa using hi)
        exact ⟨cs, by simpa using h1, fun j u hu => by have := h2 j u hu; simp only [e0]; exact this⟩
    · exact hv k (by simp [hk])
  have hl : (t :: ts).length * C = C + ts.length * C := by rw [List.length_cons, Nat.succ_mul]; omega
  split
  · rename_i h0
    have : ts = [] := List.length_eq_zero_iff.1 h0
    subst this
    refine ⟨h.tb, fun k hk => ?_, List.pairwise_cons.2 ⟨fun k hk => hp.1 k hk, hp.2⟩, fun V hs' hv hu hd => h.compl V hs' (fun p ht hn => hv p ht (fun hc => hn ?_)) hu (fun k hk => ?_)⟩
    · rcases List.mem_cons.1 hk with rfl | hk
      · exact ⟨hraw.1, hraw.2.1, r1⟩
      · exact h.raw k (by simp [hk])
    · obtain ⟨k, hk, h1, h2, h3⟩ := hc
      rcases List.mem_cons.1 hk with rfl | hk
      · exact ⟨_, List.mem_cons_self .., h1, h2, h3⟩
      · exact ⟨k, by simp [hk], h1, h2, h3⟩
    · rcases List.mem_cons.1 hk with rfl | hk
      · intro i hi; exact hd ⟨b, o, [t], 1⟩ (by simp) i hi
      · exact hd k (by simp [hk])
  · rename_i h0
    refine ⟨h.tb, fun k hk => ?_, List.pairwise_cons.2 ⟨fun k hk => ?_, List.pairwise_cons.2 ⟨fun k hk => ?_, hp.2⟩⟩, fun V hs' hv hu hd => h.compl V hs' (fun p ht hn => hv p ht (fun hc => hn ?_)) hu (c2 V hd)⟩
    · rcases List.mem_cons.1 hk with rfl | hk
      · exact ⟨hraw.1, hraw.2.1, r1⟩
      rcases List.mem_cons.1 hk with rfl | hk
      · exact ⟨hraw.1, hraw.2.1, r2⟩
      · exact h.raw k (by simp [hk])
    · rcases List.mem_cons.1 hk with rfl | hk
      · exact .inr (.inl (by simp))
      · rcases hp.1 k hk with h1 | h1 | h1
        · exact .inl h1
        · exact .inr (.inl (by simp only [hl] at h1; simp; omega))
        · exact .inr (.inr h1)
    · rcases hp.1 k hk with h1 | h1 | h1
      · exact .inl h1
      · exact .inr (.inl (by simp only [hl] at h1; simp; omega))
      · exact .inr (.inr (by simp at h1 ⊢; omega))
    · obtain ⟨k, hk, h1, h2, h3⟩ := hc
      rcases List.mem_cons.1 hk with rfl | hk
      · exact ⟨_, List.mem_cons_self .., h1, h2, by simp only [hl]; simp at h3; omega⟩
      rcases List.mem_cons.1 hk with rfl | hk
      · exact ⟨_, List.mem_cons_self .., h1, by simp at h2 ⊢; omega, by simp only [hl]; simp at h3; omega⟩
      · exact ⟨k, by simp [hk], h1, h2, h3⟩
/-- the node is filled: its own cells have turned, new blocks are there, with new pieces in them -/
theorem Copy.fill {b o cap : Nat} {t : α} {new : List (Hole α)} (hCk : ∀ w Q x cs, R w Q x cs → CellsOk C cs) (h : Copy C R w Q base G W (⟨b, o, [t], cap⟩ :: hs) T) (hbase : base ≤ W.heap.size) (hz : W.heap.size ≤ W'.heap.size)
    (hsame : ∀ p : Addr, T p.block → ¬ (p.block = b ∧ o ≤ p.off ∧ p.off < o + C) → W'.cell? p = W.cell? p)
    (hblk : ∀ b', T b' → (∃ t cs, Blk W b' t cs) → ∃ t cs, Blk W' b' t cs)
    (hnew : ∀ k ∈ new, (W.heap.size ≤ k.b ∧ k.b < W'.heap.size) ∧ (∃ t cs, Blk W' k.b t cs) ∧ atH C (R w Q) W' k) (hdn : new.Pairwise (disH C))
    (hfill : ∀ V, W'.heap.size ≤ V.heap.size → (∀ p : Addr, (T p.block ∨ rg W W' p.block) → ¬ cov C (new ++ hs) p.block p.off → V.cell? p = W'.cell? p) → (∀ b, (T b ∨ rg W W' b) → Unf W' b → Unf V b) → (∀ k ∈ new, atH C (R V (nb base V)) V k) → (∀ off, o ≤ off → off < o + C → ¬ cov C (new ++ hs) b off) →
      ∃ cs, R V (nb base V) t cs ∧ ∀ j u, cs[j]? = some u → V.cell? ⟨b, o + j, none⟩ = some u) :
    Copy C R w Q base G W' (new ++ hs) (fun b => T b ∨ rg W W' b) := by
  have hp := List.pairwise_cons.1 h.dis
  have hTb := (h.raw _ (List.mem_cons_self ..)).1
  have hTn : ∀ b', T b' → ∀ k ∈ new, k.b ≠ b' := fun b' ht k hk e => by have := (hnew k hk).1.1; have := (h.tb b' ht).2; omega
  have hapart : ∀ off, o ≤ off → off < o + C → ¬ cov C (new ++ hs) b off := fun off h1 h2 hc => by
    obtain ⟨k, hk, e1, e2, e3⟩ := hc
    rcases List.mem_append.1 hk with hk | hk
    · exact hTn b hTb k hk e1
    · rcases hp.1 k hk with h3 | h3 | h3
      · exact h3 e1.symm
      · simp at h3; omega
      · simp at h3; omega
  refine ⟨fun b' hb' => ?_, fun k hk => ?_, List.pairwise_append.2 ⟨hdn, hp.2, fun k hk k' hk' => .inl (fun e => hTn _ (h.raw k' (by simp [hk'])).1 k hk e)⟩, fun V hs' hv hu hd => h.compl V (Nat.le_trans hz hs') (fun p ht hn => ?_) (fun b' ht hub => hu b' (.inl ht) (hblk b' ht hub)) (fun k hk => ?_)⟩
  · rcases hb' with h1 | h1
    · exact ⟨(h.tb _ h1).1, Nat.lt_of_lt_of_le (h.tb _ h1).2 hz⟩
    · exact ⟨Nat.le_trans hbase h1.1, h1.2⟩
  · rcases List.mem_append.1 hk with hk | hk
    · obtain ⟨h1, h2, h3⟩ := hnew k hk
      exact ⟨.inr h1, h2, h3⟩
    · obtain ⟨h1, h2, h3⟩ := h.raw k (by simp [hk])
      refine ⟨.inl h1, hblk _ h1 h2, atH_same (fun off e1 e2 => hsame ⟨k.b, off, none⟩ h1 (fun e => ?_)) (hCk w Q) h3⟩
      refine hapart off e.2.1 e.2.2 ⟨k, List.mem_append.2 (.inr hk), e.1, e1, e2⟩
  · rw [hv p (.inl ht) (fun hc => hn ?_)]
    · refine hsame p ht (fun e => hn ⟨_, List.mem_cons_self .., e.1.symm, e.2.1, by simp; omega⟩)
    · obtain ⟨k, hk, e1, e2, e3⟩ := hc
      rcases List.mem_append.1 hk with hk | hk
      · exact absurd e1 (hTn _ ht k hk)
      · exact ⟨k, by simp [hk], e1, e2, e3⟩
  · rcases List.mem_cons.1 hk with rfl | hk
    · intro i hi
      have hi0 : i = 0 := by simp at hi; exact hi
      subst hi0
      obtain ⟨cs, h1, h2⟩ := hfill V hs' hv hu (fun k hk => hd k (List.mem_append.2 (.inl hk))) hapart
      exact ⟨cs, by simpa using h1, fun j u hu => by rw [Nat.zero_mul, Nat.add_zero]; exact h2 j u hu⟩
    · exact hd k (List.mem_append.2 (.inr hk))
theorem slice_of_at {R : α → List Value → Prop} {V : World} {b cap : Nat} {l : List α} (h1 : atH C R V ⟨b, 0, l, cap⟩) (hCk : ∀ x cs, R x cs → CellsOk C cs) (hC0 : 0 < C) (hb : base ≤ b) (hu : Unf V b) (hl : l.length ≤ 1000000) : SliceI V (nb base V) C R l (.slice (some ⟨b, 0, none⟩) l.length l.length) := by
  have h2 : ∀ i, ∃ cs, ∀ (hi : i < l.length), R l[i] cs ∧ ∀ j u, cs[j]? = some u → V.cell? ⟨b, 0 + i * C + j, none⟩ = some u := fun i => by
    by_cases hi : i < l.length
    · obtain ⟨cs, h3⟩ := h1 i hi; exact ⟨cs, fun _ => h3⟩
    · exact ⟨[], fun h => absurd h hi⟩
  obtain ⟨ds, hds⟩ := Classical.axiomOfChoice h2
  refine ⟨_, l.length, ds, rfl, ⟨Nat.le_refl _, by omega⟩, fun hpos => ⟨_, rfl, ⟨hb, hu⟩, fun i hi j u hu => ?_⟩, fun i hi => (hds i hi).1⟩
  rw [addr0]; have := (hds i hi).2 j u hu; rw [Nat.zero_add] at this; exact this
/-- the beginning: one row -/
theorem Copy.start {b : Nat} {l : List α} {t : TypeId} {css : Nat → List Value} (hb : base ≤ b) (hB : Blk W b t (flatN css l.length).toArray) (hr : ∀ i (h : i < l.length), R w Q l[i] (css i)) (hCk : ∀ w Q x cs, R w Q x cs → CellsOk C cs) (hC0 : 0 < C) (hl : l.length ≤ 1000000) :
    Copy C R w Q base (fun V => SliceI V (nb base V) C (R V (nb base V)) l (.slice (some ⟨b, 0, none⟩) l.length l.length)) W (if l.length = 0 then [] else [⟨b, 0, l, l.length⟩]) (fun k => k = b) := by
  have hC := hCk w Q
  have hat : atH C (R w Q) W ⟨b, 0, l, l.length⟩ := fun i hi => ⟨css i, hr i hi, fun j u hu => by
    have hj : j < C := by rw [← (hC _ _ (hr i hi)).1]; exact (List.getElem?_eq_some_iff.1 hu).1
    rw [hB.cell]
    simp only [List.getElem?_toArray, Nat.zero_add]
    rw [flatN_get (fun i hi => (hC _ _ (hr i hi)).1) hi hj]
    exact hu⟩
  split
  · rename_i h0
    have : l = [] := List.length_eq_zero_iff.1 h0
    subst this
    exact ⟨fun k hk => by subst hk; exact ⟨hb, hB.lt⟩, fun _ h => absurd h (by simp), .nil, fun V _ hv hu hd => ⟨_, 0, fun _ => [], rfl, ⟨Nat.le_refl _, by omega⟩, fun h => absurd h (by simp), fun i h => absurd h (by simp)⟩⟩
  · rename_i h0
    refine ⟨fun k hk => by subst hk; exact ⟨hb, hB.lt⟩, fun k hk => ?_, List.pairwise_singleton _ _, fun V _ hv hu hd => ?_⟩
    · have : k = ⟨b, 0, l, l.length⟩ := by simpa using hk
      subst this
      exact ⟨rfl, ⟨_, _, hB⟩, hat⟩
    · exact slice_of_at (hd _ (List.mem_singleton.2 rfl)) (hCk _ _) hC0 hb (hu b rfl ⟨_, _, hB⟩) hl
end
abbrev CopyE := Copy (α := E) 4 RE
/-- the cursor over the copy: its answer p, what is ahead -/
def AtCE (w : World) (Q : Nat → Prop) (base bs c : Nat) (G : World → Prop) (W : World) (p : Option Addr) (n : Nat) : Prop :=
  ∃ v hs T, CurE W bs c v p (hs.map slH) ∧ (∀ b, T b → ¬ ownE c v b) ∧
    ((p = none ∧ hs = [] ∧ CopyE w Q base G W [] T ∧ n = 0) ∨ ∃ b o t, p = some ⟨b, o, none⟩ ∧ CopyE w Q base G W (⟨b, o, [t], 1⟩ :: hs) T ∧ n = sizE t + szH hs)
theorem pop_copyE {w W w' : World} {Q : Nat → Prop} {base bs c : Nat} {G : World → Prop} {v v' : Value} {last : Option Addr} {hs : List (Hole E)} {T : Nat → Prop} (h0 : CurE W bs c v last (hs.map slH) ∨ ∀ x ∈ hs.map slH, goodS x) (h : CopyE w Q base G W hs T) (hd : ∀ b, T b → ¬ ownE c v b)
    (hc : CurE w' bs c v' (popSE (hs.map slH)).1 (popSE (hs.map slH)).2) (hm : Moves (ownE c v) W w') (hl : ∀ j, v'.ownBlock = some j → W.heap.size ≤ j ∨ v.ownBlock = some j) : AtCE w Q base bs c G w' (popSE (hs.map slH)).1 (szH hs) := by
  have hg : ∀ x ∈ hs.map slH, goodS x := by rcases h0 with h0 | h0; exact h0.good; exact h0
  have h' := h.moves hm hd
  have hd' : ∀ b, T b → ¬ ownE c v' b := fun b ht e => by
    rcases e with rfl | e
    · exact hd _ ht (.inl rfl)
    · rcases hl b e with h1 | h1
      · have := (h.tb b ht).2; omega
      · exact hd b ht (.inr h1)
  cases hs with
  | nil => exact ⟨v', [], T, by simpa [popSE] using hc, hd', .inl ⟨rfl, rfl, h', rfl⟩⟩
  | cons k hs =>
    obtain ⟨b, o, ts, cap⟩ := k
    cases ts with
    | nil => have := (hg (slH ⟨b, o, [], cap⟩) (List.mem_map.2 ⟨_, List.mem_cons_self .., rfl⟩)).1; simp [slH] at this
    | cons t ts =>
      have e : (popSE (List.map slH (⟨b, o, t :: ts, cap⟩ :: hs))) = (some ⟨b, o, none⟩, (if ts.length = 0 then hs else ⟨b, o + 4, ts, cap - 1⟩ :: hs).map slH) := by
        simp only [List.map_cons, popSE, slH, List.length_cons, Nat.add_eq_right]
        by_cases h0 : ts.length = 0
        · rw [if_pos h0, if_pos h0]
        · rw [if_neg h0, if_neg h0, List.map_cons, add_ne _ (by decide)]; rfl
      rw [e] at hc ⊢
      refine ⟨v', _, T, hc, hd', .inr ⟨b, o, t, rfl, h'.pop, ?_⟩⟩
      rw [szH, sizL]
      split
      · rename_i h0
        have : ts = [] := List.length_eq_zero_iff.1 h0
        subst this; simp [sizL]
      · rw [szH]; simp; omega
/-- one node: its kids lie in a new row -/
theorem fillE {w W w1 w3 : World} {Q : Nat → Prop} {base : Nat} {G : World → Prop} {hs : List (Hole E)} {T : Nat → Prop} {b o : Nat} {op n : Int} {nm : ByteArray} {ks : List E} {vk v' : Value} {e : Ending}
    (h : CopyE w Q base G W (⟨b, o, [.mk op n nm ks], 1⟩ :: hs) T) (hbase : base ≤ W.heap.size) (hop : i64 op) (hn : i64 n) (hnm : nm.size ≤ 9223372036854775807) (hw : wE (.mk op n nm ks) ≤ 1000000)
    (p0 : W.cell? ⟨b, o, none⟩ = some (.int .i64 op)) (p1 : W.cell? ⟨b, o + 1, none⟩ = some (.int .i64 n)) (p2 : W.cell? ⟨b, o + 2, none⟩ = some (.string nm)) (p3 : W.cell? ⟨b, o + 3, none⟩ = some vk)
    (hb1 : Below W.heap.size W w1) (hf : FreshP 45 (RE w Q) ks (w1.setCell ⟨b, o + 2, none⟩ (.string nm)) (.returned v') w3) :
    ∃ new T' A cap, v' = .slice A ks.length cap ∧ (0 < ks.length → A ≠ none) ∧ ks.length ≤ cap ∧ cap ≤ 9223372036854775807 ∧ CopyE w Q base G (w3.setCell ⟨b, o + 3, none⟩ v') (new ++ hs) T' ∧ pushS (hs.map slH) A ks.length cap = (new ++ hs).map slH ∧ szH (new ++ hs) = sizL ks + szH hs ∧
      (∀ k, T' k → T k ∨ W.heap.size ≤ k) ∧ Moves (fun k => k = b) W (w3.setCell ⟨b, o + 3, none⟩ v') ∧ (w3.setCell ⟨b, o + 3, none⟩ v').cell? ⟨b, o + 3, none⟩ = some v' := by
  obtain ⟨hTb, ⟨bt, bc, hBk⟩, hraw⟩ := h.raw _ (List.mem_cons_self ..)
  have hblt : b < W.heap.size := hBk.lt
  have hwL : wL ks ≤ 1000000 := by rw [wE] at hw; omega
  have hlen : ks.length ≤ 1000000 := Nat.le_trans (wL_len ks) hwL
  obtain ⟨w2, hw2⟩ : ∃ w2, w2 = w1.setCell ⟨b, o + 2, none⟩ (.string nm) := ⟨_, rfl⟩
  rw [← hw2] at hf
  have hm2 : Moves (fun k => k = b) W w2 := by
    rw [hw2]
    exact ⟨hb1.os, hb1.tape, hb1.output, by simp only [World.setCell, Array.size_modify]; exact hb1.size, fun k hk hn => (Below.heap_setCell _ _ _ _ hn).trans (hb1.block k hk)⟩
  have hB1 : Blk w1 b bt bc := hBk.below hb1 hblt
  have hB2 : Blk w2 b bt (bc.setIfInBounds (o + 2) (.string nm)) := by rw [hw2]; exact hB1.set_ (o + 2) _
  have hbc : bc[o + 2]? = some (.string nm) := by rw [← hBk.cell]; exact p2
  rw [set_same hbc] at hB2
  have hc2 : ∀ p : Addr, p.block < W.heap.size → w2.cell? p = W.cell? p := fun p hb' => by
    by_cases e : p.block = b
    · exact World.cell?_of_block (w := W) (by rw [e]; exact hB2.trans hBk.symm)
    · exact hm2.cell hb' e
  have hk2 : ∀ b', b' < W.heap.size → (∃ t cs, Blk W b' t cs) → ∃ t cs, Blk w2 b' t cs := fun b' hb' ⟨t, cs, hB⟩ => by
    by_cases e : b' = b
    · subst e; exact ⟨_, _, hB2⟩
    · exact ⟨t, cs, hm2.blk hB e⟩
  have D : ∃ A cap b3 css, v' = .slice A ks.length cap ∧ ks.length ≤ cap ∧ cap ≤ 9223372036854775807 ∧ Moves (fun _ => False) w2 w3 ∧ (ks.length = 0 ∨ (A = some ⟨b3, 0, none⟩ ∧ cap = ks.length ∧ W.heap.size ≤ b3 ∧ Blk w3 b3 45 (flatN css ks.length).toArray ∧ ∀ i (h : i < ks.length), RE w Q ks[i] (css i))) := by
    rcases hf with ⟨rfl, e1, rfl⟩ | ⟨css, e1, rfl, hr⟩
    · injection e1 with e1
      exact ⟨none, 0, 0, fun _ => [], e1, Nat.le_refl _, by omega, Moves.refl _ _, .inl rfl⟩
    · injection e1 with e1
      exact ⟨_, ks.length, w2.heap.size, css, e1, Nat.le_refl _, by omega, (Moves.refl _ _).alloc _, .inr ⟨rfl, rfl, hm2.size, Blk.new _ _ _, hr⟩⟩
  obtain ⟨A, cap, b3, css, hv, hlc, hcap, hm3, hD⟩ := D
  clear hf hw2
  have hsz : W.heap.size ≤ w2.heap.size := hm2.size
  have hc3 : ∀ p : Addr, p.block < W.heap.size → w3.cell? p = W.cell? p := fun p hb' => (hm3.cell (Nat.lt_of_lt_of_le hb' hsz) (fun h => h)).trans (hc2 p hb')
  have hB3 : Blk w3 b bt bc := hm3.blk hB2 (fun h => h)
  have hk3 : ∀ b', b' < W.heap.size → (∃ t cs, Blk W b' t cs) → ∃ t cs, Blk w3 b' t cs := fun b' hb' hB => by
    obtain ⟨t, cs, hB⟩ := hk2 b' hb' hB
    exact ⟨t, cs, hm3.blk hB (fun h => h)⟩
  have hm03 : Moves (fun k => k = b) W w3 := hm2.trans hm3 (fun _ h => h.elim)
  obtain ⟨w4, hw4⟩ : ∃ w4, w4 = w3.setCell ⟨b, o + 3, none⟩ v' := ⟨_, rfl⟩
  rw [← hw4]
  have hm4 : Moves (fun k => k = b) W w4 := by rw [hw4]; exact hm03.set_ (.inl rfl) _
  have hs4 : w4.heap.size = w3.heap.size := by rw [hw4]; simp [World.setCell]
  have hB4 : Blk w4 b bt (bc.setIfInBounds (o + 3) v') := by rw [hw4]; exact hB3.set_ (o + 3) _
  have hbc3 : o + 3 < bc.size := by
    have : bc[o + 3]? = some vk := by rw [← hBk.cell]; exact p3
    exact (Array.getElem?_eq_some_iff.1 this).1
  have q3 : w4.cell? ⟨b, o + 3, none⟩ = some v' := by rw [hB4.cell, Array.getElem?_setIfInBounds_self_of_lt hbc3]
  have hc4 : ∀ p : Addr, p.block < W.heap.size → ¬ (p.block = b ∧ p.off = o + 3) → w4.cell? p = W.cell? p := fun p hb' hn => by
    rw [hw4, cell_set_ne _ (fun e => hn (by rw [e]; exact ⟨rfl, rfl⟩))]
    exact hc3 p hb'
  have hk4 : ∀ b', b' < W.heap.size → (∃ t cs, Blk W b' t cs) → ∃ t cs, Blk w4 b' t cs := fun b' hb' hB => by
    by_cases e : b' = b
    · subst e; exact ⟨_, _, hB4⟩
    · obtain ⟨t, cs, hB⟩ := hk3 b' hb' hB
      exact ⟨t, cs, by rw [hw4]; exact hB.far e _⟩
  have hnode : ∀ V, (∀ off, o ≤ off → off < o + 4 → V.cell? ⟨b, off, none⟩ = w4.cell? ⟨b, off, none⟩) → SliceI V (nb base V) 4 (RE V (nb base V)) ks v' → ∃ cs, RE V (nb base V) (.mk op n nm ks) cs ∧ ∀ j u, cs[j]? = some u → V.cell? ⟨b, o + j, none⟩ = some u := fun V hV hk => by
    refine ⟨_, ⟨ExprI.of_slice (slice_er hk) hop hn hnm, hw⟩, fun j u hu => ?_⟩
    match j, hu with
    | 0, hu => rw [Nat.add_zero, hV o (by omega) (by omega), hc4 ⟨b, o, none⟩ hblt (fun e => by have := e.2; simp at this), p0]; simpa using hu
    | 1, hu => rw [hV _ (by omega) (by omega), hc4 ⟨b, o + 1, none⟩ hblt (fun e => by have := e.2; simp at this), p1]; simpa using hu
    | 2, hu => rw [hV _ (by omega) (by omega), hc4 ⟨b, o + 2, none⟩ hblt (fun e => by have := e.2; simp at this), p2]; simpa using hu
    | 3, hu => rw [hV _ (by omega) (by omega), q3]; simpa using hu
    | j + 4, hu => simp at hu
  have hfl := fun (new : List (Hole E)) hnew hdn hfill => Copy.fill (new := new) (W' := w4) reOk h hbase hm4.size (fun p ht hn => hc4 p (h.tb _ ht).2 (fun e => hn ⟨e.1, by omega, by omega⟩)) (fun b' ht hB => hk4 b' (h.tb b' ht).2 hB) hnew hdn hfill
  have hT' : ∀ k, (T k ∨ rg W w4 k) → T k ∨ W.heap.size ≤ k := fun k hk => hk.imp id (fun h => h.1)
  rcases hD with h0 | ⟨rfl, rfl, hb3, hB5, hr⟩
  · have hks : ks = [] := List.length_eq_zero_iff.1 h0
    have hV0 : ∀ V, SliceI V (nb base V) 4 (RE V (nb base V)) ks v' := fun V => ⟨A, cap, fun _ => [], hv, ⟨hlc, hcap⟩, fun h => absurd h (by omega), fun i h => absurd h (by omega)⟩
    refine ⟨[], _, A, cap, hv, fun h => absurd h (by omega), hlc, hcap, hfl [] (fun _ h => absurd h (by simp)) .nil (fun V _ hv _ hd hap => hnode V (fun off h1 h2 => hv ⟨b, off, none⟩ (.inl hTb) (hap off h1 h2)) (hV0 V)), ?_, ?_, hT', hm4, q3⟩
    · rw [h0, pushS_zero]; rfl
    · rw [hks, sizL, Nat.zero_add]; rfl
  · by_cases h0 : ks.length = 0
    · have hks : ks = [] := List.length_eq_zero_iff.1 h0
      have hV0 : ∀ V, SliceI V (nb base V) 4 (RE V (nb base V)) ks v' := fun V => ⟨_, ks.length, fun _ => [], hv, ⟨hlc, hcap⟩, fun h => absurd h (by omega), fun i h => absurd h (by omega)⟩
      refine ⟨[], _, _, ks.length, hv, fun h => absurd h (by omega), hlc, hcap, hfl [] (fun _ h => absurd h (by simp)) .nil (fun V _ hv _ hd hap => hnode V (fun off h1 h2 => hv ⟨b, off, none⟩ (.inl hTb) (hap off h1 h2)) (hV0 V)), ?_, ?_, hT', hm4, q3⟩
      · rw [h0, pushS_zero]; rfl
      · rw [hks, sizL, Nat.zero_add]; rfl
    · have hB6 : Blk w4 b3 45 (flatN css ks.length).toArray := by rw [hw4]; exact hB5.far (show b3 ≠ b by omega) _
      have hat : atH 4 (RE w Q) w4 ⟨b3, 0, ks, ks.length⟩ := fun i hi => ⟨css i, hr i hi, fun j u hu => by
        have hj : j < 4 := by rw [← (reOk _ _ _ _ (hr i hi)).1]; exact (List.getElem?_eq_some_iff.1 hu).1
        rw [hB6.cell]
        simp only [List.getElem?_toArray, Nat.zero_add]
        rw [flatN_get (fun i hi => (reOk _ _ _ _ (hr i hi)).1) hi hj]
        exact hu⟩
      refine ⟨[⟨b3, 0, ks, ks.length⟩], _, _, ks.length, hv, fun _ => by simp, hlc, hcap, hfl [⟨b3, 0, ks, ks.length⟩] (fun k hk => ?_) (List.pairwise_singleton _ _) (fun V _ hv' hu hd hap => hnode V (fun off h1 h2 => hv' ⟨b, off, none⟩ (.inl hTb) (hap off h1 h2)) ?_), ?_, ?_, hT', hm4, q3⟩
      · have : k = ⟨b3, 0, ks, ks.length⟩ := by simpa using hk
        subst this
        exact ⟨⟨hb3, hB6.lt⟩, ⟨_, _, hB6⟩, hat⟩
      · rw [hv]
        exact slice_of_at (hd _ (List.mem_singleton.2 rfl)) (reOk _ _) (by omega) (Nat.le_trans hbase hb3) (hu b3 (.inr ⟨hb3, hB6.lt⟩) ⟨_, _, hB6⟩) hlen
      · rw [pushS_pos _ _ _ (by omega)]; rfl
      · rfl
end Go.Proofs.Ytcocilpifdjibaa.U
