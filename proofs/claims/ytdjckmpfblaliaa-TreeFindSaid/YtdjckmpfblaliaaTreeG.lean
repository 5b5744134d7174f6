/- Copies of lists of texts and of parameters: cloneNames, cloneParams (tree). -/
import Derived.Test.YtdjckmpfblaliaaTreeF
import Derived.Test.YtdjckmpfblaliaaTreeK
namespace Go.Proofs.Ytdjckmpfblaliaa
open Go.ChangeShapes Go.WideShapes Go.ChangeAt Go.RowKit Go.Deep
set_option linter.unusedVariables false

/-- the blocks made since -/
abbrev nw (W w' : World) : Nat → Prop := fun b => W.heap.size ≤ b ∧ b < w'.heap.size
theorem addr0 (b k : Nat) : (⟨b, 0, none⟩ : Addr).add k = ⟨b, k, none⟩ := by
  by_cases h0 : k = 0
  · subst h0; rw [add_zero_]
  · rw [add_ne _ h0]; simp
theorem below_setc {B : Nat} {a b : World} (h : Below B a b) {p : Addr} (hp : B ≤ p.block) (u : Value) : Below B a (b.setCell p u) :=
  ⟨h.os, h.tape, h.output, by simp only [World.setCell, Array.size_modify]; exact h.size, fun k hk => (Below.heap_setCell _ _ _ _ (by omega)).trans (h.block k hk)⟩
theorem row_slice {α : Type} {w' : World} {Q : Nat → Prop} {C : Nat} {R : α → List Value → Prop} {l : List α} {b : Nat} {t : TypeId} {css : Nat → List Value} (hb : Blk w' b t (flatN css l.length).toArray) (hr : ∀ i (h : i < l.length), R l[i] (css i)) (hC : ∀ x cs, R x cs → CellsOk C cs) (hq : Q b) (hl : l.length ≤ 1000000) :
    SliceI w' Q C R l (.slice (some ⟨b, 0, none⟩) l.length l.length) := by
  refine ⟨some ⟨b, 0, none⟩, l.length, css, rfl, ⟨Nat.le_refl _, by omega⟩, fun _ => ⟨_, rfl, hq, fun i hi j u hu => ?_⟩, hr⟩
  rw [addr0, hb.cell]
  simp only [List.getElem?_toArray]
  have hj : j < C := by rw [← (hC _ _ (hr i hi)).1]; exact (List.getElem?_eq_some_iff.1 hu).1
  rw [flatN_get (fun i hi => (hC _ _ (hr i hi)).1) hi hj]
  exact hu
theorem nil_slice {α : Type} {w' : World} {Q : Nat → Prop} {C : Nat} {R : α → List Value → Prop} : SliceI w' Q C R ([] : List α) (.slice none 0 0) :=
  ⟨none, 0, fun _ => [], rfl, ⟨Nat.le_refl _, by omega⟩, fun h => absurd h (by simp), fun i h => absurd h (by simp)⟩
theorem set_same {cs : Array Value} {i : Nat} {u : Value} (h : cs[i]? = some u) : cs.setIfInBounds i u = cs := by
  apply Array.ext
  · simp
  · intro k h1 h2
    rw [Array.getElem_setIfInBounds]
    split
    · rename_i hk; subst hk; obtain ⟨_, h⟩ := Array.getElem?_eq_some_iff.1 h; exact h.symm
    · rfl
theorem textOk (s : ByteArray) (cs : List Value) (h : TextI s cs) : CellsOk 1 cs := by obtain ⟨rfl, _⟩ := h; exact ⟨rfl, by simp [Value.oneCell']⟩
theorem parOk (s : Pa) (cs : List Value) (h : ParI s cs) : CellsOk 2 cs := by obtain ⟨rfl, _⟩ := h; exact ⟨rfl, by simp [Value.oneCell']⟩
/-- texts that a copy takes no great memory for -/
def smT (l : List ByteArray) : Prop := l.length ≤ 1000000 ∧ ∀ s ∈ l, s.size ≤ 1000000
set_option maxHeartbeats 1000000 in
theorem cloneNames_any {w W : World} {Q : Nat → Prop} {l : List ByteArray} {v : Value} (h : TextsI w Q l v) (hI : In Q w W) (hs : smT l) :
    Calls Try.prog 90 #[v] W fun e w' => ∃ v', e = .returned v' ∧ Below W.heap.size W w' ∧ TextsI w' (nw W w') l v' := by
  obtain ⟨A, cap, rfl, _, _⟩ := h.shape
  have HF := Lib.hid (freshT_any h hI textOk hs.1)
  have HS := Lib.hid hs
  clear h hI hs
  go_enter Try.func90, Try.ntmps90
  go_wp2_with fail
  refine HF.out.mono ?_
  rintro e w1 (⟨rfl, rfl, rfl⟩ | ⟨css, rfl, hw1, hr⟩)
  · clear HF
    go_wp2_with fail
    go_loopw [10] (fun i wr => i = .int .i64 0 ∧ Hid (wr = w1)) (fun i _ => 0)
    case atStart => exact ⟨rfl, Lib.hid rfl⟩
    case round =>
      obtain ⟨rfl, HR⟩ := hrel
      go_wp2_with fail
      go_ret
      exact ⟨_, rfl, by rw [HR.out]; exact Below.refl _ _, nil_slice⟩
  · have HB : Hid (Blk w1 W.heap.size 9 (flatN css l.length).toArray) := Lib.hid (by rw [hw1]; exact Blk.new _ _ _)
    have HW : Hid (Below W.heap.size W w1) := Lib.hid (by rw [hw1]; exact below_box _)
    have HR := Lib.hid hr
    obtain ⟨a, ha⟩ : ∃ a : Addr, a = ⟨W.heap.size, 0, none⟩ := ⟨_, rfl⟩
    have HA := Lib.hid ha
    rw [← ha]
    have hlen := HS.out.1
    clear HF hw1 hr ha
    go_wp2_with fail
    go_loopw [10] (fun i wr => ∃ k : Nat, k ≤ l.length ∧ i = .int .i64 k ∧ Hid (Below W.heap.size W wr) ∧ Hid (Blk wr W.heap.size 9 (flatN css l.length).toArray)) (fun i _ => l.length - (intOf i).toNat)
    case atStart => exact ⟨0, Nat.zero_le _, rfl, HW, HB⟩
    case round =>
      obtain ⟨k, hk, rfl, HWr, HBr⟩ := hrel
      by_cases hlt : k < l.length
      · have hy : (flatN css l.length)[k]? = some (.string l[k]) := by
          have h1 := flatN_get (C := 1) (j := 0) (fun i hi => (textOk _ _ (HR.out i hi)).1) hlt (by omega)
          rw [Nat.mul_one, Nat.add_zero] at h1
          rw [h1, (HR.out k hlt).1]; rfl
        have HY := Lib.hid hy
        have hc : a.add k = ⟨W.heap.size, k, none⟩ := by rw [HA.out, addr0]
        have p : wr.cell? (a.add k) = some (.string l[k]) := by rw [hc, HBr.out.cell]; simpa using hy
        have hsz : l[k].size ≤ 281474976710656 := Nat.le_trans (HS.out.2 _ (List.getElem_mem hlt)) (by omega)
        have HCl := Lib.hid (fun V => Clone_any l[k] V hsz)
        have HC := Lib.hid hc
        clear hy hsz hc
        obtain ⟨s, hs⟩ : ∃ s, s = l[k] := ⟨_, rfl⟩
        rw [← hs] at HY p HCl
        clear hs
        go_wp2_with (go_at_call 44; refine (HCl.out _).mono ?_; rintro e w2 ⟨rfl, hb2⟩; have HB2 := Lib.hid (HBr.out.below hb2 HBr.out.lt); have HW2 := Lib.hid (HWr.out.trans (hb2.mono HWr.out.size)); have p2 : w2.cell? (a.add k) = some (.string s) := (by rw [HC.out, HB2.out.cell]; simpa using HY.out); have f2 : w2.frozen? (a.add k) = false := (by rw [HC.out]; exact HB2.out.frozen k); clear hb2)
        go_roundw
        case rel =>
          refine ⟨k + 1, by omega, by go_num, Lib.hid (below_setc HW2.out (by rw [HC.out]; exact Nat.le_refl _) _), Lib.hid ?_⟩
          have := HB2.out.set_ k (.string s)
          rw [set_same (by simpa using HY.out)] at this
          rw [HC.out]
          exact this
        case measure => simp [intOf]; omega
      · go_wp2_with fail
        go_ret
        refine ⟨_, rfl, HWr.out, ?_⟩
        rw [HA.out]
        exact row_slice HBr.out HR.out textOk ⟨Nat.le_refl _, HBr.out.lt⟩ hlen
/-- parameters that a copy takes no great memory for -/
def smP (l : List Pa) : Prop := l.length ≤ 1000000 ∧ ∀ s ∈ l, s.nm.size ≤ 1000000
set_option maxHeartbeats 1000000 in
theorem cloneParams_any {w W : World} {Q : Nat → Prop} {l : List Pa} {v : Value} (h : SliceI w Q 2 ParI l v) (hI : In Q w W) (hs : smP l) :
    Calls Try.prog 89 #[v] W fun e w' => ∃ v', e = .returned v' ∧ Below W.heap.size W w' ∧ SliceI w' (nw W w') 2 ParI l v' := by
  obtain ⟨A, cap, rfl, _, _⟩ := h.shape
  have HF := Lib.hid (freshP_any h hI parOk hs.1)
  have HS := Lib.hid hs
  clear h hI hs
  go_enter Try.func89, Try.ntmps89
  go_wp2_with fail
  refine HF.out.mono ?_
  rintro e w1 (⟨rfl, rfl, rfl⟩ | ⟨css, rfl, hw1, hr⟩)
  · clear HF
    go_wp2_with fail
    go_loopw [9] (fun i wr => i = .int .i64 0 ∧ Hid (wr = w1)) (fun i _ => 0)
    case atStart => exact ⟨rfl, Lib.hid rfl⟩
    case round =>
      obtain ⟨rfl, HR⟩ := hrel
      go_wp2_with fail
      go_ret
      exact ⟨_, rfl, by rw [HR.out]; exact Below.refl _ _, nil_slice⟩
  · have HB : Hid (Blk w1 W.heap.size 64 (flatN css l.length).toArray) := Lib.hid (by rw [hw1]; exact Blk.new _ _ _)
    have HW : Hid (Below W.heap.size W w1) := Lib.hid (by rw [hw1]; exact below_box _)
    have HR := Lib.hid hr
    obtain ⟨a, ha⟩ : ∃ a : Addr, a = ⟨W.heap.size, 0, none⟩ := ⟨_, rfl⟩
    have HA := Lib.hid ha
    rw [← ha]
    have hlen := HS.out.1
    clear HF hw1 hr ha
    go_wp2_with fail
    go_loopw [9] (fun i wr => ∃ k : Nat, k ≤ l.length ∧ i = .int .i64 k ∧ Hid (Below W.heap.size W wr) ∧ Hid (Blk wr W.heap.size 64 (flatN css l.length).toArray)) (fun i _ => l.length - (intOf i).toNat)
    case atStart => exact ⟨0, Nat.zero_le _, rfl, HW, HB⟩
    case round =>
      obtain ⟨k, hk, rfl, HWr, HBr⟩ := hrel
      by_cases hlt : k < l.length
      · have hy : (flatN css l.length)[k * 2]? = some (.string l[k].nm) := by
          have h1 := flatN_get (C := 2) (j := 0) (fun i hi => (parOk _ _ (HR.out i hi)).1) hlt (by omega)
          rw [Nat.add_zero] at h1
          rw [h1, (HR.out k hlt).1]; rfl
        have HY := Lib.hid hy
        have hc : a.add (k * 2) = ⟨W.heap.size, k * 2, none⟩ := by rw [HA.out, addr0]
        have p : wr.cell? (a.add (k * 2)) = some (.string l[k].nm) := by rw [hc, HBr.out.cell]; simpa using hy
        have hsz : l[k].nm.size ≤ 281474976710656 := Nat.le_trans (HS.out.2 _ (List.getElem_mem hlt)) (by omega)
        have HCl := Lib.hid (fun V => Clone_any l[k].nm V hsz)
        have HC := Lib.hid hc
        clear hy hsz hc
        obtain ⟨s, hs⟩ : ∃ s, s = l[k].nm := ⟨_, rfl⟩
        rw [← hs] at HY p HCl
        clear hs
        go_wp2_with (go_at_call 44; refine (HCl.out _).mono ?_; rintro e w2 ⟨rfl, hb2⟩; have HB2 := Lib.hid (HBr.out.below hb2 HBr.out.lt); have HW2 := Lib.hid (HWr.out.trans (hb2.mono HWr.out.size)); have p2 : w2.cell? (a.add (k * 2)) = some (.string s) := (by rw [HC.out, HB2.out.cell]; simpa using HY.out); have f2 : w2.frozen? (a.add (k * 2)) = false := (by rw [HC.out]; exact HB2.out.frozen _); clear hb2)
        go_roundw
        case rel =>
          refine ⟨k + 1, by omega, by go_num, Lib.hid (below_setc HW2.out (by rw [HC.out]; exact Nat.le_refl _) _), Lib.hid ?_⟩
          have := HB2.out.set_ (k * 2) (.string s)
          rw [set_same (by simpa using HY.out)] at this
          rw [HC.out]
          exact this
        case measure => simp [intOf]; omega
      · go_wp2_with fail
        go_ret
        refine ⟨_, rfl, HWr.out, ?_⟩
        rw [HA.out]
        exact row_slice HBr.out HR.out parOk ⟨Nat.le_refl _, HBr.out.lt⟩ hlen
end Go.Proofs.Ytdjckmpfblaliaa
