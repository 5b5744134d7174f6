/- Texts, merged by a program; only what is used. -/
import Derived.Deep.RegionHeld3
import Derived.Deep.LoopGhost
import Derived.Deep.Cut
import Derived.Deep.CutRange
import Derived.Laws.Rows
import Derived.Test.YtehpinnmalpgpaaK1
import Derived.Test.YtehpinnmalpgpaaK2
import Derived.Test.YtehpinnmalpgpaaK3
import Derived.Test.YtehpinnmalpgpaaK4
import Derived.Test.YtehpinnmalpgpaaK5
import Derived.Test.YtehpinnmalpgpaaK6
import Derived.Test.YtehpinnmalpgpaaK7
import Derived.Test.YtehpinnmalpgpaaK8
import Derived.Test.YtehpinnmalpgpaaK9
import Derived.Test.YtehpinnmalpgpaaK10
import Derived.Test.YtehpinnmalpgpaaK11
import Derived.Test.YtehpinnmalpgpaaK12
import Derived.Test.YtehpinnmalpgpaaK13
import Derived.Test.YtehpinnmalpgpaaK14
import Derived.Test.YtehpinnmalpgpaaK15
import Derived.Test.YtehpinnmalpgpaaK16
import Derived.Test.YtehpinnmalpgpaaK17
import Derived.Test.YtehpinnmalpgpaaK18
import Derived.Test.YtehpinnmalpgpaaK19
import Derived.Test.YtehpinnmalpgpaaK20
import Derived.Test.YtehpinnmalpgpaaK21
import Derived.Test.YtehpinnmalpgpaaK22
import Derived.Test.YtehpinnmalpgpaaK23
import Derived.Test.YtehpinnmalpgpaaK24
import Derived.Test.YtehpinnmalpgpaaKM1
namespace Go.Proofs.Ytehpinnmalpgpaa
open Go.ChangeShapes Go.WideShapes Go.ChangeAt Go.RowKit Go.Deep
set_option linter.unusedVariables false
section
variable {css : Nat → List Value} {C : Nat}
theorem flatN_of {n : Nat} (h : ∀ i, i < n → (css i).length = C) {k : Nat} {u : Value} (hk : (flatN css n)[k]? = some u) : ∃ i j, i < n ∧ k = i * C + j ∧ (css i)[j]? = some u := by
  induction n with
  | zero => simp [flatN] at hk
  | succ n ih =>
    have hl : (flatN css n).length = n * C := flatN_len (fun i hi => h i (by omega))
    rw [flatN] at hk
    by_cases hkn : k < n * C
    · rw [List.getElem?_append_left (by rw [hl]; exact hkn)] at hk
      obtain ⟨i, j, h1, h2, h3⟩ := ih (fun i hi => h i (by omega)) hk
      exact ⟨i, j, by omega, h2, h3⟩
    · rw [List.getElem?_append_right (by rw [hl]; omega), hl] at hk
      exact ⟨n, k - n * C, by omega, by omega, hk⟩
end
theorem flatN_one {css : Nat → List Value} {C n : Nat} (h : ∀ i, i < n → CellsOk C (css i)) : ∀ u ∈ flatN css n, u.oneCell' = true := by
  intro u hu
  obtain ⟨k, hk⟩ := List.getElem?_of_mem hu
  obtain ⟨i, j, hi, _, h3⟩ := flatN_of (fun i hi => (h i hi).1) hk
  exact (h i hi).2 u (List.mem_of_getElem? h3)
/-- 'copy' of a whole row -/
theorem run_copy_all {P : Program} (w : World) (dT sT ty elem : TypeId) (g n cap C : Nat) (a : Addr) (M : Array Value) (t : TypeId) (cs : List Value)
    (hu : P.underlying dT = some (.slice elem)) (hs : (P.info? elem).map (·.size) = some C)
    (hg : w.heap[g]? = some (.cells M t (0, 0))) (hn : cs.length = n * C) (hM : M.size = n * C)
    (hsrc : ∀ j v, cs[j]? = some v → w.cell? (a.add j) = some v) (h1 : ∀ v ∈ cs, v.oneCell' = true) :
    (Builtin.copy_ #[dT, sT] ty #[.slice (some ⟨g, 0, none⟩) n n, .slice (some a) n cap]).run P w = .ok (goInt n) (w.setRow g cs.toArray) := by
  have hl := run_loadCells_list (P := P) w a cs hsrc
  have hst := run_storeCells_at P g 0 t cs 0 M w hg (by omega) h1
  have e : (M.toList.take (0 + 0) ++ cs ++ M.toList.drop (0 + 0 + cs.length)) = cs := by
    rw [List.take_zero, List.nil_append, List.drop_of_length_le (by rw [Array.length_toList]; omega), List.append_nil]
  rw [e] at hst
  cases hq : P.info? elem with
  | none => simp [hq] at hs
  | some i =>
    have hi : i.size = C := by simpa [hq] using hs
    simp [Builtin.copy_, run_underlying hu, Builtin.lenOf, Builtin.firstCells, sizeOf, typeInfo, hq, hi, ← hn, hl, hst]
theorem alloc_setRow (w : World) (M Y : Array Value) (t : TypeId) : (w.alloc (.cells M t)).setRow w.heap.size Y = w.alloc (.cells Y t) := by
  unfold World.setRow World.alloc
  congr 1
  apply Array.ext
  · simp
  · intro k h1 h2
    simp only [Array.getElem_modify]
    by_cases hk : k = w.heap.size
    · subst hk; simp
    · have hlt : k < w.heap.size := by simp at h2; omega
      rw [if_neg (fun e => hk e.symm), Array.getElem_push_lt hlt, Array.getElem_push_lt hlt]
/-- what fresh leaves: nil of nil, else a new row with the same cells -/
def FreshP {α : Type} (t : TypeId) (R : α → List Value → Prop) (l : List α) (W : World) (e : Ending) (w' : World) : Prop :=
  (l = [] ∧ e = .returned (.slice none 0 0) ∧ w' = W) ∨ ∃ css : Nat → List Value, e = .returned (.slice (some ⟨W.heap.size, 0, none⟩) l.length l.length) ∧ w' = W.alloc (.cells (flatN css l.length).toArray t) ∧ ∀ i (h : i < l.length), R l[i] (css i)
theorem slice_cells {α : Type} {w W : World} {Q : Nat → Prop} {C : Nat} {R : α → List Value → Prop} {l : List α} {A : Option Addr} {n cap : Nat} (h : SliceI w Q C R l (.slice A n cap)) (hI : In Q w W) (hR : ∀ x cs, R x cs → CellsOk C cs) :
    n = l.length ∧ (A = none → l = []) ∧ ∃ css : Nat → List Value, (∀ i (h : i < l.length), R l[i] (css i)) ∧ ∀ a, A = some a → ∀ j v, (flatN css l.length)[j]? = some v → W.cell? (a.add j) = some v := by
  obtain ⟨A', cap', css, h1, h2, h3, h4⟩ := h
  simp only [Value.slice.injEq] at h1
  obtain ⟨rfl, rfl, rfl⟩ := h1
  refine ⟨rfl, fun hn => ?_, css, h4, ?_⟩
  · cases l with
    | nil => rfl
    | cons x l => obtain ⟨a, ha, _⟩ := h3 (by simp); rw [hn] at ha; cases ha
  · intro a ha j v hj
    obtain ⟨i, k, hi, rfl, hu⟩ := flatN_of (fun i hi => (hR _ _ (h4 i hi)).1) hj
    obtain ⟨a', ha', hq, hc⟩ := h3 (by omega)
    rw [ha] at ha'
    injection ha' with ha'
    subst ha'
    rw [hI.cell (by rw [block_add]; exact hq)]
    exact hc i hi k v hu
set_option maxHeartbeats 1000000 in
set_option maxRecDepth 100000 in
theorem freshT_any {α : Type} {w W : World} {Q : Nat → Prop} {R : α → List Value → Prop} {l : List α} {v : Value} (h : SliceI w Q 1 R l v) (hI : In Q w W) (hR : ∀ x cs, R x cs → CellsOk 1 cs) (hl : l.length ≤ 1000000) :
    Calls Try.prog 136 #[v] W (FreshP 9 R l W) := by
  obtain ⟨A, cap, rfl, hl1, hl2⟩ := h.shape
  obtain ⟨_, hnil, css, hr, hc⟩ := slice_cells h hI hR
  clear h hI
  cases A with
  | none =>
    have HN := hnil rfl
    subst HN
    clear hnil hc hr hl1 hl2
    have he : ∀ w : World, (binOp .eql 22 (.slice none 0 cap) (.slice none 0 0)).run Try.prog w = .ok (.bool true) w := fun _ => by kernel_rfl
    go_enter Try.func136, Try.ntmps136
    go_wp2
    go_ret
    exact .inl ⟨rfl, rfl, rfl⟩
  | some a =>
    have hc := hc a rfl
    have HRr := Lib.hid hr
    have hfl : (flatN css l.length).length = l.length * 1 := flatN_len (fun i hi => (hR _ _ (hr i hi)).1)
    have hone := flatN_one (fun i hi => hR _ _ (hr i hi))
    obtain ⟨i0, z0, hi, hz0, hz1, hz2⟩ := info_frT
    have hinfo : (Try.prog.info? 9).map (·.size) = some 1 := by rw [hi]; simp [hz1]
    obtain ⟨M, hM⟩ : ∃ M, M = madeCells z0.cells (((l.length : Nat) : Int).toNat * i0.size) := ⟨_, rfl⟩
    have hMs : M.size = l.length * 1 := by rw [hM, size_madeCells, hz1]; simp
    have hbb : i0.bytes * l.length ≤ 1000 * 1000000 := Nat.mul_le_mul hz2 hl
    have hbi : (i0.bytes : Int) * (l.length : Int) ≤ 281474976710656 := by have h := Int.ofNat_le.2 hbb; rw [Int.natCast_mul] at h; omega
    have hmk : ∀ W : World, (Instr.makeSlice 22 (.int .i64 (l.length : Int)) (.int .i64 (l.length : Int))).run Try.prog W = .ok (.slice (some ⟨W.heap.size, 0, none⟩) l.length l.length) (W.alloc (.cells M 9)) := fun W => by
      have h := run_make (P := Try.prog) W 22 9 i0 z0 Try.underlying22 hi hz0 .i64 .i64 (l.length : Int) (l.length : Int) (by omega) (by omega) hbi (by omega)
      rw [← hM] at h
      simpa using h
    have hba : ∀ j, j < (flatN css l.length).length → a.block < W.heap.size := fun j hj => by have := block_lt_of_cell (hc j _ (List.getElem?_eq_getElem hj)); rwa [block_add] at this
    have hcp := run_copy_all (P := Try.prog) (W.alloc (.cells M 9)) 22 22 3 9 W.heap.size l.length cap 1 a M 9 (flatN css l.length) Try.underlying22 hinfo (heap_alloc_new W _) hfl hMs
      (fun j v hj => by rw [((Below.refl _ W).alloc (Nat.le_refl _) _).cell (by rw [block_add]; exact hba j (List.getElem?_eq_some_iff.1 hj).1)]; exact hc j v hj) hone
    rw [alloc_setRow] at hcp
    obtain ⟨Y, hY⟩ : ∃ Y, Y = (flatN css l.length).toArray := ⟨_, rfl⟩
    rw [← hY] at hcp
    have HY := Lib.hid hY
    have he : ∀ w : World, (binOp .eql 22 (.slice (some a) l.length cap) (.slice none 0 0)).run Try.prog w = .ok (.bool false) w := fun _ => by kernel_rfl
    clear hY hone hfl hc hM hnil hr hR hba hbb hbi
    go_enter Try.func136, Try.ntmps136
    go_wp2
    go_ret
    exact .inr ⟨css, rfl, by rw [HY.out], HRr.out⟩
theorem info_frE : ∃ i z, Try.prog.info? 57 = some i ∧ i.zero = some z ∧ i.size = 4 ∧ i.bytes ≤ 1000 := by
  have h : (Try.prog.info? 57).map (fun i => (i.zero.isSome, i.size, decide (i.bytes ≤ 1000))) = some (true, 4, true) := by kernel_rfl
  obtain ⟨i, hi, h2⟩ := Option.map_eq_some_iff.1 h
  simp only [Prod.mk.injEq, decide_eq_true_eq] at h2
  obtain ⟨z, hz⟩ := Option.isSome_iff_exists.1 h2.1
  exact ⟨i, z, hi, hz, h2.2.1, h2.2.2⟩
set_option maxHeartbeats 1000000 in
set_option maxRecDepth 100000 in
theorem freshE_any {α : Type} {w W : World} {Q : Nat → Prop} {R : α → List Value → Prop} {l : List α} {v : Value} (h : SliceI w Q 4 R l v) (hI : In Q w W) (hR : ∀ x cs, R x cs → CellsOk 4 cs) (hl : l.length ≤ 1000000) :
    Calls Try.prog 149 #[v] W (FreshP 57 R l W) := by
  obtain ⟨A, cap, rfl, hl1, hl2⟩ := h.shape
  obtain ⟨_, hnil, css, hr, hc⟩ := slice_cells h hI hR
  clear h hI
  cases A with
  | none =>
    have HN := hnil rfl
    subst HN
    clear hnil hc hr hl1 hl2
    have he : ∀ w : World, (binOp .eql 55 (.slice none 0 cap) (.slice none 0 0)).run Try.prog w = .ok (.bool true) w := fun _ => by kernel_rfl
    go_enter Try.func149, Try.ntmps149
    go_wp2
    go_ret
    exact .inl ⟨rfl, rfl, rfl⟩
  | some a =>
    have hc := hc a rfl
    have HRr := Lib.hid hr
    have hfl : (flatN css l.length).length = l.length * 4 := flatN_len (fun i hi => (hR _ _ (hr i hi)).1)
    have hone := flatN_one (fun i hi => hR _ _ (hr i hi))
    obtain ⟨i0, z0, hi, hz0, hz1, hz2⟩ := info_frE
    have hinfo : (Try.prog.info? 57).map (·.size) = some 4 := by rw [hi]; simp [hz1]
    obtain ⟨M, hM⟩ : ∃ M, M = madeCells z0.cells (((l.length : Nat) : Int).toNat * i0.size) := ⟨_, rfl⟩
    have hMs : M.size = l.length * 4 := by rw [hM, size_madeCells, hz1]; simp
    have hbb : i0.bytes * l.length ≤ 1000 * 1000000 := Nat.mul_le_mul hz2 hl
    have hbi : (i0.bytes : Int) * (l.length : Int) ≤ 281474976710656 := by have h := Int.ofNat_le.2 hbb; rw [Int.natCast_mul] at h; omega
    have hmk : ∀ W : World, (Instr.makeSlice 55 (.int .i64 (l.length : Int)) (.int .i64 (l.length : Int))).run Try.prog W = .ok (.slice (some ⟨W.heap.size, 0, none⟩) l.length l.length) (W.alloc (.cells M 57)) := fun W => by
      have h := run_make (P := Try.prog) W 55 57 i0 z0 Try.underlying55 hi hz0 .i64 .i64 (l.length : Int) (l.length : Int) (by omega) (by omega) hbi (by omega)
      rw [← hM] at h
      simpa using h
    have hba : ∀ j, j < (flatN css l.length).length → a.block < W.heap.size := fun j hj => by have := block_lt_of_cell (hc j _ (List.getElem?_eq_getElem hj)); rwa [block_add] at this
    have hcp := run_copy_all (P := Try.prog) (W.alloc (.cells M 57)) 55 55 3 57 W.heap.size l.length cap 4 a M 57 (flatN css l.length) Try.underlying55 hinfo (heap_alloc_new W _) hfl hMs
      (fun j v hj => by rw [((Below.refl _ W).alloc (Nat.le_refl _) _).cell (by rw [block_add]; exact hba j (List.getElem?_eq_some_iff.1 hj).1)]; exact hc j v hj) hone
    rw [alloc_setRow] at hcp
    obtain ⟨Y, hY⟩ : ∃ Y, Y = (flatN css l.length).toArray := ⟨_, rfl⟩
    rw [← hY] at hcp
    have HY := Lib.hid hY
    have he : ∀ w : World, (binOp .eql 55 (.slice (some a) l.length cap) (.slice none 0 0)).run Try.prog w = .ok (.bool false) w := fun _ => by kernel_rfl
    clear hY hone hfl hc hM hnil hr hR hba hbb hbi
    go_enter Try.func149, Try.ntmps149
    go_wp2
    go_ret
    exact .inr ⟨css, rfl, by rw [HY.out], HRr.out⟩
theorem info_frA : ∃ i z, Try.prog.info? 118 = some i ∧ i.zero = some z ∧ i.size = 6 ∧ i.bytes ≤ 1000 := by
  have h : (Try.prog.info? 118).map (fun i => (i.zero.isSome, i.size, decide (i.bytes ≤ 1000))) = some (true, 6, true) := by kernel_rfl
  obtain ⟨i, hi, h2⟩ := Option.map_eq_some_iff.1 h
  simp only [Prod.mk.injEq, decide_eq_true_eq] at h2
  obtain ⟨z, hz⟩ := Option.isSome_iff_exists.1 h2.1
  exact ⟨i, z, hi, hz, h2.2.1, h2.2.2⟩
set_option maxHeartbeats 1000000 in
set_option maxRecDepth 100000 in
theorem freshA_any {α : Type} {w W : World} {Q : Nat → Prop} {R : α → List Value → Prop} {l : List α} {v : Value} (h : SliceI w Q 6 R l v) (hI : In Q w W) (hR : ∀ x cs, R x cs → CellsOk 6 cs) (hl : l.length ≤ 1000000) :
    Calls Try.prog 150 #[v] W (FreshP 118 R l W) := by
  obtain ⟨A, cap, rfl, hl1, hl2⟩ := h.shape
  obtain ⟨_, hnil, css, hr, hc⟩ := slice_cells h hI hR
  clear h hI
  cases A with
  | none =>
    have HN := hnil rfl
    subst HN
    clear hnil hc hr hl1 hl2
    have he : ∀ w : World, (binOp .eql 58 (.slice none 0 cap) (.slice none 0 0)).run Try.prog w = .ok (.bool true) w := fun _ => by kernel_rfl
    go_enter Try.func150, Try.ntmps150
    go_wp2
    go_ret
    exact .inl ⟨rfl, rfl, rfl⟩
  | some a =>
    have hc := hc a rfl
    have HRr := Lib.hid hr
    have hfl : (flatN css l.length).length = l.length * 6 := flatN_len (fun i hi => (hR _ _ (hr i hi)).1)
    have hone := flatN_one (fun i hi => hR _ _ (hr i hi))
    obtain ⟨i0, z0, hi, hz0, hz1, hz2⟩ := info_frA
    have hinfo : (Try.prog.info? 118).map (·.size) = some 6 := by rw [hi]; simp [hz1]
    obtain ⟨M, hM⟩ : ∃ M, M = madeCells z0.cells (((l.length : Nat) : Int).toNat * i0.size) := ⟨_, rfl⟩
    have hMs : M.size = l.length * 6 := by rw [hM, size_madeCells, hz1]; simp
    have hbb : i0.bytes * l.length ≤ 1000 * 1000000 := Nat.mul_le_mul hz2 hl
    have hbi : (i0.bytes : Int) * (l.length : Int) ≤ 281474976710656 := by have h := Int.ofNat_le.2 hbb; rw [Int.natCast_mul] at h; omega
    have hmk : ∀ W : World, (Instr.makeSlice 58 (.int .i64 (l.length : Int)) (.int .i64 (l.length : Int))).run Try.prog W = .ok (.slice (some ⟨W.heap.size, 0, none⟩) l.length l.length) (W.alloc (.cells M 118)) := fun W => by
      have h := run_make (P := Try.prog) W 58 118 i0 z0 Try.underlying58 hi hz0 .i64 .i64 (l.length : Int) (l.length : Int) (by omega) (by omega) hbi (by omega)
      rw [← hM] at h
      simpa using h
    have hba : ∀ j, j < (flatN css l.length).length → a.block < W.heap.size := fun j hj => by have := block_lt_of_cell (hc j _ (List.getElem?_eq_getElem hj)); rwa [block_add] at this
    have hcp := run_copy_all (P := Try.prog) (W.alloc (.cells M 118)) 58 58 3 118 W.heap.size l.length cap 6 a M 118 (flatN css l.length) Try.underlying58 hinfo (heap_alloc_new W _) hfl hMs
      (fun j v hj => by rw [((Below.refl _ W).alloc (Nat.le_refl _) _).cell (by rw [block_add]; exact hba j (List.getElem?_eq_some_iff.1 hj).1)]; exact hc j v hj) hone
    rw [alloc_setRow] at hcp
    obtain ⟨Y, hY⟩ : ∃ Y, Y = (flatN css l.length).toArray := ⟨_, rfl⟩
    rw [← hY] at hcp
    have HY := Lib.hid hY
    have he : ∀ w : World, (binOp .eql 58 (.slice (some a) l.length cap) (.slice none 0 0)).run Try.prog w = .ok (.bool false) w := fun _ => by kernel_rfl
    clear hY hone hfl hc hM hnil hr hR hba hbb hbi
    go_enter Try.func150, Try.ntmps150
    go_wp2
    go_ret
    exact .inr ⟨css, rfl, by rw [HY.out], HRr.out⟩
theorem info_frS : ∃ i z, Try.prog.info? 60 = some i ∧ i.zero = some z ∧ i.size = 13 ∧ i.bytes ≤ 1000 := by
  have h : (Try.prog.info? 60).map (fun i => (i.zero.isSome, i.size, decide (i.bytes ≤ 1000))) = some (true, 13, true) := by kernel_rfl
  obtain ⟨i, hi, h2⟩ := Option.map_eq_some_iff.1 h
  simp only [Prod.mk.injEq, decide_eq_true_eq] at h2
  obtain ⟨z, hz⟩ := Option.isSome_iff_exists.1 h2.1
  exact ⟨i, z, hi, hz, h2.2.1, h2.2.2⟩
set_option maxHeartbeats 1000000 in
set_option maxRecDepth 100000 in
theorem freshS_any {α : Type} {w W : World} {Q : Nat → Prop} {R : α → List Value → Prop} {l : List α} {v : Value} (h : SliceI w Q 13 R l v) (hI : In Q w W) (hR : ∀ x cs, R x cs → CellsOk 13 cs) (hl : l.length ≤ 1000000) :
    Calls Try.prog 137 #[v] W (FreshP 60 R l W) := by
  obtain ⟨A, cap, rfl, hl1, hl2⟩ := h.shape
  obtain ⟨_, hnil, css, hr, hc⟩ := slice_cells h hI hR
  clear h hI
  cases A with
  | none =>
    have HN := hnil rfl
    subst HN
    clear hnil hc hr hl1 hl2
    have he : ∀ w : World, (binOp .eql 43 (.slice none 0 cap) (.slice none 0 0)).run Try.prog w = .ok (.bool true) w := fun _ => by kernel_rfl
    go_enter Try.func137, Try.ntmps137
    go_wp2
    go_ret
    exact .inl ⟨rfl, rfl, rfl⟩
  | some a =>
    have hc := hc a rfl
    have HRr := Lib.hid hr
    have hfl : (flatN css l.length).length = l.length * 13 := flatN_len (fun i hi => (hR _ _ (hr i hi)).1)
    have hone := flatN_one (fun i hi => hR _ _ (hr i hi))
    obtain ⟨i0, z0, hi, hz0, hz1, hz2⟩ := info_frS
    have hinfo : (Try.prog.info? 60).map (·.size) = some 13 := by rw [hi]; simp [hz1]
    obtain ⟨M, hM⟩ : ∃ M, M = madeCells z0.cells (((l.length : Nat) : Int).toNat * i0.size) := ⟨_, rfl⟩
    have hMs : M.size = l.length * 13 := by rw [hM, size_madeCells, hz1]; simp
    have hbb : i0.bytes * l.length ≤ 1000 * 1000000 := Nat.mul_le_mul hz2 hl
    have hbi : (i0.bytes : Int) * (l.length : Int) ≤ 281474976710656 := by have h := Int.ofNat_le.2 hbb; rw [Int.natCast_mul] at h; omega
    have hmk : ∀ W : World, (Instr.makeSlice 43 (.int .i64 (l.length : Int)) (.int .i64 (l.length : Int))).run Try.prog W = .ok (.slice (some ⟨W.heap.size, 0, none⟩) l.length l.length) (W.alloc (.cells M 60)) := fun W => by
      have h := run_make (P := Try.prog) W 43 60 i0 z0 Try.underlying43 hi hz0 .i64 .i64 (l.length : Int) (l.length : Int) (by omega) (by omega) hbi (by omega)
      rw [← hM] at h
      simpa using h
    have hba : ∀ j, j < (flatN css l.length).length → a.block < W.heap.size := fun j hj => by have := block_lt_of_cell (hc j _ (List.getElem?_eq_getElem hj)); rwa [block_add] at this
    have hcp := run_copy_all (P := Try.prog) (W.alloc (.cells M 60)) 43 43 3 60 W.heap.size l.length cap 13 a M 60 (flatN css l.length) Try.underlying43 hinfo (heap_alloc_new W _) hfl hMs
      (fun j v hj => by rw [((Below.refl _ W).alloc (Nat.le_refl _) _).cell (by rw [block_add]; exact hba j (List.getElem?_eq_some_iff.1 hj).1)]; exact hc j v hj) hone
    rw [alloc_setRow] at hcp
    obtain ⟨Y, hY⟩ : ∃ Y, Y = (flatN css l.length).toArray := ⟨_, rfl⟩
    rw [← hY] at hcp
    have HY := Lib.hid hY
    have he : ∀ w : World, (binOp .eql 43 (.slice (some a) l.length cap) (.slice none 0 0)).run Try.prog w = .ok (.bool false) w := fun _ => by kernel_rfl
    clear hY hone hfl hc hM hnil hr hR hba hbb hbi
    go_enter Try.func137, Try.ntmps137
    go_wp2
    go_ret
    exact .inr ⟨css, rfl, by rw [HY.out], HRr.out⟩
theorem info_frP : ∃ i z, Try.prog.info? 48 = some i ∧ i.zero = some z ∧ i.size = 2 ∧ i.bytes ≤ 1000 := by
  have h : (Try.prog.info? 48).map (fun i => (i.zero.isSome, i.size, decide (i.bytes ≤ 1000))) = some (true, 2, true) := by kernel_rfl
  obtain ⟨i, hi, h2⟩ := Option.map_eq_some_iff.1 h
  simp only [Prod.mk.injEq, decide_eq_true_eq] at h2
  obtain ⟨z, hz⟩ := Option.isSome_iff_exists.1 h2.1
  exact ⟨i, z, hi, hz, h2.2.1, h2.2.2⟩
set_option maxHeartbeats 1000000 in
set_option maxRecDepth 100000 in
theorem freshP_any {α : Type} {w W : World} {Q : Nat → Prop} {R : α → List Value → Prop} {l : List α} {v : Value} (h : SliceI w Q 2 R l v) (hI : In Q w W) (hR : ∀ x cs, R x cs → CellsOk 2 cs) (hl : l.length ≤ 1000000) :
    Calls Try.prog 135 #[v] W (FreshP 48 R l W) := by
  obtain ⟨A, cap, rfl, hl1, hl2⟩ := h.shape
  obtain ⟨_, hnil, css, hr, hc⟩ := slice_cells h hI hR
  clear h hI
  cases A with
  | none =>
    have HN := hnil rfl
    subst HN
    clear hnil hc hr hl1 hl2
    have he : ∀ w : World, (binOp .eql 42 (.slice none 0 cap) (.slice none 0 0)).run Try.prog w = .ok (.bool true) w := fun _ => by kernel_rfl
    go_enter Try.func135, Try.ntmps135
    go_wp2
    go_ret
    exact .inl ⟨rfl, rfl, rfl⟩
  | some a =>
    have hc := hc a rfl
    have HRr := Lib.hid hr
    have hfl : (flatN css l.length).length = l.length * 2 := flatN_len (fun i hi => (hR _ _ (hr i hi)).1)
    have hone := flatN_one (fun i hi => hR _ _ (hr i hi))
    obtain ⟨i0, z0, hi, hz0, hz1, hz2⟩ := info_frP
    have hinfo : (Try.prog.info? 48).map (·.size) = some 2 := by rw [hi]; simp [hz1]
    obtain ⟨M, hM⟩ : ∃ M, M = madeCells z0.cells (((l.length : Nat) : Int).toNat * i0.size) := ⟨_, rfl⟩
    have hMs : M.size = l.length * 2 := by rw [hM, size_madeCells, hz1]; simp
    have hbb : i0.bytes * l.length ≤ 1000 * 1000000 := Nat.mul_le_mul hz2 hl
    have hbi : (i0.bytes : Int) * (l.length : Int) ≤ 281474976710656 := by have h := Int.ofNat_le.2 hbb; rw [Int.natCast_mul] at h; omega
    have hmk : ∀ W : World, (Instr.makeSlice 42 (.int .i64 (l.length : Int)) (.int .i64 (l.length : Int))).run Try.prog W = .ok (.slice (some ⟨W.heap.size, 0, none⟩) l.length l.length) (W.alloc (.cells M 48)) := fun W => by
      have h := run_make (P := Try.prog) W 42 48 i0 z0 Try.underlying42 hi hz0 .i64 .i64 (l.length : Int) (l.length : Int) (by omega) (by omega) hbi (by omega)
      rw [← hM] at h
      simpa using h
    have hba : ∀ j, j < (flatN css l.length).length → a.block < W.heap.size := fun j hj => by have := block_lt_of_cell (hc j _ (List.getElem?_eq_getElem hj)); rwa [block_add] at this
    have hcp := run_copy_all (P := Try.prog) (W.alloc (.cells M 48)) 42 42 3 48 W.heap.size l.length cap 2 a M 48 (flatN css l.length) Try.underlying42 hinfo (heap_alloc_new W _) hfl hMs
      (fun j v hj => by rw [((Below.refl _ W).alloc (Nat.le_refl _) _).cell (by rw [block_add]; exact hba j (List.getElem?_eq_some_iff.1 hj).1)]; exact hc j v hj) hone
    rw [alloc_setRow] at hcp
    obtain ⟨Y, hY⟩ : ∃ Y, Y = (flatN css l.length).toArray := ⟨_, rfl⟩
    rw [← hY] at hcp
    have HY := Lib.hid hY
    have he : ∀ w : World, (binOp .eql 42 (.slice (some a) l.length cap) (.slice none 0 0)).run Try.prog w = .ok (.bool false) w := fun _ => by kernel_rfl
    clear hY hone hfl hc hM hnil hr hR hba hbb hbi
    go_enter Try.func135, Try.ntmps135
    go_wp2
    go_ret
    exact .inr ⟨css, rfl, by rw [HY.out], HRr.out⟩
theorem info_frQ : ∃ i z, Try.prog.info? 45 = some i ∧ i.zero = some z ∧ i.size = 5 ∧ i.bytes ≤ 1000 := by
  have h : (Try.prog.info? 45).map (fun i => (i.zero.isSome, i.size, decide (i.bytes ≤ 1000))) = some (true, 5, true) := by kernel_rfl
  obtain ⟨i, hi, h2⟩ := Option.map_eq_some_iff.1 h
  simp only [Prod.mk.injEq, decide_eq_true_eq] at h2
  obtain ⟨z, hz⟩ := Option.isSome_iff_exists.1 h2.1
  exact ⟨i, z, hi, hz, h2.2.1, h2.2.2⟩
set_option maxHeartbeats 1000000 in
set_option maxRecDepth 100000 in
theorem freshQ_any {α : Type} {w W : World} {Q : Nat → Prop} {R : α → List Value → Prop} {l : List α} {v : Value} (h : SliceI w Q 5 R l v) (hI : In Q w W) (hR : ∀ x cs, R x cs → CellsOk 5 cs) (hl : l.length ≤ 1000000) :
    Calls Try.prog 98 #[v] W (FreshP 45 R l W) := by
  obtain ⟨A, cap, rfl, hl1, hl2⟩ := h.shape
  obtain ⟨_, hnil, css, hr, hc⟩ := slice_cells h hI hR
  clear h hI
  cases A with
  | none =>
    have HN := hnil rfl
    subst HN
    clear hnil hc hr hl1 hl2
    have he : ∀ w : World, (binOp .eql 23 (.slice none 0 cap) (.slice none 0 0)).run Try.prog w = .ok (.bool true) w := fun _ => by kernel_rfl
    go_enter Try.func98, Try.ntmps98
    go_wp2
    go_ret
    exact .inl ⟨rfl, rfl, rfl⟩
  | some a =>
    have hc := hc a rfl
    have HRr := Lib.hid hr
    have hfl : (flatN css l.length).length = l.length * 5 := flatN_len (fun i hi => (hR _ _ (hr i hi)).1)
    have hone := flatN_one (fun i hi => hR _ _ (hr i hi))
    obtain ⟨i0, z0, hi, hz0, hz1, hz2⟩ := info_frQ
    have hinfo : (Try.prog.info? 45).map (·.size) = some 5 := by rw [hi]; simp [hz1]
    obtain ⟨M, hM⟩ : ∃ M, M = madeCells z0.cells (((l.length : Nat) : Int).toNat * i0.size) := ⟨_, rfl⟩
    have hMs : M.size = l.length * 5 := by rw [hM, size_madeCells, hz1]; simp
    have hbb : i0.bytes * l.length ≤ 1000 * 1000000 := Nat.mul_le_mul hz2 hl
    have hbi : (i0.bytes : Int) * (l.length : Int) ≤ 281474976710656 := by have h := Int.ofNat_le.2 hbb; rw [Int.natCast_mul] at h; omega
    have hmk : ∀ W : World, (Instr.makeSlice 23 (.int .i64 (l.length : Int)) (.int .i64 (l.length : Int))).run Try.prog W = .ok (.slice (some ⟨W.heap.size, 0, none⟩) l.length l.length) (W.alloc (.cells M 45)) := fun W => by
      have h := run_make (P := Try.prog) W 23 45 i0 z0 Try.underlying23 hi hz0 .i64 .i64 (l.length : Int) (l.length : Int) (by omega) (by omega) hbi (by omega)
      rw [← hM] at h
      simpa using h
    have hba : ∀ j, j < (flatN css l.length).length → a.block < W.heap.size := fun j hj => by have := block_lt_of_cell (hc j _ (List.getElem?_eq_getElem hj)); rwa [block_add] at this
    have hcp := run_copy_all (P := Try.prog) (W.alloc (.cells M 45)) 23 23 3 45 W.heap.size l.length cap 5 a M 45 (flatN css l.length) Try.underlying23 hinfo (heap_alloc_new W _) hfl hMs
      (fun j v hj => by rw [((Below.refl _ W).alloc (Nat.le_refl _) _).cell (by rw [block_add]; exact hba j (List.getElem?_eq_some_iff.1 hj).1)]; exact hc j v hj) hone
    rw [alloc_setRow] at hcp
    obtain ⟨Y, hY⟩ : ∃ Y, Y = (flatN css l.length).toArray := ⟨_, rfl⟩
    rw [← hY] at hcp
    have HY := Lib.hid hY
    have he : ∀ w : World, (binOp .eql 23 (.slice (some a) l.length cap) (.slice none 0 0)).run Try.prog w = .ok (.bool false) w := fun _ => by kernel_rfl
    clear hY hone hfl hc hM hnil hr hR hba hbb hbi
    go_enter Try.func98, Try.ntmps98
    go_wp2
    go_ret
    exact .inr ⟨css, rfl, by rw [HY.out], HRr.out⟩
end Go.Proofs.Ytehpinnmalpgpaa
namespace Go.Proofs.Ytehpinnmalpgpaa
open Go.ChangeShapes Go.WideShapes Go.ChangeAt Go.RowKit Go.Deep
set_option linter.unusedVariables false
/-- texts that a copy takes no great memory for -/
def smT (l : List ByteArray) : Prop := l.length ≤ 1000000 ∧ ∀ s ∈ l, s.size ≤ 1000000
/-- parameters that a copy takes no great memory for -/
def smP (l : List Pa) : Prop := l.length ≤ 1000000 ∧ ∀ s ∈ l, s.nm.size ≤ 1000000
end Go.Proofs.Ytehpinnmalpgpaa
namespace Go.Proofs.Ytehpinnmalpgpaa
open Go.ChangeShapes Go.WideShapes Go.ChangeAt Go.RowKit Go.Deep
set_option linter.unusedVariables false
def slH {α : Type} (h : Hole α) : SL := (⟨h.b, h.o, none⟩, h.ts.length, h.cap)
/-- the cells of the piece, in W, read by R -/
def atH {α : Type} (C : Nat) (R : α → List Value → Prop) (W : World) (h : Hole α) : Prop :=
  ∀ i (hi : i < h.ts.length), ∃ cs, R h.ts[i] cs ∧ ∀ j u, cs[j]? = some u → W.cell? ⟨h.b, h.o + i * C + j, none⟩ = some u
def cov {α : Type} (C : Nat) (hs : List (Hole α)) (b off : Nat) : Prop := ∃ h ∈ hs, h.b = b ∧ h.o ≤ off ∧ off < h.o + h.ts.length * C
abbrev nb (base : Nat) (W : World) : Nat → Prop := fun b => base ≤ b ∧ b < W.heap.size
/-- whatever fills the holes and leaves the rest of the blocks T as it is: then G -/
def Compl {α : Type} (C : Nat) (R : World → (Nat → Prop) → α → List Value → Prop) (base : Nat) (T : Nat → Prop) (W : World) (hs : List (Hole α)) (G : World → Prop) : Prop :=
  ∀ W', W.heap.size ≤ W'.heap.size → (∀ p : Addr, T p.block → ¬ cov C hs p.block p.off → W'.cell? p = W.cell? p) → (∀ h ∈ hs, atH C (R W' (nb base W')) W' h) → G W'
def disH {α : Type} (C : Nat) (h k : Hole α) : Prop := h.b ≠ k.b ∨ h.o + h.ts.length * C ≤ k.o ∨ k.o + k.ts.length * C ≤ h.o
/-- the copy as far as it is -/
structure Copy {α : Type} (C : Nat) (R : World → (Nat → Prop) → α → List Value → Prop) (w : World) (Q : Nat → Prop) (base : Nat) (G : World → Prop) (W : World) (hs : List (Hole α)) (T : Nat → Prop) : Prop where
  tb : ∀ b, T b → base ≤ b ∧ b < W.heap.size
  raw : ∀ h ∈ hs, T h.b ∧ (∃ t cs, Blk W h.b t cs) ∧ atH C (R w Q) W h
  dis : hs.Pairwise (disH C)
  compl : Compl C R base T W hs G
section
variable {α : Type} {C : Nat} {R : World → (Nat → Prop) → α → List Value → Prop} {w W W' : World} {Q : Nat → Prop} {base : Nat} {G : World → Prop} {hs : List (Hole α)} {T : Nat → Prop}
theorem atH_same {R : α → List Value → Prop} {h : Hole α} (hk : ∀ off, h.o ≤ off → off < h.o + h.ts.length * C → W'.cell? ⟨h.b, off, none⟩ = W.cell? ⟨h.b, off, none⟩) (hC : ∀ x cs, R x cs → CellsOk C cs) (ha : atH C R W h) : atH C R W' h := by
  intro i hi
  obtain ⟨cs, h1, h2⟩ := ha i hi
  refine ⟨cs, h1, fun j u hu => ?_⟩
  have hj : j < C := by rw [← (hC _ _ h1).1]; exact (List.getElem?_eq_some_iff.1 hu).1
  have : i * C + j < h.ts.length * C := by
    have := Nat.mul_le_mul_right C (show i + 1 ≤ h.ts.length by omega)
    rw [Nat.succ_mul] at this
    omega
  rw [hk _ (by omega) (by omega)]
  exact h2 j u hu
theorem slice_of_at {R : α → List Value → Prop} {V : World} {b cap : Nat} {l : List α} (h1 : atH C R V ⟨b, 0, l, cap⟩) (hCk : ∀ x cs, R x cs → CellsOk C cs) (hC0 : 0 < C) (hb : base ≤ b) (hl : l.length ≤ 1000000) : SliceI V (nb base V) C R l (.slice (some ⟨b, 0, none⟩) l.length l.length) := by
  have h2 : ∀ i, ∃ cs, ∀ (hi : i < l.length), R l[i] cs ∧ ∀ j u, cs[j]? = some u → V.cell? ⟨b, 0 + i * C + j, none⟩ = some u := fun i => by
    by_cases hi : i < l.length
    · obtain ⟨cs, h3⟩ := h1 i hi; exact ⟨cs, fun _ => h3⟩
    · exact ⟨[], fun h => absurd h hi⟩
  obtain ⟨ds, hds⟩ := Classical.axiomOfChoice h2
  refine ⟨_, l.length, ds, rfl, ⟨Nat.le_refl _, by omega⟩, fun hpos => ⟨_, rfl, ⟨hb, ?_⟩, fun i hi j u hu => ?_⟩, fun i hi => (hds i hi).1⟩
  · have h3 := hds 0 hpos
    have h4 : 0 < (ds 0).length := by rw [(hCk _ _ h3.1).1]; exact hC0
    have h5 := block_lt_of_cell (h3.2 0 _ (List.getElem?_eq_getElem h4))
    exact h5
  · rw [addr0]; have := (hds i hi).2 j u hu; rw [Nat.zero_add] at this; exact this
end
end Go.Proofs.Ytehpinnmalpgpaa
namespace Go.Proofs.Ytehpinnmalpgpaa
open Go.ChangeShapes Go.WideShapes Go.ChangeAt Go.RowKit Go.Deep
set_option linter.unusedVariables false
theorem ExprI.to_slice {V : World} {Q : Nat → Prop} {op n : Int} {nm : ByteArray} {ks : List E} {cs : List Value} (h : ExprI V Q (.mk op n nm ks) cs) : ∃ v, cs = [.int .i64 op, .int .i64 n, .string nm, v] ∧ SliceI V Q 4 (ExprI V Q) ks v ∧ i64 op ∧ i64 n ∧ nm.size ≤ 9223372036854775807 := by
  cases h with
  | mk hop hn hnm hcap hA hk => exact ⟨_, rfl, ⟨_, _, _, rfl, hcap, hA, hk⟩, hop, hn, hnm⟩
theorem wL_mem {ks : List E} {k : E} (h : k ∈ ks) : wE k ≤ wL ks := by
  induction ks with
  | nil => simp at h
  | cons x ks ih =>
    rw [wL]
    rcases List.mem_cons.1 h with rfl | h
    · omega
    · have := ih h; omega
theorem wL_len (ks : List E) : ks.length ≤ wL ks := by
  induction ks with
  | nil => exact Nat.zero_le _
  | cons x ks ih => rw [wL, List.length_cons]; cases x; rw [wE]; omega
/-- an expression that is not too great -/
def RE (w : World) (Q : Nat → Prop) (x : E) (cs : List Value) : Prop := ExprI w Q x cs ∧ wE x ≤ 1000000
theorem reOk (w : World) (Q : Nat → Prop) (x : E) (cs : List Value) (h : RE w Q x cs) : CellsOk 4 cs := exprOk w Q x cs h.1
/-- how many nodes are ahead -/
def szH : List (Hole E) → Nat
  | [] => 0
  | h :: hs => sizL h.ts + szH hs
theorem cell_set_ne {w : World} {p q : Addr} (u : Value) (h : q ≠ p) : (w.setCell p u).cell? q = w.cell? q := World.cell?_setCell_other _ _ _ _ (fun e => h e.symm)
theorem slice_er {V : World} {Q : Nat → Prop} {ks : List E} {v : Value} (h : SliceI V Q 4 (RE V Q) ks v) : SliceI V Q 4 (ExprI V Q) ks v := by
  obtain ⟨A, cap, css, h1, h2, h3, h4⟩ := h
  exact ⟨A, cap, css, h1, h2, h3, fun i hi => (h4 i hi).1⟩
end Go.Proofs.Ytehpinnmalpgpaa
namespace Go.Proofs.Ytehpinnmalpgpaa
open Go.ChangeShapes Go.WideShapes Go.ChangeAt Go.RowKit Go.Deep
set_option linter.unusedVariables false
theorem FreshP.below {α : Type} {t : TypeId} {R : α → List Value → Prop} {l : List α} {W w' : World} {e : Ending} (h : FreshP t R l W e w') : Below W.heap.size W w' := by
  rcases h with ⟨_, _, rfl⟩ | ⟨css, _, rfl, _⟩
  · exact Below.refl _ _
  · exact below_box _
theorem FreshP.value {α : Type} {t : TypeId} {R : α → List Value → Prop} {l : List α} {W w' : World} {e : Ending} (h : FreshP t R l W e w') : ∃ A cap, e = .returned (.slice A l.length cap) := by
  rcases h with ⟨rfl, rfl, _⟩ | ⟨css, rfl, _⟩
  · exact ⟨_, _, rfl⟩
  · exact ⟨_, _, rfl⟩
theorem freshE_v {w W : World} {Q : Nat → Prop} {l : List E} {v : Value} (h : SliceI w Q 4 (ExprI w Q) l v) (hI : In Q w W) (hw : wL l ≤ 1000000) :
    Calls Try.prog 149 #[v] W fun e w' => ∃ A cap, e = .returned (.slice A l.length cap) ∧ FreshP 57 (RE w Q) l W (.returned (.slice A l.length cap)) w' ∧ Below W.heap.size W w' := by
  have h' : SliceI w Q 4 (RE w Q) l v := by
    obtain ⟨A, cap, css, h1, h2, h3, h4⟩ := h
    exact ⟨A, cap, css, h1, h2, h3, fun i hi => ⟨h4 i hi, Nat.le_trans (wL_mem (List.getElem_mem hi)) hw⟩⟩
  refine (freshE_any h' hI (reOk w Q) (Nat.le_trans (wL_len l) hw)).mono ?_
  intro e w' hf
  obtain ⟨A, cap, rfl⟩ := hf.value
  exact ⟨A, cap, rfl, hf, hf.below⟩
abbrev zE : Array Value := #[.int .i64 0, .int .i64 0, .string ⟨#[]⟩, .slice none 0 0]
/-- a new variable of that kind: its cells -/
def NewE (w : World) (b : Nat) : Prop := (w.cell? ⟨b, 0, none⟩ = some (.int .i64 0) ∧ w.cell? ⟨b, 1, none⟩ = some (.int .i64 0) ∧ w.cell? ⟨b, 2, none⟩ = some (.string ⟨#[]⟩) ∧ w.cell? ⟨b, 3, none⟩ = some (.slice none 0 0)) ∧ w.frozen? ⟨b, 0, none⟩ = false ∧ w.frozen? ⟨b, 1, none⟩ = false ∧ w.frozen? ⟨b, 2, none⟩ = false ∧ w.frozen? ⟨b, 3, none⟩ = false
theorem newE_of {w : World} {b : Nat} (h : Blk w b 57 zE) : NewE w b := ⟨⟨by rw [h.cell]; rfl, by rw [h.cell]; rfl, by rw [h.cell]; rfl, by rw [h.cell]; rfl⟩, h.frozen 0, h.frozen 1, h.frozen 2, h.frozen 3⟩
theorem below_set4 {V U : World} (h : Below V.heap.size V U) {b : Nat} (hb : V.heap.size ≤ b) (v0 v1 v2 v3 : Value) : Below V.heap.size V ((((U.setCell ⟨b, 0, none⟩ v0).setCell ⟨b, 1, none⟩ v1).setCell ⟨b, 2, none⟩ v2).setCell ⟨b, 3, none⟩ v3) := below_setc (below_setc (below_setc (below_setc h hb _) hb _) hb _) hb _
theorem sx_of {V U : World} {b : Nat} {v0 v1 v2 v3 : Value} (h : Below V.heap.size V U) (hk : b < V.heap.size ∧ V.cell? ⟨b, 0, none⟩ = some v0 ∧ V.cell? ⟨b, 1, none⟩ = some v1 ∧ V.cell? ⟨b, 2, none⟩ = some v2 ∧ V.cell? ⟨b, 3, none⟩ = some v3) :
    U.cell? ⟨b, 0, none⟩ = some v0 ∧ U.cell? ⟨b, 1, none⟩ = some v1 ∧ U.cell? ⟨b, 2, none⟩ = some v2 ∧ U.cell? ⟨b, 3, none⟩ = some v3 ∧ Below V.heap.size V U :=
  ⟨(h.cell (p := ⟨b, 0, none⟩) hk.1).trans hk.2.1, (h.cell (p := ⟨b, 1, none⟩) hk.1).trans hk.2.2.1, (h.cell (p := ⟨b, 2, none⟩) hk.1).trans hk.2.2.2.1, (h.cell (p := ⟨b, 3, none⟩) hk.1).trans hk.2.2.2.2, h⟩
section
variable {α : Type} {C : Nat} {R : World → (Nat → Prop) → α → List Value → Prop} {w W W' : World} {Q : Nat → Prop} {base : Nat} {G : World → Prop} {hs : List (Hole α)} {T : Nat → Prop}
end
/-- the kids' new row -/
def KidR (w : World) (Q : Nat → Prop) (ks : List E) (A : Option Addr) (cap B ob : Nat) (W : World) : Prop :=
  (ks.length ≤ cap ∧ cap ≤ 9223372036854775807) ∧ (ks = [] ∨ ∃ b css, A = some ⟨b, 0, none⟩ ∧ cap = ks.length ∧ B ≤ b ∧ b ≠ ob ∧ Blk W b 57 (flatN css ks.length).toArray ∧ ∀ i (h : i < ks.length), RE w Q ks[i] (css i))
theorem fresh_kid {w U q : World} {Q : Nat → Prop} {ks : List E} {A : Option Addr} {cap : Nat} (hf : FreshP 57 (RE w Q) ks U (.returned (.slice A ks.length cap)) q) (hl : ks.length ≤ 1000000) :
    (ks.length ≤ cap ∧ cap ≤ 9223372036854775807) ∧ (ks = [] ∨ ∃ css, A = some ⟨U.heap.size, 0, none⟩ ∧ cap = ks.length ∧ Blk q U.heap.size 57 (flatN css ks.length).toArray ∧ ∀ i (h : i < ks.length), RE w Q ks[i] (css i)) := by
  rcases hf with ⟨rfl, e, _⟩ | ⟨css, e, rfl, hr⟩
  · simp only [Ending.returned.injEq, Value.slice.injEq] at e
    obtain ⟨_, _, rfl⟩ := e
    exact ⟨⟨Nat.le_refl _, by omega⟩, .inl rfl⟩
  · simp only [Ending.returned.injEq, Value.slice.injEq] at e
    obtain ⟨rfl, _, rfl⟩ := e
    exact ⟨⟨Nat.le_refl _, by omega⟩, .inr ⟨css, rfl, rfl, Blk.new _ _ _, hr⟩⟩
/-- what the first statement of cloneExpr leaves: the new expression with the kids' new row -/
structure RelX (w : World) (Q : Nat → Prop) (V : World) (op n : Int) (nm : ByteArray) (ks : List E) (ob : Nat) (A : Option Addr) (cap : Nat) (W : World) : Prop where
  blk : Blk W ob 57 #[.int .i64 op, .int .i64 n, .string nm, .slice A ks.length cap]
  below : Below V.heap.size V W
  le : V.heap.size ≤ ob
  kid : KidR w Q ks A cap V.heap.size ob W
theorem relX_alloc {w V U q : World} {Q : Nat → Prop} {op n : Int} {nm : ByteArray} {ks : List E} {A : Option Addr} {cap : Nat} (hb : Below V.heap.size V q) (hf : FreshP 57 (RE w Q) ks U (.returned (.slice A ks.length cap)) q) (hl : ks.length ≤ 1000000) (hU : V.heap.size ≤ U.heap.size) :
    RelX w Q V op n nm ks q.heap.size A cap (q.alloc (.cells #[.int .i64 op, .int .i64 n, .string nm, .slice A ks.length cap] 57)) := by
  obtain ⟨h1, h2⟩ := fresh_kid hf hl
  refine ⟨Blk.new _ _ _, below_stepA hb _, hb.size, h1, h2.imp id ?_⟩
  rintro ⟨css, e1, e2, hB, hr⟩
  exact ⟨_, css, e1, e2, hU, Nat.ne_of_lt hB.lt, hB.alloc _, hr⟩
theorem relX_set {w V U q : World} {Q : Nat → Prop} {op n : Int} {nm : ByteArray} {ks : List E} {A : Option Addr} {cap ob : Nat} (z : Blk q ob 57 zE) (hb : Below V.heap.size V q) (hf : FreshP 57 (RE w Q) ks U (.returned (.slice A ks.length cap)) q) (hl : ks.length ≤ 1000000) (hU : V.heap.size ≤ U.heap.size) (ho : V.heap.size ≤ ob) (hne : U.heap.size ≠ ob) :
    RelX w Q V op n nm ks ob A cap ((((q.setCell ⟨ob, 0, none⟩ (.int .i64 op)).setCell ⟨ob, 1, none⟩ (.int .i64 n)).setCell ⟨ob, 2, none⟩ (.string nm)).setCell ⟨ob, 3, none⟩ (.slice A ks.length cap)) := by
  obtain ⟨h1, h2⟩ := fresh_kid hf hl
  refine ⟨(((z.set_ 0 _).set_ 1 _).set_ 2 _).set_ 3 _, below_set4 hb ho _ _ _ _, ho, h1, h2.imp id ?_⟩
  rintro ⟨css, e1, e2, hB, hr⟩
  exact ⟨_, css, e1, e2, hU, hne, (((hB.far hne _).far hne _).far hne _).far hne _, hr⟩
theorem len_szH {hs : List (Hole E)} (hg : ∀ x ∈ hs.map slH, goodS x) : hs.length ≤ szH hs := by
  induction hs with
  | nil => exact Nat.zero_le _
  | cons k hs ih =>
    have h1 := ih (fun x hx => hg x (by rw [List.map_cons]; exact List.mem_cons_of_mem _ hx))
    have h2 := (hg (slH k) (by rw [List.map_cons]; exact List.mem_cons_self ..)).1
    obtain ⟨b, o, ts, cap⟩ := k
    rw [szH, List.length_cons]
    cases ts with
    | nil => simp [slH] at h2
    | cons t ts => simp only [sizL]; cases t; rw [sizE]; omega
theorem CurE.own_lt {w : World} {base c : Nat} {v : Value} {last : Option Addr} {s : List SL} (h : CurE w base c v last s) {k : Nat} (hk : ownE c v k) : k < w.heap.size := by
  rcases hk with rfl | hk
  · exact h.blk.lt
  · rcases h.row.2 with ⟨rfl, _⟩ | ⟨g, cap, cur, rfl, _, hg, _⟩
    · simp [Value.ownBlock] at hk
    · have : g = k := by simpa [Value.ownBlock] using hk
      subst this
      exact (Array.getElem?_eq_some_iff.1 hg).1
end Go.Proofs.Ytehpinnmalpgpaa
