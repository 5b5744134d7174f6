/- Texts, merged by a program; only what is used. -/
import Derived.Test.YtcocilpifdjibaaK1
import Derived.Test.YtcocilpifdjibaaK2
import Derived.Test.YtcocilpifdjibaaK3
import Derived.Test.YtcocilpifdjibaaK4
import Derived.Test.YtcocilpifdjibaaK5
import Derived.Test.YtcocilpifdjibaaK6
namespace Go.Proofs.Ytcocilpifdjibaa
open Go.ChangeShapes Go.WideShapes Go.ChangeAt Go.RowKit Go.Deep
set_option linter.unusedVariables false
/-- n pieces one behind the other -/
def flatN (css : Nat → List Value) : Nat → List Value
  | 0 => []
  | n + 1 => flatN css n ++ css n
section
variable {css : Nat → List Value} {C : Nat}
theorem flatN_len {n : Nat} (h : ∀ i, i < n → (css i).length = C) : (flatN css n).length = n * C := by
  induction n with
  | zero => simp [flatN]
  | succ n ih => rw [flatN, List.length_append, ih (fun i hi => h i (by omega)), h n (by omega), Nat.succ_mul]
theorem flatN_get {n : Nat} (h : ∀ i, i < n → (css i).length = C) {i j : Nat} (hi : i < n) (hj : j < C) : (flatN css n)[i * C + j]? = (css i)[j]? := by
  induction n with
  | zero => omega
  | succ n ih =>
    have hl : (flatN css n).length = n * C := flatN_len (fun i hi => h i (by omega))
    rw [flatN]
    by_cases hin : i < n
    · have : i * C + j < n * C := by
        have := Nat.mul_le_mul_right C (show i + 1 ≤ n by omega)
        rw [Nat.succ_mul] at this
        omega
      rw [List.getElem?_append_left (by rw [hl]; exact this)]
      exact ih (fun i hi => h i (by omega)) hin
    · have e : i = n := by omega
      subst e
      rw [List.getElem?_append_right (by rw [hl]; omega), hl]
      congr 1
      omega
theorem flatN_of {n : Nat} (h : ∀ i, i < n → (css i).length = C) {k : Nat} {u : Value} (hk : (flatN css n)[k]? = some u) : ∃ i j, i < n ∧ k = i * C + j ∧ (css i)[j]? = some u := by
  induction n with
  | zero => simp [flatN] at hk
  | succ n ih =>
    have hl : (flatN css n).length = n * C := flatN_len (fun i hi => h i (by omega))
    rw [flatN] at hk
    by_cases hkn : k < n * C
    · rw [List.getElem?_append_left (by rw [hl]; exact hkn)] at hk
      obtain ⟨i, j, h1, h2, h3⟩ := ih (fun i hi => h i (by omega)) hk
      exact ⟨i, j, by omega, h2, h3⟩
    · rw [List.getElem?_append_right (by rw [hl]; omega), hl] at hk
      exact ⟨n, k - n * C, by omega, by omega, hk⟩
end
def CellsOk (C : Nat) (cs : List Value) : Prop := cs.length = C ∧ ∀ u ∈ cs, u.oneCell' = true
theorem flatN_one {css : Nat → List Value} {C n : Nat} (h : ∀ i, i < n → CellsOk C (css i)) : ∀ u ∈ flatN css n, u.oneCell' = true := by
  intro u hu
  obtain ⟨k, hk⟩ := List.getElem?_of_mem hu
  obtain ⟨i, j, hi, _, h3⟩ := flatN_of (fun i hi => (h i hi).1) hk
  exact (h i hi).2 u (List.mem_of_getElem? h3)
/-- 'copy' of a whole row -/
theorem run_copy_all {P : Program} (w : World) (dT sT ty elem : TypeId) (g n cap C : Nat) (a : Addr) (M : Array Value) (t : TypeId) (cs : List Value)
    (hu : P.underlying dT = some (.slice elem)) (hs : (P.info? elem).map (·.size) = some C)
    (hg : w.heap[g]? = some (.cells M t (0, 0))) (hn : cs.length = n * C) (hM : M.size = n * C)
    (hsrc : ∀ j v, cs[j]? = some v → w.cell? (a.add j) = some v) (h1 : ∀ v ∈ cs, v.oneCell' = true) :
    (Builtin.copy_ #[dT, sT] ty #[.slice (some ⟨g, 0, none⟩) n n, .slice (some a) n cap]).run P w = .ok (goInt n) (w.setRow g cs.toArray) := by
  have hl := run_loadCells_list (P := P) w a cs hsrc
  have hst := run_storeCells_at P g 0 t cs 0 M w hg (by omega) h1
  have e : (M.toList.take (0 + 0) ++ cs ++ M.toList.drop (0 + 0 + cs.length)) = cs := by
    rw [List.take_zero, List.nil_append, List.drop_of_length_le (by rw [Array.length_toList]; omega), List.append_nil]
  rw [e] at hst
  cases hq : P.info? elem with
  | none => simp [hq] at hs
  | some i =>
    have hi : i.size = C := by simpa [hq] using hs
    simp [Builtin.copy_, run_underlying hu, Builtin.lenOf, Builtin.firstCells, sizeOf, typeInfo, hq, hi, ← hn, hl, hst]
theorem alloc_setRow (w : World) (M Y : Array Value) (t : TypeId) : (w.alloc (.cells M t)).setRow w.heap.size Y = w.alloc (.cells Y t) := by
  unfold World.setRow World.alloc
  congr 1
  apply Array.ext
  · simp
  · intro k h1 h2
    simp only [Array.getElem_modify]
    by_cases hk : k = w.heap.size
    · subst hk; simp
    · have hlt : k < w.heap.size := by simp at h2; omega
      rw [if_neg (fun e => hk e.symm), Array.getElem_push_lt hlt, Array.getElem_push_lt hlt]
/-- what fresh leaves: nil of nil, else a new row with the same cells -/
def FreshP {α : Type} (t : TypeId) (R : α → List Value → Prop) (l : List α) (W : World) (e : Ending) (w' : World) : Prop :=
  (l = [] ∧ e = .returned (.slice none 0 0) ∧ w' = W) ∨ ∃ css : Nat → List Value, e = .returned (.slice (some ⟨W.heap.size, 0, none⟩) l.length l.length) ∧ w' = W.alloc (.cells (flatN css l.length).toArray t) ∧ ∀ i (h : i < l.length), R l[i] (css i)
theorem slice_cells {α : Type} {w W : World} {Q : Nat → Prop} {C : Nat} {R : α → List Value → Prop} {l : List α} {A : Option Addr} {n cap : Nat} (h : SliceI w Q C R l (.slice A n cap)) (hI : In Q w W) (hR : ∀ x cs, R x cs → CellsOk C cs) :
    n = l.length ∧ (A = none → l = []) ∧ ∃ css : Nat → List Value, (∀ i (h : i < l.length), R l[i] (css i)) ∧ ∀ a, A = some a → ∀ j v, (flatN css l.length)[j]? = some v → W.cell? (a.add j) = some v := by
  obtain ⟨A', cap', css, h1, h2, h3, h4⟩ := h
  simp only [Value.slice.injEq] at h1
  obtain ⟨rfl, rfl, rfl⟩ := h1
  refine ⟨rfl, fun hn => ?_, css, h4, ?_⟩
  · cases l with
    | nil => rfl
    | cons x l => obtain ⟨a, ha, _⟩ := h3 (by simp); rw [hn] at ha; cases ha
  · intro a ha j v hj
    obtain ⟨i, k, hi, rfl, hu⟩ := flatN_of (fun i hi => (hR _ _ (h4 i hi)).1) hj
    obtain ⟨a', ha', hq, hc⟩ := h3 (by omega)
    rw [ha] at ha'
    injection ha' with ha'
    subst ha'
    rw [hI.cell (by rw [block_add]; exact hq)]
    exact hc i hi k v hu
theorem info_frT : ∃ i z, Try.prog.info? 9 = some i ∧ i.zero = some z ∧ i.size = 1 ∧ i.bytes ≤ 1000 := by
  have h : (Try.prog.info? 9).map (fun i => (i.zero.isSome, i.size, decide (i.bytes ≤ 1000))) = some (true, 1, true) := by kernel_rfl
  obtain ⟨i, hi, h2⟩ := Option.map_eq_some_iff.1 h
  simp only [Prod.mk.injEq, decide_eq_true_eq] at h2
  obtain ⟨z, hz⟩ := Option.isSome_iff_exists.1 h2.1
  exact ⟨i, z, hi, hz, h2.2.1, h2.2.2⟩
set_option maxHeartbeats 1000000 in
set_option maxRecDepth 100000 in
theorem freshT_any {α : Type} {w W : World} {Q : Nat → Prop} {R : α → List Value → Prop} {l : List α} {v : Value} (h : SliceI w Q 1 R l v) (hI : In Q w W) (hR : ∀ x cs, R x cs → CellsOk 1 cs) (hl : l.length ≤ 1000000) :
    Calls Try.prog 175 #[v] W (FreshP 9 R l W) := by
  obtain ⟨A, cap, rfl, hl1, hl2⟩ := h.shape
  obtain ⟨_, hnil, css, hr, hc⟩ := slice_cells h hI hR
  clear h hI
  cases A with
  | none =>
    have HN := hnil rfl
    subst HN
    clear hnil hc hr hl1 hl2
    have he : ∀ w : World, (binOp .eql 22 (.slice none 0 cap) (.slice none 0 0)).run Try.prog w = .ok (.bool true) w := fun _ => by kernel_rfl
    go_enter Try.func175, Try.ntmps175
    go_wp2
    go_ret
    exact .inl ⟨rfl, rfl, rfl⟩
  | some a =>
    have hc := hc a rfl
    have HRr := Lib.hid hr
    have hfl : (flatN css l.length).length = l.length * 1 := flatN_len (fun i hi => (hR _ _ (hr i hi)).1)
    have hone := flatN_one (fun i hi => hR _ _ (hr i hi))
    obtain ⟨i0, z0, hi, hz0, hz1, hz2⟩ := info_frT
    have hinfo : (Try.prog.info? 9).map (·.size) = some 1 := by rw [hi]; simp [hz1]
    obtain ⟨M, hM⟩ : ∃ M, M = madeCells z0.cells (((l.length : Nat) : Int).toNat * i0.size) := ⟨_, rfl⟩
    have hMs : M.size = l.length * 1 := by rw [hM, size_madeCells, hz1]; simp
    have hbb : i0.bytes * l.length ≤ 1000 * 1000000 := Nat.mul_le_mul hz2 hl
    have hbi : (i0.bytes : Int) * (l.length : Int) ≤ 281474976710656 := by have h := Int.ofNat_le.2 hbb; rw [Int.natCast_mul] at h; omega
    have hmk : ∀ W : World, (Instr.makeSlice 22 (.int .i64 (l.length : Int)) (.int .i64 (l.length : Int))).run Try.prog W = .ok (.slice (some ⟨W.heap.size, 0, none⟩) l.length l.length) (W.alloc (.cells M 9)) := fun W => by
      have h := run_make (P := Try.prog) W 22 9 i0 z0 Try.underlying22 hi hz0 .i64 .i64 (l.length : Int) (l.length : Int) (by omega) (by omega) hbi (by omega)
      rw [← hM] at h
      simpa using h
    have hba : ∀ j, j < (flatN css l.length).length → a.block < W.heap.size := fun j hj => by have := block_lt_of_cell (hc j _ (List.getElem?_eq_getElem hj)); rwa [block_add] at this
    have hcp := run_copy_all (P := Try.prog) (W.alloc (.cells M 9)) 22 22 3 9 W.heap.size l.length cap 1 a M 9 (flatN css l.length) Try.underlying22 hinfo (heap_alloc_new W _) hfl hMs
      (fun j v hj => by rw [((Below.refl _ W).alloc (Nat.le_refl _) _).cell (by rw [block_add]; exact hba j (List.getElem?_eq_some_iff.1 hj).1)]; exact hc j v hj) hone
    rw [alloc_setRow] at hcp
    obtain ⟨Y, hY⟩ : ∃ Y, Y = (flatN css l.length).toArray := ⟨_, rfl⟩
    rw [← hY] at hcp
    have HY := Lib.hid hY
    have he : ∀ w : World, (binOp .eql 22 (.slice (some a) l.length cap) (.slice none 0 0)).run Try.prog w = .ok (.bool false) w := fun _ => by kernel_rfl
    clear hY hone hfl hc hM hnil hr hR hba hbb hbi
    go_enter Try.func175, Try.ntmps175
    go_wp2
    go_ret
    exact .inr ⟨css, rfl, by rw [HY.out], HRr.out⟩
theorem info_frE : ∃ i z, Try.prog.info? 45 = some i ∧ i.zero = some z ∧ i.size = 4 ∧ i.bytes ≤ 1000 := by
  have h : (Try.prog.info? 45).map (fun i => (i.zero.isSome, i.size, decide (i.bytes ≤ 1000))) = some (true, 4, true) := by kernel_rfl
  obtain ⟨i, hi, h2⟩ := Option.map_eq_some_iff.1 h
  simp only [Prod.mk.injEq, decide_eq_true_eq] at h2
  obtain ⟨z, hz⟩ := Option.isSome_iff_exists.1 h2.1
  exact ⟨i, z, hi, hz, h2.2.1, h2.2.2⟩
set_option maxHeartbeats 1000000 in
set_option maxRecDepth 100000 in
theorem freshE_any {α : Type} {w W : World} {Q : Nat → Prop} {R : α → List Value → Prop} {l : List α} {v : Value} (h : SliceI w Q 4 R l v) (hI : In Q w W) (hR : ∀ x cs, R x cs → CellsOk 4 cs) (hl : l.length ≤ 1000000) :
    Calls Try.prog 199 #[v] W (FreshP 45 R l W) := by
  obtain ⟨A, cap, rfl, hl1, hl2⟩ := h.shape
  obtain ⟨_, hnil, css, hr, hc⟩ := slice_cells h hI hR
  clear h hI
  cases A with
  | none =>
    have HN := hnil rfl
    subst HN
    clear hnil hc hr hl1 hl2
    have he : ∀ w : World, (binOp .eql 43 (.slice none 0 cap) (.slice none 0 0)).run Try.prog w = .ok (.bool true) w := fun _ => by kernel_rfl
    go_enter Try.func199, Try.ntmps199
    go_wp2
    go_ret
    exact .inl ⟨rfl, rfl, rfl⟩
  | some a =>
    have hc := hc a rfl
    have HRr := Lib.hid hr
    have hfl : (flatN css l.length).length = l.length * 4 := flatN_len (fun i hi => (hR _ _ (hr i hi)).1)
    have hone := flatN_one (fun i hi => hR _ _ (hr i hi))
    obtain ⟨i0, z0, hi, hz0, hz1, hz2⟩ := info_frE
    have hinfo : (Try.prog.info? 45).map (·.size) = some 4 := by rw [hi]; simp [hz1]
    obtain ⟨M, hM⟩ : ∃ M, M = madeCells z0.cells (((l.length : Nat) : Int).toNat * i0.size) := ⟨_, rfl⟩
    have hMs : M.size = l.length * 4 := by rw [hM, size_madeCells, hz1]; simp
    have hbb : i0.bytes * l.length ≤ 1000 * 1000000 := Nat.mul_le_mul hz2 hl
    have hbi : (i0.bytes : Int) * (l.length : Int) ≤ 281474976710656 := by have h := Int.ofNat_le.2 hbb; rw [Int.natCast_mul] at h; omega
    have hmk : ∀ W : World, (Instr.makeSlice 43 (.int .i64 (l.length : Int)) (.int .i64 (l.length : Int))).run Try.prog W = .ok (.slice (some ⟨W.heap.size, 0, none⟩) l.length l.length) (W.alloc (.cells M 45)) := fun W => by
      have h := run_make (P := Try.prog) W 43 45 i0 z0 Try.underlying43 hi hz0 .i64 .i64 (l.length : Int) (l.length : Int) (by omega) (by omega) hbi (by omega)
      rw [← hM] at h
      simpa using h
    have hba : ∀ j, j < (flatN css l.length).length → a.block < W.heap.size := fun j hj => by have := block_lt_of_cell (hc j _ (List.getElem?_eq_getElem hj)); rwa [block_add] at this
    have hcp := run_copy_all (P := Try.prog) (W.alloc (.cells M 45)) 43 43 3 45 W.heap.size l.length cap 4 a M 45 (flatN css l.length) Try.underlying43 hinfo (heap_alloc_new W _) hfl hMs
      (fun j v hj => by rw [((Below.refl _ W).alloc (Nat.le_refl _) _).cell (by rw [block_add]; exact hba j (List.getElem?_eq_some_iff.1 hj).1)]; exact hc j v hj) hone
    rw [alloc_setRow] at hcp
    obtain ⟨Y, hY⟩ : ∃ Y, Y = (flatN css l.length).toArray := ⟨_, rfl⟩
    rw [← hY] at hcp
    have HY := Lib.hid hY
    have he : ∀ w : World, (binOp .eql 43 (.slice (some a) l.length cap) (.slice none 0 0)).run Try.prog w = .ok (.bool false) w := fun _ => by kernel_rfl
    clear hY hone hfl hc hM hnil hr hR hba hbb hbi
    go_enter Try.func199, Try.ntmps199
    go_wp2
    go_ret
    exact .inr ⟨css, rfl, by rw [HY.out], HRr.out⟩
theorem info_frA : ∃ i z, Try.prog.info? 137 = some i ∧ i.zero = some z ∧ i.size = 6 ∧ i.bytes ≤ 1000 := by
  have h : (Try.prog.info? 137).map (fun i => (i.zero.isSome, i.size, decide (i.bytes ≤ 1000))) = some (true, 6, true) := by kernel_rfl
  obtain ⟨i, hi, h2⟩ := Option.map_eq_some_iff.1 h
  simp only [Prod.mk.injEq, decide_eq_true_eq] at h2
  obtain ⟨z, hz⟩ := Option.isSome_iff_exists.1 h2.1
  exact ⟨i, z, hi, hz, h2.2.1, h2.2.2⟩
set_option maxHeartbeats 1000000 in
set_option maxRecDepth 100000 in
theorem freshA_any {α : Type} {w W : World} {Q : Nat → Prop} {R : α → List Value → Prop} {l : List α} {v : Value} (h : SliceI w Q 6 R l v) (hI : In Q w W) (hR : ∀ x cs, R x cs → CellsOk 6 cs) (hl : l.length ≤ 1000000) :
    Calls Try.prog 200 #[v] W (FreshP 137 R l W) := by
  obtain ⟨A, cap, rfl, hl1, hl2⟩ := h.shape
  obtain ⟨_, hnil, css, hr, hc⟩ := slice_cells h hI hR
  clear h hI
  cases A with
  | none =>
    have HN := hnil rfl
    subst HN
    clear hnil hc hr hl1 hl2
    have he : ∀ w : World, (binOp .eql 62 (.slice none 0 cap) (.slice none 0 0)).run Try.prog w = .ok (.bool true) w := fun _ => by kernel_rfl
    go_enter Try.func200, Try.ntmps200
    go_wp2
    go_ret
    exact .inl ⟨rfl, rfl, rfl⟩
  | some a =>
    have hc := hc a rfl
    have HRr := Lib.hid hr
    have hfl : (flatN css l.length).length = l.length * 6 := flatN_len (fun i hi => (hR _ _ (hr i hi)).1)
    have hone := flatN_one (fun i hi => hR _ _ (hr i hi))
    obtain ⟨i0, z0, hi, hz0, hz1, hz2⟩ := info_frA
    have hinfo : (Try.prog.info? 137).map (·.size) = some 6 := by rw [hi]; simp [hz1]
    obtain ⟨M, hM⟩ : ∃ M, M = madeCells z0.cells (((l.length : Nat) : Int).toNat * i0.size) := ⟨_, rfl⟩
    have hMs : M.size = l.length * 6 := by rw [hM, size_madeCells, hz1]; simp
    have hbb : i0.bytes * l.length ≤ 1000 * 1000000 := Nat.mul_le_mul hz2 hl
    have hbi : (i0.bytes : Int) * (l.length : Int) ≤ 281474976710656 := by have h := Int.ofNat_le.2 hbb; rw [Int.natCast_mul] at h; omega
    have hmk : ∀ W : World, (Instr.makeSlice 62 (.int .i64 (l.length : Int)) (.int .i64 (l.length : Int))).run Try.prog W = .ok (.slice (some ⟨W.heap.size, 0, none⟩) l.length l.length) (W.alloc (.cells M 137)) := fun W => by
      have h := run_make (P := Try.prog) W 62 137 i0 z0 Try.underlying62 hi hz0 .i64 .i64 (l.length : Int) (l.length : Int) (by omega) (by omega) hbi (by omega)
      rw [← hM] at h
      simpa using h
    have hba : ∀ j, j < (flatN css l.length).length → a.block < W.heap.size := fun j hj => by have := block_lt_of_cell (hc j _ (List.getElem?_eq_getElem hj)); rwa [block_add] at this
    have hcp := run_copy_all (P := Try.prog) (W.alloc (.cells M 137)) 62 62 3 137 W.heap.size l.length cap 6 a M 137 (flatN css l.length) Try.underlying62 hinfo (heap_alloc_new W _) hfl hMs
      (fun j v hj => by rw [((Below.refl _ W).alloc (Nat.le_refl _) _).cell (by rw [block_add]; exact hba j (List.getElem?_eq_some_iff.1 hj).1)]; exact hc j v hj) hone
    rw [alloc_setRow] at hcp
    obtain ⟨Y, hY⟩ : ∃ Y, Y = (flatN css l.length).toArray := ⟨_, rfl⟩
    rw [← hY] at hcp
    have HY := Lib.hid hY
    have he : ∀ w : World, (binOp .eql 62 (.slice (some a) l.length cap) (.slice none 0 0)).run Try.prog w = .ok (.bool false) w := fun _ => by kernel_rfl
    clear hY hone hfl hc hM hnil hr hR hba hbb hbi
    go_enter Try.func200, Try.ntmps200
    go_wp2
    go_ret
    exact .inr ⟨css, rfl, by rw [HY.out], HRr.out⟩
theorem info_frS : ∃ i z, Try.prog.info? 64 = some i ∧ i.zero = some z ∧ i.size = 13 ∧ i.bytes ≤ 1000 := by
  have h : (Try.prog.info? 64).map (fun i => (i.zero.isSome, i.size, decide (i.bytes ≤ 1000))) = some (true, 13, true) := by kernel_rfl
  obtain ⟨i, hi, h2⟩ := Option.map_eq_some_iff.1 h
  simp only [Prod.mk.injEq, decide_eq_true_eq] at h2
  obtain ⟨z, hz⟩ := Option.isSome_iff_exists.1 h2.1
  exact ⟨i, z, hi, hz, h2.2.1, h2.2.2⟩
set_option maxHeartbeats 1000000 in
set_option maxRecDepth 100000 in
theorem freshS_any {α : Type} {w W : World} {Q : Nat → Prop} {R : α → List Value → Prop} {l : List α} {v : Value} (h : SliceI w Q 13 R l v) (hI : In Q w W) (hR : ∀ x cs, R x cs → CellsOk 13 cs) (hl : l.length ≤ 1000000) :
    Calls Try.prog 176 #[v] W (FreshP 64 R l W) := by
  obtain ⟨A, cap, rfl, hl1, hl2⟩ := h.shape
  obtain ⟨_, hnil, css, hr, hc⟩ := slice_cells h hI hR
  clear h hI
  cases A with
  | none =>
    have HN := hnil rfl
    subst HN
    clear hnil hc hr hl1 hl2
    have he : ∀ w : World, (binOp .eql 57 (.slice none 0 cap) (.slice none 0 0)).run Try.prog w = .ok (.bool true) w := fun _ => by kernel_rfl
    go_enter Try.func176, Try.ntmps176
    go_wp2
    go_ret
    exact .inl ⟨rfl, rfl, rfl⟩
  | some a =>
    have hc := hc a rfl
    have HRr := Lib.hid hr
    have hfl : (flatN css l.length).length = l.length * 13 := flatN_len (fun i hi => (hR _ _ (hr i hi)).1)
    have hone := flatN_one (fun i hi => hR _ _ (hr i hi))
    obtain ⟨i0, z0, hi, hz0, hz1, hz2⟩ := info_frS
    have hinfo : (Try.prog.info? 64).map (·.size) = some 13 := by rw [hi]; simp [hz1]
    obtain ⟨M, hM⟩ : ∃ M, M = madeCells z0.cells (((l.length : Nat) : Int).toNat * i0.size) := ⟨_, rfl⟩
    have hMs : M.size = l.length * 13 := by rw [hM, size_madeCells, hz1]; simp
    have hbb : i0.bytes * l.length ≤ 1000 * 1000000 := Nat.mul_le_mul hz2 hl
    have hbi : (i0.bytes : Int) * (l.length : Int) ≤ 281474976710656 := by have h := Int.ofNat_le.2 hbb; rw [Int.natCast_mul] at h; omega
    have hmk : ∀ W : World, (Instr.makeSlice 57 (.int .i64 (l.length : Int)) (.int .i64 (l.length : Int))).run Try.prog W = .ok (.slice (some ⟨W.heap.size, 0, none⟩) l.length l.length) (W.alloc (.cells M 64)) := fun W => by
      have h := run_make (P := Try.prog) W 57 64 i0 z0 Try.underlying57 hi hz0 .i64 .i64 (l.length : Int) (l.length : Int) (by omega) (by omega) hbi (by omega)
      rw [← hM] at h
      simpa using h
    have hba : ∀ j, j < (flatN css l.length).length → a.block < W.heap.size := fun j hj => by have := block_lt_of_cell (hc j _ (List.getElem?_eq_getElem hj)); rwa [block_add] at this
    have hcp := run_copy_all (P := Try.prog) (W.alloc (.cells M 64)) 57 57 3 64 W.heap.size l.length cap 13 a M 64 (flatN css l.length) Try.underlying57 hinfo (heap_alloc_new W _) hfl hMs
      (fun j v hj => by rw [((Below.refl _ W).alloc (Nat.le_refl _) _).cell (by rw [block_add]; exact hba j (List.getElem?_eq_some_iff.1 hj).1)]; exact hc j v hj) hone
    rw [alloc_setRow] at hcp
    obtain ⟨Y, hY⟩ : ∃ Y, Y = (flatN css l.length).toArray := ⟨_, rfl⟩
    rw [← hY] at hcp
    have HY := Lib.hid hY
    have he : ∀ w : World, (binOp .eql 57 (.slice (some a) l.length cap) (.slice none 0 0)).run Try.prog w = .ok (.bool false) w := fun _ => by kernel_rfl
    clear hY hone hfl hc hM hnil hr hR hba hbb hbi
    go_enter Try.func176, Try.ntmps176
    go_wp2
    go_ret
    exact .inr ⟨css, rfl, by rw [HY.out], HRr.out⟩
theorem info_frP : ∃ i z, Try.prog.info? 61 = some i ∧ i.zero = some z ∧ i.size = 2 ∧ i.bytes ≤ 1000 := by
  have h : (Try.prog.info? 61).map (fun i => (i.zero.isSome, i.size, decide (i.bytes ≤ 1000))) = some (true, 2, true) := by kernel_rfl
  obtain ⟨i, hi, h2⟩ := Option.map_eq_some_iff.1 h
  simp only [Prod.mk.injEq, decide_eq_true_eq] at h2
  obtain ⟨z, hz⟩ := Option.isSome_iff_exists.1 h2.1
  exact ⟨i, z, hi, hz, h2.2.1, h2.2.2⟩
set_option maxHeartbeats 1000000 in
set_option maxRecDepth 100000 in
theorem freshP_any {α : Type} {w W : World} {Q : Nat → Prop} {R : α → List Value → Prop} {l : List α} {v : Value} (h : SliceI w Q 2 R l v) (hI : In Q w W) (hR : ∀ x cs, R x cs → CellsOk 2 cs) (hl : l.length ≤ 1000000) :
    Calls Try.prog 174 #[v] W (FreshP 61 R l W) := by
  obtain ⟨A, cap, rfl, hl1, hl2⟩ := h.shape
  obtain ⟨_, hnil, css, hr, hc⟩ := slice_cells h hI hR
  clear h hI
  cases A with
  | none =>
    have HN := hnil rfl
    subst HN
    clear hnil hc hr hl1 hl2
    have he : ∀ w : World, (binOp .eql 56 (.slice none 0 cap) (.slice none 0 0)).run Try.prog w = .ok (.bool true) w := fun _ => by kernel_rfl
    go_enter Try.func174, Try.ntmps174
    go_wp2
    go_ret
    exact .inl ⟨rfl, rfl, rfl⟩
  | some a =>
    have hc := hc a rfl
    have HRr := Lib.hid hr
    have hfl : (flatN css l.length).length = l.length * 2 := flatN_len (fun i hi => (hR _ _ (hr i hi)).1)
    have hone := flatN_one (fun i hi => hR _ _ (hr i hi))
    obtain ⟨i0, z0, hi, hz0, hz1, hz2⟩ := info_frP
    have hinfo : (Try.prog.info? 61).map (·.size) = some 2 := by rw [hi]; simp [hz1]
    obtain ⟨M, hM⟩ : ∃ M, M = madeCells z0.cells (((l.length : Nat) : Int).toNat * i0.size) := ⟨_, rfl⟩
    have hMs : M.size = l.length * 2 := by rw [hM, size_madeCells, hz1]; simp
    have hbb : i0.bytes * l.length ≤ 1000 * 1000000 := Nat.mul_le_mul hz2 hl
    have hbi : (i0.bytes : Int) * (l.length : Int) ≤ 281474976710656 := by have h := Int.ofNat_le.2 hbb; rw [Int.natCast_mul] at h; omega
    have hmk : ∀ W : World, (Instr.makeSlice 56 (.int .i64 (l.length : Int)) (.int .i64 (l.length : Int))).run Try.prog W = .ok (.slice (some ⟨W.heap.size, 0, none⟩) l.length l.length) (W.alloc (.cells M 61)) := fun W => by
      have h := run_make (P := Try.prog) W 56 61 i0 z0 Try.underlying56 hi hz0 .i64 .i64 (l.length : Int) (l.length : Int) (by omega) (by omega) hbi (by omega)
      rw [← hM] at h
      simpa using h
    have hba : ∀ j, j < (flatN css l.length).length → a.block < W.heap.size := fun j hj => by have := block_lt_of_cell (hc j _ (List.getElem?_eq_getElem hj)); rwa [block_add] at this
    have hcp := run_copy_all (P := Try.prog) (W.alloc (.cells M 61)) 56 56 3 61 W.heap.size l.length cap 2 a M 61 (flatN css l.length) Try.underlying56 hinfo (heap_alloc_new W _) hfl hMs
      (fun j v hj => by rw [((Below.refl _ W).alloc (Nat.le_refl _) _).cell (by rw [block_add]; exact hba j (List.getElem?_eq_some_iff.1 hj).1)]; exact hc j v hj) hone
    rw [alloc_setRow] at hcp
    obtain ⟨Y, hY⟩ : ∃ Y, Y = (flatN css l.length).toArray := ⟨_, rfl⟩
    rw [← hY] at hcp
    have HY := Lib.hid hY
    have he : ∀ w : World, (binOp .eql 56 (.slice (some a) l.length cap) (.slice none 0 0)).run Try.prog w = .ok (.bool false) w := fun _ => by kernel_rfl
    clear hY hone hfl hc hM hnil hr hR hba hbb hbi
    go_enter Try.func174, Try.ntmps174
    go_wp2
    go_ret
    exact .inr ⟨css, rfl, by rw [HY.out], HRr.out⟩
theorem info_frQ : ∃ i z, Try.prog.info? 59 = some i ∧ i.zero = some z ∧ i.size = 5 ∧ i.bytes ≤ 1000 := by
  have h : (Try.prog.info? 59).map (fun i => (i.zero.isSome, i.size, decide (i.bytes ≤ 1000))) = some (true, 5, true) := by kernel_rfl
  obtain ⟨i, hi, h2⟩ := Option.map_eq_some_iff.1 h
  simp only [Prod.mk.injEq, decide_eq_true_eq] at h2
  obtain ⟨z, hz⟩ := Option.isSome_iff_exists.1 h2.1
  exact ⟨i, z, hi, hz, h2.2.1, h2.2.2⟩
set_option maxHeartbeats 1000000 in
set_option maxRecDepth 100000 in
theorem freshQ_any {α : Type} {w W : World} {Q : Nat → Prop} {R : α → List Value → Prop} {l : List α} {v : Value} (h : SliceI w Q 5 R l v) (hI : In Q w W) (hR : ∀ x cs, R x cs → CellsOk 5 cs) (hl : l.length ≤ 1000000) :
    Calls Try.prog 119 #[v] W (FreshP 59 R l W) := by
  obtain ⟨A, cap, rfl, hl1, hl2⟩ := h.shape
  obtain ⟨_, hnil, css, hr, hc⟩ := slice_cells h hI hR
  clear h hI
  cases A with
  | none =>
    have HN := hnil rfl
    subst HN
    clear hnil hc hr hl1 hl2
    have he : ∀ w : World, (binOp .eql 23 (.slice none 0 cap) (.slice none 0 0)).run Try.prog w = .ok (.bool true) w := fun _ => by kernel_rfl
    go_enter Try.func119, Try.ntmps119
    go_wp2
    go_ret
    exact .inl ⟨rfl, rfl, rfl⟩
  | some a =>
    have hc := hc a rfl
    have HRr := Lib.hid hr
    have hfl : (flatN css l.length).length = l.length * 5 := flatN_len (fun i hi => (hR _ _ (hr i hi)).1)
    have hone := flatN_one (fun i hi => hR _ _ (hr i hi))
    obtain ⟨i0, z0, hi, hz0, hz1, hz2⟩ := info_frQ
    have hinfo : (Try.prog.info? 59).map (·.size) = some 5 := by rw [hi]; simp [hz1]
    obtain ⟨M, hM⟩ : ∃ M, M = madeCells z0.cells (((l.length : Nat) : Int).toNat * i0.size) := ⟨_, rfl⟩
    have hMs : M.size = l.length * 5 := by rw [hM, size_madeCells, hz1]; simp
    have hbb : i0.bytes * l.length ≤ 1000 * 1000000 := Nat.mul_le_mul hz2 hl
    have hbi : (i0.bytes : Int) * (l.length : Int) ≤ 281474976710656 := by have h := Int.ofNat_le.2 hbb; rw [Int.natCast_mul] at h; omega
    have hmk : ∀ W : World, (Instr.makeSlice 23 (.int .i64 (l.length : Int)) (.int .i64 (l.length : Int))).run Try.prog W = .ok (.slice (some ⟨W.heap.size, 0, none⟩) l.length l.length) (W.alloc (.cells M 59)) := fun W => by
      have h := run_make (P := Try.prog) W 23 59 i0 z0 Try.underlying23 hi hz0 .i64 .i64 (l.length : Int) (l.length : Int) (by omega) (by omega) hbi (by omega)
      rw [← hM] at h
      simpa using h
    have hba : ∀ j, j < (flatN css l.length).length → a.block < W.heap.size := fun j hj => by have := block_lt_of_cell (hc j _ (List.getElem?_eq_getElem hj)); rwa [block_add] at this
    have hcp := run_copy_all (P := Try.prog) (W.alloc (.cells M 59)) 23 23 3 59 W.heap.size l.length cap 5 a M 59 (flatN css l.length) Try.underlying23 hinfo (heap_alloc_new W _) hfl hMs
      (fun j v hj => by rw [((Below.refl _ W).alloc (Nat.le_refl _) _).cell (by rw [block_add]; exact hba j (List.getElem?_eq_some_iff.1 hj).1)]; exact hc j v hj) hone
    rw [alloc_setRow] at hcp
    obtain ⟨Y, hY⟩ : ∃ Y, Y = (flatN css l.length).toArray := ⟨_, rfl⟩
    rw [← hY] at hcp
    have HY := Lib.hid hY
    have he : ∀ w : World, (binOp .eql 23 (.slice (some a) l.length cap) (.slice none 0 0)).run Try.prog w = .ok (.bool false) w := fun _ => by kernel_rfl
    clear hY hone hfl hc hM hnil hr hR hba hbb hbi
    go_enter Try.func119, Try.ntmps119
    go_wp2
    go_ret
    exact .inr ⟨css, rfl, by rw [HY.out], HRr.out⟩
end Go.Proofs.Ytcocilpifdjibaa
