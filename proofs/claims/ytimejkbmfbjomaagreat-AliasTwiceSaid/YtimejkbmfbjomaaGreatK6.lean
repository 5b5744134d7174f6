/- Texts, merged by a program; only what is used. -/
import Derived.Maps.AppendAt
import Derived.Maps.Range
import Derived.Test.YtimejkbmfbjomaaGreatK1
import Derived.Test.YtimejkbmfbjomaaGreatK2
import Derived.Test.YtimejkbmfbjomaaGreatK3
import Derived.Test.YtimejkbmfbjomaaGreatK4
import Derived.Test.YtimejkbmfbjomaaGreatK5
namespace Go.Proofs.YtimejkbmfbjomaaGreat
open Go.ChangeShapes Go.WideShapes Go.ChangeAt Go.RowKit Go.Deep
set_option linter.unusedVariables false
def hasB (l : List ByteArray) (s : ByteArray) : Bool := l.any fun t => decide (t = s)
theorem hasB_iff {l : List ByteArray} {s : ByteArray} : hasB l s = true ↔ s ∈ l := by simp [hasB]
def spoke (l : List ByteArray) (s : ByteArray) : List ByteArray := if hasB l s then l else l ++ [s]
mutual
def walkE : E → List ByteArray → List ByteArray
  | .mk op _ nm ks, l => walkL ks (if op = 2 then spoke l nm else l)
def walkL : List E → List ByteArray → List ByteArray
  | [], l => l
  | k :: ks, l => walkL ks (walkE k l)
end
mutual
def sizE : E → Nat
  | .mk _ _ _ ks => sizL ks + 1
def sizL : List E → Nat
  | [] => 0
  | k :: ks => sizE k + sizL ks
end
theorem spoke_len (l : List ByteArray) (s : ByteArray) : l.length ≤ (spoke l s).length ∧ (spoke l s).length ≤ l.length + 1 := by unfold spoke; split <;> simp
theorem spoke_all {p : ByteArray → Prop} {l : List ByteArray} {s : ByteArray} (h : ∀ t ∈ l, p t) (hs : p s) : ∀ t ∈ spoke l s, p t := by
  unfold spoke; split
  · exact h
  · intro t ht; simp at ht; rcases ht with ht | rfl
    · exact h t ht
    · exact hs
mutual
theorem walkE_len : ∀ (e : E) (l : List ByteArray), (walkE e l).length ≤ l.length + sizE e
  | .mk op _ nm ks, l => by
    rw [walkE, sizE]
    have h1 := walkL_len ks (if op = 2 then spoke l nm else l)
    have h2 := spoke_len l nm
    split at h1 <;> simp_all <;> omega
theorem walkL_len : ∀ (ks : List E) (l : List ByteArray), (walkL ks l).length ≤ l.length + sizL ks
  | [], l => by simp [walkL]
  | k :: ks, l => by
    rw [walkL, sizL]
    have h1 := walkL_len ks (walkE k l)
    have h2 := walkE_len k l
    omega
end
mutual
theorem mayE_siz : ∀ (e : E) (d : Nat), mayE d e = true → sizE e + 1 ≤ 2 ^ d
  | .mk op n nm ks, d, h => by
    rw [mayE, Bool.and_eq_true, decide_eq_true_eq] at h
    obtain ⟨hd, h⟩ := h
    rw [sizE]
    have hp : 2 ^ d = 2 * 2 ^ (d - 1) := by rw [← Nat.pow_succ']; congr 1; omega
    have hp1 : 1 ≤ 2 ^ (d - 1) := Nat.one_le_two_pow
    by_cases h1 : op = 1
    · rw [if_pos h1] at h
      simp only [Bool.and_eq_true, decide_eq_true_eq] at h
      obtain rfl : ks = [] := List.eq_nil_of_length_eq_zero h.2
      simp only [sizL]; omega
    · rw [if_neg h1] at h
      by_cases h2 : op = 2
      · rw [if_pos h2] at h
        simp only [Bool.and_eq_true, decide_eq_true_eq] at h
        obtain rfl : ks = [] := List.eq_nil_of_length_eq_zero h.2
        simp only [sizL]; omega
      · rw [if_neg h2] at h
        simp only [Bool.and_eq_true, decide_eq_true_eq] at h
        have hl := mayL_siz ks (d - 1) h.2
        have ho := opN_le op
        have hlen : ks.length ≤ 2 := by omega
        have hm : ks.length * (2 ^ (d - 1) - 1) ≤ 2 * (2 ^ (d - 1) - 1) := Nat.mul_le_mul_right _ hlen
        omega
theorem mayL_siz : ∀ (ks : List E) (d : Nat), mayL d ks = true → sizL ks ≤ ks.length * (2 ^ d - 1)
  | [], d, _ => by simp [sizL]
  | k :: ks, d, h => by
    rw [mayL, Bool.and_eq_true] at h
    have h1 := mayE_siz k d h.1
    have h2 := mayL_siz ks d h.2
    rw [sizL, List.length_cons, Nat.succ_mul]
    omega
end
theorem walkL_drop {ks : List E} {k : Nat} (h : k < ks.length) (l : List ByteArray) : walkL (ks.drop k) l = walkL (ks.drop (k + 1)) (walkE ks[k] l) := by
  rw [List.drop_eq_getElem_cons h, walkL]
theorem sizL_drop {ks : List E} {k : Nat} (h : k < ks.length) : sizL (ks.drop k) = sizE ks[k] + sizL (ks.drop (k + 1)) := by
  rw [List.drop_eq_getElem_cons h, sizL]
theorem string_info : (Tryz.prog.info? 9).map (fun i => (i.zero, i.size, i.bytes)) = some (some (.string ⟨#[]⟩), 1, 16) := by kernel_rfl
def small (s : ByteArray) : Prop := s.size ≤ 9223372036854775807
/-- a row of texts of the call's own was answered, which lies where v lay or is new; nothing else has turned -/
def RowOk (base : Nat) (v : Value) (l : List ByteArray) (w : World) (e : Ending) (w' : World) : Prop :=
  ∃ v', e = .returned v' ∧ w'.ownsRow base 9 1 v' l.length (strs l) ∧ w.grownBy w' v.ownBlock ∧ ∀ j, v'.ownBlock = some j → w.heap.size ≤ j ∨ v.ownBlock = some j
theorem In.grown {Q : Nat → Prop} {w W W' : World} {row : Option Nat} (h : In Q w W) (hg : W.grownBy W' row) (hr : ∀ j, row = some j → ¬ Q j) : In Q w W' :=
  ⟨fun b hb => Nat.lt_of_lt_of_le (h.1 b hb) hg.size, fun p hp => (World.cell?_of_block (w := W) (hg.block _ (h.1 _ hp) (fun e => hr _ e.symm hp))).trans (h.2 p hp)⟩
theorem lies_then {a b : World} {u v v' : Option Nat} (h : a.grownBy b u) (h1 : ∀ j, v = some j → a.heap.size ≤ j ∨ u = some j) (h2 : ∀ j, v' = some j → b.heap.size ≤ j ∨ v = some j) : ∀ j, v' = some j → a.heap.size ≤ j ∨ u = some j := fun j hj => by
  rcases h2 j hj with h | h
  · exact .inl (Nat.le_trans (by assumption : a.grownBy b u).size h)
  · exact h1 j h
theorem own_shape {w : World} {base n : Nat} {e : TypeId} {size : Nat} {v : Value} {xs : List Value} (h : w.ownsRow base e size v n xs) : ∃ A cap, v = .slice A n cap ∧ n ≤ cap ∧ cap ≤ 9223372036854775807 := by
  rcases h.2 with ⟨rfl, rfl⟩ | ⟨g, cap, cur, rfl, _, _, h1, h2, _⟩
  · exact ⟨none, 0, rfl, by omega, by omega⟩
  · unfold maxLen at h2; exact ⟨_, cap, rfl, h1, by omega⟩
set_option maxHeartbeats 1000000 in
theorem walkE_all {w : World} {Q : Nat → Prop} {e : E} {cs : List Value} (h : ExprI w Q e cs) : ∀ {l : List ByteArray}, (∀ t ∈ l, small t) → ∀ t ∈ walkE e l, small t := by
  induction h with
  | @mk op n nm ks A cap css hop hn hnm hcap hA hk ih =>
    intro l hl
    have key : ∀ (m k : Nat), k + m = ks.length → ∀ l : List ByteArray, (∀ t ∈ l, small t) → ∀ t ∈ walkL (ks.drop k) l, small t := by
      intro m
      induction m with
      | zero => intro k hk l hl; rw [List.drop_of_length_le (by omega), walkL]; exact hl
      | succ m ihm =>
        intro k hk l hl
        rw [walkL_drop (by omega)]
        exact ihm (k + 1) (by omega) _ (ih k (by omega) hl)
    rw [walkE]
    have := key ks.length 0 (by omega) (if op = 2 then spoke l nm else l) (by split; exact spoke_all hl hnm; exact hl)
    rwa [List.drop_zero] at this
def namesE (e : E) : List ByteArray := if mayE 20 e then walkE e [] else []
def NewRow (l : List ByteArray) (w : World) (e : Ending) (w' : World) : Prop := ∃ v, e = .returned v ∧ w'.ownsRow w.heap.size 9 1 v l.length (strs l) ∧ Below w.heap.size w w'
theorem own_lower {w : World} {base base' n : Nat} {e : TypeId} {size : Nat} {v : Value} {xs : List Value} (h : w.ownsRow base e size v n xs) (hb : base' ≤ base) : w.ownsRow base' e size v n xs := by
  refine ⟨h.1, ?_⟩
  rcases h.2 with h1 | ⟨g, cap, cur, h1, h2, r⟩
  · exact .inl h1
  · exact .inr ⟨g, cap, cur, h1, by omega, r⟩
theorem new_one (w : World) (s : ByteArray) : ∀ j u, [Value.string s][j]? = some u → (w.alloc (.cells #[.string s] 9)).cell? ((⟨w.heap.size, 0, none⟩ : Addr).add j) = some u := by
  intro j u hu
  have hj : j = 0 := by have := (List.getElem?_eq_some_iff.1 hu).1; simp at this; exact this
  subst hj
  simp at hu
  subst hu
  simp [Addr.add]
theorem texts_cells {w W : World} {Q : Nat → Prop} {l : List ByteArray} {a : Addr} {n cap : Nat} (h : TextsI w Q l (.slice (some a) n cap)) (hI : In Q w W) : ∀ j u, (strs l)[j]? = some u → W.cell? (a.add j) = some u := by
  intro j u hu
  have hj : j < l.length := by have := (List.getElem?_eq_some_iff.1 hu).1; simpa [strs] using this
  obtain ⟨a', ha, _, hc, _⟩ := text_at h hI hj
  injection ha with ha
  subst ha
  rw [hc]
  simp only [strs, List.getElem?_map, List.getElem?_eq_getElem hj, Option.map_some] at hu
  exact hu
end Go.Proofs.YtimejkbmfbjomaaGreat
namespace Go.Proofs.YtimejkbmfbjomaaGreat
open Go.ChangeShapes Go.WideShapes Go.ChangeAt Go.RowKit Go.Deep
set_option linter.unusedVariables false
/-- n pieces one behind the other -/
def flatN (css : Nat → List Value) : Nat → List Value
  | 0 => []
  | n + 1 => flatN css n ++ css n
section
variable {css : Nat → List Value} {C : Nat}
theorem flatN_len {n : Nat} (h : ∀ i, i < n → (css i).length = C) : (flatN css n).length = n * C := by
  induction n with
  | zero => simp [flatN]
  | succ n ih => rw [flatN, List.length_append, ih (fun i hi => h i (by omega)), h n (by omega), Nat.succ_mul]
theorem flatN_get {n : Nat} (h : ∀ i, i < n → (css i).length = C) {i j : Nat} (hi : i < n) (hj : j < C) : (flatN css n)[i * C + j]? = (css i)[j]? := by
  induction n with
  | zero => omega
  | succ n ih =>
    have hl : (flatN css n).length = n * C := flatN_len (fun i hi => h i (by omega))
    rw [flatN]
    by_cases hin : i < n
    · have : i * C + j < n * C := by
        have := Nat.mul_le_mul_right C (show i + 1 ≤ n by omega)
        rw [Nat.succ_mul] at this
        omega
      rw [List.getElem?_append_left (by rw [hl]; exact this)]
      exact ih (fun i hi => h i (by omega)) hin
    · have e : i = n := by omega
      subst e
      rw [List.getElem?_append_right (by rw [hl]; omega), hl]
      congr 1
      omega
theorem flatN_of {n : Nat} (h : ∀ i, i < n → (css i).length = C) {k : Nat} {u : Value} (hk : (flatN css n)[k]? = some u) : ∃ i j, i < n ∧ k = i * C + j ∧ (css i)[j]? = some u := by
  induction n with
  | zero => simp [flatN] at hk
  | succ n ih =>
    have hl : (flatN css n).length = n * C := flatN_len (fun i hi => h i (by omega))
    rw [flatN] at hk
    by_cases hkn : k < n * C
    · rw [List.getElem?_append_left (by rw [hl]; exact hkn)] at hk
      obtain ⟨i, j, h1, h2, h3⟩ := ih (fun i hi => h i (by omega)) hk
      exact ⟨i, j, by omega, h2, h3⟩
    · rw [List.getElem?_append_right (by rw [hl]; omega), hl] at hk
      exact ⟨n, k - n * C, by omega, by omega, hk⟩
end
def CellsOk (C : Nat) (cs : List Value) : Prop := cs.length = C ∧ ∀ u ∈ cs, u.oneCell' = true
theorem flatN_one {css : Nat → List Value} {C n : Nat} (h : ∀ i, i < n → CellsOk C (css i)) : ∀ u ∈ flatN css n, u.oneCell' = true := by
  intro u hu
  obtain ⟨k, hk⟩ := List.getElem?_of_mem hu
  obtain ⟨i, j, hi, _, h3⟩ := flatN_of (fun i hi => (h i hi).1) hk
  exact (h i hi).2 u (List.mem_of_getElem? h3)
/-- 'copy' of a whole row -/
theorem run_copy_all {P : Program} (w : World) (dT sT ty elem : TypeId) (g n cap C : Nat) (a : Addr) (M : Array Value) (t : TypeId) (cs : List Value)
    (hu : P.underlying dT = some (.slice elem)) (hs : (P.info? elem).map (·.size) = some C)
    (hg : w.heap[g]? = some (.cells M t (0, 0))) (hn : cs.length = n * C) (hM : M.size = n * C)
    (hsrc : ∀ j v, cs[j]? = some v → w.cell? (a.add j) = some v) (h1 : ∀ v ∈ cs, v.oneCell' = true) :
    (Builtin.copy_ #[dT, sT] ty #[.slice (some ⟨g, 0, none⟩) n n, .slice (some a) n cap]).run P w = .ok (goInt n) (w.setRow g cs.toArray) := by
  have hl := run_loadCells_list (P := P) w a cs hsrc
  have hst := run_storeCells_at P g 0 t cs 0 M w hg (by omega) h1
  have e : (M.toList.take (0 + 0) ++ cs ++ M.toList.drop (0 + 0 + cs.length)) = cs := by
    rw [List.take_zero, List.nil_append, List.drop_of_length_le (by rw [Array.length_toList]; omega), List.append_nil]
  rw [e] at hst
  cases hq : P.info? elem with
  | none => simp [hq] at hs
  | some i =>
    have hi : i.size = C := by simpa [hq] using hs
    simp [Builtin.copy_, run_underlying hu, Builtin.lenOf, Builtin.firstCells, sizeOf, typeInfo, hq, hi, ← hn, hl, hst]
theorem alloc_setRow (w : World) (M Y : Array Value) (t : TypeId) : (w.alloc (.cells M t)).setRow w.heap.size Y = w.alloc (.cells Y t) := by
  unfold World.setRow World.alloc
  congr 1
  apply Array.ext
  · simp
  · intro k h1 h2
    simp only [Array.getElem_modify]
    by_cases hk : k = w.heap.size
    · subst hk; simp
    · have hlt : k < w.heap.size := by simp at h2; omega
      rw [if_neg (fun e => hk e.symm), Array.getElem_push_lt hlt, Array.getElem_push_lt hlt]
/-- what fresh leaves: nil of nil, else a new row with the same cells -/
def FreshP {α : Type} (t : TypeId) (R : α → List Value → Prop) (l : List α) (W : World) (e : Ending) (w' : World) : Prop :=
  (l = [] ∧ e = .returned (.slice none 0 0) ∧ w' = W) ∨ ∃ css : Nat → List Value, e = .returned (.slice (some ⟨W.heap.size, 0, none⟩) l.length l.length) ∧ w' = W.alloc (.cells (flatN css l.length).toArray t) ∧ ∀ i (h : i < l.length), R l[i] (css i)
theorem slice_cells {α : Type} {w W : World} {Q : Nat → Prop} {C : Nat} {R : α → List Value → Prop} {l : List α} {A : Option Addr} {n cap : Nat} (h : SliceI w Q C R l (.slice A n cap)) (hI : In Q w W) (hR : ∀ x cs, R x cs → CellsOk C cs) :
    n = l.length ∧ (A = none → l = []) ∧ ∃ css : Nat → List Value, (∀ i (h : i < l.length), R l[i] (css i)) ∧ ∀ a, A = some a → ∀ j v, (flatN css l.length)[j]? = some v → W.cell? (a.add j) = some v := by
  obtain ⟨A', cap', css, h1, h2, h3, h4⟩ := h
  simp only [Value.slice.injEq] at h1
  obtain ⟨rfl, rfl, rfl⟩ := h1
  refine ⟨rfl, fun hn => ?_, css, h4, ?_⟩
  · cases l with
    | nil => rfl
    | cons x l => obtain ⟨a, ha, _⟩ := h3 (by simp); rw [hn] at ha; cases ha
  · intro a ha j v hj
    obtain ⟨i, k, hi, rfl, hu⟩ := flatN_of (fun i hi => (hR _ _ (h4 i hi)).1) hj
    obtain ⟨a', ha', hq, hc⟩ := h3 (by omega)
    rw [ha] at ha'
    injection ha' with ha'
    subst ha'
    rw [hI.cell (by rw [block_add]; exact hq)]
    exact hc i hi k v hu
theorem info_frT : ∃ i z, Tryz.prog.info? 9 = some i ∧ i.zero = some z ∧ i.size = 1 ∧ i.bytes ≤ 1000 := by
  have h : (Tryz.prog.info? 9).map (fun i => (i.zero.isSome, i.size, decide (i.bytes ≤ 1000))) = some (true, 1, true) := by kernel_rfl
  obtain ⟨i, hi, h2⟩ := Option.map_eq_some_iff.1 h
  simp only [Prod.mk.injEq, decide_eq_true_eq] at h2
  obtain ⟨z, hz⟩ := Option.isSome_iff_exists.1 h2.1
  exact ⟨i, z, hi, hz, h2.2.1, h2.2.2⟩
set_option maxHeartbeats 1000000 in
set_option maxRecDepth 100000 in
theorem freshT_any {α : Type} {w W : World} {Q : Nat → Prop} {R : α → List Value → Prop} {l : List α} {v : Value} (h : SliceI w Q 1 R l v) (hI : In Q w W) (hR : ∀ x cs, R x cs → CellsOk 1 cs) (hl : l.length ≤ 1000000) :
    Calls Tryz.prog 162 #[v] W (FreshP 9 R l W) := by
  obtain ⟨A, cap, rfl, hl1, hl2⟩ := h.shape
  obtain ⟨_, hnil, css, hr, hc⟩ := slice_cells h hI hR
  clear h hI
  cases A with
  | none =>
    have HN := hnil rfl
    subst HN
    clear hnil hc hr hl1 hl2
    have he : ∀ w : World, (binOp .eql 22 (.slice none 0 cap) (.slice none 0 0)).run Tryz.prog w = .ok (.bool true) w := fun _ => by kernel_rfl
    go_enter Tryz.func162, Tryz.ntmps162
    go_wp2
    go_ret
    exact .inl ⟨rfl, rfl, rfl⟩
  | some a =>
    have hc := hc a rfl
    have HRr := Lib.hid hr
    have hfl : (flatN css l.length).length = l.length * 1 := flatN_len (fun i hi => (hR _ _ (hr i hi)).1)
    have hone := flatN_one (fun i hi => hR _ _ (hr i hi))
    obtain ⟨i0, z0, hi, hz0, hz1, hz2⟩ := info_frT
    have hinfo : (Tryz.prog.info? 9).map (·.size) = some 1 := by rw [hi]; simp [hz1]
    obtain ⟨M, hM⟩ : ∃ M, M = madeCells z0.cells (((l.length : Nat) : Int).toNat * i0.size) := ⟨_, rfl⟩
    have hMs : M.size = l.length * 1 := by rw [hM, size_madeCells, hz1]; simp
    have hbb : i0.bytes * l.length ≤ 1000 * 1000000 := Nat.mul_le_mul hz2 hl
    have hbi : (i0.bytes : Int) * (l.length : Int) ≤ 281474976710656 := by have h := Int.ofNat_le.2 hbb; rw [Int.natCast_mul] at h; omega
    have hmk : ∀ W : World, (Instr.makeSlice 22 (.int .i64 (l.length : Int)) (.int .i64 (l.length : Int))).run Tryz.prog W = .ok (.slice (some ⟨W.heap.size, 0, none⟩) l.length l.length) (W.alloc (.cells M 9)) := fun W => by
      have h := run_make (P := Tryz.prog) W 22 9 i0 z0 Tryz.underlying22 hi hz0 .i64 .i64 (l.length : Int) (l.length : Int) (by omega) (by omega) hbi (by omega)
      rw [← hM] at h
      simpa using h
    have hba : ∀ j, j < (flatN css l.length).length → a.block < W.heap.size := fun j hj => by have := block_lt_of_cell (hc j _ (List.getElem?_eq_getElem hj)); rwa [block_add] at this
    have hcp := run_copy_all (P := Tryz.prog) (W.alloc (.cells M 9)) 22 22 3 9 W.heap.size l.length cap 1 a M 9 (flatN css l.length) Tryz.underlying22 hinfo (heap_alloc_new W _) hfl hMs
      (fun j v hj => by rw [((Below.refl _ W).alloc (Nat.le_refl _) _).cell (by rw [block_add]; exact hba j (List.getElem?_eq_some_iff.1 hj).1)]; exact hc j v hj) hone
    rw [alloc_setRow] at hcp
    obtain ⟨Y, hY⟩ : ∃ Y, Y = (flatN css l.length).toArray := ⟨_, rfl⟩
    rw [← hY] at hcp
    have HY := Lib.hid hY
    have he : ∀ w : World, (binOp .eql 22 (.slice (some a) l.length cap) (.slice none 0 0)).run Tryz.prog w = .ok (.bool false) w := fun _ => by kernel_rfl
    clear hY hone hfl hc hM hnil hr hR hba hbb hbi
    go_enter Tryz.func162, Tryz.ntmps162
    go_wp2
    go_ret
    exact .inr ⟨css, rfl, by rw [HY.out], HRr.out⟩
theorem info_frE : ∃ i z, Tryz.prog.info? 46 = some i ∧ i.zero = some z ∧ i.size = 4 ∧ i.bytes ≤ 1000 := by
  have h : (Tryz.prog.info? 46).map (fun i => (i.zero.isSome, i.size, decide (i.bytes ≤ 1000))) = some (true, 4, true) := by kernel_rfl
  obtain ⟨i, hi, h2⟩ := Option.map_eq_some_iff.1 h
  simp only [Prod.mk.injEq, decide_eq_true_eq] at h2
  obtain ⟨z, hz⟩ := Option.isSome_iff_exists.1 h2.1
  exact ⟨i, z, hi, hz, h2.2.1, h2.2.2⟩
set_option maxHeartbeats 1000000 in
set_option maxRecDepth 100000 in
theorem freshE_any {α : Type} {w W : World} {Q : Nat → Prop} {R : α → List Value → Prop} {l : List α} {v : Value} (h : SliceI w Q 4 R l v) (hI : In Q w W) (hR : ∀ x cs, R x cs → CellsOk 4 cs) (hl : l.length ≤ 1000000) :
    Calls Tryz.prog 178 #[v] W (FreshP 46 R l W) := by
  obtain ⟨A, cap, rfl, hl1, hl2⟩ := h.shape
  obtain ⟨_, hnil, css, hr, hc⟩ := slice_cells h hI hR
  clear h hI
  cases A with
  | none =>
    have HN := hnil rfl
    subst HN
    clear hnil hc hr hl1 hl2
    have he : ∀ w : World, (binOp .eql 44 (.slice none 0 cap) (.slice none 0 0)).run Tryz.prog w = .ok (.bool true) w := fun _ => by kernel_rfl
    go_enter Tryz.func178, Tryz.ntmps178
    go_wp2
    go_ret
    exact .inl ⟨rfl, rfl, rfl⟩
  | some a =>
    have hc := hc a rfl
    have HRr := Lib.hid hr
    have hfl : (flatN css l.length).length = l.length * 4 := flatN_len (fun i hi => (hR _ _ (hr i hi)).1)
    have hone := flatN_one (fun i hi => hR _ _ (hr i hi))
    obtain ⟨i0, z0, hi, hz0, hz1, hz2⟩ := info_frE
    have hinfo : (Tryz.prog.info? 46).map (·.size) = some 4 := by rw [hi]; simp [hz1]
    obtain ⟨M, hM⟩ : ∃ M, M = madeCells z0.cells (((l.length : Nat) : Int).toNat * i0.size) := ⟨_, rfl⟩
    have hMs : M.size = l.length * 4 := by rw [hM, size_madeCells, hz1]; simp
    have hbb : i0.bytes * l.length ≤ 1000 * 1000000 := Nat.mul_le_mul hz2 hl
    have hbi : (i0.bytes : Int) * (l.length : Int) ≤ 281474976710656 := by have h := Int.ofNat_le.2 hbb; rw [Int.natCast_mul] at h; omega
    have hmk : ∀ W : World, (Instr.makeSlice 44 (.int .i64 (l.length : Int)) (.int .i64 (l.length : Int))).run Tryz.prog W = .ok (.slice (some ⟨W.heap.size, 0, none⟩) l.length l.length) (W.alloc (.cells M 46)) := fun W => by
      have h := run_make (P := Tryz.prog) W 44 46 i0 z0 Tryz.underlying44 hi hz0 .i64 .i64 (l.length : Int) (l.length : Int) (by omega) (by omega) hbi (by omega)
      rw [← hM] at h
      simpa using h
    have hba : ∀ j, j < (flatN css l.length).length → a.block < W.heap.size := fun j hj => by have := block_lt_of_cell (hc j _ (List.getElem?_eq_getElem hj)); rwa [block_add] at this
    have hcp := run_copy_all (P := Tryz.prog) (W.alloc (.cells M 46)) 44 44 3 46 W.heap.size l.length cap 4 a M 46 (flatN css l.length) Tryz.underlying44 hinfo (heap_alloc_new W _) hfl hMs
      (fun j v hj => by rw [((Below.refl _ W).alloc (Nat.le_refl _) _).cell (by rw [block_add]; exact hba j (List.getElem?_eq_some_iff.1 hj).1)]; exact hc j v hj) hone
    rw [alloc_setRow] at hcp
    obtain ⟨Y, hY⟩ : ∃ Y, Y = (flatN css l.length).toArray := ⟨_, rfl⟩
    rw [← hY] at hcp
    have HY := Lib.hid hY
    have he : ∀ w : World, (binOp .eql 44 (.slice (some a) l.length cap) (.slice none 0 0)).run Tryz.prog w = .ok (.bool false) w := fun _ => by kernel_rfl
    clear hY hone hfl hc hM hnil hr hR hba hbb hbi
    go_enter Tryz.func178, Tryz.ntmps178
    go_wp2
    go_ret
    exact .inr ⟨css, rfl, by rw [HY.out], HRr.out⟩
theorem info_frA : ∃ i z, Tryz.prog.info? 61 = some i ∧ i.zero = some z ∧ i.size = 6 ∧ i.bytes ≤ 1000 := by
  have h : (Tryz.prog.info? 61).map (fun i => (i.zero.isSome, i.size, decide (i.bytes ≤ 1000))) = some (true, 6, true) := by kernel_rfl
  obtain ⟨i, hi, h2⟩ := Option.map_eq_some_iff.1 h
  simp only [Prod.mk.injEq, decide_eq_true_eq] at h2
  obtain ⟨z, hz⟩ := Option.isSome_iff_exists.1 h2.1
  exact ⟨i, z, hi, hz, h2.2.1, h2.2.2⟩
set_option maxHeartbeats 1000000 in
set_option maxRecDepth 100000 in
theorem freshA_any {α : Type} {w W : World} {Q : Nat → Prop} {R : α → List Value → Prop} {l : List α} {v : Value} (h : SliceI w Q 6 R l v) (hI : In Q w W) (hR : ∀ x cs, R x cs → CellsOk 6 cs) (hl : l.length ≤ 1000000) :
    Calls Tryz.prog 179 #[v] W (FreshP 61 R l W) := by
  obtain ⟨A, cap, rfl, hl1, hl2⟩ := h.shape
  obtain ⟨_, hnil, css, hr, hc⟩ := slice_cells h hI hR
  clear h hI
  cases A with
  | none =>
    have HN := hnil rfl
    subst HN
    clear hnil hc hr hl1 hl2
    have he : ∀ w : World, (binOp .eql 47 (.slice none 0 cap) (.slice none 0 0)).run Tryz.prog w = .ok (.bool true) w := fun _ => by kernel_rfl
    go_enter Tryz.func179, Tryz.ntmps179
    go_wp2
    go_ret
    exact .inl ⟨rfl, rfl, rfl⟩
  | some a =>
    have hc := hc a rfl
    have HRr := Lib.hid hr
    have hfl : (flatN css l.length).length = l.length * 6 := flatN_len (fun i hi => (hR _ _ (hr i hi)).1)
    have hone := flatN_one (fun i hi => hR _ _ (hr i hi))
    obtain ⟨i0, z0, hi, hz0, hz1, hz2⟩ := info_frA
    have hinfo : (Tryz.prog.info? 61).map (·.size) = some 6 := by rw [hi]; simp [hz1]
    obtain ⟨M, hM⟩ : ∃ M, M = madeCells z0.cells (((l.length : Nat) : Int).toNat * i0.size) := ⟨_, rfl⟩
    have hMs : M.size = l.length * 6 := by rw [hM, size_madeCells, hz1]; simp
    have hbb : i0.bytes * l.length ≤ 1000 * 1000000 := Nat.mul_le_mul hz2 hl
    have hbi : (i0.bytes : Int) * (l.length : Int) ≤ 281474976710656 := by have h := Int.ofNat_le.2 hbb; rw [Int.natCast_mul] at h; omega
    have hmk : ∀ W : World, (Instr.makeSlice 47 (.int .i64 (l.length : Int)) (.int .i64 (l.length : Int))).run Tryz.prog W = .ok (.slice (some ⟨W.heap.size, 0, none⟩) l.length l.length) (W.alloc (.cells M 61)) := fun W => by
      have h := run_make (P := Tryz.prog) W 47 61 i0 z0 Tryz.underlying47 hi hz0 .i64 .i64 (l.length : Int) (l.length : Int) (by omega) (by omega) hbi (by omega)
      rw [← hM] at h
      simpa using h
    have hba : ∀ j, j < (flatN css l.length).length → a.block < W.heap.size := fun j hj => by have := block_lt_of_cell (hc j _ (List.getElem?_eq_getElem hj)); rwa [block_add] at this
    have hcp := run_copy_all (P := Tryz.prog) (W.alloc (.cells M 61)) 47 47 3 61 W.heap.size l.length cap 6 a M 61 (flatN css l.length) Tryz.underlying47 hinfo (heap_alloc_new W _) hfl hMs
      (fun j v hj => by rw [((Below.refl _ W).alloc (Nat.le_refl _) _).cell (by rw [block_add]; exact hba j (List.getElem?_eq_some_iff.1 hj).1)]; exact hc j v hj) hone
    rw [alloc_setRow] at hcp
    obtain ⟨Y, hY⟩ : ∃ Y, Y = (flatN css l.length).toArray := ⟨_, rfl⟩
    rw [← hY] at hcp
    have HY := Lib.hid hY
    have he : ∀ w : World, (binOp .eql 47 (.slice (some a) l.length cap) (.slice none 0 0)).run Tryz.prog w = .ok (.bool false) w := fun _ => by kernel_rfl
    clear hY hone hfl hc hM hnil hr hR hba hbb hbi
    go_enter Tryz.func179, Tryz.ntmps179
    go_wp2
    go_ret
    exact .inr ⟨css, rfl, by rw [HY.out], HRr.out⟩
theorem info_frS : ∃ i z, Tryz.prog.info? 49 = some i ∧ i.zero = some z ∧ i.size = 13 ∧ i.bytes ≤ 1000 := by
  have h : (Tryz.prog.info? 49).map (fun i => (i.zero.isSome, i.size, decide (i.bytes ≤ 1000))) = some (true, 13, true) := by kernel_rfl
  obtain ⟨i, hi, h2⟩ := Option.map_eq_some_iff.1 h
  simp only [Prod.mk.injEq, decide_eq_true_eq] at h2
  obtain ⟨z, hz⟩ := Option.isSome_iff_exists.1 h2.1
  exact ⟨i, z, hi, hz, h2.2.1, h2.2.2⟩
set_option maxHeartbeats 1000000 in
set_option maxRecDepth 100000 in
theorem freshS_any {α : Type} {w W : World} {Q : Nat → Prop} {R : α → List Value → Prop} {l : List α} {v : Value} (h : SliceI w Q 13 R l v) (hI : In Q w W) (hR : ∀ x cs, R x cs → CellsOk 13 cs) (hl : l.length ≤ 1000000) :
    Calls Tryz.prog 163 #[v] W (FreshP 49 R l W) := by
  obtain ⟨A, cap, rfl, hl1, hl2⟩ := h.shape
  obtain ⟨_, hnil, css, hr, hc⟩ := slice_cells h hI hR
  clear h hI
  cases A with
  | none =>
    have HN := hnil rfl
    subst HN
    clear hnil hc hr hl1 hl2
    have he : ∀ w : World, (binOp .eql 37 (.slice none 0 cap) (.slice none 0 0)).run Tryz.prog w = .ok (.bool true) w := fun _ => by kernel_rfl
    go_enter Tryz.func163, Tryz.ntmps163
    go_wp2
    go_ret
    exact .inl ⟨rfl, rfl, rfl⟩
  | some a =>
    have hc := hc a rfl
    have HRr := Lib.hid hr
    have hfl : (flatN css l.length).length = l.length * 13 := flatN_len (fun i hi => (hR _ _ (hr i hi)).1)
    have hone := flatN_one (fun i hi => hR _ _ (hr i hi))
    obtain ⟨i0, z0, hi, hz0, hz1, hz2⟩ := info_frS
    have hinfo : (Tryz.prog.info? 49).map (·.size) = some 13 := by rw [hi]; simp [hz1]
    obtain ⟨M, hM⟩ : ∃ M, M = madeCells z0.cells (((l.length : Nat) : Int).toNat * i0.size) := ⟨_, rfl⟩
    have hMs : M.size = l.length * 13 := by rw [hM, size_madeCells, hz1]; simp
    have hbb : i0.bytes * l.length ≤ 1000 * 1000000 := Nat.mul_le_mul hz2 hl
    have hbi : (i0.bytes : Int) * (l.length : Int) ≤ 281474976710656 := by have h := Int.ofNat_le.2 hbb; rw [Int.natCast_mul] at h; omega
    have hmk : ∀ W : World, (Instr.makeSlice 37 (.int .i64 (l.length : Int)) (.int .i64 (l.length : Int))).run Tryz.prog W = .ok (.slice (some ⟨W.heap.size, 0, none⟩) l.length l.length) (W.alloc (.cells M 49)) := fun W => by
      have h := run_make (P := Tryz.prog) W 37 49 i0 z0 Tryz.underlying37 hi hz0 .i64 .i64 (l.length : Int) (l.length : Int) (by omega) (by omega) hbi (by omega)
      rw [← hM] at h
      simpa using h
    have hba : ∀ j, j < (flatN css l.length).length → a.block < W.heap.size := fun j hj => by have := block_lt_of_cell (hc j _ (List.getElem?_eq_getElem hj)); rwa [block_add] at this
    have hcp := run_copy_all (P := Tryz.prog) (W.alloc (.cells M 49)) 37 37 3 49 W.heap.size l.length cap 13 a M 49 (flatN css l.length) Tryz.underlying37 hinfo (heap_alloc_new W _) hfl hMs
      (fun j v hj => by rw [((Below.refl _ W).alloc (Nat.le_refl _) _).cell (by rw [block_add]; exact hba j (List.getElem?_eq_some_iff.1 hj).1)]; exact hc j v hj) hone
    rw [alloc_setRow] at hcp
    obtain ⟨Y, hY⟩ : ∃ Y, Y = (flatN css l.length).toArray := ⟨_, rfl⟩
    rw [← hY] at hcp
    have HY := Lib.hid hY
    have he : ∀ w : World, (binOp .eql 37 (.slice (some a) l.length cap) (.slice none 0 0)).run Tryz.prog w = .ok (.bool false) w := fun _ => by kernel_rfl
    clear hY hone hfl hc hM hnil hr hR hba hbb hbi
    go_enter Tryz.func163, Tryz.ntmps163
    go_wp2
    go_ret
    exact .inr ⟨css, rfl, by rw [HY.out], HRr.out⟩
theorem info_frP : ∃ i z, Tryz.prog.info? 68 = some i ∧ i.zero = some z ∧ i.size = 2 ∧ i.bytes ≤ 1000 := by
  have h : (Tryz.prog.info? 68).map (fun i => (i.zero.isSome, i.size, decide (i.bytes ≤ 1000))) = some (true, 2, true) := by kernel_rfl
  obtain ⟨i, hi, h2⟩ := Option.map_eq_some_iff.1 h
  simp only [Prod.mk.injEq, decide_eq_true_eq] at h2
  obtain ⟨z, hz⟩ := Option.isSome_iff_exists.1 h2.1
  exact ⟨i, z, hi, hz, h2.2.1, h2.2.2⟩
set_option maxHeartbeats 1000000 in
set_option maxRecDepth 100000 in
theorem freshP_any {α : Type} {w W : World} {Q : Nat → Prop} {R : α → List Value → Prop} {l : List α} {v : Value} (h : SliceI w Q 2 R l v) (hI : In Q w W) (hR : ∀ x cs, R x cs → CellsOk 2 cs) (hl : l.length ≤ 1000000) :
    Calls Tryz.prog 161 #[v] W (FreshP 68 R l W) := by
  obtain ⟨A, cap, rfl, hl1, hl2⟩ := h.shape
  obtain ⟨_, hnil, css, hr, hc⟩ := slice_cells h hI hR
  clear h hI
  cases A with
  | none =>
    have HN := hnil rfl
    subst HN
    clear hnil hc hr hl1 hl2
    have he : ∀ w : World, (binOp .eql 36 (.slice none 0 cap) (.slice none 0 0)).run Tryz.prog w = .ok (.bool true) w := fun _ => by kernel_rfl
    go_enter Tryz.func161, Tryz.ntmps161
    go_wp2
    go_ret
    exact .inl ⟨rfl, rfl, rfl⟩
  | some a =>
    have hc := hc a rfl
    have HRr := Lib.hid hr
    have hfl : (flatN css l.length).length = l.length * 2 := flatN_len (fun i hi => (hR _ _ (hr i hi)).1)
    have hone := flatN_one (fun i hi => hR _ _ (hr i hi))
    obtain ⟨i0, z0, hi, hz0, hz1, hz2⟩ := info_frP
    have hinfo : (Tryz.prog.info? 68).map (·.size) = some 2 := by rw [hi]; simp [hz1]
    obtain ⟨M, hM⟩ : ∃ M, M = madeCells z0.cells (((l.length : Nat) : Int).toNat * i0.size) := ⟨_, rfl⟩
    have hMs : M.size = l.length * 2 := by rw [hM, size_madeCells, hz1]; simp
    have hbb : i0.bytes * l.length ≤ 1000 * 1000000 := Nat.mul_le_mul hz2 hl
    have hbi : (i0.bytes : Int) * (l.length : Int) ≤ 281474976710656 := by have h := Int.ofNat_le.2 hbb; rw [Int.natCast_mul] at h; omega
    have hmk : ∀ W : World, (Instr.makeSlice 36 (.int .i64 (l.length : Int)) (.int .i64 (l.length : Int))).run Tryz.prog W = .ok (.slice (some ⟨W.heap.size, 0, none⟩) l.length l.length) (W.alloc (.cells M 68)) := fun W => by
      have h := run_make (P := Tryz.prog) W 36 68 i0 z0 Tryz.underlying36 hi hz0 .i64 .i64 (l.length : Int) (l.length : Int) (by omega) (by omega) hbi (by omega)
      rw [← hM] at h
      simpa using h
    have hba : ∀ j, j < (flatN css l.length).length → a.block < W.heap.size := fun j hj => by have := block_lt_of_cell (hc j _ (List.getElem?_eq_getElem hj)); rwa [block_add] at this
    have hcp := run_copy_all (P := Tryz.prog) (W.alloc (.cells M 68)) 36 36 3 68 W.heap.size l.length cap 2 a M 68 (flatN css l.length) Tryz.underlying36 hinfo (heap_alloc_new W _) hfl hMs
      (fun j v hj => by rw [((Below.refl _ W).alloc (Nat.le_refl _) _).cell (by rw [block_add]; exact hba j (List.getElem?_eq_some_iff.1 hj).1)]; exact hc j v hj) hone
    rw [alloc_setRow] at hcp
    obtain ⟨Y, hY⟩ : ∃ Y, Y = (flatN css l.length).toArray := ⟨_, rfl⟩
    rw [← hY] at hcp
    have HY := Lib.hid hY
    have he : ∀ w : World, (binOp .eql 36 (.slice (some a) l.length cap) (.slice none 0 0)).run Tryz.prog w = .ok (.bool false) w := fun _ => by kernel_rfl
    clear hY hone hfl hc hM hnil hr hR hba hbb hbi
    go_enter Tryz.func161, Tryz.ntmps161
    go_wp2
    go_ret
    exact .inr ⟨css, rfl, by rw [HY.out], HRr.out⟩
theorem info_frQ : ∃ i z, Tryz.prog.info? 39 = some i ∧ i.zero = some z ∧ i.size = 5 ∧ i.bytes ≤ 1000 := by
  have h : (Tryz.prog.info? 39).map (fun i => (i.zero.isSome, i.size, decide (i.bytes ≤ 1000))) = some (true, 5, true) := by kernel_rfl
  obtain ⟨i, hi, h2⟩ := Option.map_eq_some_iff.1 h
  simp only [Prod.mk.injEq, decide_eq_true_eq] at h2
  obtain ⟨z, hz⟩ := Option.isSome_iff_exists.1 h2.1
  exact ⟨i, z, hi, hz, h2.2.1, h2.2.2⟩
set_option maxHeartbeats 1000000 in
set_option maxRecDepth 100000 in
theorem freshQ_any {α : Type} {w W : World} {Q : Nat → Prop} {R : α → List Value → Prop} {l : List α} {v : Value} (h : SliceI w Q 5 R l v) (hI : In Q w W) (hR : ∀ x cs, R x cs → CellsOk 5 cs) (hl : l.length ≤ 1000000) :
    Calls Tryz.prog 119 #[v] W (FreshP 39 R l W) := by
  obtain ⟨A, cap, rfl, hl1, hl2⟩ := h.shape
  obtain ⟨_, hnil, css, hr, hc⟩ := slice_cells h hI hR
  clear h hI
  cases A with
  | none =>
    have HN := hnil rfl
    subst HN
    clear hnil hc hr hl1 hl2
    have he : ∀ w : World, (binOp .eql 23 (.slice none 0 cap) (.slice none 0 0)).run Tryz.prog w = .ok (.bool true) w := fun _ => by kernel_rfl
    go_enter Tryz.func119, Tryz.ntmps119
    go_wp2
    go_ret
    exact .inl ⟨rfl, rfl, rfl⟩
  | some a =>
    have hc := hc a rfl
    have HRr := Lib.hid hr
    have hfl : (flatN css l.length).length = l.length * 5 := flatN_len (fun i hi => (hR _ _ (hr i hi)).1)
    have hone := flatN_one (fun i hi => hR _ _ (hr i hi))
    obtain ⟨i0, z0, hi, hz0, hz1, hz2⟩ := info_frQ
    have hinfo : (Tryz.prog.info? 39).map (·.size) = some 5 := by rw [hi]; simp [hz1]
    obtain ⟨M, hM⟩ : ∃ M, M = madeCells z0.cells (((l.length : Nat) : Int).toNat * i0.size) := ⟨_, rfl⟩
    have hMs : M.size = l.length * 5 := by rw [hM, size_madeCells, hz1]; simp
    have hbb : i0.bytes * l.length ≤ 1000 * 1000000 := Nat.mul_le_mul hz2 hl
    have hbi : (i0.bytes : Int) * (l.length : Int) ≤ 281474976710656 := by have h := Int.ofNat_le.2 hbb; rw [Int.natCast_mul] at h; omega
    have hmk : ∀ W : World, (Instr.makeSlice 23 (.int .i64 (l.length : Int)) (.int .i64 (l.length : Int))).run Tryz.prog W = .ok (.slice (some ⟨W.heap.size, 0, none⟩) l.length l.length) (W.alloc (.cells M 39)) := fun W => by
      have h := run_make (P := Tryz.prog) W 23 39 i0 z0 Tryz.underlying23 hi hz0 .i64 .i64 (l.length : Int) (l.length : Int) (by omega) (by omega) hbi (by omega)
      rw [← hM] at h
      simpa using h
    have hba : ∀ j, j < (flatN css l.length).length → a.block < W.heap.size := fun j hj => by have := block_lt_of_cell (hc j _ (List.getElem?_eq_getElem hj)); rwa [block_add] at this
    have hcp := run_copy_all (P := Tryz.prog) (W.alloc (.cells M 39)) 23 23 3 39 W.heap.size l.length cap 5 a M 39 (flatN css l.length) Tryz.underlying23 hinfo (heap_alloc_new W _) hfl hMs
      (fun j v hj => by rw [((Below.refl _ W).alloc (Nat.le_refl _) _).cell (by rw [block_add]; exact hba j (List.getElem?_eq_some_iff.1 hj).1)]; exact hc j v hj) hone
    rw [alloc_setRow] at hcp
    obtain ⟨Y, hY⟩ : ∃ Y, Y = (flatN css l.length).toArray := ⟨_, rfl⟩
    rw [← hY] at hcp
    have HY := Lib.hid hY
    have he : ∀ w : World, (binOp .eql 23 (.slice (some a) l.length cap) (.slice none 0 0)).run Tryz.prog w = .ok (.bool false) w := fun _ => by kernel_rfl
    clear hY hone hfl hc hM hnil hr hR hba hbb hbi
    go_enter Tryz.func119, Tryz.ntmps119
    go_wp2
    go_ret
    exact .inr ⟨css, rfl, by rw [HY.out], HRr.out⟩
end Go.Proofs.YtimejkbmfbjomaaGreat
