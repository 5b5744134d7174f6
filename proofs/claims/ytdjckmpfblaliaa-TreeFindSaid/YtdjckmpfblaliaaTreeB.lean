/- Small words over bytes, worlds and blocks, for the proofs of stage 3. -/
import Derived.Test.YtdjckmpfblaliaaProg
import Derived.Test.YtdjckmpfblaliaaLexP
import Derived.WalkKit
import Derived.ProofKit
import Derived.OpenShut
import Derived.Lib.Strings
import Derived.Lib.IndexBytes
import Derived.Lib.Hide
import Derived.Below
import Derived.OwnWalk
import Derived.Laws.AppendOwn
import Derived.Laws.OwnMore
import Derived.Laws.Rows
namespace Go.Proofs.Ytdjckmpfblaliaa
open Go.ChangeShapes Go.WideShapes Go.ChangeAt Go.RowKit
set_option linter.unusedVariables false

def intOf : Value → Int | .int _ q => q | _ => 0
abbrev bl (s : ByteArray) : Bs := s.data.toList
def bs (l : Bs) : ByteArray := ⟨l.toArray⟩
theorem bs_bl (s : ByteArray) : bs (bl s) = s := Lib.mk_data s
theorem bl_bs (l : Bs) : bl (bs l) = l := by simp [bl, bs]
theorem bl_toList (s : ByteArray) : s.toList = bl s := Lib.toList_data s
theorem bs_extract (s : ByteArray) (a b : Nat) : s.extract a b = bs (((bl s).drop a).take (b - a)) := Lib.extract_eq s a b
theorem size_bl (s : ByteArray) : s.size = (bl s).length := Lib.size_eq s
theorem bl_at (s : ByteArray) (k : Nat) (h : k < s.size) : (bl s).drop k = s[k] :: (bl s).drop (k + 1) := by
  have hl : k < (bl s).length := by rw [← size_bl]; exact h
  rw [List.drop_eq_getElem_cons hl]
  rfl
theorem ret_bool {a b : Bool} (h : a = b) : Ending.returned (.bool a) = .returned (.bool b) := by rw [h]
theorem ret_int {k : IntKind} {a b : Int} (h : a = b) : Ending.returned (.int k a) = .returned (.int k b) := by rw [h]
theorem bl_take (s : ByteArray) (k : Nat) (h : k < s.size) : (bl s).take (k + 1) = (bl s).take k ++ [s[k]] := by
  have hl : k < (bl s).length := by rw [← size_bl]; exact h
  rw [List.take_succ_eq_append_getElem hl]
  rfl
theorem all_at {p : UInt8 → Bool} {s : ByteArray} (h : (bl s).all p = true) (k : Nat) (hk : k < s.size) : p s[k] = true := by
  rw [List.all_eq_true] at h
  have hl : k < (bl s).length := by rw [← size_bl]; exact hk
  exact h (bl s)[k] (List.getElem_mem hl)
theorem di_bounds {c : UInt8} (h : isDi c = true) : 48 ≤ c.toNat ∧ c.toNat ≤ 57 := by
  simp only [isDi, Bool.and_eq_true, decide_eq_true_eq] at h
  exact h
theorem bcell {B : Nat} {W w1 : World} (hb : Below B W w1) : (∀ b o, b < B → w1.cell? ⟨b, o, none⟩ = W.cell? ⟨b, o, none⟩) ∧ (∀ b o, b < B → w1.frozen? ⟨b, o, none⟩ = W.frozen? ⟨b, o, none⟩) :=
  ⟨fun b o h => hb.cell (p := ⟨b, o, none⟩) h, fun b o h => hb.frozen (p := ⟨b, o, none⟩) h⟩
theorem below_new {w w' : World} {o : Obj} (hb : Below (w.alloc o).heap.size (w.alloc o) w') : Below w.heap.size w w' :=
  ((Below.refl _ _).alloc (Nat.le_refl _) o).trans (hb.mono (by simp))
theorem ld_cases {c : UInt8} (h : isLD c = true) : isLo c = true ∨ (isLo c = false ∧ isDi c = true) := by
  cases hl : isLo c
  · rw [isLD, hl] at h
    exact .inr ⟨rfl, by simpa using h⟩
  · exact .inl rfl
theorem ld_false {c : UInt8} (h : isLD c = false) : isLo c = false ∧ isDi c = false := by
  rw [isLD, Bool.or_eq_false_iff] at h
  exact h
def Blk (w : World) (g : Nat) (t : TypeId) (cs : Array Value) : Prop := w.heap[g]? = some (.cells cs t (0, 0))
section
variable {w w' : World} {g : Nat} {t : TypeId} {cs : Array Value}
theorem Blk.lt (h : Blk w g t cs) : g < w.heap.size := by
  rcases Nat.lt_or_ge g w.heap.size with hlt | hge
  · exact hlt
  · unfold Blk at h; rw [Array.getElem?_eq_none hge] at h; cases h
theorem Blk.cell (h : Blk w g t cs) (i : Nat) : w.cell? ⟨g, i, none⟩ = cs[i]? := cell_of_row w g i cs t (0, 0) h
theorem Blk.frozen (h : Blk w g t cs) (i : Nat) : w.frozen? ⟨g, i, none⟩ = false := by
  unfold Blk at h
  simp [World.frozen?, h]
theorem Blk.new (w : World) (t : TypeId) (cs : Array Value) : Blk (w.alloc (.cells cs t)) w.heap.size t cs := heap_alloc_new w _
theorem Blk.alloc (h : Blk w g t cs) (o : Obj) : Blk (w.alloc o) g t cs := (Below.heap_alloc w o g h.lt).trans h
theorem Blk.set_ (h : Blk w g t cs) (i : Nat) (u : Value) : Blk (w.setCell ⟨g, i, none⟩ u) g t (cs.setIfInBounds i u) := by
  unfold Blk at h ⊢
  simp [World.setCell, Array.getElem?_modify, h]
theorem Blk.far (h : Blk w g t cs) {p : Addr} (hp : g ≠ p.block) (u : Value) : Blk (w.setCell p u) g t cs := (Below.heap_setCell w p u g hp).trans h
theorem Blk.below {B : Nat} (h : Blk w g t cs) (hb : Below B w w') (hg : g < B) : Blk w' g t cs := (hb.block g hg).trans h
theorem Blk.grown {row : Option Nat} (h : Blk w g t cs) (hb : w.grownBy w' row) (hg : some g ≠ row) : Blk w' g t cs := (hb.block g h.lt hg).trans h
end

theorem ret_str {a b : ByteArray} (h : a = b) : Ending.returned (.string a) = .returned (.string b) := by rw [h]
theorem nm_short {s : ByteArray} (h : isNm (bl s) = true) : 0 < s.size ∧ s.size ≤ 8 := by
  rw [size_bl]
  unfold isNm at h
  cases hb : bl s with
  | nil => rw [hb] at h; simp at h
  | cons c r =>
    rw [hb] at h
    simp only [Bool.and_eq_true, decide_eq_true_eq] at h
    exact ⟨by simp, h.1.1.2⟩
theorem nm_zero (s : ByteArray) (h : s.size = 0) : isNm (bl s) = false := by
  have hnil : bl s = [] := List.eq_nil_of_length_eq_zero (by rw [← size_bl]; exact h)
  rw [hnil]
  rfl
theorem nm_long (s : ByteArray) (h : 8 < s.size) : isNm (bl s) = false := by
  cases hn : isNm (bl s) with
  | false => rfl
  | true => have := nm_short hn; omega
theorem nm_head (s : ByteArray) (h0 : 0 < s.size) (h : isLo s[0] = false) : isNm (bl s) = false := by
  have hc := bl_at s 0 h0
  rw [List.drop_zero] at hc
  rw [hc]
  simp [isNm, h]
theorem nm_in (s : ByteArray) (k : Nat) (hk : k < s.size) (h : isLD s[k] = false) : isNm (bl s) = false := by
  have hall : (bl s).all isLD = false := by
    cases hx : (bl s).all isLD with
    | false => rfl
    | true => rw [all_at hx k hk] at h; cases h
  simp [isNm, hall]
theorem nm_all (s : ByteArray) (h0 : 0 < s.size) (h8 : s.size ≤ 8) (hl : isLo s[0] = true) (h : ∀ j (hj : j < s.size), isLD s[j] = true) : isNm (bl s) = !isWd (bl s) := by
  have hall : (bl s).all isLD = true := by
    rw [List.all_eq_true]
    intro c hc
    obtain ⟨j, hj, rfl⟩ := List.getElem_of_mem hc
    exact h j (by rw [size_bl]; exact hj)
  have hc := bl_at s 0 h0
  rw [List.drop_zero] at hc
  have h8' : (bl s).length ≤ 8 := by rw [← size_bl]; exact h8
  have hh : (match bl s with | [] => false | c :: _ => isLo c) = true := by rw [hc]; exact hl
  unfold isNm
  rw [hall, Bool.and_true, decide_eq_true h8', Bool.and_true]
  rw [hc] at *
  simp [hl]
end Go.Proofs.Ytdjckmpfblaliaa
