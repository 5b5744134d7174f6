/- Contracts of the reference's functions that make a token (whittlerref1): what each returns; they make memory at most. -/
import Derived.Test.YtcncbdnnakfgcaaLexT
namespace Go.Proofs.Ytcncbdnnakfgcaa
open Go.ChangeShapes Go.WideShapes Go.ChangeAt Go.RowKit
set_option linter.unusedVariables false

theorem small_any (c : UInt8) (w : World) :
    Calls Try.prog 41 #[.int .u8 c.toNat] w fun e w' => e = .returned (.bool (isLo c)) ∧ w = w' := by
  go_enter Try.func41, Try.ntmps41
  go_wp2
  all_goals
    go_ret
    refine ⟨ret_bool ?_, rfl⟩
    simp only [isLo]
    rw [Bool.eq_iff_iff]
    simp only [Bool.and_eq_true, decide_eq_true_eq, Bool.false_eq_true]
    first | omega | (simp only [false_iff, not_and]; intro _; omega)
theorem rdigit_any (c : UInt8) (w : World) :
    Calls Try.prog 44 #[.int .u8 c.toNat] w fun e w' => e = .returned (.bool (isDi c)) ∧ w = w' := by
  go_enter Try.func44, Try.ntmps44
  go_wp2
  all_goals
    go_ret
    refine ⟨ret_bool ?_, rfl⟩
    simp only [isDi]
    rw [Bool.eq_iff_iff]
    simp only [Bool.and_eq_true, decide_eq_true_eq, Bool.false_eq_true]
    first | omega | (simp only [false_iff, not_and]; intro _; omega)

theorem blank_no (c : UInt8) (w : World) (h : isSp c = false) :
    Calls Try.prog 35 #[.int .u8 c.toNat] w fun e w' => e = .returned (.bool false) ∧ w = w' := by
  simp only [isSp, Bool.or_eq_false_iff, beq_eq_false_iff_ne] at h
  have q1 : (((c.toNat : Nat) : Int) == 32) = false := by simp; omega
  have q2 : (((c.toNat : Nat) : Int) == 9) = false := by simp; omega
  have q3 : (((c.toNat : Nat) : Int) == 10) = false := by simp; omega
  have q4 : (((c.toNat : Nat) : Int) == 13) = false := by simp; omega
  clear h
  go_enter Try.func35, Try.ntmps35
  go_wp2
  go_ret
  exact ⟨rfl, rfl⟩
theorem blank_any (c : UInt8) (w : World) :
    Calls Try.prog 35 #[.int .u8 c.toNat] w fun e w' => e = .returned (.bool (isSp c)) ∧ w = w' := by
  cases hh : isSp c
  · exact blank_no c w hh
  · have h := hh
    simp only [isSp, Bool.or_eq_true, beq_iff_eq, or_assoc] at h
    clear hh
    rcases h with h | h | h | h
    all_goals
      rw [h]
      clear h
      go_enter Try.func35, Try.ntmps35
      go_wp2
      go_ret
      exact ⟨rfl, rfl⟩

def wdAt (l : List Bs) (k : Nat) : Bs := l.getD k []
/-- a new block of strings, and how it is read -/
def strCells (l : List Bs) : Array Value := (l.map fun x => Value.string (bs x)).toArray
theorem str_cell (w : World) (l : List Bs) (t : TypeId) (k : Nat) (h : k < l.length) : (w.alloc (.cells (strCells l) t)).cell? ⟨w.heap.size, k, none⟩ = some (.string (bs (wdAt l k))) := by
  rw [(Blk.new w t (strCells l)).cell k]
  simp [strCells, wdAt, h]
theorem Words_any (w : World) : Calls Try.prog 48 #[] w fun e w' => e = .returned (.slice (some ⟨w.heap.size, 0, none⟩) 13 13) ∧ w' = w.alloc (.cells (strCells wds) 9) := by
  go_enter Try.func48, Try.ntmps48
  go_wp2
  go_ret
  exact ⟨rfl, rfl⟩
theorem any_take {l : List Bs} {x : Bs} {k : Nat} (hk : k < l.length) (h : (l.take k).any (x == ·) = false) (hne : (x == wdAt l k) = false) : (l.take (k + 1)).any (x == ·) = false := by
  rw [List.take_succ_eq_append_getElem hk, List.any_append, h, Bool.false_or]
  have : wdAt l k = l[k] := by simp [wdAt, hk]
  rw [this] at hne
  simpa using hne
theorem any_hit {l : List Bs} {x : Bs} {k : Nat} (hk : k < l.length) (he : (x == wdAt l k) = true) : l.any (x == ·) = true := by
  have : wdAt l k = l[k] := by simp [wdAt, hk]
  rw [this] at he
  exact List.any_eq_true.2 ⟨l[k], List.getElem_mem hk, he⟩
theorem beq_bytes (x : Bs) (s : ByteArray) : ((bs x).toList == s.toList) = (bl s == x) := by
  rw [bl_toList, bl_toList, bl_bs]
  exact Bool.beq_comm
set_option maxHeartbeats 4000000 in
theorem rWord_any (s : ByteArray) (w : World) :
    Calls Try.prog 43 #[.string s] w fun e w' => e = .returned (.bool (isWd (bl s))) ∧ Below w.heap.size w w' := by
  have hb0 : Below w.heap.size w (w.alloc (.cells (strCells wds) 9)) := (Below.refl _ _).alloc (Nat.le_refl _) _
  have hcell : ∀ k, k < 13 → (w.alloc (.cells (strCells wds) 9)).cell? ⟨w.heap.size, k, none⟩ = some (.string (bs (wdAt wds k))) := fun k hk => str_cell w wds _ k hk
  obtain ⟨W, hW⟩ : ∃ W, W = w.alloc (.cells (strCells wds) 9) := ⟨_, rfl⟩
  have HC := Lib.hid hcell
  have HB := Lib.hid hb0
  rw [← hW] at HC HB
  have HW := Lib.hid hW
  clear hW hcell hb0
  go_enter Try.func43, Try.ntmps43
  go_wp2_with (go_at_call 48; refine (Words_any _).mono ?_; rintro e w' ⟨rfl, hw'⟩; rw [← HW.out] at hw'; subst hw')
  go_loop [4, 7] (fun _ i => ∃ k : Nat, k ≤ 13 ∧ i = .int .i64 k ∧ Hid ((wds.take k).any (bl s == ·) = false)) (fun _ i => 13 - (intOf i).toNat)
  case atStart => exact ⟨0, Nat.zero_le _, rfl, Lib.hid rfl⟩
  case round =>
    obtain ⟨k, hk, rfl, HA⟩ := hrel
    by_cases hlt : k < 13
    · have hc := HC.out k hlt
      cases he : (bl s == wdAt wds k) with
      | true =>
        have q : ((bs (wdAt wds k)).toList == s.toList) = true := by rw [beq_bytes]; exact he
        have HR := Lib.hid (any_hit (l := wds) hlt he)
        clear he
        go_wp2
        go_ret
        exact ⟨ret_bool HR.out.symm, HB.out⟩
      | false =>
        have q : ((bs (wdAt wds k)).toList == s.toList) = false := by rw [beq_bytes]; exact he
        have HR := Lib.hid (any_take (l := wds) hlt HA.out he)
        clear he
        go_wp2
        go_round
        case rel => exact ⟨k + 1, by omega, by go_num, HR⟩
        case measure => simp [intOf]; omega
    · go_wp2
      go_ret
      refine ⟨ret_bool ?_, HB.out⟩
      have := HA.out
      rw [List.take_of_length_le (by show 13 ≤ k; omega)] at this
      exact this.symm
end Go.Proofs.Ytcncbdnnakfgcaa
