/- lex.Name and lex.Word, and what they call. whittlerref1.Name and what it calls. -/
import Derived.Test.YtkbjlnmdlolhiaaTreeN1
namespace Go.Proofs.Ytkbjlnmdlolhiaa
open Go.ChangeShapes Go.WideShapes Go.ChangeAt Go.RowKit
set_option linter.unusedVariables false

theorem digit_any (c : UInt8) (w : World) :
    Calls Try.prog 92 #[.int .u8 c.toNat] w fun e w' => e = .returned (.bool (isDi c)) ∧ w = w' := by
  go_enter Try.func92, Try.ntmps92
  go_wp2
  all_goals
    go_ret
    refine ⟨ret_bool ?_, rfl⟩
    simp only [isDi]
    rw [Bool.eq_iff_iff]
    simp only [Bool.and_eq_true, decide_eq_true_eq, Bool.false_eq_true]
    first | omega | (simp only [false_iff, not_and]; intro _; omega)
theorem letter_any (c : UInt8) (w : World) :
    Calls Try.prog 91 #[.int .u8 c.toNat] w fun e w' => e = .returned (.bool (isLo c)) ∧ w = w' := by
  go_enter Try.func91, Try.ntmps91
  go_wp2
  all_goals
    go_ret
    refine ⟨ret_bool ?_, rfl⟩
    simp only [isLo]
    rw [Bool.eq_iff_iff]
    simp only [Bool.and_eq_true, decide_eq_true_eq, Bool.false_eq_true]
    first | omega | (simp only [false_iff, not_and]; intro _; omega)
set_option maxHeartbeats 1000000 in
theorem Word_any (s : ByteArray) (w : World) :
    Calls Try.prog 93 #[.string s] w fun e w' => e = .returned (.bool (isWd (bl s))) ∧ w = w' := by
  by_cases hw : isWd (bl s) = true
  · rw [hw]
    simp only [isWd, wds, List.any_cons, List.any_nil, Bool.or_false, Bool.or_eq_true, beq_iff_eq, ← bl_toList] at hw
    rcases hw with h | h | h | h | h | h | h | h | h | h | h | h | h
    all_goals
      first | have q0 : (s.toList == [103, 108, 111, 98, 97, 108]) = false := (by rw [h]; rfl) | have q0 : (s.toList == [103, 108, 111, 98, 97, 108]) = true := (by rw [h]; rfl)
      first | have q1 : (s.toList == [112, 114, 111, 99]) = false := (by rw [h]; rfl) | have q1 : (s.toList == [112, 114, 111, 99]) = true := (by rw [h]; rfl)
      first | have q2 : (s.toList == [118, 97, 114]) = false := (by rw [h]; rfl) | have q2 : (s.toList == [118, 97, 114]) = true := (by rw [h]; rfl)
      first | have q3 : (s.toList == [114, 101, 102]) = false := (by rw [h]; rfl) | have q3 : (s.toList == [114, 101, 102]) = true := (by rw [h]; rfl)
      first | have q4 : (s.toList == [105, 102]) = false := (by rw [h]; rfl) | have q4 : (s.toList == [105, 102]) = true := (by rw [h]; rfl)
      first | have q5 : (s.toList == [101, 108, 115, 101]) = false := (by rw [h]; rfl) | have q5 : (s.toList == [101, 108, 115, 101]) = true := (by rw [h]; rfl)
      first | have q6 : (s.toList == [119, 104, 105, 108, 101]) = false := (by rw [h]; rfl) | have q6 : (s.toList == [119, 104, 105, 108, 101]) = true := (by rw [h]; rfl)
      first | have q7 : (s.toList == [98, 114, 101, 97, 107]) = false := (by rw [h]; rfl) | have q7 : (s.toList == [98, 114, 101, 97, 107]) = true := (by rw [h]; rfl)
      first | have q8 : (s.toList == [99, 111, 110, 116, 105, 110, 117, 101]) = false := (by rw [h]; rfl) | have q8 : (s.toList == [99, 111, 110, 116, 105, 110, 117, 101]) = true := (by rw [h]; rfl)
      first | have q9 : (s.toList == [114, 101, 116, 117, 114, 110]) = false := (by rw [h]; rfl) | have q9 : (s.toList == [114, 101, 116, 117, 114, 110]) = true := (by rw [h]; rfl)
      first | have q10 : (s.toList == [103, 111, 116, 111]) = false := (by rw [h]; rfl) | have q10 : (s.toList == [103, 111, 116, 111]) = true := (by rw [h]; rfl)
      first | have q11 : (s.toList == [114, 101, 97, 100]) = false := (by rw [h]; rfl) | have q11 : (s.toList == [114, 101, 97, 100]) = true := (by rw [h]; rfl)
      first | have q12 : (s.toList == [112, 114, 105, 110, 116]) = false := (by rw [h]; rfl) | have q12 : (s.toList == [112, 114, 105, 110, 116]) = true := (by rw [h]; rfl)
      clear h
      go_enter Try.func93, Try.ntmps93
      go_wp2
      go_ret
      exact ⟨rfl, rfl⟩
  · have hw' : isWd (bl s) = false := by simpa using hw
    rw [hw']
    clear hw
    simp only [isWd, wds, List.any_cons, List.any_nil, Bool.or_false, Bool.or_eq_false_iff, beq_eq_false_iff_ne, ne_eq, ← bl_toList] at hw'
    obtain ⟨h0, h1, h2, h3, h4, h5, h6, h7, h8, h9, h10, h11, h12⟩ := hw'
    have q0 : (s.toList == [103, 108, 111, 98, 97, 108]) = false := by simpa using h0
    have q1 : (s.toList == [112, 114, 111, 99]) = false := by simpa using h1
    have q2 : (s.toList == [118, 97, 114]) = false := by simpa using h2
    have q3 : (s.toList == [114, 101, 102]) = false := by simpa using h3
    have q4 : (s.toList == [105, 102]) = false := by simpa using h4
    have q5 : (s.toList == [101, 108, 115, 101]) = false := by simpa using h5
    have q6 : (s.toList == [119, 104, 105, 108, 101]) = false := by simpa using h6
    have q7 : (s.toList == [98, 114, 101, 97, 107]) = false := by simpa using h7
    have q8 : (s.toList == [99, 111, 110, 116, 105, 110, 117, 101]) = false := by simpa using h8
    have q9 : (s.toList == [114, 101, 116, 117, 114, 110]) = false := by simpa using h9
    have q10 : (s.toList == [103, 111, 116, 111]) = false := by simpa using h10
    have q11 : (s.toList == [114, 101, 97, 100]) = false := by simpa using h11
    have q12 : (s.toList == [112, 114, 105, 110, 116]) = false := by simpa using h12
    clear h0 h1 h2 h3 h4 h5 h6 h7 h8 h9 h10 h11 h12
    go_enter Try.func93, Try.ntmps93
    go_wp2
    go_ret
    exact ⟨rfl, rfl⟩
set_option maxHeartbeats 4000000 in
theorem Name_any (s : ByteArray) (w : World) (hs : s.size ≤ maxLen) :
    Calls Try.prog 44 #[.string s] w fun e w' => e = .returned (.bool (isNm (bl s))) ∧ w = w' := by
  unfold maxLen at hs
  by_cases h0 : s.size = 0
  · rw [nm_zero s h0]
    have q0 : (((s.size : Nat) : Int) == 0) = true := by rw [h0]; rfl
    clear h0
    go_enter Try.func44, Try.ntmps44
    go_wp2
    go_ret
    exact ⟨rfl, rfl⟩
  · have q0 : (((s.size : Nat) : Int) == 0) = false := beq_eq_false_iff_ne.2 (by omega)
    have hp : 0 < s.size := by omega
    by_cases h8 : 8 < s.size
    · rw [nm_long s h8]
      clear h0
      go_enter Try.func44, Try.ntmps44
      go_wp2
      go_ret
      exact ⟨rfl, rfl⟩
    · clear h0
      cases hl : isLo s[0] with
      | false =>
        rw [nm_head s hp hl]
        go_enter Try.func44, Try.ntmps44
        go_wp2_with (go_at_call 91; refine (letter_any _ _).mono ?_; rintro e w' ⟨rfl, rfl⟩)
        go_ret
        exact ⟨rfl, rfl⟩
      | true =>
        go_enter Try.func44, Try.ntmps44
        go_wp2_with (go_at_call 91; refine (letter_any _ _).mono ?_; rintro e w' ⟨rfl, rfl⟩)
        go_loop [3, 20] (fun _ i => ∃ k : Nat, k ≤ s.size ∧ i = .int .i64 k ∧ Hid (∀ j (hj : j < s.size), j < k → isLD s[j] = true)) (fun _ i => s.size - (intOf i).toNat)
        case atStart => exact ⟨0, Nat.zero_le _, rfl, Lib.hid (fun j hj h => absurd h (by omega))⟩
        case round =>
          obtain ⟨k, hk, rfl, HA⟩ := hrel
          by_cases hlt : k < s.size
          · cases hld : isLD s[k] with
            | true =>
              have HA' : Hid (∀ j (hj : j < s.size), j < k + 1 → isLD s[j] = true) := Lib.hid (fun j hj h => by
                by_cases e : j = k
                · subst e; exact hld
                · exact HA.out j hj (by omega))
              rcases ld_cases hld with hl1 | ⟨hl1, hd1⟩
              all_goals
                clear hld
                go_wp2_with (first
                  | (go_at_call 91; refine (letter_any _ _).mono ?_; rintro e w' ⟨rfl, rfl⟩)
                  | (go_at_call 92; refine (digit_any _ _).mono ?_; rintro e w' ⟨rfl, rfl⟩))
                go_round
                case rel => exact ⟨k + 1, by omega, by go_num, HA'⟩
                case measure => simp [intOf]; omega
            | false =>
              have HN := Lib.hid (nm_in s k hlt hld)
              obtain ⟨hl1, hd1⟩ := ld_false hld
              clear hld
              go_wp2_with (first
                | (go_at_call 91; refine (letter_any _ _).mono ?_; rintro e w' ⟨rfl, rfl⟩)
                | (go_at_call 92; refine (digit_any _ _).mono ?_; rintro e w' ⟨rfl, rfl⟩))
              go_ret
              exact ⟨ret_bool HN.out.symm, rfl⟩
          · have HN := Lib.hid (nm_all s hp (by omega) hl (fun j hj => HA.out j hj (by omega)))
            go_wp2_with (go_at_call 93; refine (Word_any _ _).mono ?_; rintro e w' ⟨rfl, rfl⟩)
            go_ret
            exact ⟨ret_bool HN.out.symm, rfl⟩
end Go.Proofs.Ytkbjlnmdlolhiaa
namespace Go.Proofs.Ytkbjlnmdlolhiaa
open Go.ChangeShapes Go.WideShapes Go.ChangeAt Go.RowKit
set_option linter.unusedVariables false

theorem small_any (c : UInt8) (w : World) :
    Calls Try.prog 101 #[.int .u8 c.toNat] w fun e w' => e = .returned (.bool (isLo c)) ∧ w = w' := by
  go_enter Try.func101, Try.ntmps101
  go_wp2
  all_goals
    go_ret
    refine ⟨ret_bool ?_, rfl⟩
    simp only [isLo]
    rw [Bool.eq_iff_iff]
    simp only [Bool.and_eq_true, decide_eq_true_eq, Bool.false_eq_true]
    first | omega | (simp only [false_iff, not_and]; intro _; omega)
theorem rdigit_any (c : UInt8) (w : World) :
    Calls Try.prog 102 #[.int .u8 c.toNat] w fun e w' => e = .returned (.bool (isDi c)) ∧ w = w' := by
  go_enter Try.func102, Try.ntmps102
  go_wp2
  all_goals
    go_ret
    refine ⟨ret_bool ?_, rfl⟩
    simp only [isDi]
    rw [Bool.eq_iff_iff]
    simp only [Bool.and_eq_true, decide_eq_true_eq, Bool.false_eq_true]
    first | omega | (simp only [false_iff, not_and]; intro _; omega)
def wdAt (l : List Bs) (k : Nat) : Bs := l.getD k []
/-- a new block of strings, and how it is read -/
def strCells (l : List Bs) : Array Value := (l.map fun x => Value.string (bs x)).toArray
theorem str_cell (w : World) (l : List Bs) (t : TypeId) (k : Nat) (h : k < l.length) : (w.alloc (.cells (strCells l) t)).cell? ⟨w.heap.size, k, none⟩ = some (.string (bs (wdAt l k))) := by
  rw [(Blk.new w t (strCells l)).cell k]
  simp [strCells, wdAt, h]
theorem Words_any (w : World) : Calls Try.prog 137 #[] w fun e w' => e = .returned (.slice (some ⟨w.heap.size, 0, none⟩) 13 13) ∧ w' = w.alloc (.cells (strCells wds) 9) := by
  go_enter Try.func137, Try.ntmps137
  go_wp2
  go_ret
  exact ⟨rfl, rfl⟩
theorem any_take {l : List Bs} {x : Bs} {k : Nat} (hk : k < l.length) (h : (l.take k).any (x == ·) = false) (hne : (x == wdAt l k) = false) : (l.take (k + 1)).any (x == ·) = false := by
  rw [List.take_succ_eq_append_getElem hk, List.any_append, h, Bool.false_or]
  have : wdAt l k = l[k] := by simp [wdAt, hk]
  rw [this] at hne
  simpa using hne
theorem any_hit {l : List Bs} {x : Bs} {k : Nat} (hk : k < l.length) (he : (x == wdAt l k) = true) : l.any (x == ·) = true := by
  have : wdAt l k = l[k] := by simp [wdAt, hk]
  rw [this] at he
  exact List.any_eq_true.2 ⟨l[k], List.getElem_mem hk, he⟩
theorem beq_bytes (x : Bs) (s : ByteArray) : ((bs x).toList == s.toList) = (bl s == x) := by
  rw [bl_toList, bl_toList, bl_bs]
  exact Bool.beq_comm
set_option maxHeartbeats 4000000 in
theorem rWord_any (s : ByteArray) (w : World) :
    Calls Try.prog 103 #[.string s] w fun e w' => e = .returned (.bool (isWd (bl s))) ∧ Below w.heap.size w w' := by
  have hb0 : Below w.heap.size w (w.alloc (.cells (strCells wds) 9)) := (Below.refl _ _).alloc (Nat.le_refl _) _
  have hcell : ∀ k, k < 13 → (w.alloc (.cells (strCells wds) 9)).cell? ⟨w.heap.size, k, none⟩ = some (.string (bs (wdAt wds k))) := fun k hk => str_cell w wds _ k hk
  obtain ⟨W, hW⟩ : ∃ W, W = w.alloc (.cells (strCells wds) 9) := ⟨_, rfl⟩
  have HC := Lib.hid hcell
  have HB := Lib.hid hb0
  rw [← hW] at HC HB
  have HW := Lib.hid hW
  clear hW hcell hb0
  go_enter Try.func103, Try.ntmps103
  go_wp2_with (go_at_call 137; refine (Words_any _).mono ?_; rintro e w' ⟨rfl, hw'⟩; rw [← HW.out] at hw'; subst hw')
  go_loop [4, 7] (fun _ i => ∃ k : Nat, k ≤ 13 ∧ i = .int .i64 k ∧ Hid ((wds.take k).any (bl s == ·) = false)) (fun _ i => 13 - (intOf i).toNat)
  case atStart => exact ⟨0, Nat.zero_le _, rfl, Lib.hid rfl⟩
  case round =>
    obtain ⟨k, hk, rfl, HA⟩ := hrel
    by_cases hlt : k < 13
    · have hc := HC.out k hlt
      cases he : (bl s == wdAt wds k) with
      | true =>
        have q : ((bs (wdAt wds k)).toList == s.toList) = true := by rw [beq_bytes]; exact he
        have HR := Lib.hid (any_hit (l := wds) hlt he)
        clear he
        go_wp2
        go_ret
        exact ⟨ret_bool HR.out.symm, HB.out⟩
      | false =>
        have q : ((bs (wdAt wds k)).toList == s.toList) = false := by rw [beq_bytes]; exact he
        have HR := Lib.hid (any_take (l := wds) hlt HA.out he)
        clear he
        go_wp2
        go_round
        case rel => exact ⟨k + 1, by omega, by go_num, HR⟩
        case measure => simp [intOf]; omega
    · go_wp2
      go_ret
      refine ⟨ret_bool ?_, HB.out⟩
      have := HA.out
      rw [List.take_of_length_le (by show 13 ≤ k; omega)] at this
      exact this.symm
set_option maxHeartbeats 4000000 in
theorem rName_any (s : ByteArray) (w : World) (hs : s.size ≤ maxLen) :
    Calls Try.prog 60 #[.string s] w fun e w' => e = .returned (.bool (isNm (bl s))) ∧ Below w.heap.size w w' := by
  unfold maxLen at hs
  by_cases h0 : s.size = 0
  · rw [nm_zero s h0]
    have hs0 : s = ⟨#[]⟩ := by apply ByteArray.ext; exact Array.eq_empty_of_size_eq_zero h0
    subst hs0
    go_enter Try.func60, Try.ntmps60
    go_wp2
    go_ret
    exact ⟨rfl, Below.refl _ _⟩
  · have hp : 0 < s.size := by omega
    have q0 : (s.toList == []) = false := by
      rw [bl_toList]
      have hc := bl_at s 0 hp
      rw [List.drop_zero] at hc
      rw [hc]
      rfl
    by_cases h8 : 8 < s.size
    · rw [nm_long s h8]
      clear h0
      go_enter Try.func60, Try.ntmps60
      go_wp2
      go_ret
      exact ⟨rfl, Below.refl _ _⟩
    · clear h0
      cases hl : isLo s[0] with
      | false =>
        rw [nm_head s hp hl]
        go_enter Try.func60, Try.ntmps60
        go_wp2_with (go_at_call 101; refine (small_any _ _).mono ?_; rintro e w' ⟨rfl, rfl⟩)
        go_ret
        exact ⟨rfl, Below.refl _ _⟩
      | true =>
        go_enter Try.func60, Try.ntmps60
        go_wp2_with (go_at_call 101; refine (small_any _ _).mono ?_; rintro e w' ⟨rfl, rfl⟩)
        go_loop [3] (fun i => ∃ k : Nat, 1 ≤ k ∧ k ≤ s.size ∧ i = .int .i64 k ∧ Hid (∀ j (hj : j < s.size), j < k → isLD s[j] = true)) (fun i => s.size - (intOf i).toNat)
        case atStart => exact ⟨1, Nat.le_refl _, by omega, rfl, Lib.hid (fun j hj h => by
          obtain rfl : j = 0 := by omega
          exact isLD_of_lo hl)⟩
        case round =>
          obtain ⟨k, hk1, hk, rfl, HA⟩ := hrel
          by_cases hlt : k < s.size
          · cases hld : isLD s[k] with
            | true =>
              have HA' : Hid (∀ j (hj : j < s.size), j < k + 1 → isLD s[j] = true) := Lib.hid (fun j hj h => by
                by_cases e : j = k
                · subst e; exact hld
                · exact HA.out j hj (by omega))
              rcases ld_cases hld with hl1 | ⟨hl1, hd1⟩
              all_goals
                clear hld
                go_wp2_with (first
                  | (go_at_call 101; refine (small_any _ _).mono ?_; rintro e w' ⟨rfl, rfl⟩)
                  | (go_at_call 102; refine (rdigit_any _ _).mono ?_; rintro e w' ⟨rfl, rfl⟩))
                go_round
                case rel => exact ⟨k + 1, by omega, by omega, by go_num, HA'⟩
                case measure => simp [intOf]; omega
            | false =>
              have HN := Lib.hid (nm_in s k hlt hld)
              obtain ⟨hl1, hd1⟩ := ld_false hld
              clear hld
              go_wp2_with (first
                | (go_at_call 101; refine (small_any _ _).mono ?_; rintro e w' ⟨rfl, rfl⟩)
                | (go_at_call 102; refine (rdigit_any _ _).mono ?_; rintro e w' ⟨rfl, rfl⟩))
              go_ret
              exact ⟨ret_bool HN.out.symm, Below.refl _ _⟩
          · have HN := Lib.hid (nm_all s hp (by omega) hl (fun j hj => HA.out j hj (by omega)))
            go_wp2_with (go_at_call 103; refine (rWord_any _ _).mono ?_; rintro e w' ⟨rfl, hb⟩)
            go_ret
            exact ⟨ret_bool HN.out.symm, hb⟩
end Go.Proofs.Ytkbjlnmdlolhiaa
