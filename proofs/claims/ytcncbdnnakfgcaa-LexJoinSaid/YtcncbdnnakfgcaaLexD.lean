/- Contracts of package lex's functions that make memory (Clone, fresh) or loop (value), and of the three that make a token. -/
import Derived.Test.YtcncbdnnakfgcaaLexC
namespace Go.Proofs.Ytcncbdnnakfgcaa
open Go.ChangeShapes Go.WideShapes Go.ChangeAt Go.RowKit

theorem info_u8 : (Try.prog.info? 5).map (fun i => (i.zero, i.size, i.bytes)) = some (some (.int .u8 0), 1, 1) := by kernel_rfl

set_option maxHeartbeats 4000000 in
set_option maxRecDepth 100000 in
theorem liteClone_any (s : ByteArray) (w : World) (hlim : s.size ≤ 281474976710656) :
    Calls Try.prog 49 #[.string s] w fun e w' => e = .returned (.string s) ∧ Below w.heap.size w w' := by
  by_cases h0 : s.size = 0
  · have hs : s = ⟨#[]⟩ := by
      apply ByteArray.ext
      exact Array.eq_empty_of_size_eq_zero h0
    subst hs
    go_enter Try.func49, Try.ntmps49
    go_wp2
    go_ret
    exact ⟨rfl, Below.refl _ _⟩
  · obtain ⟨i0, hi, hz0, hz1, hz2⟩ := info_parts info_u8
    have hinfo : (Try.prog.info? 5).map (·.size) = some 1 := by rw [hi]; simp [hz1]
    have hco : Try.prog.cellsOf 5 = 1 := by simp [Program.cellsOf, hi, hz1]
    obtain ⟨M, hM⟩ : ∃ M, M = madeCells (Value.int .u8 0).cells (((s.size : Nat) : Int).toNat * i0.size) := ⟨_, rfl⟩
    have hMs : M.size = s.size := by rw [hM, size_madeCells, hz1]; simp
    have hmk : ∀ W : World, (Instr.makeSlice 54 (.int .i64 (s.size : Int)) (.int .i64 (s.size : Int))).run Try.prog W = .ok (.slice (some ⟨W.heap.size, 0, none⟩) s.size s.size) (W.alloc (.cells M 5)) := fun W => by
      have h := run_make (P := Try.prog) W 54 5 i0 (.int .u8 0) Try.underlying54 hi hz0 .i64 .i64 (s.size : Int) (s.size : Int) (by omega) (by omega) (by rw [hz2]; omega) (by omega)
      rw [← hM] at h
      simpa using h
    clear hM
    have hcp := Lib.run_copy_row_string (P := Try.prog) (w.alloc (.cells M 5)) 54 9 3 5 w.heap.size 0 s.size s.size s M 5 Try.underlying54 hinfo (heap_alloc_new w _) (Nat.le_refl _) (by omega)
    obtain ⟨Y, hY⟩ : ∃ Y, Y = (M.toList.take 0 ++ Lib.byteCells s.data.toList ++ M.toList.drop (0 + s.size)).toArray := ⟨_, rfl⟩
    rw [← hY] at hcp
    have hYl : Y.toList = Lib.byteCells s.data.toList := by
      rw [hY, List.toList_toArray, List.take_zero, List.nil_append, List.drop_of_length_le (by rw [Array.length_toList]; omega), List.append_nil]
    have hYs : Y.size = s.size := by rw [← Array.length_toList, hYl, Lib.byteCells_length, ← Lib.size_eq]
    have hgY : ((w.alloc (.cells M 5)).setRow w.heap.size Y).heap[w.heap.size]? = some (.cells Y 5 (0, 0)) := setRow_heap _ _ M _ 5 (0, 0) (heap_alloc_new w _)
    have hne : s.data.toList ≠ [] := fun e => h0 (by rw [Lib.size_eq, e]; rfl)
    have hUS := Lib.run_unsafeString_row (P := Try.prog) ((w.alloc (.cells M 5)).setRow w.heap.size Y) 56 3 9 5 Try.underlying56 hco w.heap.size Y.size (by unfold World.shape?; rw [hgY]) s.data.toList hne (by rw [← Lib.size_eq]; omega) (by rw [← Lib.size_eq]; omega)
      (fun j x hx => Lib.cells_of_row hgY Y.size j _ (by rw [List.take_of_length_le (by rw [Array.length_toList]; exact Nat.le_refl _), hYl]; simp [Lib.byteCells, hx]))
    rw [← Lib.size_eq] at hUS
    clear hY
    go_enter Try.func49, Try.ntmps49
    go_wp2
    go_ret
    have hb1 : Below w.heap.size w (w.alloc (.cells M 5)) := (Below.refl _ w).alloc (Nat.le_refl _) _
    have hb2 : Below w.heap.size (w.alloc (.cells M 5)) ((w.alloc (.cells M 5)).setRow w.heap.size Y) := ⟨rfl, rfl, rfl, by simp, fun k hk => setRow_other _ _ _ _ (by omega)⟩
    exact ⟨rfl, Lib.below_freeze (hb1.trans hb2) (p := ⟨w.heap.size, 0, none⟩) (Nat.le_refl _) _⟩
theorem Clone_any (s : ByteArray) (w : World) (hlim : s.size ≤ 281474976710656) :
    Calls Try.prog 47 #[.string s] w fun e w' => e = .returned (.string s) ∧ Below w.heap.size w w' := by
  go_enter Try.func47, Try.ntmps47
  go_wp2_with (go_at_call 49; refine (liteClone_any _ _ hlim).mono ?_; rintro e w' ⟨rfl, hb⟩)
  go_ret
  exact ⟨rfl, hb⟩

/-- a token's value, as a struct -/
abbrev aggT (k : Int) (s : ByteArray) (n : Int) (a : Int) : Value := .agg #[.int .i64 k, .string s, .int .i64 n, .int .i64 a]

theorem bcell {B : Nat} {W w1 : World} (hb : Below B W w1) : (∀ b o, b < B → w1.cell? ⟨b, o, none⟩ = W.cell? ⟨b, o, none⟩) ∧ (∀ b o, b < B → w1.frozen? ⟨b, o, none⟩ = W.frozen? ⟨b, o, none⟩) :=
  ⟨fun b o h => hb.cell (p := ⟨b, o, none⟩) h, fun b o h => hb.frozen (p := ⟨b, o, none⟩) h⟩

theorem below_new {w w' : World} {o : Obj} (hb : Below (w.alloc o).heap.size (w.alloc o) w') : Below w.heap.size w w' :=
  ((Below.refl _ _).alloc (Nat.le_refl _) o).trans (hb.mono (by simp))

set_option maxHeartbeats 1000000 in
theorem fresh_any (k : Int) (s : ByteArray) (w : World) (hlim : s.size ≤ 281474976710656) :
    Calls Try.prog 38 #[.int .i64 k, .string s] w fun e w' => e = .returned (aggT k s 0 0) ∧ Below w.heap.size w w' := by
  go_enter Try.func38, Try.ntmps38
  go_wp2_with (go_at_call 47; refine (Clone_any _ _ hlim).mono ?_; rintro e w' ⟨rfl, hb⟩; have hb' := bcell hb; obtain ⟨hc, hf⟩ := hb'; have hz : w.heap.size < w'.heap.size := (by have := hb.size; simp at this; omega))
  refine bodyPost_ret (v := aggT k s 0 0) (by simp [results, Try.results38, go_sem, aggT, hc]) rfl ⟨rfl, ?_⟩
  repeat refine Below.setCell ?_ (by simp) _
  exact below_new hb

theorem ret_ib {k : IntKind} {a b : Int} {c : Bool} (h : a = b) : Ending.returned (.tuple #[.int k a, .bool c]) = .returned (.tuple #[.int k b, .bool c]) := by rw [h]
theorem val_snoc (l : Bs) (c : UInt8) : val (l ++ [c]) = 10 * val l + (c.toNat - 48) := by simp [val]
theorem val_mono (a b : Bs) : val a ≤ val (a ++ b) := by
  induction b generalizing a with
  | nil => simp
  | cons c b ih =>
    have h1 := ih (a ++ [c])
    rw [List.append_assoc, List.singleton_append] at h1
    have h2 := val_snoc a c
    omega
theorem val_take (l : Bs) (k : Nat) : val (l.take k) ≤ val l := by
  have := val_mono (l.take k) (l.drop k)
  rwa [List.take_append_drop] at this
theorem bl_take (s : ByteArray) (k : Nat) (h : k < s.size) : (bl s).take (k + 1) = (bl s).take k ++ [s[k]] := by
  have hl : k < (bl s).length := by rw [← size_bl]; exact h
  rw [List.take_succ_eq_append_getElem hl]
  rfl
theorem all_at {p : UInt8 → Bool} {s : ByteArray} (h : (bl s).all p = true) (k : Nat) (hk : k < s.size) : p s[k] = true := by
  rw [List.all_eq_true] at h
  have hl : k < (bl s).length := by rw [← size_bl]; exact hk
  exact h (bl s)[k] (List.getElem_mem hl)
theorem di_bounds {c : UInt8} (h : isDi c = true) : 48 ≤ c.toNat ∧ c.toNat ≤ 57 := by
  simp only [isDi, Bool.and_eq_true, decide_eq_true_eq] at h
  exact h

set_option maxHeartbeats 1000000 in
theorem value_ok (s : ByteArray) (w : World) (hs : s.size ≤ maxLen) (hd : (bl s).all isDi = true) (hv : val (bl s) ≤ 9223372036854775807) :
    Calls Try.prog 39 #[.string s] w fun e w' => e = .returned (.tuple #[.int .i64 (val (bl s) : Nat), .bool true]) ∧ w = w' := by
  unfold maxLen at hs
  have HD := Lib.hid hd
  clear hd
  go_enter Try.func39, Try.ntmps39
  go_wp2
  go_loop [4, 5, 6, 9] (fun n _ _ i => ∃ k : Nat, k ≤ s.size ∧ i = .int .i64 k ∧ n = .int .i64 (val ((bl s).take k) : Nat)) (fun _ _ _ i => s.size - (intOf i).toNat)
  case atStart => exact ⟨0, Nat.zero_le _, rfl, rfl⟩
  case round =>
    obtain ⟨k, hk, rfl, rfl⟩ := hrel
    by_cases hlt : k < s.size
    · have HS := Lib.hid (val_snoc ((bl s).take k) s[k])
      obtain ⟨h48, h57⟩ := di_bounds (all_at HD.out k hlt)
      have hle : 10 * val ((bl s).take k) + (s[k].toNat - 48) ≤ 9223372036854775807 := by
        have h1 := val_take (bl s) (k + 1)
        rw [bl_take s k hlt, val_snoc] at h1
        omega
      go_wp2
      go_round
      case rel => exact ⟨k + 1, by omega, by go_num, by rw [bl_take s k hlt, HS.out]; go_num⟩
      case measure => simp [intOf]; omega
    · go_wp2
      go_ret2
      exact ⟨ret_ib (by rw [List.take_of_length_le (by rw [← size_bl]; omega)]), rfl⟩
set_option maxHeartbeats 1000000 in
theorem value_big (s : ByteArray) (w : World) (hs : s.size ≤ maxLen) (hd : (bl s).all isDi = true) (hv : 9223372036854775807 < val (bl s)) :
    Calls Try.prog 39 #[.string s] w fun e w' => e = .returned (.tuple #[.int .i64 0, .bool false]) ∧ w = w' := by
  unfold maxLen at hs
  have HD := Lib.hid hd
  clear hd
  go_enter Try.func39, Try.ntmps39
  go_wp2
  go_loop [4, 5, 6, 9] (fun n _ _ i => ∃ k : Nat, k ≤ s.size ∧ val ((bl s).take k) ≤ 9223372036854775807 ∧ i = .int .i64 k ∧ n = .int .i64 (val ((bl s).take k) : Nat)) (fun _ _ _ i => s.size - (intOf i).toNat)
  case atStart => exact ⟨0, Nat.zero_le _, by simp [val], rfl, rfl⟩
  case round =>
    obtain ⟨k, hk, hmax, rfl, rfl⟩ := hrel
    by_cases hlt : k < s.size
    · have HS := Lib.hid (val_snoc ((bl s).take k) s[k])
      obtain ⟨h48, h57⟩ := di_bounds (all_at HD.out k hlt)
      by_cases hle : 10 * val ((bl s).take k) + (s[k].toNat - 48) ≤ 9223372036854775807
      · go_wp2
        go_round
        case rel => exact ⟨k + 1, by omega, by rw [bl_take s k hlt, HS.out]; exact hle, by go_num, by rw [bl_take s k hlt, HS.out]; go_num⟩
        case measure => simp [intOf]; omega
      · go_wp2
        go_ret2
        exact ⟨rfl, rfl⟩
    · exfalso
      have : k = s.size := by omega
      subst this
      rw [size_bl, List.take_length] at hmax
      omega

theorem wordTok_word (s : ByteArray) (w : World) (hlim : s.size ≤ 281474976710656) (h : isWd (bl s) = true) :
    Calls Try.prog 31 #[.string s] w fun e w' => e = .returned (.tuple #[aggT 3 s 0 0, .int .i64 0]) ∧ Below w.heap.size w w' := by
  go_enter Try.func31, Try.ntmps31
  go_wp2_with (first
    | (go_at_call 22; refine (Word_any _ _).mono ?_; rintro e w' ⟨rfl, rfl⟩)
    | (go_at_call 38; refine (fresh_any _ _ _ hlim).mono ?_; rintro e w' ⟨rfl, hb⟩; have hb' := bcell hb; obtain ⟨hc, hf⟩ := hb'; have hz : w.heap.size < w'.heap.size := (by have := hb.size; simp at this; omega)))
  refine bodyPost_ret (v := .tuple #[aggT 3 s 0 0, .int .i64 0]) (by simp [results, Try.results31, go_sem, hc]) rfl ⟨rfl, ?_⟩
  repeat refine Below.setCell ?_ (by simp) _
  exact below_new hb
theorem wordTok_name (s : ByteArray) (w : World) (hlim : s.size ≤ 281474976710656) (h : isWd (bl s) = false) (h8 : s.size ≤ 8) :
    Calls Try.prog 31 #[.string s] w fun e w' => e = .returned (.tuple #[aggT 1 s 0 0, .int .i64 0]) ∧ Below w.heap.size w w' := by
  go_enter Try.func31, Try.ntmps31
  go_wp2_with (first
    | (go_at_call 22; refine (Word_any _ _).mono ?_; rintro e w' ⟨rfl, rfl⟩)
    | (go_at_call 38; refine (fresh_any _ _ _ hlim).mono ?_; rintro e w' ⟨rfl, hb⟩; have hb' := bcell hb; obtain ⟨hc, hf⟩ := hb'; have hz : w.heap.size < w'.heap.size := (by have := hb.size; simp at this; omega)))
  refine bodyPost_ret (v := .tuple #[aggT 1 s 0 0, .int .i64 0]) (by simp [results, Try.results31, go_sem, hc]) rfl ⟨rfl, ?_⟩
  repeat refine Below.setCell ?_ (by simp) _
  exact below_new hb
theorem wordTok_long (s : ByteArray) (w : World) (hlim : s.size ≤ 281474976710656) (h : isWd (bl s) = false) (h8 : 8 < s.size) :
    Calls Try.prog 31 #[.string s] w fun e w' => e = .returned (.tuple #[aggT 0 ⟨#[]⟩ 0 0, .int .i64 4]) ∧ Below w.heap.size w w' := by
  go_enter Try.func31, Try.ntmps31
  go_wp2_with (go_at_call 22; refine (Word_any _ _).mono ?_; rintro e w' ⟨rfl, rfl⟩)
  refine bodyPost_ret (v := .tuple #[aggT 0 ⟨#[]⟩ 0 0, .int .i64 4]) (by simp [results, Try.results31, go_sem]) rfl ⟨rfl, ?_⟩
  exact (Below.refl _ _).alloc (Nat.le_refl _) _
theorem signTok_ok (s : ByteArray) (w : World) (hlim : s.size ≤ 281474976710656) (h : sgn (bl s) ≠ 0) :
    Calls Try.prog 33 #[.string s] w fun e w' => e = .returned (.tuple #[aggT 4 (s.extract 0 (sgn (bl s))) 0 0, .int .i64 0]) ∧ Below w.heap.size w w' := by
  have hle : sgn (bl s) ≤ s.size := by rw [size_bl]; exact sgn_le _
  have hx : (s.extract 0 (sgn (bl s))).size ≤ 281474976710656 := by rw [ByteArray.size_extract]; omega
  have h0 : (((sgn (bl s) : Nat) : Int) == 0) = false := by simp; omega
  clear h
  go_enter Try.func33, Try.ntmps33
  go_wp2_with (first
    | (go_at_call 40; refine (signLength_any _ _ (by unfold maxLen; omega)).mono ?_; rintro e w' ⟨rfl, rfl⟩)
    | (go_at_call 38; refine (fresh_any _ _ _ hx).mono ?_; rintro e w' ⟨rfl, hb⟩; have hb' := bcell hb; obtain ⟨hc, hf⟩ := hb'; have hz : w.heap.size < w'.heap.size := (by have := hb.size; simp at this; omega)))
  refine bodyPost_ret (v := .tuple #[aggT 4 (s.extract 0 (sgn (bl s))) 0 0, .int .i64 0]) (by simp [results, Try.results33, go_sem, hc]) rfl ⟨rfl, ?_⟩
  repeat refine Below.setCell ?_ (by simp) _
  exact below_new hb
theorem signTok_no (s : ByteArray) (w : World) (hlim : s.size ≤ 281474976710656) (h : sgn (bl s) = 0) :
    Calls Try.prog 33 #[.string s] w fun e w' => e = .returned (.tuple #[aggT 0 ⟨#[]⟩ 0 0, .int .i64 2]) ∧ Below w.heap.size w w' := by
  go_enter Try.func33, Try.ntmps33
  go_wp2_with (go_at_call 40; refine (signLength_any _ _ (by unfold maxLen; omega)).mono ?_; rintro e w' ⟨rfl, rfl⟩)
  refine bodyPost_ret (v := .tuple #[aggT 0 ⟨#[]⟩ 0 0, .int .i64 2]) (by simp [results, Try.results33, go_sem]) rfl ⟨rfl, ?_⟩
  exact (Below.refl _ _).alloc (Nat.le_refl _) _
theorem hd0_at (s : ByteArray) (h : 0 < s.size) : hd0 (bl s) = (s[0].toNat == 48) := by
  have hc := bl_at s 0 h
  rw [List.drop_zero] at hc
  rw [hc]
  rfl
theorem numTok_zero (s : ByteArray) (w : World) (hlim : s.size ≤ 281474976710656) (h1 : 1 < s.size) (h : hd0 (bl s) = true) :
    Calls Try.prog 32 #[.string s] w fun e w' => e = .returned (.tuple #[aggT 0 ⟨#[]⟩ 0 0, .int .i64 2]) ∧ Below w.heap.size w w' := by
  have hp : 0 < s.size := by omega
  rw [hd0_at s hp] at h
  have h0 : (((s[0].toNat : Nat) : Int) == 48) = true := by simp at h ⊢; omega
  clear h
  go_enter Try.func32, Try.ntmps32
  go_wp2_with fail
  refine bodyPost_ret (v := .tuple #[aggT 0 ⟨#[]⟩ 0 0, .int .i64 2]) (by simp [results, Try.results32, go_sem]) rfl ⟨rfl, ?_⟩
  exact (Below.refl _ _).alloc (Nat.le_refl _) _
theorem num_way {s : ByteArray} (h : ¬ (1 < (bl s).length ∧ hd0 (bl s) = true)) (hp : 0 < s.size) : s.size ≤ 1 ∨ (1 < s.size ∧ (((s[0].toNat : Nat) : Int) == 48) = false) := by
  by_cases h1 : 1 < s.size
  · refine .inr ⟨h1, ?_⟩
    have : ¬ hd0 (bl s) = true := fun e => h ⟨by rw [← size_bl]; exact h1, e⟩
    rw [hd0_at s hp] at this
    simp at this ⊢
    omega
  · exact .inl (by omega)
theorem numTok_big (s : ByteArray) (w : World) (hlim : s.size ≤ 281474976710656) (hp : 0 < s.size) (h : ¬ (1 < (bl s).length ∧ hd0 (bl s) = true)) (hd : (bl s).all isDi = true) (hv : 9223372036854775807 < val (bl s)) :
    Calls Try.prog 32 #[.string s] w fun e w' => e = .returned (.tuple #[aggT 0 ⟨#[]⟩ 0 0, .int .i64 4]) ∧ Below w.heap.size w w' := by
  have HD := Lib.hid hd
  rcases num_way h hp with h1 | ⟨h1, h0⟩
  all_goals
    clear hd h
    go_enter Try.func32, Try.ntmps32
    go_wp2_with (go_at_call 39; refine (value_big _ _ (by unfold maxLen; omega) HD.out hv).mono ?_; rintro e w' ⟨rfl, rfl⟩)
    refine bodyPost_ret (v := .tuple #[aggT 0 ⟨#[]⟩ 0 0, .int .i64 4]) (by simp [results, Try.results32, go_sem]) rfl ⟨rfl, ?_⟩
    exact (Below.refl _ _).alloc (Nat.le_refl _) _
theorem numTok_ok (s : ByteArray) (w : World) (hlim : s.size ≤ 281474976710656) (hp : 0 < s.size) (h : ¬ (1 < (bl s).length ∧ hd0 (bl s) = true)) (hd : (bl s).all isDi = true) (hv : val (bl s) ≤ 9223372036854775807) :
    Calls Try.prog 32 #[.string s] w fun e w' => e = .returned (.tuple #[aggT 2 s (val (bl s) : Nat) 0, .int .i64 0]) ∧ Below w.heap.size w w' := by
  have HD := Lib.hid hd
  rcases num_way h hp with h1 | ⟨h1, h0⟩
  all_goals
    clear hd h
    go_enter Try.func32, Try.ntmps32
    go_wp2_with (first
      | (go_at_call 39; refine (value_ok _ _ (by unfold maxLen; omega) HD.out hv).mono ?_; rintro e w' ⟨rfl, rfl⟩)
      | (go_at_call 38; refine (fresh_any _ _ _ hlim).mono ?_; rintro e w' ⟨rfl, hb⟩; have hb' := bcell hb; obtain ⟨hc, hf⟩ := hb'; have hz : w.heap.size < w'.heap.size := (by have := hb.size; simp at this; omega)))
    refine bodyPost_ret (v := .tuple #[aggT 2 s (val (bl s) : Nat) 0, .int .i64 0]) (by simp [results, Try.results32, go_sem, hc, hz]) rfl ⟨rfl, ?_⟩
    refine Below.alloc ?_ (by simp; omega) _
    repeat refine Below.setCell ?_ (by simp) _
    exact below_new hb

/-- the three that make a token, each by one word -/
abbrev tokV (t : Tok) (a : Int) : Value := aggT t.kind (bs t.text) t.n a
theorem wordTok_any (s : ByteArray) (w : World) (hlim : s.size ≤ 281474976710656) :
    Calls Try.prog 31 #[.string s] w fun e w' => e = .returned (.tuple #[tokV (wordT (bl s)).1 0, .int .i64 (wordT (bl s)).2]) ∧ Below w.heap.size w w' := by
  unfold wordT
  split
  · rename_i h
    have := wordTok_word s w hlim h
    simp only [tokV, bs_bl]; exact this
  · rename_i h
    split
    · rename_i h8
      exact wordTok_long s w hlim (by simpa using h) (by rw [size_bl]; exact h8)
    · rename_i h8
      have := wordTok_name s w hlim (by simpa using h) (by rw [size_bl]; omega)
      simp only [tokV, bs_bl]; exact this
theorem numTok_any (s : ByteArray) (w : World) (hlim : s.size ≤ 281474976710656) (hp : 0 < s.size) (hd : (bl s).all isDi = true) :
    Calls Try.prog 32 #[.string s] w fun e w' => e = .returned (.tuple #[tokV (numT (bl s)).1 0, .int .i64 (numT (bl s)).2]) ∧ Below w.heap.size w w' := by
  unfold numT
  split
  · rename_i h
    exact numTok_zero s w hlim (by rw [size_bl]; exact h.1) h.2
  · rename_i h
    split
    · rename_i hv
      exact numTok_big s w hlim hp h hd hv
    · rename_i hv
      have := numTok_ok s w hlim hp h hd (by omega)
      simp only [tokV, bs_bl]; exact this
theorem signTok_any (s : ByteArray) (w : World) (hlim : s.size ≤ 281474976710656) :
    Calls Try.prog 33 #[.string s] w fun e w' => e = .returned (.tuple #[tokV (signT (bl s)).1 0, .int .i64 (signT (bl s)).2]) ∧ Below w.heap.size w w' := by
  unfold signT
  split
  · rename_i h
    exact signTok_no s w hlim h
  · rename_i h
    have := signTok_ok s w hlim h
    rw [bs_extract, List.drop_zero, Nat.sub_zero] at this
    exact this
end Go.Proofs.Ytcncbdnnakfgcaa
