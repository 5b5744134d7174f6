/- Contracts of the reference's from, Worth, sign and token (whittlerref1). -/
import Derived.Test.YtcncbdnnakfgcaaLexR
import Derived.Lib.SlBytesConst
namespace Go.Proofs.Ytcncbdnnakfgcaa
open Go.ChangeShapes Go.WideShapes Go.ChangeAt Go.RowKit
set_option linter.unusedVariables false

set_option maxHeartbeats 4000000 in
theorem from_ld (s : ByteArray) (w : World) (hs : s.size ≤ maxLen) :
    Calls Try.prog 42 #[.string s, .bool true] w fun e w' => e = .returned (.int .i64 ((bl s).takeWhile isLD).length) ∧ w = w' := by
  unfold maxLen at hs
  obtain ⟨n, hn⟩ : ∃ n, n = 0 + (((bl s).drop 0).takeWhile isLD).length := ⟨_, rfl⟩
  have hle : n ≤ s.size := by rw [hn]; exact tw_le (Nat.zero_le _)
  have HT : Hid (∀ k, k < n → ∃ h : k < s.size, isLD s[k] = true) := Lib.hid fun k hk => tw_true (at_ := 0) (Nat.zero_le _) (by rw [← hn]; exact hk)
  have HF : Hid (∀ (h : n < s.size), isLD s[n] = false) := Lib.hid fun h => tw_false hn h
  have HN := Lib.hid hn
  clear hn
  go_enter Try.func42, Try.ntmps42
  go_wp2
  go_loop [5] (fun i => ∃ k : Nat, k ≤ n ∧ i = .int .i64 k) (fun i => n - (intOf i).toNat)
  case atStart => exact ⟨0, Nat.zero_le _, rfl⟩
  case round =>
    obtain ⟨k, hk, rfl⟩ := hrel
    by_cases hlt : k < n
    · obtain ⟨hks, hld⟩ := HT.out k hlt
      rcases ld_cases hld with hl1 | ⟨hl1, hd1⟩
      · clear hld
        cases hd1 : isDi s[k]
        all_goals
          go_wp2_with (first
            | (go_at_call 41; refine (small_any _ _).mono ?_; rintro e w' ⟨rfl, rfl⟩)
            | (go_at_call 44; refine (rdigit_any _ _).mono ?_; rintro e w' ⟨rfl, rfl⟩))
          go_round
          case rel => exact ⟨k + 1, by omega, by go_num⟩
          case measure => simp [intOf]; omega
      · clear hld
        go_wp2_with (first
          | (go_at_call 41; refine (small_any _ _).mono ?_; rintro e w' ⟨rfl, rfl⟩)
          | (go_at_call 44; refine (rdigit_any _ _).mono ?_; rintro e w' ⟨rfl, rfl⟩))
        go_round
        case rel => exact ⟨k + 1, by omega, by go_num⟩
        case measure => simp [intOf]; omega
    · obtain rfl : k = n := by omega
      by_cases hks : k < s.size
      · obtain ⟨hl1, hd1⟩ := ld_false (HF.out hks)
        go_wp2_with (first
          | (go_at_call 41; refine (small_any _ _).mono ?_; rintro e w' ⟨rfl, rfl⟩)
          | (go_at_call 44; refine (rdigit_any _ _).mono ?_; rintro e w' ⟨rfl, rfl⟩))
        go_ret
        exact ⟨ret_int (by rw [HN.out, List.drop_zero, Nat.zero_add]), rfl⟩
      · go_wp2_with fail
        go_ret
        exact ⟨ret_int (by rw [HN.out, List.drop_zero, Nat.zero_add]), rfl⟩
set_option maxHeartbeats 4000000 in
theorem from_di (s : ByteArray) (w : World) (hs : s.size ≤ maxLen) :
    Calls Try.prog 42 #[.string s, .bool false] w fun e w' => e = .returned (.int .i64 ((bl s).takeWhile isDi).length) ∧ w = w' := by
  unfold maxLen at hs
  obtain ⟨n, hn⟩ : ∃ n, n = 0 + (((bl s).drop 0).takeWhile isDi).length := ⟨_, rfl⟩
  have hle : n ≤ s.size := by rw [hn]; exact tw_le (Nat.zero_le _)
  have HT : Hid (∀ k, k < n → ∃ h : k < s.size, isDi s[k] = true) := Lib.hid fun k hk => tw_true (at_ := 0) (Nat.zero_le _) (by rw [← hn]; exact hk)
  have HF : Hid (∀ (h : n < s.size), isDi s[n] = false) := Lib.hid fun h => tw_false hn h
  have HN := Lib.hid hn
  clear hn
  go_enter Try.func42, Try.ntmps42
  go_wp2
  go_loop [5] (fun i => ∃ k : Nat, k ≤ n ∧ i = .int .i64 k) (fun i => n - (intOf i).toNat)
  case atStart => exact ⟨0, Nat.zero_le _, rfl⟩
  case round =>
    obtain ⟨k, hk, rfl⟩ := hrel
    by_cases hlt : k < n
    · obtain ⟨hks, hd1⟩ := HT.out k hlt
      go_wp2_with (go_at_call 44; refine (rdigit_any _ _).mono ?_; rintro e w' ⟨rfl, rfl⟩)
      go_round
      case rel => exact ⟨k + 1, by omega, by go_num⟩
      case measure => simp [intOf]; omega
    · obtain rfl : k = n := by omega
      by_cases hks : k < s.size
      · have hd1 := HF.out hks
        go_wp2_with (go_at_call 44; refine (rdigit_any _ _).mono ?_; rintro e w' ⟨rfl, rfl⟩)
        go_ret
        exact ⟨ret_int (by rw [HN.out, List.drop_zero, Nat.zero_add]), rfl⟩
      · go_wp2_with fail
        go_ret
        exact ⟨ret_int (by rw [HN.out, List.drop_zero, Nat.zero_add]), rfl⟩

theorem val_lt (l : Bs) (h : l.all isDi = true) : val l < 10 ^ l.length := by
  have key : ∀ n (l : Bs), l.length = n → l.all isDi = true → val l < 10 ^ n := by
    intro n
    induction n with
    | zero => intro l hl _; rw [List.eq_nil_of_length_eq_zero hl]; simp [val]
    | succ n ih =>
      intro l hl ha
      have hne : l ≠ [] := by intro e; rw [e] at hl; simp at hl
      have hd := List.dropLast_concat_getLast hne
      have h1 : l.dropLast.length = n := by rw [List.length_dropLast]; omega
      have hall : (l.dropLast ++ [l.getLast hne]).all isDi = true := by rw [hd]; exact ha
      rw [List.all_append, Bool.and_eq_true] at hall
      have h2 := ih _ h1 hall.1
      have h3 := di_bounds (show isDi (l.getLast hne) = true by simpa using hall.2)
      rw [← hd, val_snoc, Nat.pow_succ]
      omega
  exact key _ l rfl h
theorem val_ge (c : UInt8) (l : Bs) (hc : 49 ≤ c.toNat) : 10 ^ l.length ≤ val (c :: l) := by
  have key : ∀ n (l : Bs), l.length = n → 10 ^ n ≤ val (c :: l) := by
    intro n
    induction n with
    | zero => intro l hl; rw [List.eq_nil_of_length_eq_zero hl]; simp [val]; omega
    | succ n ih =>
      intro l hl
      have hne : l ≠ [] := by intro e; rw [e] at hl; simp at hl
      have hd := List.dropLast_concat_getLast hne
      have h1 : l.dropLast.length = n := by rw [List.length_dropLast]; omega
      have h2 := ih _ h1
      have h4 : val (c :: l) = 10 * val (c :: l.dropLast) + ((l.getLast hne).toNat - 48) := by
        rw [← val_snoc, List.cons_append, hd]
      rw [h4, Nat.pow_succ]
      omega
  exact key _ l rfl
theorem val_take_lt (s : ByteArray) (k : Nat) (h : (bl s).all isDi = true) (hk : k ≤ 19) : val ((bl s).take k) < 10000000000000000000 := by
  have h1 : ((bl s).take k).all isDi = true := by
    rw [List.all_eq_true] at h ⊢
    intro x hx
    exact h x (List.mem_of_mem_take hx)
  have h2 := val_lt _ h1
  have h3 : ((bl s).take k).length ≤ 19 := by rw [List.length_take]; omega
  have h4 : 10 ^ ((bl s).take k).length ≤ 10 ^ 19 := Nat.pow_le_pow_right (by omega) h3
  omega

theorem ret_ib2 {k : IntKind} {a b : Int} {c d : Bool} (h : a = b) (h' : c = d) : Ending.returned (.tuple #[.int k a, .bool c]) = .returned (.tuple #[.int k b, .bool d]) := by rw [h, h']
def WorthNo (w : World) (e : Ending) (w' : World) : Prop := ∃ x, e = .returned (.tuple #[.int .i64 x, .bool false]) ∧ w = w'
set_option maxHeartbeats 4000000 in
theorem Worth_ok (s : ByteArray) (w : World) (hs : s.size ≤ 19) (hd : (bl s).all isDi = true) (hv : val (bl s) ≤ 9223372036854775807) :
    Calls Try.prog 45 #[.string s] w fun e w' => e = .returned (.tuple #[.int .i64 (val (bl s) : Nat), .bool true]) ∧ w = w' := by
  have HD := Lib.hid hd
  clear hd
  go_enter Try.func45, Try.ntmps45
  go_wp2
  go_loop [4, 5] (fun n i => ∃ k : Nat, k ≤ s.size ∧ i = .int .i64 k ∧ n = .int .u64 (val ((bl s).take k) : Nat)) (fun _ i => s.size - (intOf i).toNat)
  case atStart => exact ⟨0, Nat.zero_le _, rfl, rfl⟩
  case round =>
    obtain ⟨k, hk, rfl, rfl⟩ := hrel
    have hb := val_take_lt s k HD.out (by omega)
    by_cases hlt : k < s.size
    · have HS := Lib.hid (val_snoc ((bl s).take k) s[k])
      obtain ⟨h48, h57⟩ := di_bounds (all_at HD.out k hlt)
      have hle : 10 * val ((bl s).take k) + (s[k].toNat - 48) < 10000000000000000000 := by
        have h1 := val_take_lt s (k + 1) HD.out (by omega)
        rw [bl_take s k hlt, val_snoc] at h1
        exact h1
      go_wp2
      go_round
      case rel => exact ⟨k + 1, by omega, by go_num, by rw [bl_take s k hlt, HS.out]; go_num⟩
      case measure => simp [intOf]; omega
    · have HE : Hid (val ((bl s).take k) = val (bl s)) := Lib.hid (by rw [List.take_of_length_le (by rw [← size_bl]; omega)])
      have hv' : val ((bl s).take k) ≤ 9223372036854775807 := by rw [HE.out]; exact hv
      go_wp2
      go_ret2
      exact ⟨ret_ib2 (by rw [HE.out]) (decide_eq_true (by omega)), rfl⟩
set_option maxHeartbeats 4000000 in
theorem Worth_big (s : ByteArray) (w : World) (hs : s.size ≤ 19) (hd : (bl s).all isDi = true) (hv : 9223372036854775807 < val (bl s)) :
    Calls Try.prog 45 #[.string s] w fun e w' => WorthNo w e w' := by
  have HD := Lib.hid hd
  clear hd
  go_enter Try.func45, Try.ntmps45
  go_wp2
  go_loop [4, 5] (fun n i => ∃ k : Nat, k ≤ s.size ∧ i = .int .i64 k ∧ n = .int .u64 (val ((bl s).take k) : Nat)) (fun _ i => s.size - (intOf i).toNat)
  case atStart => exact ⟨0, Nat.zero_le _, rfl, rfl⟩
  case round =>
    obtain ⟨k, hk, rfl, rfl⟩ := hrel
    have hb := val_take_lt s k HD.out (by omega)
    by_cases hlt : k < s.size
    · have HS := Lib.hid (val_snoc ((bl s).take k) s[k])
      obtain ⟨h48, h57⟩ := di_bounds (all_at HD.out k hlt)
      have hle : 10 * val ((bl s).take k) + (s[k].toNat - 48) < 10000000000000000000 := by
        have h1 := val_take_lt s (k + 1) HD.out (by omega)
        rw [bl_take s k hlt, val_snoc] at h1
        exact h1
      go_wp2
      go_round
      case rel => exact ⟨k + 1, by omega, by go_num, by rw [bl_take s k hlt, HS.out]; go_num⟩
      case measure => simp [intOf]; omega
    · have HE : Hid (val ((bl s).take k) = val (bl s)) := Lib.hid (by rw [List.take_of_length_le (by rw [← size_bl]; omega)])
      have hv' : 9223372036854775807 < val ((bl s).take k) := by rw [HE.out]; exact hv
      go_wp2
      go_ret2
      exact ⟨_, ret_ib2 rfl (decide_eq_false (by omega)), rfl⟩
theorem Worth_long (s : ByteArray) (w : World) (hs : 19 < s.size) (hm : s.size ≤ maxLen) :
    Calls Try.prog 45 #[.string s] w fun e w' => e = .returned (.tuple #[.int .i64 0, .bool false]) ∧ w = w' := by
  unfold maxLen at hm
  go_enter Try.func45, Try.ntmps45
  go_wp2
  go_ret2
  exact ⟨rfl, rfl⟩
/-- Worth, of digits that are too much -/
theorem Worth_no (s : ByteArray) (w : World) (hm : s.size ≤ maxLen) (hd : (bl s).all isDi = true) (hv : 9223372036854775807 < val (bl s)) :
    Calls Try.prog 45 #[.string s] w fun e w' => WorthNo w e w' := by
  by_cases hs : s.size ≤ 19
  · exact Worth_big s w hs hd hv
  · exact (Worth_long s w (by omega) hm).mono fun e w' h => ⟨0, h⟩
theorem short_of {s : ByteArray} (h : ¬ (1 < (bl s).length ∧ hd0 (bl s) = true)) (hd : (bl s).all isDi = true) (hv : val (bl s) ≤ 9223372036854775807) : s.size ≤ 19 := by
  by_cases h1 : 1 < s.size
  · have hp : 0 < s.size := by omega
    have hz : ¬ hd0 (bl s) = true := fun e => h ⟨by rw [← size_bl]; exact h1, e⟩
    rw [hd0_at s hp] at hz
    have hb := di_bounds (all_at hd 0 hp)
    have hc := bl_at s 0 hp
    rw [List.drop_zero] at hc
    have hg := val_ge s[0] ((bl s).drop 1) (by simp at hz; omega)
    rw [← hc, List.length_drop, ← size_bl] at hg
    by_cases h20 : 19 ≤ s.size - 1
    · have : 10 ^ 19 ≤ 10 ^ (s.size - 1) := Nat.pow_le_pow_right (by omega) h20
      omega
    · omega
  · omega

/-- sign: the two loops -/
def u8Cells (l : List Nat) : Array Value := (l.map fun x => Value.int .u8 (x : Nat)).toArray
def oneAt (l : List Nat) (k : Nat) : Nat := l.getD k 0
theorem u8_cell {w : World} {g : Nat} {t : TypeId} {fr : Nat × Nat} (l : List Nat) (h : w.heap[g]? = some (.cells (u8Cells l) t fr)) (k : Nat) (hk : k < l.length) : w.cell? ⟨g, k, none⟩ = some (.int .u8 (oneAt l k : Nat)) := by
  rw [cell_of_row w g k _ t fr h]
  simp [u8Cells, oneAt, hk]
theorem str_cell' {w : World} {g : Nat} {t : TypeId} (l : List Bs) (h : Blk w g t (strCells l)) (k : Nat) (hk : k < l.length) : w.cell? ⟨g, k, none⟩ = some (.string (bs (wdAt l k))) := by
  rw [h.cell k]
  simp [strCells, wdAt, hk]
theorem one_take {l : List Nat} {x : Nat} {k : Nat} (hk : k < l.length) (h : (l.take k).any (x == ·) = false) (hne : (x == oneAt l k) = false) : (l.take (k + 1)).any (x == ·) = false := by
  rw [List.take_succ_eq_append_getElem hk, List.any_append, h, Bool.false_or]
  have : oneAt l k = l[k] := by simp [oneAt, hk]
  rw [this] at hne
  simpa using hne
theorem one_hit {l : List Nat} {x : Nat} {k : Nat} (hk : k < l.length) (he : (x == oneAt l k) = true) : l.any (x == ·) = true := by
  have : oneAt l k = l[k] := by simp [oneAt, hk]
  rw [this] at he
  exact List.any_eq_true.2 ⟨l[k], List.getElem_mem hk, he⟩
theorem two_short {l : Bs} (h : l.length < 2) : isTwo (l.take 2) = false := by
  cases hx : isTwo (l.take 2) with
  | false => rfl
  | true =>
    simp only [isTwo, pairs, List.any_cons, List.any_nil, Bool.or_false, Bool.or_eq_true, beq_iff_eq] at hx
    have : (l.take 2).length = 2 := by rcases hx with h | h | h | h | h | h <;> rw [h] <;> rfl
    rw [List.length_take] at this
    omega
set_option maxHeartbeats 4000000 in
theorem rsign_any (s : ByteArray) (w : World) (hs : s.size ≤ maxLen) (hp : 0 < s.size) :
    Calls Try.prog 46 #[.string s] w fun e w' => e = .returned (.int .i64 (sgn (bl s))) ∧ Below w.heap.size w w' := by
  unfold maxLen at hs
  have hx : (s.extract 0 2).toList = (bl s).take 2 := by rw [Lib.extract_toList]; simp
  have HX := Lib.hid hx
  clear hx
  go_enter Try.func46, Try.ntmps46
  go_wp2_with fail
  generalize hW : w.alloc _ = W
  have hB1 : Blk W w.heap.size 9 (strCells pairs) := by rw [← hW]; exact Blk.new _ _ _
  have HB := Lib.hid (show Below w.heap.size w W by rw [← hW]; exact (Below.refl _ _).alloc (Nat.le_refl _) _)
  have HC := Lib.hid (fun k (hk : k < 6) => str_cell' (t := 9) pairs hB1 k hk)
  clear hW hB1
  go_loop [4, 9] (fun _ i => ∃ k : Nat, k ≤ 6 ∧ i = .int .i64 k ∧ Hid (2 ≤ s.size → (pairs.take k).any ((bl s).take 2 == ·) = false)) (fun _ i => 6 - (intOf i).toNat)
  case atStart => exact ⟨0, Nat.zero_le _, rfl, Lib.hid (fun _ => rfl)⟩
  case round =>
    obtain ⟨k, hk, rfl, HA⟩ := hrel
    by_cases hlt : k < 6
    · have hc := HC.out k hlt
      by_cases h2 : 2 ≤ s.size
      · cases he : ((bl s).take 2 == wdAt pairs k) with
        | true =>
          have q : ((s.extract 0 2).toList == (bs (wdAt pairs k)).toList) = true := by rw [HX.out, bl_toList, bl_bs]; exact he
          have HR := Lib.hid (any_hit (l := pairs) hlt he)
          clear he
          go_wp2
          go_ret
          refine ⟨ret_int ?_, HB.out⟩
          unfold sgn
          rw [if_pos (show isTwo ((bl s).take 2) = true from HR.out)]
          rfl
        | false =>
          have q : ((s.extract 0 2).toList == (bs (wdAt pairs k)).toList) = false := by rw [HX.out, bl_toList, bl_bs]; exact he
          have HR := Lib.hid (fun (h : 2 ≤ s.size) => any_take (l := pairs) hlt (HA.out h) he)
          clear he
          go_wp2
          go_round
          case rel => exact ⟨k + 1, by omega, by go_num, HR⟩
          case measure => simp [intOf]; omega
      · have HR : Hid (2 ≤ s.size → (pairs.take (k + 1)).any ((bl s).take 2 == ·) = false) := Lib.hid (fun h => absurd h h2)
        go_wp2
        go_round
        case rel => exact ⟨k + 1, by omega, by go_num, HR⟩
        case measure => simp [intOf]; omega
    · have HT : Hid (isTwo ((bl s).take 2) = false) := Lib.hid (by
        by_cases h2 : 2 ≤ s.size
        · have := HA.out h2
          rw [List.take_of_length_le (by show 6 ≤ k; omega)] at this
          exact this
        · exact two_short (by rw [← size_bl]; omega))
      have kc := fun (w : World) (C : Array Value) (n c : Nat) => Lib.run_convert_bytes_const (P := Try.prog) w 54 5 C n c Try.underlying54 Try.underlying5
      go_wp2_with fail
      clear kc HC
      generalize hW2 : W.alloc _ = W2
      have hB2 : W2.heap[W.heap.size]? = some (.cells (u8Cells ones) 5 (16, 17)) := by rw [← hW2]; exact heap_alloc_new W _
      have HB2 := Lib.hid (show Below w.heap.size w W2 by rw [← hW2]; exact HB.out.alloc HB.out.size _)
      have HC := Lib.hid (fun k (hk : k < 16) => u8_cell ones hB2 k hk)
      clear hW2 hB2
      go_loop [6, 26] (fun _ i => ∃ k : Nat, k ≤ 16 ∧ i = .int .i64 k ∧ Hid ((ones.take k).any (s[0].toNat == ·) = false)) (fun _ i => 16 - (intOf i).toNat)
      case atStart => exact ⟨0, Nat.zero_le _, rfl, Lib.hid rfl⟩
      case round =>
        obtain ⟨k1, hk1, rfl, HA1⟩ := hrel
        have hc0 := bl_at s 0 hp
        rw [List.drop_zero] at hc0
        have HT2 := HT.out
        rw [hc0] at HT2
        by_cases hlt1 : k1 < 16
        · have hc := HC.out k1 hlt1
          cases he : (s[0].toNat == oneAt ones k1) with
          | true =>
            have q : (((s[0].toNat : Nat) : Int) == ((oneAt ones k1 : Nat) : Int)) = true := by simp at he ⊢; omega
            have HR := Lib.hid (sgn_yes HT2 (one_hit (l := ones) hlt1 he))
            have HC0 := Lib.hid hc0
            clear he hc0 HT2
            go_wp2
            go_ret
            exact ⟨ret_int (by rw [HC0.out, HR.out]; rfl), HB2.out⟩
          | false =>
            have q : (((s[0].toNat : Nat) : Int) == ((oneAt ones k1 : Nat) : Int)) = false := by simp at he ⊢; omega
            have HR := Lib.hid (one_take (l := ones) hlt1 HA1.out he)
            clear he hc0 HT2
            go_wp2
            go_round
            case rel => exact ⟨k1 + 1, by omega, by go_num, HR⟩
            case measure => simp [intOf]; omega
        · have h16 := HA1.out
          rw [List.take_of_length_le (by show 16 ≤ k1; omega)] at h16
          have HR := Lib.hid (sgn_no HT2 h16)
          have HC0 := Lib.hid hc0
          clear hc0 HT2 h16
          go_wp2
          go_ret
          exact ⟨ret_int (by rw [HC0.out, HR.out]; rfl), HB2.out⟩
end Go.Proofs.Ytcncbdnnakfgcaa
