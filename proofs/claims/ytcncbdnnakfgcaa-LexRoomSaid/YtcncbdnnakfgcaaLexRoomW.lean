/- The walk of LexRoom. -/
import Derived.Test.YtcncbdnnakfgcaaLexAheadW
namespace Go.Proofs.Ytcncbdnnakfgcaa
open Go.ChangeShapes Go.WideShapes Go.ChangeAt Go.RowKit
set_option linter.unusedVariables false

def rep (u : Bs) : Nat → Bs
  | 0 => []
  | k + 1 => rep u k ++ u
theorem rep_front (u : Bs) (k : Nat) : rep u (k + 1) = u ++ rep u k := by
  induction k with
  | zero => simp [rep]
  | succ k ih =>
    have h : rep u (k + 1 + 1) = rep u (k + 1) ++ u := rfl
    rw [h, ih]
    have h2 : rep u (k + 1) = rep u k ++ u := rfl
    rw [ih] at h2
    rw [List.append_assoc, ← h2]
theorem rep_length (u : Bs) (k : Nat) : (rep u k).length = k * u.length := by
  induction k with
  | zero => simp [rep]
  | succ k ih => rw [rep, List.length_append, ih, Nat.add_mul]; omega
theorem bs_append (a b : Bs) : bs a ++ bs b = bs (a ++ b) := by
  rw [← bs_bl (bs a ++ bs b), bl_append, bl_bs, bl_bs]
theorem rep_step (u : Bs) (k : Nat) : bs (rep u (k + 1)) = bs (rep u k) ++ bs u := by rw [bs_append]; rfl
def tail14 : Bs := [32, 35, 32, 97, 110, 100, 32, 110, 111, 32, 109, 111, 114, 101]
theorem lx_tail (at_ cnt : Nat) : Lx tail14 at_ cnt (.ok [(zT, at_ + 14)]) := by
  refine .sp (by decide) (.rem (by decide) (by decide) ?_)
  exact .nil _ _
theorem tok_semi (r : Bs) : tokT (59 :: r) = (⟨4, [59], 0⟩, 0) := by
  have h2 : isTwo ((59 :: r).take 2) = false := by
    cases r with
    | nil => rfl
    | cons d q => simp [isTwo, pairs]
  rw [tokT_si _ (by decide) (by decide)]
  unfold signT
  rw [sgn_yes h2 (by decide)]
  rfl
theorem tok_a (r : Bs) : tokT (97 :: 32 :: r) = (⟨1, [97], 0⟩, 0) := by
  rw [tokT_lo _ (by decide)]
  have : (97 :: 32 :: r : Bs).takeWhile isLD = [97] := by
    rw [takeWhile_ne (by decide)]
    rw [show (32 :: r : Bs).takeWhile isLD = [] by rw [List.takeWhile_cons]; rfl]
  rw [this]
  rfl
theorem room_ok_sign (k : Nat) : ∀ (at_ cnt : Nat), cnt + k ≤ 2000 → ∃ ts : List (Tok × Nat), ts.length = k + 1 ∧ Lx (rep [59] k ++ tail14) at_ cnt (.ok ts) := by
  induction k with
  | zero => intro at_ cnt h; exact ⟨_, rfl, lx_tail at_ cnt⟩
  | succ k ih =>
    intro at_ cnt h
    obtain ⟨ts, hl, hx⟩ := ih (at_ + 1) (cnt + 1) (by omega)
    refine ⟨(⟨4, [59], 0⟩, at_) :: ts, by simp [hl], ?_⟩
    rw [rep_front]
    have := Lx.tok (c := 59) (r := rep [59] k ++ tail14) (at_ := at_) (cnt := cnt) (R := .ok ts) (by decide) (by decide) (by rw [tok_semi]) (by omega) (by rw [tok_semi]; exact hx)
    rw [tok_semi] at this
    exact this
theorem room_bad_sign (k : Nat) : ∀ (at_ cnt : Nat), cnt ≤ 2000 → 2000 < cnt + k → Lx (rep [59] k ++ tail14) at_ cnt (.bad 4 (at_ + (2000 - cnt))) := by
  induction k with
  | zero => intro at_ cnt h1 h2; omega
  | succ k ih =>
    intro at_ cnt h1 h2
    rw [rep_front]
    by_cases hc : cnt = 2000
    · subst hc
      exact Lx.full (c := 59) (r := rep [59] k ++ tail14) (by decide) (by decide) (by rw [tok_semi]) (by omega)
    · have hx := ih (at_ + 1) (cnt + 1) (by omega) (by omega)
      have := Lx.tok (c := 59) (r := rep [59] k ++ tail14) (at_ := at_) (cnt := cnt) (R := .bad 4 (at_ + 1 + (2000 - (cnt + 1)))) (by decide) (by decide) (by rw [tok_semi]) (by omega) (by rw [tok_semi]; exact hx)
      rw [show at_ + (2000 - cnt) = at_ + 1 + (2000 - (cnt + 1)) by omega]
      exact this
theorem room_ok_name (k : Nat) : ∀ (at_ cnt : Nat), cnt + k ≤ 2000 → ∃ ts : List (Tok × Nat), ts.length = k + 1 ∧ Lx (rep [97, 32] k ++ tail14) at_ cnt (.ok ts) := by
  induction k with
  | zero => intro at_ cnt h; exact ⟨_, rfl, lx_tail at_ cnt⟩
  | succ k ih =>
    intro at_ cnt h
    obtain ⟨ts, hl, hx⟩ := ih (at_ + 1 + 1) (cnt + 1) (by omega)
    refine ⟨(⟨1, [97], 0⟩, at_) :: ts, by simp [hl], ?_⟩
    rw [rep_front]
    have := Lx.tok (c := 97) (r := 32 :: (rep [97, 32] k ++ tail14)) (at_ := at_) (cnt := cnt) (R := .ok ts) (by decide) (by decide) (by rw [tok_a]) (by omega) (by rw [tok_a]; exact .sp (by decide) hx)
    rw [tok_a] at this
    exact this
theorem room_bad_name (k : Nat) : ∀ (at_ cnt : Nat), cnt ≤ 2000 → 2000 < cnt + k → Lx (rep [97, 32] k ++ tail14) at_ cnt (.bad 4 (at_ + 2 * (2000 - cnt))) := by
  induction k with
  | zero => intro at_ cnt h1 h2; omega
  | succ k ih =>
    intro at_ cnt h1 h2
    rw [rep_front]
    by_cases hc : cnt = 2000
    · subst hc
      exact Lx.full (c := 97) (r := 32 :: (rep [97, 32] k ++ tail14)) (by decide) (by decide) (by rw [tok_a]) (by omega)
    · have hx := ih (at_ + 1 + 1) (cnt + 1) (by omega) (by omega)
      have := Lx.tok (c := 97) (r := 32 :: (rep [97, 32] k ++ tail14)) (at_ := at_) (cnt := cnt) (R := .bad 4 (at_ + 1 + 1 + 2 * (2000 - (cnt + 1)))) (by decide) (by decide) (by rw [tok_a]) (by omega) (by rw [tok_a]; exact .sp (by decide) hx)
      rw [show at_ + 2 * (2000 - cnt) = at_ + 1 + 1 + 2 * (2000 - (cnt + 1)) by omega]
      exact this

set_option maxHeartbeats 4000000 in
theorem room_sign (n : Int) (w : World) : Calls Try.prog 13 #[.int .i64 n, .bool true] w fun e w' => e = .returned (.bool true) ∧ Below w.heap.size w w' := by
  obtain ⟨m, hm, hM⟩ := Mod_fix n 5 (by omega) (by omega)
  have HM := Lib.hid hM
  clear hM
  have hsz : (bs (rep [59] (1998 + m)) ++ ⟨#[32, 35, 32, 97, 110, 100, 32, 110, 111, 32, 109, 111, 114, 101]⟩ : ByteArray).size ≤ 100000 := by
    rw [size_bl, bl_append, bl_bs, List.length_append, rep_length]
    show (1998 + m) * 1 + 14 ≤ 100000
    omega
  have hble : bl (bs (rep [59] (1998 + m)) ++ ⟨#[32, 35, 32, 97, 110, 100, 32, 110, 111, 32, 109, 111, 114, 101]⟩ : ByteArray) = rep [59] (1998 + m) ++ tail14 := by rw [bl_append, bl_bs]; rfl
  by_cases hn : 1998 + m ≤ 2000
  · obtain ⟨ts, hl, hx⟩ := room_ok_sign (1998 + m) 0 0 (by omega)
    obtain ⟨k2, hk2⟩ : ∃ k2, k2 = 1998 + m + 1 := ⟨_, rfl⟩
    have HA := Lib.hid (fun W => All_ok (bs (rep [59] (1998 + m)) ++ ⟨#[32, 35, 32, 97, 110, 100, 32, 110, 111, 32, 109, 111, 114, 101]⟩) W ts k2 hsz (by rw [hble]; exact hx) (by rw [hl, hk2]))
    have q : (((k2 : Nat) : Int) == 1998 + ((m : Nat) : Int) + 1) = true := by simp; omega
    clear hl hx hsz hble hk2
    go_enter Try.func13, Try.ntmps13
    go_wp2_with (first
      | (go_at_call 16; refine (lexed_any _).mono ?_; rintro e w0 ⟨rfl, hb⟩; have HB0 := Lib.hid hb; clear hb)
      | (go_at_call 26; refine (HM.out _).mono ?_; rintro e w' ⟨rfl, rfl⟩))
    go_loop [5, 6] (fun v i => ∃ k : Nat, k ≤ 1998 + m ∧ i = .int .i64 k ∧ v = .string (bs (rep [59] k))) (fun _ i => 1998 + m - (intOf i).toNat)
    case atStart => exact ⟨0, Nat.zero_le _, rfl, rfl⟩
    case round =>
      obtain ⟨k, hk, rfl, rfl⟩ := hrel
      have hks : (bs (rep [59] k)).size ≤ 10000 := by rw [size_bl, bl_bs, rep_length]; simp; omega
      have HK := Lib.hid (rep_step [59] k)
      by_cases hlt : k < 1998 + m
      · go_wp2_with fail
        go_round
        case rel => exact ⟨k + 1, by omega, by go_num, by rw [HK.out]; rfl⟩
        case measure => simp [intOf]; omega
      · obtain rfl : k = 1998 + m := by omega
        go_wp2_with (go_at_call 18; refine (HA.out _).mono ?_; rintro e w1 ⟨A, cap, rfl, hrt, hb⟩; have HB1 := Lib.hid hb; have hz1 := hb.size; clear hb hrt)
        go_ret
        exact ⟨rfl, (below_then HB0.out HB1.out).alloc (below_then HB0.out HB1.out).size _⟩
  · have hx := room_bad_sign (1998 + m) 0 0 (by omega) (by omega)
    have HA := Lib.hid (fun W => All_bad (bs (rep [59] (1998 + m)) ++ ⟨#[32, 35, 32, 97, 110, 100, 32, 110, 111, 32, 109, 111, 114, 101]⟩) W 4 2000 hsz (by rw [hble]; exact hx))
    clear hx hsz hble
    go_enter Try.func13, Try.ntmps13
    go_wp2_with (first
      | (go_at_call 16; refine (lexed_any _).mono ?_; rintro e w0 ⟨rfl, hb⟩; have HB0 := Lib.hid hb; clear hb)
      | (go_at_call 26; refine (HM.out _).mono ?_; rintro e w' ⟨rfl, rfl⟩))
    go_loop [5, 6] (fun v i => ∃ k : Nat, k ≤ 1998 + m ∧ i = .int .i64 k ∧ v = .string (bs (rep [59] k))) (fun _ i => 1998 + m - (intOf i).toNat)
    case atStart => exact ⟨0, Nat.zero_le _, rfl, rfl⟩
    case round =>
      obtain ⟨k, hk, rfl, rfl⟩ := hrel
      have hks : (bs (rep [59] k)).size ≤ 10000 := by rw [size_bl, bl_bs, rep_length]; simp; omega
      have HK := Lib.hid (rep_step [59] k)
      by_cases hlt : k < 1998 + m
      · go_wp2_with fail
        go_round
        case rel => exact ⟨k + 1, by omega, by go_num, by rw [HK.out]; rfl⟩
        case measure => simp [intOf]; omega
      · obtain rfl : k = 1998 + m := by omega
        go_wp2_with (go_at_call 18; refine (HA.out _).mono ?_; rintro e w1 ⟨A, cap, rfl, hb⟩; have HB1 := Lib.hid hb; have hz1 := hb.size; clear hb)
        go_ret
        exact ⟨rfl, (below_then HB0.out HB1.out).alloc (below_then HB0.out HB1.out).size _⟩

set_option maxHeartbeats 4000000 in
theorem room_name (n : Int) (w : World) : Calls Try.prog 13 #[.int .i64 n, .bool false] w fun e w' => e = .returned (.bool true) ∧ Below w.heap.size w w' := by
  obtain ⟨m, hm, hM⟩ := Mod_fix n 5 (by omega) (by omega)
  have HM := Lib.hid hM
  clear hM
  have hsz : (bs (rep [97, 32] (1998 + m)) ++ ⟨#[32, 35, 32, 97, 110, 100, 32, 110, 111, 32, 109, 111, 114, 101]⟩ : ByteArray).size ≤ 100000 := by
    rw [size_bl, bl_append, bl_bs, List.length_append, rep_length]
    show (1998 + m) * 2 + 14 ≤ 100000
    omega
  have hble : bl (bs (rep [97, 32] (1998 + m)) ++ ⟨#[32, 35, 32, 97, 110, 100, 32, 110, 111, 32, 109, 111, 114, 101]⟩ : ByteArray) = rep [97, 32] (1998 + m) ++ tail14 := by rw [bl_append, bl_bs]; rfl
  by_cases hn : 1998 + m ≤ 2000
  · obtain ⟨ts, hl, hx⟩ := room_ok_name (1998 + m) 0 0 (by omega)
    obtain ⟨k2, hk2⟩ : ∃ k2, k2 = 1998 + m + 1 := ⟨_, rfl⟩
    have HA := Lib.hid (fun W => All_ok (bs (rep [97, 32] (1998 + m)) ++ ⟨#[32, 35, 32, 97, 110, 100, 32, 110, 111, 32, 109, 111, 114, 101]⟩) W ts k2 hsz (by rw [hble]; exact hx) (by rw [hl, hk2]))
    have q : (((k2 : Nat) : Int) == 1998 + ((m : Nat) : Int) + 1) = true := by simp; omega
    clear hl hx hsz hble hk2
    go_enter Try.func13, Try.ntmps13
    go_wp2_with (first
      | (go_at_call 16; refine (lexed_any _).mono ?_; rintro e w0 ⟨rfl, hb⟩; have HB0 := Lib.hid hb; clear hb)
      | (go_at_call 26; refine (HM.out _).mono ?_; rintro e w' ⟨rfl, rfl⟩))
    go_loop [5, 6] (fun v i => ∃ k : Nat, k ≤ 1998 + m ∧ i = .int .i64 k ∧ v = .string (bs (rep [97, 32] k))) (fun _ i => 1998 + m - (intOf i).toNat)
    case atStart => exact ⟨0, Nat.zero_le _, rfl, rfl⟩
    case round =>
      obtain ⟨k, hk, rfl, rfl⟩ := hrel
      have hks : (bs (rep [97, 32] k)).size ≤ 10000 := by rw [size_bl, bl_bs, rep_length]; simp; omega
      have HK := Lib.hid (rep_step [97, 32] k)
      by_cases hlt : k < 1998 + m
      · go_wp2_with fail
        go_round
        case rel => exact ⟨k + 1, by omega, by go_num, by rw [HK.out]; rfl⟩
        case measure => simp [intOf]; omega
      · obtain rfl : k = 1998 + m := by omega
        go_wp2_with (go_at_call 18; refine (HA.out _).mono ?_; rintro e w1 ⟨A, cap, rfl, hrt, hb⟩; have HB1 := Lib.hid hb; have hz1 := hb.size; clear hb hrt)
        go_ret
        exact ⟨rfl, (below_then HB0.out HB1.out).alloc (below_then HB0.out HB1.out).size _⟩
  · have hx := room_bad_name (1998 + m) 0 0 (by omega) (by omega)
    have HA := Lib.hid (fun W => All_bad (bs (rep [97, 32] (1998 + m)) ++ ⟨#[32, 35, 32, 97, 110, 100, 32, 110, 111, 32, 109, 111, 114, 101]⟩) W 4 4000 hsz (by rw [hble]; exact hx))
    clear hx hsz hble
    go_enter Try.func13, Try.ntmps13
    go_wp2_with (first
      | (go_at_call 16; refine (lexed_any _).mono ?_; rintro e w0 ⟨rfl, hb⟩; have HB0 := Lib.hid hb; clear hb)
      | (go_at_call 26; refine (HM.out _).mono ?_; rintro e w' ⟨rfl, rfl⟩))
    go_loop [5, 6] (fun v i => ∃ k : Nat, k ≤ 1998 + m ∧ i = .int .i64 k ∧ v = .string (bs (rep [97, 32] k))) (fun _ i => 1998 + m - (intOf i).toNat)
    case atStart => exact ⟨0, Nat.zero_le _, rfl, rfl⟩
    case round =>
      obtain ⟨k, hk, rfl, rfl⟩ := hrel
      have hks : (bs (rep [97, 32] k)).size ≤ 10000 := by rw [size_bl, bl_bs, rep_length]; simp; omega
      have HK := Lib.hid (rep_step [97, 32] k)
      by_cases hlt : k < 1998 + m
      · go_wp2_with fail
        go_round
        case rel => exact ⟨k + 1, by omega, by go_num, by rw [HK.out]; rfl⟩
        case measure => simp [intOf]; omega
      · obtain rfl : k = 1998 + m := by omega
        go_wp2_with (go_at_call 18; refine (HA.out _).mono ?_; rintro e w1 ⟨A, cap, rfl, hb⟩; have HB1 := Lib.hid hb; have hz1 := hb.size; clear hb)
        go_ret
        exact ⟨rfl, (below_then HB0.out HB1.out).alloc (below_then HB0.out HB1.out).size _⟩

theorem lexRoom_walk (n : Int) (b : Bool) (w : World) : Calls Try.prog 13 #[.int .i64 n, .bool b] w fun e w' => e = .returned (.bool true) ∧ Below w.heap.size w w' := by
  cases b
  · exact room_name n w
  · exact room_sign n w
end Go.Proofs.Ytcncbdnnakfgcaa
