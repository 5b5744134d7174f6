/- The reference's product and quotient: contracts. -/
import Derived.Test.YtldemchbhcecfaaWordP
import Derived.Lib.Hide
namespace Go.Proofs.Ytldemchbhcecfaa
open Go.ChangeShapes Go.WideShapes Go.ChangeAt Go.RowKit
set_option maxHeartbeats 400000 in
theorem mul_any (a b : Int) (h : InU a) (g : InU b) (w : World) :
    Calls Try.prog 23 #[.int .u64 a, .int .u64 b] w fun e w' => e = .returned (.int .u64 (mulU a b)) ∧ w = w' := by
  have h0 := h.1
  have h1 := h.2
  have g0 := g.1
  have g1 := g.2
  have E : Hid (mulS a b 64 = mulU a b) := Lib.hid (mulS_end a b g)
  have Z : mulS a b 0 = 0 := mulS_zero a b
  have ZH := Lib.hid Z
  clear Z
  go_enter Try.func23, Try.ntmps23
  go_wp2
  go_loop [5, 6] (fun s i => ∃ k : Nat, k ≤ 64 ∧ i = .int .i64 k ∧ s = .int .u64 (mulS a b k)) (fun _ i => 64 - (intOf i).toNat)
  case atStart => exact ⟨0, by omega, rfl, by rw [ZH.out]⟩
  case round =>
    obtain ⟨k, hk, rfl, rfl⟩ := hrel
    by_cases hlt : k < 64
    · have e1 : bits .and .u64 (b / 2 ^ k) 1 = b / 2 ^ k % 2 := and1 _ (inU_shift b g k)
      have i1 := inU_mulS a b k
      have i2 : InU (IntKind.u64.wrap (a * 2 ^ k)) := by rw [IntKind.wrap_u64]; unfold InU; omega
      rcases (show b / 2 ^ k % 2 = 0 ∨ b / 2 ^ k % 2 = 1 by omega) with c | c
      · have n := Lib.hid (mulS_no a b k c)
        rw [c] at e1
        clear c
        go_wp2
        go_round
        case rel => exact ⟨k + 1, by omega, by go_num, by rw [← n.out]⟩
        case measure => simp [intOf] <;> omega
      · have n := Lib.hid (mulS_one a b k c)
        rw [c] at e1
        clear c
        go_wp2_with (go_at_call 22; with_reducible refine (add_any _ _ i1 i2 _).mono ?_; rintro e w' ⟨rfl, rfl⟩)
        go_round
        case rel => exact ⟨k + 1, by omega, by go_num, by rw [← n.out]⟩
        case measure => simp [intOf] <;> omega
    · obtain rfl : k = 64 := by omega
      go_wp2
      go_ret
      exact ⟨by rw [← E.out] <;> rfl, rfl⟩
theorem pow_le63 (k : Nat) (h : k < 64) : (2 : Int) ^ k ≤ 9223372036854775808 := by
  have : (2 : Nat) ^ k ≤ 2 ^ 63 := Nat.pow_le_pow_right (by omega) (by omega)
  have e : ((2 ^ k : Nat) : Int) = 2 ^ k := by norm_cast
  omega
set_option maxHeartbeats 800000 in
theorem div_any (a b : Int) (h : InU a) (g : InU b) (hb : 0 < b) (w : World) :
    Calls Try.prog 28 #[.int .u64 a, .int .u64 b] w fun e w' => e = .returned (.tuple #[.int .u64 (a / b), .int .u64 (a % b)]) ∧ w = w' := by
  have h0 := h.1
  have h1 := h.2
  have g0 := g.1
  have g1 := g.2
  have E1 := Lib.hid (quoS_end a b)
  have E2 := Lib.hid (remS_end a b)
  have Z1 := Lib.hid (quoS_start a b h)
  have Z2 := Lib.hid (remS_start a b h)
  go_enter Try.func28, Try.ntmps28
  go_wp2
  go_loop [6, 7, 8] (fun q r i => ∃ k : Nat, k ≤ 64 ∧ i = .int .i64 (k - 1) ∧ q = .int .u64 (quoS a b k) ∧ r = .int .u64 (remS a b k)) (fun _ _ i => (intOf i + 1).toNat)
  case atStart => exact ⟨64, by omega, rfl, by rw [Z1.out], by rw [Z2.out]⟩
  case round =>
    obtain ⟨k, hk, rfl, rfl, rfl⟩ := hrel
    by_cases hlt : 0 < k
    · obtain ⟨k, rfl⟩ : ∃ j, k = j + 1 := ⟨k - 1, by omega⟩
      have e1 : bits .and .u64 (a / 2 ^ k) 1 = a / 2 ^ k % 2 := and1 _ (inU_shift a h k)
      have i1 := inU_quoS a b (k + 1) h hb
      have i2 := inU_remS a b (k + 1) g hb
      have pk := pow_le63 k (by omega)
      have pp := pow_pos2 k
      have cv : ((k + 1 : Nat) : Int) - 1 = k := by omega
      rw [cv]
      clear cv
      have hB : 0 ≤ a / 2 ^ k % 2 ∧ a / 2 ^ k % 2 ≤ 1 := by omega
      obtain ⟨B, eB⟩ : ∃ B, a / 2 ^ k % 2 = B := ⟨_, rfl⟩
      have K : (2 * remS a b (k + 1) + B < b ∧ remS a b k = 2 * remS a b (k + 1) + B ∧ quoS a b k = quoS a b (k + 1)) ∨ (b ≤ 2 * remS a b (k + 1) + B ∧ remS a b k = 2 * remS a b (k + 1) + B - b ∧ bits .or .u64 (quoS a b (k + 1)) (2 ^ k) = quoS a b k) := by
        rw [← eB]
        rcases Int.lt_or_le (2 * remS a b (k + 1) + a / 2 ^ k % 2) b with c | c
        · exact .inl ⟨c, step_less a b k hb c⟩
        · exact .inr ⟨c, (step_more a b k hb c).1, or_bit a b k h hb c⟩
      rw [eB] at e1 hB
      obtain ⟨hB0, hB1⟩ := hB
      obtain ⟨⟨r0, r1⟩, r2⟩ := i2
      obtain ⟨q0, q1⟩ := i1
      have eB' := Lib.hid eB
      clear eB
      generalize remS a b (k + 1) = R at *
      generalize quoS a b (k + 1) = Q at *
      rcases K with ⟨c, c1, c2⟩ | ⟨c, c1, c2⟩
      · have ol := or_low R B r0 (by omega) hB0 hB1
        have C1 := Lib.hid c1
        have C2 := Lib.hid c2
        clear c1 c2
        have hc : (R / 9223372036854775808 == 1) = false := by simpa using (by omega : ¬ R / 9223372036854775808 = 1)
        have hr : R < 9223372036854775808 := by omega
        go_wp2
        go_round
        case rel => exact ⟨k, by omega, by go_num, by rw [C2.out], by rw [C1.out]⟩
        case measure => simp [intOf] <;> omega
      · have C2 := Lib.hid c2
        have it := inU_turn b
        clear c2
        by_cases hr : R < 9223372036854775808
        · have ol := or_low R B r0 hr hB0 hB1
          have C1 : Hid (remS a b k = addU (2 * R + B) (turnU b)) := Lib.hid (by rw [c1]; unfold addU turnU; omega)
          clear c1
          have hc : (R / 9223372036854775808 == 1) = false := by simpa using (by omega : ¬ R / 9223372036854775808 = 1)
          go_wp2_with (first
            | (go_at_call 19; with_reducible refine (turned_any _ g _).mono ?_; rintro e w' ⟨rfl, rfl⟩)
            | (go_at_call 22; with_reducible refine (add_any _ _ (inU_mk (by omega) (by omega)) it _).mono ?_; rintro e w' ⟨rfl, rfl⟩))
          go_round
          case rel => exact ⟨k, by omega, by go_num, by rw [C2.out], by rw [C1.out]⟩
          case measure => simp [intOf] <;> omega
        · obtain ⟨T, hT, t0, t1, hw, c1'⟩ : ∃ T, Hid (T = R - 9223372036854775808) ∧ 0 ≤ T ∧ T < 9223372036854775808 ∧ IntKind.u64.wrap (R * 2) = T * 2 ∧ remS a b k = addU (2 * T + B) (turnU b) :=
            ⟨R - 9223372036854775808, Lib.hid rfl, by omega, by omega, by rw [IntKind.wrap_u64]; omega, by rw [c1]; unfold addU turnU; omega⟩
          have C1 := Lib.hid c1'
          have ol := or_low T B t0 t1 hB0 hB1
          clear c1 c1'
          have hc : (R / 9223372036854775808 == 1) = true := by simpa using (by omega : R / 9223372036854775808 = 1)
          go_wp2_with (first
            | (go_at_call 19; with_reducible refine (turned_any _ g _).mono ?_; rintro e w' ⟨rfl, rfl⟩)
            | (go_at_call 22; with_reducible refine (add_any _ _ (inU_mk (by omega) (by omega)) it _).mono ?_; rintro e w' ⟨rfl, rfl⟩))
          go_round
          case rel => exact ⟨k, by omega, by go_num, by rw [C2.out], by rw [C1.out]⟩
          case measure => simp [intOf] <;> omega
    · obtain rfl : k = 0 := by omega
      go_wp2
      go_ret2
      exact ⟨by rw [← E1.out, ← E2.out] <;> rfl, rfl⟩
end Go.Proofs.Ytldemchbhcecfaa
