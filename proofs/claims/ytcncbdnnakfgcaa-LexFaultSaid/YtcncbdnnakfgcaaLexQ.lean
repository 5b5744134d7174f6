/- Plain mathematics of the relation Lx: what is cut off, laid ahead or behind. -/
import Derived.Test.YtcncbdnnakfgcaaLexNamesW
namespace Go.Proofs.Ytcncbdnnakfgcaa
set_option linter.unusedVariables false

section
variable {p : UInt8 → Bool}
theorem tw_stop {b : UInt8} (hb : p b = false) (l z : Bs) : (l ++ b :: z).takeWhile p = l.takeWhile p := by
  induction l with
  | nil => simp [hb]
  | cons c r ih => cases h : p c <;> simp [h, ih]
theorem dw_stop {b : UInt8} (hb : p b = false) (l z : Bs) : (l ++ b :: z).dropWhile p = l.dropWhile p ++ b :: z := by
  induction l with
  | nil => simp [hb]
  | cons c r ih => cases h : p c <;> simp [h, ih]
theorem tw_take (l : Bs) : ∀ (m : Nat), (l.takeWhile p).length ≤ m → (l.take m).takeWhile p = l.takeWhile p := by
  induction l with
  | nil => simp
  | cons c r ih =>
    intro m hm
    cases h : p c with
    | false => cases m <;> simp [h]
    | true =>
      simp only [List.takeWhile_cons, h, if_true, List.length_cons] at hm
      obtain ⟨m', rfl⟩ : ∃ m', m = m' + 1 := ⟨m - 1, by omega⟩
      simp [h, ih m' (by omega)]
theorem dw_take (l : Bs) : ∀ (m : Nat), (l.takeWhile p).length ≤ m → (l.take m).dropWhile p = (l.dropWhile p).take (m - (l.takeWhile p).length) := by
  induction l with
  | nil => simp
  | cons c r ih =>
    intro m hm
    cases h : p c with
    | false => cases m <;> simp [h]
    | true =>
      simp only [List.takeWhile_cons, h, if_true, List.length_cons] at hm
      obtain ⟨m', rfl⟩ : ∃ m', m = m' + 1 := ⟨m - 1, by omega⟩
      simp [h, ih m' (by omega)]
theorem tw_long (l : Bs) : ∀ (m : Nat), m ≤ (l.takeWhile p).length → (l.take m).takeWhile p = (l.takeWhile p).take m := by
  induction l with
  | nil => simp
  | cons c r ih =>
    intro m hm
    cases h : p c with
    | false =>
      simp only [List.takeWhile_cons, h, Bool.false_eq_true, if_false, List.length_nil] at hm
      obtain rfl : m = 0 := by omega
      simp
    | true =>
      simp only [List.takeWhile_cons, h, if_true, List.length_cons] at hm
      cases m with
      | zero => simp
      | succ m => simp [h, ih m (by omega)]
end

theorem tokT_lo {c : UInt8} (r : Bs) (h : isLo c = true) : tokT (c :: r) = wordT ((c :: r).takeWhile isLD) := by simp only [tokT, h, if_true]
theorem tokT_di {c : UInt8} (r : Bs) (h : isLo c = false) (hd : isDi c = true) : tokT (c :: r) = numT ((c :: r).takeWhile isDi) := by simp [tokT, h, hd]
theorem tokT_si {c : UInt8} (r : Bs) (h : isLo c = false) (hd : isDi c = false) : tokT (c :: r) = signT (c :: r) := by simp [tokT, h, hd]
theorem word_text {l : Bs} (e : (wordT l).2 = 0) : (wordT l).1.text = l ∧ l.length ≤ 8 ∧ ((wordT l).1.kind = 3 ∨ (wordT l).1.kind = 1) := by
  unfold wordT at e ⊢
  split
  · rename_i h; exact ⟨rfl, (word_form h).2.2, .inl rfl⟩
  · rename_i h
    rw [if_neg h] at e
    split
    · rename_i h8; rw [if_pos h8] at e; simp at e
    · exact ⟨rfl, by omega, .inr rfl⟩
theorem num_text {l : Bs} (e : (numT l).2 = 0) : (numT l).1 = ⟨2, l, val l⟩ ∧ ¬ (1 < l.length ∧ hd0 l = true) ∧ val l ≤ 9223372036854775807 := by
  unfold numT at e ⊢
  split
  · rename_i h; rw [if_pos h] at e; simp at e
  · rename_i h
    rw [if_neg h] at e
    split
    · rename_i h8; rw [if_pos h8] at e; simp at e
    · exact ⟨rfl, h, by omega⟩
theorem sign_text {l : Bs} (e : (signT l).2 = 0) : (signT l).1 = ⟨4, l.take (sgn l), 0⟩ ∧ sgn l ≠ 0 := by
  unfold signT at e ⊢
  split
  · rename_i h; rw [if_pos h] at e; simp at e
  · rename_i h; exact ⟨rfl, h⟩

/-- a byte that goes on with no token -/
structure Stop (b : UInt8) : Prop where
  ld : isLD b = false
  two : ∀ c, isTwo [c, b] = false
theorem Stop.di {b : UInt8} (h : Stop b) : isDi b = false := by have := h.ld; rw [isLD, Bool.or_eq_false_iff] at this; exact this.2
theorem stop_of {b : UInt8} (h : isLD b = false) (h1 : b ≠ 61) (h2 : b ≠ 38) (h3 : b ≠ 124) : Stop b := by
  refine ⟨h, fun c => ?_⟩
  simp only [isTwo, pairs, List.any_cons, List.any_nil, Bool.or_false]
  simp [h1, h2, h3]
theorem stop10 : Stop 10 := stop_of (by decide) (by decide) (by decide) (by decide)
theorem stop32 : Stop 32 := stop_of (by decide) (by decide) (by decide) (by decide)
theorem two_one (c : UInt8) : isTwo [c] = false := by simp [isTwo, pairs]
theorem sgn_eq {l l' : Bs} (h2 : isTwo (l.take 2) = isTwo (l'.take 2)) (h1 : l.head? = l'.head?) : sgn l = sgn l' := by
  unfold sgn
  rw [h2]
  split
  · rfl
  · cases l with
    | nil => cases l' with
      | nil => rfl
      | cons d q => simp at h1
    | cons c r => cases l' with
      | nil => simp at h1
      | cons d q => simp at h1; rw [h1]
theorem tok_ext {b : UInt8} (hb : Stop b) (c : UInt8) (r z : Bs) : tokT (c :: (r ++ b :: z)) = tokT (c :: r) := by
  cases hl : isLo c with
  | true =>
    rw [tokT_lo _ hl, tokT_lo _ hl]
    have := tw_stop hb.ld (c :: r) z
    rw [List.cons_append] at this
    rw [this]
  | false =>
    cases hd : isDi c with
    | true =>
      rw [tokT_di _ hl hd, tokT_di _ hl hd]
      have := tw_stop hb.di (c :: r) z
      rw [List.cons_append] at this
      rw [this]
    | false =>
      rw [tokT_si _ hl hd, tokT_si _ hl hd]
      have hs : sgn (c :: (r ++ b :: z)) = sgn (c :: r) := by
        refine sgn_eq ?_ rfl
        cases r with
        | nil => simp [hb.two c, two_one]
        | cons d q => simp
      unfold signT
      rw [hs]
      split
      · rfl
      · have hle := sgn_le (c :: r)
        rw [← List.cons_append, List.take_append_of_le_length hle]
theorem tok_cut {c : UInt8} {r : Bs} {m : Nat} (e : (tokT (c :: r)).2 = 0) (hm : (tokT (c :: r)).1.text.length ≤ m) : tokT ((c :: r).take m) = tokT (c :: r) := by
  have h1 := (tok_text e).1
  obtain ⟨m', rfl⟩ : ∃ m', m = m' + 1 := ⟨m - 1, by omega⟩
  rw [List.take_succ_cons]
  cases hl : isLo c with
  | true =>
    rw [tokT_lo _ hl] at e hm ⊢
    rw [(word_text e).1] at hm
    rw [tokT_lo _ hl, ← List.take_succ_cons, tw_take _ _ hm]
  | false =>
    cases hd : isDi c with
    | true =>
      rw [tokT_di _ hl hd] at e hm ⊢
      rw [(num_text e).1] at hm
      rw [tokT_di _ hl hd, ← List.take_succ_cons, tw_take _ _ hm]
    | false =>
      rw [tokT_si _ hl hd] at e hm ⊢
      rw [tokT_si _ hl hd]
      obtain ⟨ht, hz⟩ := sign_text e
      rw [ht] at hm
      have hle := sgn_le (c :: r)
      simp only [List.length_take, Nat.min_eq_left hle] at hm
      have hs : sgn (c :: r.take m') = sgn (c :: r) := by
        refine sgn_eq ?_ rfl
        cases m' with
        | zero =>
          simp only [List.take_zero]
          have : isTwo ((c :: r).take 2) = false := by
            cases h2 : isTwo ((c :: r).take 2) with
            | false => rfl
            | true => have : sgn (c :: r) = 2 := by unfold sgn; rw [if_pos h2]
                      omega
          rw [this]
          exact two_one c
        | succ m'' => cases r <;> simp
      unfold signT
      rw [hs]
      split
      · rfl
      · rw [← List.take_succ_cons, List.take_take, Nat.min_eq_left hm]
theorem val_big {c : UInt8} {l : Bs} (hc : 49 ≤ c.toNat) (hl : 19 ≤ l.length) : 9223372036854775807 < val (c :: l) := by
  have h1 := val_ge c l hc
  have h2 : 10 ^ 19 ≤ 10 ^ l.length := Nat.pow_le_pow_right (by omega) hl
  omega
theorem tok_len {c : UInt8} {r : Bs} (e : (tokT (c :: r)).2 = 0) : (tokT (c :: r)).1.text.length ≤ 19 := by
  cases hl : isLo c with
  | true =>
    rw [tokT_lo _ hl] at e ⊢
    obtain ⟨h1, h2, _⟩ := word_text e
    rw [h1]
    omega
  | false =>
    cases hd : isDi c with
    | true =>
      rw [tokT_di _ hl hd] at e ⊢
      obtain ⟨h1, h2, h3⟩ := num_text e
      rw [h1]
      rw [takeWhile_ne hd] at h2 h3 ⊢
      simp only [List.length_cons] at h2 ⊢
      by_cases h19 : (r.takeWhile isDi).length + 1 ≤ 19
      · exact h19
      · exfalso
        have hz : ¬ hd0 (c :: r.takeWhile isDi) = true := fun h => h2 ⟨by omega, h⟩
        simp only [hd0, beq_iff_eq] at hz
        have hb := di_bounds hd
        have := val_big (c := c) (l := r.takeWhile isDi) (by omega) (by omega)
        omega
    | false =>
      rw [tokT_si _ hl hd] at e ⊢
      obtain ⟨h1, h2⟩ := sign_text e
      rw [h1]
      simp only [List.length_take]
      have : sgn (c :: r) ≤ 2 := by
        unfold sgn
        split
        · omega
        · simp only; split <;> omega
      omega
theorem tok_cut_bad {c : UInt8} {r : Bs} {m : Nat} (e : (tokT (c :: r)).2 ≠ 0) (hm : 21 ≤ m) : (tokT ((c :: r).take m)).2 = (tokT (c :: r)).2 := by
  obtain ⟨m', rfl⟩ : ∃ m', m = m' + 1 := ⟨m - 1, by omega⟩
  cases hl : isLo c with
  | true =>
    rw [List.take_succ_cons, tokT_lo _ hl, ← List.take_succ_cons]
    rw [tokT_lo _ hl] at e ⊢
    by_cases hle : ((c :: r).takeWhile isLD).length ≤ m' + 1
    · rw [tw_take _ _ hle]
    · rw [tw_long _ _ (by omega)]
      have hw : ∀ l : Bs, 8 < l.length → (wordT l).2 = 4 := by
        intro l h8
        have hn : isWd l = false := by
          cases h : isWd l with
          | false => rfl
          | true => have := (word_form h).2.2; omega
        unfold wordT
        rw [if_neg (by rw [hn]; simp), if_pos h8]
      rw [hw _ (by rw [List.length_take]; omega), hw _ (by omega)]
  | false =>
    cases hd : isDi c with
    | true =>
      rw [List.take_succ_cons, tokT_di _ hl hd, ← List.take_succ_cons]
      rw [tokT_di _ hl hd] at e ⊢
      by_cases hle : ((c :: r).takeWhile isDi).length ≤ m' + 1
      · rw [tw_take _ _ hle]
      · rw [tw_long _ _ (by omega), takeWhile_ne hd, List.take_succ_cons]
        rw [takeWhile_ne hd, List.length_cons] at hle
        have hb := di_bounds hd
        by_cases h0 : c.toNat = 48
        · unfold numT
          rw [if_pos ⟨by simp [List.length_take]; omega, by simp [hd0, h0]⟩, if_pos ⟨by simp; omega, by simp [hd0, h0]⟩]
        · have hv : ∀ l : Bs, 19 ≤ l.length → (numT (c :: l)).2 = 4 := by
            intro l h19
            unfold numT
            rw [if_neg (by simp [hd0, h0]), if_pos (val_big (by omega) h19)]
          rw [hv _ (by rw [List.length_take]; omega), hv _ (by omega)]
    | false =>
      rw [List.take_succ_cons, tokT_si _ hl hd]
      rw [tokT_si _ hl hd] at e ⊢
      have hz : sgn (c :: r) = 0 := by
        unfold signT at e
        split at e
        · assumption
        · simp at e
      have hs : sgn (c :: r.take m') = sgn (c :: r) := by
        refine sgn_eq ?_ rfl
        obtain ⟨m'', rfl⟩ : ∃ m'', m' = m'' + 1 := ⟨m' - 1, by omega⟩
        cases r <;> simp
      unfold signT
      rw [hs, if_pos hz, if_pos hz]
end Go.Proofs.Ytcncbdnnakfgcaa
