/- Plain mathematics of the relation Lx, third part: what stands between two tokens, and the contract of the law's gap. -/
import Derived.Test.YtcncbdnnakfgcaaLexRemarkW
namespace Go.Proofs.Ytcncbdnnakfgcaa
open Go.ChangeShapes Go.WideShapes Go.ChangeAt Go.RowKit
set_option linter.unusedVariables false

/-- blanks and remarks; e: the last remark may have no end -/
inductive Gap : Bs → Bool → Prop where
  | nil (e : Bool) : Gap [] e
  | sp {c : UInt8} {r : Bs} {e : Bool} (h : isSp c = true) (t : Gap r e) : Gap (c :: r) e
  | rem {c : UInt8} {r : Bs} {e : Bool} (h : c.toNat = 35) (he : r.dropWhile notNl ≠ [] ∨ e = true) (t : Gap (r.dropWhile notNl) e) : Gap (c :: r) e
/-- a token that stands at the front of some text -/
structure Good (t : Tok) (c : UInt8) (r : Bs) : Prop where
  sp : isSp c = false
  hash : c.toNat ≠ 35
  tok : tokT (c :: r) = (t, 0)
theorem dw_head {p : UInt8 → Bool} {l : Bs} {c : UInt8} {r : Bs} (h : l.dropWhile p = c :: r) : p c = false := by
  induction l with
  | nil => simp at h
  | cons d q ih =>
    cases hd : p d with
    | true => simp [hd] at h; exact ih h
    | false => simp [hd] at h; rw [← h.1]; exact hd
theorem nl_sp {c : UInt8} (h : notNl c = false) : isSp c = true := by
  simp [notNl] at h
  simp [isSp, h]
theorem kind_pos {c : UInt8} {r : Bs} {t : Tok} (h : tokT (c :: r) = (t, 0)) : t.kind = 1 ∨ t.kind = 2 ∨ t.kind = 3 ∨ t.kind = 4 := by
  have e : (tokT (c :: r)).2 = 0 := by rw [h]
  have ht : (tokT (c :: r)).1 = t := by rw [h]
  cases hl : isLo c with
  | true =>
    rw [tokT_lo _ hl] at e ht
    have := (word_text e).2.2
    rw [ht] at this
    omega
  | false =>
    cases hd : isDi c with
    | true =>
      rw [tokT_di _ hl hd] at e ht
      have := (num_text e).1
      rw [← ht, this]
      simp
    | false =>
      rw [tokT_si _ hl hd] at e ht
      have := (sign_text e).1
      rw [← ht, this]
      simp
theorem lx_step {l : Bs} {at_ cnt : Nat} {R : Res} (h : Lx l at_ cnt R) : ∀ {t : Tok} {a : Nat} {ts : List (Tok × Nat)}, R = .ok ((t, a) :: ts) →
    ∃ g, a = at_ + g ∧ g ≤ l.length ∧ Gap (l.take g) (decide (t.kind = 0)) ∧
      ((ts = [] ∧ t = zT ∧ g = l.length) ∨ (∃ c r, l.drop g = c :: r ∧ Good t c r ∧ cnt < 2000 ∧ Lx ((c :: r).drop t.text.length) (a + t.text.length) (cnt + 1) (.ok ts))) := by
  induction h with
  | nil at_ cnt =>
    intro t a ts e
    simp only [Res.ok.injEq, List.cons.injEq, Prod.mk.injEq] at e
    obtain ⟨⟨rfl, rfl⟩, rfl⟩ := e
    exact ⟨0, rfl, Nat.le_refl _, .nil _, .inl ⟨rfl, rfl, rfl⟩⟩
  | @sp c r at_ cnt R h t' ih =>
    intro t a ts e
    obtain ⟨g, h1, h2, h3, h4⟩ := ih e
    refine ⟨g + 1, by omega, by simp; omega, .sp h h3, ?_⟩
    rcases h4 with ⟨h5, h6, h7⟩ | h5
    · exact .inl ⟨h5, h6, by simp; omega⟩
    · exact .inr h5
  | @rem c r at_ cnt R h h35 t' ih =>
    intro t a ts e
    obtain ⟨g, h1, h2, h3, h4⟩ := ih e
    have hl : (r.takeWhile notNl).length + (r.dropWhile notNl).length = r.length := by rw [← List.length_append, List.takeWhile_append_dropWhile]
    have hdw : (r.take ((r.takeWhile notNl).length + g)).dropWhile notNl = (r.dropWhile notNl).take g := by
      rw [dw_take _ _ (by omega)]
      congr 1
      omega
    refine ⟨(r.takeWhile notNl).length + g + 1, by omega, by simp; omega, ?_, ?_⟩
    · rw [List.take_succ_cons]
      refine .rem h35 ?_ (by rw [hdw]; exact h3)
      rw [hdw]
      rcases h4 with ⟨_, h6, _⟩ | ⟨c', r', h5, h6, _⟩
      · exact .inr (by rw [h6]; rfl)
      · refine .inl fun hnil => ?_
        cases hd : r.dropWhile notNl with
        | nil => rw [hd] at h5; simp at h5
        | cons b q =>
          rw [hd] at h5 hnil
          cases g with
          | zero =>
            simp only [List.drop_zero, List.cons.injEq] at h5
            have := nl_sp (dw_head hd)
            rw [h5.1, h6.sp] at this
            cases this
          | succ g => simp at hnil
    · rcases h4 with ⟨h5, h6, h7⟩ | ⟨c', r', h5, h6⟩
      · exact .inl ⟨h5, h6, by simp; omega⟩
      · refine .inr ⟨c', r', ?_, h6⟩
        rw [List.drop_succ_cons, ← h5, ← drop_tw notNl r, List.drop_drop]
  | bad h h35 e => intro t a ts e'; cases e'
  | full h h35 e hc => intro t a ts e'; cases e'
  | @tok c r at_ cnt R h h35 e hc t' ih =>
    intro t a ts e'
    cases R with
    | bad c2 a2 => cases e'
    | ok ts1 =>
      simp only [Res.app, List.singleton_append, Res.ok.injEq, List.cons.injEq, Prod.mk.injEq] at e'
      obtain ⟨⟨h1, h2⟩, h3⟩ := e'
      subst h1 h2 h3
      refine ⟨0, rfl, Nat.zero_le _, .nil _, .inr ⟨c, r, rfl, ⟨h, h35, ?_⟩, hc, t'⟩⟩
      rw [← e]
theorem good_text {t : Tok} {c : UInt8} {r : Bs} (h : Good t c r) : 1 ≤ t.text.length ∧ t.text = (c :: r).take t.text.length ∧ t.text.length ≤ (c :: r).length := by
  have e : (tokT (c :: r)).2 = 0 := by rw [h.tok]
  have := tok_text e
  rw [h.tok] at this
  refine ⟨this.1, this.2, ?_⟩
  have hl := congrArg List.length this.2
  rw [List.length_take] at hl
  simp only at hl
  omega
theorem sp_cases {c : UInt8} (h : isSp c = true) : c.toNat = 32 ∨ c.toNat = 9 ∨ c.toNat = 10 ∨ c.toNat = 13 := by
  simp only [isSp, Bool.or_eq_true, beq_iff_eq, or_assoc] at h
  exact h

set_option maxHeartbeats 4000000 in
theorem gap_true (s : ByteArray) (e : Bool) (w : World) (hs : s.size ≤ 1000000) (h : Gap (bl s) e) : Calls Try.prog 23 #[.string s, .bool e] w fun e w' => e = .returned (.bool true) ∧ w = w' := by
  have H0 : Hid (Gap ((bl s).drop 0) e) := Lib.hid h
  clear h
  go_enter Try.func23, Try.ntmps23
  go_wp2_with fail
  go_loop [5] (fun i => ∃ k : Nat, k ≤ s.size ∧ i = .int .i64 k ∧ Hid (Gap ((bl s).drop k) e)) (fun i => s.size - (intOf i).toNat)
  case atStart => exact ⟨0, Nat.zero_le _, rfl, H0⟩
  case round =>
    obtain ⟨k, hk, rfl, HG⟩ := hrel
    by_cases hlt : k < s.size
    · have hl := bl_at s k hlt
      have hg := HG.out
      rw [hl] at hg
      have HL := Lib.hid hl
      clear hl
      cases hg with
      | sp h t =>
        have HT := Lib.hid t
        have hc := sp_cases h
        have q35 : (((s[k].toNat : Nat) : Int) == 35) = false := by simp; omega
        clear t h
        rcases hc with h | h | h | h
        all_goals
          first | have q1 : (((s[k].toNat : Nat) : Int) != 32) = false := (by rw [h]; rfl) | have q1 : (((s[k].toNat : Nat) : Int) != 32) = true := (by rw [h]; rfl)
          first | have q2 : (((s[k].toNat : Nat) : Int) != 9) = false := (by rw [h]; rfl) | have q2 : (((s[k].toNat : Nat) : Int) != 9) = true := (by rw [h]; rfl)
          first | have q3 : (((s[k].toNat : Nat) : Int) != 10) = false := (by rw [h]; rfl) | have q3 : (((s[k].toNat : Nat) : Int) != 10) = true := (by rw [h]; rfl)
          first | have q4 : (((s[k].toNat : Nat) : Int) != 13) = false := (by rw [h]; rfl) | have q4 : (((s[k].toNat : Nat) : Int) != 13) = true := (by rw [h]; rfl)
          clear h
          go_wp2_with fail
          go_round
          case rel => exact ⟨k + 1, by omega, by go_num, HT⟩
          case measure => simp [intOf]; omega
      | rem h he t =>
        obtain ⟨n, hn⟩ : ∃ n, n = k + (((bl s).drop k).takeWhile notNl).length := ⟨_, rfl⟩
        have hle : n ≤ s.size := by rw [hn]; exact tw_le hk
        have hnl : notNl s[k] = true := by simp [notNl, h]
        have hn2 : n = k + 1 + (((bl s).drop (k + 1)).takeWhile notNl).length := by rw [hn, HL.out, takeWhile_ne hnl, List.length_cons]; omega
        have hkn : k < n := by omega
        have HT : Hid (∀ j, k ≤ j → j < n → ∃ h : j < s.size, notNl s[j] = true) := Lib.hid fun j h1 h2 => tw_true h1 (by rw [← hn]; exact h2)
        have HF : Hid (∀ (h : n < s.size), notNl s[n] = false) := Lib.hid fun h => tw_false hn h
        have hdr : (bl s).drop n = ((bl s).drop (k + 1)).dropWhile notNl := by rw [hn2, ← List.drop_drop]; exact drop_tw notNl _
        have HE : Hid (((bl s).drop n ≠ [] ∨ e = true) ∧ Gap ((bl s).drop n) e) := Lib.hid (by rw [hdr]; exact ⟨he, t⟩)
        have q35 : (((s[k].toNat : Nat) : Int) == 35) = true := by rw [h]; rfl
        clear hn hn2 hnl t h he hdr
        go_wp2_with fail
        go_loop [5] (fun i => ∃ j : Nat, k ≤ j ∧ j ≤ n ∧ i = .int .i64 j) (fun i => n - (intOf i).toNat)
        case atStart => exact ⟨k, Nat.le_refl _, by omega, rfl⟩
        case round =>
          obtain ⟨j, hj1, hj2, rfl⟩ := hrel
          by_cases hjn : j < n
          · obtain ⟨hjs, hpj⟩ := HT.out j hj1 hjn
            have q10 : (((s[j].toNat : Nat) : Int) != 10) = true := by simp [notNl] at hpj ⊢; omega
            clear hpj
            go_wp2_with fail
            go_round
            case rel => exact ⟨j + 1, by omega, by omega, by go_num⟩
            case measure => simp [intOf]; omega
          · obtain rfl : j = n := by omega
            by_cases hjs : j < s.size
            · have hpj := HF.out hjs
              have q10 : (((s[j].toNat : Nat) : Int) != 10) = false := by simp [notNl] at hpj ⊢; omega
              have qe : (((j : Nat) : Int) == ((s.size : Nat) : Int)) = false := by simp; omega
              have HG2 : Hid (Gap ((bl s).drop (j + 1)) e) := Lib.hid (by
                have h2 := HE.out.2
                rw [bl_at s j hjs] at h2
                cases h2 with
                | sp _ t => exact t
                | rem h _ _ => simp [notNl] at hpj; omega)
              clear hpj
              go_wp2_with fail
              go_round
              case rel => exact ⟨j + 1, by omega, by go_num, HG2⟩
              case measure => simp [intOf]; omega
            · have qe : (((j : Nat) : Int) == ((s.size : Nat) : Int)) = true := by simp; omega
              have hee : e = true := by
                rcases HE.out.1 with h1 | h1
                · exact absurd (List.drop_of_length_le (by rw [← size_bl]; omega)) h1
                · exact h1
              subst hee
              go_wp2_with fail
              go_ret
              exact ⟨rfl, rfl⟩
    · go_wp2_with fail
      go_ret
      exact ⟨rfl, rfl⟩
end Go.Proofs.Ytcncbdnnakfgcaa
