/- The walk of LexLong. -/
import Derived.Test.YtcncbdnnakfgcaaLexCoverW
import Derived.BigRegion
namespace Go.Proofs.Ytcncbdnnakfgcaa
open Go.ChangeShapes Go.WideShapes Go.ChangeAt Go.RowKit
set_option linter.unusedVariables false

theorem ldigit_any (c : UInt8) (w : World) :
    Calls Try.prog 24 #[.int .u8 c.toNat] w fun e w' => e = .returned (.bool (isDi c)) ∧ w = w' := by
  go_enter Try.func24, Try.ntmps24
  go_wp2
  all_goals
    go_ret
    refine ⟨ret_bool ?_, rfl⟩
    simp only [isDi]
    rw [Bool.eq_iff_iff]
    simp only [Bool.and_eq_true, decide_eq_true_eq, Bool.false_eq_true]
    first | omega | (simp only [false_iff]; omega) | (simp only [true_iff]; omega) | (simp; omega)
theorem lletter_any (c : UInt8) (w : World) :
    Calls Try.prog 25 #[.int .u8 c.toNat] w fun e w' => e = .returned (.bool (isLD c)) ∧ w = w' := by
  go_enter Try.func25, Try.ntmps25
  go_wp2
  all_goals
    go_ret
    refine ⟨ret_bool ?_, rfl⟩
    simp only [isLD, isLo, isDi]
    rw [Bool.eq_iff_iff]
    simp only [Bool.or_eq_true, Bool.and_eq_true, decide_eq_true_eq, Bool.false_eq_true]
    first | omega | (simp only [false_iff]; omega) | (simp only [true_iff]; omega) | (simp; omega)

theorem two_head {l : Bs} (h : isTwo l = true) : ∃ c d, l = [c, d] ∧ isLD c = false := by
  simp only [isTwo, pairs, List.any_cons, List.any_nil, Bool.or_false, Bool.or_eq_true, beq_iff_eq] at h
  rcases h with h | h | h | h | h | h <;> exact ⟨_, _, h, by decide⟩
theorem touch {t : Tok} {c d : UInt8} {r q : Bs} (h : Good t c r) (hd : (c :: r).drop t.text.length = d :: q) :
    (t.kind = 2 → isDi d = false) ∧ ((t.kind = 1 ∨ t.kind = 3) → isLD d = false) ∧ isTwo (t.text ++ [d]) = false := by
  have e : (tokT (c :: r)).2 = 0 := by rw [h.tok]
  have ht : (tokT (c :: r)).1 = t := by rw [h.tok]
  have hgt := good_text h
  have hhead : ∃ z, t.text = c :: z := by
    rw [hgt.2.1]
    cases hl : t.text.length with
    | zero => omega
    | succ m => exact ⟨_, List.take_succ_cons⟩
  obtain ⟨z, hz⟩ := hhead
  have two_of : isLD c = true → isTwo (t.text ++ [d]) = false := by
    intro hc
    cases h2 : isTwo (t.text ++ [d]) with
    | false => rfl
    | true =>
      obtain ⟨c1, d1, h3, h4⟩ := two_head h2
      rw [hz, List.cons_append] at h3
      injection h3 with h3
      rw [← h3, hc] at h4
      cases h4
  cases hl : isLo c with
  | true =>
    rw [tokT_lo _ hl] at e ht
    have hw := word_text e
    rw [ht] at hw
    have hdw : (c :: r).dropWhile isLD = d :: q := by rw [← drop_tw, ← hw.1]; exact hd
    have hld := dw_head hdw
    exact ⟨fun _ => (ld_false hld).2, fun _ => hld, two_of (isLD_of_lo hl)⟩
  | false =>
    cases hdi : isDi c with
    | true =>
      rw [tokT_di _ hl hdi] at e ht
      have hw := num_text e
      rw [ht] at hw
      have hdw : (c :: r).dropWhile isDi = d :: q := by rw [← drop_tw]; rw [hw.1] at hd; exact hd
      have hld := dw_head hdw
      exact ⟨fun _ => hld, fun hk => by rw [hw.1] at hk; simp at hk, two_of (by simp [isLD, hdi])⟩
    | false =>
      rw [tokT_si _ hl hdi] at e ht
      have hw := sign_text e
      rw [ht] at hw
      refine ⟨fun hk => by rw [hw.1] at hk; simp at hk, fun hk => by rw [hw.1] at hk; simp at hk, ?_⟩
      have hle := sgn_le (c :: r)
      have hlen : t.text.length = sgn (c :: r) := by rw [hw.1]; simp only [List.length_take]; omega
      cases h2 : isTwo (t.text ++ [d]) with
      | false => rfl
      | true =>
        exfalso
        obtain ⟨c1, d1, h3, _⟩ := two_head h2
        have h4 := congrArg List.length h3
        rw [List.length_append] at h4
        simp only [List.length_cons, List.length_nil] at h4
        have h1 : sgn (c :: r) = 1 := by omega
        rw [hlen, h1] at hd
        simp only [List.drop_succ_cons, List.drop_zero] at hd
        have h5 : (c :: r).take 2 = [c, d] := by rw [hd]; rfl
        have h6 : t.text = [c] := by rw [hw.1, h1]; rfl
        rw [h6] at h2
        have h7 : sgn (c :: r) = 2 := by unfold sgn; rw [h5]; exact if_pos h2
        omega
/-- what round k sees of the two -/
structure Pair (t u : Tok) (a b : Nat) : Prop where
  some_ : ∃ d q, u.text = d :: q ∧ (b = a + t.text.length → (t.kind = 2 → isDi d = false) ∧ ((t.kind = 1 ∨ t.kind = 3) → isLD d = false) ∧ isTwo (t.text ++ [d]) = false)
theorem long_step {x : ByteArray} {ts : List (Tok × Nat)} {k p : Nat} (h : CInv x ts k p) (hk : k + 2 < ts.length) : ∃ t a u b, ts[k]? = some (t, a) ∧ ts[k + 1]? = some (u, b) ∧ Pair t u a b := by
  rcases h with ⟨_, hp, hlx⟩ | ⟨h, _⟩
  · obtain ⟨⟨t, a⟩, hta⟩ : ∃ q, ts[k]? = some q := ⟨_, List.getElem?_eq_getElem (by omega)⟩
    obtain ⟨⟨u, b⟩, htb⟩ : ∃ q, ts[k + 1]? = some q := ⟨_, List.getElem?_eq_getElem (by omega)⟩
    have hd : ∀ (j : Nat) (q : Tok × Nat), ts[j]? = some q → ts.drop j = q :: ts.drop (j + 1) := by
      intro j q hq
      obtain ⟨hj, h1⟩ := List.getElem?_eq_some_iff.1 hq
      rw [List.drop_eq_getElem_cons hj, h1]
    obtain ⟨g, h1, h2, h3, h4⟩ := lx_step hlx (by rw [hd k _ hta])
    rcases h4 with ⟨h5, _⟩ | ⟨c, r, h5, h6, h7, h8⟩
    · have := congrArg List.length h5
      rw [List.length_drop] at this
      simp at this
      omega
    · obtain ⟨g', k1, k2, k3, k4⟩ := lx_step h8 (by rw [hd (k + 1) _ htb])
      rcases k4 with ⟨k5, _⟩ | ⟨c', r', k5, k6, _⟩
      · have := congrArg List.length k5
        rw [List.length_drop] at this
        simp at this
        omega
      · have hgt := good_text k6
        have hu : ∃ z, u.text = c' :: z := by
          rw [hgt.2.1]
          cases hl : u.text.length with
          | zero => omega
          | succ m => exact ⟨_, List.take_succ_cons⟩
        obtain ⟨z, hz⟩ := hu
        refine ⟨t, a, u, b, hta, htb, ⟨c', z, hz, fun he => ?_⟩⟩
        obtain rfl : g' = 0 := by omega
        rw [List.drop_zero] at k5
        exact touch h6 k5
  · omega

set_option maxHeartbeats 4000000 in
set_option maxRecDepth 100000 in
theorem lexLong_walk (s : ByteArray) (hs : s.size ≤ maxLen) (w : World) : Calls Try.prog 6 #[.string s] w fun e w' => e = .returned (.bool true) ∧ Below w.heap.size w w' := by
  obtain ⟨x, hx⟩ : ∃ x, x = s.extract 0 (min s.size 100100) := ⟨_, rfl⟩
  have hxs : x.size ≤ 100100 := by rw [hx, ByteArray.size_extract]; omega
  have hcut : ∀ W, Calls Try.prog 17 #[.string s] W fun e w' => e = .returned (.string x) ∧ W = w' := by rw [hx]; exact fun W => Cut_any s W hs
  have HCut := Lib.hid hcut
  clear hcut hx
  rcases told2 x hxs with ⟨ts, hx1, hlx, hlen, hq, hA⟩ | ⟨c, a, hd, hA⟩
  · have hne := lx_ne hlx rfl
    have hn1 : 1 ≤ ts.length := by cases ts with | nil => exact absurd rfl hne | cons q r => simp
    have HI0 : Hid (CInv x ts 0 0) := Lib.hid (.inl ⟨by omega, Nat.zero_le _, hlx⟩)
    obtain ⟨n, hn⟩ : ∃ n, n = ts.length := ⟨_, rfl⟩
    have HA := Lib.hid (hA n hn.symm)
    have HN := Lib.hid hn
    have HQ := Lib.hid hq
    have hn2 : n ≤ 2001 := by omega
    have hn3 : 1 ≤ n := by omega
    clear hlx hq hA hne hn hlen hn1
    go_enter Try.func6, Try.ntmps6
    go_wp2_with (first
      | (go_at_call 16; refine (lexed_any _).mono ?_; rintro e w0 ⟨rfl, hb⟩; have HB0 := Lib.hid hb; clear hb)
      | (go_at_call 17; refine (HCut.out _).mono ?_; rintro e w' ⟨rfl, rfl⟩)
      | (go_at_call 18; refine (HA.out _).mono ?_; rintro e w1 ⟨A, cap, rfl, hrt, hb⟩; have HB1 := Lib.hid hb; have HT1 := Lib.hid hrt; have hz1 := hb.size; obtain ⟨g, rfl, hg, hc⟩ := hrt.at_ (by omega); clear hb hrt hc))
    have HT := Lib.hid (HT1.out.below ((Below.refl _ _).alloc (Nat.le_refl _) (.cells #[.int .i64 0, .int .i64 0] 27)))
    have HB := Lib.hid ((below_then HB0.out HB1.out).alloc (below_then HB0.out HB1.out).size (.cells #[.int .i64 0, .int .i64 0] 27))
    generalize w1.alloc _ = W at HT HB ⊢
    go_loopw [5] (fun i wr => ∃ k p : Nat, i = .int .i64 k ∧ Hid (k ≤ n ∧ CInv x ts k p ∧ Below W.heap.size W wr)) (fun i _ => n - (intOf i).toNat)
    case atStart => exact ⟨0, 0, rfl, Lib.hid ⟨Nat.zero_le _, HI0.out, Below.refl _ _⟩⟩
    case round =>
      obtain ⟨k, p, rfl, HI⟩ := hrel
      have hkn := HI.out.1
      by_cases hlt : k + 2 < n
      · obtain ⟨t, a, u, b, hta, htb, hpair⟩ := long_step HI.out.2.1 (by rw [← HN.out]; exact hlt)
        obtain ⟨t', a', b', hta', hseen⟩ := cover_step HI.out.2.1 (by rw [← HN.out]; omega)
        have HNX := Lib.hid hseen.next
        have hrt := HT.out.below HI.out.2.2
        obtain ⟨g', hg', hgl, hc⟩ := hrt.at_ (by omega)
        injection hg' with hg'
        injection hg' with hg'
        subst hg'
        obtain ⟨p0, p1, p2, p3⟩ := hc k t a hta
        obtain ⟨r0, r1, r2, r3⟩ := hc (k + 1) u b htb
        have ha := HQ.out _ (List.mem_of_getElem? hta)
        have hb := HQ.out _ (List.mem_of_getElem? htb)
        simp only at ha hb
        have HP := Lib.hid hpair
        clear hc hrt hta htb hpair hseen hta'
        obtain ⟨d, q, hdq, hadj⟩ := HP.out.some_
        obtain ⟨tx, htx⟩ : ∃ tx, tx = bs t.text := ⟨_, rfl⟩
        obtain ⟨ux, hux⟩ : ∃ ux, ux = bs u.text := ⟨_, rfl⟩
        have htl : tx.size = t.text.length := by rw [htx, size_bl, bl_bs]
        have hul : ux.size = u.text.length := by rw [hux, size_bl, bl_bs]
        have hul1 : 1 ≤ ux.size := by rw [hul, hdq]; simp
        have hd0 : ux[0]'(by omega) = d := by
          have hbl : bl ux = d :: q := by rw [hux, bl_bs, hdq]
          have h1 := bl_at ux 0 (by omega)
          rw [List.drop_zero, hbl] at h1
          injection h1 with h1
          exact h1.symm
        have HBoth : Hid ((tx ++ ux.extract 0 1).toList = t.text ++ [d]) := Lib.hid (by
          rw [bl_toList, bl_append, bl_front, htx, hux, bl_bs, bl_bs, hdq]
          rfl)
        have HNX2 : Hid (CInv x ts (k + 1) (a' + t'.text.length)) := HNX
        rw [← htx] at p1
        rw [← hux] at r1
        have HTL := Lib.hid htl
        have HADJ := Lib.hid hadj
        have HD0 := Lib.hid hd0
        have hts : tx.size ≤ 100000 := by omega
        have hus : ux.size ≤ 100000 := by omega
        have h0u : 0 < ux.size := by omega
        have q1 : (((ux.size : Nat) : Int) == 0) = false := beq_eq_false_iff_ne.2 (by omega)
        have f1 : IntKind.i64.wrap ((k : Int) + 1) = (k : Int) + 1 := IntWalk.i64_in _ (by omega)
        have f2 : (0 : Int) ≤ (k : Int) + 1 := by omega
        have f3 : ((k : Int) + 1).toNat = k + 1 := by omega
        have f4 : (k : Int) + 1 < (n : Int) := by omega
        have f5 : k < n := by omega
        have f6 : k + 1 < n := by omega
        have f7 : 1 ≤ ux.size := by omega
        have hes : (ux.extract 0 1).size = 1 := by rw [ByteArray.size_extract]; omega
        have f8 : tx.size + (ux.extract 0 1).size ≤ 9223372036854775807 := by omega
        have hadd : ∀ W : World, (Op.stringOp .add tx (ux.extract 0 1)).run Try.prog W = .ok (.string (tx ++ ux.extract 0 1)) W := fun W => run_string_add_sum W tx (ux.extract 0 1) f8
        clear f8 hes
        clear htx hux htl hul hdq hadj hd0 HP HNX
        by_cases hbe : b = a + tx.size
        · obtain ⟨hk2, hk13, h2⟩ := HADJ.out (by rw [← HTL.out]; exact hbe)
          rw [← HD0.out] at hk2 hk13
          have qa : (((b : Nat) : Int) != ((a : Nat) : Int) + ((tx.size : Nat) : Int)) = false := by simp; omega
          have hP := HBoth.out
          simp only [isTwo, pairs, List.any_cons, List.any_nil, Bool.or_false, Bool.or_eq_false_iff] at h2
          rw [← hP] at h2
          obtain ⟨b1, b2, b3, b4, b5, b6⟩ := h2
          clear hbe hP
          by_cases k2 : t.kind = 2
          · have e2 : (((t.kind : Nat) : Int) == 2) = true := by simp; omega
            have e1 : (((t.kind : Nat) : Int) == 1) = false := by simp; omega
            have e3 : (((t.kind : Nat) : Int) == 3) = false := by simp; omega
            have hdi := hk2 k2
            clear hk2 hk13 k2
            go_wp2_with fail
            go_region
            all_goals
              go_wp2_with (first
                | (go_at_call 24; refine (ldigit_any _ _).mono ?_; rintro e w' ⟨rfl, rfl⟩)
                | (go_at_call 25; refine (lletter_any _ _).mono ?_; rintro e w' ⟨rfl, rfl⟩))
              go_quiet (fail)
              go_wp2_with fail
              go_roundw
              case rel => exact ⟨k + 1, _, by go_num, Lib.hid ⟨by omega, HNX2.out, drew_below ((HI.out.2.2.alloc HI.out.2.2.size _).alloc (by simp; have := HI.out.2.2.size; omega) _) _⟩⟩
              case measure => simp [intOf]; omega
          · have e2 : (((t.kind : Nat) : Int) == 2) = false := by simp; omega
            by_cases k1 : t.kind = 1
            · have e1 : (((t.kind : Nat) : Int) == 1) = true := by simp; omega
              have hld := hk13 (.inl k1)
              clear hk2 hk13 k1 k2
              go_wp2_with fail
              go_region
              all_goals
                go_wp2_with (first
                  | (go_at_call 24; refine (ldigit_any _ _).mono ?_; rintro e w' ⟨rfl, rfl⟩)
                  | (go_at_call 25; refine (lletter_any _ _).mono ?_; rintro e w' ⟨rfl, rfl⟩))
                go_quiet (fail)
                go_wp2_with fail
                go_roundw
                case rel => exact ⟨k + 1, _, by go_num, Lib.hid ⟨by omega, HNX2.out, drew_below ((HI.out.2.2.alloc HI.out.2.2.size _).alloc (by simp; have := HI.out.2.2.size; omega) _) _⟩⟩
                case measure => simp [intOf]; omega
            · have e1 : (((t.kind : Nat) : Int) == 1) = false := by simp; omega
              by_cases k3 : t.kind = 3
              · have e3 : (((t.kind : Nat) : Int) == 3) = true := by simp; omega
                have hld := hk13 (.inr k3)
                clear hk2 hk13 k1 k2 k3
                go_wp2_with fail
                go_region
                all_goals
                  go_wp2_with (first
                    | (go_at_call 24; refine (ldigit_any _ _).mono ?_; rintro e w' ⟨rfl, rfl⟩)
                    | (go_at_call 25; refine (lletter_any _ _).mono ?_; rintro e w' ⟨rfl, rfl⟩))
                  go_quiet (fail)
                  go_wp2_with fail
                  go_roundw
                  case rel => exact ⟨k + 1, _, by go_num, Lib.hid ⟨by omega, HNX2.out, drew_below ((HI.out.2.2.alloc HI.out.2.2.size _).alloc (by simp; have := HI.out.2.2.size; omega) _) _⟩⟩
                  case measure => simp [intOf]; omega
              · have e3 : (((t.kind : Nat) : Int) == 3) = false := by simp; omega
                clear hk2 hk13 k1 k2 k3
                go_wp2_with fail
                go_region
                all_goals
                  go_wp2_with (first
                    | (go_at_call 24; refine (ldigit_any _ _).mono ?_; rintro e w' ⟨rfl, rfl⟩)
                    | (go_at_call 25; refine (lletter_any _ _).mono ?_; rintro e w' ⟨rfl, rfl⟩))
                  go_quiet (fail)
                  go_wp2_with fail
                  go_roundw
                  case rel => exact ⟨k + 1, _, by go_num, Lib.hid ⟨by omega, HNX2.out, drew_below ((HI.out.2.2.alloc HI.out.2.2.size _).alloc (by simp; have := HI.out.2.2.size; omega) _) _⟩⟩
                  case measure => simp [intOf]; omega
        · have qa : (((b : Nat) : Int) != ((a : Nat) : Int) + ((tx.size : Nat) : Int)) = true := by simp; omega
          go_wp2_with fail
          go_region
          all_goals
            go_wp2_with fail
            go_roundw
            case rel => exact ⟨k + 1, _, by go_num, Lib.hid ⟨by omega, HNX2.out, drew_below ((HI.out.2.2.alloc HI.out.2.2.size _).alloc (by simp; have := HI.out.2.2.size; omega) _) _⟩⟩
            case measure => simp [intOf]; omega
      · go_wp2_with fail
        go_ret
        exact ⟨rfl, (HB.out).trans (HI.out.2.2.mono HB.out.size)⟩
  · have HA := Lib.hid hA
    clear hA hd
    go_enter Try.func6, Try.ntmps6
    go_wp2_with (first
      | (go_at_call 16; refine (lexed_any _).mono ?_; rintro e w0 ⟨rfl, hb⟩; have HB0 := Lib.hid hb; clear hb)
      | (go_at_call 17; refine (HCut.out _).mono ?_; rintro e w' ⟨rfl, rfl⟩)
      | (go_at_call 18; refine (HA.out _).mono ?_; rintro e w1 ⟨A, cap, rfl, hb⟩; have HB1 := Lib.hid hb; have hz1 := hb.size; clear hb))
    go_loop [5] (fun i => i = .int .i64 0) (fun _ => 0)
    case atStart => exact rfl
    case round =>
      subst hrel
      go_wp2_with fail
      go_ret
      exact ⟨rfl, (below_then HB0.out HB1.out).alloc (below_then HB0.out HB1.out).size _⟩
end Go.Proofs.Ytcncbdnnakfgcaa
