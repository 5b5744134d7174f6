/- The walk of LexRemark. -/
import Derived.Test.YtcncbdnnakfgcaaLexFrontW
namespace Go.Proofs.Ytcncbdnnakfgcaa
open Go.ChangeShapes Go.WideShapes Go.ChangeAt Go.RowKit
set_option linter.unusedVariables false

theorem lx_last {l : Bs} {at_ cnt : Nat} {R : Res} (h : Lx l at_ cnt R) : ∀ {ts : List (Tok × Nat)}, R = .ok ts → ∃ ts', ts = ts' ++ [(zT, at_ + l.length)] := by
  induction h with
  | nil at_ cnt => intro ts e; injection e with e; exact ⟨[], by rw [← e]; simp⟩
  | @sp c r at_ cnt R h t ih =>
    intro ts e
    obtain ⟨ts', h1⟩ := ih e
    exact ⟨ts', by rw [h1, List.length_cons, show at_ + 1 + r.length = at_ + (r.length + 1) by omega]⟩
  | @rem c r at_ cnt R h h35 t ih =>
    intro ts e
    obtain ⟨ts', h1⟩ := ih e
    have h2 : (r.takeWhile notNl).length + (r.dropWhile notNl).length = r.length := by rw [← List.length_append, List.takeWhile_append_dropWhile]
    exact ⟨ts', by rw [h1, List.length_cons, show at_ + 1 + (r.takeWhile notNl).length + (r.dropWhile notNl).length = at_ + (r.length + 1) by omega]⟩
  | bad h h35 e => intro ts e'; cases e'
  | full h h35 e hc => intro ts e'; cases e'
  | @tok c r at_ cnt R h h35 e hc t ih =>
    intro ts e'
    cases R with
    | bad c2 a2 => cases e'
    | ok ts1 =>
      injection e' with e'
      obtain ⟨ts', h1⟩ := ih rfl
      have hx := tok_text e
      have hl := congrArg List.length hx.2
      rw [List.length_take] at hl
      rw [List.length_drop] at h1
      refine ⟨((tokT (c :: r)).1, at_) :: ts', ?_⟩
      rw [← e', h1, show at_ + (tokT (c :: r)).1.text.length + ((c :: r).length - (tokT (c :: r)).1.text.length) = at_ + (c :: r).length by omega]
      rfl
theorem ext_last (d : Nat) (ts : List (Tok × Nat)) (q : Tok × Nat) : extT d (ts ++ [q]) = ts ++ [(q.1, q.2 + d)] := by
  induction ts with
  | nil => rfl
  | cons p r ih =>
    cases r with
    | nil => rfl
    | cons p' r' => rw [List.cons_append, List.cons_append, extT, ← List.cons_append, ih]; rfl
/-- the note, cut -/
theorem note_cut (y0 : ByteArray) : ∃ y : ByteArray, y = y0.extract 0 ((bl y0).takeWhile notNl).length ∧ bl y = (bl y0).takeWhile notNl ∧ (bl y).all notNl = true ∧ y.size = ((bl y0).takeWhile notNl).length := by
  refine ⟨_, rfl, cut_tw notNl y0, ?_, ?_⟩
  · rw [cut_tw]; exact List.all_takeWhile
  · rw [size_bl, cut_tw]
/-- what holds of the two notes, for the loop -/
structure Note (y0 y : ByteArray) : Prop where
  le : y.size ≤ y0.size
  before : ∀ k, k < y.size → ∃ h : k < y0.size, notNl y0[k] = true
  at_ : ∀ (h : y.size < y0.size), notNl y0[y.size] = false
  cut : y0.extract 0 y.size = y
  whole : y0.size ≤ y.size → y0 = y
  all : (bl y).all notNl = true
theorem note_of (y0 : ByteArray) : ∃ y, Note y0 y := by
  obtain ⟨y, hy, hb, ha, hz⟩ := note_cut y0
  refine ⟨y, ?_, ?_, ?_, ?_, ?_, ha⟩
  · rw [hz]; exact tw_len notNl y0
  · intro k hk
    exact tw_true (p := notNl) (s := y0) (at_ := 0) (Nat.zero_le _) (by rw [List.drop_zero]; omega)
  · intro h
    exact tw_false (p := notNl) (s := y0) (at_ := 0) (by rw [List.drop_zero]; omega) h
  · rw [hz]; exact hy.symm
  · intro h
    have hl := tw_len notNl y0
    rw [← bs_bl y, hb]
    have : (bl y0).takeWhile notNl = bl y0 := by
      have h1 := List.prefix_iff_eq_take.1 (List.takeWhile_prefix notNl (l := bl y0))
      rw [h1, List.take_of_length_le]
      rw [← size_bl]
      omega
    rw [this, bs_bl]

set_option maxHeartbeats 4000000 in
theorem remark_big (s z x y0 y : ByteArray) (w : World) (hz : z.size ≤ maxLen) (hy0 : y0 = z.extract 0 (min z.size 40)) (hN : Note y0 y) (hxs : x.size ≤ 100100) (hbig : 99950 < x.size)
    (HCut : Hid (∀ W, Calls Try.prog 17 #[.string s] W fun e w' => e = .returned (.string x) ∧ W = w')) :
    Calls Try.prog 9 #[.string s, .string z] w fun e w' => e = .returned (.bool true) ∧ Below w.heap.size w w' := by
  unfold maxLen at hz
  have hys := hN.le
  have hy40 : y0.size ≤ 40 := by rw [hy0, ByteArray.size_extract]; omega
  have HY0 := Lib.hid (show z.extract 0 (min (z.size : Int) 40).toNat = y0 by rw [hy0, show (min (z.size : Int) 40).toNat = min z.size 40 by omega])
  have HNote := Lib.hid hN
  clear hy0 hN
  go_enter Try.func9, Try.ntmps9
  go_wp2_with (first
    | (go_at_call 16; refine (lexed_any _).mono ?_; rintro e w0 ⟨rfl, hb⟩; have HB0 := Lib.hid hb; clear hb)
    | (go_at_call 17; refine (HCut.out _).mono ?_; rintro e w' ⟨rfl, rfl⟩))
  rw [HY0.out]
  go_loop [1, 5] (fun v i => ∃ k : Nat, i = .int .i64 k ∧ ((k ≤ y.size ∧ v = .string y0) ∨ (k = y.size + 1 ∧ v = .string y))) (fun _ i => y0.size + 1 - (intOf i).toNat)
  case atStart => exact ⟨0, rfl, .inl ⟨Nat.zero_le _, rfl⟩⟩
  case round =>
    obtain ⟨k, rfl, ⟨hk, rfl⟩ | ⟨rfl, rfl⟩⟩ := hrel
    · by_cases hkn : k < y.size
      · obtain ⟨hk0, hk10⟩ := HNote.out.before k hkn
        have q10 : (((y0[k].toNat : Nat) : Int) == 10) = false := by simp [notNl] at hk10; simp; omega
        clear hk10
        go_wp2_with fail
        go_round
        case rel => exact ⟨k + 1, by go_num, .inl ⟨by omega, rfl⟩⟩
        case measure => simp [intOf]; omega
      · obtain rfl : k = y.size := by omega
        by_cases hk0 : y.size < y0.size
        · have q10 : (((y0[y.size].toNat : Nat) : Int) == 10) = true := by have := HNote.out.at_ hk0; simp [notNl] at this; simp; omega
          go_wp2_with fail
          rw [HNote.out.cut]
          go_round
          case rel => exact ⟨y.size + 1, by go_num, .inr ⟨rfl, rfl⟩⟩
          case measure => simp [intOf]; omega
        · have hyy : y0 = y := HNote.out.whole (by omega)
          subst hyy
          go_wp2_with fail
          go_ret
          exact ⟨rfl, HB0.out⟩
    ·
      go_wp2_with fail
      go_ret
      exact ⟨rfl, HB0.out⟩

set_option maxHeartbeats 4000000 in
theorem remark_bad (s z x y0 y : ByteArray) (w : World) (hz : z.size ≤ maxLen) (hy0 : y0 = z.extract 0 (min z.size 40)) (hN : Note y0 y) (hxs : x.size ≤ 100100) (hsm : x.size ≤ 99950) (c a : Nat) (hlx : Lx (bl x) 0 0 (.bad c a))
    (HCut : Hid (∀ W, Calls Try.prog 17 #[.string s] W fun e w' => e = .returned (.string x) ∧ W = w')) :
    Calls Try.prog 9 #[.string s, .string z] w fun e w' => e = .returned (.bool true) ∧ Below w.heap.size w w' := by
  unfold maxLen at hz
  have hys := hN.le
  have hy40 : y0.size ≤ 40 := by rw [hy0, ByteArray.size_extract]; omega
  have HY0 := Lib.hid (show z.extract 0 (min (z.size : Int) 40).toNat = y0 by rw [hy0, show (min (z.size : Int) 40).toNat = min z.size 40 by omega])
  have HNote := Lib.hid hN
  have hsz : (x ++ ⟨#[10, 35]⟩ ++ y : ByteArray).size ≤ 100000 := by
    rw [size_bl, bl_append, bl_append, List.length_append, List.length_append, ← size_bl x, ← size_bl y]
    show x.size + 2 + y.size ≤ 100000
    omega
  have hble : bl (x ++ ⟨#[10, 35]⟩ ++ y : ByteArray) = bl x ++ 10 :: 35 :: bl y := by rw [bl_append, bl_append, List.append_assoc]; rfl
  have hext := lx_ext hN.all hlx
  have HA := Lib.hid (fun W => All_bad x W c a (by omega) hlx)
  have HA2 := Lib.hid (fun W => All_bad (x ++ ⟨#[10, 35]⟩ ++ y) W c a hsz (by rw [hble]; exact hext))
  have q0 : (((c : Nat) : Int) != 0) = true := by have := (lx_bad hlx rfl).1; simp; omega
  clear hsz hble hext hlx
  clear hy0 hN
  go_enter Try.func9, Try.ntmps9
  go_wp2_with (first
    | (go_at_call 16; refine (lexed_any _).mono ?_; rintro e w0 ⟨rfl, hb⟩; have HB0 := Lib.hid hb; clear hb)
    | (go_at_call 17; refine (HCut.out _).mono ?_; rintro e w' ⟨rfl, rfl⟩))
  rw [HY0.out]
  go_loop [1, 5] (fun v i => ∃ k : Nat, i = .int .i64 k ∧ ((k ≤ y.size ∧ v = .string y0) ∨ (k = y.size + 1 ∧ v = .string y))) (fun _ i => y0.size + 1 - (intOf i).toNat)
  case atStart => exact ⟨0, rfl, .inl ⟨Nat.zero_le _, rfl⟩⟩
  case round =>
    obtain ⟨k, rfl, ⟨hk, rfl⟩ | ⟨rfl, rfl⟩⟩ := hrel
    · by_cases hkn : k < y.size
      · obtain ⟨hk0, hk10⟩ := HNote.out.before k hkn
        have q10 : (((y0[k].toNat : Nat) : Int) == 10) = false := by simp [notNl] at hk10; simp; omega
        clear hk10
        go_wp2_with fail
        go_round
        case rel => exact ⟨k + 1, by go_num, .inl ⟨by omega, rfl⟩⟩
        case measure => simp [intOf]; omega
      · obtain rfl : k = y.size := by omega
        by_cases hk0 : y.size < y0.size
        · have q10 : (((y0[y.size].toNat : Nat) : Int) == 10) = true := by have := HNote.out.at_ hk0; simp [notNl] at this; simp; omega
          go_wp2_with fail
          rw [HNote.out.cut]
          go_round
          case rel => exact ⟨y.size + 1, by go_num, .inr ⟨rfl, rfl⟩⟩
          case measure => simp [intOf]; omega
        · have hyy : y0 = y := HNote.out.whole (by omega)
          subst hyy
          go_wp2_with (first
            | (go_at_call 18; ((with_reducible refine (HA.out _).mono ?_); rintro e w1 ⟨A, cap, rfl, hb⟩; have HB1 := Lib.hid hb; have hz1 := hb.size; clear hb))
            | (go_at_call 18; ((with_reducible refine (HA2.out _).mono ?_); rintro e w2 ⟨A2, cap2, rfl, hb⟩; have HB2 := Lib.hid hb; have hz2 := hb.size; rw [size_alloc1] at hz2; have l21 : w1.heap.size ≤ w2.heap.size := (by omega); have l21' : w1.heap.size < w2.heap.size := (by omega); obtain ⟨hc2, hf2⟩ := bcell hb; clear hb)))
          go_ret
          exact ⟨rfl, (below_then (below_then HB0.out HB1.out) (below_new HB2.out)).alloc (below_then (below_then HB0.out HB1.out) (below_new HB2.out)).size _⟩
    ·
      go_wp2_with (first
        | (go_at_call 18; ((with_reducible refine (HA.out _).mono ?_); rintro e w1 ⟨A, cap, rfl, hb⟩; have HB1 := Lib.hid hb; have hz1 := hb.size; clear hb))
        | (go_at_call 18; ((with_reducible refine (HA2.out _).mono ?_); rintro e w2 ⟨A2, cap2, rfl, hb⟩; have HB2 := Lib.hid hb; have hz2 := hb.size; rw [size_alloc1] at hz2; have l21 : w1.heap.size ≤ w2.heap.size := (by omega); have l21' : w1.heap.size < w2.heap.size := (by omega); obtain ⟨hc2, hf2⟩ := bcell hb; clear hb)))
      go_ret
      exact ⟨rfl, (below_then (below_then HB0.out HB1.out) (below_new HB2.out)).alloc (below_then (below_then HB0.out HB1.out) (below_new HB2.out)).size _⟩

set_option maxHeartbeats 4000000 in
theorem remark_ok (s z x y0 y : ByteArray) (w : World) (hz : z.size ≤ maxLen) (hy0 : y0 = z.extract 0 (min z.size 40)) (hN : Note y0 y) (hxs : x.size ≤ 100100) (hsm : x.size ≤ 99950) (ts : List (Tok × Nat)) (hlx : Lx (bl x) 0 0 (.ok ts)) (hlen : ts.length ≤ 2001) (hq : ∀ q ∈ ts, q.2 + q.1.text.length ≤ x.size)
    (HCut : Hid (∀ W, Calls Try.prog 17 #[.string s] W fun e w' => e = .returned (.string x) ∧ W = w')) :
    Calls Try.prog 9 #[.string s, .string z] w fun e w' => e = .returned (.bool true) ∧ Below w.heap.size w w' := by
  unfold maxLen at hz
  have hys := hN.le
  have hy40 : y0.size ≤ 40 := by rw [hy0, ByteArray.size_extract]; omega
  have HY0 := Lib.hid (show z.extract 0 (min (z.size : Int) 40).toNat = y0 by rw [hy0, show (min (z.size : Int) 40).toNat = min z.size 40 by omega])
  have HNote := Lib.hid hN
  have hsz : (x ++ ⟨#[10, 35]⟩ ++ y : ByteArray).size ≤ 100000 := by
    rw [size_bl, bl_append, bl_append, List.length_append, List.length_append, ← size_bl x, ← size_bl y]
    show x.size + 2 + y.size ≤ 100000
    omega
  have hble : bl (x ++ ⟨#[10, 35]⟩ ++ y : ByteArray) = bl x ++ 10 :: 35 :: bl y := by rw [bl_append, bl_append, List.append_assoc]; rfl
  have hext := lx_ext hN.all hlx
  obtain ⟨ts', hts⟩ := lx_last hlx rfl
  obtain ⟨n1, hn1⟩ : ∃ n1, n1 = ts'.length := ⟨_, rfl⟩
  obtain ⟨a2, ha2⟩ : ∃ a2, a2 = 0 + (bl x).length + (2 + (bl y).length) := ⟨_, rfl⟩
  have hext2 : Lx (bl x ++ 10 :: 35 :: bl y) 0 0 (.ok (ts' ++ [(zT, a2)])) := by
    have : Res.ext (2 + (bl y).length) (.ok ts) = .ok (ts' ++ [(zT, a2)]) := by rw [Res.ext, hts, ext_last, ha2]
    rw [← this]
    exact hext
  have HA := Lib.hid (fun W => All_okc x W ts (n1 + 1) (by omega) hlx (by rw [hts, List.length_append, hn1]; rfl))
  have HA2 := Lib.hid (fun W => All_okc (x ++ ⟨#[10, 35]⟩ ++ y) W (ts' ++ [(zT, a2)]) (n1 + 1) hsz (by rw [hble]; exact hext2) (by rw [List.length_append, hn1]; rfl))
  have HG2 : Hid ((ts' ++ [(zT, a2)])[n1]? = some (zT, a2)) := Lib.hid (by rw [hn1]; simp)
  have HTK1 : Hid (ts.take n1 = ts') := Lib.hid (by rw [hts, hn1]; simp)
  have HTK2 : Hid ((ts' ++ [(zT, a2)]).take n1 = ts') := Lib.hid (by rw [hn1]; simp)
  have HS : Hid (Shifted 0 ts' ts') := Lib.hid (shifted_self _ (fun q hq' => by have := hq q (by rw [hts]; simp [hq']); omega))
  have hk2 : n1 ≤ 2001 := by rw [hts, List.length_append] at hlen; omega
  have qa : (((a2 : Nat) : Int) != ((x.size : Nat) : Int) + 2 + ((y.size : Nat) : Int)) = false := by rw [ha2, ← size_bl, ← size_bl]; simp; omega
  have q1 : (((n1 : Nat) : Int) + 1 == 0) = false := by simp; omega
  have hws : IntKind.i64.wrap ((n1 : Int) + 1 - 1) = n1 := by rw [IntWalk.i64_in _ (by omega)]; omega
  have hws2 : IntKind.i64.wrap ((n1 : Int)) = n1 := IntWalk.i64_in _ (by omega)
  have HWS := Lib.hid hws
  have HWS2 := Lib.hid hws2
  clear hsz hble hext hlx hext2 hts ha2 hq hlen hn1 hws hws2
  clear hy0 hN
  go_enter Try.func9, Try.ntmps9
  go_wp2_with (first
    | (go_at_call 16; refine (lexed_any _).mono ?_; rintro e w0 ⟨rfl, hb⟩; have HB0 := Lib.hid hb; clear hb)
    | (go_at_call 17; refine (HCut.out _).mono ?_; rintro e w' ⟨rfl, rfl⟩))
  rw [HY0.out]
  go_loop [1, 5] (fun v i => ∃ k : Nat, i = .int .i64 k ∧ ((k ≤ y.size ∧ v = .string y0) ∨ (k = y.size + 1 ∧ v = .string y))) (fun _ i => y0.size + 1 - (intOf i).toNat)
  case atStart => exact ⟨0, rfl, .inl ⟨Nat.zero_le _, rfl⟩⟩
  case round =>
    obtain ⟨k, rfl, ⟨hk, rfl⟩ | ⟨rfl, rfl⟩⟩ := hrel
    · by_cases hkn : k < y.size
      · obtain ⟨hk0, hk10⟩ := HNote.out.before k hkn
        have q10 : (((y0[k].toNat : Nat) : Int) == 10) = false := by simp [notNl] at hk10; simp; omega
        clear hk10
        go_wp2_with fail
        go_round
        case rel => exact ⟨k + 1, by go_num, .inl ⟨by omega, rfl⟩⟩
        case measure => simp [intOf]; omega
      · obtain rfl : k = y.size := by omega
        by_cases hk0 : y.size < y0.size
        · have q10 : (((y0[y.size].toNat : Nat) : Int) == 10) = true := by have := HNote.out.at_ hk0; simp [notNl] at this; simp; omega
          go_wp2_with fail
          rw [HNote.out.cut]
          go_round
          case rel => exact ⟨y.size + 1, by go_num, .inr ⟨rfl, rfl⟩⟩
          case measure => simp [intOf]; omega
        · have hyy : y0 = y := HNote.out.whole (by omega)
          subst hyy
          go_wp2_with (first
            | (go_at_call 18; ((with_reducible refine (HA.out _).mono ?_); rintro e w1 ⟨A, cap, rfl, hrt, ⟨hcp, hcm⟩, hb⟩; have HB1 := Lib.hid hb; have HT1 := Lib.hid hrt; have hz1 := hb.size; obtain ⟨g, rfl, hg, hc⟩ := hrt.at_ (by omega); clear hb hrt hc))
            | (go_at_call 18; ((with_reducible refine (HA2.out _).mono ?_); rintro e w2 ⟨A2, cap2, rfl, hrt, ⟨hcp2, hcm2⟩, hb⟩; have HT2 := Lib.hid hrt; have HB2 := Lib.hid hb; have hz2 := hb.size; rw [size_alloc1] at hz2; obtain ⟨g2, rfl, hg2, hc2⟩ := hrt.at_ (by omega); have c2 := hc2 n1 _ _ HG2.out; obtain ⟨_, _, _, s3⟩ := c2; have l21 : w1.heap.size < w2.heap.size := (by omega); have l21' : w1.heap.size ≤ w2.heap.size := (by omega); have lg : g < w2.heap.size := (by omega); obtain ⟨hd2, hf2⟩ := bcell hb; clear hb hrt hc2)))
          have hmc : n1 ≤ cap := by omega
          have hmc2 : n1 ≤ cap2 := by omega
          have HW1 := Lib.hid ((HT1.out.below ((below_new HB2.out).alloc (below_new HB2.out).size (.cells #[.int .i64 0, .int .i64 0] 27))).take n1 (by omega))
          have HW2 := Lib.hid ((HT2.out.below ((Below.refl _ _).alloc (Nat.le_refl _) (.cells #[.int .i64 0, .int .i64 0] 27))).take n1 (by omega))
          have hws := HWS.out
          have hws2 := HWS2.out
          go_quiet ((go_at_call 20; exact Calls.quiet_of (same_true _ _ n1 cap cap2 (ts.take n1) ((ts' ++ [(zT, a2)]).take n1) 0 _ (by omega) (HW1.out.drewN _) (HW2.out.drewN _) (by rw [HTK1.out, HTK2.out]; exact HS.out))))
          go_wp2
          go_ret
          exact ⟨rfl, drew_below ((below_then (below_then HB0.out HB1.out) (below_new HB2.out)).alloc (below_then (below_then HB0.out HB1.out) (below_new HB2.out)).size _) _⟩
    ·
      go_wp2_with (first
        | (go_at_call 18; ((with_reducible refine (HA.out _).mono ?_); rintro e w1 ⟨A, cap, rfl, hrt, ⟨hcp, hcm⟩, hb⟩; have HB1 := Lib.hid hb; have HT1 := Lib.hid hrt; have hz1 := hb.size; obtain ⟨g, rfl, hg, hc⟩ := hrt.at_ (by omega); clear hb hrt hc))
        | (go_at_call 18; ((with_reducible refine (HA2.out _).mono ?_); rintro e w2 ⟨A2, cap2, rfl, hrt, ⟨hcp2, hcm2⟩, hb⟩; have HT2 := Lib.hid hrt; have HB2 := Lib.hid hb; have hz2 := hb.size; rw [size_alloc1] at hz2; obtain ⟨g2, rfl, hg2, hc2⟩ := hrt.at_ (by omega); have c2 := hc2 n1 _ _ HG2.out; obtain ⟨_, _, _, s3⟩ := c2; have l21 : w1.heap.size < w2.heap.size := (by omega); have l21' : w1.heap.size ≤ w2.heap.size := (by omega); have lg : g < w2.heap.size := (by omega); obtain ⟨hd2, hf2⟩ := bcell hb; clear hb hrt hc2)))
      have hmc : n1 ≤ cap := by omega
      have hmc2 : n1 ≤ cap2 := by omega
      have HW1 := Lib.hid ((HT1.out.below ((below_new HB2.out).alloc (below_new HB2.out).size (.cells #[.int .i64 0, .int .i64 0] 27))).take n1 (by omega))
      have HW2 := Lib.hid ((HT2.out.below ((Below.refl _ _).alloc (Nat.le_refl _) (.cells #[.int .i64 0, .int .i64 0] 27))).take n1 (by omega))
      have hws := HWS.out
      have hws2 := HWS2.out
      go_quiet ((go_at_call 20; exact Calls.quiet_of (same_true _ _ n1 cap cap2 (ts.take n1) ((ts' ++ [(zT, a2)]).take n1) 0 _ (by omega) (HW1.out.drewN _) (HW2.out.drewN _) (by rw [HTK1.out, HTK2.out]; exact HS.out))))
      go_wp2
      go_ret
      exact ⟨rfl, drew_below ((below_then (below_then HB0.out HB1.out) (below_new HB2.out)).alloc (below_then (below_then HB0.out HB1.out) (below_new HB2.out)).size _) _⟩

theorem lexRemark_walk (s z : ByteArray) (hs : s.size ≤ maxLen) (hz : z.size ≤ maxLen) (w : World) : Calls Try.prog 9 #[.string s, .string z] w fun e w' => e = .returned (.bool true) ∧ Below w.heap.size w w' := by
  obtain ⟨x, hx⟩ : ∃ x, x = s.extract 0 (min s.size 100100) := ⟨_, rfl⟩
  have hxs : x.size ≤ 100100 := by rw [hx, ByteArray.size_extract]; omega
  have hcut : ∀ W, Calls Try.prog 17 #[.string s] W fun e w' => e = .returned (.string x) ∧ W = w' := by rw [hx]; exact fun W => Cut_any s W hs
  have HCut := Lib.hid hcut
  clear hcut hx
  obtain ⟨y, hN⟩ := note_of (z.extract 0 (min z.size 40))
  by_cases hbig : 99950 < x.size
  · exact remark_big s z x _ y w hz rfl hN hxs hbig HCut
  · rcases told2 x hxs with ⟨ts, hx1, hlx, hlen, hq, _⟩ | ⟨c, a, hd, _⟩
    · exact remark_ok s z x _ y w hz rfl hN hxs (by omega) ts hlx hlen hq HCut
    · rcases hd with ⟨_, hlx⟩ | ⟨h, _⟩
      · exact remark_bad s z x _ y w hz rfl hN hxs (by omega) c a hlx HCut
      · omega
end Go.Proofs.Ytcncbdnnakfgcaa
