/- Contracts of the reference's token and Lex (whittlerref1): Lex returns R's tokens (a new slice) and R's fault. -/
import Derived.Test.YtcncbdnnakfgcaaLexR2
namespace Go.Proofs.Ytcncbdnnakfgcaa
open Go.ChangeShapes Go.WideShapes Go.ChangeAt Go.RowKit
set_option linter.unusedVariables false

def tokAt (r : Tok × Nat) (a : Nat) : Nat := if r.2 = 0 then a else 0
/-- what the reference's token answers -/
def TokPost (r : Tok × Nat) (a : Nat) (w : World) (e : Ending) (w' : World) : Prop :=
  e = .returned (.tuple #[.agg #[.int .i64 r.1.kind, .string (bs r.1.text), .int .i64 r.1.n, .int .i64 (tokAt r a)], .int .i64 r.2]) ∧ Below w.heap.size w w'
theorem head_eq {s : ByteArray} (hp : 0 < s.size) : ∃ r, bl s = s[0] :: r := ⟨_, by have hc := bl_at s 0 hp; rwa [List.drop_zero] at hc⟩
theorem tok_lo {s : ByteArray} (hp : 0 < s.size) (h : isLo s[0] = true) : tokT (bl s) = wordT ((bl s).takeWhile isLD) := by
  obtain ⟨r, hr⟩ := head_eq hp
  rw [hr]
  simp only [tokT, h, if_true]
theorem tok_di {s : ByteArray} (hp : 0 < s.size) (h : isLo s[0] = false) (hd : isDi s[0] = true) : tokT (bl s) = numT ((bl s).takeWhile isDi) := by
  obtain ⟨r, hr⟩ := head_eq hp
  rw [hr]
  simp [tokT, h, hd]
theorem tok_si {s : ByteArray} (hp : 0 < s.size) (h : isLo s[0] = false) (hd : isDi s[0] = false) : tokT (bl s) = signT (bl s) := by
  obtain ⟨r, hr⟩ := head_eq hp
  rw [hr]
  simp [tokT, h, hd]
theorem cut_tw (p : UInt8 → Bool) (s : ByteArray) : bl (s.extract 0 ((bl s).takeWhile p).length) = (bl s).takeWhile p := by
  have := tw_cut (p := p) (s := s) (at_ := 0) (e := ((bl s).takeWhile p).length) (by simp)
  simpa using this
theorem tw_len (p : UInt8 → Bool) (s : ByteArray) : ((bl s).takeWhile p).length ≤ s.size := by
  rw [size_bl]
  exact (List.takeWhile_prefix p).length_le

set_option maxHeartbeats 4000000 in
theorem rtok_lo (s : ByteArray) (a : Nat) (w : World) (hs : s.size ≤ 100000) (hp : 0 < s.size) (hl : isLo s[0] = true) :
    Calls Try.prog 36 #[.string s, .int .i64 a] w (TokPost (tokT (bl s)) a w) := by
  obtain ⟨x, hx⟩ : ∃ x, x = s.extract 0 ((bl s).takeWhile isLD).length := ⟨_, rfl⟩
  have hbx : bl x = (bl s).takeWhile isLD := by rw [hx]; exact cut_tw isLD s
  have hsx : x.size = ((bl s).takeWhile isLD).length := by rw [size_bl, hbx]
  have hlen := tw_len isLD s
  have hxs : x.size ≤ 100000 := by omega
  rw [tok_lo hp hl, ← hbx]
  have HX := Lib.hid hx
  clear hx hbx hsx
  cases hw : isWd (bl x) with
  | true =>
    have hr : wordT (bl x) = (⟨3, bl x, 0⟩, 0) := by unfold wordT; rw [if_pos hw]
    rw [hr]
    clear hr
    go_enter Try.func36, Try.ntmps36
    go_wp2_with (first
      | (go_at_call 41; refine (small_any _ _).mono ?_; rintro e w' ⟨rfl, rfl⟩)
      | (go_at_call 42; refine (from_ld _ _ (by unfold maxLen; omega)).mono ?_; rintro e w' ⟨rfl, rfl⟩)
      | (go_at_call 43; rw [← HX.out]; refine (rWord_any _ _).mono ?_; rintro e w1 ⟨rfl, hb⟩; have HB := Lib.hid hb; obtain ⟨hc, hf⟩ := bcell hb; clear hb))
    refine bodyPost_ret (v := .tuple #[.agg #[.int .i64 3, .string x, .int .i64 0, .int .i64 a], .int .i64 0]) (by simp [results, Try.results36, go_sem, hc]) rfl ⟨?_, ?_⟩
    · simp only [bs_bl]; rfl
    · repeat refine Below.setCell ?_ (by simp) _
      exact below_new HB.out
  | false =>
    by_cases h8 : 8 < x.size
    · have hr : wordT (bl x) = (zT, 4) := by unfold wordT; rw [if_neg (by rw [hw]; simp), if_pos (by rw [← size_bl]; exact h8)]
      rw [hr]
      clear hr
      go_enter Try.func36, Try.ntmps36
      go_wp2_with (first
      | (go_at_call 41; refine (small_any _ _).mono ?_; rintro e w' ⟨rfl, rfl⟩)
      | (go_at_call 42; refine (from_ld _ _ (by unfold maxLen; omega)).mono ?_; rintro e w' ⟨rfl, rfl⟩)
      | (go_at_call 43; rw [← HX.out]; refine (rWord_any _ _).mono ?_; rintro e w1 ⟨rfl, hb⟩; have HB := Lib.hid hb; obtain ⟨hc, hf⟩ := bcell hb; clear hb))
      refine bodyPost_ret (v := .tuple #[.agg #[.int .i64 0, .string ⟨#[]⟩, .int .i64 0, .int .i64 0], .int .i64 4]) (by simp [results, Try.results36, go_sem, hc]) rfl ⟨?_, ?_⟩
      · rfl
      · repeat refine Below.setCell ?_ (by simp) _
        exact below_new HB.out
    · have hr : wordT (bl x) = (⟨1, bl x, 0⟩, 0) := by unfold wordT; rw [if_neg (by rw [hw]; simp), if_neg (by rw [← size_bl]; exact h8)]
      rw [hr]
      clear hr
      go_enter Try.func36, Try.ntmps36
      go_wp2_with (first
      | (go_at_call 41; refine (small_any _ _).mono ?_; rintro e w' ⟨rfl, rfl⟩)
      | (go_at_call 42; refine (from_ld _ _ (by unfold maxLen; omega)).mono ?_; rintro e w' ⟨rfl, rfl⟩)
      | (go_at_call 43; rw [← HX.out]; refine (rWord_any _ _).mono ?_; rintro e w1 ⟨rfl, hb⟩; have HB := Lib.hid hb; obtain ⟨hc, hf⟩ := bcell hb; clear hb))
      refine bodyPost_ret (v := .tuple #[.agg #[.int .i64 1, .string x, .int .i64 0, .int .i64 a], .int .i64 0]) (by simp [results, Try.results36, go_sem, hc]) rfl ⟨?_, ?_⟩
      · simp only [bs_bl]; rfl
      · repeat refine Below.setCell ?_ (by simp) _
        exact below_new HB.out

set_option maxHeartbeats 4000000 in
theorem rtok_di (s : ByteArray) (a : Nat) (w : World) (hs : s.size ≤ 100000) (hp : 0 < s.size) (hl : isLo s[0] = false) (hd : isDi s[0] = true) :
    Calls Try.prog 36 #[.string s, .int .i64 a] w (TokPost (tokT (bl s)) a w) := by
  obtain ⟨x, hx⟩ : ∃ x, x = s.extract 0 ((bl s).takeWhile isDi).length := ⟨_, rfl⟩
  have hbx : bl x = (bl s).takeWhile isDi := by rw [hx]; exact cut_tw isDi s
  have hsx : x.size = ((bl s).takeWhile isDi).length := by rw [size_bl, hbx]
  have hlen := tw_len isDi s
  have hxs : x.size ≤ 100000 := by omega
  have hxp : 0 < x.size := by
    obtain ⟨r, hr⟩ := head_eq hp
    rw [hsx, hr, takeWhile_ne hd]
    simp
  have hxd : (bl x).all isDi = true := by rw [hbx]; exact List.all_takeWhile
  rw [tok_di hp hl hd, ← hbx]
  have hX := hx.symm
  have HD := Lib.hid hxd
  clear hx hbx hsx hxd
  by_cases hz : 1 < (bl x).length ∧ hd0 (bl x) = true
  · have hr : numT (bl x) = (zT, 2) := by unfold numT; rw [if_pos hz]
    rw [hr]
    have h1 : 1 < x.size := by rw [size_bl]; exact hz.1
    have h0 : (((x[0].toNat : Nat) : Int) == 48) = true := by have := hz.2; rw [hd0_at x hxp] at this; simp at this ⊢; omega
    clear hr hz
    go_enter Try.func36, Try.ntmps36
    go_wp2_with (first
      | (go_at_call 41; refine (small_any _ _).mono ?_; rintro e w' ⟨rfl, rfl⟩)
      | (go_at_call 44; refine (rdigit_any _ _).mono ?_; rintro e w' ⟨rfl, rfl⟩)
      | (go_at_call 42; refine (from_di _ _ (by unfold maxLen; omega)).mono ?_; rintro e w' ⟨rfl, rfl⟩))
    refine bodyPost_ret (v := .tuple #[.agg #[.int .i64 0, .string ⟨#[]⟩, .int .i64 0, .int .i64 0], .int .i64 2]) (by simp [results, Try.results36, go_sem]) rfl ⟨?_, ?_⟩
    · rfl
    · repeat refine Below.setCell ?_ (by simp) _
      exact (Below.refl _ _).alloc (Nat.le_refl _) _
  · by_cases hv : 9223372036854775807 < val (bl x)
    · have hr : numT (bl x) = (zT, 4) := by unfold numT; rw [if_neg hz, if_pos hv]
      rw [hr]
      clear hr
      rcases num_way hz hxp with h1 | ⟨h1, h0⟩
      all_goals
        clear hz
        go_enter Try.func36, Try.ntmps36
        go_wp2_with (first
          | (go_at_call 41; refine (small_any _ _).mono ?_; rintro e w' ⟨rfl, rfl⟩)
          | (go_at_call 44; refine (rdigit_any _ _).mono ?_; rintro e w' ⟨rfl, rfl⟩)
          | (go_at_call 42; refine (from_di _ _ (by unfold maxLen; omega)).mono ?_; rintro e w' ⟨rfl, rfl⟩)
          | (go_at_call 45; refine (Worth_no _ _ (by unfold maxLen; omega) HD.out hv).mono ?_; rintro e w' ⟨y, rfl, rfl⟩))
        refine bodyPost_ret (v := .tuple #[.agg #[.int .i64 0, .string ⟨#[]⟩, .int .i64 0, .int .i64 0], .int .i64 4]) (by simp [results, Try.results36, go_sem]) rfl ⟨?_, ?_⟩
        · rfl
        · repeat refine Below.setCell ?_ (by simp) _
          exact (Below.refl _ _).alloc (Nat.le_refl _) _
    · have hr : numT (bl x) = (⟨2, bl x, val (bl x)⟩, 0) := by unfold numT; rw [if_neg hz, if_neg hv]
      rw [hr]
      clear hr
      have h19 := short_of hz HD.out (by omega)
      rcases num_way hz hxp with h1 | ⟨h1, h0⟩
      all_goals
        clear hz
        go_enter Try.func36, Try.ntmps36
        go_wp2_with (first
          | (go_at_call 41; refine (small_any _ _).mono ?_; rintro e w' ⟨rfl, rfl⟩)
          | (go_at_call 44; refine (rdigit_any _ _).mono ?_; rintro e w' ⟨rfl, rfl⟩)
          | (go_at_call 42; refine (from_di _ _ (by unfold maxLen; omega)).mono ?_; rintro e w' ⟨rfl, rfl⟩)
          | (go_at_call 45; refine (Worth_ok _ _ h19 HD.out (by omega)).mono ?_; rintro e w' ⟨rfl, rfl⟩))
        refine bodyPost_ret (v := .tuple #[.agg #[.int .i64 2, .string x, .int .i64 (val (bl x) : Nat), .int .i64 a], .int .i64 0]) (by simp [results, Try.results36, go_sem]) rfl ⟨?_, ?_⟩
        · simp only [bs_bl]; rfl
        · repeat refine Below.setCell ?_ (by simp) _
          exact (Below.refl _ _).alloc (Nat.le_refl _) _

set_option maxHeartbeats 4000000 in
theorem rtok_si (s : ByteArray) (a : Nat) (w : World) (hs : s.size ≤ 100000) (hp : 0 < s.size) (hl : isLo s[0] = false) (hd : isDi s[0] = false) :
    Calls Try.prog 36 #[.string s, .int .i64 a] w (TokPost (tokT (bl s)) a w) := by
  rw [tok_si hp hl hd]
  have hle : sgn (bl s) ≤ s.size := by rw [size_bl]; exact sgn_le _
  by_cases h0 : sgn (bl s) = 0
  · have hr : signT (bl s) = (zT, 2) := by unfold signT; rw [if_pos h0]
    rw [hr]
    have q : (((sgn (bl s) : Nat) : Int) == 0) = true := by rw [h0]; rfl
    clear hr h0
    go_enter Try.func36, Try.ntmps36
    go_wp2_with (first
      | (go_at_call 41; refine (small_any _ _).mono ?_; rintro e w' ⟨rfl, rfl⟩)
      | (go_at_call 44; refine (rdigit_any _ _).mono ?_; rintro e w' ⟨rfl, rfl⟩)
      | (go_at_call 46; refine (rsign_any _ _ (by unfold maxLen; omega) hp).mono ?_; rintro e w1 ⟨rfl, hb⟩; have HB := Lib.hid hb; obtain ⟨hc, hf⟩ := bcell hb; clear hb))
    refine bodyPost_ret (v := .tuple #[.agg #[.int .i64 0, .string ⟨#[]⟩, .int .i64 0, .int .i64 0], .int .i64 2]) (by simp [results, Try.results36, go_sem, hc]) rfl ⟨rfl, ?_⟩
    repeat refine Below.setCell ?_ (by simp) _
    exact below_new HB.out
  · have hr : signT (bl s) = (⟨4, (bl s).take (sgn (bl s)), 0⟩, 0) := by unfold signT; rw [if_neg h0]
    rw [hr]
    have q : (((sgn (bl s) : Nat) : Int) == 0) = false := by simp; omega
    clear hr h0
    go_enter Try.func36, Try.ntmps36
    go_wp2_with (first
      | (go_at_call 41; refine (small_any _ _).mono ?_; rintro e w' ⟨rfl, rfl⟩)
      | (go_at_call 44; refine (rdigit_any _ _).mono ?_; rintro e w' ⟨rfl, rfl⟩)
      | (go_at_call 46; refine (rsign_any _ _ (by unfold maxLen; omega) hp).mono ?_; rintro e w1 ⟨rfl, hb⟩; have HB := Lib.hid hb; obtain ⟨hc, hf⟩ := bcell hb; clear hb))
    refine bodyPost_ret (v := .tuple #[.agg #[.int .i64 4, .string (s.extract 0 (sgn (bl s))), .int .i64 0, .int .i64 a], .int .i64 0]) (by simp [results, Try.results36, go_sem, hc]) rfl ⟨?_, ?_⟩
    · rw [bs_extract, List.drop_zero, Nat.sub_zero]; rfl
    · repeat refine Below.setCell ?_ (by simp) _
      exact below_new HB.out
theorem rtok_any (s : ByteArray) (a : Nat) (w : World) (hs : s.size ≤ 100000) (hp : 0 < s.size) :
    Calls Try.prog 36 #[.string s, .int .i64 a] w (TokPost (tokT (bl s)) a w) := by
  cases hl : isLo s[0] with
  | true => exact rtok_lo s a w hs hp hl
  | false =>
    cases hd : isDi s[0] with
    | true => exact rtok_di s a w hs hp hl hd
    | false => exact rtok_si s a w hs hp hl hd
end Go.Proofs.Ytcncbdnnakfgcaa
