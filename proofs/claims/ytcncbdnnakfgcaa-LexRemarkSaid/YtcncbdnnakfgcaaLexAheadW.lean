/- The walk of LexAhead. -/
import Derived.Test.YtcncbdnnakfgcaaLexFaultW
import Derived.Laws.Concat
namespace Go.Proofs.Ytcncbdnnakfgcaa
open Go.ChangeShapes Go.WideShapes Go.ChangeAt Go.RowKit
set_option linter.unusedVariables false

def modV (n : Int) (k : Nat) : Nat := if n.tmod k < 0 then (n.tmod k + k).toNat else (n.tmod k).toNat
theorem Mod_fix (n : Int) (k : Nat) (h1 : 1 ≤ k) (h2 : k ≤ 1000000) : ∃ m, m < k ∧ ∀ w : World, Calls Try.prog 26 #[.int .i64 n, .int .i64 k] w fun e w' => e = .returned (.int .i64 m) ∧ w = w' := by
  have hb : n.tmod k < k := Int.tmod_lt_of_pos n (by omega)
  have hb2 : -(k : Int) < n.tmod k := by
    have := Int.tmod_lt_of_pos (-n) (show (0 : Int) < k by omega)
    rw [Int.neg_tmod] at this
    omega
  by_cases hn : n.tmod k < 0
  · refine ⟨(n.tmod k + k).toNat, by omega, fun w => ?_⟩
    go_enter Try.func26, Try.ntmps26
    go_wp2
    go_ret
    exact ⟨ret_int (by omega), rfl⟩
  · refine ⟨(n.tmod k).toNat, by omega, fun w => ?_⟩
    go_enter Try.func26, Try.ntmps26
    go_wp2
    go_ret
    exact ⟨ret_int (by omega), rfl⟩
def blanks : List Bs := [[32], [10], [9, 13], [32, 10, 10], [35, 10, 32]]
theorem lx_ahead {l : Bs} {R : Res} (h : Lx l 0 0 R) : ∀ b ∈ blanks, Lx (b ++ l) 0 0 (R.shift b.length) := by
  intro b hb
  have hs := lx_shift b.length h
  simp only [blanks, List.mem_cons, List.not_mem_nil, or_false] at hb
  rcases hb with rfl | rfl | rfl | rfl | rfl
  · exact .sp (by decide) hs
  · exact .sp (by decide) hs
  · exact .sp (by decide) (.sp (by decide) hs)
  · exact .sp (by decide) (.sp (by decide) (.sp (by decide) hs))
  · exact .rem (by decide) (by decide) (.sp (by decide) (.sp (by decide) hs))

theorem bl_append (a b : ByteArray) : bl (a ++ b) = bl a ++ bl b := by simp [bl]
theorem shift_shifted (d : Nat) (hd : d ≤ 1000) (ts : List (Tok × Nat)) (h : ∀ q ∈ ts, q.2 + q.1.text.length ≤ 100000) : Shifted d ts (shiftT d ts) := by
  intro i t a hi
  have := h _ (List.mem_of_getElem? hi)
  simp only at this
  exact ⟨a + d, by simp [shiftT, hi], by omega, by omega, by omega⟩
theorem shift_len (d : Nat) (ts : List (Tok × Nat)) : (shiftT d ts).length = ts.length := by simp [shiftT]

set_option maxHeartbeats 4000000 in
theorem ahead_0 (s x : ByteArray) (n : Int) (w : World) (hxs : x.size ≤ 99996) (HCut : Hid (∀ W, Calls Try.prog 17 #[.string s] W fun e w' => e = .returned (.string x) ∧ W = w'))
    (HM : Hid (∀ w : World, Calls Try.prog 26 #[.int .i64 n, .int .i64 5] w fun e w' => e = .returned (.int .i64 0) ∧ w = w')) :
    Calls Try.prog 8 #[.string s, .int .i64 n] w fun e w' => e = .returned (.bool true) ∧ Below w.heap.size w w' := by
  have hsz : (⟨#[32]⟩ ++ x : ByteArray).size ≤ 100000 := by
    rw [size_bl, bl_append, List.length_append, ← size_bl x]
    show 1 + x.size ≤ 100000
    omega
  have hble : bl (⟨#[32]⟩ ++ x : ByteArray) = [32] ++ bl x := by rw [bl_append]
  rcases told2 x (by omega) with ⟨ts, hx1, hlx, hlen, hq, hA⟩ | ⟨c, a, hd, hA⟩
  · obtain ⟨k, hk⟩ : ∃ k, k = ts.length := ⟨_, rfl⟩
    have HA := Lib.hid (hA k hk.symm)
    have h2 := lx_ahead hlx [32] (by simp [blanks])
    have HA2 := Lib.hid (fun W => All_ok (⟨#[32]⟩ ++ x) W (shiftT 1 ts) k hsz (by rw [hble]; exact h2) (by rw [shift_len, hk]))
    have HS := Lib.hid (shift_shifted 1 (by omega) ts (fun q hq' => by have := hq q hq'; omega))
    have hk2 : k ≤ 2001 := by omega
    clear hA hlx hq h2 hble hsz hk hlen
    go_enter Try.func8, Try.ntmps8
    go_wp2_with (first
      | (go_at_call 16; refine (lexed_any _).mono ?_; rintro e w0 ⟨rfl, hb⟩; have HB0 := Lib.hid hb; clear hb)
      | (go_at_call 17; refine (HCut.out _).mono ?_; rintro e w' ⟨rfl, rfl⟩)
      | (go_at_call 26; refine (HM.out _).mono ?_; rintro e w' ⟨rfl, rfl⟩)
      | (go_at_call 18; ((with_reducible refine (HA.out _).mono ?_); rintro e w1 ⟨A, cap, rfl, hrt, hb⟩; have HB1 := Lib.hid hb; have HT1 := Lib.hid hrt; have hz1 := hb.size; rw [size_alloc1] at hz1; clear hb hrt))
      | (go_at_call 18; ((with_reducible refine (HA2.out _).mono ?_); rintro e w2 ⟨A2, cap2, rfl, hrt, hb⟩; have HT2 := Lib.hid hrt; clear hrt; have HB2 := Lib.hid hb; have hz2 := hb.size; rw [size_alloc1] at hz2; have l21 : w1.heap.size ≤ w2.heap.size := (by omega); have l21' : w1.heap.size < w2.heap.size := (by omega); obtain ⟨hc2, hf2⟩ := bcell hb; clear hb))
      | (go_at_call 20; refine (same_true A A2 _ cap cap2 ts (shiftT 1 ts) 1 _ (by omega) (HT1.out.below ((below_new HB2.out).alloc (below_new HB2.out).size _)) (HT2.out.below ((Below.refl _ _).alloc (Nat.le_refl _) _)) HS.out).mono ?_; rintro e w3 ⟨rfl, kk, rfl⟩))
    go_ret
    exact ⟨rfl, drew_below ((below_then (below_then HB0.out (below_new HB1.out)) (below_new HB2.out)).alloc (below_then (below_then HB0.out (below_new HB1.out)) (below_new HB2.out)).size _) kk⟩
  · rcases hd with ⟨hx1, hlx⟩ | ⟨hx1, _⟩
    · have HA := Lib.hid hA
      have hb1 := lx_bad hlx rfl
      rw [← size_bl] at hb1
      have h2 := lx_ahead hlx [32] (by simp [blanks])
      have HA2 := Lib.hid (fun W => All_bad (⟨#[32]⟩ ++ x) W c (a + 1) hsz (by rw [hble]; exact h2))
      have q0 : (((c : Nat) : Int) != 0) = true := by simp; omega
      have ha : a ≤ 100000 := by omega
      clear hA hlx h2 hble hsz hb1
      go_enter Try.func8, Try.ntmps8
      go_wp2_with (first
        | (go_at_call 16; refine (lexed_any _).mono ?_; rintro e w0 ⟨rfl, hb⟩; have HB0 := Lib.hid hb; clear hb)
        | (go_at_call 17; refine (HCut.out _).mono ?_; rintro e w' ⟨rfl, rfl⟩)
        | (go_at_call 26; refine (HM.out _).mono ?_; rintro e w' ⟨rfl, rfl⟩)
        | (go_at_call 18; ((with_reducible refine (HA.out _).mono ?_); rintro e w1 ⟨A, cap, rfl, hb⟩; have HB1 := Lib.hid hb; have hz1 := hb.size; rw [size_alloc1] at hz1; clear hb))
        | (go_at_call 18; ((with_reducible refine (HA2.out _).mono ?_); rintro e w2 ⟨A2, cap2, rfl, hb⟩; have HB2 := Lib.hid hb; have hz2 := hb.size; rw [size_alloc1] at hz2; have l21 : w1.heap.size ≤ w2.heap.size := (by omega); have l21' : w1.heap.size < w2.heap.size := (by omega); obtain ⟨hc2, hf2⟩ := bcell hb; clear hb)))
      go_ret
      exact ⟨rfl, (below_then (below_then HB0.out (below_new HB1.out)) (below_new HB2.out)).alloc (below_then (below_then HB0.out (below_new HB1.out)) (below_new HB2.out)).size _⟩
    · omega

set_option maxHeartbeats 4000000 in
theorem ahead_1 (s x : ByteArray) (n : Int) (w : World) (hxs : x.size ≤ 99996) (HCut : Hid (∀ W, Calls Try.prog 17 #[.string s] W fun e w' => e = .returned (.string x) ∧ W = w'))
    (HM : Hid (∀ w : World, Calls Try.prog 26 #[.int .i64 n, .int .i64 5] w fun e w' => e = .returned (.int .i64 1) ∧ w = w')) :
    Calls Try.prog 8 #[.string s, .int .i64 n] w fun e w' => e = .returned (.bool true) ∧ Below w.heap.size w w' := by
  have hsz : (⟨#[10]⟩ ++ x : ByteArray).size ≤ 100000 := by
    rw [size_bl, bl_append, List.length_append, ← size_bl x]
    show 1 + x.size ≤ 100000
    omega
  have hble : bl (⟨#[10]⟩ ++ x : ByteArray) = [10] ++ bl x := by rw [bl_append]
  rcases told2 x (by omega) with ⟨ts, hx1, hlx, hlen, hq, hA⟩ | ⟨c, a, hd, hA⟩
  · obtain ⟨k, hk⟩ : ∃ k, k = ts.length := ⟨_, rfl⟩
    have HA := Lib.hid (hA k hk.symm)
    have h2 := lx_ahead hlx [10] (by simp [blanks])
    have HA2 := Lib.hid (fun W => All_ok (⟨#[10]⟩ ++ x) W (shiftT 1 ts) k hsz (by rw [hble]; exact h2) (by rw [shift_len, hk]))
    have HS := Lib.hid (shift_shifted 1 (by omega) ts (fun q hq' => by have := hq q hq'; omega))
    have hk2 : k ≤ 2001 := by omega
    clear hA hlx hq h2 hble hsz hk hlen
    go_enter Try.func8, Try.ntmps8
    go_wp2_with (first
      | (go_at_call 16; refine (lexed_any _).mono ?_; rintro e w0 ⟨rfl, hb⟩; have HB0 := Lib.hid hb; clear hb)
      | (go_at_call 17; refine (HCut.out _).mono ?_; rintro e w' ⟨rfl, rfl⟩)
      | (go_at_call 26; refine (HM.out _).mono ?_; rintro e w' ⟨rfl, rfl⟩)
      | (go_at_call 18; ((with_reducible refine (HA.out _).mono ?_); rintro e w1 ⟨A, cap, rfl, hrt, hb⟩; have HB1 := Lib.hid hb; have HT1 := Lib.hid hrt; have hz1 := hb.size; rw [size_alloc1] at hz1; clear hb hrt))
      | (go_at_call 18; ((with_reducible refine (HA2.out _).mono ?_); rintro e w2 ⟨A2, cap2, rfl, hrt, hb⟩; have HT2 := Lib.hid hrt; clear hrt; have HB2 := Lib.hid hb; have hz2 := hb.size; rw [size_alloc1] at hz2; have l21 : w1.heap.size ≤ w2.heap.size := (by omega); have l21' : w1.heap.size < w2.heap.size := (by omega); obtain ⟨hc2, hf2⟩ := bcell hb; clear hb))
      | (go_at_call 20; refine (same_true A A2 _ cap cap2 ts (shiftT 1 ts) 1 _ (by omega) (HT1.out.below ((below_new HB2.out).alloc (below_new HB2.out).size _)) (HT2.out.below ((Below.refl _ _).alloc (Nat.le_refl _) _)) HS.out).mono ?_; rintro e w3 ⟨rfl, kk, rfl⟩))
    go_ret
    exact ⟨rfl, drew_below ((below_then (below_then HB0.out (below_new HB1.out)) (below_new HB2.out)).alloc (below_then (below_then HB0.out (below_new HB1.out)) (below_new HB2.out)).size _) kk⟩
  · rcases hd with ⟨hx1, hlx⟩ | ⟨hx1, _⟩
    · have HA := Lib.hid hA
      have hb1 := lx_bad hlx rfl
      rw [← size_bl] at hb1
      have h2 := lx_ahead hlx [10] (by simp [blanks])
      have HA2 := Lib.hid (fun W => All_bad (⟨#[10]⟩ ++ x) W c (a + 1) hsz (by rw [hble]; exact h2))
      have q0 : (((c : Nat) : Int) != 0) = true := by simp; omega
      have ha : a ≤ 100000 := by omega
      clear hA hlx h2 hble hsz hb1
      go_enter Try.func8, Try.ntmps8
      go_wp2_with (first
        | (go_at_call 16; refine (lexed_any _).mono ?_; rintro e w0 ⟨rfl, hb⟩; have HB0 := Lib.hid hb; clear hb)
        | (go_at_call 17; refine (HCut.out _).mono ?_; rintro e w' ⟨rfl, rfl⟩)
        | (go_at_call 26; refine (HM.out _).mono ?_; rintro e w' ⟨rfl, rfl⟩)
        | (go_at_call 18; ((with_reducible refine (HA.out _).mono ?_); rintro e w1 ⟨A, cap, rfl, hb⟩; have HB1 := Lib.hid hb; have hz1 := hb.size; rw [size_alloc1] at hz1; clear hb))
        | (go_at_call 18; ((with_reducible refine (HA2.out _).mono ?_); rintro e w2 ⟨A2, cap2, rfl, hb⟩; have HB2 := Lib.hid hb; have hz2 := hb.size; rw [size_alloc1] at hz2; have l21 : w1.heap.size ≤ w2.heap.size := (by omega); have l21' : w1.heap.size < w2.heap.size := (by omega); obtain ⟨hc2, hf2⟩ := bcell hb; clear hb)))
      go_ret
      exact ⟨rfl, (below_then (below_then HB0.out (below_new HB1.out)) (below_new HB2.out)).alloc (below_then (below_then HB0.out (below_new HB1.out)) (below_new HB2.out)).size _⟩
    · omega

set_option maxHeartbeats 4000000 in
theorem ahead_2 (s x : ByteArray) (n : Int) (w : World) (hxs : x.size ≤ 99996) (HCut : Hid (∀ W, Calls Try.prog 17 #[.string s] W fun e w' => e = .returned (.string x) ∧ W = w'))
    (HM : Hid (∀ w : World, Calls Try.prog 26 #[.int .i64 n, .int .i64 5] w fun e w' => e = .returned (.int .i64 2) ∧ w = w')) :
    Calls Try.prog 8 #[.string s, .int .i64 n] w fun e w' => e = .returned (.bool true) ∧ Below w.heap.size w w' := by
  have hsz : (⟨#[9, 13]⟩ ++ x : ByteArray).size ≤ 100000 := by
    rw [size_bl, bl_append, List.length_append, ← size_bl x]
    show 2 + x.size ≤ 100000
    omega
  have hble : bl (⟨#[9, 13]⟩ ++ x : ByteArray) = [9, 13] ++ bl x := by rw [bl_append]
  rcases told2 x (by omega) with ⟨ts, hx1, hlx, hlen, hq, hA⟩ | ⟨c, a, hd, hA⟩
  · obtain ⟨k, hk⟩ : ∃ k, k = ts.length := ⟨_, rfl⟩
    have HA := Lib.hid (hA k hk.symm)
    have h2 := lx_ahead hlx [9, 13] (by simp [blanks])
    have HA2 := Lib.hid (fun W => All_ok (⟨#[9, 13]⟩ ++ x) W (shiftT 2 ts) k hsz (by rw [hble]; exact h2) (by rw [shift_len, hk]))
    have HS := Lib.hid (shift_shifted 2 (by omega) ts (fun q hq' => by have := hq q hq'; omega))
    have hk2 : k ≤ 2001 := by omega
    clear hA hlx hq h2 hble hsz hk hlen
    go_enter Try.func8, Try.ntmps8
    go_wp2_with (first
      | (go_at_call 16; refine (lexed_any _).mono ?_; rintro e w0 ⟨rfl, hb⟩; have HB0 := Lib.hid hb; clear hb)
      | (go_at_call 17; refine (HCut.out _).mono ?_; rintro e w' ⟨rfl, rfl⟩)
      | (go_at_call 26; refine (HM.out _).mono ?_; rintro e w' ⟨rfl, rfl⟩)
      | (go_at_call 18; ((with_reducible refine (HA.out _).mono ?_); rintro e w1 ⟨A, cap, rfl, hrt, hb⟩; have HB1 := Lib.hid hb; have HT1 := Lib.hid hrt; have hz1 := hb.size; rw [size_alloc1] at hz1; clear hb hrt))
      | (go_at_call 18; ((with_reducible refine (HA2.out _).mono ?_); rintro e w2 ⟨A2, cap2, rfl, hrt, hb⟩; have HT2 := Lib.hid hrt; clear hrt; have HB2 := Lib.hid hb; have hz2 := hb.size; rw [size_alloc1] at hz2; have l21 : w1.heap.size ≤ w2.heap.size := (by omega); have l21' : w1.heap.size < w2.heap.size := (by omega); obtain ⟨hc2, hf2⟩ := bcell hb; clear hb))
      | (go_at_call 20; refine (same_true A A2 _ cap cap2 ts (shiftT 2 ts) 2 _ (by omega) (HT1.out.below ((below_new HB2.out).alloc (below_new HB2.out).size _)) (HT2.out.below ((Below.refl _ _).alloc (Nat.le_refl _) _)) HS.out).mono ?_; rintro e w3 ⟨rfl, kk, rfl⟩))
    go_ret
    exact ⟨rfl, drew_below ((below_then (below_then HB0.out (below_new HB1.out)) (below_new HB2.out)).alloc (below_then (below_then HB0.out (below_new HB1.out)) (below_new HB2.out)).size _) kk⟩
  · rcases hd with ⟨hx1, hlx⟩ | ⟨hx1, _⟩
    · have HA := Lib.hid hA
      have hb1 := lx_bad hlx rfl
      rw [← size_bl] at hb1
      have h2 := lx_ahead hlx [9, 13] (by simp [blanks])
      have HA2 := Lib.hid (fun W => All_bad (⟨#[9, 13]⟩ ++ x) W c (a + 2) hsz (by rw [hble]; exact h2))
      have q0 : (((c : Nat) : Int) != 0) = true := by simp; omega
      have ha : a ≤ 100000 := by omega
      clear hA hlx h2 hble hsz hb1
      go_enter Try.func8, Try.ntmps8
      go_wp2_with (first
        | (go_at_call 16; refine (lexed_any _).mono ?_; rintro e w0 ⟨rfl, hb⟩; have HB0 := Lib.hid hb; clear hb)
        | (go_at_call 17; refine (HCut.out _).mono ?_; rintro e w' ⟨rfl, rfl⟩)
        | (go_at_call 26; refine (HM.out _).mono ?_; rintro e w' ⟨rfl, rfl⟩)
        | (go_at_call 18; ((with_reducible refine (HA.out _).mono ?_); rintro e w1 ⟨A, cap, rfl, hb⟩; have HB1 := Lib.hid hb; have hz1 := hb.size; rw [size_alloc1] at hz1; clear hb))
        | (go_at_call 18; ((with_reducible refine (HA2.out _).mono ?_); rintro e w2 ⟨A2, cap2, rfl, hb⟩; have HB2 := Lib.hid hb; have hz2 := hb.size; rw [size_alloc1] at hz2; have l21 : w1.heap.size ≤ w2.heap.size := (by omega); have l21' : w1.heap.size < w2.heap.size := (by omega); obtain ⟨hc2, hf2⟩ := bcell hb; clear hb)))
      go_ret
      exact ⟨rfl, (below_then (below_then HB0.out (below_new HB1.out)) (below_new HB2.out)).alloc (below_then (below_then HB0.out (below_new HB1.out)) (below_new HB2.out)).size _⟩
    · omega

set_option maxHeartbeats 4000000 in
theorem ahead_3 (s x : ByteArray) (n : Int) (w : World) (hxs : x.size ≤ 99996) (HCut : Hid (∀ W, Calls Try.prog 17 #[.string s] W fun e w' => e = .returned (.string x) ∧ W = w'))
    (HM : Hid (∀ w : World, Calls Try.prog 26 #[.int .i64 n, .int .i64 5] w fun e w' => e = .returned (.int .i64 3) ∧ w = w')) :
    Calls Try.prog 8 #[.string s, .int .i64 n] w fun e w' => e = .returned (.bool true) ∧ Below w.heap.size w w' := by
  have hsz : (⟨#[32, 10, 10]⟩ ++ x : ByteArray).size ≤ 100000 := by
    rw [size_bl, bl_append, List.length_append, ← size_bl x]
    show 3 + x.size ≤ 100000
    omega
  have hble : bl (⟨#[32, 10, 10]⟩ ++ x : ByteArray) = [32, 10, 10] ++ bl x := by rw [bl_append]
  rcases told2 x (by omega) with ⟨ts, hx1, hlx, hlen, hq, hA⟩ | ⟨c, a, hd, hA⟩
  · obtain ⟨k, hk⟩ : ∃ k, k = ts.length := ⟨_, rfl⟩
    have HA := Lib.hid (hA k hk.symm)
    have h2 := lx_ahead hlx [32, 10, 10] (by simp [blanks])
    have HA2 := Lib.hid (fun W => All_ok (⟨#[32, 10, 10]⟩ ++ x) W (shiftT 3 ts) k hsz (by rw [hble]; exact h2) (by rw [shift_len, hk]))
    have HS := Lib.hid (shift_shifted 3 (by omega) ts (fun q hq' => by have := hq q hq'; omega))
    have hk2 : k ≤ 2001 := by omega
    clear hA hlx hq h2 hble hsz hk hlen
    go_enter Try.func8, Try.ntmps8
    go_wp2_with (first
      | (go_at_call 16; refine (lexed_any _).mono ?_; rintro e w0 ⟨rfl, hb⟩; have HB0 := Lib.hid hb; clear hb)
      | (go_at_call 17; refine (HCut.out _).mono ?_; rintro e w' ⟨rfl, rfl⟩)
      | (go_at_call 26; refine (HM.out _).mono ?_; rintro e w' ⟨rfl, rfl⟩)
      | (go_at_call 18; ((with_reducible refine (HA.out _).mono ?_); rintro e w1 ⟨A, cap, rfl, hrt, hb⟩; have HB1 := Lib.hid hb; have HT1 := Lib.hid hrt; have hz1 := hb.size; rw [size_alloc1] at hz1; clear hb hrt))
      | (go_at_call 18; ((with_reducible refine (HA2.out _).mono ?_); rintro e w2 ⟨A2, cap2, rfl, hrt, hb⟩; have HT2 := Lib.hid hrt; clear hrt; have HB2 := Lib.hid hb; have hz2 := hb.size; rw [size_alloc1] at hz2; have l21 : w1.heap.size ≤ w2.heap.size := (by omega); have l21' : w1.heap.size < w2.heap.size := (by omega); obtain ⟨hc2, hf2⟩ := bcell hb; clear hb))
      | (go_at_call 20; refine (same_true A A2 _ cap cap2 ts (shiftT 3 ts) 3 _ (by omega) (HT1.out.below ((below_new HB2.out).alloc (below_new HB2.out).size _)) (HT2.out.below ((Below.refl _ _).alloc (Nat.le_refl _) _)) HS.out).mono ?_; rintro e w3 ⟨rfl, kk, rfl⟩))
    go_ret
    exact ⟨rfl, drew_below ((below_then (below_then HB0.out (below_new HB1.out)) (below_new HB2.out)).alloc (below_then (below_then HB0.out (below_new HB1.out)) (below_new HB2.out)).size _) kk⟩
  · rcases hd with ⟨hx1, hlx⟩ | ⟨hx1, _⟩
    · have HA := Lib.hid hA
      have hb1 := lx_bad hlx rfl
      rw [← size_bl] at hb1
      have h2 := lx_ahead hlx [32, 10, 10] (by simp [blanks])
      have HA2 := Lib.hid (fun W => All_bad (⟨#[32, 10, 10]⟩ ++ x) W c (a + 3) hsz (by rw [hble]; exact h2))
      have q0 : (((c : Nat) : Int) != 0) = true := by simp; omega
      have ha : a ≤ 100000 := by omega
      clear hA hlx h2 hble hsz hb1
      go_enter Try.func8, Try.ntmps8
      go_wp2_with (first
        | (go_at_call 16; refine (lexed_any _).mono ?_; rintro e w0 ⟨rfl, hb⟩; have HB0 := Lib.hid hb; clear hb)
        | (go_at_call 17; refine (HCut.out _).mono ?_; rintro e w' ⟨rfl, rfl⟩)
        | (go_at_call 26; refine (HM.out _).mono ?_; rintro e w' ⟨rfl, rfl⟩)
        | (go_at_call 18; ((with_reducible refine (HA.out _).mono ?_); rintro e w1 ⟨A, cap, rfl, hb⟩; have HB1 := Lib.hid hb; have hz1 := hb.size; rw [size_alloc1] at hz1; clear hb))
        | (go_at_call 18; ((with_reducible refine (HA2.out _).mono ?_); rintro e w2 ⟨A2, cap2, rfl, hb⟩; have HB2 := Lib.hid hb; have hz2 := hb.size; rw [size_alloc1] at hz2; have l21 : w1.heap.size ≤ w2.heap.size := (by omega); have l21' : w1.heap.size < w2.heap.size := (by omega); obtain ⟨hc2, hf2⟩ := bcell hb; clear hb)))
      go_ret
      exact ⟨rfl, (below_then (below_then HB0.out (below_new HB1.out)) (below_new HB2.out)).alloc (below_then (below_then HB0.out (below_new HB1.out)) (below_new HB2.out)).size _⟩
    · omega

set_option maxHeartbeats 4000000 in
theorem ahead_4 (s x : ByteArray) (n : Int) (w : World) (hxs : x.size ≤ 99996) (HCut : Hid (∀ W, Calls Try.prog 17 #[.string s] W fun e w' => e = .returned (.string x) ∧ W = w'))
    (HM : Hid (∀ w : World, Calls Try.prog 26 #[.int .i64 n, .int .i64 5] w fun e w' => e = .returned (.int .i64 4) ∧ w = w')) :
    Calls Try.prog 8 #[.string s, .int .i64 n] w fun e w' => e = .returned (.bool true) ∧ Below w.heap.size w w' := by
  have hsz : (⟨#[35, 10, 32]⟩ ++ x : ByteArray).size ≤ 100000 := by
    rw [size_bl, bl_append, List.length_append, ← size_bl x]
    show 3 + x.size ≤ 100000
    omega
  have hble : bl (⟨#[35, 10, 32]⟩ ++ x : ByteArray) = [35, 10, 32] ++ bl x := by rw [bl_append]
  rcases told2 x (by omega) with ⟨ts, hx1, hlx, hlen, hq, hA⟩ | ⟨c, a, hd, hA⟩
  · obtain ⟨k, hk⟩ : ∃ k, k = ts.length := ⟨_, rfl⟩
    have HA := Lib.hid (hA k hk.symm)
    have h2 := lx_ahead hlx [35, 10, 32] (by simp [blanks])
    have HA2 := Lib.hid (fun W => All_ok (⟨#[35, 10, 32]⟩ ++ x) W (shiftT 3 ts) k hsz (by rw [hble]; exact h2) (by rw [shift_len, hk]))
    have HS := Lib.hid (shift_shifted 3 (by omega) ts (fun q hq' => by have := hq q hq'; omega))
    have hk2 : k ≤ 2001 := by omega
    clear hA hlx hq h2 hble hsz hk hlen
    go_enter Try.func8, Try.ntmps8
    go_wp2_with (first
      | (go_at_call 16; refine (lexed_any _).mono ?_; rintro e w0 ⟨rfl, hb⟩; have HB0 := Lib.hid hb; clear hb)
      | (go_at_call 17; refine (HCut.out _).mono ?_; rintro e w' ⟨rfl, rfl⟩)
      | (go_at_call 26; refine (HM.out _).mono ?_; rintro e w' ⟨rfl, rfl⟩)
      | (go_at_call 18; ((with_reducible refine (HA.out _).mono ?_); rintro e w1 ⟨A, cap, rfl, hrt, hb⟩; have HB1 := Lib.hid hb; have HT1 := Lib.hid hrt; have hz1 := hb.size; rw [size_alloc1] at hz1; clear hb hrt))
      | (go_at_call 18; ((with_reducible refine (HA2.out _).mono ?_); rintro e w2 ⟨A2, cap2, rfl, hrt, hb⟩; have HT2 := Lib.hid hrt; clear hrt; have HB2 := Lib.hid hb; have hz2 := hb.size; rw [size_alloc1] at hz2; have l21 : w1.heap.size ≤ w2.heap.size := (by omega); have l21' : w1.heap.size < w2.heap.size := (by omega); obtain ⟨hc2, hf2⟩ := bcell hb; clear hb))
      | (go_at_call 20; refine (same_true A A2 _ cap cap2 ts (shiftT 3 ts) 3 _ (by omega) (HT1.out.below ((below_new HB2.out).alloc (below_new HB2.out).size _)) (HT2.out.below ((Below.refl _ _).alloc (Nat.le_refl _) _)) HS.out).mono ?_; rintro e w3 ⟨rfl, kk, rfl⟩))
    go_ret
    exact ⟨rfl, drew_below ((below_then (below_then HB0.out (below_new HB1.out)) (below_new HB2.out)).alloc (below_then (below_then HB0.out (below_new HB1.out)) (below_new HB2.out)).size _) kk⟩
  · rcases hd with ⟨hx1, hlx⟩ | ⟨hx1, _⟩
    · have HA := Lib.hid hA
      have hb1 := lx_bad hlx rfl
      rw [← size_bl] at hb1
      have h2 := lx_ahead hlx [35, 10, 32] (by simp [blanks])
      have HA2 := Lib.hid (fun W => All_bad (⟨#[35, 10, 32]⟩ ++ x) W c (a + 3) hsz (by rw [hble]; exact h2))
      have q0 : (((c : Nat) : Int) != 0) = true := by simp; omega
      have ha : a ≤ 100000 := by omega
      clear hA hlx h2 hble hsz hb1
      go_enter Try.func8, Try.ntmps8
      go_wp2_with (first
        | (go_at_call 16; refine (lexed_any _).mono ?_; rintro e w0 ⟨rfl, hb⟩; have HB0 := Lib.hid hb; clear hb)
        | (go_at_call 17; refine (HCut.out _).mono ?_; rintro e w' ⟨rfl, rfl⟩)
        | (go_at_call 26; refine (HM.out _).mono ?_; rintro e w' ⟨rfl, rfl⟩)
        | (go_at_call 18; ((with_reducible refine (HA.out _).mono ?_); rintro e w1 ⟨A, cap, rfl, hb⟩; have HB1 := Lib.hid hb; have hz1 := hb.size; rw [size_alloc1] at hz1; clear hb))
        | (go_at_call 18; ((with_reducible refine (HA2.out _).mono ?_); rintro e w2 ⟨A2, cap2, rfl, hb⟩; have HB2 := Lib.hid hb; have hz2 := hb.size; rw [size_alloc1] at hz2; have l21 : w1.heap.size ≤ w2.heap.size := (by omega); have l21' : w1.heap.size < w2.heap.size := (by omega); obtain ⟨hc2, hf2⟩ := bcell hb; clear hb)))
      go_ret
      exact ⟨rfl, (below_then (below_then HB0.out (below_new HB1.out)) (below_new HB2.out)).alloc (below_then (below_then HB0.out (below_new HB1.out)) (below_new HB2.out)).size _⟩
    · omega

set_option maxHeartbeats 4000000 in
theorem lexAhead_walk (s : ByteArray) (n : Int) (hs : s.size ≤ maxLen) (w : World) : Calls Try.prog 8 #[.string s, .int .i64 n] w fun e w' => e = .returned (.bool true) ∧ Below w.heap.size w w' := by
  obtain ⟨x, hx⟩ : ∃ x, x = s.extract 0 (min s.size 100100) := ⟨_, rfl⟩
  have hxs : x.size ≤ 100100 := by rw [hx, ByteArray.size_extract]; omega
  have hcut : ∀ W, Calls Try.prog 17 #[.string s] W fun e w' => e = .returned (.string x) ∧ W = w' := by rw [hx]; exact fun W => Cut_any s W hs
  have HCut := Lib.hid hcut
  clear hcut hx
  by_cases hbig : 99996 < x.size
  · go_enter Try.func8, Try.ntmps8
    go_wp2_with (first
      | (go_at_call 16; refine (lexed_any _).mono ?_; rintro e w0 ⟨rfl, hb⟩; have HB0 := Lib.hid hb; clear hb)
      | (go_at_call 17; refine (HCut.out _).mono ?_; rintro e w' ⟨rfl, rfl⟩))
    go_ret
    exact ⟨rfl, HB0.out⟩
  · obtain ⟨m, hm, hM⟩ := Mod_fix n 5 (by omega) (by omega)
    obtain rfl | rfl | rfl | rfl | rfl : m = 0 ∨ m = 1 ∨ m = 2 ∨ m = 3 ∨ m = 4 := by omega
    · exact ahead_0 s x n w (by omega) HCut (Lib.hid hM)
    · exact ahead_1 s x n w (by omega) HCut (Lib.hid hM)
    · exact ahead_2 s x n w (by omega) HCut (Lib.hid hM)
    · exact ahead_3 s x n w (by omega) HCut (Lib.hid hM)
    · exact ahead_4 s x n w (by omega) HCut (Lib.hid hM)
end Go.Proofs.Ytcncbdnnakfgcaa
