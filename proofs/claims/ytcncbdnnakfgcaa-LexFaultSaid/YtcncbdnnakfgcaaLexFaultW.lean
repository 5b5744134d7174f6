/- The walk of LexFault. -/
import Derived.Test.YtcncbdnnakfgcaaLexQ2
namespace Go.Proofs.Ytcncbdnnakfgcaa
open Go.ChangeShapes Go.WideShapes Go.ChangeAt Go.RowKit
set_option linter.unusedVariables false

def ModPost (k : Nat) (w : World) (e : Ending) (w' : World) : Prop := ∃ m : Nat, m < k ∧ e = .returned (.int .i64 m) ∧ w = w'
theorem Mod_any (n : Int) (k : Nat) (w : World) (h1 : 1 ≤ k) (h2 : k ≤ 1000000) : Calls Try.prog 26 #[.int .i64 n, .int .i64 k] w (ModPost k w) := by
  have hb : n.tmod k < k := Int.tmod_lt_of_pos n (by omega)
  have hb2 : -(k : Int) < n.tmod k := by
    have := Int.tmod_lt_of_pos (-n) (show (0 : Int) < k by omega)
    rw [Int.neg_tmod] at this
    omega
  by_cases hn : n.tmod k < 0
  · go_enter Try.func26, Try.ntmps26
    go_wp2
    go_ret
    exact ⟨(n.tmod k + k).toNat, by omega, ret_int (by omega), rfl⟩
  · go_enter Try.func26, Try.ntmps26
    go_wp2
    go_ret
    exact ⟨(n.tmod k).toNat, by omega, ret_int (by omega), rfl⟩
theorem bl_front (x : ByteArray) (a : Nat) : bl (x.extract 0 a) = (bl x).take a := by rw [bs_extract, bl_bs]; simp
theorem front_size (x : ByteArray) (a : Nat) : (x.extract 0 a).size ≤ x.size := by rw [ByteArray.size_extract]; omega

set_option maxHeartbeats 4000000 in
theorem lexFault_walk (s : ByteArray) (n : Int) (hs : s.size ≤ maxLen) (w : World) : Calls Try.prog 11 #[.string s, .int .i64 n] w fun e w' => e = .returned (.bool true) ∧ Below w.heap.size w w' := by
  obtain ⟨x, hx⟩ : ∃ x, x = s.extract 0 (min s.size 100100) := ⟨_, rfl⟩
  have hxs : x.size ≤ 100100 := by rw [hx, ByteArray.size_extract]; omega
  have hcut : ∀ W, Calls Try.prog 17 #[.string s] W fun e w' => e = .returned (.string x) ∧ W = w' := by rw [hx]; exact fun W => Cut_any s W hs
  have HCut := Lib.hid hcut
  clear hcut hx
  rcases told2 x hxs with ⟨ts, hx1, hlx, hlen, hq, hA⟩ | ⟨c, a, hd, hA⟩
  · have HA := Lib.hid (hA _ rfl)
    clear hlx hq hA
    go_enter Try.func11, Try.ntmps11
    go_wp2_with (first
      | (go_at_call 16; refine (lexed_any _).mono ?_; rintro e w0 ⟨rfl, hb⟩; have HB0 := Lib.hid hb; clear hb)
      | (go_at_call 17; refine (HCut.out _).mono ?_; rintro e w' ⟨rfl, rfl⟩)
      | (go_at_call 18; refine (HA.out _).mono ?_; rintro e w1 ⟨A, cap, rfl, hrt, hb⟩; have HB1 := Lib.hid hb; have HT1 := Lib.hid hrt; have hz1 := hb.size; clear hb hrt))
    go_ret
    exact ⟨rfl, (below_then HB0.out HB1.out).alloc (below_then HB0.out HB1.out).size _⟩
  · have HA := Lib.hid hA
    rcases hd with ⟨hx1, hlx⟩ | ⟨hx1, rfl, rfl⟩
    · obtain ⟨hc, _, ha⟩ := lx_bad hlx rfl
      rw [Nat.zero_add, ← size_bl] at ha
      obtain ⟨ts1, h1⟩ := lx_front_bad hlx rfl
      have h3 := fun m (h : a - 0 + 21 ≤ m) => lx_cut_bad hlx rfl m h
      have HA2 := Lib.hid (fun W => All_ok (x.extract 0 a) W ts1 _ (by have := front_size x a; omega) (by rw [bl_front]; exact h1) rfl)
      have HA3 : Hid (∀ m, m ≤ x.size → (a + 21 ≤ m ∨ m = x.size) → ∀ W, Calls Try.prog 18 #[.string (x.extract 0 m)] W (BadPost c a W)) := Lib.hid (fun m hm hor W => All_bad (x.extract 0 m) W c a (by have := front_size x m; omega) (by
        rw [bl_front]
        rcases hor with h | h
        · exact h3 m (by omega)
        · rw [List.take_of_length_le (by rw [← size_bl]; omega)]; exact hlx))
      have q0 : (((c : Nat) : Int) == 0) = false := by simp; omega
      have q2 : ((((c : Nat) : Int) != 2) && (((c : Nat) : Int) != 4)) = false := by rcases hc with rfl | rfl <;> rfl
      clear hlx hA h1 h3
      rcases hc with rfl | rfl
      all_goals
        go_enter Try.func11, Try.ntmps11
        go_wp2_with (first
          | (go_at_call 16; refine (lexed_any _).mono ?_; rintro e w0 ⟨rfl, hb⟩; have HB0 := Lib.hid hb; clear hb)
          | (go_at_call 17; refine (HCut.out _).mono ?_; rintro e w' ⟨rfl, rfl⟩)
          | (go_at_call 26; refine (Mod_any n 30 _ (by omega) (by omega)).mono ?_; rintro e w' ⟨m, hm, rfl, rfl⟩)
          | (go_at_call 18; ((with_reducible refine (HA.out _).mono ?_); rintro e w1 ⟨A, cap, rfl, hb⟩; have HB1 := Lib.hid hb; have hz1 := hb.size; clear hb))
          | (go_at_call 18; ((with_reducible refine (HA2.out _).mono ?_); rintro e w2 ⟨A2, cap2, rfl, _, hb⟩; have HB2 := Lib.hid hb; have hz2 := hb.size; rw [size_alloc1] at hz2; have l21 : w1.heap.size ≤ w2.heap.size := (by omega); have l21' : w1.heap.size < w2.heap.size := (by omega); obtain ⟨hc2, hf2⟩ := bcell hb; clear hb))
          | (go_at_call 18; refine (HA3.out _ (by omega) (by omega) _).mono ?_; rintro e w3 ⟨A3, cap3, rfl, hb⟩; have HB3 := Lib.hid hb; have hz3 := hb.size; rw [size_alloc1] at hz3; have l31 : w1.heap.size ≤ w3.heap.size := (by omega); have l31' : w1.heap.size < w3.heap.size := (by omega); have l32 : w2.heap.size ≤ w3.heap.size := (by omega); have l32' : w2.heap.size < w3.heap.size := (by omega); obtain ⟨hc3, hf3⟩ := bcell hb; clear hb))
        all_goals
          go_ret
          exact ⟨rfl, (below_then (below_then (below_then HB0.out HB1.out) (below_new HB2.out)) (below_new HB3.out)).alloc (below_then (below_then (below_then HB0.out HB1.out) (below_new HB2.out)) (below_new HB3.out)).size _⟩
    · clear hA
      go_enter Try.func11, Try.ntmps11
      go_wp2_with (first
        | (go_at_call 16; refine (lexed_any _).mono ?_; rintro e w0 ⟨rfl, hb⟩; have HB0 := Lib.hid hb; clear hb)
        | (go_at_call 17; refine (HCut.out _).mono ?_; rintro e w' ⟨rfl, rfl⟩)
        | (go_at_call 18; refine (HA.out _).mono ?_; rintro e w1 ⟨A, cap, rfl, hb⟩; have HB1 := Lib.hid hb; have hz1 := hb.size; clear hb))
      go_ret
      exact ⟨rfl, (below_then HB0.out HB1.out).alloc (below_then HB0.out HB1.out).size _⟩
end Go.Proofs.Ytcncbdnnakfgcaa
