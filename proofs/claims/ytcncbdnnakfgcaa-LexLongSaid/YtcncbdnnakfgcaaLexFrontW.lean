/- The walk of LexFront. -/
import Derived.Test.YtcncbdnnakfgcaaLexAheadW
namespace Go.Proofs.Ytcncbdnnakfgcaa
open Go.ChangeShapes Go.WideShapes Go.ChangeAt Go.RowKit
set_option linter.unusedVariables false

theorem RT.drewN {w : World} {A : Option Addr} {n : Nat} {ts : List (Tok × Nat)} (h : RT w A n ts) (k : Nat) : RT (w.drewN k) A n ts := h
theorem own_cap {w : World} {b : Nat} {e : TypeId} {n cap : Nat} {A : Option Addr} {xs : List Value} (h : w.ownsRow b e 4 (.slice A n cap) n xs) : n ≤ cap ∧ cap ≤ 9223372036854775807 := by
  rcases h.2 with ⟨h0, h1⟩ | ⟨g, cap', cur, hv, _, _, h1, h2, _⟩
  · injection h0 with _ _ h2; omega
  · injection hv with _ _ h3; unfold maxLen at h2; omega
theorem All_okc (s : ByteArray) (w : World) (ts : List (Tok × Nat)) (n : Nat) (hs : s.size ≤ 100000) (hx : Lx (bl s) 0 0 (.ok ts)) (hn : ts.length = n) :
    Calls Try.prog 18 #[.string s] w fun e w' => ∃ A cap, e = .returned (.tuple #[.slice A n cap, .agg #[.int .i64 0, .int .i64 0]]) ∧ RT w' A n ts ∧ (n ≤ cap ∧ cap ≤ 9223372036854775807) ∧ Below w.heap.size w w' := by
  subst hn
  refine (All_any s w _ hs hx).mono ?_
  rintro e w' ⟨A, cap, rfl, hown, hb⟩
  exact ⟨A, cap, rfl, RT.of_own hown, own_cap hown, hb⟩
theorem take_front {ts : List (Tok × Nat)} {m : Nat} {q : Tok × Nat} (h : m ≤ ts.length) : (ts.take m ++ [q]).take m = ts.take m := by
  rw [List.take_append_of_le_length (by rw [List.length_take]; omega), List.take_take, Nat.min_self]
theorem front_at {ts : List (Tok × Nat)} {m : Nat} {q : Tok × Nat} (h : m ≤ ts.length) : (ts.take m ++ [q])[m]? = some q := by
  rw [List.getElem?_append_right (by rw [List.length_take]; omega), List.length_take, Nat.min_eq_left h, Nat.sub_self]
  rfl

set_option maxHeartbeats 4000000 in
theorem lexFront_walk (s : ByteArray) (n : Int) (hs : s.size ≤ maxLen) (w : World) : Calls Try.prog 10 #[.string s, .int .i64 n] w fun e w' => e = .returned (.bool true) ∧ Below w.heap.size w w' := by
  obtain ⟨x, hx⟩ : ∃ x, x = s.extract 0 (min s.size 100100) := ⟨_, rfl⟩
  have hxs : x.size ≤ 100100 := by rw [hx, ByteArray.size_extract]; omega
  have hcut : ∀ W, Calls Try.prog 17 #[.string s] W fun e w' => e = .returned (.string x) ∧ W = w' := by rw [hx]; exact fun W => Cut_any s W hs
  have HCut := Lib.hid hcut
  clear hcut hx
  rcases told2 x hxs with ⟨ts, hx1, hlx, hlen, hq, hA⟩ | ⟨c, a, hd, hA⟩
  · have hne := lx_ne hlx rfl
    obtain ⟨k, hk⟩ : ∃ k, k = ts.length := ⟨_, rfl⟩
    have hk1 : 1 ≤ k := by rw [hk]; cases ts with | nil => exact absurd rfl hne | cons q r => simp
    obtain ⟨m, hm, hM⟩ := Mod_fix n k hk1 (by omega)
    have HM := Lib.hid hM
    have HA := Lib.hid (fun W => All_okc x W ts k hx1 hlx hk.symm)
    have hmt : m < ts.length := by omega
    obtain ⟨⟨t, a⟩, hta⟩ : ∃ p, ts[m]? = some p := ⟨_, List.getElem?_eq_getElem hmt⟩
    have hfr := lx_front_ok hlx rfl m t a hta
    rw [Nat.sub_zero] at hfr
    have hax : a ≤ x.size := by have := hq _ (List.mem_of_getElem? hta); simp only at this; omega
    obtain ⟨n2, hn2⟩ : ∃ n2, n2 = m + 1 := ⟨_, rfl⟩
    have hlen2 : (ts.take m ++ [(zT, a)]).length = n2 := by rw [List.length_append, List.length_take]; simp; omega
    have HA2 := Lib.hid (fun W => All_okc (x.extract 0 a) W _ n2 (by have := front_size x a; omega) (by rw [bl_front]; exact hfr) hlen2)
    have HG := Lib.hid hta
    have HG2 : Hid ((ts.take m ++ [(zT, a)])[m]? = some (zT, a)) := Lib.hid (front_at (by omega))
    have HTK : Hid ((ts.take m ++ [(zT, a)]).take m = ts.take m) := Lib.hid (take_front (by omega))
    have HS : Hid (Shifted 0 (ts.take m) (ts.take m)) := Lib.hid (shifted_self _ (fun q hq' => by have := hq q (List.mem_of_mem_take hq'); omega))
    have hk2 : k ≤ 2001 := by omega
    have q0 : (((k : Nat) : Int) == 0) = false := by simp; omega
    have qn : (((n2 : Nat) : Int) == ((m : Nat) : Int) + 1) = true := by simp; omega
    have hn2' : n2 ≤ 3000 := by omega
    have hmn : m < n2 := by omega
    clear hne hk hM hA hta hfr hlx hq hlen hlen2 hn2 hmt
    go_enter Try.func10, Try.ntmps10
    go_wp2_with (first
      | (go_at_call 16; refine (lexed_any _).mono ?_; rintro e w0 ⟨rfl, hb⟩; have HB0 := Lib.hid hb; clear hb)
      | (go_at_call 17; refine (HCut.out _).mono ?_; rintro e w' ⟨rfl, rfl⟩)
      | (go_at_call 26; refine (HM.out _).mono ?_; rintro e w' ⟨rfl, rfl⟩)
      | (go_at_call 18; ((with_reducible refine (HA.out _).mono ?_); rintro e w1 ⟨A, cap, rfl, hrt, ⟨hcp, hcm⟩, hb⟩; have HB1 := Lib.hid hb; have HT1 := Lib.hid hrt; have hz1 := hb.size; obtain ⟨g, rfl, hg, hc⟩ := hrt.at_ (by omega); have c0 := hc m _ _ HG.out; obtain ⟨_, _, _, p3⟩ := c0; clear hb hrt hc))
      | (go_at_call 18; ((with_reducible refine (HA2.out _).mono ?_); rintro e w2 ⟨A2, cap2, rfl, hrt, ⟨hcp2, hcm2⟩, hb⟩; have HT2 := Lib.hid hrt; have HB2 := Lib.hid hb; have hz2 := hb.size; rw [size_alloc1] at hz2; have r3 : w2.cell? ⟨g, m * 4 + 3, none⟩ = some (.int .i64 a) := ((below_new hb).cell (p := ⟨g, m * 4 + 3, none⟩) hg).trans p3; obtain ⟨g2, rfl, hg2, hc2⟩ := hrt.at_ (by omega); have c2 := hc2 m _ _ HG2.out; obtain ⟨s0, _, _, s3⟩ := c2; have l21 : w1.heap.size < w2.heap.size := (by omega); clear hb hrt hc2)))
    have hmc : m ≤ cap := by omega
    have lg : g < w2.heap.size := by omega
    have hmc2 : m ≤ cap2 := by omega
    have hwr : IntKind.i64.wrap ((m : Int) + 1) = m + 1 := IntWalk.i64_in _ (by omega)
    have HW1 := Lib.hid ((HT1.out.below ((below_new HB2.out).alloc (below_new HB2.out).size (.cells #[.int .i64 0, .int .i64 0] 27))).take m (by omega))
    have HW2 := Lib.hid ((HT2.out.below ((Below.refl _ _).alloc (Nat.le_refl _) (.cells #[.int .i64 0, .int .i64 0] 27))).take m (by omega))
    go_quiet ((go_at_call 20; exact Calls.quiet_of (same_true _ _ m cap cap2 (ts.take m) ((ts.take m ++ [(zT, a)]).take m) 0 _ (by omega) (HW1.out.drewN _) (HW2.out.drewN _) (by rw [HTK.out]; exact HS.out))))
    go_wp2
    go_ret
    exact ⟨rfl, drew_below ((below_then (below_then HB0.out HB1.out) (below_new HB2.out)).alloc (below_then (below_then HB0.out HB1.out) (below_new HB2.out)).size _) _⟩
  · have HA := Lib.hid hA
    have hc0 : c ≠ 0 := by
      rcases hd with ⟨_, h⟩ | ⟨_, h, _⟩
      · have := (lx_bad h rfl).1; omega
      · omega
    have q0 : (((c : Nat) : Int) != 0) = true := by simp; omega
    clear hA hd hc0
    go_enter Try.func10, Try.ntmps10
    go_wp2_with (first
      | (go_at_call 16; refine (lexed_any _).mono ?_; rintro e w0 ⟨rfl, hb⟩; have HB0 := Lib.hid hb; clear hb)
      | (go_at_call 17; refine (HCut.out _).mono ?_; rintro e w' ⟨rfl, rfl⟩)
      | (go_at_call 18; refine (HA.out _).mono ?_; rintro e w1 ⟨A, cap, rfl, hb⟩; have HB1 := Lib.hid hb; have hz1 := hb.size; clear hb))
    go_ret
    exact ⟨rfl, (below_then HB0.out HB1.out).alloc (below_then HB0.out HB1.out).size _⟩
end Go.Proofs.Ytcncbdnnakfgcaa
