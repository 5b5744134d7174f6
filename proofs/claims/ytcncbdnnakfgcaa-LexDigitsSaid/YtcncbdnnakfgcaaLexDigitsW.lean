/- The walk of LexDigits. -/
import Derived.Test.YtcncbdnnakfgcaaLexDigitsC
namespace Go.Proofs.Ytcncbdnnakfgcaa
open Go.ChangeShapes Go.WideShapes Go.ChangeAt Go.RowKit
set_option linter.unusedVariables false

theorem di_first {c : UInt8} (h : isDi c = true) : isSp c = false ∧ c.toNat ≠ 35 ∧ isLo c = false := by
  have hb := di_bounds h
  refine ⟨?_, by omega, ?_⟩
  · simp only [isSp, Bool.or_eq_false_iff, beq_eq_false_iff_ne]; omega
  · simp only [isLo, Bool.and_eq_false_iff, decide_eq_false_iff_not]; omega
theorem all_tw_di {l : Bs} (h : l.all isDi = true) : l.takeWhile isDi = l := by
  induction l with
  | nil => rfl
  | cons c r ih =>
    simp only [List.all_cons, Bool.and_eq_true] at h
    rw [takeWhile_ne h.1, ih h.2]
theorem tok_num {c : UInt8} {r : Bs} (h : (c :: r).all isDi = true) : tokT (c :: r) = numT (c :: r) := by
  have hc : isDi c = true := by simp only [List.all_cons, Bool.and_eq_true] at h; exact h.1
  rw [tokT_di _ (di_first hc).2.2 hc, all_tw_di h]
theorem lx_num {l : Bs} (h : l.all isDi = true) (hne : l ≠ []) (hz : ¬ (1 < l.length ∧ hd0 l = true)) (hv : val l ≤ 9223372036854775807) : Lx l 0 0 (.ok [(⟨2, l, val l⟩, 0), (zT, l.length)]) := by
  cases l with
  | nil => exact absurd rfl hne
  | cons c r =>
    have hc : isDi c = true := by simp only [List.all_cons, Bool.and_eq_true] at h; exact h.1
    have ht : tokT (c :: r) = (⟨2, c :: r, val (c :: r)⟩, 0) := by rw [tok_num h]; unfold numT; rw [if_neg hz, if_neg (by omega)]
    have hn := Lx.nil (0 + (tokT (c :: r)).1.text.length) 1
    have := Lx.tok (c := c) (r := r) (at_ := 0) (cnt := 0) (R := .ok [(zT, 0 + (tokT (c :: r)).1.text.length)]) (di_first hc).1 (di_first hc).2.1 (by rw [ht]) (by omega) (by
      rw [show (c :: r).drop (tokT (c :: r)).1.text.length = [] by rw [ht]; exact List.drop_length]
      exact hn)
    rw [ht] at this
    simpa [Res.app] using this
theorem lx_num_bad {l : Bs} {e : Nat} (h : l.all isDi = true) (hne : l ≠ []) (he : (numT l).2 = e) (h0 : e ≠ 0) : Lx l 0 0 (.bad e 0) := by
  cases l with
  | nil => exact absurd rfl hne
  | cons c r =>
    have hc : isDi c = true := by simp only [List.all_cons, Bool.and_eq_true] at h; exact h.1
    have := Lx.bad (c := c) (r := r) (at_ := 0) (cnt := 0) (di_first hc).1 (di_first hc).2.1 (by rw [tok_num h, he]; exact h0)
    rw [tok_num h, he] at this
    exact this
theorem dec_ne (k : Nat) : dec k ≠ [] := by
  obtain ⟨c, r, h, _⟩ := dec_head k
  rw [h]
  simp
theorem dec_ok (k : Nat) (hk : k ≤ 9223372036854775807) : Lx (dec k) 0 0 (.ok [(⟨2, dec k, k⟩, 0), (zT, (dec k).length)]) := by
  have h := lx_num (dec_all k) (dec_ne k) (by
    rintro ⟨h1, h2⟩
    obtain ⟨c, r, h, _, h3⟩ := dec_head k
    rw [h] at h2
    simp only [hd0, beq_iff_eq] at h2
    have := h3 h2
    subst this
    rw [dec_lt (by omega)] at h1
    simp at h1) (by rw [dec_val]; exact hk)
  rw [dec_val] at h
  exact h
theorem dec_pre (k : Nat) : Lx ([48] ++ dec k) 0 0 (.bad 2 0) := by
  refine lx_num_bad (by rw [List.all_append, dec_all]; rfl) (by simp) ?_ (by omega)
  have hl : 1 ≤ (dec k).length := by obtain ⟨c, r, h, _⟩ := dec_head k; rw [h]; simp
  unfold numT
  rw [if_pos ⟨by rw [List.length_append]; simp; omega, rfl⟩]
theorem dec_post_all (k : Nat) : (dec k ++ [48]).all isDi = true := by rw [List.all_append, dec_all]; rfl
theorem dec_post_zero : Lx (dec 0 ++ [48]) 0 0 (.bad 2 0) := by
  refine lx_num_bad (dec_post_all 0) (by simp) ?_ (by omega)
  rw [dec_lt (by omega)]
  rfl
theorem dec_post_no0 {k : Nat} (h : k ≠ 0) : ¬ (1 < (dec k ++ [48]).length ∧ hd0 (dec k ++ [48]) = true) := by
  rintro ⟨_, h2⟩
  obtain ⟨c, r, h1, _, h3⟩ := dec_head k
  rw [h1, List.cons_append] at h2
  simp only [hd0, beq_iff_eq] at h2
  exact h (h3 h2)
theorem dec_post_val (k : Nat) : val (dec k ++ [48]) = 10 * k := by rw [val_snoc, dec_val]; rfl
theorem dec_post_ok {k : Nat} (h : k ≠ 0) (hk : k ≤ 922337203685477580) : Lx (dec k ++ [48]) 0 0 (.ok [(⟨2, dec k ++ [48], val (dec k ++ [48])⟩, 0), (zT, (dec k ++ [48]).length)]) :=
  lx_num (dec_post_all k) (by simp) (dec_post_no0 h) (by rw [dec_post_val]; omega)
theorem dec_post_big {k : Nat} (h : k ≠ 0) (hk : 922337203685477580 < k) : Lx (dec k ++ [48]) 0 0 (.bad 4 0) := by
  refine lx_num_bad (dec_post_all k) (by simp) ?_ (by omega)
  unfold numT
  rw [if_neg (dec_post_no0 h), if_pos (by rw [dec_post_val]; omega)]

set_option maxHeartbeats 4000000 in
theorem lexDigits_nat (k : Nat) (hk : k ≤ 9223372036854775807) (w : World) : Calls Try.prog 12 #[.int .i64 k] w fun e w' => e = .returned (.bool true) ∧ Below w.heap.size w w' := by
  have HDec := Lib.hid (fun W => Dec_any k hk W)
  have hsh := dec_short k hk
  have hs : (bs (dec k)).size ≤ 19 := by rw [size_bl, bl_bs]; exact hsh
  have HA := Lib.hid (fun W => All_ok (bs (dec k)) W _ 2 (by omega) (by rw [bl_bs]; exact dec_ok k hk) rfl)
  have HA2 := Lib.hid (fun W => All_bad (⟨#[48]⟩ ++ bs (dec k)) W 2 0 (by rw [size_bl, bl_append, bl_bs, List.length_append]; show 1 + _ ≤ _; omega) (by rw [bl_append, bl_bs]; exact dec_pre k))
  have hsz3 : (bs (dec k) ++ ⟨#[48]⟩ : ByteArray).size ≤ 100000 := by rw [size_bl, bl_append, bl_bs, List.length_append]; show _ + 1 ≤ _; omega
  have hbl3 : bl (bs (dec k) ++ ⟨#[48]⟩ : ByteArray) = dec k ++ [48] := by rw [bl_append, bl_bs]
  clear hsh
  by_cases h0 : k = 0
  · have HA3 := Lib.hid (fun W => All_bad (bs (dec k) ++ ⟨#[48]⟩) W 2 0 hsz3 (by rw [hbl3, h0]; exact dec_post_zero))
    have q0 : (((k : Nat) : Int) == 0) = true := by rw [h0]; rfl
    clear h0 hsz3 hbl3
    go_enter Try.func12, Try.ntmps12
    go_wp2_with (first
      | (go_at_call 16; refine (lexed_any _).mono ?_; rintro e w0 ⟨rfl, hb⟩; have HB0 := Lib.hid hb; clear hb)
      | (go_at_call 27; refine (HDec.out _).mono ?_; rintro e wd ⟨rfl, hb⟩; have HBd := Lib.hid hb; clear hb)
      | (go_at_call 18; ((with_reducible refine (HA.out _).mono ?_); rintro e w1 ⟨A, cap, rfl, hrt, hb⟩; have HB1 := Lib.hid hb; have hz1 := hb.size; obtain ⟨g, rfl, hg, hc⟩ := hrt.at_ (by omega); have c0 := hc 0 _ _ rfl; obtain ⟨p0, p1, p2, p3⟩ := c0; clear hb hrt hc))
      | (go_at_call 18; ((with_reducible refine (HA2.out _).mono ?_); rintro e w2 ⟨A2, cap2, rfl, hb⟩; have HB2 := Lib.hid hb; have hz2 := hb.size; rw [size_alloc1] at hz2; have l21 : w1.heap.size ≤ w2.heap.size := (by omega); have l21' : w1.heap.size < w2.heap.size := (by omega); obtain ⟨hc2, hf2⟩ := bcell hb; clear hb))
      | (go_at_call 18; ((with_reducible refine (HA3.out _).mono ?_); rintro e w3 ⟨A3, cap3, rfl, hb⟩; have HB3 := Lib.hid hb; have hz3 := hb.size; rw [size_alloc1] at hz3; have l31 : w1.heap.size ≤ w3.heap.size := (by omega); have l31' : w1.heap.size < w3.heap.size := (by omega); have l32 : w2.heap.size ≤ w3.heap.size := (by omega); have l32' : w2.heap.size < w3.heap.size := (by omega); obtain ⟨hc3, hf3⟩ := bcell hb; clear hb)))
    go_ret
    refine ⟨?_, (below_then (below_then (below_then (below_then HB0.out HBd.out) HB1.out) (below_new HB2.out)) (below_new HB3.out)).alloc (below_then (below_then (below_then (below_then HB0.out HBd.out) HB1.out) (below_new HB2.out)) (below_new HB3.out)).size _⟩
    first | rfl | exact ret_bool (by simp; omega)
  · have q0 : (((k : Nat) : Int) == 0) = false := by simp; omega
    by_cases hb : k ≤ 922337203685477580
    · have HA3 := Lib.hid (fun W => All_ok (bs (dec k) ++ ⟨#[48]⟩) W _ 2 hsz3 (by rw [hbl3]; exact dec_post_ok h0 hb) rfl)
      clear h0 hsz3 hbl3
      go_enter Try.func12, Try.ntmps12
      go_wp2_with (first
        | (go_at_call 16; refine (lexed_any _).mono ?_; rintro e w0 ⟨rfl, hb⟩; have HB0 := Lib.hid hb; clear hb)
        | (go_at_call 27; refine (HDec.out _).mono ?_; rintro e wd ⟨rfl, hb⟩; have HBd := Lib.hid hb; clear hb)
        | (go_at_call 18; ((with_reducible refine (HA.out _).mono ?_); rintro e w1 ⟨A, cap, rfl, hrt, hb⟩; have HB1 := Lib.hid hb; have hz1 := hb.size; obtain ⟨g, rfl, hg, hc⟩ := hrt.at_ (by omega); have c0 := hc 0 _ _ rfl; obtain ⟨p0, p1, p2, p3⟩ := c0; clear hb hrt hc))
        | (go_at_call 18; ((with_reducible refine (HA2.out _).mono ?_); rintro e w2 ⟨A2, cap2, rfl, hb⟩; have HB2 := Lib.hid hb; have hz2 := hb.size; rw [size_alloc1] at hz2; have l21 : w1.heap.size ≤ w2.heap.size := (by omega); have l21' : w1.heap.size < w2.heap.size := (by omega); obtain ⟨hc2, hf2⟩ := bcell hb; clear hb))
        | (go_at_call 18; ((with_reducible refine (HA3.out _).mono ?_); rintro e w3 ⟨A3, cap3, rfl, _, hb⟩; have HB3 := Lib.hid hb; have hz3 := hb.size; rw [size_alloc1] at hz3; have l31 : w1.heap.size ≤ w3.heap.size := (by omega); have l31' : w1.heap.size < w3.heap.size := (by omega); have l32 : w2.heap.size ≤ w3.heap.size := (by omega); have l32' : w2.heap.size < w3.heap.size := (by omega); obtain ⟨hc3, hf3⟩ := bcell hb; clear hb)))
      go_ret
      refine ⟨?_, (below_then (below_then (below_then (below_then HB0.out HBd.out) HB1.out) (below_new HB2.out)) (below_new HB3.out)).alloc (below_then (below_then (below_then (below_then HB0.out HBd.out) HB1.out) (below_new HB2.out)) (below_new HB3.out)).size _⟩
      first | rfl | exact ret_bool (by simp; omega)
    · have HA3 := Lib.hid (fun W => All_bad (bs (dec k) ++ ⟨#[48]⟩) W 4 0 hsz3 (by rw [hbl3]; exact dec_post_big h0 (by omega)))
      clear h0 hsz3 hbl3
      go_enter Try.func12, Try.ntmps12
      go_wp2_with (first
        | (go_at_call 16; refine (lexed_any _).mono ?_; rintro e w0 ⟨rfl, hb⟩; have HB0 := Lib.hid hb; clear hb)
        | (go_at_call 27; refine (HDec.out _).mono ?_; rintro e wd ⟨rfl, hb⟩; have HBd := Lib.hid hb; clear hb)
        | (go_at_call 18; ((with_reducible refine (HA.out _).mono ?_); rintro e w1 ⟨A, cap, rfl, hrt, hb⟩; have HB1 := Lib.hid hb; have hz1 := hb.size; obtain ⟨g, rfl, hg, hc⟩ := hrt.at_ (by omega); have c0 := hc 0 _ _ rfl; obtain ⟨p0, p1, p2, p3⟩ := c0; clear hb hrt hc))
        | (go_at_call 18; ((with_reducible refine (HA2.out _).mono ?_); rintro e w2 ⟨A2, cap2, rfl, hb⟩; have HB2 := Lib.hid hb; have hz2 := hb.size; rw [size_alloc1] at hz2; have l21 : w1.heap.size ≤ w2.heap.size := (by omega); have l21' : w1.heap.size < w2.heap.size := (by omega); obtain ⟨hc2, hf2⟩ := bcell hb; clear hb))
        | (go_at_call 18; ((with_reducible refine (HA3.out _).mono ?_); rintro e w3 ⟨A3, cap3, rfl, hb⟩; have HB3 := Lib.hid hb; have hz3 := hb.size; rw [size_alloc1] at hz3; have l31 : w1.heap.size ≤ w3.heap.size := (by omega); have l31' : w1.heap.size < w3.heap.size := (by omega); have l32 : w2.heap.size ≤ w3.heap.size := (by omega); have l32' : w2.heap.size < w3.heap.size := (by omega); obtain ⟨hc3, hf3⟩ := bcell hb; clear hb)))
      go_ret
      refine ⟨?_, (below_then (below_then (below_then (below_then HB0.out HBd.out) HB1.out) (below_new HB2.out)) (below_new HB3.out)).alloc (below_then (below_then (below_then (below_then HB0.out HBd.out) HB1.out) (below_new HB2.out)) (below_new HB3.out)).size _⟩
      first | rfl | exact ret_bool (by simp; omega)

theorem lexDigits_walk (n : Int) (h1 : n ≤ 9223372036854775807) (w : World) : Calls Try.prog 12 #[.int .i64 n] w fun e w' => e = .returned (.bool true) ∧ Below w.heap.size w w' := by
  by_cases hn : n < 0
  · go_enter Try.func12, Try.ntmps12
    go_wp2_with (first
      | (go_at_call 16; refine (lexed_any _).mono ?_; rintro e w0 ⟨rfl, hb⟩; have HB0 := Lib.hid hb; clear hb))
    go_ret
    exact ⟨rfl, HB0.out⟩
  · obtain ⟨k, rfl⟩ : ∃ k : Nat, n = k := ⟨n.toNat, by omega⟩
    exact lexDigits_nat k (by omega) w
end Go.Proofs.Ytcncbdnnakfgcaa
