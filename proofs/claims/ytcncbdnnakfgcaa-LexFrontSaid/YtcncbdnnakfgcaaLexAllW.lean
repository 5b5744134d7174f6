/- The walk of LexAll. -/
import Derived.Test.YtcncbdnnakfgcaaLexR4
namespace Go.Proofs.Ytcncbdnnakfgcaa
open Go.ChangeShapes Go.WideShapes Go.ChangeAt Go.RowKit
set_option linter.unusedVariables false

theorem drew_below {B : Nat} {w w' : World} (h : Below B w w') (k : Nat) : Below B w (w'.drewN k) := ⟨h.os, h.tape, h.output, h.size, h.block⟩
theorem toks_app (p : List (Tok × Nat)) (R : Res) : ∀ q ∈ (Res.app p R).toks, q ∈ p ∨ q ∈ R.toks := by
  intro q hq
  cases R with
  | ok ts => simpa [Res.app, Res.toks] using hq
  | bad c a => simp [Res.app, Res.toks] at hq
/-- where the tokens stand -/
theorem lx_bound {l : Bs} {at_ cnt : Nat} {R : Res} (h : Lx l at_ cnt R) : ∀ q ∈ R.toks, at_ ≤ q.2 ∧ q.2 + q.1.text.length ≤ at_ + l.length := by
  induction h with
  | nil at_ cnt => intro q hq; simp [Res.toks] at hq; subst hq; simp [zT]
  | sp h t ih => intro q hq; have := ih q hq; simp only [List.length_cons]; omega
  | @rem c r at_ cnt R h h35 t ih =>
    intro q hq
    have h1 := ih q hq
    have h2 : (r.takeWhile notNl).length + (r.dropWhile notNl).length = r.length := by rw [← List.length_append, List.takeWhile_append_dropWhile]
    simp only [List.length_cons]
    omega
  | bad h h35 e => intro q hq; simp [Res.toks] at hq
  | full h h35 e hc => intro q hq; simp [Res.toks] at hq
  | @tok c r at_ cnt R h h35 e hc t ih =>
    intro q hq
    have hx := tok_text e
    have hl := congrArg List.length hx.2
    rw [List.length_take] at hl
    rcases toks_app _ _ q hq with hq | hq
    · simp at hq
      subst hq
      simp only
      omega
    · have := ih q hq
      rw [List.length_drop] at this
      omega
/-- of a text that is cut, what is told of it: by All and by the reference -/
theorem told (x : ByteArray) (hx : x.size ≤ 100100) : ∃ R : Res, (∀ W, Calls Try.prog 18 #[.string x] W (AllPost R W)) ∧ (∀ W, Calls Try.prog 19 #[.string x] W (AllPost R W)) ∧ (∀ q ∈ R.toks, q.2 ≤ 100000) ∧
    ((x.size ≤ 100000 ∧ Lx (bl x) 0 0 R) ∨ (100000 < x.size ∧ R = .bad 4 0)) := by
  by_cases h : x.size ≤ 100000
  · obtain ⟨R, hR⟩ := lx_total _ (bl x) 0 0 (Nat.le_refl _)
    refine ⟨R, fun W => All_any x W R h hR, fun W => rLex_any x W R h hR, fun q hq => ?_, .inl ⟨h, hR⟩⟩
    have := lx_bound hR q hq
    rw [← size_bl] at this
    omega
  · exact ⟨.bad 4 0, fun W => All_long x W (by omega) (by unfold maxLen; omega), fun W => rLex_long x W (by omega) (by unfold maxLen; omega), fun q hq => by simp [Res.toks] at hq, .inr ⟨by omega, rfl⟩⟩
theorem shifted_self (ts : List (Tok × Nat)) (h : ∀ q ∈ ts, q.2 ≤ 100000) : Shifted 0 ts ts := by
  intro i t a hi
  have := h _ (List.mem_of_getElem? hi)
  simp only at this
  exact ⟨a, hi, by omega, by omega, by omega⟩
theorem toks_len {x : ByteArray} {R : Res} (h : (x.size ≤ 100000 ∧ Lx (bl x) 0 0 R) ∨ (100000 < x.size ∧ R = .bad 4 0)) : R.toks.length ≤ 2001 := by
  have key : ∀ {l : Bs} {at_ cnt : Nat} {R : Res}, Lx l at_ cnt R → cnt ≤ 2000 → cnt + R.toks.length ≤ 2001 := by
    intro l at_ cnt R h
    induction h with
    | nil => intro hc; simp [Res.toks]; omega
    | sp h t ih => exact ih
    | rem h h35 t ih => exact ih
    | bad h h35 e => intro hc; simp [Res.toks]; omega
    | full h h35 e hc => intro hc; simp [Res.toks]; omega
    | @tok c r at_ cnt R h h35 e hc t ih =>
      intro hc
      have := ih (by omega)
      cases R with
      | ok ts => simp [Res.app, Res.toks] at this ⊢; omega
      | bad c a => simp [Res.app, Res.toks] at this ⊢; omega
  rcases h with ⟨_, h⟩ | ⟨_, rfl⟩
  · have := key h (by omega); omega
  · simp [Res.toks]

set_option maxHeartbeats 4000000 in
theorem lexAll_walk (s : ByteArray) (hs : s.size ≤ maxLen) (w : World) : Calls Try.prog 3 #[.string s] w fun e w' => e = .returned (.bool true) ∧ Below w.heap.size w w' := by
  obtain ⟨x, hx⟩ : ∃ x, x = s.extract 0 (min s.size 100100) := ⟨_, rfl⟩
  have hxs : x.size ≤ 100100 := by rw [hx, ByteArray.size_extract]; omega
  have hcut : ∀ W, Calls Try.prog 17 #[.string s] W fun e w' => e = .returned (.string x) ∧ W = w' := by rw [hx]; exact fun W => Cut_any s W hs
  obtain ⟨R, hA, hL, hq, hd⟩ := told x hxs
  have hlen := toks_len hd
  have HCut := Lib.hid hcut
  have HA := Lib.hid hA
  have HL := Lib.hid hL
  have HQ := Lib.hid (shifted_self _ hq)
  clear hcut hA hL hq hd hx
  go_enter Try.func3, Try.ntmps3
  go_wp2_with (first
    | (go_at_call 16; refine (lexed_any _).mono ?_; rintro e w0 ⟨rfl, hb⟩; have HB0 := Lib.hid hb; clear hb)
    | (go_at_call 17; refine (HCut.out _).mono ?_; rintro e w' ⟨rfl, rfl⟩)
    | (go_at_call 18; refine (HA.out _).mono ?_; rintro e w1 ⟨A, cap, rfl, hown, hb⟩; have HB1 := Lib.hid hb; have HT1 := Lib.hid (RT.of_own hown); have hz1 := hb.size; clear hown hb)
    | (go_at_call 19; refine (HL.out _).mono ?_; rintro e w2 ⟨A2, cap2, rfl, hown, hb⟩; have HB2 := Lib.hid hb; have HT2 := Lib.hid (RT.of_own hown); have hz2 := hb.size; rw [size_alloc1] at hz2; have l21 : w1.heap.size < w2.heap.size := (by omega); obtain ⟨hc2, hf2⟩ := bcell hb; clear hown hb)
    | (go_at_call 20; refine (same_true A A2 _ cap cap2 R.toks R.toks 0 _ (by omega) (HT1.out.below ((below_new HB2.out).alloc (below_new HB2.out).size _)) (HT2.out.below ((Below.refl _ _).alloc (Nat.le_refl _) _)) HQ.out).mono ?_; rintro e w3 ⟨rfl, kk, rfl⟩))
  go_ret
  exact ⟨rfl, drew_below ((below_then (below_then HB0.out HB1.out) (below_new HB2.out)).alloc (below_then (below_then HB0.out HB1.out) (below_new HB2.out)).size _) kk⟩
end Go.Proofs.Ytcncbdnnakfgcaa
