/- Lists of texts in memory: reading one, rows of the call's own as such lists; EqTexts (whittlerref3). -/
import Derived.Test.YtdjckmpfblaliaaTreeS
import Derived.Test.YtdjckmpfblaliaaTreeM
import Derived.Deep.AppendLies
namespace Go.Proofs.Ytdjckmpfblaliaa
open Go.ChangeShapes Go.WideShapes Go.ChangeAt Go.RowKit Go.Deep
set_option linter.unusedVariables false

theorem SliceI.shape {α : Type} {w : World} {Q : Nat → Prop} {C : Nat} {R : α → List Value → Prop} {l : List α} {v : Value} (h : SliceI w Q C R l v) : ∃ A cap, v = .slice A l.length cap ∧ l.length ≤ cap ∧ cap ≤ 9223372036854775807 := by
  obtain ⟨A, cap, css, h1, h2, h3, h4⟩ := h
  exact ⟨A, cap, h1, h2.1, h2.2⟩
theorem SliceI.into {α : Type} {w W : World} {Q : Nat → Prop} {C : Nat} {R : α → List Value → Prop} {l : List α} {v : Value} (h : SliceI w Q C R l v) (hI : In Q w W) : SliceI W Q C R l v := h.keep (fun _ h => h) hI.2 fun _ _ _ h => h
theorem text_at {w W : World} {Q : Nat → Prop} {l : List ByteArray} {A : Option Addr} {n cap : Nat} (h : TextsI w Q l (.slice A n cap)) (hI : In Q w W) {k : Nat} (hk : k < l.length) :
    ∃ a, A = some a ∧ Q a.block ∧ W.cell? (a.add k) = some (.string l[k]) ∧ l[k].size ≤ 9223372036854775807 := by
  obtain ⟨A', cap', css, h1, h2, h3, h4⟩ := h
  injection h1 with hA hn hc
  subst hA
  obtain ⟨a, rfl, hq, hc⟩ := h3 (by omega)
  obtain ⟨h5, h6⟩ := h4 k hk
  refine ⟨a, rfl, hq, ?_, h6⟩
  have := hc k hk 0 (.string l[k]) (by rw [h5]; rfl)
  rw [Nat.mul_one, Nat.add_zero] at this
  exact (hI.cell (by rw [block_add]; exact hq)).trans this

def strs (l : List ByteArray) : List Value := l.map Value.string
theorem strs_append (a b : List ByteArray) : strs (a ++ b) = strs a ++ strs b := by simp [strs]
/-- a row of the call's own, of texts, reads as a list of texts -/
theorem texts_of_own {w : World} {base n : Nat} {l : List ByteArray} {v : Value} (hl : ∀ s ∈ l, s.size ≤ 9223372036854775807) (h : w.ownsRow base 9 1 v n (strs l)) : n = l.length ∧ TextsI w (fun b => base ≤ b ∧ b < w.heap.size) l v := by
  obtain ⟨h1, h2⟩ := h
  have hn : n = l.length := by simp [strs] at h1; omega
  refine ⟨hn, ?_⟩
  subst hn
  rcases h2 with ⟨rfl, h0⟩ | ⟨g, cap, cur, rfl, hb, hg, hnc, hcm, hsz, htk⟩
  · refine ⟨none, 0, fun _ => [], ?_, ⟨by omega, by omega⟩, fun h => absurd h (by omega), fun i h => absurd h (by omega)⟩
    rw [h0]
  · unfold maxLen at hcm
    refine ⟨some ⟨g, 0, none⟩, cap, fun i => [.string (l.getD i ⟨#[]⟩)], rfl, ⟨hnc, by omega⟩, fun h0 => ⟨_, rfl, ⟨hb, (Array.getElem?_eq_some_iff.1 hg).1⟩, fun i hi j u hu => ?_⟩, fun i hi => ⟨by simp [hi], hl _ (List.getElem_mem hi)⟩⟩
    have hj : j = 0 := by have := (List.getElem?_eq_some_iff.1 hu).1; simp at this; exact this
    subst hj
    simp only [List.getElem?_cons_zero, Option.some.injEq] at hu
    subst hu
    have hc : w.cell? ⟨g, i, none⟩ = cur[i]? := cell_of_row w g i cur _ (0, 0) hg
    have ha : (⟨g, 0, none⟩ : Addr).add (i * 1 + 0) = ⟨g, i, none⟩ := by
      unfold Addr.add
      by_cases h0 : i * 1 + 0 = 0
      · rw [if_pos (by simpa using h0)]; simp at h0; rw [h0]
      · rw [if_neg (by simpa using h0)]; simp
    rw [ha, hc]
    have h5 : (cur.toList.take (l.length * 1))[i]? = (strs l)[i]? := by rw [htk]
    rw [List.getElem?_take, if_pos (by omega)] at h5
    rw [Array.getElem?_toList] at h5
    rw [h5]
    simp [strs, hi]
theorem dec_bytes (a b : ByteArray) : (a.toList == b.toList) = decide (a = b) := by
  rw [Bool.eq_iff_iff]
  simp only [beq_iff_eq, decide_eq_true_eq]
  constructor
  · intro h
    rw [bl_toList, bl_toList] at h
    rw [← bs_bl a, ← bs_bl b, h]
  · intro h; rw [h]
theorem take_eq_step {α : Type} {a b : List α} {k : Nat} (ha : k < a.length) (hb : k < b.length) (h : a.take k = b.take k) (he : a[k] = b[k]) : a.take (k + 1) = b.take (k + 1) := by
  rw [List.take_succ_eq_append_getElem ha, List.take_succ_eq_append_getElem hb, h, he]
theorem ne_of_at {α : Type} {a b : List α} {k : Nat} (ha : k < a.length) (hb : k < b.length) (he : a[k] ≠ b[k]) : a ≠ b := by
  rintro rfl; exact he rfl

set_option maxHeartbeats 1000000 in
theorem EqTexts_any {w1 w2 W : World} {Q1 Q2 : Nat → Prop} {l1 l2 : List ByteArray} {v1 v2 : Value} (h1 : TextsI w1 Q1 l1 v1) (h2 : TextsI w2 Q2 l2 v2) (hI1 : In Q1 w1 W) (hI2 : In Q2 w2 W) :
    Calls Try.prog 17 #[v1, v2] W (MayOk (decide (l1 = l2)) W) := by
  obtain ⟨A1, k1, rfl, hlc1, hc1⟩ := h1.shape
  obtain ⟨A2, k2, rfl, hlc2, hc2⟩ := h2.shape
  have H1 := Lib.hid h1
  have H2 := Lib.hid h2
  have HI1 := Lib.hid hI1
  have HI2 := Lib.hid hI2
  clear h1 h2 hI1 hI2
  cases hl : (((l1.length : Nat) : Int) == ((l2.length : Nat) : Int)) with
  | false =>
    have hne : l1.length ≠ l2.length := by intro e; rw [e] at hl; simp at hl
    have HM : Hid (decide (l1 = l2) = false) := Lib.hid (decide_eq_false (by rintro rfl; exact hne rfl))
    have hb : (((l1.length : Nat) : Int) != ((l2.length : Nat) : Int)) = true := by rw [bne, hl]; rfl
    clear hl hne
    go_enter Try.func17, Try.ntmps17
    go_wp2_with fail
    go_ret
    exact ⟨ret_bool HM.out.symm, Below.refl _ _⟩
  | true =>
    have heq : l1.length = l2.length := by have := eq_of_beq hl; omega
    have hb : (((l1.length : Nat) : Int) != ((l2.length : Nat) : Int)) = false := by rw [bne, hl]; rfl
    have he1 : l1.length ≤ l2.length := by omega
    have he2 : l2.length ≤ l1.length := by omega
    clear hl heq
    go_enter Try.func17, Try.ntmps17
    go_wp2_with fail
    go_loopw [13] (fun i wr => ∃ k : Nat, k ≤ l1.length ∧ i = .int .i64 k ∧ Hid (l1.take k = l2.take k) ∧ Hid (Below W.heap.size W wr)) (fun i _ => l1.length - (intOf i).toNat)
    case atStart => exact ⟨0, Nat.zero_le _, rfl, Lib.hid (by simp), Lib.hid (Below.refl _ _)⟩
    case round =>
      obtain ⟨k, hk, rfl, HT, HR⟩ := hrel
      by_cases hlt : k < l1.length
      · obtain ⟨a1, rfl, _, p1, _⟩ := text_at H1.out (HI1.out.on HR.out) hlt
        obtain ⟨a2, rfl, _, p2, _⟩ := text_at H2.out (HI2.out.on HR.out) (show k < l2.length by omega)
        have hk2 : (k : Int) < (l2.length : Int) := by omega
        cases hv : (l1[k].toList == l2[k].toList) with
        | true =>
          have HN : Hid (l1.take (k + 1) = l2.take (k + 1)) := Lib.hid (take_eq_step hlt (by omega) HT.out (by rw [dec_bytes] at hv; simpa using hv))
          obtain ⟨x1, hx1⟩ : ∃ x, x = l1[k] := ⟨_, rfl⟩
          obtain ⟨x2, hx2⟩ : ∃ x, x = l2[k] := ⟨_, rfl⟩
          rw [← hx1] at p1 hv
          rw [← hx2] at p2 hv
          clear hx1 hx2
          go_wp2_with fail
          go_quiet (fail)
          go_wp2_with fail
          go_roundw
          case rel => exact ⟨k + 1, by omega, by go_num, HN, Lib.hid (below_drewN HR.out _)⟩
          case measure => simp [intOf]; omega
        | false =>
          have HN : Hid (decide (l1 = l2) = false) := Lib.hid (decide_eq_false (ne_of_at hlt (by omega) (by rw [dec_bytes] at hv; simpa using hv)))
          obtain ⟨x1, hx1⟩ : ∃ x, x = l1[k] := ⟨_, rfl⟩
          obtain ⟨x2, hx2⟩ : ∃ x, x = l2[k] := ⟨_, rfl⟩
          rw [← hx1] at p1 hv
          rw [← hx2] at p2 hv
          clear hx1 hx2
          go_wp2_with fail
          go_quiet (fail)
          go_wp2_with fail
          go_ret
          exact ⟨ret_bool HN.out.symm, below_drewN HR.out _⟩
      · have HN : Hid (decide (l1 = l2) = true) := Lib.hid (by
          have := HT.out
          rw [List.take_of_length_le (by omega), List.take_of_length_le (by omega)] at this
          exact decide_eq_true this)
        go_wp2_with fail
        go_ret
        exact ⟨ret_bool HN.out.symm, HR.out⟩
end Go.Proofs.Ytdjckmpfblaliaa
