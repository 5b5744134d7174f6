/- Contracts of the laws' own helpers: same, Cut, lexed; and what a slice of tokens reads. -/
import Derived.Test.YtcncbdnnakfgcaaLexB
import Derived.Deep.QuietTactic
import Derived.BigQuiet
import Derived.Deep.Draws
import Derived.IntWalk
namespace Go.Proofs.Ytcncbdnnakfgcaa
open Go.ChangeShapes Go.WideShapes Go.ChangeAt Go.RowKit
set_option linter.unusedVariables false

/-- the slice (A, n) reads as the tokens ts, in the world w -/
def RT (w : World) (A : Option Addr) (n : Nat) (ts : List (Tok × Nat)) : Prop :=
  ts.length = n ∧ (0 < n → ∃ g, A = some ⟨g, 0, none⟩ ∧ g < w.heap.size ∧ ∀ (i : Nat) (t : Tok) (a : Nat), ts[i]? = some (t, a) →
    w.cell? ⟨g, i * 4, none⟩ = some (.int .i64 t.kind) ∧ w.cell? ⟨g, i * 4 + 1, none⟩ = some (.string (bs t.text)) ∧ w.cell? ⟨g, i * 4 + 2, none⟩ = some (.int .i64 t.n) ∧ w.cell? ⟨g, i * 4 + 3, none⟩ = some (.int .i64 a))
theorem RT.below {w w' : World} {A : Option Addr} {n : Nat} {ts : List (Tok × Nat)} (h : RT w A n ts) (hb : Below w.heap.size w w') : RT w' A n ts := by
  refine ⟨h.1, fun hn => ?_⟩
  obtain ⟨g, hA, hg, hc⟩ := h.2 hn
  have hs := hb.size
  refine ⟨g, hA, by omega, fun i t a hi => ?_⟩
  obtain ⟨h0, h1, h2, h3⟩ := hc i t a hi
  exact ⟨(hb.cell (p := ⟨g, i * 4, none⟩) hg).trans h0, (hb.cell (p := ⟨g, i * 4 + 1, none⟩) hg).trans h1, (hb.cell (p := ⟨g, i * 4 + 2, none⟩) hg).trans h2, (hb.cell (p := ⟨g, i * 4 + 3, none⟩) hg).trans h3⟩
theorem RT.take {w : World} {A : Option Addr} {n : Nat} {ts : List (Tok × Nat)} (h : RT w A n ts) (k : Nat) (hk : k ≤ n) : RT w A k (ts.take k) := by
  refine ⟨by rw [List.length_take, h.1]; omega, fun hn => ?_⟩
  obtain ⟨g, hA, hg, hc⟩ := h.2 (by omega)
  refine ⟨g, hA, hg, fun i t a hi => ?_⟩
  rw [List.getElem?_take] at hi
  split at hi
  · exact hc i t a hi
  · cases hi
theorem cellsT_get (ts : List (Tok × Nat)) : ∀ (i : Nat) (t : Tok) (a : Nat), ts[i]? = some (t, a) →
    (cellsT ts)[i * 4]? = some (.int .i64 t.kind) ∧ (cellsT ts)[i * 4 + 1]? = some (.string (bs t.text)) ∧ (cellsT ts)[i * 4 + 2]? = some (.int .i64 t.n) ∧ (cellsT ts)[i * 4 + 3]? = some (.int .i64 a) := by
  induction ts with
  | nil => intro i t a h; simp at h
  | cons p ts ih =>
    intro i t a h
    have hc : cellsT (p :: ts) = .int .i64 p.1.kind :: .string (bs p.1.text) :: .int .i64 p.1.n :: .int .i64 p.2 :: cellsT ts := by simp [cellsT]
    rw [hc]
    cases i with
    | zero =>
      simp at h
      subst h
      exact ⟨rfl, rfl, rfl, rfl⟩
    | succ i =>
      simp only [List.getElem?_cons_succ] at h
      have h4 : (i + 1) * 4 = i * 4 + 4 := by omega
      rw [h4]
      exact ih i t a h
theorem RT.of_own {w : World} {b : Nat} {A : Option Addr} {cap : Nat} {ts : List (Tok × Nat)} (h : w.ownsRow b 33 4 (.slice A ts.length cap) ts.length (cellsT ts)) : RT w A ts.length ts := by
  refine ⟨rfl, fun hn => ?_⟩
  rcases h.2 with ⟨_, h0⟩ | ⟨g, cap', cur, hv, _, hg, _⟩
  · omega
  · injection hv with hA
    refine ⟨g, hA, (Array.getElem?_eq_some_iff.1 hg).1, fun i t a hi => ?_⟩
    have hadd : ∀ j, (⟨g, 0, none⟩ : Addr).add j = ⟨g, j, none⟩ := fun j => by unfold Addr.add; split <;> simp_all
    have hc := h.cells (g := g) (by rw [hA]; rfl)
    obtain ⟨h0, h1, h2, h3⟩ := cellsT_get ts i t a hi
    have r0 := hc _ _ h0
    have r1 := hc _ _ h1
    have r2 := hc _ _ h2
    have r3 := hc _ _ h3
    rw [hadd] at r0 r1 r2 r3
    exact ⟨r0, r1, r2, r3⟩

/-- the tokens xs are those of ys, each so much farther on -/
def Shifted (on : Int) (xs ys : List (Tok × Nat)) : Prop := ∀ (i : Nat) (t : Tok) (a : Nat), xs[i]? = some (t, a) → ∃ b : Nat, ys[i]? = some (t, b) ∧ (a : Int) = b - on ∧ -9223372036854775808 ≤ (b : Int) - on ∧ (b : Int) - on ≤ 9223372036854775807

set_option maxHeartbeats 4000000 in
theorem same_true (A B : Option Addr) (n ca cb : Nat) (xs ys : List (Tok × Nat)) (on : Int) (w : World) (hn : n ≤ 1000000) (ha : RT w A n xs) (hb : RT w B n ys) (h : Shifted on xs ys) :
    Calls Try.prog 20 #[.slice A n ca, .slice B n cb, .int .i64 on] w fun e w' => e = .returned (.bool true) ∧ ∃ k, w' = w.drewN k := by
  have HA := Lib.hid ha
  have HB := Lib.hid hb
  have HS := Lib.hid h
  clear ha hb h
  go_enter Try.func20, Try.ntmps20
  go_wp2
  go_loopw [7, 15] (fun _ i wr => ∃ k m : Nat, k ≤ n ∧ i = .int .i64 k ∧ wr = w.drewN m) (fun _ i _ => n - (intOf i).toNat)
  case atStart => exact ⟨0, 0, Nat.zero_le _, rfl, rfl⟩
  case round =>
    obtain ⟨k, m, hk, rfl, rfl⟩ := hrel
    by_cases hlt : k < n
    · obtain ⟨g, rfl, hg, hcA⟩ := HA.out.2 (by omega)
      obtain ⟨g', rfl, hg', hcB⟩ := HB.out.2 (by omega)
      have hx : k < xs.length := by have := HA.out.1; omega
      obtain ⟨⟨t, a⟩, hxk⟩ : ∃ p, xs[k]? = some p := ⟨_, List.getElem?_eq_getElem hx⟩
      obtain ⟨b, hyk, hab, hlo, hhi⟩ := HS.out k t a hxk
      obtain ⟨p0, p1, p2, p3⟩ := hcA k t a hxk
      obtain ⟨r0, r1, r2, r3⟩ := hcB k t b hyk
      have hw : IntKind.i64.wrap ((b : Int) - on) = b - on := IntWalk.i64_in _ (by omega)
      have hne : (((a : Nat) : Int) != (b : Int) - on) = false := by simp; omega
      clear hcA hcB hxk hyk hab
      go_wp2_with fail
      go_quiet (fail)
      go_wp2
      go_roundw
      case rel => exact ⟨k + 1, _, by omega, by go_num, rfl⟩
      case measure => simp [intOf]; omega
    · go_wp2
      go_ret
      exact ⟨rfl, m, rfl⟩

theorem ret_str {a b : ByteArray} (h : a = b) : Ending.returned (.string a) = .returned (.string b) := by rw [h]
theorem Cut_any (s : ByteArray) (w : World) (hs : s.size ≤ maxLen) :
    Calls Try.prog 17 #[.string s] w fun e w' => e = .returned (.string (s.extract 0 (min s.size 100100))) ∧ w = w' := by
  unfold maxLen at hs
  go_enter Try.func17, Try.ntmps17
  go_wp2
  go_ret
  exact ⟨ret_str (by rw [show (min (s.size : Int) 100100).toNat = min s.size 100100 by omega]), rfl⟩

theorem nm_short {s : ByteArray} (h : isNm (bl s) = true) : 0 < s.size ∧ s.size ≤ 8 := by
  rw [size_bl]
  unfold isNm at h
  cases hb : bl s with
  | nil => rw [hb] at h; simp at h
  | cons c r =>
    rw [hb] at h
    simp only [Bool.and_eq_true, decide_eq_true_eq] at h
    exact ⟨by simp, h.1.1.2⟩
theorem nm_zero (s : ByteArray) (h : s.size = 0) : isNm (bl s) = false := by
  have hnil : bl s = [] := List.eq_nil_of_length_eq_zero (by rw [← size_bl]; exact h)
  rw [hnil]
  rfl
theorem nm_long (s : ByteArray) (h : 8 < s.size) : isNm (bl s) = false := by
  cases hn : isNm (bl s) with
  | false => rfl
  | true => have := nm_short hn; omega
theorem nm_head (s : ByteArray) (h0 : 0 < s.size) (h : isLo s[0] = false) : isNm (bl s) = false := by
  have hc := bl_at s 0 h0
  rw [List.drop_zero] at hc
  rw [hc]
  simp [isNm, h]
theorem nm_in (s : ByteArray) (k : Nat) (hk : k < s.size) (h : isLD s[k] = false) : isNm (bl s) = false := by
  have hall : (bl s).all isLD = false := by
    cases hx : (bl s).all isLD with
    | false => rfl
    | true => rw [all_at hx k hk] at h; cases h
  simp [isNm, hall]
theorem nm_all (s : ByteArray) (h0 : 0 < s.size) (h8 : s.size ≤ 8) (hl : isLo s[0] = true) (h : ∀ j (hj : j < s.size), isLD s[j] = true) : isNm (bl s) = !isWd (bl s) := by
  have hall : (bl s).all isLD = true := by
    rw [List.all_eq_true]
    intro c hc
    obtain ⟨j, hj, rfl⟩ := List.getElem_of_mem hc
    exact h j (by rw [size_bl]; exact hj)
  have hc := bl_at s 0 h0
  rw [List.drop_zero] at hc
  have h8' : (bl s).length ≤ 8 := by rw [← size_bl]; exact h8
  have hh : (match bl s with | [] => false | c :: _ => isLo c) = true := by rw [hc]; exact hl
  unfold isNm
  rw [hall, Bool.and_true, decide_eq_true h8', Bool.and_true]
  rw [hc] at *
  simp [hl]
set_option maxHeartbeats 4000000 in
theorem Name_any (s : ByteArray) (w : World) (hs : s.size ≤ maxLen) :
    Calls Try.prog 21 #[.string s] w fun e w' => e = .returned (.bool (isNm (bl s))) ∧ w = w' := by
  unfold maxLen at hs
  by_cases h0 : s.size = 0
  · rw [nm_zero s h0]
    have q0 : (((s.size : Nat) : Int) == 0) = true := by rw [h0]; rfl
    clear h0
    go_enter Try.func21, Try.ntmps21
    go_wp2
    go_ret
    exact ⟨rfl, rfl⟩
  · have q0 : (((s.size : Nat) : Int) == 0) = false := beq_eq_false_iff_ne.2 (by omega)
    have hp : 0 < s.size := by omega
    by_cases h8 : 8 < s.size
    · rw [nm_long s h8]
      clear h0
      go_enter Try.func21, Try.ntmps21
      go_wp2
      go_ret
      exact ⟨rfl, rfl⟩
    · clear h0
      cases hl : isLo s[0] with
      | false =>
        rw [nm_head s hp hl]
        go_enter Try.func21, Try.ntmps21
        go_wp2_with (go_at_call 29; refine (letter_any _ _).mono ?_; rintro e w' ⟨rfl, rfl⟩)
        go_ret
        exact ⟨rfl, rfl⟩
      | true =>
        go_enter Try.func21, Try.ntmps21
        go_wp2_with (go_at_call 29; refine (letter_any _ _).mono ?_; rintro e w' ⟨rfl, rfl⟩)
        go_loop [3, 20] (fun _ i => ∃ k : Nat, k ≤ s.size ∧ i = .int .i64 k ∧ Hid (∀ j (hj : j < s.size), j < k → isLD s[j] = true)) (fun _ i => s.size - (intOf i).toNat)
        case atStart => exact ⟨0, Nat.zero_le _, rfl, Lib.hid (fun j hj h => absurd h (by omega))⟩
        case round =>
          obtain ⟨k, hk, rfl, HA⟩ := hrel
          by_cases hlt : k < s.size
          · cases hld : isLD s[k] with
            | true =>
              have HA' : Hid (∀ j (hj : j < s.size), j < k + 1 → isLD s[j] = true) := Lib.hid (fun j hj h => by
                by_cases e : j = k
                · subst e; exact hld
                · exact HA.out j hj (by omega))
              rcases ld_cases hld with hl1 | ⟨hl1, hd1⟩
              all_goals
                clear hld
                go_wp2_with (first
                  | (go_at_call 29; refine (letter_any _ _).mono ?_; rintro e w' ⟨rfl, rfl⟩)
                  | (go_at_call 30; refine (digit_any _ _).mono ?_; rintro e w' ⟨rfl, rfl⟩))
                go_round
                case rel => exact ⟨k + 1, by omega, by go_num, HA'⟩
                case measure => simp [intOf]; omega
            | false =>
              have HN := Lib.hid (nm_in s k hlt hld)
              obtain ⟨hl1, hd1⟩ := ld_false hld
              clear hld
              go_wp2_with (first
                | (go_at_call 29; refine (letter_any _ _).mono ?_; rintro e w' ⟨rfl, rfl⟩)
                | (go_at_call 30; refine (digit_any _ _).mono ?_; rintro e w' ⟨rfl, rfl⟩))
              go_ret
              exact ⟨ret_bool HN.out.symm, rfl⟩
          · have HN := Lib.hid (nm_all s hp (by omega) hl (fun j hj => HA.out j hj (by omega)))
            go_wp2_with (go_at_call 22; refine (Word_any _ _).mono ?_; rintro e w' ⟨rfl, rfl⟩)
            go_ret
            exact ⟨ret_bool HN.out.symm, rfl⟩
end Go.Proofs.Ytcncbdnnakfgcaa
