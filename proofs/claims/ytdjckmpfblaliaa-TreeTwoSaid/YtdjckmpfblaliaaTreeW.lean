/- How much an expression is: the contracts of weighText, weighExpr and FitsExpr (whittlerref3). -/
import Derived.Test.YtdjckmpfblaliaaTreeR
namespace Go.Proofs.Ytdjckmpfblaliaa
open Go.ChangeShapes Go.WideShapes Go.ChangeAt Go.RowKit Go.Deep
set_option linter.unusedVariables false


def weighT (s : Nat) (n : Nat) : Nat := if 20000 < n ∨ 20000 - n ≤ s then 20001 else n + 1 + s
mutual
def weighE : E → Nat → Nat
  | .mk _ _ nm ks, n => weighL ks (weighT nm.size n)
def weighL : List E → Nat → Nat
  | [], n => n
  | k :: ks, n => if n ≤ 20000 then weighL ks (weighE k n) else n
end
theorem weighT_le (s n : Nat) (h : n ≤ 20001) : weighT s n ≤ 20001 := by unfold weighT; split <;> omega
mutual
theorem weighE_le : ∀ (e : E) (n : Nat), n ≤ 20001 → weighE e n ≤ 20001
  | .mk _ _ nm ks, n, h => by rw [weighE]; exact weighL_le ks _ (weighT_le _ _ h)
theorem weighL_le : ∀ (ks : List E) (n : Nat), n ≤ 20001 → weighL ks n ≤ 20001
  | [], n, h => by rw [weighL]; exact h
  | k :: ks, n, h => by
    rw [weighL]
    split
    · exact weighL_le ks _ (weighE_le k n h)
    · exact h
end

theorem weighText_any (s : ByteArray) (n : Nat) (w : World) (hs : s.size ≤ 9223372036854775807) (hn : n ≤ 20001) :
    Calls Try.prog 47 #[.string s, .int .i64 n] w fun e w' => e = .returned (.int .i64 (weighT s.size n)) ∧ w = w' := by
  unfold weighT
  by_cases h1 : 20000 < n
  · rw [if_pos (.inl h1)]
    go_enter Try.func47, Try.ntmps47
    go_wp2
    go_ret
    exact ⟨rfl, rfl⟩
  · by_cases h2 : 20000 - n ≤ s.size
    · rw [if_pos (.inr h2)]
      go_enter Try.func47, Try.ntmps47
      go_wp2
      go_ret
      exact ⟨rfl, rfl⟩
    · rw [if_neg (by omega)]
      go_enter Try.func47, Try.ntmps47
      go_wp2
      go_ret
      exact ⟨rfl, rfl⟩

set_option maxHeartbeats 1000000 in
theorem weighExpr_any {w : World} {Q : Nat → Prop} {e : E} {cs : List Value} (h : ExprI w Q e cs) : ∀ (c0 c1 c2 c3 : Value), cs = [c0, c1, c2, c3] → ∀ (n : Nat) (W : World), n ≤ 20001 → In Q w W →
    Calls Try.prog 38 #[.agg #[c0, c1, c2, c3], .int .i64 n] W fun e' w' => e' = .returned (.int .i64 (weighE e n)) ∧ Below W.heap.size W w' := by
  induction h with
  | @mk op nn nm ks A cap css hop hn hnm hcap hA hk ih =>
    intro c0 c1 c2 c3 hcs n W hnn hI
    simp only [List.cons.injEq, and_true] at hcs
    obtain ⟨rfl, rfl, rfl, rfl⟩ := hcs
    have hT := weighT_le nm.size n hnn
    have HA := Lib.hid hA
    have HK := Lib.hid hk
    have IH := Lib.hid ih
    have HI := Lib.hid hI
    clear hA hk ih hI
    go_enter Try.func38, Try.ntmps38
    go_wp2_with (go_at_call 47; refine (weighText_any _ _ _ hnm hnn).mono ?_; rintro e w' ⟨rfl, rfl⟩)
    have HB1 : Hid (Below W.heap.size W (W.alloc (.cells #[.int .i64 op, .int .i64 nn, .string nm, .slice A ks.length cap] 24))) := Lib.hid ((Below.refl _ _).alloc (Nat.le_refl _) _)
    have hq3 : (W.alloc (.cells #[.int .i64 op, .int .i64 nn, .string nm, .slice A ks.length cap] 24)).cell? ⟨W.heap.size, 3, none⟩ = some (.slice A ks.length cap) := by simp
    have hsz : W.heap.size < (W.alloc (.cells #[.int .i64 op, .int .i64 nn, .string nm, .slice A ks.length cap] 24)).heap.size := by simp
    have HQ3 := Lib.hid hq3
    clear hq3
    generalize W.alloc _ = W1 at HB1 HQ3 hsz ⊢
    go_loopw [1, 5] (fun nv i wr => ∃ k m : Nat, k ≤ ks.length ∧ i = .int .i64 k ∧ nv = .int .i64 m ∧ m ≤ 20001 ∧ Hid (weighL (ks.drop k) m = weighE (.mk op nn nm ks) n) ∧ Hid (Below W1.heap.size W1 wr)) (fun _ i _ => ks.length - (intOf i).toNat)
    case atStart => exact ⟨0, _, Nat.zero_le _, rfl, rfl, hT, Lib.hid (by rw [List.drop_zero, weighE]), Lib.hid (Below.refl _ _)⟩
    case round =>
      obtain ⟨k, m, hk, rfl, rfl, hm, HW, HR⟩ := hrel
      have q3 : wr.cell? ⟨W.heap.size, 3, none⟩ = some (.slice A ks.length cap) := (HR.out.cell (p := ⟨W.heap.size, 3, none⟩) hsz).trans HQ3.out
      have hrz := HR.out.size
      by_cases hlt : k < ks.length
      · by_cases hm2 : m ≤ 20000
        · have hIr : In Q w wr := HI.out.on (HB1.out.trans (HR.out.mono HB1.out.size))
          obtain ⟨a, o1, n1, s1, A1, l1, k1, rfl, hd', p0, p1, p2, p3⟩ := kid_at HA.out HK.out hIr hlt
          have HC := Lib.hid (IH.out k hlt _ _ _ _ hd' m wr (by omega) hIr)
          clear hd' hIr
          have HN : Hid (weighL (ks.drop (k + 1)) (weighE ks[k] m) = weighE (.mk op nn nm ks) n) := Lib.hid (by
            have h1 := HW.out
            rw [List.drop_eq_getElem_cons hlt, weighL, if_pos hm2] at h1
            exact h1)
          have hle := weighE_le ks[k] m (by omega)
          obtain ⟨m2, hm2e⟩ : ∃ m2, m2 = weighE ks[k] m := ⟨_, rfl⟩
          rw [← hm2e] at HC HN hle
          clear hm2e
          go_wp2_with (go_at_call 38; refine HC.out.mono ?_; rintro e w2 ⟨rfl, hb2⟩)
          go_roundw
          case rel => exact ⟨k + 1, m2, by omega, by go_num, rfl, hle, HN, Lib.hid (HR.out.trans (hb2.mono HR.out.size))⟩
          case measure => simp [intOf]; omega
        · have HN : Hid (weighE (.mk op nn nm ks) n = m) := Lib.hid (by
            have h1 := HW.out
            rw [List.drop_eq_getElem_cons hlt, weighL, if_neg hm2] at h1
            exact h1.symm)
          go_wp2_with fail
          go_ret
          exact ⟨ret_int (by rw [HN.out]), HB1.out.trans (HR.out.mono HB1.out.size)⟩
      · have HN : Hid (weighE (.mk op nn nm ks) n = m) := Lib.hid (by
          have h1 := HW.out
          rw [List.drop_of_length_le (by omega), weighL] at h1
          exact h1.symm)
        go_wp2_with fail
        go_ret
        exact ⟨ret_int (by rw [HN.out]), HB1.out.trans (HR.out.mono HB1.out.size)⟩
theorem FitsExpr_any {w : World} {Q : Nat → Prop} {e : E} {c0 c1 c2 c3 : Value} (h : ExprI w Q e [c0, c1, c2, c3]) (W : World) (hI : In Q w W) :
    Calls Try.prog 14 #[.agg #[c0, c1, c2, c3]] W (MayOk (decide (weighE e 0 ≤ 20000)) W) := by
  have HC : Hid (∀ W', In Q w W' → Calls Try.prog 38 #[.agg #[c0, c1, c2, c3], .int .i64 0] W' fun e' w' => e' = .returned (.int .i64 (weighE e 0 : Nat)) ∧ Below W'.heap.size W' w') :=
    Lib.hid (fun W' h1 => weighExpr_any h c0 c1 c2 c3 rfl 0 W' (by omega) h1)
  obtain ⟨m, hm⟩ : ∃ m, m = weighE e 0 := ⟨_, rfl⟩
  rw [← hm] at HC ⊢
  obtain ⟨d0, d1, d2, d3, l3, k3, hd'⟩ := h.form
  simp only [List.cons.injEq, and_true] at hd'
  obtain ⟨rfl, rfl, rfl, rfl⟩ := hd'
  have HI := Lib.hid hI
  clear hm hI h
  by_cases hm : m ≤ 20000
  · rw [decide_eq_true hm]
    go_enter Try.func14, Try.ntmps14
    go_wp2_with (go_at_call 38; refine (HC.out _ (HI.out.alloc _)).mono ?_; rintro e w2 ⟨rfl, hb2⟩)
    go_ret
    exact ⟨ret_bool (by rw [Bool.eq_iff_iff]; simp; omega), below_new hb2⟩
  · rw [decide_eq_false hm]
    go_enter Try.func14, Try.ntmps14
    go_wp2_with (go_at_call 38; refine (HC.out _ (HI.out.alloc _)).mono ?_; rintro e w2 ⟨rfl, hb2⟩)
    go_ret
    exact ⟨ret_bool (by rw [Bool.eq_iff_iff]; simp; omega), below_new hb2⟩
end Go.Proofs.Ytdjckmpfblaliaa
