/- The walk of LexCover. -/
import Derived.Test.YtcncbdnnakfgcaaLexQ3
namespace Go.Proofs.Ytcncbdnnakfgcaa
open Go.ChangeShapes Go.WideShapes Go.ChangeAt Go.RowKit
set_option linter.unusedVariables false

/-- before round k: what is still to be read, from byte p on -/
def CInv (x : ByteArray) (ts : List (Tok × Nat)) (k p : Nat) : Prop := (k < ts.length ∧ p ≤ x.size ∧ Lx ((bl x).drop p) p k (.ok (ts.drop k))) ∨ (k = ts.length ∧ p = x.size)
/-- what round k sees -/
structure Seen (x : ByteArray) (ts : List (Tok × Nat)) (k p : Nat) (t : Tok) (a : Nat) (b : Bool) : Prop where
  le : p ≤ a
  fit : a + t.text.length ≤ x.size
  cut : x.extract a (a + t.text.length) = bs t.text
  gap : Gap (bl (x.extract p a)) (((t.kind : Nat) : Int) == 0)
  kind : (((t.kind : Nat) : Int) == 0) = b
  last : (((k : Nat) : Int) == ((ts.length : Nat) : Int) - 1) = b
  none : ((bs t.text).toList == []) = b
  next : CInv x ts (k + 1) (a + t.text.length)
theorem cover_step {x : ByteArray} {ts : List (Tok × Nat)} {k p : Nat} (h : CInv x ts k p) (hk : k < ts.length) : ∃ t a b, ts[k]? = some (t, a) ∧ Seen x ts k p t a b := by
  rcases h with ⟨_, hp, hlx⟩ | ⟨h, _⟩
  · obtain ⟨⟨t, a⟩, hta⟩ : ∃ q, ts[k]? = some q := ⟨_, List.getElem?_eq_getElem hk⟩
    have hd : ts.drop k = (t, a) :: ts.drop (k + 1) := by
      rw [List.drop_eq_getElem_cons hk]
      rw [List.getElem?_eq_getElem hk] at hta
      injection hta with hta
      rw [hta]
    obtain ⟨g, h1, h2, h3, h4⟩ := lx_step hlx (by rw [hd])
    rw [List.length_drop, ← size_bl] at h2
    have hgap : bl (x.extract p a) = ((bl x).drop p).take g := by rw [bs_extract, bl_bs, show a - p = g by omega]
    have hdec : (((t.kind : Nat) : Int) == 0) = decide (t.kind = 0) := by
      by_cases h : t.kind = 0
      · rw [h]; rfl
      · rw [decide_eq_false h]; simp; omega
    rcases h4 with ⟨h5, rfl, h7⟩ | ⟨c, r, h5, h6, h7, h8⟩
    · rw [List.length_drop, ← size_bl] at h7
      have hk1 : k + 1 = ts.length := by
        have := congrArg List.length h5
        rw [List.length_drop] at this
        simp at this
        omega
      refine ⟨zT, a, true, hta, by omega, by simp [zT]; omega, ?_, by rw [hgap, hdec]; exact h3, rfl, by simp; omega, by rw [bl_toList, bl_bs]; rfl, .inr ⟨hk1, by simp [zT]; omega⟩⟩
      rw [bs_extract]
      simp [zT]
    · have hg := good_text h6
      have hkp := kind_pos h6.tok
      have hda : (bl x).drop a = c :: r := by rw [← h5, List.drop_drop, h1]
      have hfit : a + t.text.length ≤ x.size := by
        have h9 := congrArg List.length hda
        rw [List.length_drop, ← size_bl] at h9
        omega
      have hne : ts.drop (k + 1) ≠ [] := lx_ne h8 rfl
      have hk1 : k + 1 < ts.length := by
        rcases Nat.lt_or_ge (k + 1) ts.length with h9 | h9
        · exact h9
        · exact absurd (List.drop_of_length_le h9) hne
      refine ⟨t, a, false, hta, by omega, hfit, ?_, by rw [hgap, hdec]; exact h3, by simp; omega, by simp; omega, ?_, .inl ⟨hk1, hfit, ?_⟩⟩
      · rw [bs_extract, hda, show a + t.text.length - a = t.text.length by omega, ← hg.2.1]
      · rw [bl_toList, bl_bs]
        cases htx : t.text with
        | nil => rw [htx] at hg; simp at hg
        | cons d q => rfl
      · rw [← List.drop_drop, hda]
        exact h8
  · omega

set_option maxHeartbeats 4000000 in
set_option maxRecDepth 100000 in
theorem lexCover_walk (s : ByteArray) (hs : s.size ≤ maxLen) (w : World) : Calls Try.prog 5 #[.string s] w fun e w' => e = .returned (.bool true) ∧ Below w.heap.size w w' := by
  obtain ⟨x, hx⟩ : ∃ x, x = s.extract 0 (min s.size 100100) := ⟨_, rfl⟩
  have hxs : x.size ≤ 100100 := by rw [hx, ByteArray.size_extract]; omega
  have hcut : ∀ W, Calls Try.prog 17 #[.string s] W fun e w' => e = .returned (.string x) ∧ W = w' := by rw [hx]; exact fun W => Cut_any s W hs
  have HCut := Lib.hid hcut
  clear hcut hx
  rcases told2 x hxs with ⟨ts, hx1, hlx, hlen, hq, hA⟩ | ⟨c, a, hd, hA⟩
  · have hne := lx_ne hlx rfl
    have hn1 : 1 ≤ ts.length := by cases ts with | nil => exact absurd rfl hne | cons q r => simp
    have HI0 : Hid (CInv x ts 0 0) := Lib.hid (.inl ⟨by omega, Nat.zero_le _, hlx⟩)
    obtain ⟨n, hn⟩ : ∃ n, n = ts.length := ⟨_, rfl⟩
    have HA := Lib.hid (hA n hn.symm)
    have HN := Lib.hid hn
    have hn2 : n ≤ 2001 := by omega
    have hn3 : 1 ≤ n := by omega
    clear hlx hq hA hne hn hlen hn1
    go_enter Try.func5, Try.ntmps5
    go_wp2_with (first
      | (go_at_call 16; refine (lexed_any _).mono ?_; rintro e w0 ⟨rfl, hb⟩; have HB0 := Lib.hid hb; clear hb)
      | (go_at_call 17; refine (HCut.out _).mono ?_; rintro e w' ⟨rfl, rfl⟩)
      | (go_at_call 18; refine (HA.out _).mono ?_; rintro e w1 ⟨A, cap, rfl, hrt, hb⟩; have HB1 := Lib.hid hb; have HT1 := Lib.hid hrt; have hz1 := hb.size; obtain ⟨g, rfl, hg, hc⟩ := hrt.at_ (by omega); clear hb hrt hc))
    have HT := Lib.hid (HT1.out.below ((Below.refl _ _).alloc (Nat.le_refl _) (.cells #[.int .i64 0, .int .i64 0] 27)))
    have HB := Lib.hid ((below_then HB0.out HB1.out).alloc (below_then HB0.out HB1.out).size (.cells #[.int .i64 0, .int .i64 0] 27))
    generalize w1.alloc _ = W at HT HB ⊢
    go_loopw [5, 25] (fun a i wr => ∃ k p : Nat, i = .int .i64 k ∧ a = .int .i64 p ∧ Hid (k ≤ n ∧ CInv x ts k p ∧ Below W.heap.size W wr)) (fun _ i _ => n - (intOf i).toNat)
    case atStart => exact ⟨0, 0, rfl, rfl, Lib.hid ⟨Nat.zero_le _, HI0.out, Below.refl _ _⟩⟩
    case round =>
      obtain ⟨k, p, rfl, rfl, HI⟩ := hrel
      have hkn := HI.out.1
      by_cases hlt : k < n
      · obtain ⟨t, a, b, hta, hseen⟩ := cover_step HI.out.2.1 (by rw [← HN.out]; exact hlt)
        have hrt := HT.out.below HI.out.2.2
        obtain ⟨g', hg', hgl, hc⟩ := hrt.at_ (by omega)
        injection hg' with hg'
        injection hg' with hg'
        subst hg'
        obtain ⟨p0, p1, p2, p3⟩ := hc k t a hta
        obtain ⟨hle, hfit, hcut, hgap, hkind, hlast, hnone, hnext⟩ := hseen
        rw [← HN.out] at hlast
        have hsz : (bs t.text).size = t.text.length := by rw [size_bl, bl_bs]
        rw [← hsz] at hfit hcut hnext
        obtain ⟨tx, htx⟩ : ∃ tx, tx = bs t.text := ⟨_, rfl⟩
        rw [← htx] at p1 hfit hcut hnext hnone
        have HGAP : Hid (∀ W', Calls Try.prog 23 #[.string (x.extract p a), .bool b] W' fun e w' => e = .returned (.bool true) ∧ W' = w') := Lib.hid (fun W' => by
          rw [hkind] at hgap
          exact gap_true _ _ _ (by rw [ByteArray.size_extract]; omega) hgap)
        have HNX := Lib.hid hnext
        clear hc hrt hta hnext htx hsz hgap
        have f1 : decide (a < p) = false := decide_eq_false (by omega)
        have f2 : decide (x.size < a) = false := decide_eq_false (by omega)
        have f3 : IntKind.i64.wrap ((x.size : Int) - (a : Int)) = (x.size : Int) - a := IntWalk.i64_in _ (by omega)
        have f4 : decide ((x.size : Int) - (a : Int) < (tx.size : Int)) = false := decide_eq_false (by omega)
        have f5 : IntKind.i64.wrap ((a : Int) + (tx.size : Int)) = (a : Int) + tx.size := IntWalk.i64_in _ (by omega)
        have f6 : ((a : Int) + (tx.size : Int)).toNat = a + tx.size := by omega
        have f7 : (0 : Int) ≤ (a : Int) + (tx.size : Int) := by omega
        have f8 : (a : Int) + (tx.size : Int) ≤ (x.size : Int) := by omega
        have f9 : (a : Int) ≤ (a : Int) + (tx.size : Int) := by omega
        have f10 : a ≤ x.size := by omega
        have f11 : IntKind.i64.wrap ((n : Int) - 1) = (n : Int) - 1 := IntWalk.i64_in _ (by omega)
        have f12 : a ≤ a + tx.size := by omega
        have f13 : a + tx.size ≤ x.size := by omega
        cases b
        all_goals
          go_wp2_with fail
          go_quiet ((go_at_call 23; exact Calls.quiet_of_same ((HGAP.out _).mono fun e w' ⟨h1, h2⟩ => ⟨h1, h2.symm⟩)))
          go_wp2
          go_roundw
          case rel => exact ⟨k + 1, a + tx.size, by go_num, by go_num, Lib.hid ⟨by omega, HNX.out, drew_below (HI.out.2.2.alloc HI.out.2.2.size _) _⟩⟩
          case measure => simp [intOf]; omega
      · have hp : p = x.size := by
          rcases HI.out.2.1 with ⟨h, _⟩ | ⟨_, h⟩
          · rw [← HN.out] at h; omega
          · exact h
        subst hp
        have qe : (((x.size : Nat) : Int) == ((x.size : Nat) : Int)) = true := by simp
        go_wp2_with fail
        go_ret
        exact ⟨ret_bool (by simp; omega), (HB.out).trans (HI.out.2.2.mono HB.out.size)⟩
  · have HA := Lib.hid hA
    have hc0 : c ≠ 0 := by
      rcases hd with ⟨_, h⟩ | ⟨_, h, _⟩
      · have := (lx_bad h rfl).1; omega
      · omega
    have q0 : (((c : Nat) : Int) != 0) = true := by simp; omega
    clear hA hd hc0
    go_enter Try.func5, Try.ntmps5
    go_wp2_with (first
      | (go_at_call 16; refine (lexed_any _).mono ?_; rintro e w0 ⟨rfl, hb⟩; have HB0 := Lib.hid hb; clear hb)
      | (go_at_call 17; refine (HCut.out _).mono ?_; rintro e w' ⟨rfl, rfl⟩)
      | (go_at_call 18; refine (HA.out _).mono ?_; rintro e w1 ⟨A, cap, rfl, hb⟩; have HB1 := Lib.hid hb; have hz1 := hb.size; clear hb))
    go_ret
    exact ⟨rfl, (below_then HB0.out HB1.out).alloc (below_then HB0.out HB1.out).size _⟩
end Go.Proofs.Ytcncbdnnakfgcaa
