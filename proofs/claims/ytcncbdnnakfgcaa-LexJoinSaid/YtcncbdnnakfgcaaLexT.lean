/- The contract of lexed (the laws' own first look). -/
import Derived.Test.YtcncbdnnakfgcaaLexS
namespace Go.Proofs.Ytcncbdnnakfgcaa
open Go.ChangeShapes Go.WideShapes Go.ChangeAt Go.RowKit
set_option linter.unusedVariables false

theorem below_then {w w1 w2 : World} (h1 : Below w.heap.size w w1) (h2 : Below w1.heap.size w1 w2) : Below w.heap.size w w2 := h1.trans (h2.mono h1.size)
theorem All_gen (s : ByteArray) (w : World) (R : Res) (hs : s.size ≤ 100000) (hx : Lx (bl s) 0 0 R) :
    Calls Try.prog 18 #[.string s] w fun e w' => ∃ A cap, e = .returned (.tuple #[.slice A R.toks.length cap, .agg #[.int .i64 R.code, .int .i64 R.fat]]) ∧ RT w' A R.toks.length R.toks ∧ Below w.heap.size w w' := by
  refine (All_any s w R hs hx).mono ?_
  rintro e w' ⟨A, cap, rfl, hown, hb⟩
  exact ⟨A, cap, rfl, RT.of_own hown, hb⟩
theorem All_ok (s : ByteArray) (w : World) (ts : List (Tok × Nat)) (n : Nat) (hs : s.size ≤ 100000) (hx : Lx (bl s) 0 0 (.ok ts)) (hn : ts.length = n) :
    Calls Try.prog 18 #[.string s] w fun e w' => ∃ A cap, e = .returned (.tuple #[.slice A n cap, .agg #[.int .i64 0, .int .i64 0]]) ∧ RT w' A n ts ∧ Below w.heap.size w w' := by
  subst hn
  exact All_gen s w _ hs hx
theorem All_bad (s : ByteArray) (w : World) (c a : Nat) (hs : s.size ≤ 100000) (hx : Lx (bl s) 0 0 (.bad c a)) :
    Calls Try.prog 18 #[.string s] w fun e w' => ∃ A cap, e = .returned (.tuple #[.slice A 0 cap, .agg #[.int .i64 c, .int .i64 a]]) ∧ Below w.heap.size w w' := by
  refine (All_gen s w _ hs hx).mono ?_
  rintro e w' ⟨A, cap, rfl, _, hb⟩
  exact ⟨A, cap, rfl, hb⟩
theorem All_far (s : ByteArray) (w : World) (hs : 100000 < s.size) (hm : s.size ≤ maxLen) :
    Calls Try.prog 18 #[.string s] w fun e w' => ∃ A cap, e = .returned (.tuple #[.slice A 0 cap, .agg #[.int .i64 4, .int .i64 0]]) ∧ Below w.heap.size w w' := by
  refine (All_long s w hs hm).mono ?_
  rintro e w' ⟨A, cap, rfl, _, hb⟩
  exact ⟨A, cap, rfl, hb⟩
/-- the cells of token i, where it is known -/
theorem RT.at_ {w : World} {A : Option Addr} {n : Nat} {ts : List (Tok × Nat)} (h : RT w A n ts) (hn : 0 < n) : ∃ g, A = some ⟨g, 0, none⟩ ∧ g < w.heap.size ∧ ∀ (i : Nat) (t : Tok) (a : Nat), ts[i]? = some (t, a) →
    w.cell? ⟨g, i * 4, none⟩ = some (.int .i64 t.kind) ∧ w.cell? ⟨g, i * 4 + 1, none⟩ = some (.string (bs t.text)) ∧ w.cell? ⟨g, i * 4 + 2, none⟩ = some (.int .i64 t.n) ∧ w.cell? ⟨g, i * 4 + 3, none⟩ = some (.int .i64 a) := h.2 hn

theorem lx_lexed : Lx (bl ⟨#[97, 98, 32, 61, 32, 49, 50, 59]⟩) 0 0 (.ok [(⟨1, [97, 98], 0⟩, 0), (⟨4, [61], 0⟩, 3), (⟨2, [49, 50], 12⟩, 5), (⟨4, [59], 0⟩, 7), (zT, 8)]) :=
  .tok (R := .ok [(⟨4, [61], 0⟩, 3), (⟨2, [49, 50], 12⟩, 5), (⟨4, [59], 0⟩, 7), (zT, 8)]) rfl (by decide) rfl (by omega) (.sp rfl (.tok (R := .ok [(⟨2, [49, 50], 12⟩, 5), (⟨4, [59], 0⟩, 7), (zT, 8)]) rfl (by decide) rfl (by omega) (.sp rfl
    (.tok (R := .ok [(⟨4, [59], 0⟩, 7), (zT, 8)]) rfl (by decide) rfl (by omega) (.tok (R := .ok [(zT, 8)]) rfl (by decide) rfl (by omega) (.nil _ _))))))

set_option maxHeartbeats 4000000 in
theorem lexed_any (w : World) : Calls Try.prog 16 #[] w fun e w' => e = .returned (.bool true) ∧ Below w.heap.size w w' := by
  have HL := Lib.hid lx_lexed
  go_enter Try.func16, Try.ntmps16
  go_wp2_with (first
    | (go_at_call 18; refine (All_ok _ _ _ 5 (by decide) HL.out rfl).mono ?_; rintro e w1 ⟨A, cap, rfl, hrt, hb⟩; have HB := Lib.hid hb; obtain ⟨g, rfl, hg, hc⟩ := hrt.at_ (by omega); have c0 := hc 0 _ _ rfl; have c2 := hc 2 _ _ rfl; have c4 := hc 4 _ _ rfl; obtain ⟨p0, p1, p2, p3⟩ := c0; obtain ⟨r0, r1, r2, r3⟩ := c2; obtain ⟨s0, s1, s2, s3⟩ := c4; clear hc hb hrt)
    | (go_at_call 22; refine (Word_any _ _).mono ?_; rintro e w' ⟨rfl, rfl⟩)
    | (go_at_call 21; refine (Name_any _ _ (by decide)).mono ?_; rintro e w' ⟨rfl, rfl⟩))
  · go_ret
    exact ⟨ret_bool (by decide), HB.out.alloc HB.out.size _⟩
  · exfalso
    rename_i hne
    exact hne (by rw [bl_toList, bl_bs])
end Go.Proofs.Ytcncbdnnakfgcaa
