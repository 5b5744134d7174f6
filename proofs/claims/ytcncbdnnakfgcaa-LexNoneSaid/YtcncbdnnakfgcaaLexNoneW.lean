/- The walk of LexNone. -/
import Derived.Test.YtcncbdnnakfgcaaLexT
namespace Go.Proofs.Ytcncbdnnakfgcaa
open Go.ChangeShapes Go.WideShapes Go.ChangeAt Go.RowKit
set_option linter.unusedVariables false

theorem lx_none : Lx (bl ⟨#[]⟩) 0 0 (.ok [(zT, 0)]) := .nil _ _
theorem lx_amp : Lx (bl ⟨#[38]⟩) 0 0 (.bad 2 0) := .bad rfl (by decide) (by decide)
theorem lx_bar : Lx (bl ⟨#[97, 32, 124, 98]⟩) 0 0 (.bad 2 2) := .tok (R := .bad 2 2) rfl (by decide) rfl (by omega) (.sp rfl (.bad rfl (by decide) (by decide)))

set_option maxHeartbeats 4000000 in
set_option maxRecDepth 100000 in
theorem lexNone_walk (w : World) : Calls Try.prog 15 #[] w fun e w' => e = .returned (.bool true) ∧ Below w.heap.size w w' := by
  have HL1 := Lib.hid lx_none
  have HL2 := Lib.hid lx_amp
  have HL3 := Lib.hid lx_bar
  go_enter Try.func15, Try.ntmps15
  go_wp2_with (first
    | (go_at_call 18; ((with_reducible refine (All_ok ⟨#[]⟩ _ _ 1 (by decide) HL1.out rfl).mono ?_); rintro e w1 ⟨A, cap, rfl, hrt, hb⟩; have HB1 := Lib.hid hb; have hz1 := hb.size; obtain ⟨g, rfl, hg, hc⟩ := hrt.at_ (by omega); have c0 := hc 0 _ _ rfl; obtain ⟨p0, p1, p2, p3⟩ := c0; clear hc hb hrt))
    | (go_at_call 18; ((with_reducible refine (All_bad ⟨#[38]⟩ _ _ _ (by decide) HL2.out).mono ?_); rintro e w2 ⟨A2, cap2, rfl, hb⟩; have HB2 := Lib.hid hb; have hz2 := hb.size; rw [size_alloc1] at hz2; have l21 : w1.heap.size ≤ w2.heap.size := (by omega); have l21' : w1.heap.size < w2.heap.size := (by omega); have l2g : g < w2.heap.size := (by omega); have l2g' : g < w1.heap.size + 1 := (by omega); obtain ⟨hc2, hf2⟩ := bcell hb; clear hb))
    | (go_at_call 18; ((with_reducible refine (All_bad ⟨#[97, 32, 124, 98]⟩ _ _ _ (by decide) HL3.out).mono ?_); rintro e w3 ⟨A3, cap3, rfl, hb⟩; have HB3 := Lib.hid hb; have hz3 := hb.size; rw [size_alloc1] at hz3; have l31 : w1.heap.size ≤ w3.heap.size := (by omega); have l31' : w1.heap.size < w3.heap.size := (by omega); have l32 : w2.heap.size ≤ w3.heap.size := (by omega); have l32' : w2.heap.size < w3.heap.size := (by omega); have l3g : g < w3.heap.size := (by omega); have l3g' : g < w2.heap.size + 1 := (by omega); obtain ⟨hc3, hf3⟩ := bcell hb; clear hb))
    | (go_at_call 16; refine (lexed_any _).mono ?_; rintro e w4 ⟨rfl, hb⟩; have HB4 := Lib.hid hb; have hz4 := hb.size; rw [size_alloc1] at hz4; have l41 : w1.heap.size < w4.heap.size := (by omega); have l42 : w2.heap.size < w4.heap.size := (by omega); have l43 : w3.heap.size < w4.heap.size := (by omega); have l4g : g < w4.heap.size := (by omega);  have l4g' : g < w3.heap.size + 1 := (by omega); obtain ⟨hc4, hf4⟩ := bcell hb; clear hb)
    | (go_at_call 22; refine (Word_any _ _).mono ?_; rintro e w' ⟨rfl, rfl⟩)
    | (go_at_call 21; refine (Name_any _ _ (by decide)).mono ?_; rintro e w' ⟨rfl, rfl⟩))
  go_ret
  exact ⟨rfl, below_then (below_then (below_then HB1.out (below_new HB2.out)) (below_new HB3.out)) (below_new HB4.out)⟩
end Go.Proofs.Ytcncbdnnakfgcaa
