/- The walk of TreeExpr. -/
import Derived.Test.YtdjckmpfblaliaaTreeA
import Derived.Test.YtdjckmpfblaliaaTreeW
namespace Go.Proofs.Ytdjckmpfblaliaa
open Go.ChangeShapes Go.WideShapes Go.ChangeAt Go.RowKit Go.Deep
set_option linter.unusedVariables false

theorem small_nil : ∀ t ∈ ([] : List ByteArray), small t := fun t h => by simp at h
theorem names_small {w : World} {Q : Nat → Prop} {e : E} {cs : List Value} (h : ExprI w Q e cs) : ∀ t ∈ namesE e, t.size ≤ 9223372036854775807 := by
  unfold namesE
  split
  · exact walkE_all h small_nil
  · exact small_nil
set_option maxHeartbeats 1000000 in
theorem treeExpr_walk {w : World} {Q : Nat → Prop} {e : E} {c0 c1 c2 c3 : Value} (h : ExprI w Q e [c0, c1, c2, c3]) (W : World) (hI : In Q w W) :
    Calls Try.prog 3 #[.agg #[c0, c1, c2, c3]] W fun e w' => e = .returned (.bool true) ∧ Below W.heap.size W w' := by
  have HF := Lib.hid (fun V h1 => FitsExpr_any h V h1)
  have HM := Lib.hid (fun V h1 => MayExpr_any h V h1)
  have HRM := Lib.hid (fun V h1 => rMayExpr_any h V h1)
  have HN := Lib.hid (fun V h1 => Names_any h V h1)
  have HRN := Lib.hid (fun V h1 => rNames_any h V h1)
  have HS := Lib.hid (names_small h)
  have HI := Lib.hid hI
  obtain ⟨d0, d1, d2, d3, l3, k3, hd'⟩ := h.form
  simp only [List.cons.injEq, and_true] at hd'
  obtain ⟨rfl, rfl, rfl, rfl⟩ := hd'
  clear h hI
  have HBx : Hid (Blk (W.alloc (.cells #[.int .i64 d0, .int .i64 d1, .string d2, .slice d3 l3 k3] 24)) W.heap.size 24 #[.int .i64 d0, .int .i64 d1, .string d2, .slice d3 l3 k3]) := Lib.hid (Blk.new _ _ _)
  have HB0 : Hid (Below W.heap.size W (W.alloc (.cells #[.int .i64 d0, .int .i64 d1, .string d2, .slice d3 l3 k3] 24))) := Lib.hid (below_box _)
  go_enter Try.func3, Try.ntmps3
  go_wp2_with fail
  generalize World.alloc _ _ = W0 at HBx HB0 ⊢
  have HI0 := Lib.hid (HI.out.on HB0.out)
  have HB01 := HB0
  generalize hbe : W.heap.size = b at HBx ⊢
  clear hbe
  refine (treed_any W0).mono ?_
  rintro e' W1 ⟨rfl, hb1⟩
  have HB1 := Lib.hid hb1
  clear hb1
  have HI1 := Lib.hid (HI0.out.on HB1.out)
  have HBx1 := Lib.hid (HBx.out.on_ HB1.out)
  have q0 : W1.cell? ⟨b, 0, none⟩ = some (.int .i64 d0) := by rw [HBx1.out.cell]; rfl
  have q1 : W1.cell? ⟨b, 1, none⟩ = some (.int .i64 d1) := by rw [HBx1.out.cell]; rfl
  have q2 : W1.cell? ⟨b, 2, none⟩ = some (.string d2) := by rw [HBx1.out.cell]; rfl
  have q3 : W1.cell? ⟨b, 3, none⟩ = some (.slice d3 l3 k3) := by rw [HBx1.out.cell]; rfl
  have hbl := HBx1.out.lt
  clear HBx HB0 HI0 HI
  cases hf : decide (weighE e 0 ≤ 20000) with
  | false =>
    rw [hf] at HF
    clear hf
    go_wp2_with (go_at_call 14; refine (HF.out _ HI1.out).mono ?_; rintro e' W2 ⟨rfl, hb2⟩)
    go_ret
    exact ⟨rfl, below_step HB01.out (below_step HB1.out hb2)⟩
  | true =>
    rw [hf] at HF
    clear hf
    go_wp2_with (go_at_call 14; refine (HF.out _ HI1.out).mono ?_; rintro e' W2 ⟨rfl, hb2⟩)
    have HB2 := Lib.hid hb2
    have HI2 := Lib.hid (HI1.out.on HB2.out)
    have HBx2 := Lib.hid (HBx1.out.on_ HB2.out)
    clear hb2 q0 q1 q2 q3 hbl HF
    have q0 : W2.cell? ⟨b, 0, none⟩ = some (.int .i64 d0) := by rw [HBx2.out.cell]; rfl
    have q1 : W2.cell? ⟨b, 1, none⟩ = some (.int .i64 d1) := by rw [HBx2.out.cell]; rfl
    have q2 : W2.cell? ⟨b, 2, none⟩ = some (.string d2) := by rw [HBx2.out.cell]; rfl
    have q3 : W2.cell? ⟨b, 3, none⟩ = some (.slice d3 l3 k3) := by rw [HBx2.out.cell]; rfl
    have hbl := HBx2.out.lt
    have hdr : ∀ V : World, In Q w V → In Q w V.drew := fun V h => h
    obtain ⟨m, hm⟩ : ∃ m, m = mayE 20 e := ⟨_, rfl⟩
    rw [← hm] at HM HRM
    have HE : Hid (∀ (V1 V2 : World) (v1 v2 : Value) (B1 B2 : Nat), V1.ownsRow B1 9 1 v1 (namesE e).length (strs (namesE e)) → V2.ownsRow B2 9 1 v2 (namesE e).length (strs (namesE e)) → Below V1.heap.size V1 V2 → Calls Try.prog 17 #[v1, v2] V2 (MayOk true V2)) := Lib.hid (fun V1 V2 v1 v2 B1 B2 h1 h2 h3 => by
      have := EqTexts_any (texts_of_own HS.out h1).2 (texts_of_own HS.out h2).2 (W := V2) ⟨fun b hb => Nat.lt_of_lt_of_le hb.2 h3.size, fun p hp => h3.cell hp.2⟩ ⟨fun b hb => hb.2, fun p hp => rfl⟩
      rw [show decide (namesE e = namesE e) = true from decide_eq_true rfl] at this
      exact this)
    clear hm HS
    go_region_held3 (fun w' => w'.cell? ⟨b, 0, none⟩ = some (.int .i64 d0) ∧ w'.cell? ⟨b, 1, none⟩ = some (.int .i64 d1) ∧ w'.cell? ⟨b, 2, none⟩ = some (.string d2) ∧ w'.cell? ⟨b, 3, none⟩ = some (.slice d3 l3 k3))
      (go_keep)
      (first
        | (go_at_call 15; refine (HM.out _ (hdr _ HI2.out)).mono ?_; rintro e' W3 ⟨rfl, hb3⟩; have hb3' : Below W2.heap.size W2 W3 := (show Below W2.heap.size W2 W2.drew from (Below.refl _ _).drew).trans hb3; have HI3 := Lib.hid (HI2.out.on hb3'); have hc3 := (bcell hb3').1; have hl3 := Nat.lt_of_lt_of_le hbl hb3'.size)
        | (go_at_call 16; refine (HRM.out _ HI3.out).mono ?_; rintro e' W4 ⟨rfl, hb4⟩; have HI4 := Lib.hid (HI3.out.on hb4); have hc4 := (bcell hb4).1; have hl4 := Nat.lt_of_lt_of_le hl3 hb4.size)
        | (go_at_call 18; refine (HN.out _ HI4.out).mono ?_; rintro e' W5 ⟨v5, rfl, ho5, hb5⟩; have HI5 := Lib.hid (HI4.out.on hb5); have hc5 := (bcell hb5).1; have hl5 := Nat.lt_of_lt_of_le hl4 hb5.size)
        | (go_at_call 19; refine (HRN.out _ HI5.out).mono ?_; rintro e' W6 ⟨v6, rfl, ho6, hb6⟩; have hc6 := (bcell hb6).1; have hl6 := Nat.lt_of_lt_of_le hl5 hb6.size)
        | (go_at_call 17; refine (HE.out W5 W6 v5 v6 _ _ ho5 ho6 hb6).mono ?_; rintro e' W7 ⟨rfl, hb7⟩; have hc7 := (bcell hb7).1))
    go_wp2_with fail
    go_ret
    exact ⟨rfl, below_step HB01.out (below_step HB1.out (below_step HB2.out (below_step hb3' (below_step hb4 (below_step hb5 (below_step hb6 hb7))))))⟩
end Go.Proofs.Ytdjckmpfblaliaa
