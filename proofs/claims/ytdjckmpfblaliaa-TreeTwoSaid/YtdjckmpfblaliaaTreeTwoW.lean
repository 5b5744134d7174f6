/- The walk of TreeTwo. -/
import Derived.Test.YtdjckmpfblaliaaTreeTwoD
namespace Go.Proofs.Ytdjckmpfblaliaa
open Go.ChangeShapes Go.WideShapes Go.ChangeAt Go.RowKit Go.Deep
set_option linter.unusedVariables false

theorem dep20 {e : E} (h : mayE 20 e = true) : depE e ≤ 20 := by
  rw [mayE_eq, Bool.and_eq_true, decide_eq_true_eq] at h
  exact h.1
set_option maxHeartbeats 8000000 in
set_option maxRecDepth 100000 in
theorem treeTwo_walk (op : Int) (wop : (Lit.int .i64 op).wf = true) {w : World} {Q : Nat → Prop} {x y : E} {a0 a1 a2 a3 e0 e1 e2 e3 : Value} (hx : ExprI w Q x [a0, a1, a2, a3]) (hy : ExprI w Q y [e0, e1, e2, e3]) (W : World) (hI : In Q w W) :
    Calls Try.prog 5 #[.int .i64 op, .agg #[a0, a1, a2, a3], .agg #[e0, e1, e2, e3]] W fun e w' => e = .returned (.bool true) ∧ Below W.heap.size W w' := by
  have HX := Lib.hid hx
  have HY := Lib.hid hy
  have HI := Lib.hid hI
  have hop : i64 op := i64_of wop
  obtain ⟨d0, d1, d2, d3, l3, k3, hd'⟩ := hx.form
  simp only [List.cons.injEq, and_true] at hd'
  obtain ⟨rfl, rfl, rfl, rfl⟩ := hd'
  obtain ⟨f0, f1, f2, f3, m3, n3, hd'⟩ := hy.form
  simp only [List.cons.injEq, and_true] at hd'
  obtain ⟨rfl, rfl, rfl, rfl⟩ := hd'
  clear hx hy hI wop
  unfold i64 at hop
  have HBx : Hid (Blk ((W.alloc (.cells #[.int .i64 d0, .int .i64 d1, .string d2, .slice d3 l3 k3] 24)).alloc (.cells #[.int .i64 f0, .int .i64 f1, .string f2, .slice f3 m3 n3] 24)) W.heap.size 24 #[.int .i64 d0, .int .i64 d1, .string d2, .slice d3 l3 k3]) := Lib.hid ((Blk.new _ _ _).alloc _)
  have HBy : Hid (Blk ((W.alloc (.cells #[.int .i64 d0, .int .i64 d1, .string d2, .slice d3 l3 k3] 24)).alloc (.cells #[.int .i64 f0, .int .i64 f1, .string f2, .slice f3 m3 n3] 24)) (W.heap.size + 1) 24 #[.int .i64 f0, .int .i64 f1, .string f2, .slice f3 m3 n3]) := Lib.hid (blk22 _ _ _ _)
  have HB0 : Hid (Below W.heap.size W ((W.alloc (.cells #[.int .i64 d0, .int .i64 d1, .string d2, .slice d3 l3 k3] 24)).alloc (.cells #[.int .i64 f0, .int .i64 f1, .string f2, .slice f3 m3 n3] 24))) := Lib.hid (below_two _ _)
  go_enter Try.func5, Try.ntmps5
  go_wp2_with fail
  generalize World.alloc _ _ = W0 at HBx HBy HB0 ⊢
  have HI0 := Lib.hid (HI.out.on HB0.out)
  have hbb : W.heap.size < W.heap.size + 1 := by omega
  generalize hbe2 : W.heap.size + 1 = b2 at HBy ⊢
  generalize hbe : W.heap.size = b at HBx ⊢
  clear hbe hbe2 hbb
  refine (treed_any W0).mono ?_
  rintro e' W1 ⟨rfl, hb1⟩
  have HB1 : Hid (Below W.heap.size W W1) := Lib.hid (below_step HB0.out hb1)
  have HI1 := Lib.hid (HI0.out.on hb1)
  have HBx1 := Lib.hid (HBx.out.on_ hb1)
  have HBy1 := Lib.hid (HBy.out.on_ hb1)
  clear hb1 HBx HBy HB0 HI0 HI
  have HFx := Lib.hid (fun V h1 => FitsExpr_any HX.out V h1)
  have HFy := Lib.hid (fun V h1 => FitsExpr_any HY.out V h1)
  have HMx := Lib.hid (fun V h1 => MayExpr_any HX.out V h1)
  have HMy := Lib.hid (fun V h1 => MayExpr_any HY.out V h1)
  have q0 : W1.cell? ⟨b, 0, none⟩ = some (.int .i64 d0) := by rw [HBx1.out.cell]; rfl
  have q1 : W1.cell? ⟨b, 1, none⟩ = some (.int .i64 d1) := by rw [HBx1.out.cell]; rfl
  have q2 : W1.cell? ⟨b, 2, none⟩ = some (.string d2) := by rw [HBx1.out.cell]; rfl
  have q3 : W1.cell? ⟨b, 3, none⟩ = some (.slice d3 l3 k3) := by rw [HBx1.out.cell]; rfl
  have r0 : W1.cell? ⟨b2, 0, none⟩ = some (.int .i64 f0) := by rw [HBy1.out.cell]; rfl
  have r1 : W1.cell? ⟨b2, 1, none⟩ = some (.int .i64 f1) := by rw [HBy1.out.cell]; rfl
  have r2 : W1.cell? ⟨b2, 2, none⟩ = some (.string f2) := by rw [HBy1.out.cell]; rfl
  have r3 : W1.cell? ⟨b2, 3, none⟩ = some (.slice f3 m3 n3) := by rw [HBy1.out.cell]; rfl
  have hbl := HBx1.out.lt
  have hbl2 := HBy1.out.lt
  generalize hfx : decide (weighE x 0 ≤ 20000) = fx at HFx
  generalize hfy : decide (weighE y 0 ≤ 20000) = fy at HFy
  clear hfx hfy
  cases fx with
  | false =>
    go_wp2_with (go_at_call 14; refine (HFx.out _ HI1.out).mono ?_; rintro e' W2 ⟨rfl, hb2⟩)
    go_ret
    exact ⟨rfl, below_step HB1.out hb2⟩
  | true =>
    cases fy with
    | false =>
      go_wp2_with (first
        | (go_at_call 14; (with_reducible refine (HFx.out _ HI1.out).mono ?_); rintro e' W2 ⟨rfl, hb2⟩; have hc2 := (bcell hb2).1; have HI2 := Lib.hid (HI1.out.on hb2))
        | (go_at_call 14; (with_reducible refine (HFy.out _ HI2.out).mono ?_); rintro e' W3 ⟨rfl, hb3⟩))
      go_ret
      exact ⟨rfl, below_step HB1.out (below_step hb2 hb3)⟩
    | true =>
      go_upto_region 5 with (first
        | (go_at_call 14; (with_reducible refine (HFx.out _ HI1.out).mono ?_); rintro e' W2 ⟨rfl, hb2⟩; have hc2 := (bcell hb2).1; have HI2 := Lib.hid (HI1.out.on hb2))
        | (go_at_call 14; (with_reducible refine (HFy.out _ HI2.out).mono ?_); rintro e' W3 ⟨rfl, hb3⟩))
      have HB3 : Hid (Below W.heap.size W W3) := Lib.hid (below_step HB1.out (below_step hb2 hb3))
      have HI3 := Lib.hid (HI2.out.on hb3)
      have HBx3 := Lib.hid ((HBx1.out.on_ hb2).on_ hb3)
      have HBy3 := Lib.hid ((HBy1.out.on_ hb2).on_ hb3)
      clear hb2 hb3 hc2 HI2 HI1 HB1 HBx1 HBy1 HFx HFy q0 q1 q2 q3 r0 r1 r2 r3 hbl hbl2
      have q0 : W3.cell? ⟨b, 0, none⟩ = some (.int .i64 d0) := by rw [HBx3.out.cell]; rfl
      have q1 : W3.cell? ⟨b, 1, none⟩ = some (.int .i64 d1) := by rw [HBx3.out.cell]; rfl
      have q2 : W3.cell? ⟨b, 2, none⟩ = some (.string d2) := by rw [HBx3.out.cell]; rfl
      have q3 : W3.cell? ⟨b, 3, none⟩ = some (.slice d3 l3 k3) := by rw [HBx3.out.cell]; rfl
      have r0 : W3.cell? ⟨b2, 0, none⟩ = some (.int .i64 f0) := by rw [HBy3.out.cell]; rfl
      have r1 : W3.cell? ⟨b2, 1, none⟩ = some (.int .i64 f1) := by rw [HBy3.out.cell]; rfl
      have r2 : W3.cell? ⟨b2, 2, none⟩ = some (.string f2) := by rw [HBy3.out.cell]; rfl
      have r3 : W3.cell? ⟨b2, 3, none⟩ = some (.slice f3 m3 n3) := by rw [HBy3.out.cell]; rfl
      have hbl := HBx3.out.lt
      have hbl2 := HBy3.out.lt
      cases hmx : mayE 20 x with
      | false =>
        rw [hmx] at HMx
        go_wp2_with (go_at_call 15; refine (HMx.out _ HI3.out).mono ?_; rintro e' W4 ⟨rfl, hb4⟩)
        go_ret
        exact ⟨rfl, below_step HB3.out hb4⟩
      | true =>
        rw [hmx] at HMx
        cases hmy : mayE 20 y with
        | false =>
          rw [hmy] at HMy
          go_wp2_with (first
            | (go_at_call 15; (with_reducible refine (HMx.out _ HI3.out).mono ?_); rintro e' W4 ⟨rfl, hb4⟩; have hc4 := (bcell hb4).1; have HI4 := Lib.hid (HI3.out.on hb4))
            | (go_at_call 15; (with_reducible refine (HMy.out _ HI4.out).mono ?_); rintro e' W5 ⟨rfl, hb5⟩))
          go_ret
          exact ⟨rfl, below_step HB3.out (below_step hb4 hb5)⟩
        | true =>
          rw [hmy] at HMy
          have hdx := dep20 hmx
          have hdy := dep20 hmy
          have HT := Lib.hid (two_may (op := op) hmx hmy)
          have HTn := Lib.hid (two_names (op := op) hmx hmy)
          clear hmx hmy
          go_upto_region 7 with (first
            | (go_at_call 15; (with_reducible refine (HMx.out _ HI3.out).mono ?_); rintro e' W4 ⟨rfl, hb4⟩; have hc4 := (bcell hb4).1; have HI4 := Lib.hid (HI3.out.on hb4))
            | (go_at_call 15; (with_reducible refine (HMy.out _ HI4.out).mono ?_); rintro e' W5 ⟨rfl, hb5⟩))
          have HB5 : Hid (Below W.heap.size W W5) := Lib.hid (below_step HB3.out (below_step hb4 hb5))
          have HI5 := Lib.hid (HI4.out.on hb5)
          have HBx5 := Lib.hid ((HBx3.out.on_ hb4).on_ hb5)
          have HBy5 := Lib.hid ((HBy3.out.on_ hb4).on_ hb5)
          clear hb4 hb5 hc4 HI4 HI3 HB3 HBx3 HBy3 HMx HMy q0 q1 q2 q3 r0 r1 r2 r3 hbl hbl2
          have q0 : W5.cell? ⟨b, 0, none⟩ = some (.int .i64 d0) := by rw [HBx5.out.cell]; rfl
          have q1 : W5.cell? ⟨b, 1, none⟩ = some (.int .i64 d1) := by rw [HBx5.out.cell]; rfl
          have q2 : W5.cell? ⟨b, 2, none⟩ = some (.string d2) := by rw [HBx5.out.cell]; rfl
          have q3 : W5.cell? ⟨b, 3, none⟩ = some (.slice d3 l3 k3) := by rw [HBx5.out.cell]; rfl
          have r0 : W5.cell? ⟨b2, 0, none⟩ = some (.int .i64 f0) := by rw [HBy5.out.cell]; rfl
          have r1 : W5.cell? ⟨b2, 1, none⟩ = some (.int .i64 f1) := by rw [HBy5.out.cell]; rfl
          have r2 : W5.cell? ⟨b2, 2, none⟩ = some (.string f2) := by rw [HBy5.out.cell]; rfl
          have r3 : W5.cell? ⟨b2, 3, none⟩ = some (.slice f3 m3 n3) := by rw [HBy5.out.cell]; rfl
          have hbl := HBx5.out.lt
          have hbl2 := HBy5.out.lt
          go_upto_region 8 with fail
          have HBx6 : Hid (Blk ((W5.alloc (.cells #[.int .i64 d0, .int .i64 d1, .string d2, .slice d3 l3 k3, .int .i64 f0, .int .i64 f1, .string f2, .slice f3 m3 n3] 24)).alloc (.cells #[.int .i64 op, .int .i64 0, .string ⟨#[]⟩, .slice (some ⟨W5.heap.size, 0, none⟩) 2 2] 24)) b 24 #[.int .i64 d0, .int .i64 d1, .string d2, .slice d3 l3 k3]) := Lib.hid ((HBx5.out.alloc _).alloc _)
          have HBy6 : Hid (Blk ((W5.alloc (.cells #[.int .i64 d0, .int .i64 d1, .string d2, .slice d3 l3 k3, .int .i64 f0, .int .i64 f1, .string f2, .slice f3 m3 n3] 24)).alloc (.cells #[.int .i64 op, .int .i64 0, .string ⟨#[]⟩, .slice (some ⟨W5.heap.size, 0, none⟩) 2 2] 24)) b2 24 #[.int .i64 f0, .int .i64 f1, .string f2, .slice f3 m3 n3]) := Lib.hid ((HBy5.out.alloc _).alloc _)
          have HBk6 : Hid (Blk ((W5.alloc (.cells #[.int .i64 d0, .int .i64 d1, .string d2, .slice d3 l3 k3, .int .i64 f0, .int .i64 f1, .string f2, .slice f3 m3 n3] 24)).alloc (.cells #[.int .i64 op, .int .i64 0, .string ⟨#[]⟩, .slice (some ⟨W5.heap.size, 0, none⟩) 2 2] 24)) W5.heap.size 24 #[.int .i64 d0, .int .i64 d1, .string d2, .slice d3 l3 k3, .int .i64 f0, .int .i64 f1, .string f2, .slice f3 m3 n3]) := Lib.hid ((Blk.new _ _ _).alloc _)
          have HBb6 : Hid (Blk ((W5.alloc (.cells #[.int .i64 d0, .int .i64 d1, .string d2, .slice d3 l3 k3, .int .i64 f0, .int .i64 f1, .string f2, .slice f3 m3 n3] 24)).alloc (.cells #[.int .i64 op, .int .i64 0, .string ⟨#[]⟩, .slice (some ⟨W5.heap.size, 0, none⟩) 2 2] 24)) (W5.heap.size + 1) 24 #[.int .i64 op, .int .i64 0, .string ⟨#[]⟩, .slice (some ⟨W5.heap.size, 0, none⟩) 2 2]) := Lib.hid (blk22 _ _ _ _)
          have HB6 : Hid (Below W5.heap.size W5 ((W5.alloc (.cells #[.int .i64 d0, .int .i64 d1, .string d2, .slice d3 l3 k3, .int .i64 f0, .int .i64 f1, .string f2, .slice f3 m3 n3] 24)).alloc (.cells #[.int .i64 op, .int .i64 0, .string ⟨#[]⟩, .slice (some ⟨W5.heap.size, 0, none⟩) 2 2] 24))) := Lib.hid (below_two _ _)
          generalize World.alloc _ _ = W6 at HBx6 HBy6 HBk6 HBb6 HB6 ⊢
          clear q0 q1 q2 q3 r0 r1 r2 r3 hbl hbl2 HBx5 HBy5
          have HI6 := Lib.hid (HI5.out.on HB6.out)
          have HQb := Lib.hid (fun b h => HI5.out.1 b h)
          have HBW : Hid (Below W.heap.size W W6) := Lib.hid (below_step HB5.out HB6.out)
          have HE : Hid (ExprI W6 (fun b => Q b ∨ b = W5.heap.size) (.mk op 0 b0 [x, y]) [.int .i64 op, .int .i64 0, .string b0, .slice (some ⟨W5.heap.size, 0, none⟩) 2 2]) := Lib.hid (ExprI.of_slice (rows_slice (R := ExprI W6 (fun b => Q b ∨ b = W5.heap.size)) (l := [x, y]) [[.int .i64 d0, .int .i64 d1, .string d2, .slice d3 l3 k3], [.int .i64 f0, .int .i64 f1, .string f2, .slice f3 m3 n3]] HBk6.out rfl ⟨HX.out.keep (fun b h => .inl h) HI6.out.2, HY.out.keep (fun b h => .inl h) HI6.out.2, trivial⟩ (exprOk _ _) (.inr rfl) (by simp) rfl) hop i64_zero (by decide))
          have HIe : Hid (In (fun b => Q b ∨ b = W5.heap.size) W6 W6) := Lib.hid ⟨fun b hb => by rcases hb with hb | rfl; exact HI6.out.1 b hb; exact HBk6.out.lt, fun _ _ => rfl⟩
          clear HB6 HI5 HB5 HQb
          obtain ⟨bk, hbk⟩ : ∃ bk, bk = W5.heap.size := ⟨_, rfl⟩
          rw [← hbk] at HBk6 HBb6 HE HIe ⊢
          clear hbk
          generalize bk + 1 = bb at HBb6 ⊢
          have HDx : Hid (∀ V, In Q w V → Calls Try.prog 23 #[.agg #[.int .i64 d0, .int .i64 d1, .string d2, .slice d3 l3 k3]] V (IntOk (depE x : Nat) V)) := Lib.hid (fun V h => by have := Deep_any HX.out V h; rw [deepN, Nat.min_eq_left (by omega)] at this; exact this)
          have HDy : Hid (∀ V, In Q w V → Calls Try.prog 23 #[.agg #[.int .i64 f0, .int .i64 f1, .string f2, .slice f3 m3 n3]] V (IntOk (depE y : Nat) V)) := Lib.hid (fun V h => by have := Deep_any HY.out V h; rw [deepN, Nat.min_eq_left (by omega)] at this; exact this)
          obtain ⟨nx, hnx⟩ : ∃ n, n = depE x := ⟨_, rfl⟩
          obtain ⟨ny, hny⟩ : ∃ n, n = depE y := ⟨_, rfl⟩
          rw [← hnx] at HDx HT hdx
          rw [← hny] at HDy HT hdy
          clear hnx hny
          have q0 : W6.cell? ⟨b, 0, none⟩ = some (.int .i64 d0) := by rw [HBx6.out.cell]; rfl
          have q1 : W6.cell? ⟨b, 1, none⟩ = some (.int .i64 d1) := by rw [HBx6.out.cell]; rfl
          have q2 : W6.cell? ⟨b, 2, none⟩ = some (.string d2) := by rw [HBx6.out.cell]; rfl
          have q3 : W6.cell? ⟨b, 3, none⟩ = some (.slice d3 l3 k3) := by rw [HBx6.out.cell]; rfl
          have r0 : W6.cell? ⟨b2, 0, none⟩ = some (.int .i64 f0) := by rw [HBy6.out.cell]; rfl
          have r1 : W6.cell? ⟨b2, 1, none⟩ = some (.int .i64 f1) := by rw [HBy6.out.cell]; rfl
          have r2 : W6.cell? ⟨b2, 2, none⟩ = some (.string f2) := by rw [HBy6.out.cell]; rfl
          have r3 : W6.cell? ⟨b2, 3, none⟩ = some (.slice f3 m3 n3) := by rw [HBy6.out.cell]; rfl
          have hbl := HBx6.out.lt
          have hbl2 := HBy6.out.lt
          have hdr : ∀ V : World, In Q w V → In Q w V.drew := fun V h => h
          go_region_held3 (fun w' => w'.cell? ⟨b, 0, none⟩ = some (.int .i64 d0) ∧ w'.cell? ⟨b, 1, none⟩ = some (.int .i64 d1) ∧ w'.cell? ⟨b, 2, none⟩ = some (.string d2) ∧ w'.cell? ⟨b, 3, none⟩ = some (.slice d3 l3 k3) ∧ w'.cell? ⟨b2, 0, none⟩ = some (.int .i64 f0) ∧ w'.cell? ⟨b2, 1, none⟩ = some (.int .i64 f1) ∧ w'.cell? ⟨b2, 2, none⟩ = some (.string f2) ∧ w'.cell? ⟨b2, 3, none⟩ = some (.slice f3 m3 n3))
            (go_keep)
            (first
              | (go_at_call 23; (with_reducible refine (HDx.out _ (hdr _ HI6.out)).mono ?_); rintro e' W7 ⟨rfl, hb7⟩; have hb7' : Below W6.heap.size W6 W7 := (show Below W6.heap.size W6 W6.drew from (Below.refl _ _).drew).trans hb7; have hc7 := (bcell hb7').1; have HI7 := Lib.hid (HI6.out.on hb7'); have hl7 := Nat.lt_of_lt_of_le hbl hb7'.size; have hl7b := Nat.lt_of_lt_of_le hbl2 hb7'.size)
              | (go_at_call 23; (with_reducible refine (HDy.out _ HI7.out).mono ?_); rintro e' W8 ⟨rfl, hb8⟩; have hc8 := (bcell hb8).1))
          have HBW8 : Hid (Below W.heap.size W W8) := Lib.hid (below_step HBW.out (below_step hb7' hb8))
          have HI8 := Lib.hid (HI7.out.on hb8)
          have HIe8 := Lib.hid ((HIe.out.on hb7').on hb8)
          have HBx8 := Lib.hid ((HBx6.out.on_ hb7').on_ hb8)
          have HBy8 := Lib.hid ((HBy6.out.on_ hb7').on_ hb8)
          have HBb8 := Lib.hid ((HBb6.out.on_ hb7').on_ hb8)
          clear hb7 hb7' hb8 hc7 hc8 hl7 hl7b HI7 HI6 HIe HBx6 HBy6 HBb6 HBk6 HBW q0 q1 q2 q3 r0 r1 r2 r3 hbl hbl2 hdr HDx HDy
          have hm0 : max (nx : Int) (ny : Int) = ((max nx ny : Nat) : Int) := by omega
          generalize hmm : max nx ny = mm at HT hm0
          rw [hm0]
          have hmm2 : mm ≤ 20 := by omega
          have hwr : IntKind.i64.wrap ((mm : Int) + 1) = ((mm + 1 : Nat) : Int) := by rw [IntKind.wrap_i64]; omega
          rw [hwr]
          clear hm0 hmm hdx hdy hwr
          have HMb := Lib.hid (fun V h => MayExpr_any HE.out V h)
          have HNb := Lib.hid (fun V h => Names_any HE.out V h)
          have HNx := Lib.hid (fun V h => Names_any HX.out V h)
          have HNy := Lib.hid (fun V h => Names_any HY.out V h)
          have z0 : W8.cell? ⟨bb, 0, none⟩ = some (.int .i64 op) := by rw [HBb8.out.cell]; rfl
          have z1 : W8.cell? ⟨bb, 1, none⟩ = some (.int .i64 0) := by rw [HBb8.out.cell]; rfl
          have z2 : W8.cell? ⟨bb, 2, none⟩ = some (.string ⟨#[]⟩) := by rw [HBb8.out.cell]; rfl
          have z3 : W8.cell? ⟨bb, 3, none⟩ = some (.slice (some ⟨bk, 0, none⟩) 2 2) := by rw [HBb8.out.cell]; rfl
          have hbl3 := HBb8.out.lt
          by_cases h5 : 5 ≤ op
          · by_cases h17 : op ≤ 17
            · by_cases h20 : mm + 1 ≤ 20
              · have HF : Hid (mayE 20 (.mk op 0 b0 [x, y]) = true) := Lib.hid (by rw [HT.out, decide_eq_true h5, decide_eq_true h17, decide_eq_true h20]; rfl)
                rw [HF.out] at HMb
                have HNN : Hid (namesE (.mk op 0 b0 [x, y]) = (namesE y).foldl spoke (namesE x)) := Lib.hid (HTn.out HF.out)
                rw [HNN.out] at HNb
                have hdec : decide ((mm : Int) + 1 ≤ 20) = true := decide_eq_true (by omega)
                have HSx := Lib.hid (names_small HX.out)
                have HSy := Lib.hid (names_small HY.out)
                have HSb : Hid (∀ t ∈ (namesE y).foldl spoke (namesE x), t.size ≤ 9223372036854775807) := Lib.hid (by rw [← HNN.out]; exact names_small HE.out)
                have hlx := names_len x
                have hly := names_len y
                clear HNN HTn HF HT
                obtain ⟨nsx, hnsx⟩ : ∃ n, n = namesE x := ⟨_, rfl⟩
                obtain ⟨nsy, hnsy⟩ : ∃ n, n = namesE y := ⟨_, rfl⟩
                rw [← hnsx] at HNx HNb HSx HSb hlx
                rw [← hnsy] at HNy HNb HSy HSb hly
                clear hnsx hnsy
                go_upto_region 11 with (go_at_call 15; refine (HMb.out _ HIe8.out).mono ?_; rintro e' W9 ⟨rfl, hb9⟩)
                have HIx9 := Lib.hid (HI8.out.on hb9)
                have HIe9 := Lib.hid (HIe8.out.on hb9)
                have HBx9 := Lib.hid (HBx8.out.on_ hb9)
                have HBy9 := Lib.hid (HBy8.out.on_ hb9)
                have HBb9 := Lib.hid (HBb8.out.on_ hb9)
                have HBW9 : Hid (Below W.heap.size W W9) := Lib.hid (below_step HBW8.out hb9)
                clear hb9 z0 z1 z2 z3 hbl3
                have q0 : W9.cell? ⟨b, 0, none⟩ = some (.int .i64 d0) := by rw [HBx9.out.cell]; rfl
                have q1 : W9.cell? ⟨b, 1, none⟩ = some (.int .i64 d1) := by rw [HBx9.out.cell]; rfl
                have q2 : W9.cell? ⟨b, 2, none⟩ = some (.string d2) := by rw [HBx9.out.cell]; rfl
                have q3 : W9.cell? ⟨b, 3, none⟩ = some (.slice d3 l3 k3) := by rw [HBx9.out.cell]; rfl
                have z0 : W9.cell? ⟨bb, 0, none⟩ = some (.int .i64 op) := by rw [HBb9.out.cell]; rfl
                have z1 : W9.cell? ⟨bb, 1, none⟩ = some (.int .i64 0) := by rw [HBb9.out.cell]; rfl
                have z2 : W9.cell? ⟨bb, 2, none⟩ = some (.string ⟨#[]⟩) := by rw [HBb9.out.cell]; rfl
                have z3 : W9.cell? ⟨bb, 3, none⟩ = some (.slice (some ⟨bk, 0, none⟩) 2 2) := by rw [HBb9.out.cell]; rfl
                have hbl := HBx9.out.lt
                have hbl3 := HBb9.out.lt
                have hdr : ∀ V : World, In Q w V → In Q w V.drew := fun V h => h
                go_region_held3 (fun w' => w'.cell? ⟨b, 0, none⟩ = some (.int .i64 d0) ∧ w'.cell? ⟨b, 1, none⟩ = some (.int .i64 d1) ∧ w'.cell? ⟨b, 2, none⟩ = some (.string d2) ∧ w'.cell? ⟨b, 3, none⟩ = some (.slice d3 l3 k3) ∧ w'.cell? ⟨bb, 0, none⟩ = some (.int .i64 op) ∧ w'.cell? ⟨bb, 1, none⟩ = some (.int .i64 0) ∧ w'.cell? ⟨bb, 2, none⟩ = some (.string ⟨#[]⟩) ∧ w'.cell? ⟨bb, 3, none⟩ = some (.slice (some ⟨bk, 0, none⟩) 2 2))
                  (go_keep)
                  (first
                    | (go_at_call 18; (with_reducible refine (HNx.out _ (hdr _ HIx9.out)).mono ?_); rintro e' W10 ⟨v10, rfl, ho10, hb10⟩; have hb10' : Below W9.heap.size W9 W10 := (show Below W9.heap.size W9 W9.drew from (Below.refl _ _).drew).trans hb10; have hc10 := (bcell hb10').1; have HIe10 := Lib.hid (HIe9.out.on hb10'); have hl10 := Nat.lt_of_lt_of_le hbl hb10'.size; have hl10b := Nat.lt_of_lt_of_le hbl3 hb10'.size)
                    | (go_at_call 18; (with_reducible refine (HNb.out _ HIe10.out).mono ?_); rintro e' W11 ⟨v11, rfl, ho11, hb11⟩; have hc11 := (bcell hb11).1))
                have HBb11 := Lib.hid ((HBb9.out.on_ hb10').on_ hb11)
                have HBy11 := Lib.hid ((HBy9.out.on_ hb10').on_ hb11)
                have HIe11 := Lib.hid (HIe10.out.on hb11)
                have HIx11 := Lib.hid ((HIx9.out.on hb10').on hb11)
                have HB1011 := Lib.hid hb11
                have HBW11 : Hid (Below W.heap.size W W11) := Lib.hid (below_step HBW9.out (below_step hb10' hb11))
                have HO10 : Hid (W10.ownsRow W9.heap.size 9 1 v10 nsx.length (strs nsx)) := Lib.hid ho10
                have HT11 := Lib.hid (texts_of_own HSb.out ho11).2
                obtain ⟨A10, k10, rfl, hk10, hk10'⟩ := own_shape ho10
                obtain ⟨A11, k11, rfl, hk11, hk11'⟩ := own_shape ho11
                have hw9 : W.heap.size ≤ W9.heap.size := HBW9.out.size
                have hw10 : W9.heap.size ≤ W10.heap.size := hb10'.size
                clear z0 z1 z2 z3 hc10 hc11 ho10 ho11 hb10 hb11 hb10' HIe10 hl10 hl10b hdr q0 q1 q2 q3 hbl hbl3 HBx9 HBy9 HBb9
                have z0 : W11.cell? ⟨bb, 0, none⟩ = some (.int .i64 op) := by rw [HBb11.out.cell]; rfl
                have z1 : W11.cell? ⟨bb, 1, none⟩ = some (.int .i64 0) := by rw [HBb11.out.cell]; rfl
                have z2 : W11.cell? ⟨bb, 2, none⟩ = some (.string ⟨#[]⟩) := by rw [HBb11.out.cell]; rfl
                have z3 : W11.cell? ⟨bb, 3, none⟩ = some (.slice (some ⟨bk, 0, none⟩) 2 2) := by rw [HBb11.out.cell]; rfl
                have hbl4 := HBb11.out.lt
                go_upto_region 14 with (go_at_call 15; refine (HMb.out _ HIe11.out).mono ?_; rintro e' W12 ⟨rfl, hb12⟩)
                have HBW12 : Hid (Below W.heap.size W W12) := Lib.hid (below_step HBW11.out hb12)
                have HB1012 : Hid (Below W10.heap.size W10 W12) := Lib.hid (below_step HB1011.out hb12)
                have HIx12 := Lib.hid (HIx11.out.on hb12)
                have HBy12 := Lib.hid (HBy11.out.on_ hb12)
                have HI1112 : Hid (In (fun b => W10.heap.size ≤ b ∧ b < W11.heap.size) W11 W12) := Lib.hid ⟨fun b h => Nat.lt_of_lt_of_le h.2 hb12.size, fun p hp => hb12.cell hp.2⟩
                clear hb12 z0 z1 z2 z3 hbl4
                have r0 : W12.cell? ⟨b2, 0, none⟩ = some (.int .i64 f0) := by rw [HBy12.out.cell]; rfl
                have r1 : W12.cell? ⟨b2, 1, none⟩ = some (.int .i64 f1) := by rw [HBy12.out.cell]; rfl
                have r2 : W12.cell? ⟨b2, 2, none⟩ = some (.string f2) := by rw [HBy12.out.cell]; rfl
                have r3 : W12.cell? ⟨b2, 3, none⟩ = some (.slice f3 m3 n3) := by rw [HBy12.out.cell]; rfl
                have hbl2 := HBy12.out.lt
                go_wp2_with (go_at_call 18; refine (HNy.out _ HIx12.out).mono ?_; rintro e' W13 ⟨v13, rfl, ho13, hb13⟩; obtain ⟨A13, k13, rfl, hk13, hk13'⟩ := own_shape ho13)
                have HT13 := Lib.hid (texts_of_own HSy.out ho13).2
                have HBW13 : Hid (Below W.heap.size W W13) := Lib.hid (below_step HBW12.out hb13)
                have HB1013 : Hid (Below W10.heap.size W10 W13) := Lib.hid (below_step HB1012.out hb13)
                have HI1113 := Lib.hid (HI1112.out.on hb13)
                have HO13 : Hid (W13.ownsRow W9.heap.size 9 1 (.slice A10 nsx.length k10) nsx.length (strs nsx)) := Lib.hid ((Below.moves HB1013.out).row HO10.out (fun j hj e => Nat.not_lt.2 e (HO10.out.lt j hj).2))
                have HOb : Hid (∀ j, (Value.slice A10 nsx.length k10).ownBlock = some j → j < W10.heap.size ∨ W13.heap.size ≤ j) := Lib.hid (fun j hj => .inl (HO10.out.lt j hj).2)
                have hz12 : W10.heap.size ≤ W12.heap.size := HB1012.out.size
                have hz13 : W12.heap.size ≤ W13.heap.size := hb13.size
                have hz11 : W11.heap.size ≤ W12.heap.size := by
                  rcases Nat.lt_or_ge W12.heap.size W11.heap.size with h | h
                  · rcases Nat.lt_or_ge W10.heap.size W11.heap.size with h' | h'
                    · have := HI1112.out.1 (W11.heap.size - 1) ⟨by omega, by omega⟩; omega
                    · omega
                  · exact h
                clear ho13 hb13 r0 r1 r2 r3 hbl2 HNx HNy HNb HMb HO10
                obtain ⟨i0, hi0, hz0, hz1, hz2⟩ := info_parts string_info
                go_loopw [9, 71] (fun lv i wr => ∃ (k : Nat) (l : List ByteArray) (X : Option Addr) (cx : Nat), k ≤ nsy.length ∧ i = .int .i64 k ∧ lv = .slice X l.length cx ∧ l.length ≤ 2000000 + k ∧ Hid ((nsy.drop k).foldl spoke l = nsy.foldl spoke nsx) ∧ Hid (∀ t ∈ l, t.size ≤ 9223372036854775807) ∧ Hid (wr.ownsRow W9.heap.size 9 1 (.slice X l.length cx) l.length (strs l)) ∧ Hid (∀ j, (Value.slice X l.length cx).ownBlock = some j → j < W10.heap.size ∨ W13.heap.size ≤ j) ∧ Hid (In (fun b => W10.heap.size ≤ b ∧ b < W11.heap.size) W11 wr) ∧ Hid (In (fun b => W12.heap.size ≤ b ∧ b < W13.heap.size) W13 wr) ∧ W13.heap.size ≤ wr.heap.size ∧ Hid (Below W.heap.size W wr)) (fun _ i _ => nsy.length - (intOf i).toNat)
                case atStart => exact ⟨0, nsx, A10, k10, Nat.zero_le _, rfl, rfl, by omega, Lib.hid (by rw [List.drop_zero]), HSx, HO13, HOb, HI1113, Lib.hid ⟨fun b h => h.2, fun _ _ => rfl⟩, Nat.le_refl _, HBW13⟩
                case round =>
                  obtain ⟨k, l, X, cx, hk, rfl, rfl, hll, HW, HS, HO, HOj, HI11, HI13, hzw, HR⟩ := hrel
                  generalize wr = wo at *
                  obtain ⟨X2, cx2, hXe, hlc, hcx⟩ := own_shape HO.out
                  injection hXe with hX1 hX2 hX3
                  subst hX1 hX3
                  clear hX2
                  by_cases hlt : k < nsy.length
                  · obtain ⟨a, rfl, hqa, p1, hs⟩ := text_at HT13.out HI13.out hlt
                    have HNx : Hid ((nsy.drop (k + 1)).foldl spoke (spoke l nsy[k]) = nsy.foldl spoke nsx) := Lib.hid (by have := HW.out; rw [List.drop_eq_getElem_cons hlt, List.foldl_cons] at this; exact this)
                    have HTl := Lib.hid (texts_of_own HS.out HO.out).2
                    obtain ⟨s, hse⟩ : ∃ s, s = nsy[k] := ⟨_, rfl⟩
                    rw [← hse] at p1 hs HNx
                    clear hse HW
                    go_wp2_with fail
                    go_loop [13, 77] (fun o i => ∃ k2 : Nat, k2 ≤ l.length ∧ i = .int .i64 k2 ∧ o = .bool (hasB (l.take k2) s)) (fun _ i => l.length - (intOf i).toNat)
                    case atStart => exact ⟨0, Nat.zero_le _, rfl, rfl⟩
                    case round =>
                      obtain ⟨k2, hk2, rfl, rfl⟩ := hrel
                      by_cases hlt2 : k2 < l.length
                      · obtain ⟨a2, rfl, _, p2, _⟩ := text_at HTl.out (W := wo) ⟨fun b h => h.2, fun _ _ => rfl⟩ hlt2
                        have HT2 : Hid (hasB (l.take (k2 + 1)) s = (hasB (l.take k2) s || (l[k2].toList == s.toList))) := Lib.hid (by rw [List.take_succ_eq_append_getElem hlt2, hasB, List.any_append, hasB, dec_bytes]; simp)
                        obtain ⟨u, hu⟩ : ∃ u, u = l[k2] := ⟨_, rfl⟩
                        rw [← hu] at p2 HT2
                        clear hu
                        cases hh : hasB (l.take k2) s with
                        | true =>
                          rw [hh] at HT2
                          go_wp2_with fail
                          go_round
                          case rel => exact ⟨k2 + 1, by omega, by go_num, by rw [HT2.out]; rfl⟩
                          case measure => simp [intOf]; omega
                        | false =>
                          rw [hh] at HT2
                          go_wp2_with fail
                          go_round
                          case rel => exact ⟨k2 + 1, by omega, by go_num, by rw [HT2.out, Bool.false_or]⟩
                          case measure => simp [intOf]; omega
                      · have hte : l.take k2 = l := List.take_of_length_le (by omega)
                        rw [hte]
                        cases hh : hasB l s with
                        | true =>
                          have HNy : Hid ((nsy.drop (k + 1)).foldl spoke l = nsy.foldl spoke nsx) := Lib.hid (by rw [← HNx.out, spoke, if_pos hh])
                          go_wp2_with fail
                          go_roundw
                          case rel => exact ⟨k + 1, l, X, cx, by omega, by go_num, rfl, by omega, HNy, HS, HO, HOj, HI11, HI13, hzw, HR⟩
                          case measure => simp [intOf]; omega
                        | false =>
                          have HNy : Hid ((nsy.drop (k + 1)).foldl spoke (l ++ [s]) = nsy.foldl spoke nsx) := Lib.hid (by rw [← HNx.out, spoke, if_neg (by rw [hh]; simp)])
                          have HNw := Lib.hid (new_one wo s)
                          have hcb : W9.heap.size ≤ wo.heap.size + 1 := by omega
                          go_wp2_with (at_builtin; refine wpList_append_own_at _ rfl (.tmp 90) (.tmp 92) 28 rfl W9.heap.size 9 i0 _ 1 16 Try.underlying28 hi0 hz0 hz1 hz2 rfl (by decide) _ l.length (strs l) rfl (HO.out.alloc _) ⟨wo.heap.size, 0, none⟩ 1 1 [.string s] rfl rfl HNw.out (by simp [Value.oneCell']) (by unfold maxLen; omega) (by omega) (by rw [World.size_alloc]; exact hcb) ?_)
                          intro v' w3 hown3 hg3 _ hat3
                          have hm3 : Moves (fun j => (Value.slice X l.length cx).ownBlock = some j) wo w3 := ((Moves.refl _ wo).alloc _).trans (moves_grown hg3) (fun j hj => .inr hj)
                          have HO3 : Hid (w3.ownsRow W9.heap.size 9 1 v' (l ++ [s]).length (strs (l ++ [s]))) := Lib.hid (by rw [strs_append, List.length_append]; exact hown3)
                          have HOj3 : Hid (∀ j, v'.ownBlock = some j → j < W10.heap.size ∨ W13.heap.size ≤ j) := Lib.hid (fun j hj => by
                            rcases hat3 with h | h
                            · exact HOj.out j (h.symm.trans hj)
                            · rw [h] at hj; injection hj with hj; right; rw [← hj]; omega)
                          have HI11' := Lib.hid (HI11.out.moves hm3 (fun j hj hq => by rcases HOj.out j hj with h | h <;> omega))
                          have HI13' := Lib.hid (HI13.out.moves hm3 (fun j hj hq => by rcases HOj.out j hj with h | h <;> omega))
                          have HR3 : Hid (Below W.heap.size W w3) := Lib.hid (HR.out.trans (hm3.below HR.out.size (fun j hj => Nat.le_trans hw9 (HO.out.lt j hj).1)))
                          have hzw3 : W13.heap.size ≤ w3.heap.size := Nat.le_trans hzw hm3.size
                          have HS3 : Hid (∀ t ∈ l ++ [s], t.size ≤ 9223372036854775807) := Lib.hid (fun t ht => by rcases List.mem_append.1 ht with ht | ht; exact HS.out t ht; simp at ht; rw [ht]; exact hs)
                          obtain ⟨X3, cx3, rfl, _, _⟩ := own_form HO3.out
                          clear hown3 hg3 hat3 hm3
                          have hle3 : (l ++ [s]).length ≤ 2000000 + (k + 1) := by rw [List.length_append, List.length_cons, List.length_nil]; omega
                          go_wp2_with fail
                          go_roundw
                          case rel => exact ⟨k + 1, l ++ [s], X3, cx3, by omega, by go_num, rfl, hle3, HNy, HS3, HO3, HOj3, HI11', HI13', hzw3, HR3⟩
                          case measure => simp [intOf]; omega
                  · have HW2 : Hid (l = nsy.foldl spoke nsx) := Lib.hid (by have := HW.out; rw [List.drop_of_length_le (by omega)] at this; exact this)
                    have HEq : Hid (Calls Try.prog 17 #[.slice X l.length cx, .slice A11 (nsy.foldl spoke nsx).length k11] wo (MayOk true wo)) := Lib.hid (by
                      have := EqTexts_any (texts_of_own HS.out HO.out).2 HT11.out (W := wo) ⟨fun b h => h.2, fun _ _ => rfl⟩ HI11.out
                      rw [decide_eq_true HW2.out] at this
                      exact this)
                    go_wp2_with (go_at_call 17; refine HEq.out.mono ?_; rintro e' w9 ⟨rfl, hb9⟩)
                    go_ret
                    exact ⟨rfl, below_step HR.out hb9⟩
              · have HF : Hid (mayE 20 (.mk op 0 b0 [x, y]) = false) := Lib.hid (by rw [HT.out, decide_eq_false h20, Bool.and_false])
                rw [HF.out] at HMb
                have HNb2 : Hid (∀ V, In (fun b => Q b ∨ b = bk) W6 V → Calls Try.prog 18 #[.agg #[.int .i64 op, .int .i64 0, .string ⟨#[]⟩, .slice (some ⟨bk, 0, none⟩) 2 2]] V (NewRow [] V)) := Lib.hid (fun V h => by have := HNb.out V h; rw [namesE, HF.out] at this; exact this)
                clear HNb
                go_upto_region 11 with (go_at_call 15; refine (HMb.out _ HIe8.out).mono ?_; rintro e' W9 ⟨rfl, hb9⟩)
                have HIx9 := Lib.hid (HI8.out.on hb9)
                have HIe9 := Lib.hid (HIe8.out.on hb9)
                have HBx9 := Lib.hid (HBx8.out.on_ hb9)
                have HBb9 := Lib.hid (HBb8.out.on_ hb9)
                have HBW9 : Hid (Below W.heap.size W W9) := Lib.hid (below_step HBW8.out hb9)
                clear hb9 z0 z1 z2 z3 hbl3
                have q0 : W9.cell? ⟨b, 0, none⟩ = some (.int .i64 d0) := by rw [HBx9.out.cell]; rfl
                have q1 : W9.cell? ⟨b, 1, none⟩ = some (.int .i64 d1) := by rw [HBx9.out.cell]; rfl
                have q2 : W9.cell? ⟨b, 2, none⟩ = some (.string d2) := by rw [HBx9.out.cell]; rfl
                have q3 : W9.cell? ⟨b, 3, none⟩ = some (.slice d3 l3 k3) := by rw [HBx9.out.cell]; rfl
                have z0 : W9.cell? ⟨bb, 0, none⟩ = some (.int .i64 op) := by rw [HBb9.out.cell]; rfl
                have z1 : W9.cell? ⟨bb, 1, none⟩ = some (.int .i64 0) := by rw [HBb9.out.cell]; rfl
                have z2 : W9.cell? ⟨bb, 2, none⟩ = some (.string ⟨#[]⟩) := by rw [HBb9.out.cell]; rfl
                have z3 : W9.cell? ⟨bb, 3, none⟩ = some (.slice (some ⟨bk, 0, none⟩) 2 2) := by rw [HBb9.out.cell]; rfl
                have hbl := HBx9.out.lt
                have hbl3 := HBb9.out.lt
                have hdr : ∀ V : World, In Q w V → In Q w V.drew := fun V h => h
                go_region_held3 (fun w' => w'.cell? ⟨b, 0, none⟩ = some (.int .i64 d0) ∧ w'.cell? ⟨b, 1, none⟩ = some (.int .i64 d1) ∧ w'.cell? ⟨b, 2, none⟩ = some (.string d2) ∧ w'.cell? ⟨b, 3, none⟩ = some (.slice d3 l3 k3) ∧ w'.cell? ⟨bb, 0, none⟩ = some (.int .i64 op) ∧ w'.cell? ⟨bb, 1, none⟩ = some (.int .i64 0) ∧ w'.cell? ⟨bb, 2, none⟩ = some (.string ⟨#[]⟩) ∧ w'.cell? ⟨bb, 3, none⟩ = some (.slice (some ⟨bk, 0, none⟩) 2 2))
                  (go_keep)
                  (first
                    | (go_at_call 18; (with_reducible refine (HNx.out _ (hdr _ HIx9.out)).mono ?_); rintro e' W10 ⟨v10, rfl, ho10, hb10⟩; have hb10' : Below W9.heap.size W9 W10 := (show Below W9.heap.size W9 W9.drew from (Below.refl _ _).drew).trans hb10; have hc10 := (bcell hb10').1; have HIe10 := Lib.hid (HIe9.out.on hb10'); have hl10 := Nat.lt_of_lt_of_le hbl hb10'.size; have hl10b := Nat.lt_of_lt_of_le hbl3 hb10'.size)
                    | (go_at_call 18; (with_reducible refine (HNb2.out _ HIe10.out).mono ?_); rintro e' W11 ⟨v11, rfl, ho11, hb11⟩; have hc11 := (bcell hb11).1))
                have HBb11 := Lib.hid ((HBb9.out.on_ hb10').on_ hb11)
                have HIe11 := Lib.hid (HIe10.out.on hb11)
                obtain ⟨A11, k11, rfl, hk11, _⟩ := own_shape (n := 0) ho11
                have HBW11 : Hid (Below W.heap.size W W11) := Lib.hid (below_step HBW9.out (below_step hb10' hb11))
                clear z0 z1 z2 z3 hc10 hc11
                have z0 : W11.cell? ⟨bb, 0, none⟩ = some (.int .i64 op) := by rw [HBb11.out.cell]; rfl
                have z1 : W11.cell? ⟨bb, 1, none⟩ = some (.int .i64 0) := by rw [HBb11.out.cell]; rfl
                have z2 : W11.cell? ⟨bb, 2, none⟩ = some (.string ⟨#[]⟩) := by rw [HBb11.out.cell]; rfl
                have z3 : W11.cell? ⟨bb, 3, none⟩ = some (.slice (some ⟨bk, 0, none⟩) 2 2) := by rw [HBb11.out.cell]; rfl
                have hbl4 := HBb11.out.lt
                go_wp2_with (go_at_call 15; refine (HMb.out _ HIe11.out).mono ?_; rintro e' W12 ⟨rfl, hb12⟩)
                go_ret
                exact ⟨rfl, below_step HBW11.out hb12⟩
            · have HF : Hid (mayE 20 (.mk op 0 b0 [x, y]) = false) := Lib.hid (by rw [HT.out, decide_eq_false h17, Bool.and_false]; rfl)
              rw [HF.out] at HMb
              have HNb2 : Hid (∀ V, In (fun b => Q b ∨ b = bk) W6 V → Calls Try.prog 18 #[.agg #[.int .i64 op, .int .i64 0, .string ⟨#[]⟩, .slice (some ⟨bk, 0, none⟩) 2 2]] V (NewRow [] V)) := Lib.hid (fun V h => by have := HNb.out V h; rw [namesE, HF.out] at this; exact this)
              clear HNb
              go_upto_region 11 with (go_at_call 15; refine (HMb.out _ HIe8.out).mono ?_; rintro e' W9 ⟨rfl, hb9⟩)
              have HIx9 := Lib.hid (HI8.out.on hb9)
              have HIe9 := Lib.hid (HIe8.out.on hb9)
              have HBx9 := Lib.hid (HBx8.out.on_ hb9)
              have HBb9 := Lib.hid (HBb8.out.on_ hb9)
              have HBW9 : Hid (Below W.heap.size W W9) := Lib.hid (below_step HBW8.out hb9)
              clear hb9 z0 z1 z2 z3 hbl3
              have q0 : W9.cell? ⟨b, 0, none⟩ = some (.int .i64 d0) := by rw [HBx9.out.cell]; rfl
              have q1 : W9.cell? ⟨b, 1, none⟩ = some (.int .i64 d1) := by rw [HBx9.out.cell]; rfl
              have q2 : W9.cell? ⟨b, 2, none⟩ = some (.string d2) := by rw [HBx9.out.cell]; rfl
              have q3 : W9.cell? ⟨b, 3, none⟩ = some (.slice d3 l3 k3) := by rw [HBx9.out.cell]; rfl
              have z0 : W9.cell? ⟨bb, 0, none⟩ = some (.int .i64 op) := by rw [HBb9.out.cell]; rfl
              have z1 : W9.cell? ⟨bb, 1, none⟩ = some (.int .i64 0) := by rw [HBb9.out.cell]; rfl
              have z2 : W9.cell? ⟨bb, 2, none⟩ = some (.string ⟨#[]⟩) := by rw [HBb9.out.cell]; rfl
              have z3 : W9.cell? ⟨bb, 3, none⟩ = some (.slice (some ⟨bk, 0, none⟩) 2 2) := by rw [HBb9.out.cell]; rfl
              have hbl := HBx9.out.lt
              have hbl3 := HBb9.out.lt
              have hdr : ∀ V : World, In Q w V → In Q w V.drew := fun V h => h
              go_region_held3 (fun w' => w'.cell? ⟨b, 0, none⟩ = some (.int .i64 d0) ∧ w'.cell? ⟨b, 1, none⟩ = some (.int .i64 d1) ∧ w'.cell? ⟨b, 2, none⟩ = some (.string d2) ∧ w'.cell? ⟨b, 3, none⟩ = some (.slice d3 l3 k3) ∧ w'.cell? ⟨bb, 0, none⟩ = some (.int .i64 op) ∧ w'.cell? ⟨bb, 1, none⟩ = some (.int .i64 0) ∧ w'.cell? ⟨bb, 2, none⟩ = some (.string ⟨#[]⟩) ∧ w'.cell? ⟨bb, 3, none⟩ = some (.slice (some ⟨bk, 0, none⟩) 2 2))
                (go_keep)
                (first
                  | (go_at_call 18; (with_reducible refine (HNx.out _ (hdr _ HIx9.out)).mono ?_); rintro e' W10 ⟨v10, rfl, ho10, hb10⟩; have hb10' : Below W9.heap.size W9 W10 := (show Below W9.heap.size W9 W9.drew from (Below.refl _ _).drew).trans hb10; have hc10 := (bcell hb10').1; have HIe10 := Lib.hid (HIe9.out.on hb10'); have hl10 := Nat.lt_of_lt_of_le hbl hb10'.size; have hl10b := Nat.lt_of_lt_of_le hbl3 hb10'.size)
                  | (go_at_call 18; (with_reducible refine (HNb2.out _ HIe10.out).mono ?_); rintro e' W11 ⟨v11, rfl, ho11, hb11⟩; have hc11 := (bcell hb11).1))
              have HBb11 := Lib.hid ((HBb9.out.on_ hb10').on_ hb11)
              have HIe11 := Lib.hid (HIe10.out.on hb11)
              obtain ⟨A11, k11, rfl, hk11, _⟩ := own_shape (n := 0) ho11
              have HBW11 : Hid (Below W.heap.size W W11) := Lib.hid (below_step HBW9.out (below_step hb10' hb11))
              clear z0 z1 z2 z3 hc10 hc11
              have z0 : W11.cell? ⟨bb, 0, none⟩ = some (.int .i64 op) := by rw [HBb11.out.cell]; rfl
              have z1 : W11.cell? ⟨bb, 1, none⟩ = some (.int .i64 0) := by rw [HBb11.out.cell]; rfl
              have z2 : W11.cell? ⟨bb, 2, none⟩ = some (.string ⟨#[]⟩) := by rw [HBb11.out.cell]; rfl
              have z3 : W11.cell? ⟨bb, 3, none⟩ = some (.slice (some ⟨bk, 0, none⟩) 2 2) := by rw [HBb11.out.cell]; rfl
              have hbl4 := HBb11.out.lt
              go_wp2_with (go_at_call 15; refine (HMb.out _ HIe11.out).mono ?_; rintro e' W12 ⟨rfl, hb12⟩)
              go_ret
              exact ⟨rfl, below_step HBW11.out hb12⟩
          · have HF : Hid (mayE 20 (.mk op 0 b0 [x, y]) = false) := Lib.hid (by rw [HT.out, decide_eq_false h5]; rfl)
            rw [HF.out] at HMb
            have HNb2 : Hid (∀ V, In (fun b => Q b ∨ b = bk) W6 V → Calls Try.prog 18 #[.agg #[.int .i64 op, .int .i64 0, .string ⟨#[]⟩, .slice (some ⟨bk, 0, none⟩) 2 2]] V (NewRow [] V)) := Lib.hid (fun V h => by have := HNb.out V h; rw [namesE, HF.out] at this; exact this)
            clear HNb
            go_upto_region 11 with (go_at_call 15; refine (HMb.out _ HIe8.out).mono ?_; rintro e' W9 ⟨rfl, hb9⟩)
            have HIx9 := Lib.hid (HI8.out.on hb9)
            have HIe9 := Lib.hid (HIe8.out.on hb9)
            have HBx9 := Lib.hid (HBx8.out.on_ hb9)
            have HBb9 := Lib.hid (HBb8.out.on_ hb9)
            have HBW9 : Hid (Below W.heap.size W W9) := Lib.hid (below_step HBW8.out hb9)
            clear hb9 z0 z1 z2 z3 hbl3
            have q0 : W9.cell? ⟨b, 0, none⟩ = some (.int .i64 d0) := by rw [HBx9.out.cell]; rfl
            have q1 : W9.cell? ⟨b, 1, none⟩ = some (.int .i64 d1) := by rw [HBx9.out.cell]; rfl
            have q2 : W9.cell? ⟨b, 2, none⟩ = some (.string d2) := by rw [HBx9.out.cell]; rfl
            have q3 : W9.cell? ⟨b, 3, none⟩ = some (.slice d3 l3 k3) := by rw [HBx9.out.cell]; rfl
            have z0 : W9.cell? ⟨bb, 0, none⟩ = some (.int .i64 op) := by rw [HBb9.out.cell]; rfl
            have z1 : W9.cell? ⟨bb, 1, none⟩ = some (.int .i64 0) := by rw [HBb9.out.cell]; rfl
            have z2 : W9.cell? ⟨bb, 2, none⟩ = some (.string ⟨#[]⟩) := by rw [HBb9.out.cell]; rfl
            have z3 : W9.cell? ⟨bb, 3, none⟩ = some (.slice (some ⟨bk, 0, none⟩) 2 2) := by rw [HBb9.out.cell]; rfl
            have hbl := HBx9.out.lt
            have hbl3 := HBb9.out.lt
            have hdr : ∀ V : World, In Q w V → In Q w V.drew := fun V h => h
            go_region_held3 (fun w' => w'.cell? ⟨b, 0, none⟩ = some (.int .i64 d0) ∧ w'.cell? ⟨b, 1, none⟩ = some (.int .i64 d1) ∧ w'.cell? ⟨b, 2, none⟩ = some (.string d2) ∧ w'.cell? ⟨b, 3, none⟩ = some (.slice d3 l3 k3) ∧ w'.cell? ⟨bb, 0, none⟩ = some (.int .i64 op) ∧ w'.cell? ⟨bb, 1, none⟩ = some (.int .i64 0) ∧ w'.cell? ⟨bb, 2, none⟩ = some (.string ⟨#[]⟩) ∧ w'.cell? ⟨bb, 3, none⟩ = some (.slice (some ⟨bk, 0, none⟩) 2 2))
              (go_keep)
              (first
                | (go_at_call 18; (with_reducible refine (HNx.out _ (hdr _ HIx9.out)).mono ?_); rintro e' W10 ⟨v10, rfl, ho10, hb10⟩; have hb10' : Below W9.heap.size W9 W10 := (show Below W9.heap.size W9 W9.drew from (Below.refl _ _).drew).trans hb10; have hc10 := (bcell hb10').1; have HIe10 := Lib.hid (HIe9.out.on hb10'); have hl10 := Nat.lt_of_lt_of_le hbl hb10'.size; have hl10b := Nat.lt_of_lt_of_le hbl3 hb10'.size)
                | (go_at_call 18; (with_reducible refine (HNb2.out _ HIe10.out).mono ?_); rintro e' W11 ⟨v11, rfl, ho11, hb11⟩; have hc11 := (bcell hb11).1))
            have HBb11 := Lib.hid ((HBb9.out.on_ hb10').on_ hb11)
            have HIe11 := Lib.hid (HIe10.out.on hb11)
            obtain ⟨A11, k11, rfl, hk11, _⟩ := own_shape (n := 0) ho11
            have HBW11 : Hid (Below W.heap.size W W11) := Lib.hid (below_step HBW9.out (below_step hb10' hb11))
            clear z0 z1 z2 z3 hc10 hc11
            have z0 : W11.cell? ⟨bb, 0, none⟩ = some (.int .i64 op) := by rw [HBb11.out.cell]; rfl
            have z1 : W11.cell? ⟨bb, 1, none⟩ = some (.int .i64 0) := by rw [HBb11.out.cell]; rfl
            have z2 : W11.cell? ⟨bb, 2, none⟩ = some (.string ⟨#[]⟩) := by rw [HBb11.out.cell]; rfl
            have z3 : W11.cell? ⟨bb, 3, none⟩ = some (.slice (some ⟨bk, 0, none⟩) 2 2) := by rw [HBb11.out.cell]; rfl
            have hbl4 := HBb11.out.lt
            go_wp2_with (go_at_call 15; refine (HMb.out _ HIe11.out).mono ?_; rintro e' W12 ⟨rfl, hb12⟩)
            go_ret
            exact ⟨rfl, below_step HBW11.out hb12⟩
end Go.Proofs.Ytdjckmpfblaliaa
