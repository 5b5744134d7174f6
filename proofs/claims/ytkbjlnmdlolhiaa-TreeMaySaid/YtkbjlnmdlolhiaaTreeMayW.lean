/- The walk of TreeMay. -/
import Derived.Test.YtkbjlnmdlolhiaaTreeA
import Derived.Test.YtkbjlnmdlolhiaaTreeWW
import Derived.Test.YtkbjlnmdlolhiaaTreeMy
namespace Go.Proofs.Ytkbjlnmdlolhiaa
open Go.ChangeShapes Go.WideShapes Go.ChangeAt Go.RowKit Go.Deep
set_option linter.unusedVariables false

set_option maxHeartbeats 4000000 in
theorem treeMay_walk {w : World} {Q : Nat → Prop} {p : Pg} {c0 c1 : Value} (h : ProgI w Q p [c0, c1]) (W : World) (hI : In Q w W) :
    Calls Try.prog 3 #[.agg #[c0, c1]] W fun e w' => e = .returned (.bool true) ∧ Below W.heap.size W w' := by
  have HF := Lib.hid (fun V h1 => Fits_any h V h1)
  have HM := Lib.hid (fun V h1 => May_any h V h1)
  have HR := Lib.hid (fun V h1 => rMay_any h V h1)
  have HI := Lib.hid hI
  obtain ⟨Ag, cg, Ap, cp, rfl, rfl, _⟩ := prog_open h
  clear h hI
  go_enter Try.func3, Try.ntmps3
  go_upto_region 1 with fail
  have HB0 : Hid (Below W.heap.size W (W.alloc (.cells #[.slice Ag p.globals.length cg, .slice Ap p.procs.length cp] 25))) := Lib.hid (below_box _)
  have HBp0 : Hid (Blk (W.alloc (.cells #[.slice Ag p.globals.length cg, .slice Ap p.procs.length cp] 25)) W.heap.size 25 #[.slice Ag p.globals.length cg, .slice Ap p.procs.length cp]) := Lib.hid (Blk.new _ _ _)
  generalize World.alloc _ _ = W0 at HB0 HBp0 ⊢
  have HI0 := Lib.hid (HI.out.on HB0.out)
  generalize hbe : W.heap.size = b at HBp0 ⊢
  clear hbe
  go_upto_region 3 with (go_at_call 15; refine (treed_any W0).mono ?_; rintro e' W1 ⟨rfl, hb1⟩)
  have HB1 : Hid (Below W.heap.size W W1) := Lib.hid (below_step HB0.out hb1)
  have HI1 := Lib.hid (HI0.out.on hb1)
  have HBp1 := Lib.hid (HBp0.out.on_ hb1)
  clear hb1 HB0 HBp0 HI0
  have q0 : W1.cell? ⟨b, 0, none⟩ = some (.slice Ag p.globals.length cg) := by rw [HBp1.out.cell]; rfl
  have q1 : W1.cell? ⟨b, 1, none⟩ = some (.slice Ap p.procs.length cp) := by rw [HBp1.out.cell]; rfl
  have hbl := HBp1.out.lt
  cases hf : fitsP p with
  | false =>
    rw [hf] at HF
    clear hf
    go_wp2_with (go_at_call 16; refine (HF.out _ HI1.out).mono ?_; rintro e' W2 ⟨rfl, hb2⟩)
    go_ret
    exact ⟨rfl, below_step HB1.out hb2⟩
  | true =>
    rw [hf] at HF
    clear hf
    go_upto_region 5 with (go_at_call 16; refine (HF.out _ HI1.out).mono ?_; rintro e' W2 ⟨rfl, hb2⟩)
    have HB2 : Hid (Below W.heap.size W W2) := Lib.hid (below_step HB1.out hb2)
    have HI2 := Lib.hid (HI1.out.on hb2)
    have HBp2 := Lib.hid (HBp1.out.on_ hb2)
    clear hb2 HB1 HI1 HBp1 q0 q1 hbl HF
    have q0 : W2.cell? ⟨b, 0, none⟩ = some (.slice Ag p.globals.length cg) := by rw [HBp2.out.cell]; rfl
    have q1 : W2.cell? ⟨b, 1, none⟩ = some (.slice Ap p.procs.length cp) := by rw [HBp2.out.cell]; rfl
    have hbl := HBp2.out.lt
    have hdr : ∀ V : World, In Q w V → In Q w V.drew := fun V h => h
    generalize mayP p = m at HM HR
    cases m
    all_goals
      go_region_held3 (fun w' => w'.cell? ⟨b, 0, none⟩ = some (.slice Ag p.globals.length cg) ∧ w'.cell? ⟨b, 1, none⟩ = some (.slice Ap p.procs.length cp))
        (go_keep)
        (first
          | (go_at_call 17; refine (HM.out _ (hdr _ HI2.out)).mono ?_; rintro e' W3 ⟨rfl, hb3⟩; have hb3' : Below W2.heap.size W2 W3 := (show Below W2.heap.size W2 W2.drew from (Below.refl _ _).drew).trans hb3; have HI3 := Lib.hid (HI2.out.on hb3'); have hc3 := (bcell hb3').1; have hl3 := Nat.lt_of_lt_of_le hbl hb3'.size)
          | (go_at_call 18; refine (HR.out _ HI3.out).mono ?_; rintro e' W4 ⟨rfl, hb4⟩; have hc4 := (bcell hb4).1; have hl4 := Nat.lt_of_lt_of_le hl3 hb4.size))
      go_wp2_with fail
      go_ret
      exact ⟨rfl, below_step HB2.out (below_step hb3' hb4)⟩
end Go.Proofs.Ytkbjlnmdlolhiaa
