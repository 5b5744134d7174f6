/- Texts, merged by a program; only what is used. -/
import Derived.OrdersHeld
import Derived.Maps.AppendAt
import Derived.Maps.Range
import Derived.Test.YtnnblklbjbkikaaK1
import Derived.Test.YtnnblklbjbkikaaK2
import Derived.Test.YtnnblklbjbkikaaK3
import Derived.Test.YtnnblklbjbkikaaK4
import Derived.Test.YtnnblklbjbkikaaK5
import Derived.Test.YtnnblklbjbkikaaK6
import Derived.Test.YtnnblklbjbkikaaK7
import Derived.Test.YtnnblklbjbkikaaK8
import Derived.Test.YtnnblklbjbkikaaK9
import Derived.Test.YtnnblklbjbkikaaK10
import Derived.Test.YtnnblklbjbkikaaK11
import Derived.Test.YtnnblklbjbkikaaK12
import Derived.Test.YtnnblklbjbkikaaK13
import Derived.Test.YtnnblklbjbkikaaK14
import Derived.Test.YtnnblklbjbkikaaK15
import Derived.Test.YtnnblklbjbkikaaK16
import Derived.Test.YtnnblklbjbkikaaK17
import Derived.Test.YtnnblklbjbkikaaK18
import Derived.Test.YtnnblklbjbkikaaK19
import Derived.Test.YtnnblklbjbkikaaK20
import Derived.Test.YtnnblklbjbkikaaK21
import Derived.Test.YtnnblklbjbkikaaK22
import Derived.Test.YtnnblklbjbkikaaK23
import Derived.Test.YtnnblklbjbkikaaK24
import Derived.Test.YtnnblklbjbkikaaK25
import Derived.Test.YtnnblklbjbkikaaK26
import Derived.Test.YtnnblklbjbkikaaK27
import Derived.Test.YtnnblklbjbkikaaK28
import Derived.Test.YtnnblklbjbkikaaK29
import Derived.Test.YtnnblklbjbkikaaK30
import Derived.Test.YtnnblklbjbkikaaK31
import Derived.Test.YtnnblklbjbkikaaK32
namespace Go.Proofs.Ytnnblklbjbkikaa
open Go.ChangeShapes Go.WideShapes Go.ChangeAt Go.RowKit Go.Deep
set_option linter.unusedVariables false
set_option linter.unusedSimpArgs false
theorem texts2 {w : World} {b : Nat} {ty : TypeId} {s t : ByteArray} (h : Blk w b ty #[.string s, .string t]) (hs : s.size ≤ 9223372036854775807) (ht : t.size ≤ 9223372036854775807) : TextsI w (fun j => j = b) [s, t] (.slice (some ⟨b, 0, none⟩) 2 2) := by
 refine ⟨some ⟨b, 0, none⟩, 2, fun i => if i = 0 then [.string s] else [.string t], rfl, ⟨by simp, by decide⟩, fun _ => ⟨⟨b, 0, none⟩, rfl, rfl, fun i hi j u hu => ?_⟩, fun i hi => ?_⟩
 ·simp only [List.length_cons, List.length_nil] at hi
  have h0 : w.cell? ⟨b, 0, none⟩ = some (.string s) := by rw [h.cell]; rfl
  have h1 : w.cell? ⟨b, 1, none⟩ = some (.string t) := by rw [h.cell]; rfl
  rcases (show i = 0 ∨ i = 1 by omega) with rfl | rfl
  ·have hj : j = 0 := by have := (List.getElem?_eq_some_iff.1 hu).1; simp at this; exact this
   subst hj
   simp at hu
   subst hu
   exact h0
  ·have hj : j = 0 := by have := (List.getElem?_eq_some_iff.1 hu).1; simp at this; exact this
   subst hj
   simp at hu
   subst hu
   exact h1
 ·simp only [List.length_cons, List.length_nil] at hi
  rcases (show i = 0 ∨ i = 1 by omega) with rfl | rfl
  ·exact ⟨rfl, hs⟩
  ·exact ⟨rfl, ht⟩
theorem own_two {w : World} {base : Nat} {ty : TypeId} {v : Value} {s t : ByteArray} (h : w.ownsRow base ty 1 v [s, t].length (strs [s, t])) : ∃ g c, v = .slice (some ⟨g, 0, none⟩) 2 c ∧ (w.cell? ⟨g, 0, none⟩ = some (.string s) ∧ w.cell? ⟨g, 1, none⟩ = some (.string t)) ∧ g < w.heap.size := by
 have hlt := fun j e => (h.lt j e).2
 obtain ⟨hl, h'⟩ := h
 rcases h' with ⟨_, e⟩ | ⟨g, cap, cur, rfl, hb, hg, hnc, hm, hs, ht⟩
 ·simp at e
 ·have h0 := own_cells (m := 2) (cap := cap) (n := 2) (w := w) (base := base) (e := ty) (size := 1) (xs := strs [s, t]) ⟨hl, .inr ⟨g, cap, cur, rfl, hb, hg, hnc, hm, hs, ht⟩⟩
  exact ⟨g, cap, rfl, ⟨h0 0 (.string s) rfl, h0 1 (.string t) rfl⟩, hlt g rfl⟩
set_option maxHeartbeats 8000000 in
set_option maxRecDepth 100000 in
theorem scopeSwap_walk {w : World} {Q : Nat → Prop} {p : Pg} {c0 c1 : Value} (h : ProgI w Q p [c0, c1]) (sa : ByteArray) (wsa : sa.size ≤ maxLen) (sb : ByteArray) (wsb : sb.size ≤ maxLen) (sp : ByteArray) (wsp : sp.size ≤ maxLen) (sn : ByteArray) (wsn : sn.size ≤ maxLen) (W : World) (hI : In Q w W) :
 Calls Try.prog 7 #[.agg #[c0, c1], .string sa, .string sb, .string sp, .string sn] W fun e w' => e = .returned (.bool true) ∧ Below W.heap.size W w' := by
 have HP := Lib.hid h
 have HF := Lib.hid (fun V h1 => Fits_any h V h1)
 have HI := Lib.hid hI
 obtain ⟨Ag, cg, Ap, cp, rfl, rfl, _⟩ := prog_open h
 clear h hI
 go_enter Try.func7, Try.ntmps7
 go_upto_region 1 with fail
 have HB0 : Hid (Below W.heap.size W (W.alloc (.cells #[.slice Ag p.globals.length cg, .slice Ap p.procs.length cp] 25))) := Lib.hid (below_box _)
 have HBp0 : Hid (Blk (W.alloc (.cells #[.slice Ag p.globals.length cg, .slice Ap p.procs.length cp] 25)) W.heap.size 25 #[.slice Ag p.globals.length cg, .slice Ap p.procs.length cp]) := Lib.hid (Blk.new _ _ _)
 generalize World.alloc _ _ = W0 at HB0 HBp0 ⊢
 have HI0 := Lib.hid (HI.out.on HB0.out)
 generalize hbe : W.heap.size = b at HBp0 ⊢
 clear hbe
 go_upto_region 3 with (go_at_call 25; refine (known_any W0).mono ?_; rintro e' W1 ⟨rfl, hb1⟩)
 have HB1 : Hid (Below W.heap.size W W1) := Lib.hid (below_step HB0.out hb1)
 have HI1 := Lib.hid (HI0.out.on hb1)
 have HBp1 := Lib.hid (HBp0.out.below hb1 HBp0.out.lt)
 clear hb1 HB0 HBp0 HI0
 have q0 : W1.cell? ⟨b, 0, none⟩ = some (.slice Ag p.globals.length cg) := by rw [HBp1.out.cell]; rfl
 have q1 : W1.cell? ⟨b, 1, none⟩ = some (.slice Ap p.procs.length cp) := by rw [HBp1.out.cell]; rfl
 have hbl := HBp1.out.lt
 cases hf : fitsP p with
 | false =>
  rw [hf] at HF
  clear hf
  go_wp2_with (go_at_call 13; refine (HF.out _ HI1.out).mono ?_; rintro e' W2 ⟨rfl, hb2⟩)
  go_ret
  exact ⟨rfl, below_step HB1.out hb2⟩
 | true =>
  have HSg := Lib.hid (fits_smG hf)
  have HC := Lib.hid (fun V hV => Check_any HP.out (fits_smG hf) V hV)
  have HM := Lib.hid (fun V hV => May_any HP.out V hV)
  have HKd := Lib.hid (fun V hV => Kind_any HP.out sp sn V hV)
  have hsa : sa.size ≤ 9223372036854775807 := wsa
  have hsb : sb.size ≤ 9223372036854775807 := wsb
  have HSw := Lib.hid (fun V hV => Swap_any (W := V) HP.out hV (fits_smG hf) hsa hsb)
  have HSmw := Lib.hid (fun (ha : sa.size ≤ 8) (hb : sb.size ≤ 8) => fits_sw ha hb hf)
  have HNa := Lib.hid (fun V => Name_any sa V wsa)
  have HNb := Lib.hid (fun V => Name_any sb V wsb)
  have HOn := Lib.hid (And.intro (show sp.size ≤ 9223372036854775807 from wsp) (show sn.size ≤ 9223372036854775807 from wsn))
  clear wsa wsb wsp wsn hsa hsb
  rw [hf] at HF
  clear hf
  go_upto_region 5 with (go_at_call 13; refine (HF.out _ HI1.out).mono ?_; rintro e' W2 ⟨rfl, hb2⟩)
  have HB2 : Hid (Below W.heap.size W W2) := Lib.hid (below_step HB1.out hb2)
  have HI2 := Lib.hid (HI1.out.on hb2)
  have HBp2 := Lib.hid (HBp1.out.below hb2 hbl)
  clear hb2 HB1 HI1 HBp1 q0 q1 hbl HF
  have q0 : W2.cell? ⟨b, 0, none⟩ = some (.slice Ag p.globals.length cg) := by rw [HBp2.out.cell]; rfl
  have q1 : W2.cell? ⟨b, 1, none⟩ = some (.slice Ap p.procs.length cp) := by rw [HBp2.out.cell]; rfl
  have hbl := HBp2.out.lt
  cases hna : isNm (bl sa) with
  | false =>
   rw [hna] at HNa
   clear hna
   go_wp2_with (go_at_call 27; (with_reducible refine (HNa.out _).mono ?_); rintro e' w' ⟨rfl, rfl⟩)
   go_ret
   exact ⟨rfl, HB2.out⟩
  | true =>
   rw [hna] at HNa
   cases hnb : isNm (bl sb) with
   | false =>
    rw [hnb] at HNb
    clear hna hnb
    go_wp2_with (first
     | (go_at_call 27; (with_reducible refine (HNa.out _).mono ?_); rintro e' w' ⟨rfl, rfl⟩)
     | (go_at_call 27; (with_reducible refine (HNb.out _).mono ?_); rintro e' w' ⟨rfl, rfl⟩))
    go_ret
    exact ⟨rfl, HB2.out⟩
   | true =>
    rw [hnb] at HNb
    cases hma : (sa.toList == [109, 97, 105, 110]) with
    | true =>
     clear hna hnb
     go_wp2_with (first
      | (go_at_call 27; (with_reducible refine (HNa.out _).mono ?_); rintro e' w' ⟨rfl, rfl⟩)
      | (go_at_call 27; (with_reducible refine (HNb.out _).mono ?_); rintro e' w' ⟨rfl, rfl⟩))
     go_ret
     exact ⟨rfl, HB2.out⟩
    | false =>
     cases hmb : (sb.toList == [109, 97, 105, 110]) with
     | true =>
      clear hna hnb
      go_wp2_with (first
       | (go_at_call 27; (with_reducible refine (HNa.out _).mono ?_); rintro e' w' ⟨rfl, rfl⟩)
       | (go_at_call 27; (with_reducible refine (HNb.out _).mono ?_); rintro e' w' ⟨rfl, rfl⟩))
      go_ret
      exact ⟨rfl, HB2.out⟩
     | false =>
      cases hmp : mayP p with
      | false =>
       rw [hmp] at HM
       clear hna hnb hmp
       go_wp2_with (first
        | (go_at_call 27; (with_reducible refine (HNa.out _).mono ?_); rintro e' w' ⟨rfl, rfl⟩)
        | (go_at_call 27; (with_reducible refine (HNb.out _).mono ?_); rintro e' w' ⟨rfl, rfl⟩)
        | (go_at_call 14; refine (HM.out W2 HI2.out).mono ?_; rintro e' W3 ⟨rfl, hb3⟩))
       go_ret
       exact ⟨rfl, below_step HB2.out hb3⟩
      | true =>
       rw [hmp] at HM
       have hne : ∀ s : ByteArray, (s.toList == [109, 97, 105, 110]) = false → s ≠ mainB := fun s h e => by have h2 := dec_bytes s mainB; rw [bl_toList mainB] at h2; have h3 : (s.toList == [109, 97, 105, 110]) = decide (s = mainB) := h2; rw [h, decide_eq_true e] at h3; cases h3
       have HCw : chkP (swP sa sb p) = chkP p := chkP_sw hna hnb (hne sa hma) (hne sb hmb) p
       have HKw : kindP (swP sa sb p) (oth sa sb sp) (oth sa sb sn) = kindP p sp sn := kindP_sw hna hnb p sp sn
       have HCw := Lib.hid HCw
       have HKw := Lib.hid HKw
       have HSm := Lib.hid (HSmw.out (nm_short hna).2 (nm_short hnb).2)
       have HTx := Lib.hid (fun (V : World) (Q : Nat → Prop) (v : Value) (h : TextsI V Q [sp, sn] v) (hI : In Q V V) => SwapTexts_any h (by simp) sa sb hI)
       clear hna hnb hmp hne HSmw
       obtain ⟨pq, hpq⟩ : ∃ pq, pq = swP sa sb p := ⟨_, rfl⟩
       rw [← hpq] at HSw HCw HKw HSm
       clear hpq
       go_upto_region 7 with (first
        | (go_at_call 27; (with_reducible refine (HNa.out _).mono ?_); rintro e' w' ⟨rfl, rfl⟩)
        | (go_at_call 27; (with_reducible refine (HNb.out _).mono ?_); rintro e' w' ⟨rfl, rfl⟩)
        | (go_at_call 14; refine (HM.out W2 HI2.out).mono ?_; rintro e' W3 ⟨rfl, hb3⟩))
       have HB3 := Lib.hid (below_step HB2.out hb3)
       have HI3 := Lib.hid (HI2.out.on hb3)
       have HBp3 := Lib.hid (HBp2.out.below hb3 hbl)
       clear hb3 q0 q1 hbl HB2 HI2 HBp2 HM HNa HNb hma hmb
       have hbl := HBp3.out.lt
       have q0 : W3.cell? ⟨b, 0, none⟩ = some (.slice Ag p.globals.length cg) := by rw [HBp3.out.cell]; rfl
       have q1 : W3.cell? ⟨b, 1, none⟩ = some (.slice Ap p.procs.length cp) := by rw [HBp3.out.cell]; rfl
       go_upto_region 8 with (go_at_call 21; refine (HSw.out W3 HI3.out).mono ?_; rintro e' W4 ⟨d0, d1, rfl, hb4, hp4⟩; have HPq := Lib.hid hp4; obtain ⟨Aq, cq, Ar, cr, rfl, rfl, _⟩ := prog_open hp4; clear hp4)
       have HB4 : Hid (Below W3.heap.size W3 (W4.alloc (.cells #[.slice Aq pq.globals.length cq, .slice Ar pq.procs.length cr] 25))) := Lib.hid (below_stepA hb4 _)
       have HBq : Hid (Blk (W4.alloc (.cells #[.slice Aq pq.globals.length cq, .slice Ar pq.procs.length cr] 25)) W4.heap.size 25 #[.slice Aq pq.globals.length cq, .slice Ar pq.procs.length cr]) := Lib.hid (Blk.new _ _ _)
       have HIq : Hid (In (nw W3 W4) W4 (W4.alloc (.cells #[.slice Aq pq.globals.length cq, .slice Ar pq.procs.length cr] 25))) := Lib.hid (In.on ⟨fun j h => h.2, fun _ _ => rfl⟩ (below_box _))
       have HCq := Lib.hid (fun V hV => Check_any HPq.out HSm.out V hV)
       have HKq := Lib.hid (fun V hV => Kind_any HPq.out (oth sa sb sp) (oth sa sb sn) V hV)
       rw [HCw.out] at HCq
       rw [HKw.out] at HKq
       clear hb4 q0 q1 HCw HKw HSm HSw HPq
       generalize chkP p = rc at *
       generalize kindP p sp sn = rk at *
       obtain ⟨rc0, rc1⟩ := rc
       generalize World.alloc W4 _ = V4 at HB4 HBq HIq ⊢
       generalize W4.heap.size = bq at HBq ⊢
       have HB4W := Lib.hid (below_step HB3.out HB4.out)
       have HI4 := Lib.hid (HI3.out.on HB4.out)
       have HBp4 := Lib.hid (HBp3.out.below HB4.out hbl)
       clear HB3 HB4 HI3 HBp3 hbl
       go_upto_region 9 with (go_at_call 36; refine (HTx.out _ (fun j => j = V4.heap.size) _ (texts2 (Blk.new _ _ _) HOn.out.1 HOn.out.2) ⟨fun j h => by subst h; simp, fun _ _ => rfl⟩).mono ?_; rintro e' W5 ⟨v5, rfl, ho5, hb5⟩; obtain ⟨g, c5, hv5, hcl5, hle5⟩ := own_two ho5; subst hv5)
       have HB5 : Hid (Below V4.heap.size V4 W5) := Lib.hid (below_new hb5)
       have HB5W := Lib.hid (below_step HB4W.out HB5.out)
       have HI5 := Lib.hid (HI4.out.on HB5.out)
       have HIq5 := Lib.hid (HIq.out.on HB5.out)
       have HBp5 := Lib.hid (HBp4.out.below HB5.out HBp4.out.lt)
       have HBq5 := Lib.hid (HBq.out.below HB5.out HBq.out.lt)
       have hl5 := hle5
       generalize oth sa sb sp = xa at *
       generalize oth sa sb sn = xb at *
       obtain ⟨g0, g1⟩ := hcl5
       clear hb5 ho5 HB4W HI4 HIq HBp4 HBq HTx HOn hle5 HB5
       have hbl := HBp5.out.lt
       have hql := HBq5.out.lt
       have q0 : W5.cell? ⟨b, 0, none⟩ = some (.slice Ag p.globals.length cg) := by rw [HBp5.out.cell]; rfl
       have q1 : W5.cell? ⟨b, 1, none⟩ = some (.slice Ap p.procs.length cp) := by rw [HBp5.out.cell]; rfl
       have r0 : W5.cell? ⟨bq, 0, none⟩ = some (.slice Aq pq.globals.length cq) := by rw [HBq5.out.cell]; rfl
       have r1 : W5.cell? ⟨bq, 1, none⟩ = some (.slice Ar pq.procs.length cr) := by rw [HBq5.out.cell]; rfl
       have HS9 : Hid (∀ w' : World, Below W5.heap.size W5 w' → (w'.cell? ⟨b, 0, none⟩ = some (.slice Ag p.globals.length cg) ∧ w'.cell? ⟨b, 1, none⟩ = some (.slice Ap p.procs.length cp) ∧ w'.cell? ⟨bq, 0, none⟩ = some (.slice Aq pq.globals.length cq) ∧ w'.cell? ⟨bq, 1, none⟩ = some (.slice Ar pq.procs.length cr) ∧ w'.cell? ⟨g, 0, none⟩ = some (.string xa) ∧ w'.cell? ⟨g, 1, none⟩ = some (.string xb))) := Lib.hid (fun w' hb => ⟨(hb.cell (p := ⟨b, 0, none⟩) hbl).trans q0, (hb.cell (p := ⟨b, 1, none⟩) hbl).trans q1, (hb.cell (p := ⟨bq, 0, none⟩) hql).trans r0, (hb.cell (p := ⟨bq, 1, none⟩) hql).trans r1, (hb.cell (p := ⟨g, 0, none⟩) hl5).trans g0, (hb.cell (p := ⟨g, 1, none⟩) hl5).trans g1⟩)
       have hBD : Below W5.heap.size W5 W5.drew := (Below.refl _ _).drew
       have hdr : ∀ (Q : Nat → Prop) (w V : World), In Q w V → In Q w V.drew := fun Q w V h => h
       go_region_held3 (fun w' => w'.cell? ⟨b, 0, none⟩ = some (.slice Ag p.globals.length cg) ∧ w'.cell? ⟨b, 1, none⟩ = some (.slice Ap p.procs.length cp) ∧ w'.cell? ⟨bq, 0, none⟩ = some (.slice Aq pq.globals.length cq) ∧ w'.cell? ⟨bq, 1, none⟩ = some (.slice Ar pq.procs.length cr) ∧ w'.cell? ⟨g, 0, none⟩ = some (.string xa) ∧ w'.cell? ⟨g, 1, none⟩ = some (.string xb))
        ((refine HS9.out _ ?_; with_reducible assumption))
        (first
         | (go_at_call 26; (with_reducible refine (HCq.out W5.drew (hdr _ _ _ HIq5.out)).mono ?_); rintro e' W6 ⟨rfl, hb6⟩; have k6 : Below W5.heap.size W5 W6 := hBD.trans hb6; have HI6 := Lib.hid (HI5.out.on k6); have HIq6 := Lib.hid (HIq5.out.on k6))
         | (go_at_call 26; (with_reducible refine (HC.out W6 HI6.out).mono ?_); rintro e' W7 ⟨rfl, hb7⟩; have k7 : Below W5.heap.size W5 W7 := below_step k6 hb7; have HI7 := Lib.hid (HI6.out.on hb7); have HIq7 := Lib.hid (HIq6.out.on hb7))
         | (go_at_call 37; (with_reducible refine (HKq.out W7 HIq7.out).mono ?_); rintro e' W8 ⟨rfl, hb8⟩; have k8 : Below W5.heap.size W5 W8 := below_step k7 hb8; have HI8 := Lib.hid (HI7.out.on hb8))
         | (go_at_call 37; (with_reducible refine (HKd.out W8 HI8.out).mono ?_); rintro e' W9 ⟨rfl, hb9⟩; have k9 : Below W5.heap.size W5 W9 := below_step k8 hb9))
       go_wp2_with fail
       go_ret
       exact ⟨rfl, below_step HB5W.out k9⟩
end Go.Proofs.Ytnnblklbjbkikaa
namespace Go.Proofs.Ytnnblklbjbkikaa
open Go.ChangeShapes Go.WideShapes Go.ChangeAt Go.RowKit Go.Deep
set_option linter.unusedVariables false
set_option linter.unusedSimpArgs false
theorem grown_box {a b : World} {o : Obj} {row : Option Nat} (h : (a.alloc o).grownBy b row) : a.grownBy b row := ⟨h.os, h.tape, h.output, Nat.le_trans (by simp) h.size, fun k hk hn => (h.block k (by simp; omega) hn).trans (Below.heap_alloc _ _ _ hk)⟩
def saidV (a : Ar) : List ByteArray := (if a.ref = true then [a.nm] else []) ++ namesE a.x
def saidS (s : S) : List ByteArray := ownV s.kind s.nm ++ namesE s.x ++ s.args.flatMap saidV
mutual
theorem blkOk_all : ∀ (l : List S) (d c c' : Nat), blkOk l d c = some c' → ∀ s ∈ preSL l, stmtOk s = true
 | [], d, c, c', h, s, hs => by rw [preSL] at hs; cases hs
 | x :: l, d, c, c', h, s, hs => by
  rw [blkOk] at h
  cases h1 : oneOk x d c with
  | none => rw [h1] at h; cases h
  | some c1 =>
   rw [h1] at h
   rw [preSL] at hs
   rcases List.mem_append.1 hs with hs | hs
   ·exact oneOk_all x d c c1 h1 s hs
   ·exact blkOk_all l d c1 c' h s hs
theorem oneOk_all : ∀ (x : S) (d c c' : Nat), oneOk x d c = some c' → ∀ s ∈ preS x, stmtOk s = true
 | .mk id kind labels nm proc x has args th el, d, c, c', h, s, hs => by
  rw [oneOk] at h
  by_cases hb : d ≤ 12 ∧ c + 1 ≤ 200 ∧ id = ((c + 1 : Nat) : Int) ∧ stmtOk (.mk id kind labels nm proc x has args th el) = true
  ·rw [if_pos hb] at h
   rw [preS] at hs
   cases h1 : blkOk th (d + 1) (c + 1) with
   | none => rw [h1] at h; cases h
   | some c1 =>
    rw [h1] at h
    rcases List.mem_cons.1 hs with rfl | hs
    ·exact hb.2.2.2
    ·rcases List.mem_append.1 hs with hs | hs
     ·exact blkOk_all th (d + 1) (c + 1) c1 h1 s hs
     ·exact blkOk_all el (d + 1) c1 c' h s hs
  ·rw [if_neg hb] at h; cases h
end
theorem prOk_stm : ∀ (l : List Pr) (c c' : Nat), prOk l c = some c' → ∀ q ∈ l, ∀ s ∈ preSL q.body, stmtOk s = true
 | [], c, c', h, q, hq => by cases hq
 | x :: l, c, c', h, q, hq => by
  rw [prOk] at h
  split at h
  ·cases h1 : blkOk x.body 1 c with
   | none => rw [h1] at h; cases h
   | some c1 =>
    rw [h1] at h
    rcases List.mem_cons.1 hq with rfl | hq
    ·exact blkOk_all _ _ _ _ h1
    ·exact prOk_stm l c1 c' h q hq
  ·cases h
theorem may_stm {p : Pg} (h : mayP p = true) : ∀ q ∈ p.procs, ∀ s ∈ preSL q.body, stmtOk s = true := by
 unfold mayP at h
 rw [Bool.and_eq_true] at h
 cases hp : prOk p.procs 0 with
 | none => rw [hp] at h; cases h.2
 | some c => exact prOk_stm _ _ _ hp
theorem none_names {e : E} (h : noneE e = true) : namesE e = [] := by
 obtain ⟨op, n, nm, ks⟩ := e
 unfold noneE at h
 simp only [Bool.and_eq_true, beq_iff_eq] at h
 obtain ⟨⟨⟨rfl, rfl⟩, h3⟩, h4⟩ := h
 unfold namesE
 have hk : ks = [] := List.eq_nil_of_length_eq_zero (by omega)
 subst hk
 rw [if_neg (by simp [mayE, opN])]
theorem arg_names {a : Ar} (h : argOk a = true) : saidV a = argV a := by
 obtain ⟨r, nm, x⟩ := a
 unfold argOk at h
 rw [Bool.and_eq_true] at h
 unfold saidV argV
 cases r with
 | true =>
  have hx : noneE x = true := by have := h.2; unfold xOk at this; simpa using this
  simp [none_names hx]
 | false => simp
theorem said_eq {s : S} (h : stmtOk s = true) : s.args.flatMap saidV = s.args.flatMap argV := by
 obtain ⟨id, kind, labels, nm, proc, x, has, args, th, el⟩ := s
 rw [stmtOk_eq] at h
 simp only [Bool.and_eq_true] at h
 have h2 := h.2
 unfold argsOk at h2
 rw [List.all_eq_true] at h2
 rw [List.flatMap_def, List.flatMap_def]
 congr 1
 exact List.map_congr_left (fun a ha => arg_names (h2 a ha))
theorem saidS_w {s : S} (h : stmtOk s = true) : (saidS s).length ≤ wS s := by
 have h1 := varsS_w s
 unfold varsS at h1
 unfold saidS
 rw [said_eq h]
 simp only [List.length_append] at h1 ⊢
 omega
theorem item_at {w W0 W : World} {Q Q0 : Nat → Prop} {l : List It} {A : Option Addr} {n cap : Nat} (h : SliceI W0 Q0 16 (ItemI w Q) l (.slice A n cap)) (hI : In Q0 W0 W) {k : Nat} (hk : k < l.length) :
 ∃ a id kind labels nm proc x has args th el L lc y0 y1 y2 X xn xc R rc T tc U uc dp inn els, A = some a ∧ Q0 a.block ∧ l[k].s = .mk id kind labels nm proc x has args th el ∧
 RowAt W (a.add (k * 16)) (.int .i64 id) [.int .i64 kind, .slice L labels.length lc, .string nm, .string proc, .int .i64 y0, .int .i64 y1, .string y2, .slice X xn xc, .bool has, .slice R args.length rc, .slice T th.length tc, .slice U el.length uc, .int .i64 dp, .int .i64 inn, .bool els] ∧ i64 id ∧ i64 kind ∧
 StmtI w Q (.mk id kind labels nm proc x has args th el) [.int .i64 id, .int .i64 kind, .slice L labels.length lc, .string nm, .string proc, .int .i64 y0, .int .i64 y1, .string y2, .slice X xn xc, .bool has, .slice R args.length rc, .slice T th.length tc, .slice U el.length uc] := by
 obtain ⟨a, cs, rfl, hq, ⟨c, rfl, hst⟩, hc⟩ := slice_at h hI hk
 obtain ⟨id, kind, labels, nm, proc, x, has, args, th, el, L, lc, y0, y1, y2, X, xn, xc, R, rc, T, tc, U, uc, hmk, rfl, h1, h2, _⟩ := stmt_open hst
 rw [hmk] at hst
 exact ⟨a, id, kind, labels, nm, proc, x, has, args, th, el, L, lc, y0, y1, y2, X, xn, xc, R, rc, T, tc, U, uc, _, _, _, rfl, hq, hmk, rowAt_elem hc, h1, h2, hst⟩
section
variable {P : Program} {md : Region.Mode} {ops : Array Oper} {Q : Exit → Act → World → Prop} {S : World → Prop}
theorem wpAnyH_step {i : Nat} {o : Oper} {fuel : Nat} {listed : Array Bool} {a : Act} {w : World} (hr : Region.ready md ops listed = [i]) (ho : ops[i]? = some o)
 (h : ∀ K' : Act → World → Prop, Shut (∀ a w, S w → wpAnyH P md ops Q S fuel (listed.setIfInBounds i true) a w → K' a w) → if Region.wanted o (yielded ops a.tmps) = true then Oper.wp P o a w K' Q else K' (a.put o.dst undef) w) : wpAnyH P md ops Q S (fuel + 1) listed a w :=
 wpAnyH_all hr (by simp) (fun j hj => by rw [List.mem_singleton.1 hj]; exact wpOp_step ho (fun K' hK => h K' (fun a w h1 h2 => hK a w ⟨h1, h2⟩)))
end
end Go.Proofs.Ytnnblklbjbkikaa
namespace Go.Proofs.Ytnnblklbjbkikaa
open Go.ChangeShapes Go.WideShapes Go.ChangeAt Go.RowKit Go.Deep
set_option linter.unusedVariables false
theorem spoken_any (l : List ByteArray) (s : ByteArray) (v : Value) (base : Nat) (w : World) (hl : ∀ t ∈ l, small t) (hs : small s) (hown : w.ownsRow base 9 1 v l.length (strs l)) (hbase : base ≤ w.heap.size) (hlen : l.length ≤ 1073741824) :
    Calls Try.prog 157 #[v, .string s] w (RowOk base v (spoke l s) w) := by
  obtain ⟨i0, hi0, hz0, hz1, hz2⟩ := info_parts string_info
  obtain ⟨A, cap, rfl, hc1, hc2⟩ := own_shape hown
  have HT := Lib.hid (texts_of_own hl hown).2
  have HI : Hid (In (fun b => base ≤ b ∧ b < w.heap.size) w w) := Lib.hid ⟨fun b h => h.2, fun _ _ => rfl⟩
  have HO := Lib.hid hown
  have HL := Lib.hid hl
  clear hown hl
  go_enter Try.func157, Try.ntmps157
  go_wp2_with fail
  go_loop [9] (fun i => ∃ k : Nat, k ≤ l.length ∧ i = .int .i64 k ∧ Hid (s ∉ l.take k)) (fun i => l.length - (intOf i).toNat)
  case atStart => exact ⟨0, Nat.zero_le _, rfl, Lib.hid (by simp)⟩
  case round =>
    obtain ⟨k, hk, rfl, HN⟩ := hrel
    by_cases hlt : k < l.length
    · obtain ⟨a, rfl, _, p1, _⟩ := text_at HT.out HI.out hlt
      cases hv : (l[k].toList == s.toList) with
      | true =>
        have HM : Hid (spoke l s = l) := Lib.hid (by
          rw [dec_bytes] at hv
          have : l[k] = s := by simpa using hv
          unfold spoke
          rw [if_pos (hasB_iff.2 (this ▸ List.getElem_mem hlt))])
        obtain ⟨x1, hx1⟩ : ∃ x, x = l[k] := ⟨_, rfl⟩
        rw [← hx1] at p1 hv
        clear hx1
        go_wp2_with fail
        go_ret
        exact ⟨_, rfl, by rw [HM.out]; exact HO.out, World.grownBy.refl _ _, fun j hj => .inr hj⟩
      | false =>
        have HM : Hid (s ∉ l.take (k + 1)) := Lib.hid (by
          rw [dec_bytes] at hv
          have : l[k] ≠ s := by simpa using hv
          rw [List.take_succ_eq_append_getElem hlt]
          intro h
          rcases List.mem_append.1 h with h | h
          · exact HN.out h
          · simp at h; exact this h.symm)
        obtain ⟨x1, hx1⟩ : ∃ x, x = l[k] := ⟨_, rfl⟩
        rw [← hx1] at p1 hv
        clear hx1
        go_wp2_with fail
        go_round
        case rel => exact ⟨k + 1, by omega, by go_num, HM⟩
        case measure => simp [intOf]; omega
    · have HM : Hid (spoke l s = l ++ [s]) := Lib.hid (by
        have := HN.out
        rw [List.take_of_length_le (by omega)] at this
        unfold spoke
        rw [if_neg (fun h => this (hasB_iff.1 h))])
      have hnew : ∀ j u, [Value.string s][j]? = some u → (w.alloc (.cells #[.string s] 9)).cell? ((⟨w.heap.size, 0, none⟩ : Addr).add j) = some u := by
        intro j u hu
        have hj : j = 0 := by have := (List.getElem?_eq_some_iff.1 hu).1; simp at this; exact this
        subst hj
        simp at hu
        subst hu
        simp [Addr.add]
      have HW := Lib.hid hnew
      clear hnew
      go_wp2_with (at_builtin; refine wpList_append_own_at _ rfl (.tmp 18) (.tmp 20) 22 rfl base 9 i0 _ 1 16 Try.underlying22 hi0 hz0 hz1 hz2 rfl (by decide) _ l.length (strs l) rfl (HO.out.alloc _) ⟨w.heap.size, 0, none⟩ 1 1 [.string s] rfl rfl HW.out (by simp [Value.oneCell']) (by unfold maxLen; omega) (by omega) (by simp; omega) ?_)
      intro v' w1 hown1 hg1 _ hat
      go_wp2_with fail
      go_ret
      refine ⟨v', rfl, ?_, (World.grownBy_alloc w _ _).andThen hg1 (fun j hj => .inr hj), fun j hj => ?_⟩
      · rw [HM.out, strs_append, List.length_append]
        exact hown1
      · rcases hat with h | h
        · exact .inr (h.symm.trans hj)
        · rw [h] at hj; injection hj with hj; left; rw [← hj]; simp
set_option maxHeartbeats 1000000 in
theorem walk_any {w : World} {Q : Nat → Prop} {e : E} {cs : List Value} (h : ExprI w Q e cs) : ∀ (c0 c1 c2 c3 : Value), cs = [c0, c1, c2, c3] → ∀ (l : List ByteArray) (v : Value) (base : Nat) (W : World), (∀ t ∈ l, small t) →
    W.ownsRow base 9 1 v l.length (strs l) → base ≤ W.heap.size → (∀ b, Q b → b < base) → l.length + sizE e ≤ 1073741824 → In Q w W →
    Calls Try.prog 150 #[.agg #[c0, c1, c2, c3], v] W (RowOk base v (walkE e l) W) := by
  induction h with
  | @mk op n nm ks A cap css hop hn hnm hcap hA hk ih =>
    intro c0 c1 c2 c3 hcs l v base W hl hown hbase hQ hlen hI
    simp only [List.cons.injEq, and_true] at hcs
    obtain ⟨rfl, rfl, rfl, rfl⟩ := hcs
    unfold i64 at hop hn
    rw [sizE] at hlen
    obtain ⟨A0, cap0, rfl, hcc1, hcc2⟩ := own_shape hown
    have HA := Lib.hid hA
    have HK := Lib.hid hk
    have IH := Lib.hid ih
    have HI := Lib.hid hI
    have HO := Lib.hid hown
    have HS0 := Lib.hid hl
    have HQ := Lib.hid hQ
    clear hA hk ih hI hown hl hQ
    have HB1 : Hid (Below W.heap.size W (W.alloc (.cells #[.int .i64 op, .int .i64 n, .string nm, .slice A ks.length cap] 41))) := Lib.hid (below_box _)
    have HO1 : Hid ((W.alloc (.cells #[.int .i64 op, .int .i64 n, .string nm, .slice A ks.length cap] 41)).ownsRow base 9 1 (.slice A0 l.length cap0) l.length (strs l)) := Lib.hid (HO.out.alloc _)
    have HQ3 : Hid ((W.alloc (.cells #[.int .i64 op, .int .i64 n, .string nm, .slice A ks.length cap] 41)).cell? ⟨W.heap.size, 3, none⟩ = some (.slice A ks.length cap)) := Lib.hid (by simp)
    have hsz : W.heap.size < (W.alloc (.cells #[.int .i64 op, .int .i64 n, .string nm, .slice A ks.length cap] 41)).heap.size := by simp
    have HNE : Hid (some W.heap.size ≠ Value.ownBlock (.slice A0 l.length cap0)) := Lib.hid (fun e => by have := (HO.out.lt _ e.symm).2; omega)
    have HGW : Hid (W.grownBy (W.alloc (.cells #[.int .i64 op, .int .i64 n, .string nm, .slice A ks.length cap] 41)) (Value.ownBlock (.slice A0 l.length cap0))) := Lib.hid (World.grownBy_alloc W _ _)
    by_cases h2 : op = 2
    · have q2 : (op == 2) = true := by simp [h2]
      have HW0 : Hid (walkE (.mk op n nm ks) l = walkL ks (spoke l nm)) := Lib.hid (by rw [walkE, if_pos h2])
      clear h2
      have hsl := spoke_len l nm
      have HSp := Lib.hid (spoke_all HS0.out (p := small) hnm)
      go_enter Try.func150, Try.ntmps150
      go_wp2_with (go_at_call 157; refine (spoken_any l nm (.slice A0 l.length cap0) base _ HS0.out hnm HO1.out (by simp; omega) (by omega)).mono ?_; rintro e w1 ⟨x1, rfl, ho1, hg1, hj1⟩; obtain ⟨X1, cx1, rfl, _, _⟩ := own_shape ho1; have HO3 := Lib.hid ho1; have HG1 := Lib.hid hg1; have HJ1 := Lib.hid hj1; have hc1 : w1.cell? ⟨W.heap.size, 3, none⟩ = some (.slice A ks.length cap) := (hg1.cell_far ⟨W.heap.size, 3, none⟩ hsz HNE.out).trans HQ3.out; clear ho1 hg1 hj1)
      clear hc1
      generalize W.alloc _ = Wb at *
      go_loopw [1, 16] (fun u i wr => ∃ (k : Nat) (l' : List ByteArray) (X : Option Addr) (cx : Nat), k ≤ ks.length ∧ u = .slice X l'.length cx ∧ i = .int .i64 k ∧ l'.length + sizL (ks.drop k) ≤ 1073741824 ∧ Hid (walkL (ks.drop k) l' = walkE (.mk op n nm ks) l) ∧ Hid (∀ t ∈ l', small t) ∧
          Hid (wr.ownsRow base 9 1 (.slice X l'.length cx) l'.length (strs l')) ∧ Hid (Wb.grownBy wr (Value.ownBlock (.slice A0 l.length cap0))) ∧ Hid (∀ j, Value.ownBlock (.slice X l'.length cx) = some j → Wb.heap.size ≤ j ∨ Value.ownBlock (.slice A0 l.length cap0) = some j)) (fun _ i _ => ks.length - (intOf i).toNat)
      case atStart => exact ⟨0, spoke l nm, X1, cx1, Nat.zero_le _, rfl, rfl, by rw [List.drop_zero]; omega, Lib.hid (by rw [List.drop_zero, HW0.out]), HSp, HO3, HG1, HJ1⟩
      case round =>
        obtain ⟨k, l', X, cx, hk, rfl, rfl, hsz2, HW, HS, HO2, HG, HJ⟩ := hrel
        have q3 : wr.cell? ⟨W.heap.size, 3, none⟩ = some (.slice A ks.length cap) := (HG.out.cell_far ⟨W.heap.size, 3, none⟩ hsz HNE.out).trans HQ3.out
        have hrz := HG.out.size
        have hrz2 : W.heap.size < wr.heap.size := by omega
        by_cases hlt : k < ks.length
        · have hIr : In Q w wr := (HI.out.on HB1.out).grown HG.out (fun j hj hq => absurd (HQ.out j hq) (by have := (HO.out.lt j hj).1; omega))
          obtain ⟨a, o1, n1, s1, A1, l1, k1, rfl, hd', p0, p1, p2, p3⟩ := kid_at HA.out HK.out hIr hlt
          have hd2 := sizL_drop hlt
          have hsz3 : l'.length + sizE ks[k] ≤ 1073741824 := by omega
          have hlen2 : (walkE ks[k] l').length + sizL (ks.drop (k + 1)) ≤ 1073741824 := by have := walkE_len ks[k] l'; omega
          have HC := Lib.hid (IH.out k hlt _ _ _ _ hd' l' (.slice X l'.length cx) base wr HS.out HO2.out (by have := HB1.out.size; omega) HQ.out hsz3 hIr)
          have HN : Hid (walkL (ks.drop (k + 1)) (walkE ks[k] l') = walkE (.mk op n nm ks) l) := Lib.hid (by rw [← walkL_drop hlt]; exact HW.out)
          have HS2 : Hid (∀ t ∈ walkE ks[k] l', small t) := Lib.hid (walkE_all (HK.out k hlt) HS.out)
          obtain ⟨l2, hl2⟩ : ∃ l2, l2 = walkE ks[k] l' := ⟨_, rfl⟩
          rw [← hl2] at HC HN HS2 hlen2
          clear hd' hIr hd2 hsz3 hl2
          go_wp2_with (go_at_call 150; refine HC.out.mono ?_; rintro e w2 ⟨x2, rfl, ho2, hg2, hj2⟩; obtain ⟨X2, cx2, rfl, _, _⟩ := own_shape ho2)
          go_roundw
          case rel => exact ⟨k + 1, l2, X2, cx2, by omega, rfl, by go_num, hlen2, HN, HS2, Lib.hid ho2, Lib.hid (HG.out.andThen hg2 HJ.out), Lib.hid (lies_then HG.out HJ.out hj2)⟩
          case measure => simp [intOf]; omega
        · have HN : Hid (walkE (.mk op n nm ks) l = l') := Lib.hid (by
            have h1 := HW.out
            rw [List.drop_of_length_le (by omega), walkL] at h1
            exact h1.symm)
          go_wp2_with fail
          go_ret
          exact ⟨.slice X l'.length cx, rfl, by rw [HN.out]; exact HO2.out, HGW.out.andThen HG.out (fun j hj => .inr hj), fun j hj => (HJ.out j hj).imp (fun h => by omega) id⟩
    · have q2 : (op == 2) = false := beq_eq_false_iff_ne.2 h2
      have HW0 : Hid (walkE (.mk op n nm ks) l = walkL ks l) := Lib.hid (by rw [walkE, if_neg h2])
      clear h2
      go_enter Try.func150, Try.ntmps150
      go_wp2_with fail
      generalize W.alloc _ = Wb at *
      go_loopw [1, 16] (fun u i wr => ∃ (k : Nat) (l' : List ByteArray) (X : Option Addr) (cx : Nat), k ≤ ks.length ∧ u = .slice X l'.length cx ∧ i = .int .i64 k ∧ l'.length + sizL (ks.drop k) ≤ 1073741824 ∧ Hid (walkL (ks.drop k) l' = walkE (.mk op n nm ks) l) ∧ Hid (∀ t ∈ l', small t) ∧
          Hid (wr.ownsRow base 9 1 (.slice X l'.length cx) l'.length (strs l')) ∧ Hid (Wb.grownBy wr (Value.ownBlock (.slice A0 l.length cap0))) ∧ Hid (∀ j, Value.ownBlock (.slice X l'.length cx) = some j → Wb.heap.size ≤ j ∨ Value.ownBlock (.slice A0 l.length cap0) = some j)) (fun _ i _ => ks.length - (intOf i).toNat)
      case atStart => exact ⟨0, l, A0, cap0, Nat.zero_le _, rfl, rfl, by rw [List.drop_zero]; omega, Lib.hid (by rw [List.drop_zero, HW0.out]), HS0, HO1, Lib.hid (World.grownBy.refl _ _), Lib.hid (fun j hj => .inr hj)⟩
      case round =>
        obtain ⟨k, l', X, cx, hk, rfl, rfl, hsz2, HW, HS, HO2, HG, HJ⟩ := hrel
        have q3 : wr.cell? ⟨W.heap.size, 3, none⟩ = some (.slice A ks.length cap) := (HG.out.cell_far ⟨W.heap.size, 3, none⟩ hsz HNE.out).trans HQ3.out
        have hrz := HG.out.size
        have hrz2 : W.heap.size < wr.heap.size := by omega
        by_cases hlt : k < ks.length
        · have hIr : In Q w wr := (HI.out.on HB1.out).grown HG.out (fun j hj hq => absurd (HQ.out j hq) (by have := (HO.out.lt j hj).1; omega))
          obtain ⟨a, o1, n1, s1, A1, l1, k1, rfl, hd', p0, p1, p2, p3⟩ := kid_at HA.out HK.out hIr hlt
          have hd2 := sizL_drop hlt
          have hsz3 : l'.length + sizE ks[k] ≤ 1073741824 := by omega
          have hlen2 : (walkE ks[k] l').length + sizL (ks.drop (k + 1)) ≤ 1073741824 := by have := walkE_len ks[k] l'; omega
          have HC := Lib.hid (IH.out k hlt _ _ _ _ hd' l' (.slice X l'.length cx) base wr HS.out HO2.out (by have := HB1.out.size; omega) HQ.out hsz3 hIr)
          have HN : Hid (walkL (ks.drop (k + 1)) (walkE ks[k] l') = walkE (.mk op n nm ks) l) := Lib.hid (by rw [← walkL_drop hlt]; exact HW.out)
          have HS2 : Hid (∀ t ∈ walkE ks[k] l', small t) := Lib.hid (walkE_all (HK.out k hlt) HS.out)
          obtain ⟨l2, hl2⟩ : ∃ l2, l2 = walkE ks[k] l' := ⟨_, rfl⟩
          rw [← hl2] at HC HN HS2 hlen2
          clear hd' hIr hd2 hsz3 hl2
          go_wp2_with (go_at_call 150; refine HC.out.mono ?_; rintro e w2 ⟨x2, rfl, ho2, hg2, hj2⟩; obtain ⟨X2, cx2, rfl, _, _⟩ := own_shape ho2)
          go_roundw
          case rel => exact ⟨k + 1, l2, X2, cx2, by omega, rfl, by go_num, hlen2, HN, HS2, Lib.hid ho2, Lib.hid (HG.out.andThen hg2 HJ.out), Lib.hid (lies_then HG.out HJ.out hj2)⟩
          case measure => simp [intOf]; omega
        · have HN : Hid (walkE (.mk op n nm ks) l = l') := Lib.hid (by
            have h1 := HW.out
            rw [List.drop_of_length_le (by omega), walkL] at h1
            exact h1.symm)
          go_wp2_with fail
          go_ret
          exact ⟨.slice X l'.length cx, rfl, by rw [HN.out]; exact HO2.out, HGW.out.andThen HG.out (fun j hj => .inr hj), fun j hj => (HJ.out j hj).imp (fun h => by omega) id⟩
theorem rNames_any {w : World} {Q : Nat → Prop} {e : E} {c0 c1 c2 c3 : Value} (h : ExprI w Q e [c0, c1, c2, c3]) (W : World) (hI : In Q w W) :
    Calls Try.prog 116 #[.agg #[c0, c1, c2, c3]] W (NewRow (namesE e) W) := by
  have HM := Lib.hid (fun W h1 => rMayExpr_any h W h1)
  have HF := Lib.hid (walk_any h c0 c1 c2 c3 rfl [] (.slice none 0 0))
  have HI := Lib.hid hI
  unfold namesE
  have hz := mayE_siz e 20
  obtain ⟨d0, d1, d2, d3, l3, k3, hd'⟩ := h.form
  simp only [List.cons.injEq, and_true] at hd'
  obtain ⟨rfl, rfl, rfl, rfl⟩ := hd'
  clear h hI
  cases hm : mayE 20 e with
  | false =>
    rw [hm] at HM
    clear hm hz
    go_enter Try.func116, Try.ntmps116
    go_wp2_with (go_at_call 149; refine (HM.out _ (HI.out.alloc _)).mono ?_; rintro e' w2 ⟨rfl, hb2⟩)
    go_ret
    exact ⟨.slice none 0 0, rfl, World.ownsRow_nil _ _ _ _, below_new hb2⟩
  | true =>
    have hz2 := hz hm
    rw [hm] at HM
    clear hm hz
    go_enter Try.func116, Try.ntmps116
    go_wp2_with (first
      | (go_at_call 149; refine (HM.out _ (HI.out.alloc _)).mono ?_; rintro e' w2 ⟨rfl, hb2⟩; have hc2 := (bcell hb2).1; have hz3 := hb2.size; rw [World.size_alloc] at hz3)
      | (go_at_call 150; refine (HF.out w2.heap.size _ (by simp) (World.ownsRow_nil _ _ _ _) (Nat.le_refl _) (fun b hb => ((HI.out.alloc _).on hb2).1 b hb) (by simp; omega) ((HI.out.alloc _).on hb2)).mono ?_; rintro e' w3 ⟨v, rfl, ho, hg, hj⟩))
    go_ret
    have hb3 : Below w2.heap.size w2 w3 := (Below.refl _ _).grown hg (Nat.le_refl _) (by simp [Value.ownBlock])
    exact ⟨v, rfl, own_lower ho (by have := (below_new hb2).size; omega), (below_new hb2).trans (hb3.mono (below_new hb2).size)⟩
end Go.Proofs.Ytnnblklbjbkikaa
