/- Texts, merged by a program; only what is used. -/
import Derived.Test.YtimejkbmfbjomaaK1
import Derived.Test.YtimejkbmfbjomaaK2
import Derived.Test.YtimejkbmfbjomaaK3
import Derived.Test.YtimejkbmfbjomaaK4
import Derived.Test.YtimejkbmfbjomaaK5
import Derived.Test.YtimejkbmfbjomaaK6
import Derived.Test.YtimejkbmfbjomaaK7
import Derived.Test.YtimejkbmfbjomaaK8
import Derived.Test.YtimejkbmfbjomaaK9
import Derived.Test.YtimejkbmfbjomaaK10
import Derived.Test.YtimejkbmfbjomaaK11
import Derived.Test.YtimejkbmfbjomaaK12
import Derived.Test.YtimejkbmfbjomaaK13
import Derived.Test.YtimejkbmfbjomaaK14
import Derived.Test.YtimejkbmfbjomaaK15
import Derived.Test.YtimejkbmfbjomaaK16
import Derived.Test.YtimejkbmfbjomaaK17
import Derived.Test.YtimejkbmfbjomaaK18
import Derived.Test.YtimejkbmfbjomaaK19
import Derived.Test.YtimejkbmfbjomaaK20
import Derived.Test.YtimejkbmfbjomaaK21
import Derived.Test.YtimejkbmfbjomaaK22
import Derived.Test.YtimejkbmfbjomaaK23
import Derived.Test.YtimejkbmfbjomaaK24
namespace Go.Proofs.Ytimejkbmfbjomaa
open Go.ChangeShapes Go.WideShapes Go.ChangeAt Go.RowKit Go.Deep
set_option linter.unusedVariables false
set_option linter.unusedSimpArgs false
theorem stmt_args {w : World} {Q : Nat → Prop} {id kind : Int} {labels : List ByteArray} {nm proc : ByteArray} {x : E} {has : Bool} {args : List Ar} {th el : List S} {c0 c1 c2 c3 c4 c5 c6 c7 c8 c9 c10 c11 c12 : Value} (h : StmtI w Q (.mk id kind labels nm proc x has args th el) [c0, c1, c2, c3, c4, c5, c6, c7, c8, c9, c10, c11, c12]) : SliceI w Q 6 (ArgI w Q) args c10 := by
 cases h with
 | mk hid hkind hnm hproc hl hx ha hc1 hc2 hA1 hA2 hk1 hk2 => exact ha
theorem alP_none {p : Pg} (ha : (arP p).1 = 0) (h : ∀ x ∈ allOf p, ∀ a ∈ x.s.args, a.ref = false) : alP p = (0, 0) := by
 have hok := arP_ok ha
 unfold alP
 rw [if_pos ha]
 refine alL_no p.procs (fun q hq s hs => ?_)
 have h1 : s ∈ (allOf p).map It.s := by rw [all_map hok.may]; exact List.mem_flatMap.2 ⟨q, hq, hs⟩
 obtain ⟨x, hx, rfl⟩ := List.mem_map.1 h1
 have h2 : refsOf x.s.args = [] := by
  unfold refsOf
  rw [List.flatMap_eq_nil_iff]
  intro a ha2
  unfold refV
  rw [h x hx a ha2]
  rfl
 unfold alB apB
 rw [h2, apL]
 simp
set_option maxHeartbeats 8000000 in
set_option maxRecDepth 100000 in
theorem aliasNone_walk {w : World} {Q : Nat → Prop} {p : Pg} {c0 c1 : Value} (h : ProgI w Q p [c0, c1]) (W : World) (hI : In Q w W) :
 Calls Try.prog 5 #[.agg #[c0, c1]] W fun e w' => e = .returned (.bool true) ∧ Below W.heap.size W w' := by
 have HP := Lib.hid h
 have HF := Lib.hid (fun V h1 => Fits_any h V h1)
 have HI := Lib.hid hI
 obtain ⟨Ag, cg, Ap, cp, rfl, rfl, _⟩ := prog_open h
 clear h hI
 go_enter Try.func5, Try.ntmps5
 go_upto_region 1 with fail
 have HB0 : Hid (Below W.heap.size W (W.alloc (.cells #[.slice Ag p.globals.length cg, .slice Ap p.procs.length cp] 25))) := Lib.hid (below_box _)
 have HBp0 : Hid (Blk (W.alloc (.cells #[.slice Ag p.globals.length cg, .slice Ap p.procs.length cp] 25)) W.heap.size 25 #[.slice Ag p.globals.length cg, .slice Ap p.procs.length cp]) := Lib.hid (Blk.new _ _ _)
 generalize World.alloc _ _ = W0 at HB0 HBp0 ⊢
 have HI0 := Lib.hid (HI.out.on HB0.out)
 generalize hbe : W.heap.size = b at HBp0 ⊢
 clear hbe
 go_upto_region 3 with (go_at_call 21; refine (apart_any W0).mono ?_; rintro e' W1 ⟨rfl, hb1⟩)
 have HB1 : Hid (Below W.heap.size W W1) := Lib.hid (below_step HB0.out hb1)
 have HI1 := Lib.hid (HI0.out.on hb1)
 have HBp1 := Lib.hid (HBp0.out.below hb1 HBp0.out.lt)
 clear hb1 HB0 HBp0 HI0
 have q0 : W1.cell? ⟨b, 0, none⟩ = some (.slice Ag p.globals.length cg) := by rw [HBp1.out.cell]; rfl
 have q1 : W1.cell? ⟨b, 1, none⟩ = some (.slice Ap p.procs.length cp) := by rw [HBp1.out.cell]; rfl
 have hbl := HBp1.out.lt
 cases hf : fitsP p with
 | false =>
  rw [hf] at HF
  clear hf
  go_wp2_with (go_at_call 7; refine (HF.out _ HI1.out).mono ?_; rintro e' W2 ⟨rfl, hb2⟩)
  go_ret
  exact ⟨rfl, below_step HB1.out hb2⟩
 | true =>
  have HSg := Lib.hid (fits_smG hf)
  have HCA := Lib.hid (fun V hV => aCheck_any HP.out (fits_smG hf) V hV)
  have HCL := Lib.hid (fun V hV => alCheck_any HP.out (fits_smG hf) (fun hc => fits_hck hf hc) V hV)
  have HAl := Lib.hid (fun V hV => All_any (W := V) HP.out hV)
  rw [hf] at HF
  clear hf
  go_upto_region 5 with (go_at_call 7; refine (HF.out _ HI1.out).mono ?_; rintro e' W2 ⟨rfl, hb2⟩)
  have HB2 : Hid (Below W.heap.size W W2) := Lib.hid (below_step HB1.out hb2)
  have HI2 := Lib.hid (HI1.out.on hb2)
  have HBp2 := Lib.hid (HBp1.out.below hb2 hbl)
  clear hb2 HB1 HI1 HBp1 q0 q1 hbl HF
  have q0 : W2.cell? ⟨b, 0, none⟩ = some (.slice Ag p.globals.length cg) := by rw [HBp2.out.cell]; rfl
  have q1 : W2.cell? ⟨b, 1, none⟩ = some (.slice Ap p.procs.length cp) := by rw [HBp2.out.cell]; rfl
  have hbl := HBp2.out.lt
  have hff : ∀ (a c : Int) (w : World), (Instr.field 38 (.agg #[.int .i64 a, .int .i64 c]) 0).run Try.prog w = .ok (.int .i64 a) w := fun _ _ _ => by kernel_rfl
  by_cases ha : (arP p).1 = 0
  ·have HNo : Hid ((∀ x ∈ allOf p, ∀ a ∈ x.s.args, a.ref = false) → alP p = (0, 0)) := Lib.hid (fun h => alP_none ha h)
   generalize arP p = r1 at HCA ha
   generalize alP p = r2 at HCL HNo
   obtain ⟨a1, a2⟩ := r1
   obtain ⟨l1, l2⟩ := r2
   simp only at ha
   subst ha
   generalize allOf p = its at HAl HNo
   go_upto_region 7 with (go_at_call 22; refine (HCA.out W2 HI2.out).mono ?_; rintro e' W3 ⟨rfl, hb3⟩)
   have HB3 : Hid (Below W.heap.size W W3) := Lib.hid (below_step HB2.out hb3)
   have HI3 := Lib.hid (HI2.out.on hb3)
   have HBp3 := Lib.hid (HBp2.out.below hb3 hbl)
   clear q0 q1 hbl hb3 HB2 HI2 HBp2 HCA
   have hbl := HBp3.out.lt
   have q0 : W3.cell? ⟨b, 0, none⟩ = some (.slice Ag p.globals.length cg) := by rw [HBp3.out.cell]; rfl
   have q1 : W3.cell? ⟨b, 1, none⟩ = some (.slice Ap p.procs.length cp) := by rw [HBp3.out.cell]; rfl
   go_upto_region 8 with (go_at_call 14; refine (HAl.out W3 HI3.out).mono ?_; rintro e w1 ⟨X1, n1, k1, rfl, hal⟩; obtain ⟨rfl, hn1, hk1, hsl⟩ := hal.slice)
   have HSl := Lib.hid hsl
   have HB4 := Lib.hid (below_step HB3.out hal.below)
   have HI4 := Lib.hid hal.inn
   have HBp4 := Lib.hid (HBp3.out.below hal.below hbl)
   have HIl : Hid (In (fun b => W3.heap.size ≤ b ∧ b < w1.heap.size) w1 w1) := Lib.hid (in_slf _ w1)
   clear q0 q1 hal hsl HB3 HI3 HBp3 hbl HAl
   have hbl := HBp4.out.lt
   generalize (fun b => W3.heap.size ≤ b ∧ b < w1.heap.size) = T0 at HSl HIl
   go_loopg [23] its.length (fun kk iv wr => ∃ (k : Nat), k + kk = its.length ∧ iv = .int .i64 k ∧ Hid (Below w1.heap.size w1 wr) ∧ Hid (∀ x ∈ its.take k, ∀ a ∈ x.s.args, a.ref = false))
   case atStart => exact ⟨0, by omega, rfl, Lib.hid (Below.refl _ _), Lib.hid (fun x hx => by simp at hx)⟩
   case round =>
    obtain ⟨k, hk, rfl, HBr, HA⟩ := hrel
    have HIr := Lib.hid (HI4.out.on HBr.out)
    by_cases hlt : k < its.length
    ·obtain ⟨a2, id, kind, labels, nm, proc, x, has, args, th, el, L, lc, y0, y1, y2, X, xn, xc, R, rc, T, tc, U, uc, dp, inn, els, rfl, hq2, hmk, hrow2, hid, hkind, hst⟩ := item_at HSl.out (HIl.out.on HBr.out) hlt
     have HTk : Hid (∀ x ∈ its.take (k + 1), x ∈ its.take k ∨ x.s.args = args) := Lib.hid (fun z hz => by
      rw [List.take_succ_eq_append_getElem hlt, List.mem_append, List.mem_singleton] at hz
      rcases hz with hz | rfl
      ·exact .inl hz
      ·exact .inr (by rw [hmk]; rfl))
     have HAr := Lib.hid (stmt_args hst)
     obtain ⟨_, hrl, hrc, _⟩ := slice_len HAr.out
     obtain ⟨p0, p1, p2, p3, p4, p5, p6, p7, p8, p9, p10, p11, p12, p13, p14, p15, _⟩ := hrow2
     clear hmk hst hid hkind hq2
     go_upto_region 10 with fail
     have HBi : Hid (Blk (wr.alloc (.cells #[.int .i64 id, .int .i64 kind, .slice L labels.length lc, .string nm, .string proc, .int .i64 y0, .int .i64 y1, .string y2, .slice X xn xc, .bool has, .slice R args.length rc, .slice T th.length tc, .slice U el.length uc, .int .i64 dp, .int .i64 inn, .bool els] 57)) wr.heap.size 57 #[.int .i64 id, .int .i64 kind, .slice L labels.length lc, .string nm, .string proc, .int .i64 y0, .int .i64 y1, .string y2, .slice X xn xc, .bool has, .slice R args.length rc, .slice T th.length tc, .slice U el.length uc, .int .i64 dp, .int .i64 inn, .bool els]) := Lib.hid (Blk.new _ _ _)
     have HB5 : Hid (Below w1.heap.size w1 (wr.alloc (.cells #[.int .i64 id, .int .i64 kind, .slice L labels.length lc, .string nm, .string proc, .int .i64 y0, .int .i64 y1, .string y2, .slice X xn xc, .bool has, .slice R args.length rc, .slice T th.length tc, .slice U el.length uc, .int .i64 dp, .int .i64 inn, .bool els] 57))) := Lib.hid (below_stepA HBr.out _)
     have HI5 : Hid (In Q w (wr.alloc (.cells #[.int .i64 id, .int .i64 kind, .slice L labels.length lc, .string nm, .string proc, .int .i64 y0, .int .i64 y1, .string y2, .slice X xn xc, .bool has, .slice R args.length rc, .slice T th.length tc, .slice U el.length uc, .int .i64 dp, .int .i64 inn, .bool els] 57))) := Lib.hid (HIr.out.alloc _)
     clear p0 p1 p2 p3 p4 p5 p6 p7 p8 p9 p10 p11 p12 p13 p14 p15 HIr HBr
     generalize World.alloc wr _ = V5 at HBi HB5 HI5 ⊢
     generalize wr.heap.size = bi at HBi ⊢
     have s10 : V5.cell? ⟨bi, 10, none⟩ = some (.slice R args.length rc) := by rw [HBi.out.cell]; rfl
     go_upto_region 11 with fail
     clear s10 HBi
     go_loopg [31] args.length (fun kk iv wr => ∃ (j : Nat), j + kk = args.length ∧ iv = .int .i64 j ∧ Hid (Below V5.heap.size V5 wr) ∧ Hid (∀ a ∈ args.take j, a.ref = false))
     case atStart => exact ⟨0, by omega, rfl, Lib.hid (Below.refl _ _), Lib.hid (fun x hx => by simp at hx)⟩
     case round =>
      obtain ⟨j, hj, rfl, HBj, HAj⟩ := hrel
      have HIj := Lib.hid (HI5.out.on HBj.out)
      by_cases hjt : j < args.length
      ·obtain ⟨a2, o1, n1, s1, A1, l1, k1, rfl, _, ⟨p0, p1, p2, p3, p4, p5, _⟩, hs, hxa⟩ := arg_at (HAr.out) HIj.out hjt
       have HT2 : Hid (∀ z ∈ args.take (j + 1), z ∈ args.take j ∨ z = args[j]) := Lib.hid (fun z hz => by
        rw [List.take_succ_eq_append_getElem hjt, List.mem_append, List.mem_singleton] at hz
        exact hz)
       clear hxa
       generalize args[j] = y at p0 p1 hs HT2
       obtain ⟨xr, xnm, xx⟩ := y
       simp only at p0 p1 hs
       go_upto_region 13 with fail
       have HBx : Hid (Blk (wr.alloc (.cells #[.bool xr, .string xnm, .int .i64 o1, .int .i64 n1, .string s1, .slice A1 l1 k1] 59)) wr.heap.size 59 #[.bool xr, .string xnm, .int .i64 o1, .int .i64 n1, .string s1, .slice A1 l1 k1]) := Lib.hid (Blk.new _ _ _)
       have HB6 : Hid (Below V5.heap.size V5 (wr.alloc (.cells #[.bool xr, .string xnm, .int .i64 o1, .int .i64 n1, .string s1, .slice A1 l1 k1] 59))) := Lib.hid (below_stepA HBj.out _)
       clear p0 p1 p2 p3 p4 p5 HIj HBj
       generalize World.alloc wr _ = V6 at HBx HB6 ⊢
       generalize wr.heap.size = bx at HBx ⊢
       have z0 : V6.cell? ⟨bx, 0, none⟩ = some (.bool xr) := by rw [HBx.out.cell]; rfl
       cases xr with
       | true =>
        go_wp2_with fail
        go_ret
        exact ⟨rfl, below_step (below_step HB4.out HB5.out) HB6.out⟩
       | false =>
        have HAn : Hid (∀ a ∈ args.take (j + 1), a.ref = false) := Lib.hid (fun z hz => by
         rcases HT2.out z hz with h | rfl
         ·exact HAj.out z h
         ·rfl)
        go_wp2_with fail
        go_roundg (args.length - j - 1)
        case measure => omega
        case rel => exact ⟨j + 1, by omega, by go_num, HB6, HAn⟩
      ·obtain rfl : j = args.length := by omega
       have HAn : Hid (∀ x ∈ its.take (k + 1), ∀ a ∈ x.s.args, a.ref = false) := Lib.hid (fun z hz => by
        rcases HTk.out z hz with h | h
        ·exact HA.out z h
        ·rw [h]
         have := HAj.out
         rwa [List.take_length] at this)
       go_wp2_with fail
       go_roundg (its.length - k - 1)
       case measure => omega
       case rel => exact ⟨k + 1, by omega, by go_num, Lib.hid (below_step HB5.out HBj.out), HAn⟩
    ·obtain rfl : k = its.length := by omega
     have hno := HNo.out (by have := HA.out; rwa [List.take_length] at this)
     injection hno with h1 h2
     subst h1
     have HBpr := Lib.hid (HBp4.out.below HBr.out hbl)
     have q0 : wr.cell? ⟨b, 0, none⟩ = some (.slice Ag p.globals.length cg) := by rw [HBpr.out.cell]; rfl
     have q1 : wr.cell? ⟨b, 1, none⟩ = some (.slice Ap p.procs.length cp) := by rw [HBpr.out.cell]; rfl
     go_wp2_with (go_at_call 23; refine (HCL.out wr HIr.out).mono ?_; rintro e' W9 ⟨rfl, hb9⟩)
     go_ret
     exact ⟨rfl, below_step (below_step HB4.out HBr.out) hb9⟩
  ·have HNo : Hid (alP p = (1, 0)) := Lib.hid (by unfold alP; rw [if_neg ha])
   rw [HNo.out] at HCL
   generalize arP p = r1 at HCA ha
   obtain ⟨a1, a2⟩ := r1
   simp only at ha
   have hr1 : (a1 == 0) = false := beq_eq_false_iff_ne.2 ha
   have hr2 : (a1 != 0) = true := by simp [bne, hr1]
   go_wp2_with (first
    | (go_at_call 22; refine (HCA.out W2 HI2.out).mono ?_; rintro e' W3 ⟨rfl, hb3⟩; have HB3 : Hid (Below W.heap.size W W3) := Lib.hid (below_step HB2.out hb3); have HI3 := Lib.hid (HI2.out.on hb3); have HBp3 := Lib.hid (HBp2.out.below hb3 hbl); have r0 : W3.cell? ⟨b, 0, none⟩ = some (.slice Ag p.globals.length cg) := (by rw [HBp3.out.cell]; rfl); have r1 : W3.cell? ⟨b, 1, none⟩ = some (.slice Ap p.procs.length cp) := (by rw [HBp3.out.cell]; rfl); clear hb3)
    | (go_at_call 23; refine (HCL.out W3 HI3.out).mono ?_; rintro e' W4 ⟨rfl, hb4⟩))
   go_ret
   exact ⟨rfl, below_step HB3.out hb4⟩
end Go.Proofs.Ytimejkbmfbjomaa
