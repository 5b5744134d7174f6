/- Texts, merged by a program; only what is used. -/
import Derived.Test.YtehpinnmalpgpaaK1
import Derived.Test.YtehpinnmalpgpaaK2
import Derived.Test.YtehpinnmalpgpaaK3
import Derived.Test.YtehpinnmalpgpaaK4
import Derived.Test.YtehpinnmalpgpaaK5
import Derived.Test.YtehpinnmalpgpaaK6
import Derived.Test.YtehpinnmalpgpaaK7
import Derived.Test.YtehpinnmalpgpaaK8
import Derived.Test.YtehpinnmalpgpaaK9
import Derived.Test.YtehpinnmalpgpaaK10
import Derived.Test.YtehpinnmalpgpaaK11
import Derived.Test.YtehpinnmalpgpaaK12
import Derived.Test.YtehpinnmalpgpaaK13
import Derived.Test.YtehpinnmalpgpaaK14
import Derived.Test.YtehpinnmalpgpaaK15
import Derived.Test.YtehpinnmalpgpaaK16
import Derived.Test.YtehpinnmalpgpaaK17
import Derived.Test.YtehpinnmalpgpaaK18
import Derived.Test.YtehpinnmalpgpaaK19
import Derived.Test.YtehpinnmalpgpaaK20
import Derived.Test.YtehpinnmalpgpaaK21
import Derived.Test.YtehpinnmalpgpaaK22
import Derived.Test.YtehpinnmalpgpaaK23
namespace Go.Proofs.Ytehpinnmalpgpaa
open Go.ChangeShapes Go.WideShapes Go.ChangeAt Go.RowKit Go.Deep
set_option linter.unusedVariables false
set_option linter.unusedSimpArgs false
theorem item_open {w : World} {Q : Nat → Prop} {it : It} {cs : Array Value} (h : ItemI w Q it cs.toList) : ∃ (id0 : Int) (labels : List ByteArray) (nm proc : ByteArray) (x : E) (has : Bool) (args : List Ar) (th el : List S) (L : Option Addr) (lc : Nat) (y0 y1 : Int) (y2 : ByteArray) (X : Option Addr) (xn xc : Nat) (R : Option Addr) (rc : Nat) (T : Option Addr) (tc : Nat) (U : Option Addr) (uc : Nat), cs = #[.int .i64 id0, .int .i64 it.s.kind, .slice L labels.length lc, .string nm, .string proc, .int .i64 y0, .int .i64 y1, .string y2, .slice X xn xc, .bool has, .slice R args.length rc, .slice T th.length tc, .slice U el.length uc, .int .i64 it.deep, .int .i64 it.inn, .bool it.els] := by
 obtain ⟨c, hc, hst⟩ := h
 obtain ⟨id, kind, labels, nm, proc, x, has, args, th, el, L, lc, y0, y1, y2, X, xn, xc, R, rc, T, tc, U, uc, hmk, rfl, _⟩ := stmt_open hst
 refine ⟨id, labels, nm, proc, x, has, args, th, el, L, lc, y0, y1, y2, X, xn, xc, R, rc, T, tc, U, uc, ?_⟩
 rw [← Array.toArray_toList (xs := cs), hc, hmk]
 rfl
def foundI (p : Pg) (id : Int) : It := (rfL p.procs id).elim It0 Prod.fst
/-- the loop that is met on the way outward from here -/
def OutI (p : Pg) (inn lp : Int) : Prop := (inn = 0 ∧ lp = 0) ∨ ∃ q ∈ p.procs, ∃ y ∈ itQ q, 0 < y.1.s.id ∧ inn = y.1.s.id ∧ foundI p inn = y.1 ∧ lp = if y.1.s.kind = 6 then y.1.s.id else y.2
theorem OutI.nat {p : Pg} {inn lp : Int} (h : OutI p inn lp) : ∃ m : Nat, inn = m := by
 rcases h with ⟨rfl, _⟩ | ⟨q, _, y, _, h1, rfl, _⟩
 ·exact ⟨0, rfl⟩
 ·exact ⟨y.1.s.id.toNat, by omega⟩
theorem out_step {p : Pg} (hm : mayP p = true) {q : Pr} (hq : q ∈ p.procs) {x : It × Int} (hx : x ∈ itQ q) : OutI p x.1.inn x.2 ∧ (x.1.inn = 0 ∨ x.1.inn < x.1.s.id) := by
 rcases loop_step hm hq hx with ⟨h1, h2⟩ | ⟨y, hy, h1, h2, h3, h4, h5⟩
 ·exact ⟨.inl ⟨h1, h2⟩, .inl h1⟩
 ·exact ⟨.inr ⟨q, hq, y, hy, h1, h3, by unfold foundI; rw [h4]; rfl, h5⟩, .inr (by omega)⟩
theorem out_found {p : Pg} (hm : mayP p = true) (hc : chkOK p = true) {id : Int} (h : id = 0 ∨ ∃ q s, AtId p id q s) : ∃ lp, jLoop p id = (lp, lp != 0) ∧ OutI p (foundI p id).inn lp := by
 unfold jLoop
 rw [if_pos hc]
 rcases h with rfl | ⟨q, s, h⟩
 ·have hid : ∀ q ∈ p.procs, ∀ s ∈ preSL q.body, s.id ≠ 0 := fun q hq s hs => by have := may_ids hm q hq s hs; omega
  refine ⟨0, lpL_none p.procs 0 hid, .inl ⟨?_, rfl⟩⟩
  unfold foundI
  rw [rfL_none p.procs 0 (fun q hq => ((may_flat hm).1 q hq).1) hid]
  rfl
 ·obtain ⟨h1, h2⟩ := may_it hm h.mem
  have hs : s ∈ (itQ q).map (fun x => x.1.s) := by
   have h3 := itL_lp q.body 1 0 false 0
   rw [show (itQ q).map (fun x => x.1.s) = preSL q.body by rw [← lpSL_fst q.body 0, ← h3, List.map_map]; rfl]
   exact h.stm
  obtain ⟨x, hx, rfl⟩ := List.mem_map.1 hs
  obtain ⟨⟨h3, h4⟩, _⟩ := h2 x hx
  rw [h.eid] at h3 h4
  refine ⟨x.2, h4, ?_⟩
  have : foundI p id = x.1 := by unfold foundI; rw [h3]; rfl
  rw [this]
  exact (out_step hm h.mem hx).1
set_option maxHeartbeats 8000000 in
set_option maxRecDepth 100000 in
theorem jumpLoop_walk {w : World} {Q : Nat → Prop} {p : Pg} {c0 c1 : Value} (h : ProgI w Q p [c0, c1]) (n : Int) (wn : (Lit.int .i64 n).wf = true) (W : World) (hI : In Q w W) :
 Calls Try.prog 6 #[.agg #[c0, c1], .int .i64 n] W fun e w' => e = .returned (.bool true) ∧ Below W.heap.size W w' := by
 have HP := Lib.hid h
 have HF := Lib.hid (fun V h1 => Fits_any h V h1)
 have HI := Lib.hid hI
 obtain ⟨Ag, cg, Ap, cp, rfl, rfl, _⟩ := prog_open h
 clear h hI
 go_enter Try.func6, Try.ntmps6
 go_upto_region 1 with fail
 have HB0 : Hid (Below W.heap.size W (W.alloc (.cells #[.slice Ag p.globals.length cg, .slice Ap p.procs.length cp] 25))) := Lib.hid (below_box _)
 have HBp0 : Hid (Blk (W.alloc (.cells #[.slice Ag p.globals.length cg, .slice Ap p.procs.length cp] 25)) W.heap.size 25 #[.slice Ag p.globals.length cg, .slice Ap p.procs.length cp]) := Lib.hid (Blk.new _ _ _)
 generalize World.alloc _ _ = W0 at HB0 HBp0 ⊢
 have HI0 := Lib.hid (HI.out.on HB0.out)
 generalize hbe : W.heap.size = b at HBp0 ⊢
 clear hbe
 go_upto_region 3 with (go_at_call 24; refine (jumping_any W0).mono ?_; rintro e' W1 ⟨rfl, hb1⟩)
 have HB1 : Hid (Below W.heap.size W W1) := Lib.hid (below_step HB0.out hb1)
 have HI1 := Lib.hid (HI0.out.on hb1)
 have HBp1 := Lib.hid (HBp0.out.below hb1 HBp0.out.lt)
 clear hb1 HB0 HBp0 HI0
 have q0 : W1.cell? ⟨b, 0, none⟩ = some (.slice Ag p.globals.length cg) := by rw [HBp1.out.cell]; rfl
 have q1 : W1.cell? ⟨b, 1, none⟩ = some (.slice Ap p.procs.length cp) := by rw [HBp1.out.cell]; rfl
 have hbl := HBp1.out.lt
 cases hf : fitsP p with
 | false =>
  rw [hf] at HF
  clear hf
  go_wp2_with (go_at_call 10; refine (HF.out _ HI1.out).mono ?_; rintro e' W2 ⟨rfl, hb2⟩)
  go_ret
  exact ⟨rfl, below_step HB1.out hb2⟩
 | true =>
  have HSg := Lib.hid (fits_smG hf)
  have HC := Lib.hid (fun V hV => Check_any HP.out (fits_smG hf) V hV)
  have HIs := Lib.hid (fun V hV => Ids_any HP.out 0 (by simp [i64]) V hV)
  have HFd := Lib.hid (fun id V hV => rFind_any HP.out id V hV)
  have HJl := Lib.hid (fun id V hV => jLoop_any HP.out (fits_smG hf) id V hV)
  have HCk : Hid (chkOK p = decide ((chkP p).1 = 0)) := Lib.hid rfl
  rw [hf] at HF
  clear hf
  go_upto_region 5 with (go_at_call 10; refine (HF.out _ HI1.out).mono ?_; rintro e' W2 ⟨rfl, hb2⟩)
  have HB2 : Hid (Below W.heap.size W W2) := Lib.hid (below_step HB1.out hb2)
  have HI2 := Lib.hid (HI1.out.on hb2)
  have HBp2 := Lib.hid (HBp1.out.below hb2 hbl)
  clear hb2 HB1 HI1 HBp1 q0 q1 hbl HF
  have q0 : W2.cell? ⟨b, 0, none⟩ = some (.slice Ag p.globals.length cg) := by rw [HBp2.out.cell]; rfl
  have q1 : W2.cell? ⟨b, 1, none⟩ = some (.slice Ap p.procs.length cp) := by rw [HBp2.out.cell]; rfl
  have hbl := HBp2.out.lt
  have hff : ∀ (a c : Int) (w : World), (Instr.field 38 (.agg #[.int .i64 a, .int .i64 c]) 0).run Try.prog w = .ok (.int .i64 a) w := fun _ _ _ => by kernel_rfl
  have hok : (chkP p).1 = 0 → ChOk p := chk_ok
  have HOk0 := Lib.hid hok
  clear hok
  generalize chkP p = r at HC HOk0 HCk
  obtain ⟨rc, ri⟩ := r
  simp only at HOk0
  by_cases hr : rc = 0
  ·subst hr
   have HOk := Lib.hid (HOk0.out rfl)
   clear HOk0
   have HCk := Lib.hid (show chkOK p = true from HCk.out)
   go_upto_region 7 with (go_at_call 19; refine (HC.out W2 HI2.out).mono ?_; rintro e' W3 ⟨rfl, hb3⟩)
   have HB3 : Hid (Below W.heap.size W W3) := Lib.hid (below_step HB2.out hb3)
   have HI3 := Lib.hid (HI2.out.on hb3)
   have HBp3 := Lib.hid (HBp2.out.below hb3 hbl)
   clear hb3 HB2 HI2 HBp2 q0 q1 hbl HC hff
   have q0 : W3.cell? ⟨b, 0, none⟩ = some (.slice Ag p.globals.length cg) := by rw [HBp3.out.cell]; rfl
   have q1 : W3.cell? ⟨b, 1, none⟩ = some (.slice Ap p.procs.length cp) := by rw [HBp3.out.cell]; rfl
   have hbl := HBp3.out.lt
   have HIm : Hid (∀ i, i ∈ idsOf 0 (allOf p) → (1 ≤ i ∧ i ≤ 200) ∧ ∃ q s, AtId p i q s) := Lib.hid (fun i hi => by
    obtain ⟨q, s, h1, h2, h3⟩ := ids_at HOk.out.may hi
    exact ⟨h3, q, s, h1⟩)
   have HLn : Hid ((idsOf 0 (allOf p)).length ≤ 1000) := Lib.hid (by
    have h1 := allL_len p.procs [] (by simp)
    have h2 := idsOf_len (kind := 0) (l := allOf p) (k := (allOf p).length)
    rw [List.take_length] at h2
    have h3 : (allOf p).length ≤ 401 := h1
    omega)
   generalize idsOf 0 (allOf p) = il at HIs HLn HIm
   go_upto_region 8 with (first
    | (go_at_call 33; refine (HIs.out W3 HI3.out).mono ?_; rintro e' W4 ⟨v4, rfl, ho4, hb4⟩; obtain ⟨X4, k4, rfl, _, _⟩ := own_shape ho4; have HPk := Lib.hid (Pick_any ho4 HLn.out (fun i hi => by have := (HIm.out i hi).1; unfold i64; omega) n (Below.refl _ _)); have HB4 := Lib.hid hb4; clear ho4 hb4)
    | (go_at_call 32; refine HPk.out.mono ?_; rintro e' W5 ⟨id, hidm, rfl, rfl⟩))
   have HI4 := Lib.hid (HI3.out.on HB4.out)
   have HBp4 := Lib.hid (HBp3.out.below HB4.out hbl)
   have HB4W := Lib.hid (below_step HB3.out HB4.out)
   have HOut : Hid (∃ lp, jLoop p id = (lp, lp != 0) ∧ OutI p (foundI p id).inn lp) := Lib.hid (out_found HOk.out.may HCk.out (by
    rcases hidm with ⟨_, h⟩ | h
    ·exact .inl h
    ·obtain ⟨_, q, s, h⟩ := HIm.out id h
     exact .inr ⟨q, s, h⟩))
   clear q0 q1 hbl hidm HPk HIs HLn HB3 HI3 HBp3 HB4 HIm
   have hbl := HBp4.out.lt
   have q0 : W4.cell? ⟨b, 0, none⟩ = some (.slice Ag p.globals.length cg) := by rw [HBp4.out.cell]; rfl
   have q1 : W4.cell? ⟨b, 1, none⟩ = some (.slice Ap p.procs.length cp) := by rw [HBp4.out.cell]; rfl
   obtain ⟨lp, hjl, hou⟩ := HOut.out
   have HOu := Lib.hid hou
   have HJ1 := Lib.hid (HJl.out id W4 HI4.out)
   rw [hjl] at HJ1
   have HF1 := Lib.hid (fun V hV => HFd.out id V hV)
   have HMa := Lib.hid HOk.out.may
   clear hou hjl HOut HJl HOk HCk HSg
   go_upto_region 9 with (go_at_call 34; refine HJ1.out.mono ?_; rintro e' W5 ⟨rfl, hb5⟩)
   have HI5 := Lib.hid (HI4.out.on hb5)
   have HBp5 := Lib.hid (HBp4.out.below hb5 hbl)
   have HB5W := Lib.hid (below_step HB4W.out hb5)
   clear q0 q1 hbl hb5 HI4 HBp4 HB4W HJ1
   have hbl := HBp5.out.lt
   have q0 : W5.cell? ⟨b, 0, none⟩ = some (.slice Ag p.globals.length cg) := by rw [HBp5.out.cell]; rfl
   have q1 : W5.cell? ⟨b, 1, none⟩ = some (.slice Ap p.procs.length cp) := by rw [HBp5.out.cell]; rfl
   go_upto_region 10 with (go_at_call 35; refine (HF1.out W5 HI5.out).mono ?_; rintro e' W6 ⟨cs, rfl, hit, hb6⟩; obtain ⟨id0, labels, nm, proc, x, has, args, th, el, L, lc, y0, y1, y2, X, xn, xc, R, rc, T, tc, U, uc, rfl⟩ := item_open (show ItemI w Q (foundI p id) _ from hit); have HB6 := Lib.hid hb6; clear hit hb6)
   generalize hit : foundI p id = it at HOu ⊢
   clear hit
   have HBi : Hid (Blk (W6.alloc (.cells #[.int .i64 id0, .int .i64 it.s.kind, .slice L labels.length lc, .string nm, .string proc, .int .i64 y0, .int .i64 y1, .string y2, .slice X xn xc, .bool has, .slice R args.length rc, .slice T th.length tc, .slice U el.length uc, .int .i64 it.deep, .int .i64 it.inn, .bool it.els] 64)) W6.heap.size 64 #[.int .i64 id0, .int .i64 it.s.kind, .slice L labels.length lc, .string nm, .string proc, .int .i64 y0, .int .i64 y1, .string y2, .slice X xn xc, .bool has, .slice R args.length rc, .slice T th.length tc, .slice U el.length uc, .int .i64 it.deep, .int .i64 it.inn, .bool it.els]) := Lib.hid (Blk.new _ _ _)
   have HB7 : Hid (Below W5.heap.size W5 (W6.alloc (.cells #[.int .i64 id0, .int .i64 it.s.kind, .slice L labels.length lc, .string nm, .string proc, .int .i64 y0, .int .i64 y1, .string y2, .slice X xn xc, .bool has, .slice R args.length rc, .slice T th.length tc, .slice U el.length uc, .int .i64 it.deep, .int .i64 it.inn, .bool it.els] 64))) := Lib.hid (below_stepA HB6.out _)
   clear q0 q1 HB6 HF1
   generalize World.alloc W6 _ = W7 at HBi HB7 ⊢
   generalize W6.heap.size = bi at HBi ⊢
   have HI7 := Lib.hid (HI5.out.on HB7.out)
   have HBp7 := Lib.hid (HBp5.out.below HB7.out hbl)
   have HB7W := Lib.hid (below_step HB5W.out HB7.out)
   clear hbl HI5 HBp5 HB5W HB7
   have hbl := HBp7.out.lt
   have s14 : W7.cell? ⟨bi, 14, none⟩ = some (.int .i64 it.inn) := by rw [HBi.out.cell]; rfl
   generalize it.inn = inn at HOu s14 ⊢
   clear HBi
   obtain ⟨m, rfl⟩ : ∃ m : Nat, inn = m := HOu.out.nat
   go_upto_region 11 with fail
   clear s14
   go_loopg [11] m (fun kk i11 wr => i11 = .int .i64 (kk : Nat) ∧ Hid (OutI p (kk : Nat) lp) ∧ Hid (Below W7.heap.size W7 wr))
   case atStart => exact ⟨rfl, HOu, Lib.hid (Below.refl _ _)⟩
   case round =>
    obtain ⟨rfl, HOr, HBr⟩ := hrel
    have HIr := Lib.hid (HI7.out.on HBr.out)
    have HBpr := Lib.hid (HBp7.out.below HBr.out hbl)
    have HBWr := Lib.hid (below_step HB7W.out HBr.out)
    have q0 : wr.cell? ⟨b, 0, none⟩ = some (.slice Ag p.globals.length cg) := by rw [HBpr.out.cell]; rfl
    have q1 : wr.cell? ⟨b, 1, none⟩ = some (.slice Ap p.procs.length cp) := by rw [HBpr.out.cell]; rfl
    rcases HOr.out with ⟨h0, rfl⟩ | ⟨q, hq, y, hy, hpos, hk, hfd, hlp⟩
    ·obtain rfl : gk = 0 := by omega
     clear h0
     go_wp2_with fail
     go_ret
     exact ⟨rfl, HBWr.out⟩
    ·obtain ⟨hs1, hs2⟩ := out_step HMa.out hq hy
     obtain ⟨m2, hm2⟩ := hs1.nat
     have hgk : (gk : Int) ≠ 0 := by omega
     have hg1 : ((gk : Int) != 0) = true := by rw [bne, beq_eq_false_iff_ne.2 hgk]; rfl
     have HGk : Hid (0 < gk) := Lib.hid (by omega)
     rw [← hk] at hlp hs2
     have HS1 := Lib.hid hs1
     have HS2 := Lib.hid hs2
     have HFg := Lib.hid (HFd.out (gk : Int) wr HIr.out)
     have HFe := Lib.hid hfd
     clear hk hfd hpos hq hy hs1 hs2 HOr
     obtain ⟨it, l2⟩ := y
     simp only at hlp HS1 HS2 HFe hm2
     rw [hm2] at HS1 HS2
     by_cases h6 : it.s.kind = 6
     ·rw [if_pos h6] at hlp
      subst hlp
      clear hgk
      go_wp2_with (go_at_call 35; refine HFg.out.mono ?_; rintro e' w8 ⟨cs, rfl, hit, hb8⟩; have hit2 := (show ItemI w Q (foundI p (gk : Int)) cs.toList from hit); rw [HFe.out] at hit2; obtain ⟨id0, labels, nm, proc, x, has, args, th, el, L, lc, y0, y1, y2, X, xn, xc, R, rc, T, tc, U, uc, rfl⟩ := item_open hit2; rw [h6]; have HB8 := Lib.hid hb8; clear hit hit2 hb8)
      go_ret
      exact ⟨by first | rfl | simp [hg1], below_stepA (below_step HBWr.out HB8.out) _⟩
     ·rw [if_neg h6] at hlp
      subst hlp
      have h61 : (it.s.kind == 6) = false := beq_eq_false_iff_ne.2 h6
      clear hgk h6
      go_wp2_with (go_at_call 35; refine HFg.out.mono ?_; rintro e' w8 ⟨cs, rfl, hit, hb8⟩; have hit2 := (show ItemI w Q (foundI p (gk : Int)) cs.toList from hit); rw [HFe.out] at hit2; obtain ⟨id0, labels, nm, proc, x, has, args, th, el, L, lc, y0, y1, y2, X, xn, xc, R, rc, T, tc, U, uc, rfl⟩ := item_open hit2; rw [hm2]; have HB8 := Lib.hid hb8; clear hit hit2 hb8)
      go_roundg m2
      case measure => have h1 := HS2.out; have h2 := HGk.out; omega
      case rel => exact ⟨rfl, HS1, Lib.hid (below_stepA (below_step HBr.out HB8.out) _)⟩
  ·have hr1 : (rc == 0) = false := beq_eq_false_iff_ne.2 hr
   have hr2 : (rc != 0) = true := by simp [bne, hr1]
   clear hr HOk0
   go_wp2_with (go_at_call 19; refine (HC.out W2 HI2.out).mono ?_; rintro e' W3 ⟨rfl, hb3⟩)
   go_ret
   exact ⟨rfl, below_step HB2.out hb3⟩
end Go.Proofs.Ytehpinnmalpgpaa
