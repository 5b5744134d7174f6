/- Texts, merged by a program; only what is used. -/
import Derived.Test.YtehpinnmalpgpaaK1
import Derived.Test.YtehpinnmalpgpaaK2
import Derived.Test.YtehpinnmalpgpaaK3
import Derived.Test.YtehpinnmalpgpaaK4
import Derived.Test.YtehpinnmalpgpaaK5
import Derived.Test.YtehpinnmalpgpaaK6
import Derived.Test.YtehpinnmalpgpaaK7
import Derived.Test.YtehpinnmalpgpaaK8
import Derived.Test.YtehpinnmalpgpaaK9
import Derived.Test.YtehpinnmalpgpaaK10
import Derived.Test.YtehpinnmalpgpaaK11
import Derived.Test.YtehpinnmalpgpaaK12
import Derived.Test.YtehpinnmalpgpaaK13
import Derived.Test.YtehpinnmalpgpaaK14
import Derived.Test.YtehpinnmalpgpaaK15
import Derived.Test.YtehpinnmalpgpaaK16
import Derived.Test.YtehpinnmalpgpaaK17
import Derived.Test.YtehpinnmalpgpaaK18
import Derived.Test.YtehpinnmalpgpaaK19
import Derived.Test.YtehpinnmalpgpaaK20
namespace Go.Proofs.Ytehpinnmalpgpaa
open Go.ChangeShapes Go.WideShapes Go.ChangeAt Go.RowKit Go.Deep
set_option linter.unusedVariables false
set_option linter.unusedSimpArgs false
def chkJ : List Pr → Int × Int
 | [] => (0, 0)
 | q :: l => if (wrQ q).2 = true then (7, (wrQ q).1) else chkJ l
theorem chkJ_drop {l : List Pr} {k : Nat} (h : k < l.length) : chkJ (l.drop k) = if (wrQ l[k]).2 = true then (7, (wrQ l[k]).1) else chkJ (l.drop (k + 1)) := by
 rw [List.drop_eq_getElem_cons h, chkJ]
def jCheck (p : Pg) : Int × Int := if chkOK p = true then chkJ p.procs else (1, 0)
set_option maxHeartbeats 8000000 in
set_option maxRecDepth 100000 in
theorem jCheck_any {w : World} {Q : Nat → Prop} {p : Pg} {c0 c1 : Value} (h : ProgI w Q p [c0, c1]) (hsm : SmG p) (W : World) (hI : In Q w W) :
 Calls Try.prog 25 #[.agg #[c0, c1]] W (ChRes (jCheck p) W) := by
 have HC := Lib.hid (fun V hV => named_any h hsm V hV)
 have HSm := Lib.hid (fun q hq => hsm.proc q hq)
 obtain ⟨Ag, cg, Ap, cp, rfl, rfl, _, _, _, _, hgl, hpr⟩ := prog_open h
 have HP := Lib.hid hpr
 have HI := Lib.hid hI
 have HK : Hid (jCheck p = if chkOK p = true then chkJ p.procs else (1, 0)) := Lib.hid rfl
 clear h hI hgl hpr hsm
 cases hr : chkOK p with
 | true =>
  rw [hr] at HC
  have HK2 : Hid (jCheck p = chkJ p.procs) := Lib.hid (by rw [HK.out, hr]; rfl)
  clear HK hr
  go_enter Try.func25, Try.ntmps25
  go_upto_region 1 with fail
  have HB0 : Hid (Below W.heap.size W ((W.alloc (.cells #[.slice Ag p.globals.length cg, .slice Ap p.procs.length cp] 25)).alloc (.cells #[.int .i64 0, .int .i64 0] 38))) := Lib.hid (below_two _ _)
  have HBp : Hid (Blk ((W.alloc (.cells #[.slice Ag p.globals.length cg, .slice Ap p.procs.length cp] 25)).alloc (.cells #[.int .i64 0, .int .i64 0] 38)) W.heap.size 25 #[.slice Ag p.globals.length cg, .slice Ap p.procs.length cp]) := Lib.hid ((Blk.new _ _ _).alloc _)
  have HBf : Hid (Blk ((W.alloc (.cells #[.slice Ag p.globals.length cg, .slice Ap p.procs.length cp] 25)).alloc (.cells #[.int .i64 0, .int .i64 0] 38)) (W.heap.size + 1) 38 #[.int .i64 0, .int .i64 0]) := Lib.hid (by have := Blk.new (W.alloc (.cells #[.slice Ag p.globals.length cg, .slice Ap p.procs.length cp] 25)) 38 #[.int .i64 0, .int .i64 0]; rw [World.size_alloc] at this; exact this)
  generalize World.alloc _ _ = V at HB0 HBp HBf ⊢
  have HI0 := Lib.hid (HI.out.on HB0.out)
  have hwb : W.heap.size ≤ W.heap.size + 1 := by omega
  generalize hbe : W.heap.size = b at HBp HBf hwb ⊢
  generalize hfe : b + 1 = f at HBf hwb ⊢
  have hWf : W.heap.size ≤ f := by omega
  clear hbe hfe
  have q0 : V.cell? ⟨b, 0, none⟩ = some (.slice Ag p.globals.length cg) := by rw [HBp.out.cell]; rfl
  have q1 : V.cell? ⟨b, 1, none⟩ = some (.slice Ap p.procs.length cp) := by rw [HBp.out.cell]; rfl
  have hbl := HBp.out.lt
  have hfl := HBf.out.lt
  go_upto_region 3 with (go_at_call 70; refine (HC.out V HI0.out).mono ?_; rintro e w1 ⟨rfl, hb1⟩)
  have HB1 := Lib.hid (below_step HB0.out hb1)
  have HI1 := Lib.hid (HI0.out.on hb1)
  have HBp1 := Lib.hid (HBp.out.below hb1 hbl)
  have HBf1 := Lib.hid (HBf.out.below hb1 hfl)
  clear q0 q1 hb1 HB0 HBp HBf HI0 hbl hfl HC
  have q1 : w1.cell? ⟨b, 1, none⟩ = some (.slice Ap p.procs.length cp) := by rw [HBp1.out.cell]; rfl
  have hbl := HBp1.out.lt
  have hfl := HBf1.out.lt
  go_upto_region 4 with fail
  clear q1
  go_loopg [14] p.procs.length (fun kk iv wr => ∃ (k : Nat), k + kk = p.procs.length ∧ iv = .int .i64 k ∧ Hid (Below w1.heap.size w1 wr) ∧ Hid (chkJ (p.procs.drop k) = chkJ p.procs))
  case atStart => exact ⟨0, by omega, rfl, Lib.hid (Below.refl _ _), Lib.hid rfl⟩
  case round =>
   obtain ⟨k, hk, rfl, HBr, HA⟩ := hrel
   have HIr := Lib.hid (HI1.out.on HBr.out)
   have HBpr := Lib.hid (HBp1.out.below HBr.out hbl)
   have HBfr := Lib.hid (HBf1.out.below HBr.out hfl)
   by_cases hlt : k < p.procs.length
   ·obtain ⟨a, Bp, kp, Bv, kv, Bb, kb, Be, ke, rfl, hqa, hrow, hnm, hpp, hvv, hbody, hee⟩ := proc_at HP.out HIr.out hlt
    have HWr := Lib.hid (fun V hV => jwrong_any (q := p.procs[k]) ⟨_, _, _, _, rfl, hnm, hpp, hvv, hbody, hee⟩ (HSm.out _ (List.getElem_mem hlt)).1 (HSm.out _ (List.getElem_mem hlt)).2.2.1 V hV)
    have HAk := Lib.hid (chkJ_drop hlt)
    rw [HA.out] at HAk
    clear hqa hnm hpp hvv hbody hee
    generalize wrQ p.procs[k] = r at HWr HAk
    obtain ⟨ri, rb⟩ := r
    simp only at HWr HAk
    generalize p.procs[k].nm = x0 at hrow HWr
    generalize p.procs[k].params.length = x1 at hrow HWr
    generalize p.procs[k].vars.length = x2 at hrow HWr
    generalize p.procs[k].body.length = x3 at hrow HWr
    generalize p.procs[k].end_.length = x4 at hrow HWr
    obtain ⟨p0, p1, p2, p3, p4, _⟩ := hrow
    go_upto_region 6 with fail
    have HBx : Hid (Blk (wr.alloc (.cells #[.string x0, .slice Bp x1 kp, .slice Bv x2 kv, .slice Bb x3 kb, .slice Be x4 ke] 45)) wr.heap.size 45 #[.string x0, .slice Bp x1 kp, .slice Bv x2 kv, .slice Bb x3 kb, .slice Be x4 ke]) := Lib.hid (Blk.new _ _ _)
    have HB4 : Hid (Below w1.heap.size w1 (wr.alloc (.cells #[.string x0, .slice Bp x1 kp, .slice Bv x2 kv, .slice Bb x3 kb, .slice Be x4 ke] 45))) := Lib.hid (below_stepA HBr.out _)
    have HI4 : Hid (In Q w (wr.alloc (.cells #[.string x0, .slice Bp x1 kp, .slice Bv x2 kv, .slice Bb x3 kb, .slice Be x4 ke] 45))) := Lib.hid (HIr.out.alloc _)
    clear p0 p1 p2 p3 p4 HIr HBpr HBfr
    generalize World.alloc wr _ = V4 at HBx HB4 HI4 ⊢
    generalize wr.heap.size = bx at HBx ⊢
    have HBp4 := Lib.hid (HBp1.out.below HB4.out hbl)
    have q1 : V4.cell? ⟨b, 1, none⟩ = some (.slice (some a) p.procs.length cp) := by rw [HBp4.out.cell]; rfl
    have z0 : V4.cell? ⟨bx, 0, none⟩ = some (.string x0) := by rw [HBx.out.cell]; rfl
    have z1 : V4.cell? ⟨bx, 1, none⟩ = some (.slice Bp x1 kp) := by rw [HBx.out.cell]; rfl
    have z2 : V4.cell? ⟨bx, 2, none⟩ = some (.slice Bv x2 kv) := by rw [HBx.out.cell]; rfl
    have z3 : V4.cell? ⟨bx, 3, none⟩ = some (.slice Bb x3 kb) := by rw [HBx.out.cell]; rfl
    have z4 : V4.cell? ⟨bx, 4, none⟩ = some (.slice Be x4 ke) := by rw [HBx.out.cell]; rfl
    go_upto_region 7 with (go_at_call 71; refine (HWr.out V4 HI4.out).mono ?_; rintro e w8 ⟨rfl, hb8⟩)
    have HB8 := Lib.hid (below_step HB4.out hb8)
    clear z0 z1 z2 z3 z4 q1 hb8 HB4 HI4 HBx HBp4 HWr
    cases rb with
    | false =>
     rw [if_neg (by simp)] at HAk
     go_wp2_with fail
     go_roundg (p.procs.length - k - 1)
     case measure => omega
     case rel => exact ⟨k + 1, by omega, by go_num, HB8, Lib.hid HAk.out.symm⟩
    | true =>
     rw [if_pos rfl] at HAk
     have HBf8 := Lib.hid (HBf1.out.below HB8.out hfl)
     have HBW8 := Lib.hid (below_step HB1.out HB8.out)
     have f0_ := HBf8.out.frozen 0
     have f1_ := HBf8.out.frozen 1
     have y0_ : w8.cell? ⟨f, 0, none⟩ = some (.int .i64 0) := by rw [HBf8.out.cell]; rfl
     have y1_ : w8.cell? ⟨f, 1, none⟩ = some (.int .i64 0) := by rw [HBf8.out.cell]; rfl
     go_wp2_with fail
     (try simp only [Exit.inBlock, Exit.then])
     refine bodyPost_ret (results_c1 rfl _ _ f 38 #[.int .i64 7, .int .i64 ri] (0, 0) _ rfl (fault_end HBf8.out) Try.underlying38 rfl (by kernel_rfl)) rfl ?_
     exact ⟨by rw [HK2.out, HAk.out], below_setc (below_setc HBW8.out hWf _) hWf _⟩
   ·have HAn : Hid (chkJ p.procs = (0, 0)) := Lib.hid (by rw [← HA.out, List.drop_of_length_le (by omega)]; rfl)
    have HBWr := Lib.hid (below_step HB1.out HBr.out)
    have f0_ := HBfr.out.frozen 0
    have f1_ := HBfr.out.frozen 1
    have y0_ : wr.cell? ⟨f, 0, none⟩ = some (.int .i64 0) := by rw [HBfr.out.cell]; rfl
    have y1_ : wr.cell? ⟨f, 1, none⟩ = some (.int .i64 0) := by rw [HBfr.out.cell]; rfl
    go_wp2_with fail
    (try simp only [Exit.inBlock, Exit.then])
    refine bodyPost_ret (results_c1 rfl _ _ f 38 #[.int .i64 0, .int .i64 0] (0, 0) _ rfl (fault_end HBfr.out) Try.underlying38 rfl (by kernel_rfl)) rfl ?_
    exact ⟨by rw [HK2.out, HAn.out], below_setc (below_setc HBWr.out hWf _) hWf _⟩
 | false =>
  rw [hr] at HC
  have HK2 : Hid (jCheck p = (1, 0)) := Lib.hid (by rw [HK.out, hr]; rfl)
  clear HK hr
  go_enter Try.func25, Try.ntmps25
  go_upto_region 1 with fail
  have HB0 : Hid (Below W.heap.size W ((W.alloc (.cells #[.slice Ag p.globals.length cg, .slice Ap p.procs.length cp] 25)).alloc (.cells #[.int .i64 0, .int .i64 0] 38))) := Lib.hid (below_two _ _)
  have HBp : Hid (Blk ((W.alloc (.cells #[.slice Ag p.globals.length cg, .slice Ap p.procs.length cp] 25)).alloc (.cells #[.int .i64 0, .int .i64 0] 38)) W.heap.size 25 #[.slice Ag p.globals.length cg, .slice Ap p.procs.length cp]) := Lib.hid ((Blk.new _ _ _).alloc _)
  have HBf : Hid (Blk ((W.alloc (.cells #[.slice Ag p.globals.length cg, .slice Ap p.procs.length cp] 25)).alloc (.cells #[.int .i64 0, .int .i64 0] 38)) (W.heap.size + 1) 38 #[.int .i64 0, .int .i64 0]) := Lib.hid (by have := Blk.new (W.alloc (.cells #[.slice Ag p.globals.length cg, .slice Ap p.procs.length cp] 25)) 38 #[.int .i64 0, .int .i64 0]; rw [World.size_alloc] at this; exact this)
  generalize World.alloc _ _ = V at HB0 HBp HBf ⊢
  have HI0 := Lib.hid (HI.out.on HB0.out)
  have hwb : W.heap.size ≤ W.heap.size + 1 := by omega
  generalize hbe : W.heap.size = b at HBp HBf hwb ⊢
  generalize hfe : b + 1 = f at HBf hwb ⊢
  have hWf : W.heap.size ≤ f := by omega
  clear hbe hfe
  have q0 : V.cell? ⟨b, 0, none⟩ = some (.slice Ag p.globals.length cg) := by rw [HBp.out.cell]; rfl
  have q1 : V.cell? ⟨b, 1, none⟩ = some (.slice Ap p.procs.length cp) := by rw [HBp.out.cell]; rfl
  have hbl := HBp.out.lt
  have hfl := HBf.out.lt
  go_upto_if 9 with (go_at_call 70; refine (HC.out V HI0.out).mono ?_; rintro e w1 ⟨rfl, hb1⟩)
  have HB1 := Lib.hid (below_step HB0.out hb1)
  have HBf1 := Lib.hid (HBf.out.below hb1 hfl)
  clear q0 q1 hb1
  have f0_ := HBf1.out.frozen 0
  have f1_ := HBf1.out.frozen 1
  have y0_ : w1.cell? ⟨f, 0, none⟩ = some (.int .i64 0) := by rw [HBf1.out.cell]; rfl
  have y1_ : w1.cell? ⟨f, 1, none⟩ = some (.int .i64 0) := by rw [HBf1.out.cell]; rfl
  go_wp2_with fail
  (try simp only [Exit.inBlock, Exit.then])
  refine bodyPost_ret (results_c1 rfl _ _ f 38 #[.int .i64 1, .int .i64 0] (0, 0) _ rfl (fault_end HBf1.out) Try.underlying38 rfl (by kernel_rfl)) rfl ?_
  exact ⟨by rw [HK2.out], below_setc (below_setc HB1.out hWf _) hWf _⟩
end Go.Proofs.Ytehpinnmalpgpaa
namespace Go.Proofs.Ytehpinnmalpgpaa
open Go.ChangeShapes Go.WideShapes Go.ChangeAt Go.RowKit Go.Deep
set_option linter.unusedVariables false
theorem some_chk : (chkP someP).1 = 0 := by
 unfold chkP
 rw [if_pos some_may]
 decide +kernel
theorem empty_smG : SmG ⟨[], []⟩ := ⟨by decide, by decide, fun q hq => absurd hq (by simp)⟩
end Go.Proofs.Ytehpinnmalpgpaa
namespace Go.Proofs.Ytehpinnmalpgpaa
open Go.ChangeShapes Go.WideShapes Go.ChangeAt Go.RowKit Go.Deep
set_option linter.unusedVariables false
set_option linter.unusedSimpArgs false
theorem some_ck : chkOK someP = true := by
 unfold chkOK
 rw [some_chk]
 rfl
theorem some_jf : jfP someP ⟨#[112]⟩ = 1 := by
 unfold jfP
 rw [if_pos some_ck]
 decide +kernel
theorem some_at : jAt someP ⟨#[112]⟩ ⟨#[101]⟩ = (-1, true) := by
 unfold jAt
 rw [some_jf]
 decide +kernel
theorem some_lab : (jLabels someP ⟨#[112]⟩).length = 1 := by
 unfold jLabels
 rw [some_jf]
 decide +kernel
theorem empty_jc : jCheck ⟨[], []⟩ = (1, 0) := by decide +kernel
set_option maxHeartbeats 2000000 in
set_option maxRecDepth 100000 in
theorem jumping_any (W : World) : Calls Try.prog 24 #[] W (MayOk true W) := by
 go_enter Try.func24, Try.ntmps24
 go_upto_region 1 with fail
 go_upto_region 2 with (go_at_call 44; refine (Some_any _).mono ?_; rintro e w1 ⟨c0, c1, rfl, hb1, hp1⟩; obtain ⟨Ag, cg, Ap, cp, rfl, rfl, _⟩ := prog_open hp1)
 have HI1 : Hid (In (nw W w1) w1 (w1.alloc (.cells #[.slice Ag someP.globals.length cg, .slice Ap someP.procs.length cp] 25))) := Lib.hid (In.on ⟨fun b h => h.2, fun _ _ => rfl⟩ (below_box _))
 have HB1 : Hid (Below W.heap.size W (w1.alloc (.cells #[.slice Ag someP.globals.length cg, .slice Ap someP.procs.length cp] 25))) := Lib.hid (below_stepA hb1 _)
 have HBp : Hid (Blk (w1.alloc (.cells #[.slice Ag someP.globals.length cg, .slice Ap someP.procs.length cp] 25)) w1.heap.size 25 #[.slice Ag someP.globals.length cg, .slice Ap someP.procs.length cp]) := Lib.hid (Blk.new _ _ _)
 have HPi := Lib.hid hp1
 clear hp1 hb1
 generalize World.alloc w1 _ = W2 at HI1 HB1 HBp ⊢
 generalize w1.heap.size = b at HBp ⊢
 have HAt := Lib.hid (jAt_any HPi.out some_smG ⟨#[112]⟩ ⟨#[101]⟩ W2 HI1.out)
 rw [some_at] at HAt
 have HLa := Lib.hid (fun V hV => jLabels_any HPi.out some_smG ⟨#[112]⟩ V hV)
 have HCe := Lib.hid (fun V : World => jCheck_any (empty_prog W (fun _ => False)) empty_smG V ⟨fun _ h => h.elim, fun _ h => h.elim⟩)
 rw [empty_jc] at HCe
 have q0 : W2.cell? ⟨b, 0, none⟩ = some (.slice Ag someP.globals.length cg) := by rw [HBp.out.cell]; rfl
 have q1 : W2.cell? ⟨b, 1, none⟩ = some (.slice Ap someP.procs.length cp) := by rw [HBp.out.cell]; rfl
 go_upto_region 3 with (go_at_call 29; refine HAt.out.mono ?_; rintro e w3 ⟨rfl, hb3⟩)
 have HB3 := Lib.hid (below_step HB1.out hb3)
 have HI3 := Lib.hid (HI1.out.on hb3)
 have HBp3 := Lib.hid (HBp.out.below hb3 HBp.out.lt)
 clear q0 q1 hb3 HB1 HI1 HBp HAt
 have q0 : w3.cell? ⟨b, 0, none⟩ = some (.slice Ag someP.globals.length cg) := by rw [HBp3.out.cell]; rfl
 have q1 : w3.cell? ⟨b, 1, none⟩ = some (.slice Ap someP.procs.length cp) := by rw [HBp3.out.cell]; rfl
 have hln := some_lab
 go_wp2_with (first
  | (go_at_call 28; (with_reducible refine (HLa.out w3 HI3.out).mono ?_); rintro e w4 ⟨v4, rfl, ho4, hb4⟩; rw [hln] at ho4; obtain ⟨X4, k4, rfl, _, _⟩ := own_shape ho4; have HB4 := Lib.hid (below_step HB3.out hb4); clear hb4)
  | (go_at_call 25; (with_reducible refine (HCe.out w4).mono ?_); rintro e w5 ⟨rfl, hb5⟩))
 go_ret
 exact ⟨rfl, below_step HB4.out hb5⟩
end Go.Proofs.Ytehpinnmalpgpaa
namespace Go.Proofs.Ytehpinnmalpgpaa
open Go.ChangeShapes Go.WideShapes Go.ChangeAt Go.RowKit Go.Deep
set_option linter.unusedVariables false
set_option linter.unusedSimpArgs false
theorem AlI.slice {w W wr : World} {Q : Nat → Prop} {out : List It} {X : Option Addr} {n c : Nat} (h : AlI w Q W wr out X n c) : n = out.length ∧ n ≤ c ∧ c ≤ 9223372036854775807 ∧ SliceI wr (fun b => W.heap.size ≤ b ∧ b < wr.heap.size) 16 (ItemI w Q) out (.slice X n c) := by
 obtain ⟨rows, ho, ha⟩ := h.row
 obtain ⟨X', c', he, h1, h2⟩ := own_shape ho
 injection he with e1 e2 e3
 subst e1 e2 e3
 exact ⟨rfl, h1, h2, slice_of_own ho ha (fun x cs h => (item_one h).1)⟩
end Go.Proofs.Ytehpinnmalpgpaa
namespace Go.Proofs.Ytehpinnmalpgpaa
open Go.ChangeShapes Go.WideShapes Go.ChangeAt Go.RowKit Go.Deep
set_option linter.unusedVariables false
set_option linter.unusedSimpArgs false
theorem allL_map : ∀ (l : List Pr) (out : List It), (∀ q ∈ l, (flatOf q).map It.s = preSL q.body) → out.length + cntL l ≤ 200 → (allL l out).map It.s = out.map It.s ++ l.flatMap (fun q => preSL q.body)
 | [], out, _, _ => by rw [allL]; simp
 | q :: l, out, h, hn => by
  have hq := h q (List.mem_cons_self ..)
  have hl : (flatOf q).length = (preSL q.body).length := by rw [← hq, List.length_map]
  rw [cntL] at hn
  rw [allL, if_neg (by rw [List.length_append]; omega), allL_map l _ (fun q hq => h q (List.mem_cons_of_mem _ hq)) (by rw [List.length_append]; omega), List.map_append, hq, List.flatMap_cons, List.append_assoc]
theorem all_map {p : Pg} (h : mayP p = true) : (allOf p).map It.s = p.procs.flatMap (fun q => preSL q.body) := by
 obtain ⟨h1, h2, _⟩ := may_flat h
 have := allL_map p.procs [] (fun q hq => (h1 q hq).1) (by simpa [cntP] using h2)
 simpa [allOf] using this
end Go.Proofs.Ytehpinnmalpgpaa
namespace Go.Proofs.Ytehpinnmalpgpaa
open Go.ChangeShapes Go.WideShapes Go.ChangeAt Go.RowKit Go.Deep
set_option linter.unusedVariables false
set_option linter.unusedSimpArgs false
theorem Mod_fix (n : Int) (k : Nat) (h1 : 1 ≤ k) (h2 : k ≤ 1000000) : ∃ m, m < k ∧ ∀ w : World, Calls Try.prog 13 #[.int .i64 n, .int .i64 k] w fun e w' => e = .returned (.int .i64 m) ∧ w = w' := by
 have hb : n.tmod k < k := Int.tmod_lt_of_pos n (by omega)
 have hb2 : -(k : Int) < n.tmod k := by
  have := Int.tmod_lt_of_pos (-n) (show (0 : Int) < k by omega)
  rw [Int.neg_tmod] at this
  omega
 by_cases hn : n.tmod k < 0
 ·refine ⟨(n.tmod k + k).toNat, by omega, fun w => ?_⟩
  go_enter Try.func13, Try.ntmps13
  go_wp2
  go_ret
  exact ⟨ret_int (by omega), rfl⟩
 ·refine ⟨(n.tmod k).toNat, by omega, fun w => ?_⟩
  go_enter Try.func13, Try.ntmps13
  go_wp2
  go_ret
  exact ⟨ret_int (by omega), rfl⟩
end Go.Proofs.Ytehpinnmalpgpaa
namespace Go.Proofs.Ytehpinnmalpgpaa
open Go.ChangeShapes Go.WideShapes Go.ChangeAt Go.RowKit Go.Deep
set_option linter.unusedVariables false
set_option linter.unusedSimpArgs false
theorem int_info : (Try.prog.info? 3).map (fun i => (i.zero, i.size, i.bytes)) = some (some (.int .i64 0), 1, 8) := by kernel_rfl
def intsV (l : List Int) : List Value := l.map (Value.int .i64)
def idsOf (kind : Int) (l : List It) : List Int := (l.filter (fun x => kind == 0 || x.s.kind == kind)).map (fun x => x.s.id)
theorem idsOf_take {kind : Int} {l : List It} {k : Nat} (h : k < l.length) : idsOf kind (l.take (k + 1)) = idsOf kind (l.take k) ++ if (kind == 0 || l[k].s.kind == kind) = true then [l[k].s.id] else [] := by
 unfold idsOf
 rw [List.take_succ_eq_append_getElem h, List.filter_append, List.map_append]
 congr 1
 rw [List.filter_cons, List.filter_nil]
 split <;> rfl
theorem idsOf_len {kind : Int} {l : List It} {k : Nat} : (idsOf kind (l.take k)).length ≤ k := by
 unfold idsOf
 rw [List.length_map]
 exact Nat.le_trans (List.length_filter_le ..) (by rw [List.length_take]; omega)
theorem new_int (w : World) (n : Int) : ∀ j u, [Value.int .i64 n][j]? = some u → (w.alloc (.cells #[.int .i64 n] 3)).cell? ((⟨w.heap.size, 0, none⟩ : Addr).add j) = some u := by
 intro j u hu
 have hj : j = 0 := by have := (List.getElem?_eq_some_iff.1 hu).1; simp at this; exact this
 subst hj
 simp at hu
 subst hu
 simp [Addr.add]
structure IdI (V wr : World) (l : List Int) (X : Option Addr) (n c : Nat) : Prop where
 row : wr.ownsRow V.heap.size 3 1 (.slice X n c) n (intsV l)
 len : n = l.length
 below : Below V.heap.size V wr
def NewInts (l : List Int) (w : World) (e : Ending) (w' : World) : Prop := ∃ v, e = .returned v ∧ w'.ownsRow w.heap.size 3 1 v l.length (intsV l) ∧ Below w.heap.size w w'
set_option maxHeartbeats 8000000 in
set_option maxRecDepth 100000 in
theorem Ids_any {w : World} {Q : Nat → Prop} {p : Pg} {c0 c1 : Value} (h : ProgI w Q p [c0, c1]) (kd : Int) (hkd : i64 kd) (W : World) (hI : In Q w W) :
 Calls Try.prog 33 #[.agg #[c0, c1], .int .i64 kd] W (NewInts (idsOf kd (allOf p)) W) := by
 have HAl := Lib.hid (fun V hV => All_any (W := V) h hV)
 obtain ⟨Ag, cg, Ap, cp, rfl, rfl, _⟩ := prog_open h
 have HI := Lib.hid hI
 have HLn : Hid ((allOf p).length ≤ 401) := Lib.hid (allL_len p.procs [] (by simp))
 obtain ⟨i0, hi0, hz0, hz1, hz2⟩ := info_parts int_info
 unfold i64 at hkd
 clear h hI
 generalize allOf p = its at HAl HLn ⊢
 go_enter Try.func33, Try.ntmps33
 go_upto_region 1 with fail
 have HB0 : Hid (Below W.heap.size W (W.alloc (.cells #[.slice Ag p.globals.length cg, .slice Ap p.procs.length cp] 25))) := Lib.hid (below_box _)
 have HBp : Hid (Blk (W.alloc (.cells #[.slice Ag p.globals.length cg, .slice Ap p.procs.length cp] 25)) W.heap.size 25 #[.slice Ag p.globals.length cg, .slice Ap p.procs.length cp]) := Lib.hid (Blk.new _ _ _)
 generalize World.alloc _ _ = V at HB0 HBp ⊢
 have HI0 := Lib.hid (HI.out.on HB0.out)
 generalize hbe : W.heap.size = b at HBp ⊢
 clear hbe
 have q0 : V.cell? ⟨b, 0, none⟩ = some (.slice Ag p.globals.length cg) := by rw [HBp.out.cell]; rfl
 have q1 : V.cell? ⟨b, 1, none⟩ = some (.slice Ap p.procs.length cp) := by rw [HBp.out.cell]; rfl
 go_upto_region 3 with (go_at_call 17; refine (HAl.out V HI0.out).mono ?_; rintro e w1 ⟨X1, n1, k1, rfl, hal⟩; obtain ⟨rfl, hn1, hk1, hsl⟩ := hal.slice)
 have HSl := Lib.hid hsl
 have HB1 := Lib.hid (below_step HB0.out hal.below)
 have HI1 := Lib.hid hal.inn
 have HIl : Hid (In (fun b => V.heap.size ≤ b ∧ b < w1.heap.size) w1 w1) := Lib.hid ⟨fun b h => h.2, fun _ _ => rfl⟩
 clear q0 q1 hal hsl HB0 HBp HI0 HAl
 generalize (fun b => V.heap.size ≤ b ∧ b < w1.heap.size) = T0 at HSl HIl
 have hll : its.length ≤ 401 := HLn.out
 have HS0 : Hid (IdI w1 w1 (idsOf kd (its.take 0)) none 0 0) := Lib.hid ⟨World.ownsRow_nil _ _ _ _, rfl, Below.refl _ _⟩
 go_loopg [5, 11] its.length (fun kk ov iv wr => ∃ (k : Nat) (Xr : Option Addr) (n c : Nat), k + kk = its.length ∧ iv = .int .i64 k ∧ ov = .slice Xr n c ∧ n ≤ 401 ∧ Hid (IdI w1 wr (idsOf kd (its.take k)) Xr n c))
 case atStart => exact ⟨0, none, 0, 0, by omega, rfl, rfl, by omega, HS0⟩
 case round =>
  clear HS0
  obtain ⟨k, Xr, n, c, hk, rfl, rfl, hn4, HR⟩ := hrel
  have HIr := Lib.hid (HI1.out.on HR.out.below)
  by_cases hlt : k < its.length
  ·obtain ⟨a2, id, kind, labels, nm, proc, x, has, args, th, el, L, lc, y0, y1, y2, X, xn, xc, R, rc, T, tc, U, uc, dp, inn, els, rfl, hq2, hmk, hrow2, hid, hkind, hst⟩ := item_at HSl.out (HIl.out.on HR.out.below) hlt
   have HT := Lib.hid (idsOf_take (kind := kd) hlt)
   rw [hmk] at HT
   have HLe : Hid (n = (idsOf kd (its.take k)).length ∧ n ≤ k) := Lib.hid ⟨HR.out.len, by rw [HR.out.len]; exact idsOf_len⟩
   generalize idsOf kd (its.take k) = pre at HR HT HLe
   have hkb := hkind
   unfold i64 at hkb
   obtain ⟨bb, hbb⟩ : ∃ bb, bb = (kd == 0 || kind == kd) := ⟨_, rfl⟩
   have HT2 : Hid (idsOf kd (its.take (k + 1)) = pre ++ if bb = true then [id] else []) := Lib.hid (by rw [hbb]; exact HT.out)
   have Hbb := Lib.hid hbb
   obtain ⟨p0, p1, p2, p3, p4, p5, p6, p7, p8, p9, p10, p11, p12, p13, p14, p15, _⟩ := hrow2
   clear hbb HT hmk hst hid hkind hq2
   go_upto_region 5 with fail
   have HBi : Hid (Blk (wr.alloc (.cells #[.int .i64 id, .int .i64 kind, .slice L labels.length lc, .string nm, .string proc, .int .i64 y0, .int .i64 y1, .string y2, .slice X xn xc, .bool has, .slice R args.length rc, .slice T th.length tc, .slice U el.length uc, .int .i64 dp, .int .i64 inn, .bool els] 64)) wr.heap.size 64 #[.int .i64 id, .int .i64 kind, .slice L labels.length lc, .string nm, .string proc, .int .i64 y0, .int .i64 y1, .string y2, .slice X xn xc, .bool has, .slice R args.length rc, .slice T th.length tc, .slice U el.length uc, .int .i64 dp, .int .i64 inn, .bool els]) := Lib.hid (Blk.new _ _ _)
   have HO4 : Hid ((wr.alloc (.cells #[.int .i64 id, .int .i64 kind, .slice L labels.length lc, .string nm, .string proc, .int .i64 y0, .int .i64 y1, .string y2, .slice X xn xc, .bool has, .slice R args.length rc, .slice T th.length tc, .slice U el.length uc, .int .i64 dp, .int .i64 inn, .bool els] 64)).ownsRow w1.heap.size 3 1 (.slice Xr n c) n (intsV pre)) := Lib.hid (HR.out.row.alloc _)
   have HB4 : Hid (Below w1.heap.size w1 (wr.alloc (.cells #[.int .i64 id, .int .i64 kind, .slice L labels.length lc, .string nm, .string proc, .int .i64 y0, .int .i64 y1, .string y2, .slice X xn xc, .bool has, .slice R args.length rc, .slice T th.length tc, .slice U el.length uc, .int .i64 dp, .int .i64 inn, .bool els] 64))) := Lib.hid (below_stepA HR.out.below _)
   clear p0 p1 p2 p3 p4 p5 p6 p7 p8 p9 p10 p11 p12 p13 p14 p15 HIr HR
   generalize World.alloc wr _ = V4 at HBi HB4 HO4 ⊢
   generalize wr.heap.size = bi at HBi ⊢
   have s0 : V4.cell? ⟨bi, 0, none⟩ = some (.int .i64 id) := by rw [HBi.out.cell]; rfl
   have s1 : V4.cell? ⟨bi, 1, none⟩ = some (.int .i64 kind) := by rw [HBi.out.cell]; rfl
   have hnk : n ≤ 400 := by have := HLe.out.2; omega
   go_cut [23] from 15 to 22 (fun s wx => s = .bool bb ∧ wx = V4)
   case first =>
    by_cases hk0 : kd = 0
    ·subst hk0
     have H2 : Hid (bb = true) := Lib.hid (by rw [Hbb.out]; rfl)
     go_wp2_with fail
     go_meet
     exact ⟨by rw [H2.out], rfl⟩
    ·have hk1 : (kd == 0) = false := beq_eq_false_iff_ne.2 hk0
     have H2 : Hid (bb = (kind == kd)) := Lib.hid (by rw [Hbb.out, hk1]; rfl)
     clear hk0
     go_wp2_with fail
     go_meet
     exact ⟨by rw [H2.out]; try rfl, rfl⟩
   case rest =>
    obtain ⟨rfl, hw⟩ := hcut
    replace hw := hw.symm
    subst hw
    cases bb with
    | true =>
     have HW := Lib.hid (new_int V4 id)
     have HO5 : Hid ((V4.alloc (.cells #[.int .i64 id] 3)).ownsRow w1.heap.size 3 1 (.slice Xr n c) n (intsV pre)) := Lib.hid (HO4.out.alloc _)
     have HB5 : Hid (Below w1.heap.size w1 (V4.alloc (.cells #[.int .i64 id] 3))) := Lib.hid (below_stepA HB4.out _)
     go_wp2_with (at_builtin; refine wpList_append_own_at _ rfl (.tmp 24) (.tmp 28) 67 rfl w1.heap.size 3 i0 _ 1 8 Try.underlying67 hi0 hz0 hz1 hz2 rfl (by decide) _ n (intsV pre) rfl HO5.out ⟨V4.heap.size, 0, none⟩ 1 1 [.int .i64 id] rfl rfl HW.out (by simp [Value.oneCell']) (by unfold maxLen; omega) (by omega) HB5.out.size ?_; intro v6 w6 hown6 hg6 _ hat6; obtain ⟨X6, k6, rfl, _, _⟩ := own_shape hown6; have HO6 := Lib.hid hown6; have HG6 := Lib.hid hg6; clear hown6 hg6 hat6)
     have HS : Hid (IdI w1 w6 (idsOf kd (its.take (k + 1))) X6 (n + 1) k6) := Lib.hid ⟨by rw [HT2.out]; show World.ownsRow _ _ _ _ _ _ (intsV (pre ++ [id])); unfold intsV; rw [List.map_append]; exact HO6.out, by rw [HT2.out]; show _ = (pre ++ [id]).length; rw [List.length_append, ← HLe.out.1]; rfl, HB5.out.grown HG6.out HB5.out.size (fun j hj => (HO5.out.lt j hj).1)⟩
     go_roundg (its.length - k - 1)
     case measure => omega
     case rel => exact ⟨k + 1, X6, _, k6, by omega, by go_num, rfl, by omega, HS⟩
    | false =>
     have HS : Hid (IdI w1 V4 (idsOf kd (its.take (k + 1))) Xr n c) := Lib.hid ⟨by rw [HT2.out]; show World.ownsRow _ _ _ _ _ _ (intsV (pre ++ [])); rw [List.append_nil]; exact HO4.out, by rw [HT2.out]; show _ = (pre ++ []).length; rw [List.append_nil]; exact HLe.out.1, HB4.out⟩
     go_wp2_with fail
     go_roundg (its.length - k - 1)
     case measure => omega
     case rel => exact ⟨k + 1, Xr, _, c, by omega, by go_num, rfl, by omega, HS⟩
  ·have hke : k = its.length := by omega
   subst hke
   go_wp2_with fail
   go_ret
   refine ⟨_, rfl, own_lower ?_ HB1.out.size, below_step HB1.out HR.out.below⟩
   have h1 := HR.out.row
   have h2 := HR.out.len
   rw [List.take_length] at h1 h2
   rw [h2] at h1 ⊢
   exact h1
theorem Pick_any {w W : World} {base c : Nat} {X : Option Addr} {l : List Int} (h : w.ownsRow base 3 1 (.slice X l.length c) l.length (intsV l)) (hl : l.length ≤ 1000) (hlb : ∀ i ∈ l, i64 i) (n : Int) (hb : Below w.heap.size w W) :
 Calls Try.prog 32 #[.slice X l.length c, .int .i64 n] W fun e w' => ∃ i : Int, (l = [] ∧ i = 0 ∨ i ∈ l) ∧ e = .returned (.int .i64 i) ∧ W = w' := by
 by_cases h0 : l.length = 0
 ·have hnil : l = [] := List.eq_nil_of_length_eq_zero h0
  have HN := Lib.hid hnil
  obtain ⟨len, hlen⟩ : ∃ len, len = l.length := ⟨_, rfl⟩
  rw [← hlen] at h0 ⊢
  subst h0
  clear h hl hlb hnil hlen
  go_enter Try.func32, Try.ntmps32
  go_wp2_with fail
  go_ret
  exact ⟨0, .inl ⟨HN.out, rfl⟩, rfl, rfl⟩
 ·obtain ⟨m, hm, hM⟩ := Mod_fix n l.length (by omega) (by omega)
  have HM := Lib.hid hM
  obtain ⟨a, cap, he, hc, _, _⟩ := own_at h hm
  injection he with h1 _ h3
  subst h1 h3
  have hcell := hc (.int .i64 l[m]) (by simp [intsV, List.getElem?_map, List.getElem?_eq_getElem hm])
  have hlt : (a.add m).block < w.heap.size := World.block_lt_of_cell? w _ hcell
  have p0 : W.cell? (a.add m) = some (.int .i64 l[m]) := (hb.cell hlt).trans hcell
  have hmem := List.getElem_mem hm
  have HMem := Lib.hid hmem
  have hb0 : (((l.length : Nat) : Int) == 0) = false := beq_eq_false_iff_ne.2 (by omega)
  clear h hl hlb hM hc hcell hlt hb hmem
  generalize l[m] = x at p0 HMem
  go_enter Try.func32, Try.ntmps32
  go_wp2_with (go_at_call 13; refine (HM.out _).mono ?_; rintro e w' ⟨rfl, rfl⟩)
  go_ret
  exact ⟨x, .inr HMem.out, rfl, rfl⟩
end Go.Proofs.Ytehpinnmalpgpaa
