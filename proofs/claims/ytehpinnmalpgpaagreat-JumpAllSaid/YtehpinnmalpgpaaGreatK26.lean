/- Texts, merged by a program; only what is used. -/
import Derived.Maps.AppendAt
import Derived.Maps.Range
import Derived.Test.YtehpinnmalpgpaaGreatK1
import Derived.Test.YtehpinnmalpgpaaGreatK2
import Derived.Test.YtehpinnmalpgpaaGreatK3
import Derived.Test.YtehpinnmalpgpaaGreatK4
import Derived.Test.YtehpinnmalpgpaaGreatK5
import Derived.Test.YtehpinnmalpgpaaGreatK6
import Derived.Test.YtehpinnmalpgpaaGreatK7
import Derived.Test.YtehpinnmalpgpaaGreatK8
import Derived.Test.YtehpinnmalpgpaaGreatK9
import Derived.Test.YtehpinnmalpgpaaGreatK10
import Derived.Test.YtehpinnmalpgpaaGreatK11
import Derived.Test.YtehpinnmalpgpaaGreatK12
import Derived.Test.YtehpinnmalpgpaaGreatK13
import Derived.Test.YtehpinnmalpgpaaGreatK14
import Derived.Test.YtehpinnmalpgpaaGreatK23
import Derived.Test.YtehpinnmalpgpaaGreatK24
import Derived.Test.YtehpinnmalpgpaaGreatK25
namespace Go.Proofs.YtehpinnmalpgpaaGreat
open Go.ChangeShapes Go.WideShapes Go.ChangeAt Go.RowKit Go.Deep
set_option linter.unusedVariables false
set_option linter.unusedSimpArgs false
set_option maxHeartbeats 4000000 in
set_option maxRecDepth 100000 in
theorem rMay_any {w : World} {Q : Nat → Prop} {p : Pg} {c0 c1 : Value} (h : ProgI w Q p [c0, c1]) (W : World) (hI : In Q w W) :
  Calls Tryz.prog 78 #[.agg #[c0, c1]] W (MayOk (mayP p) W) := by
 have HAl := Lib.hid (fun V hV => All_any (W := V) h hV)
 obtain ⟨Ag, cg, Ap, cp, rfl, rfl, hg1, hg2, hp1, hp2, hgl, hpr⟩ := prog_open h
 have HI := Lib.hid hI
 have HP := Lib.hid hpr
 have HG := Lib.hid (fun W h1 => rnames_any (W := W) hgl h1)
 have HM : Hid (mayP p = (!decide (16 < p.globals.length) && !decide (16 < p.procs.length) && allN p.globals && p.procs.all headOk && !decide (200 < (allOf p).length) && itsOk (allOf p) 0)) := Lib.hid (rMayP_eq p).symm
 clear h hI hpr hgl
 by_cases h1 : 16 < p.globals.length
 ·rw [decide_eq_true h1] at HM
  go_enter Tryz.func78, Tryz.ntmps78
  go_wp2_with fail
  go_ret
  exact ⟨ret_bool (by rw [HM.out]; rfl), below_box _⟩
 by_cases h2 : 16 < p.procs.length
 ·rw [decide_eq_false h1, decide_eq_true h2] at HM
  go_enter Tryz.func78, Tryz.ntmps78
  go_wp2_with fail
  go_ret
  exact ⟨ret_bool (by rw [HM.out]; rfl), below_box _⟩
 rw [decide_eq_false h1, decide_eq_false h2] at HM
 cases hv : allN p.globals with
 | false =>
  rw [hv] at HM HG
  clear hv
  go_enter Tryz.func78, Tryz.ntmps78
  go_wp2_with (go_at_call 103; refine (HG.out _ (HI.out.alloc _)).mono ?_; rintro e w' ⟨rfl, hb1⟩)
  go_ret
  exact ⟨ret_bool (by rw [HM.out]; rfl), below_new hb1⟩
 | true =>
  rw [hv] at HM HG
  simp only [Bool.not_false, Bool.true_and] at HM
  clear hv
  go_enter Tryz.func78, Tryz.ntmps78
  go_upto_region 1 with fail
  have HB0 : Hid (Below W.heap.size W (W.alloc (.cells #[.slice Ag p.globals.length cg, .slice Ap p.procs.length cp] 25))) := Lib.hid (below_box _)
  have HBp : Hid (Blk (W.alloc (.cells #[.slice Ag p.globals.length cg, .slice Ap p.procs.length cp] 25)) W.heap.size 25 #[.slice Ag p.globals.length cg, .slice Ap p.procs.length cp]) := Lib.hid (Blk.new _ _ _)
  generalize World.alloc _ _ = V0 at HBp HB0 ⊢
  generalize hbe : W.heap.size = b at HBp ⊢
  clear hbe
  have HI0 := Lib.hid (HI.out.on HB0.out)
  have q0 : V0.cell? ⟨b, 0, none⟩ = some (.slice Ag p.globals.length cg) := by rw [HBp.out.cell]; rfl
  have q1 : V0.cell? ⟨b, 1, none⟩ = some (.slice Ap p.procs.length cp) := by rw [HBp.out.cell]; rfl
  have hbl := HBp.out.lt
  go_upto_region 3 with (go_at_call 103; refine (HG.out _ HI0.out).mono ?_; rintro e V1 ⟨rfl, hb1⟩)
  have HB1 := Lib.hid (below_step HB0.out hb1)
  have HBp1 := Lib.hid (HBp.out.below hb1 hbl)
  have HI1 := Lib.hid (HI.out.on HB1.out)
  clear q0 q1 hbl HBp HB0 HI0 hb1 HG
  have q1 : V1.cell? ⟨b, 1, none⟩ = some (.slice Ap p.procs.length cp) := by rw [HBp1.out.cell]; rfl
  have hbl := HBp1.out.lt
  go_wp2_with fail
  clear q1
  go_loopg [28] p.procs.length (fun kk i wr => ∃ k : Nat, k + kk = p.procs.length ∧ i = .int .i64 k ∧ Hid ((p.procs.drop k).all headOk = p.procs.all headOk) ∧ Hid (Below V1.heap.size V1 wr))
  case atStart => exact ⟨0, by omega, rfl, Lib.hid (by rw [List.drop_zero]), Lib.hid (Below.refl _ _)⟩
  case round =>
   obtain ⟨k, hk, rfl, HW, HR⟩ := hrel
   have HIr := Lib.hid (HI1.out.on HR.out)
   by_cases hlt : k < p.procs.length
   ·generalize wr = wo at *
    obtain ⟨a, Bp, bp, Bv, bv, Bb, bb, Be, be, rfl, _, ⟨p0, p1, p2, p3, p4, _⟩, hnm, hpp, hvv, hbody, hee⟩ := proc_at HP.out HIr.out hlt
    have HD : Hid (p.procs.all headOk = (headOk p.procs[k] && (p.procs.drop (k + 1)).all headOk)) := Lib.hid (by rw [← all_drop (f := headOk) hlt, HW.out])
    obtain ⟨x, hx⟩ : ∃ x, x = p.procs[k] := ⟨_, rfl⟩
    rw [← hx] at p0 p1 p2 p3 p4 HD hnm hpp hvv hbody hee
    clear hx hbody
    obtain ⟨xn, xp, xv, xb, xe⟩ := x
    simp only at p0 p1 p2 p3 p4 HD hnm hpp hvv hee
    obtain ⟨_, hpl1, hpl2, _⟩ := slice_len hpp
    have HPp := Lib.hid hpp
    have HN := Lib.hid (fun W => rName_any xn W (by unfold maxLen; omega))
    have HV := Lib.hid (fun W h1 => rnames_any (W := W) hvv h1)
    have HE := Lib.hid (fun W h1 => rnames_any (W := W) hee h1)
    have HH : Hid (headOk ⟨xn, xp, xv, xb, xe⟩ = (!decide (8 < xp.length) && !decide (16 < xv.length) && parsOk xp && isNm (bl xn) && allN xv && allN xe)) := Lib.hid rfl
    rw [HH.out] at HD
    clear HH hpp hvv hee
    go_upto_region 6 with fail
    have HBo : Hid (Below wo.heap.size wo (wo.alloc (.cells #[.string xn, .slice Bp xp.length bp, .slice Bv xv.length bv, .slice Bb xb.length bb, .slice Be xe.length be] 43))) := Lib.hid (below_box _)
    have HBq : Hid (Blk (wo.alloc (.cells #[.string xn, .slice Bp xp.length bp, .slice Bv xv.length bv, .slice Bb xb.length bb, .slice Be xe.length be] 43)) wo.heap.size 43 #[.string xn, .slice Bp xp.length bp, .slice Bv xv.length bv, .slice Bb xb.length bb, .slice Be xe.length be]) := Lib.hid (Blk.new _ _ _)
    generalize World.alloc _ _ = W6 at HBq HBo ⊢
    generalize wo.heap.size = bQ at HBq ⊢
    clear p0 p1 p2 p3 p4
    have HI6 := Lib.hid (HIr.out.on HBo.out)
    have z0 : W6.cell? ⟨bQ, 0, none⟩ = some (.string xn) := by rw [HBq.out.cell]; rfl
    have z1 : W6.cell? ⟨bQ, 1, none⟩ = some (.slice Bp xp.length bp) := by rw [HBq.out.cell]; rfl
    have z2 : W6.cell? ⟨bQ, 2, none⟩ = some (.slice Bv xv.length bv) := by rw [HBq.out.cell]; rfl
    have z4 : W6.cell? ⟨bQ, 4, none⟩ = some (.slice Be xe.length be) := by rw [HBq.out.cell]; rfl
    have hbq := HBq.out.lt
    have HB6 := Lib.hid (below_step HR.out HBo.out)
    generalize isNm (bl xn) = b1 at HD HN
    generalize allN xv = b2 at HD HV
    generalize allN xe = b3 at HD HE
    go_cut [59] from 32 to 58 (fun s wx => s = .bool (!(b1 && !decide (8 < xp.length) && !decide (16 < xv.length) && b2 && b3)) ∧ Hid (Below W6.heap.size W6 wx))
    case first =>
     by_cases h8 : 8 < xp.length <;> by_cases h16 : 16 < xv.length <;> cases b1 <;> cases b2 <;> cases b3
     all_goals
      go_wp2_with (first
       | (go_at_call 104; (with_reducible refine (HN.out _).mono ?_); rintro e w1 ⟨rfl, hb1⟩; have hc1 := (bcell hb1).1; have hz1 : bQ < w1.heap.size := Nat.lt_of_lt_of_le hbq hb1.size; have HB1 := Lib.hid hb1; clear hb1)
       | (go_at_call 103; (with_reducible refine (HV.out _ (HI6.out.on HB1.out)).mono ?_); rintro e w2 ⟨rfl, hb2⟩; have hc2 := (bcell hb2).1; have hz2 : bQ < w2.heap.size := Nat.lt_of_lt_of_le hz1 hb2.size; have HB2 := Lib.hid (below_step HB1.out hb2); clear hb2)
       | (go_at_call 103; (with_reducible refine (HE.out _ (HI6.out.on HB2.out)).mono ?_); rintro e w3 ⟨rfl, hb3⟩; have HB3 := Lib.hid (below_step HB2.out hb3); clear hb3))
      go_meet
      refine ⟨congrArg Value.bool (by first | (simp [h8, h16]; done) | (simp [h8, h16]; omega)), ?_⟩
      first
       | exact HB3
       | exact HB2
       | exact HB1
    case rest =>
     obtain ⟨rfl, HBc⟩ := hcut
     have HB7 := Lib.hid (below_step HB6.out HBc.out)
     have HI7 := Lib.hid (HI6.out.on HBc.out)
     have HBq7 := Lib.hid (HBq.out.below HBc.out hbq)
     have HD' : Hid (p.procs.all headOk = ((b1 && !decide (8 < xp.length) && !decide (16 < xv.length) && b2 && b3) && (parsOk xp && (p.procs.drop (k + 1)).all headOk))) := Lib.hid (by rw [HD.out]; cases b1 <;> cases b2 <;> cases b3 <;> simp [Bool.and_assoc] <;> ac_rfl)
     clear HD z0 z1 z2 z4 hbq HBq HI6 HB6 HBo HBc HN HV HE
     generalize (b1 && !decide (8 < xp.length) && !decide (16 < xv.length) && b2 && b3) = hb at HD' ⊢
     cases hb with
     | false =>
      go_wp2_with fail
      go_ret
      exact ⟨ret_bool (by rw [HM.out, HD'.out]; simp), below_step HB1.out HB7.out⟩
     | true =>
      rw [Bool.true_and] at HD'
      have z1 : wc.cell? ⟨bQ, 1, none⟩ = some (.slice Bp xp.length bp) := by rw [HBq7.out.cell]; rfl
      have hbq := HBq7.out.lt
      go_wp2_with fail
      clear z1
      go_loopg [63] xp.length (fun kk i wr => ∃ k2 : Nat, k2 + kk = xp.length ∧ i = .int .i64 k2 ∧ Hid ((xp.drop k2).all (fun p => isNm (bl p.nm)) = parsOk xp) ∧ Hid (Below V1.heap.size V1 wr))
      case atStart => exact ⟨0, by omega, rfl, Lib.hid (by rw [List.drop_zero]; rfl), HB7⟩
      case round =>
       obtain ⟨k2, hk2, rfl, HW2, HR2⟩ := hrel
       by_cases hlt2 : k2 < xp.length
       ·obtain ⟨a2, rfl, _, ⟨p0, p1, _⟩, hs⟩ := par_at HPp.out (HI1.out.on HR2.out) hlt2
        have HN2 : Hid (parsOk xp = (isNm (bl xp[k2].nm) && (xp.drop (k2 + 1)).all (fun p => isNm (bl p.nm)))) := Lib.hid (by rw [← all_drop (f := fun p : Pa => isNm (bl p.nm)) hlt2, HW2.out])
        obtain ⟨y, hy⟩ : ∃ y, y = xp[k2] := ⟨_, rfl⟩
        rw [← hy] at p0 p1 hs HN2
        clear hy
        obtain ⟨yn, yr⟩ := y
        simp only at p0 p1 hs HN2
        have HC := Lib.hid (fun W => rName_any yn W (by unfold maxLen; omega))
        cases hv : isNm (bl yn) with
        | true =>
         rw [hv] at HC HN2
         clear hv
         go_wp2_with (go_at_call 104; refine (HC.out _).mono ?_; rintro e w' ⟨rfl, hb2⟩)
         go_roundg (xp.length - k2 - 1)
         case measure => omega
         case rel => exact ⟨k2 + 1, by omega, by go_num, Lib.hid (by rw [HN2.out, Bool.true_and]), Lib.hid (below_step HR2.out (below_new hb2))⟩
        | false =>
         rw [hv] at HC HN2
         clear hv
         go_wp2_with (go_at_call 104; refine (HC.out _).mono ?_; rintro e w' ⟨rfl, hb2⟩)
         go_ret
         exact ⟨ret_bool (by rw [HM.out, HD'.out, HN2.out]; simp), below_step HB1.out (below_step HR2.out (below_new hb2))⟩
       ·have HN2 : Hid (parsOk xp = true) := Lib.hid (by
         have h1 := HW2.out
         rw [List.drop_of_length_le (by omega), List.all_nil] at h1
         exact h1.symm)
        go_wp2_with fail
        go_roundg (p.procs.length - k - 1)
        case measure => omega
        case rel => exact ⟨k + 1, by omega, by go_num, Lib.hid (by rw [HD'.out, HN2.out, Bool.true_and]), HR2⟩
   ·have HN : Hid (p.procs.all headOk = true) := Lib.hid (by
     have h1 := HW.out
     rw [List.drop_of_length_le (by omega), List.all_nil] at h1
     exact h1.symm)
    rw [HN.out, Bool.true_and] at HM
    have HBp2 := Lib.hid (HBp1.out.below HR.out hbl)
    have q0 : wr.cell? ⟨b, 0, none⟩ = some (.slice Ag p.globals.length cg) := by rw [HBp2.out.cell]; rfl
    have q1 : wr.cell? ⟨b, 1, none⟩ = some (.slice Ap p.procs.length cp) := by rw [HBp2.out.cell]; rfl
    have HB2 := Lib.hid (below_step HB1.out HR.out)
    clear HN HW
    go_upto_region 16 with (go_at_call 105; refine (HAl.out _ HIr.out).mono ?_; rintro e V2 ⟨X, n, c, rfl, hal⟩)
    obtain ⟨e0, hnc, hc2, hsl⟩ := hal.slice
    subst e0
    have HSl := Lib.hid hsl
    have HI2 := Lib.hid hal.inn
    have HB3 := Lib.hid (below_step HB2.out hal.below)
    clear hal hsl q0 q1 HIr HBp2 HB2 HR HI1 HBp1 HAl hbl
    generalize allOf p = its at HM hnc HSl ⊢
    by_cases h200 : 200 < its.length
    ·rw [decide_eq_true h200] at HM
     go_wp2_with fail
     go_ret
     exact ⟨ret_bool (by rw [HM.out]; rfl), HB3.out⟩
    ·rw [decide_eq_false h200, Bool.not_false, Bool.true_and] at HM
     go_wp2_with fail
     go_loopw [80] (fun i wr => ∃ k : Nat, k ≤ its.length ∧ i = .int .i64 k ∧ Hid (itsOk (its.drop k) k = itsOk its 0) ∧ Hid (Below V2.heap.size V2 wr)) (fun i _ => its.length - (intOf i).toNat)
     case atStart => exact ⟨0, Nat.zero_le _, rfl, Lib.hid (by rw [List.drop_zero]), Lib.hid (Below.refl _ _)⟩
     case round =>
      obtain ⟨k, hk, rfl, HW, HR⟩ := hrel
      by_cases hlt : k < its.length
      ·obtain ⟨ai, cs, rfl, hqi, hit, hci⟩ := slice_at HSl.out (W := wr) ⟨fun b h => Nat.lt_of_lt_of_le h.2 HR.out.size, fun p hp => HR.out.cell hp.2⟩ hlt
       have HD := Lib.hid (itsOk_drop hlt)
       rw [HW.out] at HD
       obtain ⟨c', rfl, hst⟩ := hit
       obtain ⟨id', kind', labels', nm', proc', x', has', args', th', el', L', lc', x0', x1', x2', X', xn', xc', R', rc', T', tc', U', uc', hmk', rfl, hid', _⟩ := stmt_open hst
       have hci' : ∀ j u, ([.int .i64 id', .int .i64 kind', .slice L' labels'.length lc', .string nm', .string proc', .int .i64 x0', .int .i64 x1', .string x2', .slice X' xn' xc', .bool has', .slice R' args'.length rc', .slice T' th'.length tc', .slice U' el'.length uc', .int .i64 its[k].deep, .int .i64 its[k].inn, .bool its[k].els] : List Value)[j]? = some u → wr.cell? (ai.add (k * 16 + j)) = some u := hci
       have hrw := rowAt_elem hci'
       clear hci'
       obtain ⟨p0, p1, p2, p3, p4, p5, p6, p7, p8, p9, p10, p11, p12, p13, p14, p15, _⟩ := hrw
       have HC : Hid (∀ V, In Q w V → Calls Tryz.prog 106 #[.agg #[.int .i64 id', .int .i64 kind', .slice L' labels'.length lc', .string nm', .string proc', .int .i64 x0', .int .i64 x1', .string x2', .slice X' xn' xc', .bool has', .slice R' args'.length rc', .slice T' th'.length tc', .slice U' el'.length uc']] V (MayOk (stmtOk its[k].s) V)) := Lib.hid (fun V hV => one_any hst V hV)
       have HIt : Hid (itOk k its[k] = (decide (its[k].s.id = ((k + 1 : Nat) : Int)) && decide (its[k].deep ≤ 12) && stmtOk its[k].s)) := Lib.hid rfl
       rw [HIt.out] at HD
       have hidd : its[k].s.id = id' := by rw [hmk']; rfl
       rw [hidd] at HD
       generalize its[k].deep = dp at p13 HD
       generalize its[k].inn = inn at p14
       generalize its[k].els = els at p15
       generalize stmtOk its[k].s = b1 at HC HD
       have HIr := Lib.hid (HI2.out.on HR.out)
       clear hidd hst hmk' hci hqi HIt
       by_cases hi : id' = ((k + 1 : Nat) : Int)
       ·have hi1 : id' = (k : Int) + 1 := by omega
        have HD1 := Lib.hid (show itsOk its 0 = (decide (dp ≤ 12) && b1 && itsOk (its.drop (k + 1)) (k + 1)) by rw [HD.out, decide_eq_true hi, Bool.true_and])
        clear HD hi
        subst hi1
        by_cases hd : dp ≤ 12
        ·have HD2 := Lib.hid (show itsOk its 0 = (b1 && itsOk (its.drop (k + 1)) (k + 1)) by rw [HD1.out, decide_eq_true hd, Bool.true_and])
         clear HD1
         cases b1 with
         | true =>
          go_wp2_with (go_at_call 106; refine (HC.out _ HIr.out).mono ?_; rintro e w2 ⟨rfl, hb2⟩)
          go_roundw
          case rel => exact ⟨k + 1, by omega, by go_num, Lib.hid (by rw [HD2.out, Bool.true_and]), Lib.hid (below_step HR.out hb2)⟩
          case measure => simp [intOf]; omega
         | false =>
          go_wp2_with (go_at_call 106; refine (HC.out _ HIr.out).mono ?_; rintro e w2 ⟨rfl, hb2⟩)
          go_ret
          exact ⟨ret_bool (by rw [HM.out, HD2.out]; rfl), below_step HB3.out (below_step HR.out hb2)⟩
        ·have HD2 := Lib.hid (show itsOk its 0 = false by rw [HD1.out, decide_eq_false hd]; rfl)
         clear HD1
         have hd' : 12 < dp := by omega
         go_wp2_with fail
         go_ret
         exact ⟨ret_bool (by rw [HM.out, HD2.out]), below_step HB3.out HR.out⟩
       ·have HD1 := Lib.hid (show itsOk its 0 = false by rw [HD.out, decide_eq_false hi]; rfl)
        clear HD
        have hi1 : ¬ id' = (k : Int) + 1 := by omega
        have hi2 : (id' != (k : Int) + 1) = true := bne_iff_ne.2 hi1
        go_wp2_with fail
        go_ret
        exact ⟨ret_bool (by rw [HM.out, HD1.out]), below_step HB3.out HR.out⟩
      ·have HN : Hid (itsOk its 0 = true) := Lib.hid (by
        have h1 := HW.out
        rw [List.drop_of_length_le (by omega), itsOk] at h1
        exact h1.symm)
       go_wp2_with fail
       go_ret
       exact ⟨ret_bool (by rw [HM.out, HN.out]), below_step HB3.out HR.out⟩
end Go.Proofs.YtehpinnmalpgpaaGreat
namespace Go.Proofs.YtehpinnmalpgpaaGreat
open Go.ChangeShapes Go.WideShapes Go.ChangeAt Go.RowKit Go.Deep
set_option linter.unusedVariables false
set_option linter.unusedSimpArgs false
set_option maxHeartbeats 2000000 in
set_option maxRecDepth 100000 in
theorem rkind_any {w : World} {Q : Nat → Prop} {gl : List ByteArray} {vg vq : Value} {q : Pr} {c0 c1 c2 c3 c4 : Value} {n : Nat} {B : Option Addr} {m : Nat} (hvq : vq = .slice B n m) (hg : TextsI w Q gl vg) (h : ProcI w Q q [c0, c1, c2, c3, c4]) (s : ByteArray) (W : World) (hI : In Q w W) :
  Calls Tryz.prog 81 #[.agg #[vg, vq], .agg #[c0, c1, c2, c3, c4], .string s] W fun e w' => e = .returned (.int .i64 (knd gl q s)) ∧ Below W.heap.size W w' := by
 subst hvq
 obtain ⟨vp, vv, vb, ve, hc, hnm, hpp, hvv, hbb, hee⟩ := h
 simp only [List.cons.injEq, and_true] at hc
 obtain ⟨rfl, rfl, rfl, rfl, rfl⟩ := hc
 obtain ⟨Ap, cp, rfl, _, _⟩ := hpp.shape
 obtain ⟨Av, cv, rfl, _, _⟩ := hvv.shape
 obtain ⟨Ab, cb, rfl, _⟩ := hbb.shape
 obtain ⟨Ae, ce, rfl, _⟩ := hee.shape
 obtain ⟨Ag, cg, rfl, _⟩ := hg.shape
 have HG := Lib.hid (fun V hV => rIn_any (W := V) hg hV s)
 have HV := Lib.hid (fun V hV => rIn_any (W := V) hvv hV s)
 have HPp := Lib.hid hpp
 have HI := Lib.hid hI
 have HK : Hid (knd gl q s = (q.params.find? (isPa s)).elim (if q.vars.any (isT s) = true then 4 else if gl.any (isT s) = true then 1 else 0) (fun x => if x.ref = true then 3 else 2)) := Lib.hid rfl
 clear hg hpp hvv hbb hee hI
 go_enter Tryz.func81, Tryz.ntmps81
 go_upto_region 1 with fail
 have HBg : Hid (Blk ((W.alloc (.cells #[.slice Ag gl.length cg, .slice B n m] 25)).alloc (.cells #[.string q.nm, .slice Ap q.params.length cp, .slice Av q.vars.length cv, .slice Ab q.body.length cb, .slice Ae q.end_.length ce] 43)) W.heap.size 25 #[.slice Ag gl.length cg, .slice B n m]) := Lib.hid ((Blk.new _ _ _).alloc _)
 have HBp : Hid (Blk ((W.alloc (.cells #[.slice Ag gl.length cg, .slice B n m] 25)).alloc (.cells #[.string q.nm, .slice Ap q.params.length cp, .slice Av q.vars.length cv, .slice Ab q.body.length cb, .slice Ae q.end_.length ce] 43)) (W.heap.size + 1) 43 #[.string q.nm, .slice Ap q.params.length cp, .slice Av q.vars.length cv, .slice Ab q.body.length cb, .slice Ae q.end_.length ce]) := Lib.hid (by have := Blk.new (W.alloc (.cells #[.slice Ag gl.length cg, .slice B n m] 25)) 43 #[.string q.nm, .slice Ap q.params.length cp, .slice Av q.vars.length cv, .slice Ab q.body.length cb, .slice Ae q.end_.length ce]; rw [World.size_alloc] at this; exact this)
 have HB0 : Hid (Below W.heap.size W ((W.alloc (.cells #[.slice Ag gl.length cg, .slice B n m] 25)).alloc (.cells #[.string q.nm, .slice Ap q.params.length cp, .slice Av q.vars.length cv, .slice Ab q.body.length cb, .slice Ae q.end_.length ce] 43))) := Lib.hid (below_two _ _)
 generalize World.alloc _ _ = V at HBg HBp HB0 ⊢
 have q1 : V.cell? ⟨W.heap.size + 1, 1, none⟩ = some (.slice Ap q.params.length cp) := by rw [HBp.out.cell]; rfl
 have HI0 := Lib.hid (HI.out.on HB0.out)
 go_upto_region 2 with fail
 clear q1
 go_loopw [12] (fun iv wr => ∃ (k : Nat), k ≤ q.params.length ∧ iv = .int .i64 k ∧ Hid ((q.params.drop k).find? (isPa s) = q.params.find? (isPa s)) ∧ Hid (Below V.heap.size V wr)) (fun iv _ => q.params.length - (intOf iv).toNat)
 case atStart => exact ⟨0, Nat.zero_le _, rfl, Lib.hid (by rw [List.drop_zero]), Lib.hid (Below.refl _ _)⟩
 case round =>
  obtain ⟨k, hk, rfl, HW, HR⟩ := hrel
  have HIr := Lib.hid (HI0.out.on HR.out)
  have HBW := Lib.hid (below_step HB0.out HR.out)
  by_cases hlt : k < q.params.length
  ·obtain ⟨a, rfl, _, ⟨p0, p1, _⟩, _⟩ := par_at HPp.out HIr.out hlt
   have HD := HW.out
   rw [List.drop_eq_getElem_cons hlt, List.find?_cons] at HD
   have hv := isPa_eq s q.params[k]
   generalize q.params[k] = x at p0 p1 HD hv
   obtain ⟨xn, xr⟩ := x
   simp only at p0 p1 hv
   cases hb : isPa s ⟨xn, xr⟩ with
   | true =>
    rw [hb] at HD
    simp only at HD
    rw [← HD, Option.elim_some] at HK
    have hv2 : (xn.toList == s.toList) = true := by rw [← hv]; exact hb
    clear hv hb HD HW
    cases xr with
    | true =>
     go_wp2_with fail
     go_ret
     exact ⟨by rw [HK.out]; rfl, below_stepA HBW.out _⟩
    | false =>
     go_wp2_with fail
     go_ret
     exact ⟨by rw [HK.out]; rfl, below_stepA HBW.out _⟩
   | false =>
    rw [hb] at HD
    simp only at HD
    have HD := Lib.hid HD
    have hv2 : (xn.toList == s.toList) = false := by rw [← hv]; exact hb
    clear hv hb HW
    go_wp2_with fail
    go_roundw
    case rel => exact ⟨k + 1, by omega, by go_num, HD, Lib.hid (below_stepA HR.out _)⟩
    case measure => simp [intOf]; omega
  ·have HBp1 := Lib.hid (HBp.out.below HR.out HBp.out.lt)
   have HBg1 := Lib.hid (HBg.out.below HR.out HBg.out.lt)
   have hn := HW.out
   rw [List.drop_of_length_le (by omega), List.find?_nil] at hn
   rw [← hn, Option.elim_none] at HK
   have q2 : wr.cell? ⟨W.heap.size + 1, 2, none⟩ = some (.slice Av q.vars.length cv) := by rw [HBp1.out.cell]; rfl
   have g0 : wr.cell? ⟨W.heap.size, 0, none⟩ = some (.slice Ag gl.length cg) := by rw [HBg1.out.cell]; rfl
   clear hn HW
   generalize q.vars.any (isT s) = b1 at HV HK
   generalize gl.any (isT s) = b2 at HG HK
   cases b1 with
   | true =>
    go_wp2_with (go_at_call 29; (with_reducible refine (HV.out wr HIr.out).mono ?_); rintro e w' ⟨rfl, rfl⟩)
    go_ret
    exact ⟨by rw [HK.out]; rfl, HBW.out⟩
   | false =>
    cases b2 with
    | true =>
     go_wp2_with (first
      | (go_at_call 29; (with_reducible refine (HV.out wr HIr.out).mono ?_); rintro e w' ⟨rfl, rfl⟩)
      | (go_at_call 29; (with_reducible refine (HG.out wr HIr.out).mono ?_); rintro e w' ⟨rfl, rfl⟩))
     go_ret
     exact ⟨by rw [HK.out]; rfl, HBW.out⟩
    | false =>
     go_wp2_with (first
      | (go_at_call 29; (with_reducible refine (HV.out wr HIr.out).mono ?_); rintro e w' ⟨rfl, rfl⟩)
      | (go_at_call 29; (with_reducible refine (HG.out wr HIr.out).mono ?_); rintro e w' ⟨rfl, rfl⟩))
     go_ret
     exact ⟨by rw [HK.out]; rfl, HBW.out⟩
end Go.Proofs.YtehpinnmalpgpaaGreat
namespace Go.Proofs.YtehpinnmalpgpaaGreat
open Go.ChangeShapes Go.WideShapes Go.ChangeAt Go.RowKit Go.Deep
set_option linter.unusedVariables false
theorem spoken_any (l : List ByteArray) (s : ByteArray) (v : Value) (base : Nat) (w : World) (hl : ∀ t ∈ l, small t) (hs : small s) (hown : w.ownsRow base 9 1 v l.length (strs l)) (hbase : base ≤ w.heap.size) (hlen : l.length ≤ 1073741824) :
    Calls Tryz.prog 123 #[v, .string s] w (RowOk base v (spoke l s) w) := by
  obtain ⟨i0, hi0, hz0, hz1, hz2⟩ := info_parts string_info
  obtain ⟨A, cap, rfl, hc1, hc2⟩ := own_shape hown
  have HT := Lib.hid (texts_of_own hl hown).2
  have HI : Hid (In (fun b => base ≤ b ∧ b < w.heap.size) w w) := Lib.hid ⟨fun b h => h.2, fun _ _ => rfl⟩
  have HO := Lib.hid hown
  have HL := Lib.hid hl
  clear hown hl
  go_enter Tryz.func123, Tryz.ntmps123
  go_wp2_with fail
  go_loop [9] (fun i => ∃ k : Nat, k ≤ l.length ∧ i = .int .i64 k ∧ Hid (s ∉ l.take k)) (fun i => l.length - (intOf i).toNat)
  case atStart => exact ⟨0, Nat.zero_le _, rfl, Lib.hid (by simp)⟩
  case round =>
    obtain ⟨k, hk, rfl, HN⟩ := hrel
    by_cases hlt : k < l.length
    · obtain ⟨a, rfl, _, p1, _⟩ := text_at HT.out HI.out hlt
      cases hv : (l[k].toList == s.toList) with
      | true =>
        have HM : Hid (spoke l s = l) := Lib.hid (by
          rw [dec_bytes] at hv
          have : l[k] = s := by simpa using hv
          unfold spoke
          rw [if_pos (hasB_iff.2 (this ▸ List.getElem_mem hlt))])
        obtain ⟨x1, hx1⟩ : ∃ x, x = l[k] := ⟨_, rfl⟩
        rw [← hx1] at p1 hv
        clear hx1
        go_wp2_with fail
        go_ret
        exact ⟨_, rfl, by rw [HM.out]; exact HO.out, World.grownBy.refl _ _, fun j hj => .inr hj⟩
      | false =>
        have HM : Hid (s ∉ l.take (k + 1)) := Lib.hid (by
          rw [dec_bytes] at hv
          have : l[k] ≠ s := by simpa using hv
          rw [List.take_succ_eq_append_getElem hlt]
          intro h
          rcases List.mem_append.1 h with h | h
          · exact HN.out h
          · simp at h; exact this h.symm)
        obtain ⟨x1, hx1⟩ : ∃ x, x = l[k] := ⟨_, rfl⟩
        rw [← hx1] at p1 hv
        clear hx1
        go_wp2_with fail
        go_round
        case rel => exact ⟨k + 1, by omega, by go_num, HM⟩
        case measure => simp [intOf]; omega
    · have HM : Hid (spoke l s = l ++ [s]) := Lib.hid (by
        have := HN.out
        rw [List.take_of_length_le (by omega)] at this
        unfold spoke
        rw [if_neg (fun h => this (hasB_iff.1 h))])
      have hnew : ∀ j u, [Value.string s][j]? = some u → (w.alloc (.cells #[.string s] 9)).cell? ((⟨w.heap.size, 0, none⟩ : Addr).add j) = some u := by
        intro j u hu
        have hj : j = 0 := by have := (List.getElem?_eq_some_iff.1 hu).1; simp at this; exact this
        subst hj
        simp at hu
        subst hu
        simp [Addr.add]
      have HW := Lib.hid hnew
      clear hnew
      go_wp2_with (at_builtin; refine wpList_append_own_at _ rfl (.tmp 18) (.tmp 20) 22 rfl base 9 i0 _ 1 16 Tryz.underlying22 hi0 hz0 hz1 hz2 rfl (by decide) _ l.length (strs l) rfl (HO.out.alloc _) ⟨w.heap.size, 0, none⟩ 1 1 [.string s] rfl rfl HW.out (by simp [Value.oneCell']) (by unfold maxLen; omega) (by omega) (by simp; omega) ?_)
      intro v' w1 hown1 hg1 _ hat
      go_wp2_with fail
      go_ret
      refine ⟨v', rfl, ?_, (World.grownBy_alloc w _ _).andThen hg1 (fun j hj => .inr hj), fun j hj => ?_⟩
      · rw [HM.out, strs_append, List.length_append]
        exact hown1
      · rcases hat with h | h
        · exact .inr (h.symm.trans hj)
        · rw [h] at hj; injection hj with hj; left; rw [← hj]; simp
set_option maxHeartbeats 1000000 in
theorem walk_any {w : World} {Q : Nat → Prop} {e : E} {cs : List Value} (h : ExprI w Q e cs) : ∀ (c0 c1 c2 c3 : Value), cs = [c0, c1, c2, c3] → ∀ (l : List ByteArray) (v : Value) (base : Nat) (W : World), (∀ t ∈ l, small t) →
    W.ownsRow base 9 1 v l.length (strs l) → base ≤ W.heap.size → (∀ b, Q b → b < base) → l.length + sizE e ≤ 1073741824 → In Q w W →
    Calls Tryz.prog 102 #[.agg #[c0, c1, c2, c3], v] W (RowOk base v (walkE e l) W) := by
  induction h with
  | @mk op n nm ks A cap css hop hn hnm hcap hA hk ih =>
    intro c0 c1 c2 c3 hcs l v base W hl hown hbase hQ hlen hI
    simp only [List.cons.injEq, and_true] at hcs
    obtain ⟨rfl, rfl, rfl, rfl⟩ := hcs
    unfold i64 at hop hn
    rw [sizE] at hlen
    obtain ⟨A0, cap0, rfl, hcc1, hcc2⟩ := own_shape hown
    have HA := Lib.hid hA
    have HK := Lib.hid hk
    have IH := Lib.hid ih
    have HI := Lib.hid hI
    have HO := Lib.hid hown
    have HS0 := Lib.hid hl
    have HQ := Lib.hid hQ
    clear hA hk ih hI hown hl hQ
    have HB1 : Hid (Below W.heap.size W (W.alloc (.cells #[.int .i64 op, .int .i64 n, .string nm, .slice A ks.length cap] 50))) := Lib.hid (below_box _)
    have HO1 : Hid ((W.alloc (.cells #[.int .i64 op, .int .i64 n, .string nm, .slice A ks.length cap] 50)).ownsRow base 9 1 (.slice A0 l.length cap0) l.length (strs l)) := Lib.hid (HO.out.alloc _)
    have HQ3 : Hid ((W.alloc (.cells #[.int .i64 op, .int .i64 n, .string nm, .slice A ks.length cap] 50)).cell? ⟨W.heap.size, 3, none⟩ = some (.slice A ks.length cap)) := Lib.hid (by simp)
    have hsz : W.heap.size < (W.alloc (.cells #[.int .i64 op, .int .i64 n, .string nm, .slice A ks.length cap] 50)).heap.size := by simp
    have HNE : Hid (some W.heap.size ≠ Value.ownBlock (.slice A0 l.length cap0)) := Lib.hid (fun e => by have := (HO.out.lt _ e.symm).2; omega)
    have HGW : Hid (W.grownBy (W.alloc (.cells #[.int .i64 op, .int .i64 n, .string nm, .slice A ks.length cap] 50)) (Value.ownBlock (.slice A0 l.length cap0))) := Lib.hid (World.grownBy_alloc W _ _)
    by_cases h2 : op = 2
    · have q2 : (op == 2) = true := by simp [h2]
      have HW0 : Hid (walkE (.mk op n nm ks) l = walkL ks (spoke l nm)) := Lib.hid (by rw [walkE, if_pos h2])
      clear h2
      have hsl := spoke_len l nm
      have HSp := Lib.hid (spoke_all HS0.out (p := small) hnm)
      go_enter Tryz.func102, Tryz.ntmps102
      go_wp2_with (go_at_call 123; refine (spoken_any l nm (.slice A0 l.length cap0) base _ HS0.out hnm HO1.out (by simp; omega) (by omega)).mono ?_; rintro e w1 ⟨x1, rfl, ho1, hg1, hj1⟩; obtain ⟨X1, cx1, rfl, _, _⟩ := own_shape ho1; have HO3 := Lib.hid ho1; have HG1 := Lib.hid hg1; have HJ1 := Lib.hid hj1; have hc1 : w1.cell? ⟨W.heap.size, 3, none⟩ = some (.slice A ks.length cap) := (hg1.cell_far ⟨W.heap.size, 3, none⟩ hsz HNE.out).trans HQ3.out; clear ho1 hg1 hj1)
      clear hc1
      generalize W.alloc _ = Wb at *
      go_loopw [1, 16] (fun u i wr => ∃ (k : Nat) (l' : List ByteArray) (X : Option Addr) (cx : Nat), k ≤ ks.length ∧ u = .slice X l'.length cx ∧ i = .int .i64 k ∧ l'.length + sizL (ks.drop k) ≤ 1073741824 ∧ Hid (walkL (ks.drop k) l' = walkE (.mk op n nm ks) l) ∧ Hid (∀ t ∈ l', small t) ∧
          Hid (wr.ownsRow base 9 1 (.slice X l'.length cx) l'.length (strs l')) ∧ Hid (Wb.grownBy wr (Value.ownBlock (.slice A0 l.length cap0))) ∧ Hid (∀ j, Value.ownBlock (.slice X l'.length cx) = some j → Wb.heap.size ≤ j ∨ Value.ownBlock (.slice A0 l.length cap0) = some j)) (fun _ i _ => ks.length - (intOf i).toNat)
      case atStart => exact ⟨0, spoke l nm, X1, cx1, Nat.zero_le _, rfl, rfl, by rw [List.drop_zero]; omega, Lib.hid (by rw [List.drop_zero, HW0.out]), HSp, HO3, HG1, HJ1⟩
      case round =>
        obtain ⟨k, l', X, cx, hk, rfl, rfl, hsz2, HW, HS, HO2, HG, HJ⟩ := hrel
        have q3 : wr.cell? ⟨W.heap.size, 3, none⟩ = some (.slice A ks.length cap) := (HG.out.cell_far ⟨W.heap.size, 3, none⟩ hsz HNE.out).trans HQ3.out
        have hrz := HG.out.size
        have hrz2 : W.heap.size < wr.heap.size := by omega
        by_cases hlt : k < ks.length
        · have hIr : In Q w wr := (HI.out.on HB1.out).grown HG.out (fun j hj hq => absurd (HQ.out j hq) (by have := (HO.out.lt j hj).1; omega))
          obtain ⟨a, o1, n1, s1, A1, l1, k1, rfl, hd', p0, p1, p2, p3⟩ := kid_at HA.out HK.out hIr hlt
          have hd2 := sizL_drop hlt
          have hsz3 : l'.length + sizE ks[k] ≤ 1073741824 := by omega
          have hlen2 : (walkE ks[k] l').length + sizL (ks.drop (k + 1)) ≤ 1073741824 := by have := walkE_len ks[k] l'; omega
          have HC := Lib.hid (IH.out k hlt _ _ _ _ hd' l' (.slice X l'.length cx) base wr HS.out HO2.out (by have := HB1.out.size; omega) HQ.out hsz3 hIr)
          have HN : Hid (walkL (ks.drop (k + 1)) (walkE ks[k] l') = walkE (.mk op n nm ks) l) := Lib.hid (by rw [← walkL_drop hlt]; exact HW.out)
          have HS2 : Hid (∀ t ∈ walkE ks[k] l', small t) := Lib.hid (walkE_all (HK.out k hlt) HS.out)
          obtain ⟨l2, hl2⟩ : ∃ l2, l2 = walkE ks[k] l' := ⟨_, rfl⟩
          rw [← hl2] at HC HN HS2 hlen2
          clear hd' hIr hd2 hsz3 hl2
          go_wp2_with (go_at_call 102; refine HC.out.mono ?_; rintro e w2 ⟨x2, rfl, ho2, hg2, hj2⟩; obtain ⟨X2, cx2, rfl, _, _⟩ := own_shape ho2)
          go_roundw
          case rel => exact ⟨k + 1, l2, X2, cx2, by omega, rfl, by go_num, hlen2, HN, HS2, Lib.hid ho2, Lib.hid (HG.out.andThen hg2 HJ.out), Lib.hid (lies_then HG.out HJ.out hj2)⟩
          case measure => simp [intOf]; omega
        · have HN : Hid (walkE (.mk op n nm ks) l = l') := Lib.hid (by
            have h1 := HW.out
            rw [List.drop_of_length_le (by omega), walkL] at h1
            exact h1.symm)
          go_wp2_with fail
          go_ret
          exact ⟨.slice X l'.length cx, rfl, by rw [HN.out]; exact HO2.out, HGW.out.andThen HG.out (fun j hj => .inr hj), fun j hj => (HJ.out j hj).imp (fun h => by omega) id⟩
    · have q2 : (op == 2) = false := beq_eq_false_iff_ne.2 h2
      have HW0 : Hid (walkE (.mk op n nm ks) l = walkL ks l) := Lib.hid (by rw [walkE, if_neg h2])
      clear h2
      go_enter Tryz.func102, Tryz.ntmps102
      go_wp2_with fail
      generalize W.alloc _ = Wb at *
      go_loopw [1, 16] (fun u i wr => ∃ (k : Nat) (l' : List ByteArray) (X : Option Addr) (cx : Nat), k ≤ ks.length ∧ u = .slice X l'.length cx ∧ i = .int .i64 k ∧ l'.length + sizL (ks.drop k) ≤ 1073741824 ∧ Hid (walkL (ks.drop k) l' = walkE (.mk op n nm ks) l) ∧ Hid (∀ t ∈ l', small t) ∧
          Hid (wr.ownsRow base 9 1 (.slice X l'.length cx) l'.length (strs l')) ∧ Hid (Wb.grownBy wr (Value.ownBlock (.slice A0 l.length cap0))) ∧ Hid (∀ j, Value.ownBlock (.slice X l'.length cx) = some j → Wb.heap.size ≤ j ∨ Value.ownBlock (.slice A0 l.length cap0) = some j)) (fun _ i _ => ks.length - (intOf i).toNat)
      case atStart => exact ⟨0, l, A0, cap0, Nat.zero_le _, rfl, rfl, by rw [List.drop_zero]; omega, Lib.hid (by rw [List.drop_zero, HW0.out]), HS0, HO1, Lib.hid (World.grownBy.refl _ _), Lib.hid (fun j hj => .inr hj)⟩
      case round =>
        obtain ⟨k, l', X, cx, hk, rfl, rfl, hsz2, HW, HS, HO2, HG, HJ⟩ := hrel
        have q3 : wr.cell? ⟨W.heap.size, 3, none⟩ = some (.slice A ks.length cap) := (HG.out.cell_far ⟨W.heap.size, 3, none⟩ hsz HNE.out).trans HQ3.out
        have hrz := HG.out.size
        have hrz2 : W.heap.size < wr.heap.size := by omega
        by_cases hlt : k < ks.length
        · have hIr : In Q w wr := (HI.out.on HB1.out).grown HG.out (fun j hj hq => absurd (HQ.out j hq) (by have := (HO.out.lt j hj).1; omega))
          obtain ⟨a, o1, n1, s1, A1, l1, k1, rfl, hd', p0, p1, p2, p3⟩ := kid_at HA.out HK.out hIr hlt
          have hd2 := sizL_drop hlt
          have hsz3 : l'.length + sizE ks[k] ≤ 1073741824 := by omega
          have hlen2 : (walkE ks[k] l').length + sizL (ks.drop (k + 1)) ≤ 1073741824 := by have := walkE_len ks[k] l'; omega
          have HC := Lib.hid (IH.out k hlt _ _ _ _ hd' l' (.slice X l'.length cx) base wr HS.out HO2.out (by have := HB1.out.size; omega) HQ.out hsz3 hIr)
          have HN : Hid (walkL (ks.drop (k + 1)) (walkE ks[k] l') = walkE (.mk op n nm ks) l) := Lib.hid (by rw [← walkL_drop hlt]; exact HW.out)
          have HS2 : Hid (∀ t ∈ walkE ks[k] l', small t) := Lib.hid (walkE_all (HK.out k hlt) HS.out)
          obtain ⟨l2, hl2⟩ : ∃ l2, l2 = walkE ks[k] l' := ⟨_, rfl⟩
          rw [← hl2] at HC HN HS2 hlen2
          clear hd' hIr hd2 hsz3 hl2
          go_wp2_with (go_at_call 102; refine HC.out.mono ?_; rintro e w2 ⟨x2, rfl, ho2, hg2, hj2⟩; obtain ⟨X2, cx2, rfl, _, _⟩ := own_shape ho2)
          go_roundw
          case rel => exact ⟨k + 1, l2, X2, cx2, by omega, rfl, by go_num, hlen2, HN, HS2, Lib.hid ho2, Lib.hid (HG.out.andThen hg2 HJ.out), Lib.hid (lies_then HG.out HJ.out hj2)⟩
          case measure => simp [intOf]; omega
        · have HN : Hid (walkE (.mk op n nm ks) l = l') := Lib.hid (by
            have h1 := HW.out
            rw [List.drop_of_length_le (by omega), walkL] at h1
            exact h1.symm)
          go_wp2_with fail
          go_ret
          exact ⟨.slice X l'.length cx, rfl, by rw [HN.out]; exact HO2.out, HGW.out.andThen HG.out (fun j hj => .inr hj), fun j hj => (HJ.out j hj).imp (fun h => by omega) id⟩
theorem rNames_any {w : World} {Q : Nat → Prop} {e : E} {c0 c1 c2 c3 : Value} (h : ExprI w Q e [c0, c1, c2, c3]) (W : World) (hI : In Q w W) :
    Calls Tryz.prog 69 #[.agg #[c0, c1, c2, c3]] W (NewRow (namesE e) W) := by
  have HM := Lib.hid (fun W h1 => rMayExpr_any h W h1)
  have HF := Lib.hid (walk_any h c0 c1 c2 c3 rfl [] (.slice none 0 0))
  have HI := Lib.hid hI
  unfold namesE
  have hz := mayE_siz e 20
  obtain ⟨d0, d1, d2, d3, l3, k3, hd'⟩ := h.form
  simp only [List.cons.injEq, and_true] at hd'
  obtain ⟨rfl, rfl, rfl, rfl⟩ := hd'
  clear h hI
  cases hm : mayE 20 e with
  | false =>
    rw [hm] at HM
    clear hm hz
    go_enter Tryz.func69, Tryz.ntmps69
    go_wp2_with (go_at_call 101; refine (HM.out _ (HI.out.alloc _)).mono ?_; rintro e' w2 ⟨rfl, hb2⟩)
    go_ret
    exact ⟨.slice none 0 0, rfl, World.ownsRow_nil _ _ _ _, below_new hb2⟩
  | true =>
    have hz2 := hz hm
    rw [hm] at HM
    clear hm hz
    go_enter Tryz.func69, Tryz.ntmps69
    go_wp2_with (first
      | (go_at_call 101; refine (HM.out _ (HI.out.alloc _)).mono ?_; rintro e' w2 ⟨rfl, hb2⟩; have hc2 := (bcell hb2).1; have hz3 := hb2.size; rw [World.size_alloc] at hz3)
      | (go_at_call 102; refine (HF.out w2.heap.size _ (by simp) (World.ownsRow_nil _ _ _ _) (Nat.le_refl _) (fun b hb => ((HI.out.alloc _).on hb2).1 b hb) (by simp; omega) ((HI.out.alloc _).on hb2)).mono ?_; rintro e' w3 ⟨v, rfl, ho, hg, hj⟩))
    go_ret
    have hb3 : Below w2.heap.size w2 w3 := (Below.refl _ _).grown hg (Nat.le_refl _) (by simp [Value.ownBlock])
    exact ⟨v, rfl, own_lower ho (by have := (below_new hb2).size; omega), (below_new hb2).trans (hb3.mono (below_new hb2).size)⟩
end Go.Proofs.YtehpinnmalpgpaaGreat
