/- Texts, merged by a program; only what is used. -/
import Derived.Test.YtimejkbmfbjomaaGreatKX1
import Derived.Test.YtimejkbmfbjomaaGreatKX2
import Derived.Test.YtimejkbmfbjomaaGreatKX3
import Derived.Test.YtimejkbmfbjomaaGreatKX4
import Derived.Test.YtimejkbmfbjomaaGreatKX5
import Derived.Test.YtimejkbmfbjomaaGreatKX6
import Derived.Test.YtimejkbmfbjomaaGreatKX7
import Derived.Test.YtimejkbmfbjomaaGreatKX8
import Derived.Test.YtimejkbmfbjomaaGreatKX9
import Derived.Test.YtimejkbmfbjomaaGreatKX10
import Derived.Test.YtimejkbmfbjomaaGreatKX11
import Derived.Test.YtimejkbmfbjomaaGreatKX12
import Derived.Test.YtimejkbmfbjomaaGreatKX13
import Derived.Test.YtimejkbmfbjomaaGreatKX14
import Derived.Test.YtimejkbmfbjomaaGreatKX15
import Derived.Test.YtimejkbmfbjomaaGreatKX16
import Derived.Test.YtimejkbmfbjomaaGreatKX17
import Derived.Test.YtimejkbmfbjomaaGreatKX20
import Derived.Test.YtimejkbmfbjomaaGreatKX22
import Derived.Test.YtimejkbmfbjomaaGreatKX23
import Derived.Test.YtimejkbmfbjomaaGreatKX24
import Derived.Test.YtimejkbmfbjomaaGreatKX28
import Derived.Test.YtimejkbmfbjomaaGreatKX29
namespace Go.Proofs.YtimejkbmfbjomaaGreat
open Go.ChangeShapes Go.WideShapes Go.ChangeAt Go.RowKit Go.Deep
set_option linter.unusedVariables false
set_option linter.unusedSimpArgs false
set_option maxHeartbeats 4000000 in
set_option maxRecDepth 100000 in
theorem rMay_any {w : World} {Q : Nat → Prop} {p : Pg} {c0 c1 : Value} (h : ProgI w Q p [c0, c1]) (W : World) (hI : In Q w W) :
  Calls Tryz.prog 86 #[.agg #[c0, c1]] W (MayOk (mayP p) W) := by
 have HAl := Lib.hid (fun V hV => All_any (W := V) h hV)
 obtain ⟨Ag, cg, Ap, cp, rfl, rfl, hg1, hg2, hp1, hp2, hgl, hpr⟩ := prog_open h
 have HI := Lib.hid hI
 have HP := Lib.hid hpr
 have HG := Lib.hid (fun W h1 => rnames_any (W := W) hgl h1)
 have HM : Hid (mayP p = (!decide (16 < p.globals.length) && !decide (16 < p.procs.length) && allN p.globals && p.procs.all headOk && !decide (200 < (allOf p).length) && itsOk (allOf p) 0)) := Lib.hid (rMayP_eq p).symm
 clear h hI hpr hgl
 by_cases h1 : 16 < p.globals.length
 ·rw [decide_eq_true h1] at HM
  go_enter Tryz.func86, Tryz.ntmps86
  go_wp2_with fail
  go_ret
  exact ⟨ret_bool (by rw [HM.out]; rfl), below_box _⟩
 by_cases h2 : 16 < p.procs.length
 ·rw [decide_eq_false h1, decide_eq_true h2] at HM
  go_enter Tryz.func86, Tryz.ntmps86
  go_wp2_with fail
  go_ret
  exact ⟨ret_bool (by rw [HM.out]; rfl), below_box _⟩
 rw [decide_eq_false h1, decide_eq_false h2] at HM
 cases hv : allN p.globals with
 | false =>
  rw [hv] at HM HG
  clear hv
  go_enter Tryz.func86, Tryz.ntmps86
  go_wp2_with (go_at_call 113; refine (HG.out _ (HI.out.alloc _)).mono ?_; rintro e w' ⟨rfl, hb1⟩)
  go_ret
  exact ⟨ret_bool (by rw [HM.out]; rfl), below_new hb1⟩
 | true =>
  rw [hv] at HM HG
  simp only [Bool.not_false, Bool.true_and] at HM
  clear hv
  go_enter Tryz.func86, Tryz.ntmps86
  go_upto_region 1 with fail
  have HB0 : Hid (Below W.heap.size W (W.alloc (.cells #[.slice Ag p.globals.length cg, .slice Ap p.procs.length cp] 25))) := Lib.hid (below_box _)
  have HBp : Hid (Blk (W.alloc (.cells #[.slice Ag p.globals.length cg, .slice Ap p.procs.length cp] 25)) W.heap.size 25 #[.slice Ag p.globals.length cg, .slice Ap p.procs.length cp]) := Lib.hid (Blk.new _ _ _)
  generalize World.alloc _ _ = V0 at HBp HB0 ⊢
  generalize hbe : W.heap.size = b at HBp ⊢
  clear hbe
  have HI0 := Lib.hid (HI.out.on HB0.out)
  have q0 : V0.cell? ⟨b, 0, none⟩ = some (.slice Ag p.globals.length cg) := by rw [HBp.out.cell]; rfl
  have q1 : V0.cell? ⟨b, 1, none⟩ = some (.slice Ap p.procs.length cp) := by rw [HBp.out.cell]; rfl
  have hbl := HBp.out.lt
  go_upto_region 3 with (go_at_call 113; refine (HG.out _ HI0.out).mono ?_; rintro e V1 ⟨rfl, hb1⟩)
  have HB1 := Lib.hid (below_step HB0.out hb1)
  have HBp1 := Lib.hid (HBp.out.below hb1 hbl)
  have HI1 := Lib.hid (HI.out.on HB1.out)
  clear q0 q1 hbl HBp HB0 HI0 hb1 HG
  have q1 : V1.cell? ⟨b, 1, none⟩ = some (.slice Ap p.procs.length cp) := by rw [HBp1.out.cell]; rfl
  have hbl := HBp1.out.lt
  go_wp2_with fail
  clear q1
  go_loopg [28] p.procs.length (fun kk i wr => ∃ k : Nat, k + kk = p.procs.length ∧ i = .int .i64 k ∧ Hid ((p.procs.drop k).all headOk = p.procs.all headOk) ∧ Hid (Below V1.heap.size V1 wr))
  case atStart => exact ⟨0, by omega, rfl, Lib.hid (by rw [List.drop_zero]), Lib.hid (Below.refl _ _)⟩
  case round =>
   obtain ⟨k, hk, rfl, HW, HR⟩ := hrel
   have HIr := Lib.hid (HI1.out.on HR.out)
   by_cases hlt : k < p.procs.length
   ·generalize wr = wo at *
    obtain ⟨a, Bp, bp, Bv, bv, Bb, bb, Be, be, rfl, _, ⟨p0, p1, p2, p3, p4, _⟩, hnm, hpp, hvv, hbody, hee⟩ := proc_at HP.out HIr.out hlt
    have HD : Hid (p.procs.all headOk = (headOk p.procs[k] && (p.procs.drop (k + 1)).all headOk)) := Lib.hid (by rw [← all_drop (f := headOk) hlt, HW.out])
    obtain ⟨x, hx⟩ : ∃ x, x = p.procs[k] := ⟨_, rfl⟩
    rw [← hx] at p0 p1 p2 p3 p4 HD hnm hpp hvv hbody hee
    clear hx hbody
    obtain ⟨xn, xp, xv, xb, xe⟩ := x
    simp only at p0 p1 p2 p3 p4 HD hnm hpp hvv hee
    obtain ⟨_, hpl1, hpl2, _⟩ := slice_len hpp
    have HPp := Lib.hid hpp
    have HN := Lib.hid (fun W => rName_any xn W (by unfold maxLen; omega))
    have HV := Lib.hid (fun W h1 => rnames_any (W := W) hvv h1)
    have HE := Lib.hid (fun W h1 => rnames_any (W := W) hee h1)
    have HH : Hid (headOk ⟨xn, xp, xv, xb, xe⟩ = (!decide (8 < xp.length) && !decide (16 < xv.length) && parsOk xp && isNm (bl xn) && allN xv && allN xe)) := Lib.hid rfl
    rw [HH.out] at HD
    clear HH hpp hvv hee
    go_upto_region 6 with fail
    have HBo : Hid (Below wo.heap.size wo (wo.alloc (.cells #[.string xn, .slice Bp xp.length bp, .slice Bv xv.length bv, .slice Bb xb.length bb, .slice Be xe.length be] 39))) := Lib.hid (below_box _)
    have HBq : Hid (Blk (wo.alloc (.cells #[.string xn, .slice Bp xp.length bp, .slice Bv xv.length bv, .slice Bb xb.length bb, .slice Be xe.length be] 39)) wo.heap.size 39 #[.string xn, .slice Bp xp.length bp, .slice Bv xv.length bv, .slice Bb xb.length bb, .slice Be xe.length be]) := Lib.hid (Blk.new _ _ _)
    generalize World.alloc _ _ = W6 at HBq HBo ⊢
    generalize wo.heap.size = bQ at HBq ⊢
    clear p0 p1 p2 p3 p4
    have HI6 := Lib.hid (HIr.out.on HBo.out)
    have z0 : W6.cell? ⟨bQ, 0, none⟩ = some (.string xn) := by rw [HBq.out.cell]; rfl
    have z1 : W6.cell? ⟨bQ, 1, none⟩ = some (.slice Bp xp.length bp) := by rw [HBq.out.cell]; rfl
    have z2 : W6.cell? ⟨bQ, 2, none⟩ = some (.slice Bv xv.length bv) := by rw [HBq.out.cell]; rfl
    have z4 : W6.cell? ⟨bQ, 4, none⟩ = some (.slice Be xe.length be) := by rw [HBq.out.cell]; rfl
    have hbq := HBq.out.lt
    have HB6 := Lib.hid (below_step HR.out HBo.out)
    generalize isNm (bl xn) = b1 at HD HN
    generalize allN xv = b2 at HD HV
    generalize allN xe = b3 at HD HE
    go_cut [59] from 32 to 58 (fun s wx => s = .bool (!(b1 && !decide (8 < xp.length) && !decide (16 < xv.length) && b2 && b3)) ∧ Hid (Below W6.heap.size W6 wx))
    case first =>
     by_cases h8 : 8 < xp.length <;> by_cases h16 : 16 < xv.length <;> cases b1 <;> cases b2 <;> cases b3
     all_goals
      go_wp2_with (first
       | (go_at_call 114; (with_reducible refine (HN.out _).mono ?_); rintro e w1 ⟨rfl, hb1⟩; have hc1 := (bcell hb1).1; have hz1 : bQ < w1.heap.size := Nat.lt_of_lt_of_le hbq hb1.size; have HB1 := Lib.hid hb1; clear hb1)
       | (go_at_call 113; (with_reducible refine (HV.out _ (HI6.out.on HB1.out)).mono ?_); rintro e w2 ⟨rfl, hb2⟩; have hc2 := (bcell hb2).1; have hz2 : bQ < w2.heap.size := Nat.lt_of_lt_of_le hz1 hb2.size; have HB2 := Lib.hid (below_step HB1.out hb2); clear hb2)
       | (go_at_call 113; (with_reducible refine (HE.out _ (HI6.out.on HB2.out)).mono ?_); rintro e w3 ⟨rfl, hb3⟩; have HB3 := Lib.hid (below_step HB2.out hb3); clear hb3))
      go_meet
      refine ⟨congrArg Value.bool (by first | (simp [h8, h16]; done) | (simp [h8, h16]; omega)), ?_⟩
      first
       | exact HB3
       | exact HB2
       | exact HB1
    case rest =>
     obtain ⟨rfl, HBc⟩ := hcut
     have HB7 := Lib.hid (below_step HB6.out HBc.out)
     have HI7 := Lib.hid (HI6.out.on HBc.out)
     have HBq7 := Lib.hid (HBq.out.below HBc.out hbq)
     have HD' : Hid (p.procs.all headOk = ((b1 && !decide (8 < xp.length) && !decide (16 < xv.length) && b2 && b3) && (parsOk xp && (p.procs.drop (k + 1)).all headOk))) := Lib.hid (by rw [HD.out]; cases b1 <;> cases b2 <;> cases b3 <;> simp [Bool.and_assoc] <;> ac_rfl)
     clear HD z0 z1 z2 z4 hbq HBq HI6 HB6 HBo HBc HN HV HE
     generalize (b1 && !decide (8 < xp.length) && !decide (16 < xv.length) && b2 && b3) = hb at HD' ⊢
     cases hb with
     | false =>
      go_wp2_with fail
      go_ret
      exact ⟨ret_bool (by rw [HM.out, HD'.out]; simp), below_step HB1.out HB7.out⟩
     | true =>
      rw [Bool.true_and] at HD'
      have z1 : wc.cell? ⟨bQ, 1, none⟩ = some (.slice Bp xp.length bp) := by rw [HBq7.out.cell]; rfl
      have hbq := HBq7.out.lt
      go_wp2_with fail
      clear z1
      go_loopg [63] xp.length (fun kk i wr => ∃ k2 : Nat, k2 + kk = xp.length ∧ i = .int .i64 k2 ∧ Hid ((xp.drop k2).all (fun p => isNm (bl p.nm)) = parsOk xp) ∧ Hid (Below V1.heap.size V1 wr))
      case atStart => exact ⟨0, by omega, rfl, Lib.hid (by rw [List.drop_zero]; rfl), HB7⟩
      case round =>
       obtain ⟨k2, hk2, rfl, HW2, HR2⟩ := hrel
       by_cases hlt2 : k2 < xp.length
       ·obtain ⟨a2, rfl, _, ⟨p0, p1, _⟩, hs⟩ := par_at HPp.out (HI1.out.on HR2.out) hlt2
        have HN2 : Hid (parsOk xp = (isNm (bl xp[k2].nm) && (xp.drop (k2 + 1)).all (fun p => isNm (bl p.nm)))) := Lib.hid (by rw [← all_drop (f := fun p : Pa => isNm (bl p.nm)) hlt2, HW2.out])
        obtain ⟨y, hy⟩ : ∃ y, y = xp[k2] := ⟨_, rfl⟩
        rw [← hy] at p0 p1 hs HN2
        clear hy
        obtain ⟨yn, yr⟩ := y
        simp only at p0 p1 hs HN2
        have HC := Lib.hid (fun W => rName_any yn W (by unfold maxLen; omega))
        cases hv : isNm (bl yn) with
        | true =>
         rw [hv] at HC HN2
         clear hv
         go_wp2_with (go_at_call 114; refine (HC.out _).mono ?_; rintro e w' ⟨rfl, hb2⟩)
         go_roundg (xp.length - k2 - 1)
         case measure => omega
         case rel => exact ⟨k2 + 1, by omega, by go_num, Lib.hid (by rw [HN2.out, Bool.true_and]), Lib.hid (below_step HR2.out (below_new hb2))⟩
        | false =>
         rw [hv] at HC HN2
         clear hv
         go_wp2_with (go_at_call 114; refine (HC.out _).mono ?_; rintro e w' ⟨rfl, hb2⟩)
         go_ret
         exact ⟨ret_bool (by rw [HM.out, HD'.out, HN2.out]; simp), below_step HB1.out (below_step HR2.out (below_new hb2))⟩
       ·have HN2 : Hid (parsOk xp = true) := Lib.hid (by
         have h1 := HW2.out
         rw [List.drop_of_length_le (by omega), List.all_nil] at h1
         exact h1.symm)
        go_wp2_with fail
        go_roundg (p.procs.length - k - 1)
        case measure => omega
        case rel => exact ⟨k + 1, by omega, by go_num, Lib.hid (by rw [HD'.out, HN2.out, Bool.true_and]), HR2⟩
   ·have HN : Hid (p.procs.all headOk = true) := Lib.hid (by
     have h1 := HW.out
     rw [List.drop_of_length_le (by omega), List.all_nil] at h1
     exact h1.symm)
    rw [HN.out, Bool.true_and] at HM
    have HBp2 := Lib.hid (HBp1.out.below HR.out hbl)
    have q0 : wr.cell? ⟨b, 0, none⟩ = some (.slice Ag p.globals.length cg) := by rw [HBp2.out.cell]; rfl
    have q1 : wr.cell? ⟨b, 1, none⟩ = some (.slice Ap p.procs.length cp) := by rw [HBp2.out.cell]; rfl
    have HB2 := Lib.hid (below_step HB1.out HR.out)
    clear HN HW
    go_upto_region 16 with (go_at_call 68; refine (HAl.out _ HIr.out).mono ?_; rintro e V2 ⟨X, n, c, rfl, hal⟩)
    obtain ⟨e0, hnc, hc2, hsl⟩ := hal.slice
    subst e0
    have HSl := Lib.hid hsl
    have HI2 := Lib.hid hal.inn
    have HB3 := Lib.hid (below_step HB2.out hal.below)
    clear hal hsl q0 q1 HIr HBp2 HB2 HR HI1 HBp1 HAl hbl
    generalize allOf p = its at HM hnc HSl ⊢
    by_cases h200 : 200 < its.length
    ·rw [decide_eq_true h200] at HM
     go_wp2_with fail
     go_ret
     exact ⟨ret_bool (by rw [HM.out]; rfl), HB3.out⟩
    ·rw [decide_eq_false h200, Bool.not_false, Bool.true_and] at HM
     go_wp2_with fail
     go_loopw [80] (fun i wr => ∃ k : Nat, k ≤ its.length ∧ i = .int .i64 k ∧ Hid (itsOk (its.drop k) k = itsOk its 0) ∧ Hid (Below V2.heap.size V2 wr)) (fun i _ => its.length - (intOf i).toNat)
     case atStart => exact ⟨0, Nat.zero_le _, rfl, Lib.hid (by rw [List.drop_zero]), Lib.hid (Below.refl _ _)⟩
     case round =>
      obtain ⟨k, hk, rfl, HW, HR⟩ := hrel
      by_cases hlt : k < its.length
      ·obtain ⟨ai, cs, rfl, hqi, hit, hci⟩ := slice_at HSl.out (W := wr) ⟨fun b h => Nat.lt_of_lt_of_le h.2 HR.out.size, fun p hp => HR.out.cell hp.2⟩ hlt
       have HD := Lib.hid (itsOk_drop hlt)
       rw [HW.out] at HD
       obtain ⟨c', rfl, hst⟩ := hit
       obtain ⟨id', kind', labels', nm', proc', x', has', args', th', el', L', lc', x0', x1', x2', X', xn', xc', R', rc', T', tc', U', uc', hmk', rfl, hid', _⟩ := stmt_open hst
       have hci' : ∀ j u, ([.int .i64 id', .int .i64 kind', .slice L' labels'.length lc', .string nm', .string proc', .int .i64 x0', .int .i64 x1', .string x2', .slice X' xn' xc', .bool has', .slice R' args'.length rc', .slice T' th'.length tc', .slice U' el'.length uc', .int .i64 its[k].deep, .int .i64 its[k].inn, .bool its[k].els] : List Value)[j]? = some u → wr.cell? (ai.add (k * 16 + j)) = some u := hci
       have hrw := rowAt_elem hci'
       clear hci'
       obtain ⟨p0, p1, p2, p3, p4, p5, p6, p7, p8, p9, p10, p11, p12, p13, p14, p15, _⟩ := hrw
       have HC : Hid (∀ V, In Q w V → Calls Tryz.prog 115 #[.agg #[.int .i64 id', .int .i64 kind', .slice L' labels'.length lc', .string nm', .string proc', .int .i64 x0', .int .i64 x1', .string x2', .slice X' xn' xc', .bool has', .slice R' args'.length rc', .slice T' th'.length tc', .slice U' el'.length uc']] V (MayOk (stmtOk its[k].s) V)) := Lib.hid (fun V hV => one_any hst V hV)
       have HIt : Hid (itOk k its[k] = (decide (its[k].s.id = ((k + 1 : Nat) : Int)) && decide (its[k].deep ≤ 12) && stmtOk its[k].s)) := Lib.hid rfl
       rw [HIt.out] at HD
       have hidd : its[k].s.id = id' := by rw [hmk']; rfl
       rw [hidd] at HD
       generalize its[k].deep = dp at p13 HD
       generalize its[k].inn = inn at p14
       generalize its[k].els = els at p15
       generalize stmtOk its[k].s = b1 at HC HD
       have HIr := Lib.hid (HI2.out.on HR.out)
       clear hidd hst hmk' hci hqi HIt
       by_cases hi : id' = ((k + 1 : Nat) : Int)
       ·have hi1 : id' = (k : Int) + 1 := by omega
        have HD1 := Lib.hid (show itsOk its 0 = (decide (dp ≤ 12) && b1 && itsOk (its.drop (k + 1)) (k + 1)) by rw [HD.out, decide_eq_true hi, Bool.true_and])
        clear HD hi
        subst hi1
        by_cases hd : dp ≤ 12
        ·have HD2 := Lib.hid (show itsOk its 0 = (b1 && itsOk (its.drop (k + 1)) (k + 1)) by rw [HD1.out, decide_eq_true hd, Bool.true_and])
         clear HD1
         cases b1 with
         | true =>
          go_wp2_with (go_at_call 115; refine (HC.out _ HIr.out).mono ?_; rintro e w2 ⟨rfl, hb2⟩)
          go_roundw
          case rel => exact ⟨k + 1, by omega, by go_num, Lib.hid (by rw [HD2.out, Bool.true_and]), Lib.hid (below_step HR.out hb2)⟩
          case measure => simp [intOf]; omega
         | false =>
          go_wp2_with (go_at_call 115; refine (HC.out _ HIr.out).mono ?_; rintro e w2 ⟨rfl, hb2⟩)
          go_ret
          exact ⟨ret_bool (by rw [HM.out, HD2.out]; rfl), below_step HB3.out (below_step HR.out hb2)⟩
        ·have HD2 := Lib.hid (show itsOk its 0 = false by rw [HD1.out, decide_eq_false hd]; rfl)
         clear HD1
         have hd' : 12 < dp := by omega
         go_wp2_with fail
         go_ret
         exact ⟨ret_bool (by rw [HM.out, HD2.out]), below_step HB3.out HR.out⟩
       ·have HD1 := Lib.hid (show itsOk its 0 = false by rw [HD.out, decide_eq_false hi]; rfl)
        clear HD
        have hi1 : ¬ id' = (k : Int) + 1 := by omega
        have hi2 : (id' != (k : Int) + 1) = true := bne_iff_ne.2 hi1
        go_wp2_with fail
        go_ret
        exact ⟨ret_bool (by rw [HM.out, HD1.out]), below_step HB3.out HR.out⟩
      ·have HN : Hid (itsOk its 0 = true) := Lib.hid (by
        have h1 := HW.out
        rw [List.drop_of_length_le (by omega), itsOk] at h1
        exact h1.symm)
       go_wp2_with fail
       go_ret
       exact ⟨ret_bool (by rw [HM.out, HN.out]), below_step HB3.out HR.out⟩
end Go.Proofs.YtimejkbmfbjomaaGreat
namespace Go.Proofs.YtimejkbmfbjomaaGreat
open Go.ChangeShapes Go.WideShapes Go.ChangeAt Go.RowKit Go.Deep
set_option linter.unusedVariables false
set_option linter.unusedSimpArgs false
set_option maxHeartbeats 2000000 in
set_option maxRecDepth 100000 in
theorem rkind_any {w : World} {Q : Nat → Prop} {gl : List ByteArray} {vg vq : Value} {q : Pr} {c0 c1 c2 c3 c4 : Value} {n : Nat} {B : Option Addr} {m : Nat} (hvq : vq = .slice B n m) (hg : TextsI w Q gl vg) (h : ProcI w Q q [c0, c1, c2, c3, c4]) (s : ByteArray) (W : World) (hI : In Q w W) :
  Calls Tryz.prog 90 #[.agg #[vg, vq], .agg #[c0, c1, c2, c3, c4], .string s] W fun e w' => e = .returned (.int .i64 (knd gl q s)) ∧ Below W.heap.size W w' := by
 subst hvq
 obtain ⟨vp, vv, vb, ve, hc, hnm, hpp, hvv, hbb, hee⟩ := h
 simp only [List.cons.injEq, and_true] at hc
 obtain ⟨rfl, rfl, rfl, rfl, rfl⟩ := hc
 obtain ⟨Ap, cp, rfl, _, _⟩ := hpp.shape
 obtain ⟨Av, cv, rfl, _, _⟩ := hvv.shape
 obtain ⟨Ab, cb, rfl, _⟩ := hbb.shape
 obtain ⟨Ae, ce, rfl, _⟩ := hee.shape
 obtain ⟨Ag, cg, rfl, _⟩ := hg.shape
 have HG := Lib.hid (fun V hV => rIn_any (W := V) hg hV s)
 have HV := Lib.hid (fun V hV => rIn_any (W := V) hvv hV s)
 have HPp := Lib.hid hpp
 have HI := Lib.hid hI
 have HK : Hid (knd gl q s = (q.params.find? (isPa s)).elim (if q.vars.any (isT s) = true then 4 else if gl.any (isT s) = true then 1 else 0) (fun x => if x.ref = true then 3 else 2)) := Lib.hid rfl
 clear hg hpp hvv hbb hee hI
 go_enter Tryz.func90, Tryz.ntmps90
 go_upto_region 1 with fail
 have HBg : Hid (Blk ((W.alloc (.cells #[.slice Ag gl.length cg, .slice B n m] 25)).alloc (.cells #[.string q.nm, .slice Ap q.params.length cp, .slice Av q.vars.length cv, .slice Ab q.body.length cb, .slice Ae q.end_.length ce] 39)) W.heap.size 25 #[.slice Ag gl.length cg, .slice B n m]) := Lib.hid ((Blk.new _ _ _).alloc _)
 have HBp : Hid (Blk ((W.alloc (.cells #[.slice Ag gl.length cg, .slice B n m] 25)).alloc (.cells #[.string q.nm, .slice Ap q.params.length cp, .slice Av q.vars.length cv, .slice Ab q.body.length cb, .slice Ae q.end_.length ce] 39)) (W.heap.size + 1) 39 #[.string q.nm, .slice Ap q.params.length cp, .slice Av q.vars.length cv, .slice Ab q.body.length cb, .slice Ae q.end_.length ce]) := Lib.hid (by have := Blk.new (W.alloc (.cells #[.slice Ag gl.length cg, .slice B n m] 25)) 39 #[.string q.nm, .slice Ap q.params.length cp, .slice Av q.vars.length cv, .slice Ab q.body.length cb, .slice Ae q.end_.length ce]; rw [World.size_alloc] at this; exact this)
 have HB0 : Hid (Below W.heap.size W ((W.alloc (.cells #[.slice Ag gl.length cg, .slice B n m] 25)).alloc (.cells #[.string q.nm, .slice Ap q.params.length cp, .slice Av q.vars.length cv, .slice Ab q.body.length cb, .slice Ae q.end_.length ce] 39))) := Lib.hid (below_two _ _)
 generalize World.alloc _ _ = V at HBg HBp HB0 ⊢
 have q1 : V.cell? ⟨W.heap.size + 1, 1, none⟩ = some (.slice Ap q.params.length cp) := by rw [HBp.out.cell]; rfl
 have HI0 := Lib.hid (HI.out.on HB0.out)
 go_upto_region 2 with fail
 clear q1
 go_loopw [12] (fun iv wr => ∃ (k : Nat), k ≤ q.params.length ∧ iv = .int .i64 k ∧ Hid ((q.params.drop k).find? (isPa s) = q.params.find? (isPa s)) ∧ Hid (Below V.heap.size V wr)) (fun iv _ => q.params.length - (intOf iv).toNat)
 case atStart => exact ⟨0, Nat.zero_le _, rfl, Lib.hid (by rw [List.drop_zero]), Lib.hid (Below.refl _ _)⟩
 case round =>
  obtain ⟨k, hk, rfl, HW, HR⟩ := hrel
  have HIr := Lib.hid (HI0.out.on HR.out)
  have HBW := Lib.hid (below_step HB0.out HR.out)
  by_cases hlt : k < q.params.length
  ·obtain ⟨a, rfl, _, ⟨p0, p1, _⟩, _⟩ := par_at HPp.out HIr.out hlt
   have HD := HW.out
   rw [List.drop_eq_getElem_cons hlt, List.find?_cons] at HD
   have hv := isPa_eq s q.params[k]
   generalize q.params[k] = x at p0 p1 HD hv
   obtain ⟨xn, xr⟩ := x
   simp only at p0 p1 hv
   cases hb : isPa s ⟨xn, xr⟩ with
   | true =>
    rw [hb] at HD
    simp only at HD
    rw [← HD, Option.elim_some] at HK
    have hv2 : (xn.toList == s.toList) = true := by rw [← hv]; exact hb
    clear hv hb HD HW
    cases xr with
    | true =>
     go_wp2_with fail
     go_ret
     exact ⟨by rw [HK.out]; rfl, below_stepA HBW.out _⟩
    | false =>
     go_wp2_with fail
     go_ret
     exact ⟨by rw [HK.out]; rfl, below_stepA HBW.out _⟩
   | false =>
    rw [hb] at HD
    simp only at HD
    have HD := Lib.hid HD
    have hv2 : (xn.toList == s.toList) = false := by rw [← hv]; exact hb
    clear hv hb HW
    go_wp2_with fail
    go_roundw
    case rel => exact ⟨k + 1, by omega, by go_num, HD, Lib.hid (below_stepA HR.out _)⟩
    case measure => simp [intOf]; omega
  ·have HBp1 := Lib.hid (HBp.out.below HR.out HBp.out.lt)
   have HBg1 := Lib.hid (HBg.out.below HR.out HBg.out.lt)
   have hn := HW.out
   rw [List.drop_of_length_le (by omega), List.find?_nil] at hn
   rw [← hn, Option.elim_none] at HK
   have q2 : wr.cell? ⟨W.heap.size + 1, 2, none⟩ = some (.slice Av q.vars.length cv) := by rw [HBp1.out.cell]; rfl
   have g0 : wr.cell? ⟨W.heap.size, 0, none⟩ = some (.slice Ag gl.length cg) := by rw [HBg1.out.cell]; rfl
   clear hn HW
   generalize q.vars.any (isT s) = b1 at HV HK
   generalize gl.any (isT s) = b2 at HG HK
   cases b1 with
   | true =>
    go_wp2_with (go_at_call 22; (with_reducible refine (HV.out wr HIr.out).mono ?_); rintro e w' ⟨rfl, rfl⟩)
    go_ret
    exact ⟨by rw [HK.out]; rfl, HBW.out⟩
   | false =>
    cases b2 with
    | true =>
     go_wp2_with (first
      | (go_at_call 22; (with_reducible refine (HV.out wr HIr.out).mono ?_); rintro e w' ⟨rfl, rfl⟩)
      | (go_at_call 22; (with_reducible refine (HG.out wr HIr.out).mono ?_); rintro e w' ⟨rfl, rfl⟩))
     go_ret
     exact ⟨by rw [HK.out]; rfl, HBW.out⟩
    | false =>
     go_wp2_with (first
      | (go_at_call 22; (with_reducible refine (HV.out wr HIr.out).mono ?_); rintro e w' ⟨rfl, rfl⟩)
      | (go_at_call 22; (with_reducible refine (HG.out wr HIr.out).mono ?_); rintro e w' ⟨rfl, rfl⟩))
     go_ret
     exact ⟨by rw [HK.out]; rfl, HBW.out⟩
end Go.Proofs.YtimejkbmfbjomaaGreat
namespace Go.Proofs.YtimejkbmfbjomaaGreat
open Go.ChangeShapes Go.WideShapes Go.ChangeAt Go.RowKit Go.Deep
set_option linter.unusedVariables false
set_option linter.unusedSimpArgs false
set_option maxHeartbeats 1000000 in
theorem rtwice_any {w W : World} {Q : Nat → Prop} {l : List ByteArray} {v : Value} (h : TextsI w Q l v) (hI : In Q w W) :
 Calls Tryz.prog 88 #[v] W (MayOk (dup l) W) := by
 obtain ⟨A, cap, rfl, hl1, hl2⟩ := h.shape
 have H := Lib.hid h
 have HI := Lib.hid hI
 clear h hI
 go_enter Tryz.func88, Tryz.ntmps88
 go_wp2_with fail
 go_loopg [7] l.length (fun kk i wr => ∃ k : Nat, k + kk = l.length ∧ i = .int .i64 k ∧ Hid (dupL (l.take k) (l.drop k) = dup l) ∧ Hid (Below W.heap.size W wr))
 case atStart => exact ⟨0, by omega, rfl, Lib.hid (by rw [List.drop_zero, List.take_zero]; rfl), Lib.hid (Below.refl _ _)⟩
 case round =>
  obtain ⟨k, hk, rfl, HW, HR⟩ := hrel
  by_cases hlt : k < l.length
  ·have HD := Lib.hid (dupL_step hlt)
   rw [HW.out] at HD
   have hkl : (l.take k).length = k := by rw [List.length_take]; omega
   generalize wr = wo at *
   go_wp2_with fail
   go_loopg [4] k (fun jj i wr => ∃ j : Nat, j + jj = k ∧ i = .int .i64 j ∧ Hid (((l.take k).drop j).any (isT l[k]) = (l.take k).any (isT l[k])) ∧ Hid (Below W.heap.size W wr))
   case atStart => exact ⟨0, by omega, rfl, Lib.hid (by rw [List.drop_zero]), HR⟩
   case round =>
    obtain ⟨j, hj, rfl, HA, HR2⟩ := hrel
    by_cases hjl : j < k
    ·obtain ⟨a, rfl, _, p1, hs⟩ := text_at H.out (HI.out.on HR2.out) hlt
     obtain ⟨a', ha', _, p2, hs2⟩ := text_at H.out (HI.out.on HR2.out) (show j < l.length by omega)
     injection ha' with ha'
     subst ha'
     have HB : Hid ((isT l[k] l[j] || ((l.take k).drop (j + 1)).any (isT l[k])) = (l.take k).any (isT l[k])) := Lib.hid (by
      rw [← HA.out, List.drop_eq_getElem_cons (show j < (l.take k).length by omega), List.any_cons, List.getElem_take])
     have hv : isT l[k] l[j] = (l[k].toList == l[j].toList) := (dec_bytes _ _).symm
     have hjl2 : j < l.length := by omega
     obtain ⟨x, hx⟩ : ∃ x, x = l[k] := ⟨_, rfl⟩
     rw [← hx] at p1 hs HB hv HD
     have HX := Lib.hid hx
     clear hx
     generalize l[j] = y at p2 hs2 HB hv
     clear HA
     cases hb : isT x y with
     | true =>
      rw [hb, Bool.true_or] at HB
      have HT : Hid (dup l = true) := Lib.hid (by rw [HD.out, ← HB.out]; rfl)
      have hv2 : (x.toList == y.toList) = true := by rw [← hv]; exact hb
      clear hv hb HD HB
      go_wp2_with fail
      go_quiet (fail)
      go_wp2_with fail
      go_ret
      exact ⟨ret_bool HT.out.symm, below_drewN HR2.out _⟩
     | false =>
      rw [hb, Bool.false_or] at HB
      have hv2 : (x.toList == y.toList) = false := by rw [← hv]; exact hb
      clear hv hb
      go_wp2_with fail
      go_quiet (fail)
      go_wp2_with fail
      go_roundg (k - j - 1)
      case measure => omega
      case rel => exact ⟨j + 1, by omega, by go_num, by rw [HX.out] at HB; exact HB, Lib.hid (below_drewN HR2.out _)⟩
    ·have HT : Hid (dupL (l.take (k + 1)) (l.drop (k + 1)) = dup l) := Lib.hid (by
      have h1 := HA.out
      rw [List.drop_of_length_le (by omega)] at h1
      rw [HD.out, ← h1]; rfl)
     clear HD HA
     go_wp2_with fail
     go_roundg (l.length - k - 1)
     case measure => omega
     case rel => exact ⟨k + 1, by omega, by go_num, HT, HR2⟩
  ·have HD : Hid (dup l = false) := Lib.hid (by rw [← HW.out, List.drop_of_length_le (by omega), dupL])
   go_wp2_with fail
   go_ret
   exact ⟨ret_bool HD.out.symm, HR.out⟩
def PcIn (w : World) (Q : Nat → Prop) (r : Pr × Bool) (W : World) (e : Ending) (w' : World) : Prop := ∃ d0 d1 d2 d3 d4, e = .returned (.tuple #[.agg #[d0, d1, d2, d3, d4], .bool r.2]) ∧ Below W.heap.size W w' ∧ ProcI w Q r.1 [d0, d1, d2, d3, d4]
def namP (p : Pg) (nm : ByteArray) : Pr × Bool := (p.procs.find? (isQ nm)).elim (P0, false) (fun q => (q, true))
set_option maxHeartbeats 2000000 in
set_option maxRecDepth 100000 in
theorem rnamed_any {w : World} {Q : Nat → Prop} {p : Pg} {c0 c1 : Value} (h : ProgI w Q p [c0, c1]) (nm : ByteArray) (W : World) (hI : In Q w W) :
  Calls Tryz.prog 87 #[.agg #[c0, c1], .string nm] W (PcIn w Q (namP p nm) W) := by
 obtain ⟨Ag, cg, Ap, cp, rfl, rfl, _, _, _, _, hgl, hpr⟩ := prog_open h
 have HP := Lib.hid hpr
 have HI := Lib.hid hI
 have HK : Hid (namP p nm = (p.procs.find? (isQ nm)).elim (P0, false) (fun q => (q, true))) := Lib.hid rfl
 clear h hI hpr hgl
 go_enter Tryz.func87, Tryz.ntmps87
 go_upto_region 1 with fail
 have HB0 : Hid (Below W.heap.size W ((W.alloc (.cells #[.slice Ag p.globals.length cg, .slice Ap p.procs.length cp] 25)).alloc (.cells zP 39))) := Lib.hid (below_two _ _)
 have HBp : Hid (Blk ((W.alloc (.cells #[.slice Ag p.globals.length cg, .slice Ap p.procs.length cp] 25)).alloc (.cells zP 39)) W.heap.size 25 #[.slice Ag p.globals.length cg, .slice Ap p.procs.length cp]) := Lib.hid ((Blk.new _ _ _).alloc _)
 have HBz : Hid (Blk ((W.alloc (.cells #[.slice Ag p.globals.length cg, .slice Ap p.procs.length cp] 25)).alloc (.cells zP 39)) (W.heap.size + 1) 39 zP) := Lib.hid (by have := Blk.new (W.alloc (.cells #[.slice Ag p.globals.length cg, .slice Ap p.procs.length cp] 25)) 39 zP; rw [World.size_alloc] at this; exact this)
 generalize World.alloc _ _ = V at HB0 HBp HBz ⊢
 have HI0 := Lib.hid (HI.out.on HB0.out)
 have q1 : V.cell? ⟨W.heap.size, 1, none⟩ = some (.slice Ap p.procs.length cp) := by rw [HBp.out.cell]; rfl
 have hbl := HBp.out.lt
 go_upto_region 2 with fail
 clear q1
 go_loopw [11] (fun iv wr => ∃ (k : Nat), k ≤ p.procs.length ∧ iv = .int .i64 k ∧ Hid ((p.procs.drop k).find? (isQ nm) = p.procs.find? (isQ nm)) ∧ Hid (Below V.heap.size V wr)) (fun iv _ => p.procs.length - (intOf iv).toNat)
 case atStart => exact ⟨0, Nat.zero_le _, rfl, Lib.hid (by rw [List.drop_zero]), Lib.hid (Below.refl _ _)⟩
 case round =>
  obtain ⟨k, hk, rfl, HW, HR⟩ := hrel
  have HIr := Lib.hid (HI0.out.on HR.out)
  have HBW := Lib.hid (below_step HB0.out HR.out)
  have HBzr := Lib.hid (HBz.out.below HR.out HBz.out.lt)
  by_cases hlt : k < p.procs.length
  ·obtain ⟨a, Bp, kp, Bv, kv, Bb, kb, Be, ke, rfl, hqa, hrow, hnm, hpp, hvv, hbody, hee⟩ := proc_at HP.out HIr.out hlt
   have HPI : Hid (ProcI w Q p.procs[k] [.string p.procs[k].nm, .slice Bp p.procs[k].params.length kp, .slice Bv p.procs[k].vars.length kv, .slice Bb p.procs[k].body.length kb, .slice Be p.procs[k].end_.length ke]) := Lib.hid ⟨_, _, _, _, rfl, hnm, hpp, hvv, hbody, hee⟩
   have HD := HW.out
   rw [List.drop_eq_getElem_cons hlt, List.find?_cons] at HD
   have hv := isQ_eq nm p.procs[k]
   have hb' : ∃ b, isQ nm p.procs[k] = b := ⟨_, rfl⟩
   obtain ⟨b, hb⟩ := hb'
   rw [hb] at HD hv
   clear hb hnm hpp hvv hbody hee
   generalize hqq : p.procs[k] = qq at hrow HPI HD hv
   clear hqq
   generalize qq.nm = qn at hrow HPI hv
   generalize qq.params.length = x1 at hrow HPI
   generalize qq.vars.length = x2 at hrow HPI
   generalize qq.body.length = x3 at hrow HPI
   generalize qq.end_.length = x4 at hrow HPI
   obtain ⟨p0, p1, p2, p3, p4, _⟩ := hrow
   clear HW
   go_upto_region 4 with fail
   have HBq : Hid (Blk (wr.alloc (.cells #[.string qn, .slice Bp x1 kp, .slice Bv x2 kv, .slice Bb x3 kb, .slice Be x4 ke] 39)) wr.heap.size 39 #[.string qn, .slice Bp x1 kp, .slice Bv x2 kv, .slice Bb x3 kb, .slice Be x4 ke]) := Lib.hid (Blk.new _ _ _)
   have HBo : Hid (Below wr.heap.size wr (wr.alloc (.cells #[.string qn, .slice Bp x1 kp, .slice Bv x2 kv, .slice Bb x3 kb, .slice Be x4 ke] 39))) := Lib.hid (below_box _)
   clear p0 p1 p2 p3 p4
   generalize hW6 : World.alloc wr _ = W6 at HBq HBo ⊢
   clear hW6
   have HBzq := Lib.hid (HBzr.out.below HBo.out HBzr.out.lt)
   have HB6 := Lib.hid (below_step HBW.out HBo.out)
   have HR6 := Lib.hid (below_step HR.out HBo.out)
   have hne : wr.heap.size ≠ W.heap.size + 1 := by have := HBzr.out.lt; omega
   generalize wr.heap.size = bq at HBq hne ⊢
   have z0 : W6.cell? ⟨bq, 0, none⟩ = some (.string qn) := by rw [HBq.out.cell]; rfl
   have z1 : W6.cell? ⟨bq, 1, none⟩ = some (.slice Bp x1 kp) := by rw [HBq.out.cell]; rfl
   have z2 : W6.cell? ⟨bq, 2, none⟩ = some (.slice Bv x2 kv) := by rw [HBq.out.cell]; rfl
   have z3 : W6.cell? ⟨bq, 3, none⟩ = some (.slice Bb x3 kb) := by rw [HBq.out.cell]; rfl
   have z4 : W6.cell? ⟨bq, 4, none⟩ = some (.slice Be x4 ke) := by rw [HBq.out.cell]; rfl
   cases b with
   | true =>
    simp only at HD
    rw [← HD, Option.elim_some] at HK
    have y0 : W6.cell? ⟨W.heap.size + 1, 0, none⟩ = some (.string ⟨#[]⟩) := by rw [HBzq.out.cell]; rfl
    have y1 : W6.cell? ⟨W.heap.size + 1, 1, none⟩ = some (.slice none 0 0) := by rw [HBzq.out.cell]; rfl
    have y2 : W6.cell? ⟨W.heap.size + 1, 2, none⟩ = some (.slice none 0 0) := by rw [HBzq.out.cell]; rfl
    have y3 : W6.cell? ⟨W.heap.size + 1, 3, none⟩ = some (.slice none 0 0) := by rw [HBzq.out.cell]; rfl
    have y4 : W6.cell? ⟨W.heap.size + 1, 4, none⟩ = some (.slice none 0 0) := by rw [HBzq.out.cell]; rfl
    have f0 := HBzq.out.frozen 0
    have f1 := HBzq.out.frozen 1
    have f2 := HBzq.out.frozen 2
    have f3 := HBzq.out.frozen 3
    have f4 := HBzq.out.frozen 4
    have hzl := HBzq.out.lt
    have hv2 := hv.symm
    clear hv HD
    go_wp2_with fail
    (try simp only [Exit.inBlock, Exit.then])
    refine bodyPost_ret (results_ct rfl _ _ (W.heap.size + 1) 39 _ (0, 0) _ rfl (pc5_blk HBzq.out) Tryz.underlying39 rfl (by kernel_rfl)) rfl ?_
    rw [HK.out]
    exact ⟨_, _, _, _, _, rfl, pc5_below HB6.out (by omega), HPI.out⟩
   | false =>
    simp only at HD
    have HD := Lib.hid HD
    have hv2 := hv.symm
    clear hv
    go_wp2_with fail
    go_roundw
    case rel => exact ⟨k + 1, by omega, by go_num, HD, HR6⟩
    case measure => simp [intOf]; omega
  ·have hn := HW.out
   rw [List.drop_of_length_le (by omega), List.find?_nil] at hn
   rw [← hn, Option.elim_none] at HK
   clear hn HW
   have y0 : wr.cell? ⟨W.heap.size + 1, 0, none⟩ = some (.string ⟨#[]⟩) := by rw [HBzr.out.cell]; rfl
   have y1 : wr.cell? ⟨W.heap.size + 1, 1, none⟩ = some (.slice none 0 0) := by rw [HBzr.out.cell]; rfl
   have y2 : wr.cell? ⟨W.heap.size + 1, 2, none⟩ = some (.slice none 0 0) := by rw [HBzr.out.cell]; rfl
   have y3 : wr.cell? ⟨W.heap.size + 1, 3, none⟩ = some (.slice none 0 0) := by rw [HBzr.out.cell]; rfl
   have y4 : wr.cell? ⟨W.heap.size + 1, 4, none⟩ = some (.slice none 0 0) := by rw [HBzr.out.cell]; rfl
   have f0 := HBzr.out.frozen 0
   have f1 := HBzr.out.frozen 1
   have f2 := HBzr.out.frozen 2
   have f3 := HBzr.out.frozen 3
   have f4 := HBzr.out.frozen 4
   have hzl := HBzr.out.lt
   go_wp2_with fail
   (try simp only [Exit.inBlock, Exit.then])
   refine bodyPost_ret (results_ct rfl _ _ (W.heap.size + 1) 39 _ (0, 0) _ rfl (pc5_blk HBzr.out) Tryz.underlying39 rfl (by kernel_rfl)) rfl ?_
   rw [HK.out]
   exact ⟨_, _, _, _, _, rfl, pc5_below HBW.out (by omega), zero_proc _ _⟩
end Go.Proofs.YtimejkbmfbjomaaGreat
