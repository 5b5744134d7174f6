/- Texts, merged by a program; only what is used. -/
import Derived.Test.YtimejkbmfbjomaaGreatKX1
import Derived.Test.YtimejkbmfbjomaaGreatKX2
import Derived.Test.YtimejkbmfbjomaaGreatKX3
import Derived.Test.YtimejkbmfbjomaaGreatKX4
import Derived.Test.YtimejkbmfbjomaaGreatKX5
import Derived.Test.YtimejkbmfbjomaaGreatKX6
import Derived.Test.YtimejkbmfbjomaaGreatKX7
import Derived.Test.YtimejkbmfbjomaaGreatKX8
import Derived.Test.YtimejkbmfbjomaaGreatKX9
import Derived.Test.YtimejkbmfbjomaaGreatKX10
import Derived.Test.YtimejkbmfbjomaaGreatKX11
import Derived.Test.YtimejkbmfbjomaaGreatKX12
import Derived.Test.YtimejkbmfbjomaaGreatKX13
import Derived.Test.YtimejkbmfbjomaaGreatKX14
import Derived.Test.YtimejkbmfbjomaaGreatKX15
import Derived.Test.YtimejkbmfbjomaaGreatKX16
import Derived.Test.YtimejkbmfbjomaaGreatKX17
import Derived.Test.YtimejkbmfbjomaaGreatKX20
import Derived.Test.YtimejkbmfbjomaaGreatKX22
import Derived.Test.YtimejkbmfbjomaaGreatKX23
import Derived.Test.YtimejkbmfbjomaaGreatKX24
import Derived.Test.YtimejkbmfbjomaaGreatKX28
import Derived.Test.YtimejkbmfbjomaaGreatKX29
import Derived.Test.YtimejkbmfbjomaaGreatKX30
namespace Go.Proofs.YtimejkbmfbjomaaGreat
open Go.ChangeShapes Go.WideShapes Go.ChangeAt Go.RowKit Go.Deep
set_option linter.unusedVariables false
set_option linter.unusedSimpArgs false
theorem rfault_any (e i : Int) (W : World) : Calls Tryz.prog 63 #[.int .i64 e, .int .i64 i] W (ChRes (e, i) W) := by
 go_enter Tryz.func63, Tryz.ntmps63
 go_wp2_with fail
 refine bodyPost_ret (v := .agg #[.int .i64 e, .int .i64 i]) (by simp [results, Tryz.results63, go_sem]) rfl ⟨rfl, below_box _⟩
set_option maxHeartbeats 16000000 in
set_option maxRecDepth 100000 in
theorem rScope_any {w : World} {Q : Nat → Prop} {p : Pg} {c0 c1 : Value} (h : ProgI w Q p [c0, c1]) (hsm : SmG p) (W : World) (hI : In Q w W) :
 Calls Tryz.prog 44 #[.agg #[c0, c1]] W (ChRes (chkP p) W) := by
 have HM := Lib.hid (fun V hV => rMay_any h V hV)
 have HNm := Lib.hid (fun V hV => rnamed_any h ⟨#[109, 97, 105, 110]⟩ V hV)
 obtain ⟨Ag, cg, Ap, cp, rfl, rfl, hg1, hg2, hp1, hp2, hgl, hpr⟩ := prog_open h
 have HG := Lib.hid hgl
 have HP := Lib.hid hpr
 have HI := Lib.hid hI
 have HSm := Lib.hid hsm
 have HK : Hid (chkP p = if mayP p = true then (if hdBad p = true then (5, 0) else chkL p.globals (p.procs.map Pr.nm) p.procs) else (1, 0)) := Lib.hid rfl
 clear h hI hgl hpr hsm
 go_enter Tryz.func44, Tryz.ntmps44
 go_upto_region 1 with fail
 have HB0 : Hid (Below W.heap.size W ((W.alloc (.cells #[.slice Ag p.globals.length cg, .slice Ap p.procs.length cp] 25)).alloc (.cells #[.int .i64 0, .int .i64 0] 34))) := Lib.hid (below_two _ _)
 have HBp : Hid (Blk ((W.alloc (.cells #[.slice Ag p.globals.length cg, .slice Ap p.procs.length cp] 25)).alloc (.cells #[.int .i64 0, .int .i64 0] 34)) W.heap.size 25 #[.slice Ag p.globals.length cg, .slice Ap p.procs.length cp]) := Lib.hid ((Blk.new _ _ _).alloc _)
 have HBf : Hid (Blk ((W.alloc (.cells #[.slice Ag p.globals.length cg, .slice Ap p.procs.length cp] 25)).alloc (.cells #[.int .i64 0, .int .i64 0] 34)) (W.heap.size + 1) 34 #[.int .i64 0, .int .i64 0]) := Lib.hid (by have := Blk.new (W.alloc (.cells #[.slice Ag p.globals.length cg, .slice Ap p.procs.length cp] 25)) 34 #[.int .i64 0, .int .i64 0]; rw [World.size_alloc] at this; exact this)
 generalize World.alloc _ _ = V at HB0 HBp HBf ⊢
 have HI0 := Lib.hid (HI.out.on HB0.out)
 have hwb : W.heap.size ≤ W.heap.size + 1 := by omega
 generalize hbe : W.heap.size = b at HBp HBf hwb ⊢
 generalize hfe : b + 1 = f at HBf hwb ⊢
 have hWf : W.heap.size ≤ f := by omega
 clear hbe hfe
 have q0 : V.cell? ⟨b, 0, none⟩ = some (.slice Ag p.globals.length cg) := by rw [HBp.out.cell]; rfl
 have q1 : V.cell? ⟨b, 1, none⟩ = some (.slice Ap p.procs.length cp) := by rw [HBp.out.cell]; rfl
 have hbl := HBp.out.lt
 have hfl := HBf.out.lt
 cases hm : mayP p with
 | false =>
  rw [hm] at HM HK
  have HK0 : Hid (chkP p = (1, 0)) := Lib.hid HK.out
  clear hm HK
  go_upto_if 16 with (go_at_call 86; refine (HM.out V HI0.out).mono ?_; rintro e w1 ⟨rfl, hb1⟩)
  have HB1 := Lib.hid (below_step HB0.out hb1)
  have HBf1 := Lib.hid (HBf.out.below hb1 hfl)
  clear q0 q1 hb1
  go_wp2_with (go_at_call 63; refine (rfault_any 1 0 w1).mono ?_; rintro e w2 ⟨rfl, hb2⟩; have HB2 := Lib.hid (below_step HB1.out hb2); have HBf2 := Lib.hid (HBf1.out.below hb2 HBf1.out.lt); have f0_ := HBf2.out.frozen 0; have f1_ := HBf2.out.frozen 1; have y0_ : w2.cell? ⟨f, 0, none⟩ = some (.int .i64 0) := (by rw [HBf2.out.cell]; rfl); have y1_ : w2.cell? ⟨f, 1, none⟩ = some (.int .i64 0) := (by rw [HBf2.out.cell]; rfl); clear hb2)
  (try simp only [Exit.inBlock, Exit.then])
  refine bodyPost_ret (results_c1 rfl _ _ f 34 #[.int .i64 1, .int .i64 0] (0, 0) _ rfl (fault_end HBf2.out) Tryz.underlying34 rfl (by kernel_rfl)) rfl ?_
  exact ⟨by rw [HK0.out], below_setc (below_setc HB2.out hWf _) hWf _⟩
 | true =>
  have HMy := Lib.hid hm
  rw [hm] at HM HK
  rw [if_pos rfl] at HK
  obtain ⟨hl1, hl2, hl3⟩ := may_lens hm
  have HL3 := Lib.hid hl3
  obtain ⟨i0, hi0, hz0, hz1, hz2⟩ := info_parts string_info
  clear hm hl3
  go_upto_region 3 with (go_at_call 86; refine (HM.out V HI0.out).mono ?_; rintro e w1 ⟨rfl, hb1⟩)
  have HB1 := Lib.hid (below_step HB0.out hb1)
  have HI1 := Lib.hid (HI0.out.on hb1)
  have HBp1 := Lib.hid (HBp.out.below hb1 hbl)
  have HBf1 := Lib.hid (HBf.out.below hb1 hfl)
  clear q0 q1 hb1 HB0 HBp HBf HI0 hbl hfl HM
  have q1 : w1.cell? ⟨b, 1, none⟩ = some (.slice Ap p.procs.length cp) := by rw [HBp1.out.cell]; rfl
  have hbl := HBp1.out.lt
  have hfl := HBf1.out.lt
  have HS : Hid (NmI w1 w1 ((p.procs.take 0).map Pr.nm) none 0 0) := Lib.hid ⟨World.ownsRow_nil _ _ _ _, Below.refl _ _⟩
  go_upto_region 5 with fail
  clear q1
  go_loopg [3, 21] p.procs.length (fun kk ov iv wr => ∃ (k : Nat) (X : Option Addr) (c : Nat), k + kk = p.procs.length ∧ iv = .int .i64 k ∧ ov = .slice X k c ∧ Hid (NmI w1 wr ((p.procs.take k).map Pr.nm) X k c))
  case atStart => exact ⟨0, none, 0, by omega, rfl, rfl, HS⟩
  case round =>
   clear HS
   obtain ⟨k, X, c, hk, rfl, rfl, HR⟩ := hrel
   have HIr := Lib.hid (HI1.out.on HR.out.below)
   by_cases hlt : k < p.procs.length
   ·obtain ⟨a, Bp, kp, Bv, kv, Bb, kb, Be, ke, rfl, hqa, ⟨p0, p1, p2, p3, p4, _⟩, hnm, hpp, hvv, hbody, hee⟩ := proc_at HP.out HIr.out hlt
    have HT : Hid (p.procs.take (k + 1) = p.procs.take k ++ [p.procs[k]]) := Lib.hid (List.take_succ_eq_append_getElem hlt)
    clear hqa hnm hpp hvv hbody hee
    generalize p.procs[k] = y at p0 p1 p2 p3 p4 HT
    obtain ⟨xn, yp, yv, yb, ye⟩ := y
    simp only at p0 p1 p2 p3 p4
    go_upto_region 7 with fail
    have HBx : Hid (Blk (wr.alloc (.cells #[.string xn, .slice Bp yp.length kp, .slice Bv yv.length kv, .slice Bb yb.length kb, .slice Be ye.length ke] 39)) wr.heap.size 39 #[.string xn, .slice Bp yp.length kp, .slice Bv yv.length kv, .slice Bb yb.length kb, .slice Be ye.length ke]) := Lib.hid (Blk.new _ _ _)
    have HO4 : Hid ((wr.alloc (.cells #[.string xn, .slice Bp yp.length kp, .slice Bv yv.length kv, .slice Bb yb.length kb, .slice Be ye.length ke] 39)).ownsRow w1.heap.size 9 1 (.slice X k c) k (strs ((p.procs.take k).map Pr.nm))) := Lib.hid (HR.out.row.alloc _)
    have HB4 : Hid (Below w1.heap.size w1 (wr.alloc (.cells #[.string xn, .slice Bp yp.length kp, .slice Bv yv.length kv, .slice Bb yb.length kb, .slice Be ye.length ke] 39))) := Lib.hid (below_stepA HR.out.below _)
    clear p0 p1 p2 p3 p4
    generalize World.alloc wr _ = V4 at HBx HO4 HB4 ⊢
    generalize wr.heap.size = bx at HBx ⊢
    have z0 : V4.cell? ⟨bx, 0, none⟩ = some (.string xn) := by rw [HBx.out.cell]; rfl
    have HW := Lib.hid (new_one V4 xn)
    have HO5 : Hid ((V4.alloc (.cells #[.string xn] 9)).ownsRow w1.heap.size 9 1 (.slice X k c) k (strs ((p.procs.take k).map Pr.nm))) := Lib.hid (HO4.out.alloc _)
    have HB5 : Hid (Below w1.heap.size w1 (V4.alloc (.cells #[.string xn] 9))) := Lib.hid (below_stepA HB4.out _)
    go_upto_region 8 with (at_builtin; refine wpList_append_own_at _ rfl (.tmp 25) (.tmp 28) 22 rfl w1.heap.size 9 i0 _ 1 16 Tryz.underlying22 hi0 hz0 hz1 hz2 rfl (by decide) _ k (strs ((p.procs.take k).map Pr.nm)) rfl HO5.out ⟨V4.heap.size, 0, none⟩ 1 1 [.string xn] rfl rfl HW.out (by simp [Value.oneCell']) (by unfold maxLen; omega) (by omega) HB5.out.size ?_; intro v6 w6 hown6 hg6 _ hat6; obtain ⟨X6, k6, rfl, _, _⟩ := own_shape hown6; have HO6 := Lib.hid hown6; have HG6 := Lib.hid hg6; clear hown6 hg6 hat6)
    have HS : Hid (NmI w1 w6 ((p.procs.take (k + 1)).map Pr.nm) X6 (k + 1) k6) := Lib.hid ⟨by rw [HT.out, List.map_append, strs_append]; exact HO6.out, HB5.out.grown HG6.out HB5.out.size (fun j hj => (HO5.out.lt j hj).1)⟩
    clear z0
    go_wp2_with fail
    go_roundg (p.procs.length - k - 1)
    case measure => omega
    case rel => exact ⟨k + 1, X6, k6, by omega, by go_num, rfl, HS⟩
   ·have hke : k = p.procs.length := by omega
    subst hke
    clear hlt
    have HBW : Hid (Below W.heap.size W wr) := Lib.hid (below_step HB1.out HR.out.below)
    have HBpr := Lib.hid (HBp1.out.below HR.out.below hbl)
    have HBfr := Lib.hid (HBf1.out.below HR.out.below hfl)
    have hps : (p.procs.map Pr.nm).length = p.procs.length := List.length_map ..
    have HRow : Hid (wr.ownsRow w1.heap.size 9 1 (.slice X p.procs.length c) p.procs.length (strs (p.procs.map Pr.nm))) := Lib.hid (by have h := HR.out.row; rw [List.take_length] at h; exact h)
    generalize hpe : p.procs.map Pr.nm = ps at *
    have HPE := Lib.hid hpe
    clear hpe
    have hpsS : ∀ s ∈ ps, small s := fun s hs => by
     rw [← HPE.out, List.mem_map] at hs
     obtain ⟨q, hq, rfl⟩ := hs
     obtain ⟨cs, _, _, _, _, _, h, _⟩ := slice_mem HP.out q hq
     exact h
    have HN' : Hid (TextsI wr (fun j => w1.heap.size ≤ j ∧ j < wr.heap.size) ps (.slice X p.procs.length c)) := Lib.hid (by
     have h := HRow.out
     have h2 := (texts_of_own hpsS h).2
     exact h2)
    have HRd : Hid (In (fun j => w1.heap.size ≤ j ∧ j < wr.heap.size) wr wr) := Lib.hid ⟨fun j h => h.2, fun _ _ => rfl⟩
    generalize (fun j => w1.heap.size ≤ j ∧ j < wr.heap.size) = T0 at HN' HRd
    have HHb : Hid (hdBad p = (mainBad p || dup p.globals || dup ps)) := Lib.hid (by unfold hdBad; rw [HPE.out])
    have hbl := HBpr.out.lt
    have hfl := HBfr.out.lt
    have q0 : wr.cell? ⟨b, 0, none⟩ = some (.slice Ag p.globals.length cg) := by rw [HBpr.out.cell]; rfl
    have q1 : wr.cell? ⟨b, 1, none⟩ = some (.slice Ap p.procs.length cp) := by rw [HBpr.out.cell]; rfl
    clear HR HRow hpsS hg1 hg2
    have hmb : mainBad p = (!(namP p ⟨#[109, 97, 105, 110]⟩).2 || decide (0 < (namP p ⟨#[109, 97, 105, 110]⟩).1.params.length)) := by
     unfold mainBad namP
     show (p.procs.find? (isQ ⟨#[109, 97, 105, 110]⟩)).elim true _ = _
     cases p.procs.find? (isQ ⟨#[109, 97, 105, 110]⟩) <;> rfl
    have HMb := Lib.hid hmb
    clear hmb
    generalize namP p ⟨#[109, 97, 105, 110]⟩ = r at HNm HMb
    obtain ⟨mq, mb⟩ := r
    simp only at HMb
    go_upto_region 10 with (go_at_call 87; refine (HNm.out wr HIr.out).mono ?_; rintro e w9 ⟨d0, d1, d2, d3, d4, rfl, hb9, hp9⟩; obtain ⟨vp, vv, vb, ve, hc, hnm, hpp, hvv, hbb, hee⟩ := hp9; simp only [List.cons.injEq, and_true] at hc; obtain ⟨rfl, rfl, rfl, rfl, rfl⟩ := hc; obtain ⟨M1, k1, rfl, _, _⟩ := hpp.shape; obtain ⟨M2, k2, rfl, _, _⟩ := hvv.shape; obtain ⟨M3, k3, rfl, _⟩ := hbb.shape; obtain ⟨M4, k4, rfl, _⟩ := hee.shape; clear hnm hpp hvv hbb hee)
    generalize mq.nm = mn at *
    generalize mq.params.length = m1 at *
    generalize mq.vars.length = m2 at *
    generalize mq.body.length = m3 at *
    generalize mq.end_.length = m4 at *
    have HB9 : Hid (Below wr.heap.size wr (w9.alloc (.cells #[.string mn, .slice M1 m1 k1, .slice M2 m2 k2, .slice M3 m3 k3, .slice M4 m4 k4] 39))) := Lib.hid (below_stepA hb9 _)
    have HBm : Hid (Blk (w9.alloc (.cells #[.string mn, .slice M1 m1 k1, .slice M2 m2 k2, .slice M3 m3 k3, .slice M4 m4 k4] 39)) w9.heap.size 39 #[.string mn, .slice M1 m1 k1, .slice M2 m2 k2, .slice M3 m3 k3, .slice M4 m4 k4]) := Lib.hid (Blk.new _ _ _)
    clear hb9 q0 q1 HNm
    generalize World.alloc w9 _ = V9 at HB9 HBm ⊢
    generalize w9.heap.size = bm at HBm ⊢
    have HI9 := Lib.hid (HIr.out.on HB9.out)
    have HT9 := Lib.hid (HRd.out.on HB9.out)
    have HBp9 := Lib.hid (HBpr.out.below HB9.out hbl)
    have HBf9 := Lib.hid (HBfr.out.below HB9.out hfl)
    have HBW9 := Lib.hid (below_step HBW.out HB9.out)
    clear HIr HBpr HBfr HBW HB9 HI1 HB1 HBp1 HBf1 hbl hfl HI
    have hbl := HBp9.out.lt
    have hfl := HBf9.out.lt
    have hml := HBm.out.lt
    have q0 : V9.cell? ⟨b, 0, none⟩ = some (.slice Ag p.globals.length cg) := by rw [HBp9.out.cell]; rfl
    have HD1 := Lib.hid (fun V hV => rtwice_any (W := V) HG.out hV)
    have HD2 := Lib.hid (fun V hV => rtwice_any (W := V) HN'.out hV)
    generalize mainBad p = b0 at HMb HHb
    generalize hdBad p = hb at HHb HK
    generalize dup p.globals = b1 at HD1 HHb
    generalize dup ps = b2 at HD2 HHb
    go_cut [52] from 36 to 51 (fun s wx => s = .bool hb ∧ Hid (Below V9.heap.size V9 wx))
    case first =>
     cases b1 with
     | true =>
      have HH : Hid (hb = true) := Lib.hid (by rw [HHb.out]; simp)
      clear HHb HMb
      go_wp2_with (go_at_call 88; (with_reducible refine (HD1.out V9 HI9.out).mono ?_); rintro e' w10 ⟨rfl, hb10⟩)
      go_meet
      exact ⟨by rw [HH.out], Lib.hid hb10⟩
     | false =>
      have HHc : Hid (hb = (b0 || b2)) := Lib.hid (by rw [HHb.out]; simp)
      clear HHb
      cases b2 with
      | true =>
       have HH : Hid (hb = true) := Lib.hid (by rw [HHc.out]; simp)
       clear HHc HMb
       go_wp2_with (first
        | (go_at_call 88; (with_reducible refine (HD1.out V9 HI9.out).mono ?_); rintro e' w10 ⟨rfl, hb10⟩; have HT10 := Lib.hid (HT9.out.on hb10))
        | (go_at_call 88; (with_reducible refine (HD2.out w10 HT10.out).mono ?_); rintro e' w11 ⟨rfl, hb11⟩))
       go_meet
       exact ⟨by rw [HH.out], Lib.hid (below_step hb10 hb11)⟩
      | false =>
       have HH : Hid (hb = (!mb || decide (0 < m1))) := Lib.hid (by rw [HHc.out, Bool.or_false]; exact HMb.out)
       clear HHc HMb
       cases mb with
       | false =>
        have HH2 : Hid (hb = true) := Lib.hid (by rw [HH.out]; rfl)
        clear HH
        go_wp2_with (first
         | (go_at_call 88; (with_reducible refine (HD1.out V9 HI9.out).mono ?_); rintro e' w10 ⟨rfl, hb10⟩; have HT10 := Lib.hid (HT9.out.on hb10))
         | (go_at_call 88; (with_reducible refine (HD2.out w10 HT10.out).mono ?_); rintro e' w11 ⟨rfl, hb11⟩))
        go_meet
        exact ⟨by rw [HH2.out], Lib.hid (below_step hb10 hb11)⟩
       | true =>
        have HH2 : Hid (hb = decide (0 < m1)) := Lib.hid (by rw [HH.out]; rfl)
        clear HH
        by_cases hx : 0 < m1
        ·have HH3 : Hid (hb = true) := Lib.hid (by rw [HH2.out, decide_eq_true hx])
         clear HH2
         go_wp2_with (first
          | (go_at_call 88; (with_reducible refine (HD1.out V9 HI9.out).mono ?_); rintro e' w10 ⟨rfl, hb10⟩; have HT10 := Lib.hid (HT9.out.on hb10))
          | (go_at_call 88; (with_reducible refine (HD2.out w10 HT10.out).mono ?_); rintro e' w11 ⟨rfl, hb11⟩; have z1 : w11.cell? ⟨bm, 1, none⟩ = some (.slice M1 m1 k1) := (by rw [((HBm.out.below hb10 hml).below hb11 (HBm.out.below hb10 hml).lt).cell]; rfl)))
         go_meet
         exact ⟨by rw [HH3.out], Lib.hid (below_step hb10 hb11)⟩
        ·have hx0 : m1 = 0 := by omega
         subst hx0
         have HH3 : Hid (hb = false) := Lib.hid (by rw [HH2.out]; rfl)
         clear HH2 hx
         go_wp2_with (first
          | (go_at_call 88; (with_reducible refine (HD1.out V9 HI9.out).mono ?_); rintro e' w10 ⟨rfl, hb10⟩; have HT10 := Lib.hid (HT9.out.on hb10))
          | (go_at_call 88; (with_reducible refine (HD2.out w10 HT10.out).mono ?_); rintro e' w11 ⟨rfl, hb11⟩; have z1 : w11.cell? ⟨bm, 1, none⟩ = some (.slice M1 0 k1) := (by rw [((HBm.out.below hb10 hml).below hb11 (HBm.out.below hb10 hml).lt).cell]; rfl)))
         go_meet
         exact ⟨by rw [HH3.out], Lib.hid (below_step hb10 hb11)⟩
    case rest =>
     obtain ⟨rfl, HC⟩ := hcut
     have HIc := Lib.hid (HI9.out.on HC.out)
     have HTc := Lib.hid (HT9.out.on HC.out)
     have HBpc := Lib.hid (HBp9.out.below HC.out hbl)
     have HBfc := Lib.hid (HBf9.out.below HC.out hfl)
     have HBWc := Lib.hid (below_step HBW9.out HC.out)
     clear HHb HD1 HD2 HMb HBm hml q0 HC HI9 HT9 HBp9 HBf9 HBW9 hbl hfl
     have hbl := HBpc.out.lt
     have hfl := HBfc.out.lt
     cases hb with
     | true =>
      go_wp2_with (go_at_call 63; refine (rfault_any 5 0 wc).mono ?_; rintro e wf ⟨rfl, hbf_⟩; have HB_ := Lib.hid (below_step HBWc.out hbf_); have HBf_ := Lib.hid (HBfc.out.below hbf_ HBfc.out.lt); have f0_ := HBf_.out.frozen 0; have f1_ := HBf_.out.frozen 1; have y0_ : wf.cell? ⟨f, 0, none⟩ = some (.int .i64 0) := (by rw [HBf_.out.cell]; rfl); have y1_ : wf.cell? ⟨f, 1, none⟩ = some (.int .i64 0) := (by rw [HBf_.out.cell]; rfl); clear hbf_)
      (try simp only [Exit.inBlock, Exit.then])
      refine bodyPost_ret (results_c1 rfl _ _ f 34 #[.int .i64 5, .int .i64 0] (0, 0) _ rfl (fault_end HBf_.out) Tryz.underlying34 rfl (by kernel_rfl)) rfl ?_
      exact ⟨by rw [HK.out]; rfl, below_setc (below_setc HB_.out hWf _) hWf _⟩
     | false =>
      have HK2 : Hid (chkP p = chkL p.globals ps p.procs) := Lib.hid HK.out
      clear HK
      have q1 : wc.cell? ⟨b, 1, none⟩ = some (.slice Ap p.procs.length cp) := by rw [HBpc.out.cell]; rfl
      go_upto_region 13 with fail
      clear q1
      generalize wc = vc at *
      go_loopg [57] p.procs.length (fun kk iv wr => ∃ (k : Nat), k + kk = p.procs.length ∧ iv = .int .i64 k ∧ Hid (Below vc.heap.size vc wr) ∧ Hid (chkL p.globals ps (p.procs.drop k) = chkL p.globals ps p.procs))
      case atStart => exact ⟨0, by omega, rfl, Lib.hid (Below.refl _ _), Lib.hid rfl⟩
      case round =>
       obtain ⟨k, hk, rfl, HBr, HA⟩ := hrel
       generalize wr = wo at *
       have HIr := Lib.hid (HIc.out.on HBr.out)
       by_cases hlt : k < p.procs.length
       ·obtain ⟨a, Bp, kp, Bv, kv, Bb, kb, Be, ke, rfl, hqa, hrow, hnm, hpp, hvv, hbody, hee⟩ := proc_at HP.out HIr.out hlt
        have HPI : Hid (ProcI w Q p.procs[k] [.string p.procs[k].nm, .slice Bp p.procs[k].params.length kp, .slice Bv p.procs[k].vars.length kv, .slice Bb p.procs[k].body.length kb, .slice Be p.procs[k].end_.length ke]) := Lib.hid ⟨_, _, _, _, rfl, hnm, hpp, hvv, hbody, hee⟩
        have hmem := List.getElem_mem hlt
        have hls := HL3.out _ hmem
        have HCp := Lib.hid (fun V hV => rparams_any HPI.out (by omega) V hV)
        have HFl := Lib.hid (fun V hV => Flat_any (W := V) HPI.out hV hV.1)
        have HKn := Lib.hid (fun s V hV => rkind_any rfl HG.out HPI.out s V hV (B := some a) (n := p.procs.length) (m := cp))
        have HNs := Lib.hid (namesP_sm HG.out HPI.out)
        have HSp : Hid (∀ s ∈ p.procs[k].params.map Pa.nm, small s) := Lib.hid (fun s hs => HNs.out s (by unfold namesP; simp only [List.mem_append]; exact .inl (.inr hs)))
        have HVv := Lib.hid hvv
        have hfm := (may_flat HMy.out).1 _ hmem
        have HFb : Hid (fstB (badR p.globals p.procs[k] ps) ((flatOf p.procs[k]).map It.s) = fstB (badS p.globals p.procs[k] ps) (preSL p.procs[k].body)) := Lib.hid (by rw [hfm.1]; exact fstB_congr (fun s hs => badR_eq (may_stm HMy.out _ hmem s hs)))
        have hid := may_ids HMy.out _ hmem
        have hwl := (HSm.out.proc _ hmem).1
        have HIt : Hid (∀ x ∈ flatOf p.procs[k], 1 ≤ x.s.id ∧ x.s.id ≤ 200 ∧ (saidS x.s).length ≤ 1000000) := Lib.hid (fun x hx => by
         have hxm : x.s ∈ preSL p.procs[k].body := by rw [← hfm.1]; exact List.mem_map_of_mem hx
         have h1 := hid _ hxm
         exact ⟨h1.1, h1.2, Nat.le_trans (saidS_w (may_stm HMy.out _ hmem _ hxm)) (Nat.le_trans (preSL_w _ _ hxm) hwl)⟩)
        have HAk := Lib.hid (chkL_drop (gl := p.globals) (ps := ps) hlt)
        rw [HA.out, ← HFb.out] at HAk
        have hfll := flatOf_len p.procs[k]
        have HNl : Hid (namesP p.globals p.procs[k] = p.globals ++ p.procs[k].params.map Pa.nm ++ p.procs[k].vars) := Lib.hid rfl
        have hpl : (p.procs[k].params.map Pa.nm).length = p.procs[k].params.length := List.length_map _
        have hpl2 : (p.procs[k].params.map Pa.nm).length ≤ 8 := by rw [hpl]; exact hls.1
        have hvl2 : p.procs[k].vars.length ≤ 16 := hls.2
        clear HPI hnm hpp hvv hbody hee hid hwl hls hmem hqa hfm HFb HA hpl
        generalize namesP p.globals p.procs[k] = nl at HNs HAk HNl
        generalize p.procs[k].params.map Pa.nm = pl at HNl HCp HSp hpl2
        have hfR : ∀ s, badR p.globals p.procs[k] ps s = (!(saidS s).all (fun v => knd p.globals p.procs[k] v != 0) || (s.kind == 4 && ((s.proc.toList == [109, 97, 105, 110]) || !ps.any (isT s.proc)))) := fun s => rfl
        have HfR := Lib.hid hfR
        clear hfR
        generalize badR p.globals p.procs[k] ps = fR at HAk HfR
        generalize knd p.globals p.procs[k] = kn at HKn HfR
        generalize hits : flatOf p.procs[k] = its at HFl HIt HAk hfll
        clear hits
        generalize hvl : p.procs[k].vars.length = x2 at hrow HCp HFl HVv HKn hvl2
        generalize p.procs[k].vars = vl at HVv HNl hvl
        generalize p.procs[k].nm = x0 at hrow HCp HFl HKn
        generalize p.procs[k].params.length = x1 at hrow HCp HFl HKn
        generalize p.procs[k].body.length = x3 at hrow HCp HFl HKn
        generalize p.procs[k].end_.length = x4 at hrow HCp HFl HKn
        obtain ⟨p0, p1, p2, p3, p4, _⟩ := hrow
        have HSt : Hid True := Lib.hid trivial
        have HFm : Hid True := Lib.hid trivial
        go_upto_region 15 with fail
        have HBx : Hid (Blk (wo.alloc (.cells #[.string x0, .slice Bp x1 kp, .slice Bv x2 kv, .slice Bb x3 kb, .slice Be x4 ke] 39)) wo.heap.size 39 #[.string x0, .slice Bp x1 kp, .slice Bv x2 kv, .slice Bb x3 kb, .slice Be x4 ke]) := Lib.hid (Blk.new _ _ _)
        have HB4 : Hid (Below vc.heap.size vc (wo.alloc (.cells #[.string x0, .slice Bp x1 kp, .slice Bv x2 kv, .slice Bb x3 kb, .slice Be x4 ke] 39))) := Lib.hid (below_stepA HBr.out _)
        have HI4 : Hid (In Q w (wo.alloc (.cells #[.string x0, .slice Bp x1 kp, .slice Bv x2 kv, .slice Bb x3 kb, .slice Be x4 ke] 39))) := Lib.hid (HIr.out.alloc _)
        clear p0 p1 p2 p3 p4 HIr HBr
        generalize World.alloc wo _ = V4 at HBx HB4 HI4 ⊢
        generalize wo.heap.size = bx at HBx ⊢
        have HBp4 := Lib.hid (HBpc.out.below HB4.out hbl)
        obtain ⟨d, hd⟩ : ∃ d, d = dup nl := ⟨_, rfl⟩
        have HDd := Lib.hid hd
        rw [← hd] at HAk
        clear hd
        have hbx := HBx.out.lt
        have hbb := HBp4.out.lt
        have q0 : V4.cell? ⟨b, 0, none⟩ = some (.slice Ag p.globals.length cg) := by rw [HBp4.out.cell]; rfl
        have z0 : V4.cell? ⟨bx, 0, none⟩ = some (.string x0) := by rw [HBx.out.cell]; rfl
        have z1 : V4.cell? ⟨bx, 1, none⟩ = some (.slice Bp x1 kp) := by rw [HBx.out.cell]; rfl
        have z2 : V4.cell? ⟨bx, 2, none⟩ = some (.slice Bv x2 kv) := by rw [HBx.out.cell]; rfl
        have z3 : V4.cell? ⟨bx, 3, none⟩ = some (.slice Bb x3 kb) := by rw [HBx.out.cell]; rfl
        have z4 : V4.cell? ⟨bx, 4, none⟩ = some (.slice Be x4 ke) := by rw [HBx.out.cell]; rfl
        have HS : Hid (∀ w' : World, Below V4.heap.size V4 w' → (w'.cell? ⟨b, 0, none⟩ = some (.slice Ag p.globals.length cg) ∧ w'.cell? ⟨bx, 0, none⟩ = some (.string x0) ∧ w'.cell? ⟨bx, 1, none⟩ = some (.slice Bp x1 kp) ∧ w'.cell? ⟨bx, 2, none⟩ = some (.slice Bv x2 kv) ∧ w'.cell? ⟨bx, 3, none⟩ = some (.slice Bb x3 kb) ∧ w'.cell? ⟨bx, 4, none⟩ = some (.slice Be x4 ke))) := Lib.hid (fun w' hb => ⟨(hb.cell (p := ⟨b, 0, none⟩) hbb).trans q0, (hb.cell (p := ⟨bx, 0, none⟩) hbx).trans z0, (hb.cell (p := ⟨bx, 1, none⟩) hbx).trans z1, (hb.cell (p := ⟨bx, 2, none⟩) hbx).trans z2, (hb.cell (p := ⟨bx, 3, none⟩) hbx).trans z3, (hb.cell (p := ⟨bx, 4, none⟩) hbx).trans z4⟩)
        have HBD : Hid (Below V4.heap.size V4 V4.drew) := Lib.hid (Below.refl _ _).drew
        clear q0 z0 z1 z2 z3 z4
        go_cut [71] from 61 to 70 (fun s wx => s = .bool d ∧ Hid (Below V4.heap.size V4 wx))
        case first =>
         clear HFl HFm HSt HAk
         refine wp_region_held (S := fun w' : World => w'.cell? ⟨b, 0, none⟩ = some (.slice Ag p.globals.length cg) ∧ w'.cell? ⟨bx, 0, none⟩ = some (.string x0) ∧ w'.cell? ⟨bx, 1, none⟩ = some (.slice Bp x1 kp) ∧ w'.cell? ⟨bx, 2, none⟩ = some (.slice Bv x2 kv) ∧ w'.cell? ⟨bx, 3, none⟩ = some (.slice Bb x3 kb) ∧ w'.cell? ⟨bx, 4, none⟩ = some (.slice Be x4 ke)) (by kernel_rfl) ?_
         have hS0 : (fun w' : World => w'.cell? ⟨b, 0, none⟩ = some (.slice Ag p.globals.length cg) ∧ w'.cell? ⟨bx, 0, none⟩ = some (.string x0) ∧ w'.cell? ⟨bx, 1, none⟩ = some (.slice Bp x1 kp) ∧ w'.cell? ⟨bx, 2, none⟩ = some (.slice Bv x2 kv) ∧ w'.cell? ⟨bx, 3, none⟩ = some (.slice Bb x3 kb) ∧ w'.cell? ⟨bx, 4, none⟩ = some (.slice Be x4 ke)) V4.drew := HS.out _ HBD.out
         change wpAnyH _ _ _ _ _ 11 _ _ V4.drew
         refine wpAnyH_take (i := 1) (v := ?_) rfl (by kernel_rfl) (by kernel_rfl) (by kernel_rfl) (fun _ _ _ h => h) (Or.inl ⟨by rfl, ?_⟩) (by assumption) ?_
         rotate_left
         ·intro w hSw
          (try dsimp only at hSw)
          go_split_ands
          go_simp
          (try (with_reducible rfl))
         (try simp only [Act.put, List.setIfInBounds_toArray, List.set_cons_zero, List.set_cons_succ])
         refine wpAnyH_take (i := 2) (v := ?_) rfl (by kernel_rfl) (by kernel_rfl) (by kernel_rfl) (fun _ _ _ h => h) (Or.inl ⟨by rfl, ?_⟩) (by assumption) ?_
         rotate_left
         ·intro w hSw
          (try dsimp only at hSw)
          go_split_ands
          go_simp
          (try (with_reducible rfl))
         (try simp only [Act.put, List.setIfInBounds_toArray, List.set_cons_zero, List.set_cons_succ])
         refine wpAnyH_take (i := 4) (v := ?_) rfl (by kernel_rfl) (by kernel_rfl) (by kernel_rfl) (fun _ _ _ h => h) (Or.inl ⟨by rfl, ?_⟩) (by assumption) ?_
         rotate_left
         ·intro w hSw
          (try dsimp only at hSw)
          go_split_ands
          go_simp
          (try (with_reducible rfl))
         (try simp only [Act.put, List.setIfInBounds_toArray, List.set_cons_zero, List.set_cons_succ])
         refine wpAnyH_take (i := 7) (v := ?_) rfl (by kernel_rfl) (by kernel_rfl) (by kernel_rfl) (fun _ _ _ h => h) (Or.inl ⟨by rfl, ?_⟩) (by assumption) ?_
         rotate_left
         ·intro w hSw
          (try dsimp only at hSw)
          go_split_ands
          go_simp
          (try (with_reducible rfl))
         (try simp only [Act.put, List.setIfInBounds_toArray, List.set_cons_zero, List.set_cons_succ])
         refine wpAnyH_take (i := 8) (v := ?_) rfl (by kernel_rfl) (by kernel_rfl) (by kernel_rfl) (fun _ _ _ h => h) (Or.inl ⟨by rfl, ?_⟩) (by assumption) ?_
         rotate_left
         ·intro w hSw
          (try dsimp only at hSw)
          go_split_ands
          go_simp
          (try (with_reducible rfl))
         (try simp only [Act.put, List.setIfInBounds_toArray, List.set_cons_zero, List.set_cons_succ])
         clear hS0
         refine wpAnyH_step (i := 0) (by kernel_rfl) rfl (fun K hK => ?_)
         go_simp
         have HO3 : Hid ((V4.alloc (.cells #[] 9)).drew.ownsRow V4.heap.size 9 1 (.slice (some ⟨V4.heap.size, 0, none⟩) 0 0) 0 []) := Lib.hid (World.ownsRow_made V4 #[] 0 (Nat.le_refl _) (by unfold maxLen; omega) rfl)
         have HB3 : Hid (Below V4.heap.size V4 (V4.alloc (.cells #[] 9)).drew) := Lib.hid (below_box _).drew
         refine hK.out _ _ (HS.out _ HB3.out) ?_
         clear hK K
         (try simp only [Act.put, List.setIfInBounds_toArray, List.set_cons_zero, List.set_cons_succ])
         generalize World.drew (World.alloc _ _) = w3 at HO3 HB3 ⊢
         refine wpAnyH_step (i := 3) (by kernel_rfl) rfl (fun K hK => ?_)
         refine step_append_texts (by rfl) (.tmp 61) (.tmp 63) 22 (by rfl) V4.heap.size 9 i0 _ Tryz.underlying22 hi0 hz0 hz1 hz2 rfl _ 0 [] (by rfl) HO3.out w Q Ag p.globals p.globals.length cg (by rfl) rfl HG.out (HI4.out.on HB3.out) (by omega) HB3.out.size ?_
         intro v4 w4 hown4 hg4
         obtain ⟨X4, k4, rfl, _, _⟩ := own_shape hown4
         have HO4 := Lib.hid hown4
         have HG4 := Lib.hid hg4
         clear hown4 hg4
         rw [Nat.zero_add, List.nil_append] at HO4
         have HB4 := Lib.hid (HB3.out.grown HG4.out HB3.out.size (fun j hj => (HO3.out.lt j hj).1))
         refine hK.out _ _ (HS.out _ HB4.out) ?_
         clear hK K
         (try simp only [Act.put, List.setIfInBounds_toArray, List.set_cons_zero, List.set_cons_succ])
         refine wpAnyH_step (i := 5) (by kernel_rfl) rfl (fun K hK => ?_)
         go_simp
         refine (HCp.out w4 (HI4.out.on HB4.out)).mono ?_
         rintro e' w5 ⟨v5, rfl, ho5, hb5⟩
         obtain ⟨X5, k5, rfl, _, _⟩ := own_shape ho5
         have HO5 := Lib.hid ((Below.moves hb5).row HO4.out (fun j hj e => Nat.not_lt.2 e (HO4.out.lt j hj).2))
         have HB5 := Lib.hid (below_step HB4.out hb5)
         have HT5 := Lib.hid (texts_of_own HSp.out ho5).2
         clear ho5 hb5
         refine hK.out _ _ (HS.out _ HB5.out) ?_
         clear hK K
         (try simp only [Act.put, List.setIfInBounds_toArray, List.set_cons_zero, List.set_cons_succ])
         refine wpAnyH_step (i := 6) (by kernel_rfl) rfl (fun K hK => ?_)
         refine step_append_texts (by rfl) (.tmp 64) (.tmp 66) 22 (by rfl) V4.heap.size 9 i0 _ Tryz.underlying22 hi0 hz0 hz1 hz2 rfl _ p.globals.length (strs p.globals) (by rfl) HO5.out w5 _ X5 pl pl.length k5 (by rfl) rfl HT5.out ⟨fun b hb => hb.2, fun _ _ => rfl⟩ (by omega) HB5.out.size ?_
         intro v6 w6 hown6 hg6
         obtain ⟨X6, k6, rfl, _, _⟩ := own_shape hown6
         have HO6 := Lib.hid hown6
         have HG6 := Lib.hid hg6
         clear hown6 hg6
         have HB6 := Lib.hid (HB5.out.grown HG6.out HB5.out.size (fun j hj => (HO5.out.lt j hj).1))
         refine hK.out _ _ (HS.out _ HB6.out) ?_
         clear hK K
         (try simp only [Act.put, List.setIfInBounds_toArray, List.set_cons_zero, List.set_cons_succ])
         refine wpAnyH_step (i := 9) (by kernel_rfl) rfl (fun K hK => ?_)
         refine step_append_texts (by rfl) (.tmp 67) (.tmp 69) 22 (by rfl) V4.heap.size 9 i0 _ Tryz.underlying22 hi0 hz0 hz1 hz2 rfl _ (p.globals.length + pl.length) (strs p.globals ++ strs pl) (by rfl) HO6.out w Q Bv vl x2 kv (by rfl) hvl.symm HVv.out (HI4.out.on HB6.out) (by omega) HB6.out.size ?_
         intro v7 w7 hown7 hg7
         obtain ⟨X7, k7, rfl, _, _⟩ := own_shape hown7
         have HO7 := Lib.hid hown7
         have HG7 := Lib.hid hg7
         clear hown7 hg7
         have HB7 := Lib.hid (HB6.out.grown HG7.out HB6.out.size (fun j hj => (HO6.out.lt j hj).1))
         have HT7 : Hid (TextsI w7 (nw V4 w7) nl (.slice X7 (p.globals.length + pl.length + x2) k7)) := Lib.hid (by
          have h := HO7.out
          rw [← strs_append, ← strs_append, ← HNl.out] at h
          exact (texts_of_own HNs.out h).2)
         have HTw := Lib.hid (rtwice_any HT7.out ⟨fun j h => h.2, fun _ _ => rfl⟩)
         rw [← HDd.out] at HTw
         refine hK.out _ _ (HS.out _ HB7.out) ?_
         clear hK K
         (try simp only [Act.put, List.setIfInBounds_toArray, List.set_cons_zero, List.set_cons_succ])
         refine wpAnyH_step (i := 10) (by kernel_rfl) rfl (fun K hK => ?_)
         go_simp
         refine HTw.out.mono ?_
         rintro e' w8 ⟨rfl, hb8⟩
         refine hK.out _ _ (HS.out _ (below_step HB7.out hb8)) ?_
         clear hK K
         (try simp only [Act.put, List.setIfInBounds_toArray, List.set_cons_zero, List.set_cons_succ])
         refine wpAnyH_done (by kernel_rfl) ?_ 0
         go_wp2_with fail
         go_meet
         exact ⟨rfl, Lib.hid (below_step HB7.out hb8)⟩
        case rest =>
         obtain ⟨rfl, HC8⟩ := hcut
         have HB8 := Lib.hid (below_step HB4.out HC8.out)
         have HI8 := Lib.hid (HI4.out.on HC8.out)
         have HBx8 := Lib.hid (HBx.out.below HC8.out hbx)
         have HBp8 := Lib.hid (HBp4.out.below HC8.out hbb)
         have HBf8 := Lib.hid (HBfc.out.below HB8.out hfl)
         have HBW8 := Lib.hid (below_step HBWc.out HB8.out)
         clear HS HBD HC8 HB4 HI4 HBx HBp4 hbx hbb HCp HNs HSp HVv HNl
         cases d with
         | true =>
          have HAn : Hid (chkL p.globals ps p.procs = (5, 0)) := Lib.hid HAk.out
          clear HAk HDd
          go_wp2_with (go_at_call 63; refine (rfault_any 5 0 wc).mono ?_; rintro e wf ⟨rfl, hbf_⟩; have HB_ := Lib.hid (below_step HBW8.out hbf_); have HBf_ := Lib.hid (HBf8.out.below hbf_ HBf8.out.lt); have f0_ := HBf_.out.frozen 0; have f1_ := HBf_.out.frozen 1; have y0_ : wf.cell? ⟨f, 0, none⟩ = some (.int .i64 0) := (by rw [HBf_.out.cell]; rfl); have y1_ : wf.cell? ⟨f, 1, none⟩ = some (.int .i64 0) := (by rw [HBf_.out.cell]; rfl); clear hbf_)
          (try simp only [Exit.inBlock, Exit.then])
          refine bodyPost_ret (results_c1 rfl _ _ f 34 #[.int .i64 5, .int .i64 0] (0, 0) _ rfl (fault_end HBf_.out) Tryz.underlying34 rfl (by kernel_rfl)) rfl ?_
          exact ⟨by rw [HK2.out, HAn.out], below_setc (below_setc HB_.out hWf _) hWf _⟩
         | false =>
          have HAn : Hid (chkL p.globals ps p.procs = if fstB fR (its.map It.s) = 0 then chkL p.globals ps (p.procs.drop (k + 1)) else (5, fstB fR (its.map It.s))) := Lib.hid HAk.out
          clear HAk HDd
          have hx8 := HBx8.out.lt
          have hp8 := HBp8.out.lt
          have z0 : wc.cell? ⟨bx, 0, none⟩ = some (.string x0) := by rw [HBx8.out.cell]; rfl
          have z1 : wc.cell? ⟨bx, 1, none⟩ = some (.slice Bp x1 kp) := by rw [HBx8.out.cell]; rfl
          have z2 : wc.cell? ⟨bx, 2, none⟩ = some (.slice Bv x2 kv) := by rw [HBx8.out.cell]; rfl
          have z3 : wc.cell? ⟨bx, 3, none⟩ = some (.slice Bb x3 kb) := by rw [HBx8.out.cell]; rfl
          have z4 : wc.cell? ⟨bx, 4, none⟩ = some (.slice Be x4 ke) := by rw [HBx8.out.cell]; rfl
          go_upto_region 18 with (go_at_call 20; refine (HFl.out wc HI8.out).mono ?_; rintro e' W9 ⟨v9, rows9, rfl, ho9, ha9, hb9⟩; obtain ⟨X9, cx9, rfl, hx9, hx9'⟩ := own_shape ho9)
          have HSl := Lib.hid (slice_of_own ho9 ha9 (fun x cs h => by obtain ⟨c, rfl, hc⟩ := h; obtain ⟨_, _, _, _, _, _, _, _, _, _, _, _, _, _, _, _, _, _, _, _, _, _, _, _, _, rfl, _⟩ := stmt_open hc; rfl))
          have HB9 := Lib.hid (below_step HB8.out hb9)
          have HI9 := Lib.hid (HI8.out.on hb9)
          have HBx9 := Lib.hid (HBx8.out.below hb9 hx8)
          have HBp9 := Lib.hid (HBp8.out.below hb9 hp8)
          have HT9 := Lib.hid (HTc.out.on HB9.out)
          clear ho9 ha9 hb9 z0 z1 z2 z3 z4 hx8 hp8 HI8 HBx8 HBp8 HBf8 HBW8 HB8 HFl
          have hx9l := HBx9.out.lt
          have hp9l := HBp9.out.lt
          go_loopg [76] its.length (fun kk iv wr => ∃ (k2 : Nat), k2 + kk = its.length ∧ iv = .int .i64 k2 ∧ Hid (Below W9.heap.size W9 wr) ∧ Hid (fstB fR ((its.drop k2).map It.s) = fstB fR (its.map It.s)))
          case atStart => exact ⟨0, by omega, rfl, Lib.hid (Below.refl _ _), Lib.hid rfl⟩
          case round =>
           obtain ⟨k2, hk2, rfl, HR2, HF2⟩ := hrel
           generalize wr = wq at *
           have HIq := Lib.hid (HI9.out.on HR2.out)
           by_cases hlt2 : k2 < its.length
           ·obtain ⟨a2, id, kind, labels, nm, proc, x, has, args, th, el, L, lc, y0, y1, y2, X, xn, xc, R, rc, T, tc, U, uc, dp, inn, els, rfl, hq2, hmk, hrow2, hid, hkind, hst⟩ := item_at HSl.out (W := wq) ⟨fun b h => Nat.lt_of_lt_of_le h.2 HR2.out.size, fun p hp => HR2.out.cell hp.2⟩ hlt2
            obtain ⟨hi1, hi2, hi3⟩ := HIt.out _ (List.getElem_mem hlt2)
            have HF3 : Hid (fstB fR (its.map It.s) = if fR its[k2].s = true then its[k2].s.id else fstB fR ((its.drop (k2 + 1)).map It.s)) := Lib.hid (by rw [← HF2.out, List.drop_eq_getElem_cons hlt2, List.map_cons, fstB_cons])
            rw [HfR.out, hmk] at HF3
            rw [hmk] at hi1 hi2 hi3
            have HSa := Lib.hid (fun V hV => rSaid_any hst hi3 V hV)
            have hidb : 1 ≤ id := hi1
            have hidc : id ≤ 200 := hi2
            obtain ⟨l, hl⟩ : ∃ l, l = saidS (.mk id kind labels nm proc x has args th el) := ⟨_, rfl⟩
            rw [← hl] at HSa HF3
            obtain ⟨c2, hc2⟩ : ∃ c2, c2 = (kind == 4 && ((proc.toList == [109, 97, 105, 110]) || !ps.any (isT proc))) := ⟨_, rfl⟩
            have HF4 : Hid (fstB fR (its.map It.s) = if (!l.all (fun v => kn v != 0) || c2) = true then id else fstB fR ((its.drop (k2 + 1)).map It.s)) := Lib.hid (by rw [hc2]; exact HF3.out)
            have HC2 := Lib.hid hc2
            have hkb := hkind
            unfold i64 at hkb
            obtain ⟨p0, p1, p2, p3, p4, p5, p6, p7, p8, p9, p10, p11, p12, p13, p14, p15, _⟩ := hrow2
            simp only [List.toArray] at HSa
            clear hl hc2 HF2 HF3 hmk hst hid hkind hi1 hi2 hi3 hq2
            go_upto_region 20 with fail
            have HBi : Hid (Blk (wq.alloc (.cells #[.int .i64 id, .int .i64 kind, .slice L labels.length lc, .string nm, .string proc, .int .i64 y0, .int .i64 y1, .string y2, .slice X xn xc, .bool has, .slice R args.length rc, .slice T th.length tc, .slice U el.length uc, .int .i64 dp, .int .i64 inn, .bool els] 51)) wq.heap.size 51 #[.int .i64 id, .int .i64 kind, .slice L labels.length lc, .string nm, .string proc, .int .i64 y0, .int .i64 y1, .string y2, .slice X xn xc, .bool has, .slice R args.length rc, .slice T th.length tc, .slice U el.length uc, .int .i64 dp, .int .i64 inn, .bool els]) := Lib.hid (Blk.new _ _ _)
            have HB10 : Hid (Below W9.heap.size W9 (wq.alloc (.cells #[.int .i64 id, .int .i64 kind, .slice L labels.length lc, .string nm, .string proc, .int .i64 y0, .int .i64 y1, .string y2, .slice X xn xc, .bool has, .slice R args.length rc, .slice T th.length tc, .slice U el.length uc, .int .i64 dp, .int .i64 inn, .bool els] 51))) := Lib.hid (below_stepA HR2.out _)
            have HI10 : Hid (In Q w (wq.alloc (.cells #[.int .i64 id, .int .i64 kind, .slice L labels.length lc, .string nm, .string proc, .int .i64 y0, .int .i64 y1, .string y2, .slice X xn xc, .bool has, .slice R args.length rc, .slice T th.length tc, .slice U el.length uc, .int .i64 dp, .int .i64 inn, .bool els] 51))) := Lib.hid (HIq.out.alloc _)
            clear p0 p1 p2 p3 p4 p5 p6 p7 p8 p9 p10 p11 p12 p13 p14 p15 HIq HR2
            generalize World.alloc wq _ = V10 at HBi HB10 HI10 ⊢
            generalize wq.heap.size = bi at HBi ⊢
            have hil := HBi.out.lt
            have s0 : V10.cell? ⟨bi, 0, none⟩ = some (.int .i64 id) := by rw [HBi.out.cell]; rfl
            have s1 : V10.cell? ⟨bi, 1, none⟩ = some (.int .i64 kind) := by rw [HBi.out.cell]; rfl
            have s2 : V10.cell? ⟨bi, 2, none⟩ = some (.slice L labels.length lc) := by rw [HBi.out.cell]; rfl
            have s3 : V10.cell? ⟨bi, 3, none⟩ = some (.string nm) := by rw [HBi.out.cell]; rfl
            have s4 : V10.cell? ⟨bi, 4, none⟩ = some (.string proc) := by rw [HBi.out.cell]; rfl
            have s5 : V10.cell? ⟨bi, 5, none⟩ = some (.int .i64 y0) := by rw [HBi.out.cell]; rfl
            have s6 : V10.cell? ⟨bi, 6, none⟩ = some (.int .i64 y1) := by rw [HBi.out.cell]; rfl
            have s7 : V10.cell? ⟨bi, 7, none⟩ = some (.string y2) := by rw [HBi.out.cell]; rfl
            have s8 : V10.cell? ⟨bi, 8, none⟩ = some (.slice X xn xc) := by rw [HBi.out.cell]; rfl
            have s9 : V10.cell? ⟨bi, 9, none⟩ = some (.bool has) := by rw [HBi.out.cell]; rfl
            have s10 : V10.cell? ⟨bi, 10, none⟩ = some (.slice R args.length rc) := by rw [HBi.out.cell]; rfl
            have s11 : V10.cell? ⟨bi, 11, none⟩ = some (.slice T th.length tc) := by rw [HBi.out.cell]; rfl
            have s12 : V10.cell? ⟨bi, 12, none⟩ = some (.slice U el.length uc) := by rw [HBi.out.cell]; rfl
            go_upto_region 21 with (go_at_call 21; refine (HSa.out V10 HI10.out).mono ?_; rintro e' W11 ⟨v11, rfl, ho11, hb11⟩; obtain ⟨X11, k11, rfl, _, _⟩ := own_shape ho11)
            have HO11 := Lib.hid ho11
            have HB11 := Lib.hid (below_step HB10.out hb11)
            have HBi11 := Lib.hid (HBi.out.below hb11 hil)
            clear s0 s1 s2 s3 s4 s5 s6 s7 s8 s9 s10 s11 s12 ho11 hb11 HSa HBi HI10 hil
            have hil := HBi11.out.lt
            have h10 : V10.heap.size ≤ V10.heap.size := Nat.le_refl _
            generalize V10.heap.size = v10 at HO11
            clear HB10 h10
            go_loopg [84] l.length (fun kk iv wr => ∃ (j : Nat), j + kk = l.length ∧ iv = .int .i64 j ∧ Hid (Below W11.heap.size W11 wr) ∧ Hid (wr.ownsRow v10 9 1 (.slice X11 l.length k11) l.length (strs l)) ∧ Hid ((l.drop j).all (fun v => kn v != 0) = l.all (fun v => kn v != 0)))
            case atStart => exact ⟨0, by omega, rfl, Lib.hid (Below.refl _ _), HO11, Lib.hid rfl⟩
            case round =>
             clear HO11
             obtain ⟨j, hj, rfl, HB12, HO12, HA12⟩ := hrel
             have HB13 := Lib.hid (below_step HB11.out HB12.out)
             have HI13 := Lib.hid (HI9.out.on HB13.out)
             have HBi13 := Lib.hid (HBi11.out.below HB12.out hil)
             have HBx13 := Lib.hid (HBx9.out.below HB13.out hx9l)
             have HBp13 := Lib.hid (HBp9.out.below HB13.out hp9l)
             by_cases hlt3 : j < l.length
             ·obtain ⟨g, cap, he, hcl, _, _⟩ := own_at HO12.out hlt3
              injection he with h1 _ h3
              subst h1 h3
              have pt := hcl (.string l[j]) (by simp [strs, List.getElem?_map, List.getElem?_eq_getElem hlt3])
              have HAk : Hid (l.all (fun v => kn v != 0) = ((kn l[j] != 0) && (l.drop (j + 1)).all (fun v => kn v != 0))) := Lib.hid (by rw [← HA12.out, List.drop_eq_getElem_cons hlt3, List.all_cons])
              have HKj := Lib.hid (HKn.out l[j] wr HI13.out)
              generalize l[j] = tt at pt HAk HKj
              generalize kn tt = zz at HAk HKj
              have q0 : wr.cell? ⟨b, 0, none⟩ = some (.slice Ag p.globals.length cg) := by rw [HBp13.out.cell]; rfl
              have q1 : wr.cell? ⟨b, 1, none⟩ = some (.slice (some a) p.procs.length cp) := by rw [HBp13.out.cell]; rfl
              have z0 : wr.cell? ⟨bx, 0, none⟩ = some (.string x0) := by rw [HBx13.out.cell]; rfl
              have z1 : wr.cell? ⟨bx, 1, none⟩ = some (.slice Bp x1 kp) := by rw [HBx13.out.cell]; rfl
              have z2 : wr.cell? ⟨bx, 2, none⟩ = some (.slice Bv x2 kv) := by rw [HBx13.out.cell]; rfl
              have z3 : wr.cell? ⟨bx, 3, none⟩ = some (.slice Bb x3 kb) := by rw [HBx13.out.cell]; rfl
              have z4 : wr.cell? ⟨bx, 4, none⟩ = some (.slice Be x4 ke) := by rw [HBx13.out.cell]; rfl
              clear hcl
              by_cases hz : zz = 0
              ·subst hz
               have HE : Hid (chkP p = (5, id)) := Lib.hid (by
                have h1 : fstB fR (its.map It.s) = id := by rw [HF4.out, HAk.out]; rfl
                rw [HK2.out, HAn.out, h1, if_neg (by omega)])
               clear HF4 HAk HAn HA12
               go_upto_region 24 with (go_at_call 90; refine HKj.out.mono ?_; rintro e' w14 ⟨rfl, hb14⟩)
               have HBi14 := Lib.hid (HBi13.out.below hb14 HBi13.out.lt)
               have HB14 := Lib.hid (below_step HB9.out (below_step HB13.out hb14))
               have HBf14 := Lib.hid (HBfc.out.below HB14.out hfl)
               have HBW14 := Lib.hid (below_step HBWc.out HB14.out)
               clear q0 q1 z0 z1 z2 z3 z4 pt hb14
               have s0 : w14.cell? ⟨bi, 0, none⟩ = some (.int .i64 id) := by rw [HBi14.out.cell]; rfl
               go_wp2_with (go_at_call 63; refine (rfault_any 5 id w14).mono ?_; rintro e wf ⟨rfl, hbf_⟩; have HB_ := Lib.hid (below_step HBW14.out hbf_); have HBf_ := Lib.hid (HBf14.out.below hbf_ HBf14.out.lt); have f0_ := HBf_.out.frozen 0; have f1_ := HBf_.out.frozen 1; have y0_ : wf.cell? ⟨f, 0, none⟩ = some (.int .i64 0) := (by rw [HBf_.out.cell]; rfl); have y1_ : wf.cell? ⟨f, 1, none⟩ = some (.int .i64 0) := (by rw [HBf_.out.cell]; rfl); clear hbf_)
               (try simp only [Exit.inBlock, Exit.then])
               refine bodyPost_ret (results_c1 rfl _ _ f 34 #[.int .i64 5, .int .i64 id] (0, 0) _ rfl (fault_end HBf_.out) Tryz.underlying34 rfl (by kernel_rfl)) rfl ?_
               exact ⟨by rw [HE.out], below_setc (below_setc HB_.out hWf _) hWf _⟩
              ·have hz1 : (zz == 0) = false := beq_eq_false_iff_ne.2 hz
               have HAm : Hid (l.all (fun v => kn v != 0) = (l.drop (j + 1)).all (fun v => kn v != 0)) := Lib.hid (by rw [HAk.out, bne, hz1]; rfl)
               clear hz HAk
               go_wp2_with (go_at_call 90; refine HKj.out.mono ?_; rintro e' w14 ⟨rfl, hb14⟩; have HB14 := Lib.hid (below_step HB12.out hb14); have HO14 := Lib.hid ((Below.moves hb14).row HO12.out (fun j hj e => Nat.not_lt.2 e (HO12.out.lt j hj).2)); clear hb14)
               go_roundg (l.length - j - 1)
               case measure => omega
               case rel => exact ⟨j + 1, by omega, by go_num, HB14, HO14, Lib.hid HAm.out.symm⟩
             ·have HAe : Hid (l.all (fun v => kn v != 0) = true) := Lib.hid (by rw [← HA12.out, List.drop_of_length_le (by omega)]; rfl)
              have HF5 : Hid (fstB fR (its.map It.s) = if c2 = true then id else fstB fR ((its.drop (k2 + 1)).map It.s)) := Lib.hid (by rw [HF4.out, HAe.out]; rfl)
              clear HF4 HAe HA12
              have s0 : wr.cell? ⟨bi, 0, none⟩ = some (.int .i64 id) := by rw [HBi13.out.cell]; rfl
              have s1 : wr.cell? ⟨bi, 1, none⟩ = some (.int .i64 kind) := by rw [HBi13.out.cell]; rfl
              have s4 : wr.cell? ⟨bi, 4, none⟩ = some (.string proc) := by rw [HBi13.out.cell]; rfl
              have HIn := Lib.hid (rIn_any HN'.out (HT9.out.on HB13.out) proc)
              generalize ps.any (isT proc) = z3 at HIn HC2
              generalize wr = wv at *
              go_upto_region 26 with fail
              go_cut [115] from 98 to 114 (fun s wx => s = .bool c2 ∧ wx = wv)
              case first =>
               by_cases hk4 : kind = 4
               ·subst hk4
                cases hm : proc.toList == [109, 97, 105, 110] with
                | true =>
                 rw [hm] at HC2
                 have HC3 : Hid (c2 = true) := Lib.hid HC2.out
                 clear HC2
                 go_wp2_with fail
                 go_meet
                 exact ⟨by rw [HC3.out], rfl⟩
                | false =>
                 rw [hm] at HC2
                 have HC3 : Hid (c2 = !z3) := Lib.hid HC2.out
                 clear HC2
                 cases z3
                 all_goals
                  go_wp2_with (go_at_call 22; refine HIn.out.mono ?_; rintro e' w' ⟨rfl, rfl⟩)
                  go_meet
                  exact ⟨by rw [HC3.out]; rfl, rfl⟩
               ·have hk5 : (kind == 4) = false := beq_eq_false_iff_ne.2 hk4
                have HC3 : Hid (c2 = false) := Lib.hid (by rw [HC2.out, hk5]; rfl)
                clear hk4 HC2
                go_wp2_with fail
                go_meet
                exact ⟨by rw [HC3.out], rfl⟩
              case rest =>
               obtain ⟨rfl, hw⟩ := hcut
               replace hw := hw.symm
               subst hw
               clear HC2 HIn
               cases c2 with
               | true =>
                have HE : Hid (chkP p = (5, id)) := Lib.hid (by
                 have h1 : fstB fR (its.map It.s) = id := by rw [HF5.out]; rfl
                 rw [HK2.out, HAn.out, h1, if_neg (by omega)])
                have HB14 := Lib.hid (below_step HB9.out HB13.out)
                have HBf14 := Lib.hid (HBfc.out.below HB14.out hfl)
                have HBW14 := Lib.hid (below_step HBWc.out HB14.out)
                clear HF5 HAn
                go_wp2_with (go_at_call 63; refine (rfault_any 5 id wv).mono ?_; rintro e wf ⟨rfl, hbf_⟩; have HB_ := Lib.hid (below_step HBW14.out hbf_); have HBf_ := Lib.hid (HBf14.out.below hbf_ HBf14.out.lt); have f0_ := HBf_.out.frozen 0; have f1_ := HBf_.out.frozen 1; have y0_ : wf.cell? ⟨f, 0, none⟩ = some (.int .i64 0) := (by rw [HBf_.out.cell]; rfl); have y1_ : wf.cell? ⟨f, 1, none⟩ = some (.int .i64 0) := (by rw [HBf_.out.cell]; rfl); clear hbf_)
                (try simp only [Exit.inBlock, Exit.then])
                refine bodyPost_ret (results_c1 rfl _ _ f 34 #[.int .i64 5, .int .i64 id] (0, 0) _ rfl (fault_end HBf_.out) Tryz.underlying34 rfl (by kernel_rfl)) rfl ?_
                exact ⟨by rw [HE.out], below_setc (below_setc HB_.out hWf _) hWf _⟩
               | false =>
                have HF6 : Hid (fstB fR (its.map It.s) = fstB fR ((its.drop (k2 + 1)).map It.s)) := Lib.hid HF5.out
                clear HF5
                go_wp2_with fail
                go_roundg (its.length - k2 - 1)
                case measure => omega
                case rel => exact ⟨k2 + 1, by omega, by go_num, HB13, Lib.hid HF6.out.symm⟩
           ·have HFe : Hid (fstB fR (its.map It.s) = 0) := Lib.hid (by rw [← HF2.out, List.drop_of_length_le (by omega)]; rfl)
            have HAm : Hid (chkL p.globals ps p.procs = chkL p.globals ps (p.procs.drop (k + 1))) := Lib.hid (by rw [HAn.out, HFe.out]; rfl)
            clear HAn HFe HF2
            go_wp2_with fail
            go_roundg (p.procs.length - k - 1)
            case measure => omega
            case rel => exact ⟨k + 1, by omega, by go_num, Lib.hid (below_step HB9.out HR2.out), Lib.hid HAm.out.symm⟩
       ·have HAn : Hid (chkL p.globals ps p.procs = (0, 0)) := Lib.hid (by rw [← HA.out, List.drop_of_length_le (by omega)]; rfl)
        have HBfr := Lib.hid (HBfc.out.below HBr.out hfl)
        have HBWr := Lib.hid (below_step HBWc.out HBr.out)
        have f0_ := HBfr.out.frozen 0
        have f1_ := HBfr.out.frozen 1
        have y0_ : wo.cell? ⟨f, 0, none⟩ = some (.int .i64 0) := by rw [HBfr.out.cell]; rfl
        have y1_ : wo.cell? ⟨f, 1, none⟩ = some (.int .i64 0) := by rw [HBfr.out.cell]; rfl
        go_wp2_with fail
        (try simp only [Exit.inBlock, Exit.then])
        refine bodyPost_ret (results_c1 rfl _ _ f 34 #[.int .i64 0, .int .i64 0] (0, 0) _ rfl (fault_end HBfr.out) Tryz.underlying34 rfl (by kernel_rfl)) rfl ?_
        exact ⟨by rw [HK2.out, HAn.out], below_setc (below_setc HBWr.out hWf _) hWf _⟩
end Go.Proofs.YtimejkbmfbjomaaGreat
