/- Texts, merged by a program; only what is used. -/
import Derived.Test.YtehpinnmalpgpaaK1
import Derived.Test.YtehpinnmalpgpaaK2
import Derived.Test.YtehpinnmalpgpaaK3
import Derived.Test.YtehpinnmalpgpaaK4
import Derived.Test.YtehpinnmalpgpaaK5
import Derived.Test.YtehpinnmalpgpaaK6
import Derived.Test.YtehpinnmalpgpaaK7
import Derived.Test.YtehpinnmalpgpaaK8
import Derived.Test.YtehpinnmalpgpaaK9
import Derived.Test.YtehpinnmalpgpaaK10
import Derived.Test.YtehpinnmalpgpaaK11
import Derived.Test.YtehpinnmalpgpaaK12
import Derived.Test.YtehpinnmalpgpaaK13
import Derived.Test.YtehpinnmalpgpaaK14
import Derived.Test.YtehpinnmalpgpaaK15
import Derived.Test.YtehpinnmalpgpaaK16
import Derived.Test.YtehpinnmalpgpaaK17
import Derived.Test.YtehpinnmalpgpaaK18
import Derived.Test.YtehpinnmalpgpaaK19
import Derived.Test.YtehpinnmalpgpaaK20
import Derived.Test.YtehpinnmalpgpaaK21
import Derived.Test.YtehpinnmalpgpaaK22
import Derived.Test.YtehpinnmalpgpaaK23
import Derived.Test.YtehpinnmalpgpaaK24
import Derived.Test.YtehpinnmalpgpaaKM1
import Derived.Test.YtehpinnmalpgpaaKM2
import Derived.Test.YtehpinnmalpgpaaKM3
import Derived.Test.YtehpinnmalpgpaaKM4
import Derived.Test.YtehpinnmalpgpaaKM5
import Derived.Test.YtehpinnmalpgpaaKM6
import Derived.Test.YtehpinnmalpgpaaKM7
import Derived.Test.YtehpinnmalpgpaaKM8
import Derived.Test.YtehpinnmalpgpaaKM9
namespace Go.Proofs.Ytehpinnmalpgpaa
open Go.ChangeShapes Go.WideShapes Go.ChangeAt Go.RowKit Go.Deep
set_option linter.unusedVariables false
set_option linter.unusedSimpArgs false
set_option maxHeartbeats 8000000 in
set_option maxRecDepth 100000 in
theorem jumpOne_walk {w : World} {Q : Nat → Prop} {p : Pg} {c0 c1 : Value} (h : ProgI w Q p [c0, c1]) (n : Int) (wn : (Lit.int .i64 n).wf = true) (W : World) (hI : In Q w W) :
 Calls Try.prog 5 #[.agg #[c0, c1], .int .i64 n] W fun e w' => e = .returned (.bool true) ∧ Below W.heap.size W w' := by
 have HP := Lib.hid h
 have HF := Lib.hid (fun V h1 => Fits_any h V h1)
 have HI := Lib.hid hI
 obtain ⟨Ag, cg, Ap, cp, rfl, rfl, _⟩ := prog_open h
 clear h hI
 go_enter Try.func5, Try.ntmps5
 go_upto_region 1 with fail
 have HB0 : Hid (Below W.heap.size W (W.alloc (.cells #[.slice Ag p.globals.length cg, .slice Ap p.procs.length cp] 25))) := Lib.hid (below_box _)
 have HBp0 : Hid (Blk (W.alloc (.cells #[.slice Ag p.globals.length cg, .slice Ap p.procs.length cp] 25)) W.heap.size 25 #[.slice Ag p.globals.length cg, .slice Ap p.procs.length cp]) := Lib.hid (Blk.new _ _ _)
 generalize World.alloc _ _ = W0 at HB0 HBp0 ⊢
 have HI0 := Lib.hid (HI.out.on HB0.out)
 generalize hbe : W.heap.size = b at HBp0 ⊢
 clear hbe
 go_upto_region 3 with (go_at_call 24; refine (jumping_any W0).mono ?_; rintro e' W1 ⟨rfl, hb1⟩)
 have HB1 : Hid (Below W.heap.size W W1) := Lib.hid (below_step HB0.out hb1)
 have HI1 := Lib.hid (HI0.out.on hb1)
 have HBp1 := Lib.hid (HBp0.out.below hb1 HBp0.out.lt)
 clear hb1 HB0 HBp0 HI0
 have q0 : W1.cell? ⟨b, 0, none⟩ = some (.slice Ag p.globals.length cg) := by rw [HBp1.out.cell]; rfl
 have q1 : W1.cell? ⟨b, 1, none⟩ = some (.slice Ap p.procs.length cp) := by rw [HBp1.out.cell]; rfl
 have hbl := HBp1.out.lt
 cases hf : fitsP p with
 | false =>
  rw [hf] at HF
  clear hf
  go_wp2_with (go_at_call 10; refine (HF.out _ HI1.out).mono ?_; rintro e' W2 ⟨rfl, hb2⟩)
  go_ret
  exact ⟨rfl, below_step HB1.out hb2⟩
 | true =>
  have HSg := Lib.hid (fits_smG hf)
  have HC := Lib.hid (fun V hV => Check_any HP.out (fits_smG hf) V hV)
  have HJ := Lib.hid (fun V hV => jCheck_any HP.out (fits_smG hf) V hV)
  have HPc := Lib.hid (fun nm V hV => Proc_any HP.out (fits_smG hf) nm V hV)
  have HLa := Lib.hid (fun nm V hV => jLabels_any HP.out (fits_smG hf) nm V hV)
  have HAt := Lib.hid (fun nm lab V hV => jAt_any HP.out (fits_smG hf) nm lab V hV)
  have HSt := Lib.hid (fun id V hV => rStmt_any HP.out id V hV)
  rw [hf] at HF
  clear hf
  go_upto_region 5 with (go_at_call 10; refine (HF.out _ HI1.out).mono ?_; rintro e' W2 ⟨rfl, hb2⟩)
  have HB2 : Hid (Below W.heap.size W W2) := Lib.hid (below_step HB1.out hb2)
  have HI2 := Lib.hid (HI1.out.on hb2)
  have HBp2 := Lib.hid (HBp1.out.below hb2 hbl)
  clear hb2 HB1 HI1 HBp1 q0 q1 hbl HF
  have q0 : W2.cell? ⟨b, 0, none⟩ = some (.slice Ag p.globals.length cg) := by rw [HBp2.out.cell]; rfl
  have q1 : W2.cell? ⟨b, 1, none⟩ = some (.slice Ap p.procs.length cp) := by rw [HBp2.out.cell]; rfl
  have hbl := HBp2.out.lt
  have hff : ∀ (a c : Int) (w : World), (Instr.field 38 (.agg #[.int .i64 a, .int .i64 c]) 0).run Try.prog w = .ok (.int .i64 a) w := fun _ _ _ => by kernel_rfl
  have hok : (chkP p).1 = 0 → ChOk p := chk_ok
  have HOk0 := Lib.hid hok
  have HJo0 := Lib.hid (jck_ok (p := p))
  clear hok
  generalize chkP p = r at HC HOk0
  obtain ⟨rc, ri⟩ := r
  simp only at HOk0
  by_cases hr : rc = 0
  ·subst hr
   have HOk := Lib.hid (HOk0.out rfl)
   clear HOk0
   generalize jCheck p = rj at HJ HJo0
   obtain ⟨jc, ji⟩ := rj
   simp only at HJo0
   by_cases hj : jc = 0
   ·subst hj
    have HJo := Lib.hid (HJo0.out rfl)
    clear HJo0
    go_upto_region 7 with (first
     | (go_at_call 19; refine (HC.out W2 HI2.out).mono ?_; rintro e' W3 ⟨rfl, hb3⟩; have HB3 : Hid (Below W.heap.size W W3) := Lib.hid (below_step HB2.out hb3); have HI3 := Lib.hid (HI2.out.on hb3); have HBp3 := Lib.hid (HBp2.out.below hb3 hbl); clear hb3 q0 q1; have q0 : W3.cell? ⟨b, 0, none⟩ = some (.slice Ag p.globals.length cg) := (by rw [HBp3.out.cell]; rfl); have q1 : W3.cell? ⟨b, 1, none⟩ = some (.slice Ap p.procs.length cp) := (by rw [HBp3.out.cell]; rfl))
     | (go_at_call 25; refine (HJ.out W3 HI3.out).mono ?_; rintro e' W4 ⟨rfl, hb4⟩))
    have HB4 : Hid (Below W.heap.size W W4) := Lib.hid (below_step HB3.out hb4)
    have HI4 := Lib.hid (HI3.out.on hb4)
    have HBp4 := Lib.hid (HBp3.out.below hb4 HBp3.out.lt)
    clear hb4 HB3 HI3 HBp3 HB2 HI2 HBp2 q0 q1 hbl HC HJ hff
    have q0 : W4.cell? ⟨b, 0, none⟩ = some (.slice Ag p.globals.length cg) := by rw [HBp4.out.cell]; rfl
    have q1 : W4.cell? ⟨b, 1, none⟩ = some (.slice Ap p.procs.length cp) := by rw [HBp4.out.cell]; rfl
    have hbl := HBp4.out.lt
    obtain ⟨hl1, hl2, hl3⟩ := may_lens HOk.out.may
    have hpos : 1 ≤ p.procs.length := by
     have h := HOk.out.main
     unfold mainBad at h
     cases hp : p.procs with
     | nil => rw [hp] at h; cases h
     | cons _ _ => simp
    obtain ⟨q, hq, hPA⟩ : ∃ q ∈ p.procs, ∀ W : World, In Q w W → Calls Try.prog 26 #[.agg #[.slice Ag p.globals.length cg, .slice Ap p.procs.length cp], .int .i64 n] W fun e w' => e = .returned (.string q.nm) ∧ Below W.heap.size W w' := by
     obtain ⟨m, hm, hPA⟩ := ProcAt_any HP.out ⟨hpos, hl2⟩ n
     exact ⟨p.procs[m], List.getElem_mem hm, hPA⟩
    have HPA := Lib.hid hPA
    clear hPA hl1 hl2 hl3 hpos
    have hpr : procP p q.nm = (q, true) := by
     unfold procP
     rw [if_pos HOk.out.may, find_own _ HOk.out.procs _ hq]
     rfl
    obtain ⟨hck, hjo⟩ := HJo.out
    have HP1 := Lib.hid (fun V hV => HPc.out q.nm V hV)
    rw [hpr] at HP1
    have HL1 := Lib.hid (fun V hV => HLa.out q.nm V hV)
    rw [jLabels_q hck HOk.out.procs hq] at HL1
    have HA1 := Lib.hid (fun lab V hV => HAt.out q.nm lab V hV)
    have HNd := Lib.hid (hjo q hq).1
    have HLd := Lib.hid (hjo q hq).2
    have HLz : Hid (∀ s ∈ allLb q, s.size ≤ 9223372036854775807) := Lib.hid (fun s hs => by
     obtain ⟨h1, _, h2, _⟩ := HSg.out.proc q hq
     rcases List.mem_append.1 hs with h | h
     ·obtain ⟨x, hx, hsx⟩ := List.mem_flatMap.1 h
      have h3 := Nat.le_trans (preSL_w _ _ hx) h1
      cases x with
      | mk id kind labels nm proc x has args th el =>
       rw [wS] at h3
       have h4 := wT_mem (show s ∈ labels from hsx)
       omega
     ·have h4 := wT_mem h
      omega)
    have HAl : Hid (∀ t ∈ allLb q, (∃ s, jAt p q.nm t = (s.id, true) ∧ 1 ≤ s.id ∧ q.end_.any (isT t) = false ∧ stP p s.id = s ∧ s.labels.any (isT t) = true) ∨ (jAt p q.nm t = (-1, true) ∧ q.end_.any (isT t) = true)) := Lib.hid (fun t ht => by
     rw [jAt_q hck HOk.out.procs hq t]
     exact at_label HOk.out.may hq HNd.out ht)
    have HFq : Hid (∀ x ∈ flatOf q, x.s.kind = 10 → (allLb q).any (isT x.s.nm) = true) := Lib.hid (fun x hx hk => by
     have h1 := (may_it HOk.out.may hq).1
     rw [h1] at hx
     obtain ⟨y, hy, rfl⟩ := List.mem_map.1 hx
     have h2 : sndI y ∈ lpSL q.body 0 := by rw [← itL_lp q.body 1 0 false 0]; exact List.mem_map_of_mem hy
     have h3 := HLd.out _ h2
     unfold landsB at h3
     rw [if_neg (show ¬ ((sndI y).1.kind = 7 ∨ (sndI y).1.kind = 8) by have : (sndI y).1.kind = 10 := hk; omega), if_pos (show (sndI y).1.kind = 10 from hk)] at h3
     exact h3)
    clear hpr hq hck hjo HPc HLa HAt HOk HSg HLd HJo
    generalize allLb q = l at HL1 HNd HLz HAl HFq
    generalize hmn : q.nm = mn at HP1 HL1 HA1 HPA HAl
    have HMn := Lib.hid hmn
    clear hmn
    go_upto_region 8 with (go_at_call 26; refine (HPA.out W4 HI4.out).mono ?_; rintro e' W5 ⟨rfl, hb5⟩)
    have HB5 := Lib.hid (below_step HB4.out hb5)
    have HI5 := Lib.hid (HI4.out.on hb5)
    have HBp5 := Lib.hid (HBp4.out.below hb5 hbl)
    clear hb5 HB4 HI4 HBp4 q0 q1 hbl HPA
    have q0 : W5.cell? ⟨b, 0, none⟩ = some (.slice Ag p.globals.length cg) := by rw [HBp5.out.cell]; rfl
    have q1 : W5.cell? ⟨b, 1, none⟩ = some (.slice Ap p.procs.length cp) := by rw [HBp5.out.cell]; rfl
    have hbl := HBp5.out.lt
    go_upto_region 9 with (go_at_call 27; refine (HP1.out W5 HI5.out).mono ?_; rintro e' W6 ⟨d0, d1, d2, d3, d4, rfl, hb6, hp6⟩; have hp6' := hp6; obtain ⟨vp, vv, vb, ve, hc, hn', hpp, hvv, hbb, hee⟩ := hp6'; simp only [List.cons.injEq, and_true] at hc; obtain ⟨rfl, rfl, rfl, rfl, rfl⟩ := hc; obtain ⟨M1, k1, rfl, _, _⟩ := hpp.shape; obtain ⟨M2, k2, rfl, _, _⟩ := hvv.shape; obtain ⟨M3, k3, rfl, _⟩ := hbb.shape; obtain ⟨M4, k4, rfl, _⟩ := hee.shape; have HPi := Lib.hid hp6; have HEe := Lib.hid hee; clear hn' hpp hvv hbb hee hp6)
    rw [HMn.out]
    rw [HMn.out] at HPi
    have HFl := Lib.hid (fun V hV => Flat_any (W := V) HPi.out hV hV.1)
    generalize flatOf q = its at HFl HFq
    generalize q.params.length = m1 at *
    generalize q.vars.length = m2 at *
    generalize q.body.length = m3 at *
    generalize hm4 : q.end_.length = m4 at *
    have HM4 := Lib.hid hm4
    clear hm4 HPi
    have HB6 : Hid (Below W5.heap.size W5 (W6.alloc (.cells #[.string mn, .slice M1 m1 k1, .slice M2 m2 k2, .slice M3 m3 k3, .slice M4 m4 k4] 45))) := Lib.hid (below_stepA hb6 _)
    have HBq : Hid (Blk (W6.alloc (.cells #[.string mn, .slice M1 m1 k1, .slice M2 m2 k2, .slice M3 m3 k3, .slice M4 m4 k4] 45)) W6.heap.size 45 #[.string mn, .slice M1 m1 k1, .slice M2 m2 k2, .slice M3 m3 k3, .slice M4 m4 k4]) := Lib.hid (Blk.new _ _ _)
    have HIq : Hid (In (nw W5 W6) W6 (W6.alloc (.cells #[.string mn, .slice M1 m1 k1, .slice M2 m2 k2, .slice M3 m3 k3, .slice M4 m4 k4] 45))) := Lib.hid (In.on ⟨fun j h => h.2, fun _ _ => rfl⟩ (below_box _))
    clear hb6 q0 q1 HP1
    generalize World.alloc W6 _ = V6 at HB6 HBq HIq ⊢
    generalize hbq : W6.heap.size = bq at HBq ⊢
    clear hbq
    have HB6W := Lib.hid (below_step HB5.out HB6.out)
    have HI6 := Lib.hid (HI5.out.on HB6.out)
    have HBp6 := Lib.hid (HBp5.out.below HB6.out hbl)
    clear HB5 HI5 HBp5 HB6 hbl
    have hbl := HBp6.out.lt
    have hql := HBq.out.lt
    have q0 : V6.cell? ⟨b, 0, none⟩ = some (.slice Ag p.globals.length cg) := by rw [HBp6.out.cell]; rfl
    have q1 : V6.cell? ⟨b, 1, none⟩ = some (.slice Ap p.procs.length cp) := by rw [HBp6.out.cell]; rfl
    go_upto_region 10 with (go_at_call 28; refine (HL1.out V6 HI6.out).mono ?_; rintro e' W7 ⟨v7, rfl, ho7, hb7⟩; obtain ⟨X7, c7, rfl, _, _⟩ := own_shape ho7)
    have HTx : Hid (TextsI W7 (fun j => V6.heap.size ≤ j ∧ j < W7.heap.size) l (.slice X7 l.length c7)) := Lib.hid (texts_of_own HLz.out ho7).2
    have HB7W := Lib.hid (below_step HB6W.out hb7)
    have HI7 := Lib.hid (HI6.out.on hb7)
    have HBp7 := Lib.hid (HBp6.out.below hb7 hbl)
    have HBq7 := Lib.hid (HBq.out.below hb7 hql)
    have HIq7 := Lib.hid (HIq.out.on hb7)
    clear q0 q1 ho7 hb7 HL1 HBp6 HBq HIq HI6 HB6W hbl hql HLz
    have hbl := HBp7.out.lt
    have hql := HBq7.out.lt
    have HIn : Hid (∀ V, Below W7.heap.size W7 V → In (fun j => V6.heap.size ≤ j ∧ j < W7.heap.size) W7 V) := Lib.hid (fun V hb => ⟨fun j h => Nat.lt_of_lt_of_le h.2 hb.size, fun p hp => hb.cell hp.2⟩)
    have hff2 : ∀ (d0 d1 : Int) (d2 : Option Addr) (d2l d2c : Nat) (d3 d4 : ByteArray) (d5 d6 : Int) (d7 : ByteArray) (d8 : Option Addr) (d8l d8c : Nat) (d9 : Bool) (d10 : Option Addr) (d10l d10c : Nat) (d11 : Option Addr) (d11l d11c : Nat) (d12 : Option Addr) (d12l d12c : Nat) (w : World), (Instr.field 60 (.agg #[.int .i64 d0, .int .i64 d1, .slice d2 d2l d2c, .string d3, .string d4, .int .i64 d5, .int .i64 d6, .string d7, .slice d8 d8l d8c, .bool d9, .slice d10 d10l d10c, .slice d11 d11l d11c, .slice d12 d12l d12c]) 2).run Try.prog w = .ok (.slice d2 d2l d2c) w := fun _ _ _ _ _ _ _ _ _ _ _ _ _ _ _ _ _ _ _ _ _ _ _ _ => by kernel_rfl
    go_upto_region 11 with fail
    go_loopg [45] l.length (fun kk iv wr => ∃ (i : Nat), i + kk = l.length ∧ iv = .int .i64 i ∧ Hid (Below W7.heap.size W7 wr))
    case atStart => exact ⟨0, by omega, rfl, Lib.hid (Below.refl _ _)⟩
    case round =>
     obtain ⟨i, hi, rfl, HBr⟩ := hrel
     generalize wr = wo at *
     have HIr := Lib.hid (HI7.out.on HBr.out)
     have HBpr := Lib.hid (HBp7.out.below HBr.out hbl)
     have HBqr := Lib.hid (HBq7.out.below HBr.out hql)
     have HIqr := Lib.hid (HIq7.out.on HBr.out)
     by_cases hlt : i < l.length
     ·obtain ⟨ga, rfl, _, pt, _⟩ := text_at HTx.out (HIn.out wo HBr.out) hlt
      have HAi := Lib.hid (HAl.out _ (List.getElem_mem hlt))
      have HNe : Hid (∀ (k : Nat) (hk : k < l.length), k < i → ¬ l[k] = l[i]) := Lib.hid (fun k hk hki e => by have := (List.getElem_inj HNd.out).1 e; omega)
      generalize l[i] = tt at pt HAi HNe
      go_upto_region 14 with fail
      go_loopg [11] i (fun kk k11 wr => ∃ (k : Nat), k + kk = i ∧ k11 = .int .i64 k ∧ wr = wo)
      case atStart => exact ⟨0, by omega, rfl, rfl⟩
      case round =>
       obtain ⟨k, hk, rfl, rfl⟩ := hrel
       by_cases hki : k < i
       ·have hkl : k < l.length := by omega
        obtain ⟨gb, heb, _, pk, _⟩ := text_at HTx.out (HIn.out wr HBr.out) hkl
        injection heb with heb
        subst heb
        have hne : (l[k].toList == tt.toList) = false := by rw [dec_bytes]; exact decide_eq_false (HNe.out k hkl hki)
        generalize l[k] = tk at pk hne
        go_wp2_with fail
        go_roundg (i - k - 1)
        case measure => omega
        case rel => exact ⟨k + 1, by omega, by go_num, rfl⟩
       ·obtain rfl : k = i := by omega
        have HA2 := Lib.hid (HA1.out tt wr HIr.out)
        have q0 : wr.cell? ⟨b, 0, none⟩ = some (.slice Ag p.globals.length cg) := by rw [HBpr.out.cell]; rfl
        have q1 : wr.cell? ⟨b, 1, none⟩ = some (.slice Ap p.procs.length cp) := by rw [HBpr.out.cell]; rfl
        have z4 : wr.cell? ⟨bq, 4, none⟩ = some (.slice M4 m4 k4) := by rw [HBqr.out.cell]; rfl
        rcases HAi.out with ⟨s, hat, hid, hen, hst, hla⟩ | ⟨hat, hen⟩
        ·rw [hat] at HA2
         have HS1 := Lib.hid (fun V hV => HSt.out s.id V hV)
         rw [hst] at HS1
         have HE1 := Lib.hid (fun V hV => rIn_any (W := V) HEe.out hV tt)
         rw [hen] at HE1
         have hne1 : (s.id == -1) = false := beq_eq_false_iff_ne.2 (by omega)
         have hne2 : (s.id != -1) = true := by simp [bne, hne1]
         have HLa := Lib.hid hla
         clear hat hen hst hla HAi hid
         generalize s.id = sid0 at *
         have tok1 : True := trivial
         go_upto_region 19 with (go_at_call 29; refine HA2.out.mono ?_; rintro e' w8 ⟨rfl, hb8⟩)
         have HB8 := Lib.hid (below_step HBr.out hb8)
         have HI8 := Lib.hid (HIr.out.on hb8)
         have HBp8 := Lib.hid (HBpr.out.below hb8 HBpr.out.lt)
         have HBq8 := Lib.hid (HBqr.out.below hb8 HBqr.out.lt)
         have HIq8 := Lib.hid (HIqr.out.on hb8)
         clear q0 q1 z4 hb8 HA2 pt
         have q0 : w8.cell? ⟨b, 0, none⟩ = some (.slice Ag p.globals.length cg) := by rw [HBp8.out.cell]; rfl
         have q1 : w8.cell? ⟨b, 1, none⟩ = some (.slice Ap p.procs.length cp) := by rw [HBp8.out.cell]; rfl
         have z4 : w8.cell? ⟨bq, 4, none⟩ = some (.slice M4 m4 k4) := by rw [HBq8.out.cell]; rfl
         go_wp2_with (first
          | (have _t := tok1; go_at_call 23; refine (HE1.out w8 HIq8.out).mono ?_; rintro e' w9 ⟨rfl, rfl⟩; clear tok1)
          | (go_at_call 30; refine (HS1.out w8 HI8.out).mono ?_; rintro e' w9 ⟨cs, rfl, hst9, hb9⟩; obtain ⟨sid, kind, labels, nm, proc, x, has, args, th, el, L, lc, y0, y1, y2, X, xn, xc, R, rc, T, tc, U, uc, hmk9, rfl, _, _, _, _, hlab9, _⟩ := stmt_open hst9; have HIx := Lib.hid (rIn_any (W := w9) hlab9 (HI8.out.on hb9) tt); have hla9 : labels.any (isT tt) = true := (by have h := HLa.out; rw [hmk9] at h; exact h); rw [hla9] at HIx; have HB9 := Lib.hid (below_step HB8.out hb9); clear hst9 hmk9 hlab9 hla9 hb9)
          | (go_at_call 23; refine HIx.out.mono ?_; rintro e' w10 ⟨rfl, rfl⟩))
         go_roundg (l.length - k - 1)
         case measure => omega
         case rel => exact ⟨k + 1, by omega, by go_num, HB9⟩
        ·rw [hat] at HA2
         have HE1 := Lib.hid (fun V hV => rIn_any (W := V) HEe.out hV tt)
         rw [hen] at HE1
         clear hat hen HAi
         go_upto_region 19 with (go_at_call 29; refine HA2.out.mono ?_; rintro e' w8 ⟨rfl, hb8⟩)
         have HB8 := Lib.hid (below_step HBr.out hb8)
         have HI8 := Lib.hid (HIr.out.on hb8)
         have HBp8 := Lib.hid (HBpr.out.below hb8 HBpr.out.lt)
         have HBq8 := Lib.hid (HBqr.out.below hb8 HBqr.out.lt)
         have HIq8 := Lib.hid (HIqr.out.on hb8)
         clear q0 q1 z4 hb8 HA2 pt
         have q0 : w8.cell? ⟨b, 0, none⟩ = some (.slice Ag p.globals.length cg) := by rw [HBp8.out.cell]; rfl
         have q1 : w8.cell? ⟨b, 1, none⟩ = some (.slice Ap p.procs.length cp) := by rw [HBp8.out.cell]; rfl
         have z4 : w8.cell? ⟨bq, 4, none⟩ = some (.slice M4 m4 k4) := by rw [HBq8.out.cell]; rfl
         go_wp2_with (go_at_call 23; refine (HE1.out w8 HIq8.out).mono ?_; rintro e' w9 ⟨rfl, rfl⟩)
         go_roundg (l.length - k - 1)
         case measure => omega
         case rel => exact ⟨k + 1, by omega, by go_num, HB8⟩
     ·clear HAl HNd HSt HA1 HEe
      have z0 : wo.cell? ⟨bq, 0, none⟩ = some (.string mn) := by rw [HBqr.out.cell]; rfl
      have z1 : wo.cell? ⟨bq, 1, none⟩ = some (.slice M1 m1 k1) := by rw [HBqr.out.cell]; rfl
      have z2 : wo.cell? ⟨bq, 2, none⟩ = some (.slice M2 m2 k2) := by rw [HBqr.out.cell]; rfl
      have z3 : wo.cell? ⟨bq, 3, none⟩ = some (.slice M3 m3 k3) := by rw [HBqr.out.cell]; rfl
      have z4 : wo.cell? ⟨bq, 4, none⟩ = some (.slice M4 m4 k4) := by rw [HBqr.out.cell]; rfl
      go_upto_region 23 with (go_at_call 31; refine (HFl.out wo HIqr.out).mono ?_; rintro e' W9 ⟨v9, rows9, rfl, ho9, ha9, hb9⟩; obtain ⟨X9, cx9, rfl, hx9, hx9'⟩ := own_shape ho9)
      have HSl := Lib.hid (slice_of_own ho9 ha9 (fun x cs h => by obtain ⟨c, rfl, hc⟩ := h; obtain ⟨_, _, _, _, _, _, _, _, _, _, _, _, _, _, _, _, _, _, _, _, _, _, _, _, _, rfl, _⟩ := stmt_open hc; rfl))
      have HB9 := Lib.hid (below_step HBr.out hb9)
      clear ho9 ha9 hb9 z0 z1 z2 z3 z4 HFl
      go_loopg [96] its.length (fun kk iv wr => ∃ (j : Nat), j + kk = its.length ∧ iv = .int .i64 j ∧ Hid (Below W9.heap.size W9 wr))
      case atStart => exact ⟨0, by omega, rfl, Lib.hid (Below.refl _ _)⟩
      case round =>
       obtain ⟨j, hj, rfl, HR2⟩ := hrel
       by_cases hlt2 : j < its.length
       ·obtain ⟨a2, id, kind, labels, nm, proc, x, has, args, th, el, L, lc, y0, y1, y2, X, xn, xc, R, rc, T, tc, U, uc, dp, inn, els, rfl, hq2, hmk, hrow2, hid, hkind, hst, hdp, hinn, hels⟩ := item_at2 HSl.out (W := wr) ⟨fun b h => Nat.lt_of_lt_of_le h.2 HR2.out.size, fun p hp => HR2.out.cell hp.2⟩ hlt2
        have HGo : Hid (kind = 10 → l.any (isT nm) = true) := Lib.hid (fun hk => by
         have h := HFq.out _ (List.getElem_mem hlt2)
         rw [hmk] at h
         exact h hk)
        obtain ⟨p0, p1, p2, p3, p4, p5, p6, p7, p8, p9, p10, p11, p12, p13, p14, p15, _⟩ := hrow2
        clear hmk hst hid hkind hq2 hdp hinn hels
        go_upto_region 25 with fail
        have HBi : Hid (Blk (wr.alloc (.cells #[.int .i64 id, .int .i64 kind, .slice L labels.length lc, .string nm, .string proc, .int .i64 y0, .int .i64 y1, .string y2, .slice X xn xc, .bool has, .slice R args.length rc, .slice T th.length tc, .slice U el.length uc, .int .i64 dp, .int .i64 inn, .bool els] 64)) wr.heap.size 64 #[.int .i64 id, .int .i64 kind, .slice L labels.length lc, .string nm, .string proc, .int .i64 y0, .int .i64 y1, .string y2, .slice X xn xc, .bool has, .slice R args.length rc, .slice T th.length tc, .slice U el.length uc, .int .i64 dp, .int .i64 inn, .bool els]) := Lib.hid (Blk.new _ _ _)
        have HB10 : Hid (Below W9.heap.size W9 (wr.alloc (.cells #[.int .i64 id, .int .i64 kind, .slice L labels.length lc, .string nm, .string proc, .int .i64 y0, .int .i64 y1, .string y2, .slice X xn xc, .bool has, .slice R args.length rc, .slice T th.length tc, .slice U el.length uc, .int .i64 dp, .int .i64 inn, .bool els] 64))) := Lib.hid (below_stepA HR2.out _)
        clear p0 p1 p2 p3 p4 p5 p6 p7 p8 p9 p10 p11 p12 p13 p14 p15 HR2
        generalize World.alloc wr _ = V10 at HBi HB10 ⊢
        generalize wr.heap.size = bi at HBi ⊢
        have s1 : V10.cell? ⟨bi, 1, none⟩ = some (.int .i64 kind) := by rw [HBi.out.cell]; rfl
        have s3 : V10.cell? ⟨bi, 3, none⟩ = some (.string nm) := by rw [HBi.out.cell]; rfl
        by_cases hk10 : kind = 10
        ·subst hk10
         have HIx := Lib.hid (rIn_any (W := V10) HTx.out (HIn.out V10 (below_step HB9.out HB10.out)) nm)
         rw [HGo.out rfl] at HIx
         go_wp2_with (go_at_call 23; refine HIx.out.mono ?_; rintro e' w9 ⟨rfl, rfl⟩)
         go_roundg (its.length - j - 1)
         case measure => omega
         case rel => exact ⟨j + 1, by omega, by go_num, HB10⟩
        ·have hk1 : (kind == 10) = false := beq_eq_false_iff_ne.2 hk10
         clear hk10
         go_wp2_with fail
         go_roundg (its.length - j - 1)
         case measure => omega
         case rel => exact ⟨j + 1, by omega, by go_num, HB10⟩
       ·go_wp2_with fail
        go_ret
        exact ⟨rfl, below_step HB7W.out (below_step HB9.out HR2.out)⟩
   ·have hj1 : (jc == 0) = false := beq_eq_false_iff_ne.2 hj
    have hj2 : (jc != 0) = true := by simp [bne, hj1]
    clear hj HJo0
    go_wp2_with (first
     | (go_at_call 19; refine (HC.out W2 HI2.out).mono ?_; rintro e' W3 ⟨rfl, hb3⟩; have HB3 : Hid (Below W.heap.size W W3) := Lib.hid (below_step HB2.out hb3); have HI3 := Lib.hid (HI2.out.on hb3); have HBp3 := Lib.hid (HBp2.out.below hb3 hbl); clear hb3 q0 q1; have q0 : W3.cell? ⟨b, 0, none⟩ = some (.slice Ag p.globals.length cg) := (by rw [HBp3.out.cell]; rfl); have q1 : W3.cell? ⟨b, 1, none⟩ = some (.slice Ap p.procs.length cp) := (by rw [HBp3.out.cell]; rfl))
     | (go_at_call 25; refine (HJ.out W3 HI3.out).mono ?_; rintro e' W4 ⟨rfl, hb4⟩))
    go_ret
    exact ⟨rfl, below_step HB3.out hb4⟩
  ·have hr1 : (rc == 0) = false := beq_eq_false_iff_ne.2 hr
   have hr2 : (rc != 0) = true := by simp [bne, hr1]
   clear hr HOk0
   go_wp2_with (go_at_call 19; refine (HC.out W2 HI2.out).mono ?_; rintro e' W3 ⟨rfl, hb3⟩)
   go_ret
   exact ⟨rfl, below_step HB2.out hb3⟩
end Go.Proofs.Ytehpinnmalpgpaa
