/- Texts, merged by a program; only what is used. -/
import Derived.Test.YtimejkbmfbjomaaGreatKX1
import Derived.Test.YtimejkbmfbjomaaGreatKX2
import Derived.Test.YtimejkbmfbjomaaGreatKX3
import Derived.Test.YtimejkbmfbjomaaGreatKX4
import Derived.Test.YtimejkbmfbjomaaGreatKX5
import Derived.Test.YtimejkbmfbjomaaGreatKX6
import Derived.Test.YtimejkbmfbjomaaGreatKX7
import Derived.Test.YtimejkbmfbjomaaGreatKX8
import Derived.Test.YtimejkbmfbjomaaGreatKX9
import Derived.Test.YtimejkbmfbjomaaGreatKX10
import Derived.Test.YtimejkbmfbjomaaGreatKX11
import Derived.Test.YtimejkbmfbjomaaGreatKX12
import Derived.Test.YtimejkbmfbjomaaGreatKX13
import Derived.Test.YtimejkbmfbjomaaGreatKX14
import Derived.Test.YtimejkbmfbjomaaGreatKX15
import Derived.Test.YtimejkbmfbjomaaGreatKX16
import Derived.Test.YtimejkbmfbjomaaGreatKX17
import Derived.Test.YtimejkbmfbjomaaGreatKX18
import Derived.Test.YtimejkbmfbjomaaGreatKX19
import Derived.Test.YtimejkbmfbjomaaGreatKX20
import Derived.Test.YtimejkbmfbjomaaGreatKX21
import Derived.Test.YtimejkbmfbjomaaGreatKX22
import Derived.Test.YtimejkbmfbjomaaGreatKX23
import Derived.Test.YtimejkbmfbjomaaGreatKX24
import Derived.Test.YtimejkbmfbjomaaGreatKX25
import Derived.Test.YtimejkbmfbjomaaGreatKX26
import Derived.Test.YtimejkbmfbjomaaGreatKX28
import Derived.Test.YtimejkbmfbjomaaGreatKX29
import Derived.Test.YtimejkbmfbjomaaGreatKX30
import Derived.Test.YtimejkbmfbjomaaGreatKX31
import Derived.Test.YtimejkbmfbjomaaGreatKX32
import Derived.Test.YtimejkbmfbjomaaGreatKX33
namespace Go.Proofs.YtimejkbmfbjomaaGreat
open Go.ChangeShapes Go.WideShapes Go.ChangeAt Go.RowKit Go.Deep
set_option linter.unusedVariables false
set_option linter.unusedSimpArgs false
set_option maxHeartbeats 8000000 in
set_option maxRecDepth 100000 in
theorem rcallFits_any {w : World} {Q : Nat → Prop} {p : Pg} {c0 c1 : Value} {s : S} {cs : List Value} (h : ProgI w Q p [c0, c1]) (hs : StmtI w Q s cs) (W : World) (hI : In Q w W) :
 Calls Tryz.prog 108 #[.agg #[c0, c1], .agg cs.toArray] W (MayOk (fitsB p.procs s) W) := by
 have HNm0 := Lib.hid (fun nm V hV => rnamed_any h nm V hV)
 obtain ⟨Ag, cg, Ap, cp, rfl, rfl, _⟩ := prog_open h
 obtain ⟨id, kind, labels, nm, proc, x, has, args, th, el, L, lc, y0, y1, y2, X, xn, xc, R, rc, T, tc, U, uc, rfl, rfl, hid, hkind, hnm, hproc, hl, hx, ha, hth, hel⟩ := stmt_open hs
 have HA := Lib.hid ha
 have HI := Lib.hid hI
 have HNm := Lib.hid (fun V hV => HNm0.out proc V hV)
 have HK : Hid (fitsB p.procs (.mk id kind labels nm proc x has args th el) = (kind == 4 && ((namP p proc).2 && tks (namP p proc).1.params args))) := Lib.hid (by
  unfold fitsB namP
  simp only [S.kind, S.proc, S.args]
  cases p.procs.find? (isQ proc) <;> rfl)
 obtain ⟨_, ha1, ha2, _⟩ := slice_len ha
 have hkb := hkind
 unfold i64 at hkb
 clear h hs hI hid hkind hnm hproc hl hx ha hth hel HNm0
 generalize fitsB p.procs (.mk id kind labels nm proc x has args th el) = res at HK
 generalize namP p proc = r at HNm HK
 obtain ⟨mq, mb⟩ := r
 simp only at HK
 simp only [List.toArray]
 go_enter Tryz.func108, Tryz.ntmps108
 go_upto_region 1 with fail
 have HB0 : Hid (Below W.heap.size W ((W.alloc (.cells #[.slice Ag p.globals.length cg, .slice Ap p.procs.length cp] 25)).alloc (.cells #[.int .i64 id, .int .i64 kind, .slice L labels.length lc, .string nm, .string proc, .int .i64 y0, .int .i64 y1, .string y2, .slice X xn xc, .bool has, .slice R args.length rc, .slice T th.length tc, .slice U el.length uc] 49))) := Lib.hid (below_two _ _)
 have HBp : Hid (Blk ((W.alloc (.cells #[.slice Ag p.globals.length cg, .slice Ap p.procs.length cp] 25)).alloc (.cells #[.int .i64 id, .int .i64 kind, .slice L labels.length lc, .string nm, .string proc, .int .i64 y0, .int .i64 y1, .string y2, .slice X xn xc, .bool has, .slice R args.length rc, .slice T th.length tc, .slice U el.length uc] 49)) W.heap.size 25 #[.slice Ag p.globals.length cg, .slice Ap p.procs.length cp]) := Lib.hid ((Blk.new _ _ _).alloc _)
 have HBs : Hid (Blk ((W.alloc (.cells #[.slice Ag p.globals.length cg, .slice Ap p.procs.length cp] 25)).alloc (.cells #[.int .i64 id, .int .i64 kind, .slice L labels.length lc, .string nm, .string proc, .int .i64 y0, .int .i64 y1, .string y2, .slice X xn xc, .bool has, .slice R args.length rc, .slice T th.length tc, .slice U el.length uc] 49)) (W.heap.size + 1) 49 #[.int .i64 id, .int .i64 kind, .slice L labels.length lc, .string nm, .string proc, .int .i64 y0, .int .i64 y1, .string y2, .slice X xn xc, .bool has, .slice R args.length rc, .slice T th.length tc, .slice U el.length uc]) := Lib.hid (by have := Blk.new (W.alloc (.cells #[.slice Ag p.globals.length cg, .slice Ap p.procs.length cp] 25)) 49 #[.int .i64 id, .int .i64 kind, .slice L labels.length lc, .string nm, .string proc, .int .i64 y0, .int .i64 y1, .string y2, .slice X xn xc, .bool has, .slice R args.length rc, .slice T th.length tc, .slice U el.length uc]; rw [World.size_alloc] at this; exact this)
 generalize World.alloc _ _ = V at HB0 HBp HBs ⊢
 have HI0 := Lib.hid (HI.out.on HB0.out)
 generalize hbe : W.heap.size = b at HBp HBs ⊢
 generalize hfe : b + 1 = f at HBs ⊢
 clear hbe hfe
 have q0 : V.cell? ⟨b, 0, none⟩ = some (.slice Ag p.globals.length cg) := by rw [HBp.out.cell]; rfl
 have q1 : V.cell? ⟨b, 1, none⟩ = some (.slice Ap p.procs.length cp) := by rw [HBp.out.cell]; rfl
 have s4 : V.cell? ⟨f, 4, none⟩ = some (.string proc) := by rw [HBs.out.cell]; rfl
 have hfl := HBs.out.lt
 go_upto_region 2 with (go_at_call 87; refine (HNm.out V HI0.out).mono ?_; rintro e w9 ⟨d0, d1, d2, d3, d4, rfl, hb9, hp9⟩; obtain ⟨vp, vv, vb, ve, hc, hnm, hpp, hvv, hbb, hee⟩ := hp9; simp only [List.cons.injEq, and_true] at hc; obtain ⟨rfl, rfl, rfl, rfl, rfl⟩ := hc; obtain ⟨M1, k1, rfl, _, _⟩ := hpp.shape; obtain ⟨M2, k2, rfl, _, _⟩ := hvv.shape; obtain ⟨M3, k3, rfl, _⟩ := hbb.shape; obtain ⟨M4, k4, rfl, _⟩ := hee.shape; have HPp := Lib.hid hpp; clear hnm hpp hvv hbb hee)
 generalize mq.nm = mn at *
 generalize hm1 : mq.params.length = m1 at *
 generalize mq.vars.length = m2 at *
 generalize mq.body.length = m3 at *
 generalize mq.end_.length = m4 at *
 have HM1 := Lib.hid hm1
 clear hm1
 have HB9 : Hid (Below V.heap.size V (w9.alloc (.cells #[.string mn, .slice M1 m1 k1, .slice M2 m2 k2, .slice M3 m3 k3, .slice M4 m4 k4] 39))) := Lib.hid (below_stepA hb9 _)
 have HBm : Hid (Blk (w9.alloc (.cells #[.string mn, .slice M1 m1 k1, .slice M2 m2 k2, .slice M3 m3 k3, .slice M4 m4 k4] 39)) w9.heap.size 39 #[.string mn, .slice M1 m1 k1, .slice M2 m2 k2, .slice M3 m3 k3, .slice M4 m4 k4]) := Lib.hid (Blk.new _ _ _)
 clear hb9 q0 q1 s4 HNm
 generalize World.alloc w9 _ = V9 at HB9 HBm ⊢
 generalize w9.heap.size = bm at HBm ⊢
 have HI9 := Lib.hid (HI0.out.on HB9.out)
 have HBs9 := Lib.hid (HBs.out.below HB9.out hfl)
 have HBW := Lib.hid (below_step HB0.out HB9.out)
 clear HI0 HBp HBs HB0 HB9 hfl HI
 have hfl := HBs9.out.lt
 have hml := HBm.out.lt
 have s1 : V9.cell? ⟨f, 1, none⟩ = some (.int .i64 kind) := by rw [HBs9.out.cell]; rfl
 have s10 : V9.cell? ⟨f, 10, none⟩ = some (.slice R args.length rc) := by rw [HBs9.out.cell]; rfl
 have z1 : V9.cell? ⟨bm, 1, none⟩ = some (.slice M1 m1 k1) := by rw [HBm.out.cell]; rfl
 by_cases hk4 : kind = 4
 ·subst hk4
  cases mb with
  | false =>
   have HK2 : Hid (res = false) := Lib.hid (by rw [HK.out]; rfl)
   clear HK
   go_wp2_with fail
   go_ret
   exact ⟨ret_bool HK2.out.symm, HBW.out⟩
  | true =>
   have HK2 : Hid (res = tks mq.params args) := Lib.hid (by rw [HK.out]; rfl)
   clear HK
   by_cases hle : args.length = m1
   ·have hle1 : (((args.length : Nat) : Int) == ((m1 : Nat) : Int)) = true := by simp [hle]
    have hle2 : (((args.length : Nat) : Int) != ((m1 : Nat) : Int)) = false := by simp [bne, hle]
    have HLe := Lib.hid hle
    clear hle
    go_upto_region 5 with fail
    clear s1 s10 z1
    go_loopg [34] args.length (fun kk iv wr => ∃ (k : Nat), k + kk = args.length ∧ iv = .int .i64 k ∧ Hid (Below V9.heap.size V9 wr) ∧ Hid ((mq.params.map Pa.ref).take k = (args.map Ar.ref).take k))
    case atStart => exact ⟨0, by omega, rfl, Lib.hid (Below.refl _ _), Lib.hid (by simp)⟩
    case round =>
     obtain ⟨k, hk, rfl, HBr, HT⟩ := hrel
     have HIr := Lib.hid (HI9.out.on HBr.out)
     by_cases hlt : k < args.length
     ·have hk2 : k < mq.params.length := by rw [HM1.out, ← HLe.out]; exact hlt
      obtain ⟨a2, o1, n1, s1, A1, l1, c1, rfl, _, ⟨r0, r1, r2, r3, r4, r5, _⟩, _, _⟩ := arg_at HA.out HIr.out hlt
      have HPp2 : Hid (SliceI w Q 2 ParI mq.params (.slice M1 mq.params.length k1)) := Lib.hid (by rw [HM1.out]; exact HPp.out)
      obtain ⟨a1, rfl, _, ⟨p0, p1, _⟩, _⟩ := par_at HPp2.out HIr.out hk2
      have hm1' : k < (mq.params.map Pa.ref).length := by simpa using hk2
      have hm2' : k < (args.map Ar.ref).length := by simpa using hlt
      have HSt : Hid (mq.params[k].ref = args[k].ref → (mq.params.map Pa.ref).take (k + 1) = (args.map Ar.ref).take (k + 1)) := Lib.hid (fun e => take_eq_step hm1' hm2' HT.out (by simpa using e))
      have HNe : Hid (mq.params[k].ref ≠ args[k].ref → tks mq.params args = false) := Lib.hid (fun e => decide_eq_false (ne_of_at hm1' hm2' (by simpa using e)))
      generalize mq.params[k] = xp at p0 p1 HSt HNe
      generalize args[k] = ya at r0 r1 HSt HNe
      obtain ⟨xn', xr⟩ := xp
      obtain ⟨yr, yn, yx⟩ := ya
      simp only at p0 p1 r0 r1 HSt HNe
      have hkm : (k : Int) < (m1 : Int) := by have := HM1.out; omega
      have hkm2 : k < m1 := by have := HM1.out; omega
      have HBsr := Lib.hid (HBs9.out.below HBr.out hfl)
      have HBmr := Lib.hid (HBm.out.below HBr.out hml)
      have s10 : wr.cell? ⟨f, 10, none⟩ = some (.slice (some a2) args.length rc) := by rw [HBsr.out.cell]; rfl
      have z1 : wr.cell? ⟨bm, 1, none⟩ = some (.slice (some a1) m1 k1) := by rw [HBmr.out.cell]; rfl
      clear hm1' hm2' p0 r1 r2 r3 r4 r5
      by_cases hr : xr = yr
      ·subst hr
       have HS2 := Lib.hid (HSt.out rfl)
       clear HSt HNe
       cases xr
       all_goals
        go_upto_region 7 with fail
        go_quiet (fail)
        go_wp2_with fail
        go_roundg (args.length - k - 1)
        case measure => omega
        case rel => exact ⟨k + 1, by omega, by go_num, Lib.hid (below_drewN HBr.out _), HS2⟩
      ·have HN2 := Lib.hid (HNe.out hr)
       clear HSt HNe
       cases xr
       all_goals
        cases yr
        all_goals first
         | exact absurd rfl hr
         | (clear hr
            go_upto_region 7 with fail
            go_quiet (fail)
            go_wp2_with fail
            go_ret
            exact ⟨ret_bool (by rw [HK2.out, HN2.out]), below_step HBW.out (below_drewN HBr.out _)⟩)
     ·have HN : Hid (tks mq.params args = true) := Lib.hid (by
       have h := HT.out
       rw [List.take_of_length_le (by simp; have := HM1.out; have := HLe.out; omega), List.take_of_length_le (by simp; omega)] at h
       exact decide_eq_true h)
      go_wp2_with fail
      go_ret
      exact ⟨ret_bool (by rw [HK2.out, HN.out]), below_step HBW.out HBr.out⟩
   ·have hle1 : (((args.length : Nat) : Int) == ((m1 : Nat) : Int)) = false := beq_eq_false_iff_ne.2 (by omega)
    have hle2 : (((args.length : Nat) : Int) != ((m1 : Nat) : Int)) = true := by simp [bne, hle1]
    have HK3 : Hid (res = false) := Lib.hid (by
     rw [HK2.out]
     exact decide_eq_false (fun e => hle (by have := congrArg List.length e; simp at this; rw [HM1.out] at this; exact this.symm)))
    clear hle HK2
    go_wp2_with fail
    go_ret
    exact ⟨ret_bool HK3.out.symm, HBW.out⟩
 ·have hk5 : (kind == 4) = false := beq_eq_false_iff_ne.2 hk4
  have hk6 : (kind != 4) = true := by simp [bne, hk5]
  have HK2 : Hid (res = false) := Lib.hid (by rw [HK.out, hk5]; rfl)
  clear hk4 HK
  go_wp2_with fail
  go_ret
  exact ⟨ret_bool HK2.out.symm, HBW.out⟩
end Go.Proofs.YtimejkbmfbjomaaGreat
namespace Go.Proofs.YtimejkbmfbjomaaGreat
open Go.ChangeShapes Go.WideShapes Go.ChangeAt Go.RowKit Go.Deep
set_option linter.unusedVariables false
set_option linter.unusedSimpArgs false
theorem arL_eq {ps : List Pr} : ∀ (l : List Pr), (∀ q ∈ l, ∀ s ∈ preSL q.body, s.id ≠ 0) → arL ps l = if fstB (misB ps) (l.flatMap (fun q => preSL q.body)) = 0 then (0, 0) else (6, fstB (misB ps) (l.flatMap (fun q => preSL q.body)))
 | [], _ => rfl
 | q :: l, h => by
  rw [arL, List.flatMap_cons, fstB_app (h q (List.mem_cons_self ..)), arL_eq l (fun q hq => h q (List.mem_cons_of_mem _ hq))]
  by_cases h0 : fstB (misB ps) (preSL q.body) = 0
  ·simp [h0]
  ·simp [h0]
def rarP (p : Pg) : Int × Int := if fstB (misB p.procs) ((allOf p).map It.s) = 0 then (0, 0) else (6, fstB (misB p.procs) ((allOf p).map It.s))
theorem rarP_eq {p : Pg} (h : mayP p = true) : rarP p = arL p.procs p.procs := by
 rw [arL_eq p.procs (fun q hq s hs => by have := may_ids h q hq s hs; omega)]
 unfold rarP
 rw [all_map h]
set_option maxHeartbeats 8000000 in
set_option maxRecDepth 100000 in
theorem rarity_any {w : World} {Q : Nat → Prop} {p : Pg} {c0 c1 : Value} (h : ProgI w Q p [c0, c1]) (hm : mayP p = true) (W : World) (hI : In Q w W) :
 Calls Tryz.prog 102 #[.agg #[c0, c1]] W (ChRes (rarP p) W) := by
 have HAl := Lib.hid (fun V hV => All_any (W := V) h hV)
 have HCf := Lib.hid (fun s cs (hs : StmtI w Q s cs) V hV => rcallFits_any h hs V hV)
 obtain ⟨Ag, cg, Ap, cp, rfl, rfl, _⟩ := prog_open h
 have HI := Lib.hid hI
 have HIds := Lib.hid (all_ids hm)
 have HK : Hid (rarP p = if fstB (misB p.procs) ((allOf p).map It.s) = 0 then (0, 0) else (6, fstB (misB p.procs) ((allOf p).map It.s))) := Lib.hid rfl
 clear h hI hm
 generalize rarP p = res at HK
 generalize allOf p = its at HAl HIds HK
 go_enter Tryz.func102, Tryz.ntmps102
 go_upto_region 1 with fail
 have HB0 : Hid (Below W.heap.size W ((W.alloc (.cells #[.slice Ag p.globals.length cg, .slice Ap p.procs.length cp] 25)).alloc (.cells #[.int .i64 0, .int .i64 0] 34))) := Lib.hid (below_two _ _)
 have HBp : Hid (Blk ((W.alloc (.cells #[.slice Ag p.globals.length cg, .slice Ap p.procs.length cp] 25)).alloc (.cells #[.int .i64 0, .int .i64 0] 34)) W.heap.size 25 #[.slice Ag p.globals.length cg, .slice Ap p.procs.length cp]) := Lib.hid ((Blk.new _ _ _).alloc _)
 have HBf : Hid (Blk ((W.alloc (.cells #[.slice Ag p.globals.length cg, .slice Ap p.procs.length cp] 25)).alloc (.cells #[.int .i64 0, .int .i64 0] 34)) (W.heap.size + 1) 34 #[.int .i64 0, .int .i64 0]) := Lib.hid (by have := Blk.new (W.alloc (.cells #[.slice Ag p.globals.length cg, .slice Ap p.procs.length cp] 25)) 34 #[.int .i64 0, .int .i64 0]; rw [World.size_alloc] at this; exact this)
 generalize World.alloc _ _ = V at HB0 HBp HBf ⊢
 have HI0 := Lib.hid (HI.out.on HB0.out)
 have hwb : W.heap.size ≤ W.heap.size + 1 := by omega
 generalize hbe : W.heap.size = b at HBp HBf hwb ⊢
 generalize hfe : b + 1 = f at HBf hwb ⊢
 have hWf : W.heap.size ≤ f := by omega
 clear hbe hfe
 have q0 : V.cell? ⟨b, 0, none⟩ = some (.slice Ag p.globals.length cg) := by rw [HBp.out.cell]; rfl
 have q1 : V.cell? ⟨b, 1, none⟩ = some (.slice Ap p.procs.length cp) := by rw [HBp.out.cell]; rfl
 have hbl := HBp.out.lt
 have hfl := HBf.out.lt
 go_upto_region 2 with (go_at_call 68; refine (HAl.out V HI0.out).mono ?_; rintro e w1 ⟨X1, n1, k1, rfl, hal⟩; obtain ⟨rfl, hn1, hk1, hsl⟩ := hal.slice)
 have HSl := Lib.hid hsl
 have HB1 := Lib.hid (below_step HB0.out hal.below)
 have HI1 := Lib.hid hal.inn
 have HBp1 := Lib.hid (HBp.out.below hal.below hbl)
 have HBf1 := Lib.hid (HBf.out.below hal.below hfl)
 have HIl : Hid (In (fun b => V.heap.size ≤ b ∧ b < w1.heap.size) w1 w1) := Lib.hid ⟨fun b h => h.2, fun _ _ => rfl⟩
 clear q0 q1 hal hsl HB0 HBp HBf HI0 hbl hfl HAl
 have hbl := HBp1.out.lt
 have hfl := HBf1.out.lt
 generalize (fun b => V.heap.size ≤ b ∧ b < w1.heap.size) = T0 at HSl HIl
 go_loopg [8] its.length (fun kk iv wr => ∃ (k : Nat), k + kk = its.length ∧ iv = .int .i64 k ∧ Hid (Below w1.heap.size w1 wr) ∧ Hid (fstB (misB p.procs) ((its.drop k).map It.s) = fstB (misB p.procs) (its.map It.s)))
 case atStart => exact ⟨0, by omega, rfl, Lib.hid (Below.refl _ _), Lib.hid rfl⟩
 case round =>
  obtain ⟨k, hk, rfl, HBr, HA⟩ := hrel
  have HIr := Lib.hid (HI1.out.on HBr.out)
  by_cases hlt : k < its.length
  ·obtain ⟨a2, id, kind, labels, nm, proc, x, has, args, th, el, L, lc, y0, y1, y2, X, xn, xc, R, rc, T, tc, U, uc, dp, inn, els, rfl, hq2, hmk, hrow2, hid, hkind, hst⟩ := item_at HSl.out (HIl.out.on HBr.out) hlt
   obtain ⟨hi1, hi2⟩ := HIds.out _ (List.getElem_mem hlt)
   have HF3 : Hid (fstB (misB p.procs) (its.map It.s) = if misB p.procs its[k].s = true then its[k].s.id else fstB (misB p.procs) ((its.drop (k + 1)).map It.s)) := Lib.hid (by rw [← HA.out, List.drop_eq_getElem_cons hlt, List.map_cons, fstB_cons])
   rw [hmk] at HF3 hi1 hi2
   have hidb : 1 ≤ id := hi1
   have hidc : id ≤ 200 := hi2
   have HCs := Lib.hid (fun V hV => HCf.out _ _ hst V hV)
   simp only [List.toArray] at HCs
   obtain ⟨r, hr⟩ : ∃ r, r = fitsB p.procs (.mk id kind labels nm proc x has args th el) := ⟨_, rfl⟩
   obtain ⟨d, hd⟩ : ∃ d, d = misB p.procs (.mk id kind labels nm proc x has args th el) := ⟨_, rfl⟩
   have HD : Hid (d = (kind == 4 && !r)) := Lib.hid (by rw [hd, hr]; rfl)
   have HF4 : Hid (fstB (misB p.procs) (its.map It.s) = if d = true then id else fstB (misB p.procs) ((its.drop (k + 1)).map It.s)) := Lib.hid (by rw [hd]; exact HF3.out)
   rw [← hr] at HCs
   have hkb := hkind
   unfold i64 at hkb
   obtain ⟨p0, p1, p2, p3, p4, p5, p6, p7, p8, p9, p10, p11, p12, p13, p14, p15, _⟩ := hrow2
   clear hr hd HF3 hmk hst hid hkind hi1 hi2 hq2 HA
   go_upto_region 4 with fail
   have HBi : Hid (Blk (wr.alloc (.cells #[.int .i64 id, .int .i64 kind, .slice L labels.length lc, .string nm, .string proc, .int .i64 y0, .int .i64 y1, .string y2, .slice X xn xc, .bool has, .slice R args.length rc, .slice T th.length tc, .slice U el.length uc, .int .i64 dp, .int .i64 inn, .bool els] 51)) wr.heap.size 51 #[.int .i64 id, .int .i64 kind, .slice L labels.length lc, .string nm, .string proc, .int .i64 y0, .int .i64 y1, .string y2, .slice X xn xc, .bool has, .slice R args.length rc, .slice T th.length tc, .slice U el.length uc, .int .i64 dp, .int .i64 inn, .bool els]) := Lib.hid (Blk.new _ _ _)
   have HB4 : Hid (Below w1.heap.size w1 (wr.alloc (.cells #[.int .i64 id, .int .i64 kind, .slice L labels.length lc, .string nm, .string proc, .int .i64 y0, .int .i64 y1, .string y2, .slice X xn xc, .bool has, .slice R args.length rc, .slice T th.length tc, .slice U el.length uc, .int .i64 dp, .int .i64 inn, .bool els] 51))) := Lib.hid (below_stepA HBr.out _)
   have HI4 : Hid (In Q w (wr.alloc (.cells #[.int .i64 id, .int .i64 kind, .slice L labels.length lc, .string nm, .string proc, .int .i64 y0, .int .i64 y1, .string y2, .slice X xn xc, .bool has, .slice R args.length rc, .slice T th.length tc, .slice U el.length uc, .int .i64 dp, .int .i64 inn, .bool els] 51))) := Lib.hid (HIr.out.alloc _)
   clear p0 p1 p2 p3 p4 p5 p6 p7 p8 p9 p10 p11 p12 p13 p14 p15 HIr HBr
   generalize World.alloc wr _ = V4 at HBi HB4 HI4 ⊢
   generalize wr.heap.size = bi at HBi ⊢
   have hil := HBi.out.lt
   have HBp4 := Lib.hid (HBp1.out.below HB4.out hbl)
   have q0 : V4.cell? ⟨b, 0, none⟩ = some (.slice Ag p.globals.length cg) := by rw [HBp4.out.cell]; rfl
   have q1 : V4.cell? ⟨b, 1, none⟩ = some (.slice Ap p.procs.length cp) := by rw [HBp4.out.cell]; rfl
   have s0 : V4.cell? ⟨bi, 0, none⟩ = some (.int .i64 id) := by rw [HBi.out.cell]; rfl
   have s1 : V4.cell? ⟨bi, 1, none⟩ = some (.int .i64 kind) := by rw [HBi.out.cell]; rfl
   have s2 : V4.cell? ⟨bi, 2, none⟩ = some (.slice L labels.length lc) := by rw [HBi.out.cell]; rfl
   have s3 : V4.cell? ⟨bi, 3, none⟩ = some (.string nm) := by rw [HBi.out.cell]; rfl
   have s4 : V4.cell? ⟨bi, 4, none⟩ = some (.string proc) := by rw [HBi.out.cell]; rfl
   have s5 : V4.cell? ⟨bi, 5, none⟩ = some (.int .i64 y0) := by rw [HBi.out.cell]; rfl
   have s6 : V4.cell? ⟨bi, 6, none⟩ = some (.int .i64 y1) := by rw [HBi.out.cell]; rfl
   have s7 : V4.cell? ⟨bi, 7, none⟩ = some (.string y2) := by rw [HBi.out.cell]; rfl
   have s8 : V4.cell? ⟨bi, 8, none⟩ = some (.slice X xn xc) := by rw [HBi.out.cell]; rfl
   have s9 : V4.cell? ⟨bi, 9, none⟩ = some (.bool has) := by rw [HBi.out.cell]; rfl
   have s10 : V4.cell? ⟨bi, 10, none⟩ = some (.slice R args.length rc) := by rw [HBi.out.cell]; rfl
   have s11 : V4.cell? ⟨bi, 11, none⟩ = some (.slice T th.length tc) := by rw [HBi.out.cell]; rfl
   have s12 : V4.cell? ⟨bi, 12, none⟩ = some (.slice U el.length uc) := by rw [HBi.out.cell]; rfl
   go_cut [22] from 12 to 21 (fun s wx => s = .bool d ∧ Hid (Below V4.heap.size V4 wx))
   case first =>
    by_cases hk4 : kind = 4
    ·subst hk4
     have HB2 : Hid (d = !r) := Lib.hid HD.out
     clear HD
     go_wp2_with (go_at_call 108; refine (HCs.out V4 HI4.out).mono ?_; rintro e w5 ⟨rfl, hb5⟩)
     go_meet
     exact ⟨by rw [HB2.out], Lib.hid hb5⟩
    ·have hk5 : (kind == 4) = false := beq_eq_false_iff_ne.2 hk4
     have HB2 : Hid (d = false) := Lib.hid (by rw [HD.out, hk5]; rfl)
     clear hk4 HD
     go_wp2_with fail
     go_meet
     exact ⟨by rw [HB2.out], Lib.hid (Below.refl _ _)⟩
   case rest =>
    obtain ⟨rfl, HC⟩ := hcut
    have HBi5 := Lib.hid (HBi.out.below HC.out hil)
    have HB5 := Lib.hid (below_step HB4.out HC.out)
    have HBf5 := Lib.hid (HBf1.out.below HB5.out hfl)
    have HBW5 := Lib.hid (below_step HB1.out HB5.out)
    clear q0 q1 s0 s1 s2 s3 s4 s5 s6 s7 s8 s9 s10 s11 s12 HC HB4 HI4 HBi hil HD HCs
    cases d with
    | true =>
     have HAn : Hid (res = (6, id)) := Lib.hid (by
      have h1 : fstB (misB p.procs) (its.map It.s) = id := by rw [HF4.out]; rfl
      rw [HK.out, h1, if_neg (by omega)])
     clear HF4 HK
     have s0 : wc.cell? ⟨bi, 0, none⟩ = some (.int .i64 id) := by rw [HBi5.out.cell]; rfl
     go_wp2_with (go_at_call 63; refine (rfault_any 6 id wc).mono ?_; rintro e wf ⟨rfl, hbf_⟩; have HB_ := Lib.hid (below_step HBW5.out hbf_); have HBf_ := Lib.hid (HBf5.out.below hbf_ HBf5.out.lt); have f0_ := HBf_.out.frozen 0; have f1_ := HBf_.out.frozen 1; have y0_ : wf.cell? ⟨f, 0, none⟩ = some (.int .i64 0) := (by rw [HBf_.out.cell]; rfl); have y1_ : wf.cell? ⟨f, 1, none⟩ = some (.int .i64 0) := (by rw [HBf_.out.cell]; rfl); clear hbf_)
     (try simp only [Exit.inBlock, Exit.then])
     refine bodyPost_ret (results_c1 rfl _ _ f 34 #[.int .i64 6, .int .i64 id] (0, 0) _ rfl (fault_end HBf_.out) Tryz.underlying34 rfl (by kernel_rfl)) rfl ?_
     exact ⟨by rw [HAn.out], below_setc (below_setc HB_.out hWf _) hWf _⟩
    | false =>
     have HF5 : Hid (fstB (misB p.procs) (its.map It.s) = fstB (misB p.procs) ((its.drop (k + 1)).map It.s)) := Lib.hid HF4.out
     clear HF4
     go_wp2_with fail
     go_roundg (its.length - k - 1)
     case measure => omega
     case rel => exact ⟨k + 1, by omega, by go_num, HB5, Lib.hid HF5.out.symm⟩
  ·have HFe : Hid (res = (0, 0)) := Lib.hid (by
    have h1 : fstB (misB p.procs) (its.map It.s) = 0 := by rw [← HA.out, List.drop_of_length_le (by omega)]; rfl
    rw [HK.out, h1]; rfl)
   have HBfr := Lib.hid (HBf1.out.below HBr.out hfl)
   have HBWr := Lib.hid (below_step HB1.out HBr.out)
   have f0_ := HBfr.out.frozen 0
   have f1_ := HBfr.out.frozen 1
   have y0_ : wr.cell? ⟨f, 0, none⟩ = some (.int .i64 0) := by rw [HBfr.out.cell]; rfl
   have y1_ : wr.cell? ⟨f, 1, none⟩ = some (.int .i64 0) := by rw [HBfr.out.cell]; rfl
   go_wp2_with fail
   (try simp only [Exit.inBlock, Exit.then])
   refine bodyPost_ret (results_c1 rfl _ _ f 34 #[.int .i64 0, .int .i64 0] (0, 0) _ rfl (fault_end HBfr.out) Tryz.underlying34 rfl (by kernel_rfl)) rfl ?_
   exact ⟨by rw [HFe.out], below_setc (below_setc HBWr.out hWf _) hWf _⟩
set_option maxHeartbeats 4000000 in
set_option maxRecDepth 100000 in
theorem rArity_any {w : World} {Q : Nat → Prop} {p : Pg} {c0 c1 : Value} (h : ProgI w Q p [c0, c1]) (hsm : SmG p) (W : World) (hI : In Q w W) :
 Calls Tryz.prog 62 #[.agg #[c0, c1]] W (ChRes (arP p) W) := by
 have HS := Lib.hid (fun V hV => rScope_any h hsm V hV)
 have HR := Lib.hid (fun hm V hV => rarity_any h hm V hV)
 have HRe := Lib.hid (fun hm => rarP_eq (p := p) hm)
 obtain ⟨Ag, cg, Ap, cp, rfl, rfl, _⟩ := prog_open h
 have HI := Lib.hid hI
 have HOk := Lib.hid (chk_ok (p := p))
 have HK : Hid (arP p = if (chkP p).1 = 0 then arL p.procs p.procs else (1, 0)) := Lib.hid rfl
 have hff : ∀ (a c : Int) (w : World), (Instr.field 34 (.agg #[.int .i64 a, .int .i64 c]) 0).run Tryz.prog w = .ok (.int .i64 a) w := fun _ _ _ => by kernel_rfl
 clear h hI hsm
 generalize chkP p = r at HS HK HOk
 obtain ⟨rc, ri⟩ := r
 simp only at HK HOk
 go_enter Tryz.func62, Tryz.ntmps62
 go_upto_region 1 with fail
 have HB0 : Hid (Below W.heap.size W ((W.alloc (.cells #[.slice Ag p.globals.length cg, .slice Ap p.procs.length cp] 25)).alloc (.cells #[.int .i64 0, .int .i64 0] 34))) := Lib.hid (below_two _ _)
 have HBp : Hid (Blk ((W.alloc (.cells #[.slice Ag p.globals.length cg, .slice Ap p.procs.length cp] 25)).alloc (.cells #[.int .i64 0, .int .i64 0] 34)) W.heap.size 25 #[.slice Ag p.globals.length cg, .slice Ap p.procs.length cp]) := Lib.hid ((Blk.new _ _ _).alloc _)
 have HBf : Hid (Blk ((W.alloc (.cells #[.slice Ag p.globals.length cg, .slice Ap p.procs.length cp] 25)).alloc (.cells #[.int .i64 0, .int .i64 0] 34)) (W.heap.size + 1) 34 #[.int .i64 0, .int .i64 0]) := Lib.hid (by have := Blk.new (W.alloc (.cells #[.slice Ag p.globals.length cg, .slice Ap p.procs.length cp] 25)) 34 #[.int .i64 0, .int .i64 0]; rw [World.size_alloc] at this; exact this)
 generalize World.alloc _ _ = V at HB0 HBp HBf ⊢
 have HI0 := Lib.hid (HI.out.on HB0.out)
 have hwb : W.heap.size ≤ W.heap.size + 1 := by omega
 generalize hbe : W.heap.size = b at HBp HBf hwb ⊢
 generalize hfe : b + 1 = f at HBf hwb ⊢
 have hWf : W.heap.size ≤ f := by omega
 clear hbe hfe
 have q0 : V.cell? ⟨b, 0, none⟩ = some (.slice Ag p.globals.length cg) := by rw [HBp.out.cell]; rfl
 have q1 : V.cell? ⟨b, 1, none⟩ = some (.slice Ap p.procs.length cp) := by rw [HBp.out.cell]; rfl
 have hbl := HBp.out.lt
 have hfl := HBf.out.lt
 by_cases hr : rc = 0
 ·subst hr
  have hmy := (HOk.out rfl).may
  have HR2 := Lib.hid (fun V hV => HR.out hmy V hV)
  have HK2 : Hid (arP p = arL p.procs p.procs) := Lib.hid HK.out
  rw [HRe.out hmy, ← HK2.out] at HR2
  clear HK HOk HR HRe hmy
  generalize hres : arP p = res at HR2
  have HRs := Lib.hid hres
  clear hres
  obtain ⟨qc, qi⟩ := res
  go_upto_region 3 with (go_at_call 44; refine (HS.out V HI0.out).mono ?_; rintro e w1 ⟨rfl, hb1⟩)
  have HB1 := Lib.hid (below_step HB0.out hb1)
  have HI1 := Lib.hid (HI0.out.on hb1)
  have HBp1 := Lib.hid (HBp.out.below hb1 hbl)
  have HBf1 := Lib.hid (HBf.out.below hb1 hfl)
  clear q0 q1 hb1 HK2
  have q0 : w1.cell? ⟨b, 0, none⟩ = some (.slice Ag p.globals.length cg) := by rw [HBp1.out.cell]; rfl
  have q1 : w1.cell? ⟨b, 1, none⟩ = some (.slice Ap p.procs.length cp) := by rw [HBp1.out.cell]; rfl
  go_wp2_with (go_at_call 102; refine (HR2.out w1 HI1.out).mono ?_; rintro e w2 ⟨rfl, hb2⟩; have HB2 := Lib.hid (below_step HB1.out hb2); have HBf2 := Lib.hid (HBf1.out.below hb2 HBf1.out.lt); have f0_ := HBf2.out.frozen 0; have f1_ := HBf2.out.frozen 1; have y0_ : w2.cell? ⟨f, 0, none⟩ = some (.int .i64 0) := (by rw [HBf2.out.cell]; rfl); have y1_ : w2.cell? ⟨f, 1, none⟩ = some (.int .i64 0) := (by rw [HBf2.out.cell]; rfl); clear hb2)
  refine bodyPost_ret (results_c1 rfl _ _ f 34 #[.int .i64 qc, .int .i64 qi] (0, 0) _ rfl (fault_end HBf2.out) Tryz.underlying34 rfl (by kernel_rfl)) rfl ?_
  exact ⟨by rw [HRs.out], below_setc (below_setc HB2.out hWf _) hWf _⟩
 ·have HK2 : Hid (arP p = (1, 0)) := Lib.hid (by rw [HK.out, if_neg hr])
  have hr1 : (rc == 0) = false := beq_eq_false_iff_ne.2 hr
  have hr2 : (rc != 0) = true := by simp [bne, hr1]
  clear HK HOk hr HR HRe
  go_upto_if 6 with (go_at_call 44; refine (HS.out V HI0.out).mono ?_; rintro e w1 ⟨rfl, hb1⟩)
  have HB1 := Lib.hid (below_step HB0.out hb1)
  have HBf1 := Lib.hid (HBf.out.below hb1 hfl)
  clear q0 q1 hb1
  go_wp2_with (go_at_call 63; refine (rfault_any 1 0 w1).mono ?_; rintro e wf ⟨rfl, hbf_⟩; have HB_ := Lib.hid (below_step HB1.out hbf_); have HBf_ := Lib.hid (HBf1.out.below hbf_ HBf1.out.lt); have f0_ := HBf_.out.frozen 0; have f1_ := HBf_.out.frozen 1; have y0_ : wf.cell? ⟨f, 0, none⟩ = some (.int .i64 0) := (by rw [HBf_.out.cell]; rfl); have y1_ : wf.cell? ⟨f, 1, none⟩ = some (.int .i64 0) := (by rw [HBf_.out.cell]; rfl); clear hbf_)
  (try simp only [Exit.inBlock, Exit.then])
  refine bodyPost_ret (results_c1 rfl _ _ f 34 #[.int .i64 1, .int .i64 0] (0, 0) _ rfl (fault_end HBf_.out) Tryz.underlying34 rfl (by kernel_rfl)) rfl ?_
  exact ⟨by rw [HK2.out], below_setc (below_setc HB_.out hWf _) hWf _⟩
end Go.Proofs.YtimejkbmfbjomaaGreat
