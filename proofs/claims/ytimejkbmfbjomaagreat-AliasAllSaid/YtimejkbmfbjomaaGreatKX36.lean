/- Texts, merged by a program; only what is used. -/
import Derived.Test.YtimejkbmfbjomaaGreatKX1
import Derived.Test.YtimejkbmfbjomaaGreatKX2
import Derived.Test.YtimejkbmfbjomaaGreatKX3
import Derived.Test.YtimejkbmfbjomaaGreatKX4
import Derived.Test.YtimejkbmfbjomaaGreatKX5
import Derived.Test.YtimejkbmfbjomaaGreatKX6
import Derived.Test.YtimejkbmfbjomaaGreatKX7
import Derived.Test.YtimejkbmfbjomaaGreatKX8
import Derived.Test.YtimejkbmfbjomaaGreatKX9
import Derived.Test.YtimejkbmfbjomaaGreatKX10
import Derived.Test.YtimejkbmfbjomaaGreatKX11
import Derived.Test.YtimejkbmfbjomaaGreatKX12
import Derived.Test.YtimejkbmfbjomaaGreatKX13
import Derived.Test.YtimejkbmfbjomaaGreatKX14
import Derived.Test.YtimejkbmfbjomaaGreatKX15
import Derived.Test.YtimejkbmfbjomaaGreatKX16
import Derived.Test.YtimejkbmfbjomaaGreatKX17
import Derived.Test.YtimejkbmfbjomaaGreatKX18
import Derived.Test.YtimejkbmfbjomaaGreatKX19
import Derived.Test.YtimejkbmfbjomaaGreatKX20
import Derived.Test.YtimejkbmfbjomaaGreatKX21
import Derived.Test.YtimejkbmfbjomaaGreatKX22
import Derived.Test.YtimejkbmfbjomaaGreatKX23
import Derived.Test.YtimejkbmfbjomaaGreatKX24
import Derived.Test.YtimejkbmfbjomaaGreatKX25
import Derived.Test.YtimejkbmfbjomaaGreatKX26
import Derived.Test.YtimejkbmfbjomaaGreatKX27
import Derived.Test.YtimejkbmfbjomaaGreatKX28
import Derived.Test.YtimejkbmfbjomaaGreatKX29
import Derived.Test.YtimejkbmfbjomaaGreatKX30
import Derived.Test.YtimejkbmfbjomaaGreatKX31
import Derived.Test.YtimejkbmfbjomaaGreatKX32
import Derived.Test.YtimejkbmfbjomaaGreatKX33
import Derived.Test.YtimejkbmfbjomaaGreatKX34
import Derived.Test.YtimejkbmfbjomaaGreatKX35
namespace Go.Proofs.YtimejkbmfbjomaaGreat
open Go.ChangeShapes Go.WideShapes Go.ChangeAt Go.RowKit Go.Deep
set_option linter.unusedVariables false
set_option linter.unusedSimpArgs false
noncomputable def raB (p : Pg) (s : S) : Bool := fitsB p.procs s && apB p s
noncomputable def twB (p : Pg) (s : S) : Bool := s.kind == 4 && !raB p s
theorem alL_eq {p : Pg} : ∀ (l : List Pr), (∀ q ∈ l, ∀ s ∈ preSL q.body, s.id ≠ 0) → alL p l = if fstB (alB p) (l.flatMap (fun q => preSL q.body)) = 0 then (0, 0) else (8, fstB (alB p) (l.flatMap (fun q => preSL q.body)))
 | [], _ => rfl
 | q :: l, h => by
  rw [alL, List.flatMap_cons, fstB_app (h q (List.mem_cons_self ..)), alL_eq l (fun q hq => h q (List.mem_cons_of_mem _ hq))]
  by_cases h0 : fstB (alB p) (preSL q.body) = 0
  ·simp [h0]
  ·simp [h0]
noncomputable def rtwP (p : Pg) : Int × Int := if fstB (twB p) ((allOf p).map It.s) = 0 then (0, 0) else (8, fstB (twB p) ((allOf p).map It.s))
theorem arL_ok {ps : List Pr} : ∀ l : List Pr, (∀ q ∈ l, ∀ s ∈ preSL q.body, s.id ≠ 0) → (arL ps l).1 = 0 → ∀ q ∈ l, ∀ s ∈ preSL q.body, misB ps s = false
 | [], _, _ => fun q hq => by cases hq
 | x :: l, hz, h => by
  rw [arL] at h
  split at h
  ·rename_i h0
   intro q hq s hs
   rcases List.mem_cons.1 hq with rfl | hq
   ·exact fstB_zero (hz q (List.mem_cons_self ..)) h0 s hs
   ·exact arL_ok l (fun q hq => hz q (List.mem_cons_of_mem _ hq)) h q hq s hs
  ·cases h
theorem arP_ck {p : Pg} (h : (arP p).1 = 0) : chkOK p = true := decide_eq_true (arP_two h).2
theorem arP_fit {p : Pg} (h : (arP p).1 = 0) : ∀ q ∈ p.procs, ∀ s ∈ preSL q.body, s.kind = 4 → fitsB p.procs s = true := by
 have hok := arP_ok h
 have h1 : (arL p.procs p.procs).1 = 0 := by
  unfold arP at h
  rwa [if_pos (arP_two h).2] at h
 intro q hq s hs hk
 have h2 := arL_ok p.procs (fun q hq s hs h0 => by have := may_ids hok.may q hq s hs; omega) h1 q hq s hs
 unfold misB at h2
 rw [hk] at h2
 simpa using h2
theorem rtwP_eq {p : Pg} (h : (arP p).1 = 0) : rtwP p = alL p p.procs := by
 have hok := arP_ok h
 have hz : ∀ q ∈ p.procs, ∀ s ∈ preSL q.body, s.id ≠ 0 := fun q hq s hs h0 => by have := may_ids hok.may q hq s hs; omega
 rw [alL_eq p.procs hz]
 unfold rtwP
 rw [all_map hok.may]
 have e : fstB (twB p) (p.procs.flatMap (fun q => preSL q.body)) = fstB (alB p) (p.procs.flatMap (fun q => preSL q.body)) := fstB_congr (fun s hs => by
  obtain ⟨q, hq, hs⟩ := List.mem_flatMap.1 hs
  unfold twB alB raB
  by_cases hk : s.kind = 4
  ·rw [arP_fit h q hq s hs hk, Bool.true_and]
  ·have : (s.kind == 4) = false := beq_eq_false_iff_ne.2 hk
   rw [this, Bool.false_and, Bool.false_and])
 rw [e]
theorem all_args {p : Pg} (hs : SmG p) (hm : mayP p = true) : ∀ x ∈ allOf p, x.s.args.length ≤ 1000000 ∧ ∀ a ∈ x.s.args, a.ref = true → (a.nm.toList == []) = false := by
 intro x hx
 have h1 : x.s ∈ (allOf p).map It.s := List.mem_map_of_mem hx
 rw [all_map hm, List.mem_flatMap] at h1
 obtain ⟨q, hq, h2⟩ := h1
 exact ⟨may_args hs q hq _ h2, may_refs hm q hq _ h2⟩
noncomputable def apA (p : Pg) (s : S) : Bool := decide ((arP p).1 = 0) && raB p s
set_option maxHeartbeats 8000000 in
set_option maxRecDepth 100000 in
theorem rtwo_any {w : World} {Q : Nat → Prop} {p : Pg} {c0 c1 : Value} (h : ProgI w Q p [c0, c1]) (hsm : SmG p) (hck : chkOK p = true → p.procs.length ≤ 16 ∧ ∀ q ∈ p.procs, (saidOf (preSL q.body)).length ≤ 10000000) (hs1 : chkOK p = true → ∀ f ∈ p.procs, ∀ s ∈ preSL f.body, (saidS s).length ≤ 20000) (hm0 : chkOK p = true) (W : World) (hI : In Q w W) :
 Calls Tryz.prog 64 #[.agg #[c0, c1]] W (ChRes (rtwP p) W) := by
 have HAl := Lib.hid (fun V hV => All_any (W := V) h hV)
 have HCf := Lib.hid (fun s cs (hs : StmtI w Q s cs) (ha : s.args.length ≤ 1000000) (hr : ∀ a ∈ s.args, a.ref = true → (a.nm.toList == []) = false) V hV => (show Calls Tryz.prog 72 _ V (MayOk (raB p s) V) from rapart_any h hsm hck (hs1 hm0) hm0 hs ha hr V hV))
 obtain ⟨Ag, cg, Ap, cp, rfl, rfl, _⟩ := prog_open h
 have HI := Lib.hid hI
 have hm : mayP p = true := (ck_ok9 hm0).may
 have HIds := Lib.hid (all_ids hm)
 have HAm := Lib.hid (all_args hsm hm)
 have HK : Hid (rtwP p = if fstB (twB p) ((allOf p).map It.s) = 0 then (0, 0) else (8, fstB (twB p) ((allOf p).map It.s))) := Lib.hid rfl
 clear h hI hm hsm hck hs1 hm0
 generalize rtwP p = res at HK
 generalize allOf p = its at HAl HIds HK HAm
 go_enter Tryz.func64, Tryz.ntmps64
 go_upto_region 1 with fail
 have HB0 : Hid (Below W.heap.size W ((W.alloc (.cells #[.slice Ag p.globals.length cg, .slice Ap p.procs.length cp] 25)).alloc (.cells #[.int .i64 0, .int .i64 0] 34))) := Lib.hid (below_two _ _)
 have HBp : Hid (Blk ((W.alloc (.cells #[.slice Ag p.globals.length cg, .slice Ap p.procs.length cp] 25)).alloc (.cells #[.int .i64 0, .int .i64 0] 34)) W.heap.size 25 #[.slice Ag p.globals.length cg, .slice Ap p.procs.length cp]) := Lib.hid ((Blk.new _ _ _).alloc _)
 have HBf : Hid (Blk ((W.alloc (.cells #[.slice Ag p.globals.length cg, .slice Ap p.procs.length cp] 25)).alloc (.cells #[.int .i64 0, .int .i64 0] 34)) (W.heap.size + 1) 34 #[.int .i64 0, .int .i64 0]) := Lib.hid (by have := Blk.new (W.alloc (.cells #[.slice Ag p.globals.length cg, .slice Ap p.procs.length cp] 25)) 34 #[.int .i64 0, .int .i64 0]; rw [World.size_alloc] at this; exact this)
 generalize World.alloc _ _ = V at HB0 HBp HBf ⊢
 have HI0 := Lib.hid (HI.out.on HB0.out)
 have hwb : W.heap.size ≤ W.heap.size + 1 := by omega
 generalize hbe : W.heap.size = b at HBp HBf hwb ⊢
 generalize hfe : b + 1 = f at HBf hwb ⊢
 have hWf : W.heap.size ≤ f := by omega
 clear hbe hfe
 have q0 : V.cell? ⟨b, 0, none⟩ = some (.slice Ag p.globals.length cg) := by rw [HBp.out.cell]; rfl
 have q1 : V.cell? ⟨b, 1, none⟩ = some (.slice Ap p.procs.length cp) := by rw [HBp.out.cell]; rfl
 have hbl := HBp.out.lt
 have hfl := HBf.out.lt
 go_upto_region 2 with (go_at_call 68; refine (HAl.out V HI0.out).mono ?_; rintro e w1 ⟨X1, n1, k1, rfl, hal⟩; obtain ⟨rfl, hn1, hk1, hsl⟩ := hal.slice)
 have HSl := Lib.hid hsl
 have HB1 := Lib.hid (below_step HB0.out hal.below)
 have HI1 := Lib.hid hal.inn
 have HBp1 := Lib.hid (HBp.out.below hal.below hbl)
 have HBf1 := Lib.hid (HBf.out.below hal.below hfl)
 have HIl : Hid (In (fun b => V.heap.size ≤ b ∧ b < w1.heap.size) w1 w1) := Lib.hid ⟨fun b h => h.2, fun _ _ => rfl⟩
 clear q0 q1 hal hsl HB0 HBp HBf HI0 hbl hfl HAl
 have hbl := HBp1.out.lt
 have hfl := HBf1.out.lt
 generalize (fun b => V.heap.size ≤ b ∧ b < w1.heap.size) = T0 at HSl HIl
 go_loopg [8] its.length (fun kk iv wr => ∃ (k : Nat), k + kk = its.length ∧ iv = .int .i64 k ∧ Hid (Below w1.heap.size w1 wr) ∧ Hid (fstB (twB p) ((its.drop k).map It.s) = fstB (twB p) (its.map It.s)))
 case atStart => exact ⟨0, by omega, rfl, Lib.hid (Below.refl _ _), Lib.hid rfl⟩
 case round =>
  obtain ⟨k, hk, rfl, HBr, HA⟩ := hrel
  have HIr := Lib.hid (HI1.out.on HBr.out)
  by_cases hlt : k < its.length
  ·obtain ⟨a2, id, kind, labels, nm, proc, x, has, args, th, el, L, lc, y0, y1, y2, X, xn, xc, R, rc, T, tc, U, uc, dp, inn, els, rfl, hq2, hmk, hrow2, hid, hkind, hst⟩ := item_at HSl.out (HIl.out.on HBr.out) hlt
   obtain ⟨hi1, hi2⟩ := HIds.out _ (List.getElem_mem hlt)
   have HF3 : Hid (fstB (twB p) (its.map It.s) = if twB p its[k].s = true then its[k].s.id else fstB (twB p) ((its.drop (k + 1)).map It.s)) := Lib.hid (by rw [← HA.out, List.drop_eq_getElem_cons hlt, List.map_cons, fstB_cons])
   rw [hmk] at HF3 hi1 hi2
   have hidb : 1 ≤ id := hi1
   have hidc : id ≤ 200 := hi2
   have hAm := HAm.out _ (List.getElem_mem hlt)
   rw [hmk] at hAm
   have HCs := Lib.hid (fun V hV => HCf.out _ _ hst hAm.1 hAm.2 V hV)
   clear hAm
   simp only [List.toArray] at HCs
   obtain ⟨r, hr⟩ : ∃ r, r = raB p (.mk id kind labels nm proc x has args th el) := ⟨_, rfl⟩
   obtain ⟨d, hd⟩ : ∃ d, d = twB p (.mk id kind labels nm proc x has args th el) := ⟨_, rfl⟩
   have HD : Hid (d = (kind == 4 && !r)) := Lib.hid (by rw [hd, hr]; rfl)
   have HF4 : Hid (fstB (twB p) (its.map It.s) = if d = true then id else fstB (twB p) ((its.drop (k + 1)).map It.s)) := Lib.hid (by rw [hd]; exact HF3.out)
   rw [← hr] at HCs
   have hkb := hkind
   unfold i64 at hkb
   obtain ⟨p0, p1, p2, p3, p4, p5, p6, p7, p8, p9, p10, p11, p12, p13, p14, p15, _⟩ := hrow2
   clear hr hd HF3 hmk hst hid hkind hi1 hi2 hq2 HA
   go_upto_region 4 with fail
   have HBi : Hid (Blk (wr.alloc (.cells #[.int .i64 id, .int .i64 kind, .slice L labels.length lc, .string nm, .string proc, .int .i64 y0, .int .i64 y1, .string y2, .slice X xn xc, .bool has, .slice R args.length rc, .slice T th.length tc, .slice U el.length uc, .int .i64 dp, .int .i64 inn, .bool els] 51)) wr.heap.size 51 #[.int .i64 id, .int .i64 kind, .slice L labels.length lc, .string nm, .string proc, .int .i64 y0, .int .i64 y1, .string y2, .slice X xn xc, .bool has, .slice R args.length rc, .slice T th.length tc, .slice U el.length uc, .int .i64 dp, .int .i64 inn, .bool els]) := Lib.hid (Blk.new _ _ _)
   have HB4 : Hid (Below w1.heap.size w1 (wr.alloc (.cells #[.int .i64 id, .int .i64 kind, .slice L labels.length lc, .string nm, .string proc, .int .i64 y0, .int .i64 y1, .string y2, .slice X xn xc, .bool has, .slice R args.length rc, .slice T th.length tc, .slice U el.length uc, .int .i64 dp, .int .i64 inn, .bool els] 51))) := Lib.hid (below_stepA HBr.out _)
   have HI4 : Hid (In Q w (wr.alloc (.cells #[.int .i64 id, .int .i64 kind, .slice L labels.length lc, .string nm, .string proc, .int .i64 y0, .int .i64 y1, .string y2, .slice X xn xc, .bool has, .slice R args.length rc, .slice T th.length tc, .slice U el.length uc, .int .i64 dp, .int .i64 inn, .bool els] 51))) := Lib.hid (HIr.out.alloc _)
   clear p0 p1 p2 p3 p4 p5 p6 p7 p8 p9 p10 p11 p12 p13 p14 p15 HIr HBr
   generalize World.alloc wr _ = V4 at HBi HB4 HI4 ⊢
   generalize wr.heap.size = bi at HBi ⊢
   have hil := HBi.out.lt
   have HBp4 := Lib.hid (HBp1.out.below HB4.out hbl)
   have q0 : V4.cell? ⟨b, 0, none⟩ = some (.slice Ag p.globals.length cg) := by rw [HBp4.out.cell]; rfl
   have q1 : V4.cell? ⟨b, 1, none⟩ = some (.slice Ap p.procs.length cp) := by rw [HBp4.out.cell]; rfl
   have s0 : V4.cell? ⟨bi, 0, none⟩ = some (.int .i64 id) := by rw [HBi.out.cell]; rfl
   have s1 : V4.cell? ⟨bi, 1, none⟩ = some (.int .i64 kind) := by rw [HBi.out.cell]; rfl
   have s2 : V4.cell? ⟨bi, 2, none⟩ = some (.slice L labels.length lc) := by rw [HBi.out.cell]; rfl
   have s3 : V4.cell? ⟨bi, 3, none⟩ = some (.string nm) := by rw [HBi.out.cell]; rfl
   have s4 : V4.cell? ⟨bi, 4, none⟩ = some (.string proc) := by rw [HBi.out.cell]; rfl
   have s5 : V4.cell? ⟨bi, 5, none⟩ = some (.int .i64 y0) := by rw [HBi.out.cell]; rfl
   have s6 : V4.cell? ⟨bi, 6, none⟩ = some (.int .i64 y1) := by rw [HBi.out.cell]; rfl
   have s7 : V4.cell? ⟨bi, 7, none⟩ = some (.string y2) := by rw [HBi.out.cell]; rfl
   have s8 : V4.cell? ⟨bi, 8, none⟩ = some (.slice X xn xc) := by rw [HBi.out.cell]; rfl
   have s9 : V4.cell? ⟨bi, 9, none⟩ = some (.bool has) := by rw [HBi.out.cell]; rfl
   have s10 : V4.cell? ⟨bi, 10, none⟩ = some (.slice R args.length rc) := by rw [HBi.out.cell]; rfl
   have s11 : V4.cell? ⟨bi, 11, none⟩ = some (.slice T th.length tc) := by rw [HBi.out.cell]; rfl
   have s12 : V4.cell? ⟨bi, 12, none⟩ = some (.slice U el.length uc) := by rw [HBi.out.cell]; rfl
   go_cut [22] from 12 to 21 (fun s wx => s = .bool d ∧ Hid (Below V4.heap.size V4 wx))
   case first =>
    by_cases hk4 : kind = 4
    ·subst hk4
     have HB2 : Hid (d = !r) := Lib.hid HD.out
     clear HD
     go_wp2_with (go_at_call 72; refine (HCs.out V4 HI4.out).mono ?_; rintro e w5 ⟨rfl, hb5⟩)
     go_meet
     exact ⟨by rw [HB2.out], Lib.hid hb5⟩
    ·have hk5 : (kind == 4) = false := beq_eq_false_iff_ne.2 hk4
     have HB2 : Hid (d = false) := Lib.hid (by rw [HD.out, hk5]; rfl)
     clear hk4 HD
     go_wp2_with fail
     go_meet
     exact ⟨by rw [HB2.out], Lib.hid (Below.refl _ _)⟩
   case rest =>
    obtain ⟨rfl, HC⟩ := hcut
    have HBi5 := Lib.hid (HBi.out.below HC.out hil)
    have HB5 := Lib.hid (below_step HB4.out HC.out)
    have HBf5 := Lib.hid (HBf1.out.below HB5.out hfl)
    have HBW5 := Lib.hid (below_step HB1.out HB5.out)
    clear q0 q1 s0 s1 s2 s3 s4 s5 s6 s7 s8 s9 s10 s11 s12 HC HB4 HI4 HBi hil HD HCs
    cases d with
    | true =>
     have HAn : Hid (res = (8, id)) := Lib.hid (by
      have h1 : fstB (twB p) (its.map It.s) = id := by rw [HF4.out]; rfl
      rw [HK.out, h1, if_neg (by omega)])
     clear HF4 HK
     have s0 : wc.cell? ⟨bi, 0, none⟩ = some (.int .i64 id) := by rw [HBi5.out.cell]; rfl
     go_wp2_with (go_at_call 63; refine (rfault_any 8 id wc).mono ?_; rintro e wf ⟨rfl, hbf_⟩; have HB_ := Lib.hid (below_step HBW5.out hbf_); have HBf_ := Lib.hid (HBf5.out.below hbf_ HBf5.out.lt); have f0_ := HBf_.out.frozen 0; have f1_ := HBf_.out.frozen 1; have y0_ : wf.cell? ⟨f, 0, none⟩ = some (.int .i64 0) := (by rw [HBf_.out.cell]; rfl); have y1_ : wf.cell? ⟨f, 1, none⟩ = some (.int .i64 0) := (by rw [HBf_.out.cell]; rfl); clear hbf_)
     (try simp only [Exit.inBlock, Exit.then])
     refine bodyPost_ret (results_c1 rfl _ _ f 34 #[.int .i64 8, .int .i64 id] (0, 0) _ rfl (fault_end HBf_.out) Tryz.underlying34 rfl (by kernel_rfl)) rfl ?_
     exact ⟨by rw [HAn.out], below_setc (below_setc HB_.out hWf _) hWf _⟩
    | false =>
     have HF5 : Hid (fstB (twB p) (its.map It.s) = fstB (twB p) ((its.drop (k + 1)).map It.s)) := Lib.hid HF4.out
     clear HF4
     go_wp2_with fail
     go_roundg (its.length - k - 1)
     case measure => omega
     case rel => exact ⟨k + 1, by omega, by go_num, HB5, Lib.hid HF5.out.symm⟩
  ·have HFe : Hid (res = (0, 0)) := Lib.hid (by
    have h1 : fstB (twB p) (its.map It.s) = 0 := by rw [← HA.out, List.drop_of_length_le (by omega)]; rfl
    rw [HK.out, h1]; rfl)
   have HBfr := Lib.hid (HBf1.out.below HBr.out hfl)
   have HBWr := Lib.hid (below_step HB1.out HBr.out)
   have f0_ := HBfr.out.frozen 0
   have f1_ := HBfr.out.frozen 1
   have y0_ : wr.cell? ⟨f, 0, none⟩ = some (.int .i64 0) := by rw [HBfr.out.cell]; rfl
   have y1_ : wr.cell? ⟨f, 1, none⟩ = some (.int .i64 0) := by rw [HBfr.out.cell]; rfl
   go_wp2_with fail
   (try simp only [Exit.inBlock, Exit.then])
   refine bodyPost_ret (results_c1 rfl _ _ f 34 #[.int .i64 0, .int .i64 0] (0, 0) _ rfl (fault_end HBfr.out) Tryz.underlying34 rfl (by kernel_rfl)) rfl ?_
   exact ⟨by rw [HFe.out], below_setc (below_setc HBWr.out hWf _) hWf _⟩
set_option maxHeartbeats 4000000 in
set_option maxRecDepth 100000 in
theorem rAlias_any {w : World} {Q : Nat → Prop} {p : Pg} {c0 c1 : Value} (h : ProgI w Q p [c0, c1]) (hsm : SmG p) (hck : chkOK p = true → p.procs.length ≤ 16 ∧ ∀ q ∈ p.procs, (saidOf (preSL q.body)).length ≤ 10000000) (hs1 : chkOK p = true → ∀ f ∈ p.procs, ∀ s ∈ preSL f.body, (saidS s).length ≤ 20000) (W : World) (hI : In Q w W) :
 Calls Tryz.prog 26 #[.agg #[c0, c1]] W (ChRes (alP p) W) := by
 have HS := Lib.hid (fun V hV => rArity_any h hsm V hV)
 have HR := Lib.hid (fun hm V hV => rtwo_any h hsm hck hs1 hm V hV)
 have HRe := Lib.hid (fun ha : (arP p).1 = 0 => rtwP_eq (p := p) ha)
 obtain ⟨Ag, cg, Ap, cp, rfl, rfl, _⟩ := prog_open h
 have HI := Lib.hid hI
 have HOk := Lib.hid (fun ha : (arP p).1 = 0 => arP_ck (p := p) ha)
 have HK : Hid (alP p = if (arP p).1 = 0 then alL p p.procs else (1, 0)) := Lib.hid rfl
 have hff : ∀ (a c : Int) (w : World), (Instr.field 34 (.agg #[.int .i64 a, .int .i64 c]) 0).run Tryz.prog w = .ok (.int .i64 a) w := fun _ _ _ => by kernel_rfl
 clear h hI hsm hck hs1
 generalize arP p = r at HS HK HOk HRe
 obtain ⟨rc, ri⟩ := r
 simp only at HK HOk HRe
 go_enter Tryz.func26, Tryz.ntmps26
 go_upto_region 1 with fail
 have HB0 : Hid (Below W.heap.size W ((W.alloc (.cells #[.slice Ag p.globals.length cg, .slice Ap p.procs.length cp] 25)).alloc (.cells #[.int .i64 0, .int .i64 0] 34))) := Lib.hid (below_two _ _)
 have HBp : Hid (Blk ((W.alloc (.cells #[.slice Ag p.globals.length cg, .slice Ap p.procs.length cp] 25)).alloc (.cells #[.int .i64 0, .int .i64 0] 34)) W.heap.size 25 #[.slice Ag p.globals.length cg, .slice Ap p.procs.length cp]) := Lib.hid ((Blk.new _ _ _).alloc _)
 have HBf : Hid (Blk ((W.alloc (.cells #[.slice Ag p.globals.length cg, .slice Ap p.procs.length cp] 25)).alloc (.cells #[.int .i64 0, .int .i64 0] 34)) (W.heap.size + 1) 34 #[.int .i64 0, .int .i64 0]) := Lib.hid (by have := Blk.new (W.alloc (.cells #[.slice Ag p.globals.length cg, .slice Ap p.procs.length cp] 25)) 34 #[.int .i64 0, .int .i64 0]; rw [World.size_alloc] at this; exact this)
 generalize World.alloc _ _ = V at HB0 HBp HBf ⊢
 have HI0 := Lib.hid (HI.out.on HB0.out)
 have hwb : W.heap.size ≤ W.heap.size + 1 := by omega
 generalize hbe : W.heap.size = b at HBp HBf hwb ⊢
 generalize hfe : b + 1 = f at HBf hwb ⊢
 have hWf : W.heap.size ≤ f := by omega
 clear hbe hfe
 have q0 : V.cell? ⟨b, 0, none⟩ = some (.slice Ag p.globals.length cg) := by rw [HBp.out.cell]; rfl
 have q1 : V.cell? ⟨b, 1, none⟩ = some (.slice Ap p.procs.length cp) := by rw [HBp.out.cell]; rfl
 have hbl := HBp.out.lt
 have hfl := HBf.out.lt
 by_cases hr : rc = 0
 ·subst hr
  have hmy := HOk.out rfl
  have HR2 := Lib.hid (fun V hV => HR.out hmy V hV)
  have HK2 : Hid (alP p = alL p p.procs) := Lib.hid HK.out
  rw [HRe.out rfl, ← HK2.out] at HR2
  clear HK HOk HR HRe hmy
  generalize hres : alP p = res at HR2
  have HRs := Lib.hid hres
  clear hres
  obtain ⟨qc, qi⟩ := res
  go_upto_region 3 with (go_at_call 62; refine (HS.out V HI0.out).mono ?_; rintro e w1 ⟨rfl, hb1⟩)
  have HB1 := Lib.hid (below_step HB0.out hb1)
  have HI1 := Lib.hid (HI0.out.on hb1)
  have HBp1 := Lib.hid (HBp.out.below hb1 hbl)
  have HBf1 := Lib.hid (HBf.out.below hb1 hfl)
  clear q0 q1 hb1 HK2
  have q0 : w1.cell? ⟨b, 0, none⟩ = some (.slice Ag p.globals.length cg) := by rw [HBp1.out.cell]; rfl
  have q1 : w1.cell? ⟨b, 1, none⟩ = some (.slice Ap p.procs.length cp) := by rw [HBp1.out.cell]; rfl
  go_wp2_with (go_at_call 64; refine (HR2.out w1 HI1.out).mono ?_; rintro e w2 ⟨rfl, hb2⟩; have HB2 := Lib.hid (below_step HB1.out hb2); have HBf2 := Lib.hid (HBf1.out.below hb2 HBf1.out.lt); have f0_ := HBf2.out.frozen 0; have f1_ := HBf2.out.frozen 1; have y0_ : w2.cell? ⟨f, 0, none⟩ = some (.int .i64 0) := (by rw [HBf2.out.cell]; rfl); have y1_ : w2.cell? ⟨f, 1, none⟩ = some (.int .i64 0) := (by rw [HBf2.out.cell]; rfl); clear hb2)
  refine bodyPost_ret (results_c1 rfl _ _ f 34 #[.int .i64 qc, .int .i64 qi] (0, 0) _ rfl (fault_end HBf2.out) Tryz.underlying34 rfl (by kernel_rfl)) rfl ?_
  exact ⟨by rw [HRs.out], below_setc (below_setc HB2.out hWf _) hWf _⟩
 ·have HK2 : Hid (alP p = (1, 0)) := Lib.hid (by rw [HK.out, if_neg hr])
  have hr1 : (rc == 0) = false := beq_eq_false_iff_ne.2 hr
  have hr2 : (rc != 0) = true := by simp [bne, hr1]
  clear HK HOk hr HR HRe
  go_upto_if 6 with (go_at_call 62; refine (HS.out V HI0.out).mono ?_; rintro e w1 ⟨rfl, hb1⟩)
  have HB1 := Lib.hid (below_step HB0.out hb1)
  have HBf1 := Lib.hid (HBf.out.below hb1 hfl)
  clear q0 q1 hb1
  go_wp2_with (go_at_call 63; refine (rfault_any 1 0 w1).mono ?_; rintro e wf ⟨rfl, hbf_⟩; have HB_ := Lib.hid (below_step HB1.out hbf_); have HBf_ := Lib.hid (HBf1.out.below hbf_ HBf1.out.lt); have f0_ := HBf_.out.frozen 0; have f1_ := HBf_.out.frozen 1; have y0_ : wf.cell? ⟨f, 0, none⟩ = some (.int .i64 0) := (by rw [HBf_.out.cell]; rfl); have y1_ : wf.cell? ⟨f, 1, none⟩ = some (.int .i64 0) := (by rw [HBf_.out.cell]; rfl); clear hbf_)
  (try simp only [Exit.inBlock, Exit.then])
  refine bodyPost_ret (results_c1 rfl _ _ f 34 #[.int .i64 1, .int .i64 0] (0, 0) _ rfl (fault_end HBf_.out) Tryz.underlying34 rfl (by kernel_rfl)) rfl ?_
  exact ⟨by rw [HK2.out], below_setc (below_setc HB_.out hWf _) hWf _⟩
set_option maxHeartbeats 4000000 in
set_option maxRecDepth 100000 in
theorem rApart_any {w : World} {Q : Nat → Prop} {p : Pg} {c0 c1 : Value} {s : S} {cs : List Value} (h : ProgI w Q p [c0, c1]) (hsm : SmG p) (hck : chkOK p = true → p.procs.length ≤ 16 ∧ ∀ q ∈ p.procs, (saidOf (preSL q.body)).length ≤ 10000000) (hs1 : chkOK p = true → ∀ f ∈ p.procs, ∀ s ∈ preSL f.body, (saidS s).length ≤ 20000) (hs : StmtI w Q s cs) (hna : s.args.length ≤ 1000000) (hra : ∀ a ∈ s.args, a.ref = true → (a.nm.toList == []) = false) (W : World) (hI : In Q w W) :
 Calls Tryz.prog 32 #[.agg #[c0, c1], .agg cs.toArray] W (MayOk (apA p s) W) := by
 have HC := Lib.hid (fun V hV => rArity_any h hsm V hV)
 have HFo := Lib.hid (fun (hc : chkOK p = true) V hV => (show Calls Tryz.prog 72 _ V (MayOk (raB p s) V) from rapart_any h hsm hck (hs1 hc) hc hs hna hra V hV))
 have HOk := Lib.hid (fun ha : (arP p).1 = 0 => arP_ck (p := p) ha)
 obtain ⟨Ag, cg, Ap, cp, rfl, rfl, _⟩ := prog_open h
 obtain ⟨id, kind, labels, nm, proc, x, has, args, th, el, L, lc, y0, y1, y2, X, xn, xc, R, rc, T, tc, U, uc, rfl, rfl, hid, hkind, _⟩ := stmt_open hs
 have HI := Lib.hid hI
 have HK : Hid (apA p (.mk id kind labels nm proc x has args th el) = (decide ((arP p).1 = 0) && raB p (.mk id kind labels nm proc x has args th el))) := Lib.hid rfl
 have hff : ∀ (a c : Int) (w : World), (Instr.field 34 (.agg #[.int .i64 a, .int .i64 c]) 0).run Tryz.prog w = .ok (.int .i64 a) w := fun _ _ _ => by kernel_rfl
 clear h hI hsm hs hid hkind hck hs1 hna hra
 simp only [List.toArray] at HFo ⊢
 generalize raB p (.mk id kind labels nm proc x has args th el) = fb at HFo HK
 generalize arP p = r at HC HK HOk
 obtain ⟨cc, ri⟩ := r
 simp only at HK HOk
 go_enter Tryz.func32, Tryz.ntmps32
 go_upto_region 1 with fail
 have HB0 : Hid (Below W.heap.size W ((W.alloc (.cells #[.slice Ag p.globals.length cg, .slice Ap p.procs.length cp] 25)).alloc (.cells #[.int .i64 id, .int .i64 kind, .slice L labels.length lc, .string nm, .string proc, .int .i64 y0, .int .i64 y1, .string y2, .slice X xn xc, .bool has, .slice R args.length rc, .slice T th.length tc, .slice U el.length uc] 49))) := Lib.hid (below_two _ _)
 have HBp : Hid (Blk ((W.alloc (.cells #[.slice Ag p.globals.length cg, .slice Ap p.procs.length cp] 25)).alloc (.cells #[.int .i64 id, .int .i64 kind, .slice L labels.length lc, .string nm, .string proc, .int .i64 y0, .int .i64 y1, .string y2, .slice X xn xc, .bool has, .slice R args.length rc, .slice T th.length tc, .slice U el.length uc] 49)) W.heap.size 25 #[.slice Ag p.globals.length cg, .slice Ap p.procs.length cp]) := Lib.hid ((Blk.new _ _ _).alloc _)
 have HBs : Hid (Blk ((W.alloc (.cells #[.slice Ag p.globals.length cg, .slice Ap p.procs.length cp] 25)).alloc (.cells #[.int .i64 id, .int .i64 kind, .slice L labels.length lc, .string nm, .string proc, .int .i64 y0, .int .i64 y1, .string y2, .slice X xn xc, .bool has, .slice R args.length rc, .slice T th.length tc, .slice U el.length uc] 49)) (W.heap.size + 1) 49 #[.int .i64 id, .int .i64 kind, .slice L labels.length lc, .string nm, .string proc, .int .i64 y0, .int .i64 y1, .string y2, .slice X xn xc, .bool has, .slice R args.length rc, .slice T th.length tc, .slice U el.length uc]) := Lib.hid (by have := Blk.new (W.alloc (.cells #[.slice Ag p.globals.length cg, .slice Ap p.procs.length cp] 25)) 49 #[.int .i64 id, .int .i64 kind, .slice L labels.length lc, .string nm, .string proc, .int .i64 y0, .int .i64 y1, .string y2, .slice X xn xc, .bool has, .slice R args.length rc, .slice T th.length tc, .slice U el.length uc]; rw [World.size_alloc] at this; exact this)
 generalize World.alloc _ _ = V at HB0 HBp HBs ⊢
 have HI0 := Lib.hid (HI.out.on HB0.out)
 generalize hbe : W.heap.size = b at HBp HBs ⊢
 generalize hfe : b + 1 = f at HBs ⊢
 clear hbe hfe
 have q0 : V.cell? ⟨b, 0, none⟩ = some (.slice Ag p.globals.length cg) := by rw [HBp.out.cell]; rfl
 have q1 : V.cell? ⟨b, 1, none⟩ = some (.slice Ap p.procs.length cp) := by rw [HBp.out.cell]; rfl
 have hbl := HBp.out.lt
 have hfl := HBs.out.lt
 by_cases hr : cc = 0
 ·subst hr
  have HK2 : Hid (apA p (.mk id kind labels nm proc x has args th el) = fb) := Lib.hid (by rw [HK.out]; simp)
  clear HK
  replace HFo := Lib.hid (fun V hV => HFo.out (HOk.out rfl) V hV)
  go_wp2_with (first
   | (go_at_call 62; refine (HC.out V HI0.out).mono ?_; rintro e w1 ⟨rfl, hb1⟩; have HB1 := Lib.hid (below_step HB0.out hb1); have HI1 := Lib.hid (HI0.out.on hb1); have HBp1 := Lib.hid (HBp.out.below hb1 hbl); have HBs1 := Lib.hid (HBs.out.below hb1 hfl); have q0' : w1.cell? ⟨b, 0, none⟩ = some (.slice Ag p.globals.length cg) := (by rw [HBp1.out.cell]; rfl); have q1' : w1.cell? ⟨b, 1, none⟩ = some (.slice Ap p.procs.length cp) := (by rw [HBp1.out.cell]; rfl); have s0' : w1.cell? ⟨f, 0, none⟩ = some (.int .i64 id) := (by rw [HBs1.out.cell]; rfl); have s1' : w1.cell? ⟨f, 1, none⟩ = some (.int .i64 kind) := (by rw [HBs1.out.cell]; rfl); have s2' : w1.cell? ⟨f, 2, none⟩ = some (.slice L labels.length lc) := (by rw [HBs1.out.cell]; rfl); have s3' : w1.cell? ⟨f, 3, none⟩ = some (.string nm) := (by rw [HBs1.out.cell]; rfl); have s4' : w1.cell? ⟨f, 4, none⟩ = some (.string proc) := (by rw [HBs1.out.cell]; rfl); have s5' : w1.cell? ⟨f, 5, none⟩ = some (.int .i64 y0) := (by rw [HBs1.out.cell]; rfl); have s6' : w1.cell? ⟨f, 6, none⟩ = some (.int .i64 y1) := (by rw [HBs1.out.cell]; rfl); have s7' : w1.cell? ⟨f, 7, none⟩ = some (.string y2) := (by rw [HBs1.out.cell]; rfl); have s8' : w1.cell? ⟨f, 8, none⟩ = some (.slice X xn xc) := (by rw [HBs1.out.cell]; rfl); have s9' : w1.cell? ⟨f, 9, none⟩ = some (.bool has) := (by rw [HBs1.out.cell]; rfl); have s10' : w1.cell? ⟨f, 10, none⟩ = some (.slice R args.length rc) := (by rw [HBs1.out.cell]; rfl); have s11' : w1.cell? ⟨f, 11, none⟩ = some (.slice T th.length tc) := (by rw [HBs1.out.cell]; rfl); have s12' : w1.cell? ⟨f, 12, none⟩ = some (.slice U el.length uc) := (by rw [HBs1.out.cell]; rfl); clear hb1)
   | (go_at_call 72; refine (HFo.out w1 HI1.out).mono ?_; rintro e w2 ⟨rfl, hb2⟩))
  go_ret
  exact ⟨by rw [HK2.out]; rfl, below_step HB1.out hb2⟩
 ·have HK2 : Hid (apA p (.mk id kind labels nm proc x has args th el) = false) := Lib.hid (by rw [HK.out, decide_eq_false hr]; rfl)
  have hr1 : (cc == 0) = false := beq_eq_false_iff_ne.2 hr
  clear HK hr
  go_wp2_with (go_at_call 62; refine (HC.out V HI0.out).mono ?_; rintro e w1 ⟨rfl, hb1⟩)
  go_ret
  exact ⟨ret_bool HK2.out.symm, below_step HB0.out hb1⟩
end Go.Proofs.YtimejkbmfbjomaaGreat
namespace Go.Proofs.YtimejkbmfbjomaaGreat
open Go.ChangeShapes Go.WideShapes Go.ChangeAt Go.RowKit Go.Deep
set_option linter.unusedVariables false
set_option linter.unusedSimpArgs false
theorem tk_glob {p : Pg} {proc s : ByteArray} (h : tkB p proc s = true) : s ∈ p.globals := by
 unfold tkB at h
 obtain ⟨l, hg, hs⟩ := (@decide_eq_true_iff _ (Classical.propDecidable _)).1 h
 rcases hg with ⟨_, rfl⟩ | ⟨m, _, vis, _, _, hi⟩
 ·cases hs
 ·have h2 := ((hi.mem s).1 hs).2
  rw [Bool.and_eq_true, List.any_eq_true] at h2
  obtain ⟨⟨x, hx, e⟩, _⟩ := h2
  rw [show s = x from of_decide_eq_true e]
  exact hx
def setNm : S → ByteArray → S
 | .mk id kind labels _ proc x has args th el, n => .mk id kind labels n proc x has args th el
theorem stmt_nm {w : World} {Q : Nat → Prop} {id kind : Int} {labels : List ByteArray} {nm proc n : ByteArray} {x : E} {has : Bool} {args : List Ar} {th el : List S} {c0 c1 c2 c3 c4 c5 c6 c7 c8 c9 c10 c11 c12 : Value} (h : StmtI w Q (.mk id kind labels nm proc x has args th el) [c0, c1, c2, c3, c4, c5, c6, c7, c8, c9, c10, c11, c12]) (hn : n.size ≤ 9223372036854775807) : StmtI w Q (.mk id kind labels n proc x has args th el) [c0, c1, c2, .string n, c4, c5, c6, c7, c8, c9, c10, c11, c12] := by
 cases h with
 | mk hid hkind hnm hproc hl hx ha hc1 hc2 hA1 hA2 hk1 hk2 => exact .mk hid hkind hn hproc hl hx ha hc1 hc2 hA1 hA2 hk1 hk2
set_option maxHeartbeats 8000000 in
set_option maxRecDepth 100000 in
theorem alFits_pos {w : World} {Q : Nat → Prop} {p : Pg} {c0 c1 : Value} {s : S} {cs : List Value} (h : ProgI w Q p [c0, c1]) (hsm : SmG p) (hck : chkOK p = true → p.procs.length ≤ 16 ∧ ∀ q ∈ p.procs, (saidOf (preSL q.body)).length ≤ 10000000) {w2 : World} {Q2 : Nat → Prop} (hs : StmtI w2 Q2 s cs) (hna : s.args.length ≤ 1000000) (har : (arP p).1 = 0) (W : World) (hI : In Q w W) (hI2 : In Q2 w2 W) (hFt : ∀ V, In Q w V → In Q2 w2 V → Calls Tryz.prog 70 #[.agg #[c0, c1], .agg cs.toArray] V (MayOk true V)) :
 Calls Tryz.prog 31 #[.agg #[c0, c1], .agg cs.toArray] W (MayOk (apB p s) W) := by
 have HC := Lib.hid (fun V hV => aCheck_any h hsm V hV)
 rw [(arP_two har).1] at HC
 have HNc := Lib.hid (fun V => newChecker_any h V)
 have HFi := Lib.hid (fun (B m : Nat) (hQ : ¬ Q m) (V : World) (k : Nat) (hC : CkI p B V m k) (hB : B ≤ V.heap.size) (hk : k < maxLen) (hV : In Q w V) (hV2 : In Q2 w2 V) => alFits_any h hsm hck hs hna hC hB hk hV hQ hV2)
 have HFt := Lib.hid hFt
 obtain ⟨id, kind, labels, nm, proc, x, has, args, th, el, L, lc, y0, y1, y2, X, xn, xc, R, rc, T, tc, U, uc, rfl, rfl, _⟩ := stmt_open hs
 obtain ⟨Ag, cg, Ap, cp, rfl, rfl, _⟩ := prog_open h
 have HI := Lib.hid hI
 have HI2 := Lib.hid hI2
 clear h hsm hck hs hna har hI hI2 hFt
 simp only [List.toArray] at HFi HFt ⊢
 generalize apB p (.mk id kind labels nm proc x has args th el) = r at HFi ⊢
 go_enter Tryz.func31, Tryz.ntmps31
 go_upto_region 1 with fail
 have HB0 : Hid (Below W.heap.size W ((W.alloc (.cells #[.slice Ag p.globals.length cg, .slice Ap p.procs.length cp] 25)).alloc (.cells #[.int .i64 id, .int .i64 kind, .slice L labels.length lc, .string nm, .string proc, .int .i64 y0, .int .i64 y1, .string y2, .slice X xn xc, .bool has, .slice R args.length rc, .slice T th.length tc, .slice U el.length uc] 49))) := Lib.hid (below_two _ _)
 have HBp : Hid (Blk ((W.alloc (.cells #[.slice Ag p.globals.length cg, .slice Ap p.procs.length cp] 25)).alloc (.cells #[.int .i64 id, .int .i64 kind, .slice L labels.length lc, .string nm, .string proc, .int .i64 y0, .int .i64 y1, .string y2, .slice X xn xc, .bool has, .slice R args.length rc, .slice T th.length tc, .slice U el.length uc] 49)) W.heap.size 25 #[.slice Ag p.globals.length cg, .slice Ap p.procs.length cp]) := Lib.hid ((Blk.new _ _ _).alloc _)
 have HBs : Hid (Blk ((W.alloc (.cells #[.slice Ag p.globals.length cg, .slice Ap p.procs.length cp] 25)).alloc (.cells #[.int .i64 id, .int .i64 kind, .slice L labels.length lc, .string nm, .string proc, .int .i64 y0, .int .i64 y1, .string y2, .slice X xn xc, .bool has, .slice R args.length rc, .slice T th.length tc, .slice U el.length uc] 49)) (W.heap.size + 1) 49 #[.int .i64 id, .int .i64 kind, .slice L labels.length lc, .string nm, .string proc, .int .i64 y0, .int .i64 y1, .string y2, .slice X xn xc, .bool has, .slice R args.length rc, .slice T th.length tc, .slice U el.length uc]) := Lib.hid (by have := Blk.new (W.alloc (.cells #[.slice Ag p.globals.length cg, .slice Ap p.procs.length cp] 25)) 49 #[.int .i64 id, .int .i64 kind, .slice L labels.length lc, .string nm, .string proc, .int .i64 y0, .int .i64 y1, .string y2, .slice X xn xc, .bool has, .slice R args.length rc, .slice T th.length tc, .slice U el.length uc]; rw [World.size_alloc] at this; exact this)
 generalize World.alloc _ _ = V at HB0 HBp HBs ⊢
 have HI0 := Lib.hid (HI.out.on HB0.out)
 have HI20 := Lib.hid (HI2.out.on HB0.out)
 generalize hbe : W.heap.size = b at HBp HBs ⊢
 generalize hfe : b + 1 = f at HBs ⊢
 clear hbe hfe HI HI2
 have hbl := HBp.out.lt
 have hfl := HBs.out.lt
 have q0 : V.cell? ⟨b, 0, none⟩ = some (.slice Ag p.globals.length cg) := by rw [HBp.out.cell]; rfl
 have q1 : V.cell? ⟨b, 1, none⟩ = some (.slice Ap p.procs.length cp) := by rw [HBp.out.cell]; rfl
 have s0 : V.cell? ⟨f, 0, none⟩ = some (.int .i64 id) := by rw [HBs.out.cell]; rfl
 have s1 : V.cell? ⟨f, 1, none⟩ = some (.int .i64 kind) := by rw [HBs.out.cell]; rfl
 have s2 : V.cell? ⟨f, 2, none⟩ = some (.slice L labels.length lc) := by rw [HBs.out.cell]; rfl
 have s3 : V.cell? ⟨f, 3, none⟩ = some (.string nm) := by rw [HBs.out.cell]; rfl
 have s4 : V.cell? ⟨f, 4, none⟩ = some (.string proc) := by rw [HBs.out.cell]; rfl
 have s5 : V.cell? ⟨f, 5, none⟩ = some (.int .i64 y0) := by rw [HBs.out.cell]; rfl
 have s6 : V.cell? ⟨f, 6, none⟩ = some (.int .i64 y1) := by rw [HBs.out.cell]; rfl
 have s7 : V.cell? ⟨f, 7, none⟩ = some (.string y2) := by rw [HBs.out.cell]; rfl
 have s8 : V.cell? ⟨f, 8, none⟩ = some (.slice X xn xc) := by rw [HBs.out.cell]; rfl
 have s9 : V.cell? ⟨f, 9, none⟩ = some (.bool has) := by rw [HBs.out.cell]; rfl
 have s10 : V.cell? ⟨f, 10, none⟩ = some (.slice R args.length rc) := by rw [HBs.out.cell]; rfl
 have s11 : V.cell? ⟨f, 11, none⟩ = some (.slice T th.length tc) := by rw [HBs.out.cell]; rfl
 have s12 : V.cell? ⟨f, 12, none⟩ = some (.slice U el.length uc) := by rw [HBs.out.cell]; rfl
 have HSv : Hid (∀ w' : World, Below V.heap.size V w' → (w'.cell? ⟨b, 0, none⟩ = some (.slice Ag p.globals.length cg) ∧ w'.cell? ⟨b, 1, none⟩ = some (.slice Ap p.procs.length cp) ∧ w'.cell? ⟨f, 0, none⟩ = some (.int .i64 id) ∧ w'.cell? ⟨f, 1, none⟩ = some (.int .i64 kind) ∧ w'.cell? ⟨f, 2, none⟩ = some (.slice L labels.length lc) ∧ w'.cell? ⟨f, 3, none⟩ = some (.string nm) ∧ w'.cell? ⟨f, 4, none⟩ = some (.string proc) ∧ w'.cell? ⟨f, 5, none⟩ = some (.int .i64 y0) ∧ w'.cell? ⟨f, 6, none⟩ = some (.int .i64 y1) ∧ w'.cell? ⟨f, 7, none⟩ = some (.string y2) ∧ w'.cell? ⟨f, 8, none⟩ = some (.slice X xn xc) ∧ w'.cell? ⟨f, 9, none⟩ = some (.bool has) ∧ w'.cell? ⟨f, 10, none⟩ = some (.slice R args.length rc) ∧ w'.cell? ⟨f, 11, none⟩ = some (.slice T th.length tc) ∧ w'.cell? ⟨f, 12, none⟩ = some (.slice U el.length uc))) := Lib.hid (fun w' hb => ⟨(hb.cell (p := ⟨b, 0, none⟩) hbl).trans q0, (hb.cell (p := ⟨b, 1, none⟩) hbl).trans q1, (hb.cell (p := ⟨f, 0, none⟩) hfl).trans s0, (hb.cell (p := ⟨f, 1, none⟩) hfl).trans s1, (hb.cell (p := ⟨f, 2, none⟩) hfl).trans s2, (hb.cell (p := ⟨f, 3, none⟩) hfl).trans s3, (hb.cell (p := ⟨f, 4, none⟩) hfl).trans s4, (hb.cell (p := ⟨f, 5, none⟩) hfl).trans s5, (hb.cell (p := ⟨f, 6, none⟩) hfl).trans s6, (hb.cell (p := ⟨f, 7, none⟩) hfl).trans s7, (hb.cell (p := ⟨f, 8, none⟩) hfl).trans s8, (hb.cell (p := ⟨f, 9, none⟩) hfl).trans s9, (hb.cell (p := ⟨f, 10, none⟩) hfl).trans s10, (hb.cell (p := ⟨f, 11, none⟩) hfl).trans s11, (hb.cell (p := ⟨f, 12, none⟩) hfl).trans s12⟩)
 have hBD : Below V.heap.size V V.drew := (Below.refl _ _).drew
 have hdr : ∀ X : World, In Q w X → In Q w X.drew := fun X h => h
 clear HBp HBs
 go_region_held3 (fun w' => w'.cell? ⟨b, 0, none⟩ = some (.slice Ag p.globals.length cg) ∧ w'.cell? ⟨b, 1, none⟩ = some (.slice Ap p.procs.length cp) ∧ w'.cell? ⟨f, 0, none⟩ = some (.int .i64 id) ∧ w'.cell? ⟨f, 1, none⟩ = some (.int .i64 kind) ∧ w'.cell? ⟨f, 2, none⟩ = some (.slice L labels.length lc) ∧ w'.cell? ⟨f, 3, none⟩ = some (.string nm) ∧ w'.cell? ⟨f, 4, none⟩ = some (.string proc) ∧ w'.cell? ⟨f, 5, none⟩ = some (.int .i64 y0) ∧ w'.cell? ⟨f, 6, none⟩ = some (.int .i64 y1) ∧ w'.cell? ⟨f, 7, none⟩ = some (.string y2) ∧ w'.cell? ⟨f, 8, none⟩ = some (.slice X xn xc) ∧ w'.cell? ⟨f, 9, none⟩ = some (.bool has) ∧ w'.cell? ⟨f, 10, none⟩ = some (.slice R args.length rc) ∧ w'.cell? ⟨f, 11, none⟩ = some (.slice T th.length tc) ∧ w'.cell? ⟨f, 12, none⟩ = some (.slice U el.length uc))
  ((refine HSv.out _ ?_; with_reducible assumption))
  (first
   | (go_at_call 33; (with_reducible refine (HC.out V.drew (hdr V HI0.out)).mono ?_); rintro e' W3 ⟨rfl, hb3⟩; have g3 : Below V.heap.size V W3 := hBD.trans hb3; have HI3 := Lib.hid (HI0.out.on g3); have HI23 := Lib.hid (HI20.out.on g3))
   | (go_at_call 70; (with_reducible refine (HFt.out W3 HI3.out HI23.out).mono ?_); rintro e' W4 ⟨rfl, hb4⟩; have g4 : Below V.heap.size V W4 := below_step g3 hb4; have HI4 := Lib.hid (HI0.out.on g4); have HI24 := Lib.hid (HI20.out.on g4))
   | (go_at_call 60; (with_reducible refine (HNc.out W4).mono ?_); rintro e' W5 ⟨m, rfl, hm5, hc5, hb5⟩; have g5 : Below V.heap.size V W5 := below_step g4 hb5; have HI5 := Lib.hid (HI0.out.on g5); have HI25 := Lib.hid (HI20.out.on g5); have HQm : Hid (¬ Q m) := Lib.hid (fun hq => by have := HI4.out.1 m hq; omega); have HB5 : Hid (W4.heap.size ≤ W5.heap.size) := Lib.hid hb5.size; have HC5 := Lib.hid hc5; clear hc5 hb5)
   | (go_at_call 71; (with_reducible refine (HFi.out W4.heap.size m HQm.out W5 0 HC5.out HB5.out (by unfold maxLen; omega) HI5.out HI25.out).mono ?_); rintro e' W6 ⟨rfl, hc6, hm6⟩; have g6 : Below V.heap.size V W6 := g5.trans (hm6.below g5.size (fun j hj => by subst hj; exact Nat.le_trans g4.size hm5)); clear hc6 hm6))
 go_wp2_with fail
 go_ret
 exact ⟨ret_bool rfl, below_step HB0.out g6⟩
end Go.Proofs.YtimejkbmfbjomaaGreat
namespace Go.Proofs.YtimejkbmfbjomaaGreat
open Go.ChangeShapes Go.WideShapes Go.ChangeAt Go.RowKit Go.Deep
set_option linter.unusedVariables false
set_option linter.unusedSimpArgs false
theorem some_ok1 : 0 < someP.procs.length := by decide
theorem some_ok2 : 1 < someP.procs[0].body.length := by decide
end Go.Proofs.YtimejkbmfbjomaaGreat
