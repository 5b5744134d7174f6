/- Texts, merged by a program; only what is used. -/
import Derived.Test.YtimejkbmfbjomaaGreatKX1
import Derived.Test.YtimejkbmfbjomaaGreatKX2
import Derived.Test.YtimejkbmfbjomaaGreatKX3
import Derived.Test.YtimejkbmfbjomaaGreatKX4
import Derived.Test.YtimejkbmfbjomaaGreatKX5
import Derived.Test.YtimejkbmfbjomaaGreatKX6
import Derived.Test.YtimejkbmfbjomaaGreatKX7
import Derived.Test.YtimejkbmfbjomaaGreatKX8
import Derived.Test.YtimejkbmfbjomaaGreatKX9
import Derived.Test.YtimejkbmfbjomaaGreatKX10
import Derived.Test.YtimejkbmfbjomaaGreatKX11
import Derived.Test.YtimejkbmfbjomaaGreatKX12
import Derived.Test.YtimejkbmfbjomaaGreatKX13
import Derived.Test.YtimejkbmfbjomaaGreatKX14
import Derived.Test.YtimejkbmfbjomaaGreatKX15
import Derived.Test.YtimejkbmfbjomaaGreatKX16
import Derived.Test.YtimejkbmfbjomaaGreatKX17
import Derived.Test.YtimejkbmfbjomaaGreatKX18
import Derived.Test.YtimejkbmfbjomaaGreatKX19
import Derived.Test.YtimejkbmfbjomaaGreatKX20
import Derived.Test.YtimejkbmfbjomaaGreatKX21
import Derived.Test.YtimejkbmfbjomaaGreatKX22
import Derived.Test.YtimejkbmfbjomaaGreatKX23
import Derived.Test.YtimejkbmfbjomaaGreatKX24
import Derived.Test.YtimejkbmfbjomaaGreatKX28
import Derived.Test.YtimejkbmfbjomaaGreatKX29
import Derived.Test.YtimejkbmfbjomaaGreatKX30
import Derived.Test.YtimejkbmfbjomaaGreatKX31
namespace Go.Proofs.YtimejkbmfbjomaaGreat
open Go.ChangeShapes Go.WideShapes Go.ChangeAt Go.RowKit Go.Deep
set_option linter.unusedVariables false
set_option linter.unusedSimpArgs false
def tdL (p : Pg) (ns : List ByteArray) : List ByteArray := ns.flatMap (fun nm => saidOf ((flatOf (namP p nm).1).map It.s))
theorem nam_at {p : Pg} (hok : ChOk p) {f : Pr} (hf : f ∈ p.procs) : namP p f.nm = (f, true) := by
 unfold namP
 rw [find_own _ hok.procs _ hf]
 rfl
def TdRes (p : Pg) (q : Pr) (l : List ByteArray) : Prop := ∃ L : List ByteArray, l = srt L ∧ ∀ s, s ∈ L ↔ s ∈ p.globals ∧ ∃ f ∈ p.procs, RchP p.procs q f ∧ s ∈ saidOf (preSL f.body)
theorem td_res {p : Pg} (hok : ChOk p) {q : Pr} {N : List ByteArray} (h : ∀ s, s ∈ N ↔ ∃ f ∈ p.procs, RchP p.procs q f ∧ f.nm = s) : TdRes p q (srt ((tdL p N).filter (fun v => p.globals.any (isT v)))) := by
 refine ⟨_, rfl, fun s => ?_⟩
 rw [List.mem_filter, any_isT]
 unfold tdL
 rw [List.mem_flatMap]
 constructor
 ·rintro ⟨⟨nm, hn, hs⟩, hg⟩
  obtain ⟨f, hf, hr, rfl⟩ := (h nm).1 hn
  rw [nam_at hok hf, ((may_flat hok.may).1 f hf).1] at hs
  exact ⟨hg, f, hf, hr, hs⟩
 ·rintro ⟨hg, f, hf, hr, hs⟩
  refine ⟨⟨f.nm, (h _).2 ⟨f, hf, hr, rfl⟩, ?_⟩, hg⟩
  rw [nam_at hok hf, ((may_flat hok.may).1 f hf).1]
  exact hs
theorem saidOf_len2 {its : List It} (k : Nat) : (saidOf ((its.take k).map It.s)).length ≤ (saidOf (its.map It.s)).length := by
 rw [List.map_take]
 exact flat_take_le
set_option maxHeartbeats 8000000 in
set_option maxRecDepth 100000 in
theorem rtouched_any {w : World} {Q : Nat → Prop} {p : Pg} {c0 c1 : Value} (h : ProgI w Q p [c0, c1]) (hok : ChOk p) (hs1 : ∀ f ∈ p.procs, ∀ s ∈ preSL f.body, (saidS s).length ≤ 20000) (hs2 : ∀ f ∈ p.procs, (saidOf (preSL f.body)).length ≤ 10000000) {q : Pr} (hq : q ∈ p.procs) (W : World) (hI : In Q w W) :
 Calls Tryz.prog 51 #[.agg #[c0, c1], .string q.nm] W (OrdRow (TdRes p q) W) := by
 have HCd := Lib.hid (fun V hV => rcalled_any h hok hq V hV)
 have HNa := Lib.hid (fun nm V hV => rnamed_any h nm V hV)
 obtain ⟨Ag, cg, Ap, cp, rfl, rfl, _, _, _, _, hgl, hpr⟩ := prog_open h
 have HI := Lib.hid hI
 have HOk := Lib.hid hok
 have HQ := Lib.hid hq
 have HS1 := Lib.hid hs1
 have HS2 := Lib.hid hs2
 have HGt := Lib.hid hgl
 have HNs : Hid (∀ f ∈ p.procs, small f.nm) := Lib.hid (fun f hf => by
  obtain ⟨cs, _, _, _, _, _, hn, _⟩ := slice_mem hpr f hf
  exact hn)
 have hpl := (may_lens hok.may).2.1
 obtain ⟨i0, hi0, hz0, hz1, hz2⟩ := info_parts string_info
 clear h hI hok hpr hs1 hs2 hgl
 go_enter Tryz.func51, Tryz.ntmps51
 go_upto_region 1 with fail
 have HB0 : Hid (Below W.heap.size W (W.alloc (.cells #[.slice Ag p.globals.length cg, .slice Ap p.procs.length cp] 25))) := Lib.hid (below_box _)
 have HBp : Hid (Blk (W.alloc (.cells #[.slice Ag p.globals.length cg, .slice Ap p.procs.length cp] 25)) W.heap.size 25 #[.slice Ag p.globals.length cg, .slice Ap p.procs.length cp]) := Lib.hid (Blk.new _ _ _)
 generalize World.alloc _ _ = V at HB0 HBp ⊢
 generalize W.heap.size = b at HBp ⊢
 have HI0 := Lib.hid (HI.out.on HB0.out)
 have hbl := HBp.out.lt
 have q0 : V.cell? ⟨b, 0, none⟩ = some (.slice Ag p.globals.length cg) := by rw [HBp.out.cell]; rfl
 have q1 : V.cell? ⟨b, 1, none⟩ = some (.slice Ap p.procs.length cp) := by rw [HBp.out.cell]; rfl
 go_upto_region 3 with (go_at_call 47; refine (HCd.out V HI0.out).mono ?_; rintro e' W2 ⟨N, v2, rfl, ho2, hb2, hr2⟩; have HR2 := Lib.hid hr2; clear hr2; obtain ⟨X2, k2, rfl, h21, h22⟩ := own_shape ho2)
 obtain ⟨L0, hN, hL0⟩ := HR2.out
 have HNm : Hid (∀ s, s ∈ N ↔ ∃ f ∈ p.procs, RchP p.procs q f ∧ f.nm = s) := Lib.hid (fun s => by rw [hN, srt_mem]; exact hL0 s)
 have hNl : N.length ≤ 16 := by
  have h1 := nodup_leA N (p.procs.map Pr.nm) (by rw [hN]; exact asc_nd (srt_asc L0)) (fun s hs => by obtain ⟨f, hf, _, e⟩ := (HNm.out s).1 hs; exact List.mem_map.2 ⟨f, hf, e⟩)
  rw [List.length_map] at h1
  omega
 have HO2 := Lib.hid ho2
 have HB2 := Lib.hid (below_step HB0.out hb2)
 have HI2 := Lib.hid (HI0.out.on hb2)
 have HBp2 := Lib.hid (HBp.out.below hb2 hbl)
 clear q0 q1 ho2 hb2 hN hL0 HR2 HB0 HI0 HBp hbl HCd
 have hbl := HBp2.out.lt
 obtain ⟨gf, hgf⟩ : ∃ gf : ByteArray → Bool, gf = fun v => p.globals.any (isT v) := ⟨_, rfl⟩
 have HGf : Hid (∀ v, p.globals.any (isT v) = gf v) := Lib.hid (fun v => by rw [hgf])
 have HRs : Hid (TdRes p q (srt ((tdL p N).filter gf))) := Lib.hid (by rw [hgf]; exact td_res HOk.out HNm.out)
 clear hgf
 go_loopg [5, 18] N.length (fun kk o5 iv wr => ∃ (k : Nat) (X : Option Addr) (c : Nat) (M : List ByteArray), k + kk = N.length ∧ iv = .int .i64 k ∧ o5 = .slice X M.length c ∧ Hid (M = (tdL p (N.take k)).filter gf) ∧ Hid (wr.ownsRow W2.heap.size 9 1 (.slice X M.length c) M.length (strs M)) ∧ Hid (Below W2.heap.size W2 wr) ∧ Hid (∀ s ∈ M, small s) ∧ Hid (M.length ≤ k * 10000000))
 case atStart => exact ⟨0, none, 0, [], by omega, rfl, rfl, Lib.hid rfl, Lib.hid (World.ownsRow_nil _ _ _ _), Lib.hid (Below.refl _ _), Lib.hid (fun s hs => by cases hs), Lib.hid (Nat.zero_le _)⟩
 case round =>
  obtain ⟨k, X, c, M0, hk, rfl, rfl, HM, HO, HB, HSm, HLn⟩ := hrel
  have HIr := Lib.hid (HI2.out.on HB.out)
  have HBpr := Lib.hid (HBp2.out.below HB.out hbl)
  by_cases hlt : k < N.length
  ·have HOn : Hid (wr.ownsRow V.heap.size 9 1 (.slice X2 N.length k2) N.length (strs N)) := Lib.hid ((Below.moves HB.out).row HO2.out (fun j hj e => Nat.not_lt.2 e (HO2.out.lt j hj).2))
   obtain ⟨g, cap5, he5, hcl5, _, _⟩ := own_at HOn.out hlt
   injection he5 with h51 _ h53
   subst h51 h53
   have pt := hcl5 (.string N[k]) (by simp [strs, List.getElem?_map, List.getElem?_eq_getElem hlt])
   obtain ⟨f, hf, hrf, hfn⟩ := (HNm.out N[k]).1 (List.getElem_mem hlt)
   have HT : Hid (tdL p (N.take (k + 1)) = tdL p (N.take k) ++ saidOf ((flatOf f).map It.s)) := Lib.hid (by
    unfold tdL
    rw [List.take_succ_eq_append_getElem hlt, List.flatMap_append, List.flatMap_singleton, ← hfn, nam_at HOk.out hf])
   have HN1 := Lib.hid (fun V hV => HNa.out f.nm V hV)
   rw [nam_at HOk.out hf] at HN1
   have HIt := Lib.hid (((may_flat HOk.out.may).1 f hf).1)
   have HSf := Lib.hid (HS1.out f hf)
   have HNf := Lib.hid (HS2.out f hf)
   rw [← hfn] at pt
   have HTs := Lib.hid (saidOf_len2 (its := flatOf f))
   clear hcl5 hfn hf hrf
   have q0 : wr.cell? ⟨b, 0, none⟩ = some (.slice Ag p.globals.length cg) := by rw [HBpr.out.cell]; rfl
   have q1 : wr.cell? ⟨b, 1, none⟩ = some (.slice Ap p.procs.length cp) := by rw [HBpr.out.cell]; rfl
   go_upto_region 6 with (go_at_call 87; refine (HN1.out wr HIr.out).mono ?_; rintro e' W5 ⟨d0, d1, d2, d3, d4, rfl, hb1, hp1⟩; have HPq := Lib.hid hp1; obtain ⟨vp, vv, vb, ve, hc, hn', hpp, hvv, hbb, hee⟩ := hp1; simp only [List.cons.injEq, and_true] at hc; obtain ⟨rfl, rfl, rfl, rfl, rfl⟩ := hc; obtain ⟨M1, k1, rfl, _, _⟩ := hpp.shape; obtain ⟨M2, kk2, rfl, _, _⟩ := hvv.shape; obtain ⟨M3, k3, rfl, _⟩ := hbb.shape; obtain ⟨M4, k4, rfl, _⟩ := hee.shape; clear hn' hpp hvv hbb hee)
   (try simp only at HPq)
   have HB6 : Hid (Below wr.heap.size wr (W5.alloc (.cells #[.string f.nm, .slice M1 f.params.length k1, .slice M2 f.vars.length kk2, .slice M3 f.body.length k3, .slice M4 f.end_.length k4] 39))) := Lib.hid (below_stepA hb1 _)
   have HBq : Hid (Blk (W5.alloc (.cells #[.string f.nm, .slice M1 f.params.length k1, .slice M2 f.vars.length kk2, .slice M3 f.body.length k3, .slice M4 f.end_.length k4] 39)) W5.heap.size 39 #[.string f.nm, .slice M1 f.params.length k1, .slice M2 f.vars.length kk2, .slice M3 f.body.length k3, .slice M4 f.end_.length k4]) := Lib.hid (Blk.new _ _ _)
   have HFl := Lib.hid (fun V hV => Flat_any (W := V) HPq.out hV hV.1)
   clear hb1 HN1 HPq q0 q1 pt
   generalize World.alloc W5 _ = V6 at HB6 HBq ⊢
   generalize W5.heap.size = bq at HBq ⊢
   have HI6 := Lib.hid (HIr.out.on HB6.out)
   have z0 : V6.cell? ⟨bq, 0, none⟩ = some (.string f.nm) := by rw [HBq.out.cell]; rfl
   have z1 : V6.cell? ⟨bq, 1, none⟩ = some (.slice M1 f.params.length k1) := by rw [HBq.out.cell]; rfl
   have z2 : V6.cell? ⟨bq, 2, none⟩ = some (.slice M2 f.vars.length kk2) := by rw [HBq.out.cell]; rfl
   have z3 : V6.cell? ⟨bq, 3, none⟩ = some (.slice M3 f.body.length k3) := by rw [HBq.out.cell]; rfl
   have z4 : V6.cell? ⟨bq, 4, none⟩ = some (.slice M4 f.end_.length k4) := by rw [HBq.out.cell]; rfl
   generalize hits : flatOf f = its at HFl HT HIt HTs ⊢
   clear hits
   go_upto_region 7 with (go_at_call 20; refine (HFl.out V6 HI6.out).mono ?_; rintro e' W9 ⟨v9, rows9, rfl, ho9, ha9, hb9⟩; obtain ⟨X9, cx9, rfl, hx9, hx9'⟩ := own_shape ho9)
   have HSl := Lib.hid (slice_of_own ho9 ha9 (fun x cs h => by obtain ⟨c, rfl, hc⟩ := h; obtain ⟨_, _, _, _, _, _, _, _, _, _, _, _, _, _, _, _, _, _, _, _, _, _, _, _, _, rfl, _⟩ := stmt_open hc; rfl))
   have hVw : wr.heap.size ≤ V6.heap.size := HB6.out.size
   have HB9 : Hid (Below wr.heap.size wr W9) := Lib.hid (below_step HB6.out hb9)
   have HO9 : Hid (W9.ownsRow W2.heap.size 9 1 (.slice X M0.length c) M0.length (strs M0)) := Lib.hid ((Below.moves HB9.out).row HO.out (fun j hj e => Nat.not_lt.2 e (HO.out.lt j hj).2))
   have HBW9 := Lib.hid (below_step HB.out HB9.out)
   obtain ⟨T, hT⟩ : ∃ T : Nat → Prop, T = (fun b => V6.heap.size ≤ b ∧ b < W9.heap.size) := ⟨_, rfl⟩
   have HT9 : Hid (In T W9 W9) := Lib.hid (by rw [hT]; exact in_slf _ W9)
   have HOf : Hid (∀ j, (Value.slice X M0.length c).ownBlock = some j → ¬ T j) := Lib.hid (fun j hj => by rw [hT]; intro h; have := (HO.out.lt j hj).2; omega)
   rw [← hT] at HSl
   clear hT ho9 ha9 hb9 z0 z1 z2 z3 z4 HFl HBq HI6 HB6 HO HB HIr HBpr HB9 HOn hVw
   go_loopg [5, 31] its.length (fun kk o5 iv wr => ∃ (k2 : Nat) (X : Option Addr) (c : Nat) (M : List ByteArray), k2 + kk = its.length ∧ iv = .int .i64 k2 ∧ o5 = .slice X M.length c ∧ Hid (M = M0 ++ (saidOf ((its.take k2).map It.s)).filter gf) ∧ Hid (wr.ownsRow W2.heap.size 9 1 (.slice X M.length c) M.length (strs M)) ∧ Hid (Below W2.heap.size W2 wr) ∧ Hid (In T W9 wr) ∧ Hid (∀ j, (Value.slice X M.length c).ownBlock = some j → ¬ T j) ∧ Hid (∀ s ∈ M, small s))
   case atStart => exact ⟨0, X, c, M0, by omega, rfl, rfl, Lib.hid (by simp [saidOf]), HO9, HBW9, HT9, HOf, HSm⟩
   case round =>
    obtain ⟨k3, X3, c3, M1, hk3, rfl, rfl, HM1, HO3, HB3, HT3, HOf3, HSm3⟩ := hrel
    have HIr := Lib.hid (HI2.out.on HB3.out)
    by_cases hlt2 : k3 < its.length
    ·obtain ⟨a2, id, kind, labels, nm2, proc, x, has, args, th, el, L, lc, y0, y1, y2, Xx, xn, xc, R, rc, T0, tc, U, uc, dp, inn, els, rfl, hq2, hmk, hrow2, hid, hkind, hst, hdp, hinn, hels⟩ := item_at2 HSl.out (W := wr) HT3.out hlt2
     have hsm2 : its[k3].s ∈ preSL f.body := by rw [← HIt.out]; exact List.mem_map_of_mem (List.getElem_mem hlt2)
     have hs20 := HSf.out _ hsm2
     have HNx : Hid (saidOf ((its.take (k3 + 1)).map It.s) = saidOf ((its.take k3).map It.s) ++ saidS its[k3].s) := Lib.hid (by rw [List.take_succ_eq_append_getElem hlt2, List.map_append, saidOf_app]; simp [saidOf])
     have HNl : Hid (M1.length + (saidS its[k3].s).length ≤ 4000000000000) := Lib.hid (by
      have h1 := HTs.out (k3 + 1)
      rw [HIt.out, HNx.out, List.length_append] at h1
      have h2 := HNf.out
      have h3 := List.length_filter_le gf (saidOf ((its.take k3).map It.s))
      have h4 := HLn.out
      rw [HM1.out, List.length_append]
      omega)
     rw [hmk] at hs20 HNx HNl
     have HSa := Lib.hid (fun V hV => rSaid_any hst (Nat.le_trans hs20 (by omega)) V hV)
     have HSs := Lib.hid (said_small hst)
     obtain ⟨l2, hl2⟩ : ∃ l2, l2 = saidS (.mk id kind labels nm2 proc x has args th el) := ⟨_, rfl⟩
     rw [← hl2] at HSa HSs HNx HNl
     simp only [List.toArray] at HSa
     obtain ⟨p0, p1, p2, p3, p4, p5, p6, p7, p8, p9, p10, p11, p12, p13, p14, p15, _⟩ := hrow2
     clear hmk hst hid hkind hq2 hdp hinn hels hs20 hsm2 hl2
     go_upto_region 9 with fail
     have HBi : Hid (Blk (wr.alloc (.cells #[.int .i64 id, .int .i64 kind, .slice L labels.length lc, .string nm2, .string proc, .int .i64 y0, .int .i64 y1, .string y2, .slice Xx xn xc, .bool has, .slice R args.length rc, .slice T0 th.length tc, .slice U el.length uc, .int .i64 dp, .int .i64 inn, .bool els] 51)) wr.heap.size 51 #[.int .i64 id, .int .i64 kind, .slice L labels.length lc, .string nm2, .string proc, .int .i64 y0, .int .i64 y1, .string y2, .slice Xx xn xc, .bool has, .slice R args.length rc, .slice T0 th.length tc, .slice U el.length uc, .int .i64 dp, .int .i64 inn, .bool els]) := Lib.hid (Blk.new _ _ _)
     have HB4 : Hid (Below wr.heap.size wr (wr.alloc (.cells #[.int .i64 id, .int .i64 kind, .slice L labels.length lc, .string nm2, .string proc, .int .i64 y0, .int .i64 y1, .string y2, .slice Xx xn xc, .bool has, .slice R args.length rc, .slice T0 th.length tc, .slice U el.length uc, .int .i64 dp, .int .i64 inn, .bool els] 51))) := Lib.hid (below_box _)
     have HI4 : Hid (In Q w (wr.alloc (.cells #[.int .i64 id, .int .i64 kind, .slice L labels.length lc, .string nm2, .string proc, .int .i64 y0, .int .i64 y1, .string y2, .slice Xx xn xc, .bool has, .slice R args.length rc, .slice T0 th.length tc, .slice U el.length uc, .int .i64 dp, .int .i64 inn, .bool els] 51))) := Lib.hid (HIr.out.alloc _)
     clear p0 p1 p2 p3 p4 p5 p6 p7 p8 p9 p10 p11 p12 p13 p14 p15 HIr
     generalize World.alloc wr _ = V4 at HBi HB4 HI4 ⊢
     generalize hbi : wr.heap.size = bi at HBi ⊢
     clear hbi
     have s0 : V4.cell? ⟨bi, 0, none⟩ = some (.int .i64 id) := by rw [HBi.out.cell]; rfl
     have s1 : V4.cell? ⟨bi, 1, none⟩ = some (.int .i64 kind) := by rw [HBi.out.cell]; rfl
     have s2 : V4.cell? ⟨bi, 2, none⟩ = some (.slice L labels.length lc) := by rw [HBi.out.cell]; rfl
     have s3 : V4.cell? ⟨bi, 3, none⟩ = some (.string nm2) := by rw [HBi.out.cell]; rfl
     have s4 : V4.cell? ⟨bi, 4, none⟩ = some (.string proc) := by rw [HBi.out.cell]; rfl
     have s5 : V4.cell? ⟨bi, 5, none⟩ = some (.int .i64 y0) := by rw [HBi.out.cell]; rfl
     have s6 : V4.cell? ⟨bi, 6, none⟩ = some (.int .i64 y1) := by rw [HBi.out.cell]; rfl
     have s7 : V4.cell? ⟨bi, 7, none⟩ = some (.string y2) := by rw [HBi.out.cell]; rfl
     have s8 : V4.cell? ⟨bi, 8, none⟩ = some (.slice Xx xn xc) := by rw [HBi.out.cell]; rfl
     have s9 : V4.cell? ⟨bi, 9, none⟩ = some (.bool has) := by rw [HBi.out.cell]; rfl
     have s10 : V4.cell? ⟨bi, 10, none⟩ = some (.slice R args.length rc) := by rw [HBi.out.cell]; rfl
     have s11 : V4.cell? ⟨bi, 11, none⟩ = some (.slice T0 th.length tc) := by rw [HBi.out.cell]; rfl
     have s12 : V4.cell? ⟨bi, 12, none⟩ = some (.slice U el.length uc) := by rw [HBi.out.cell]; rfl
     go_upto_region 10 with (go_at_call 21; refine (HSa.out V4 HI4.out).mono ?_; rintro e' W11 ⟨v11, rfl, ho11, hb11⟩; obtain ⟨X11, k11, rfl, h111, h112⟩ := own_shape ho11)
     have HB11 : Hid (Below wr.heap.size wr W11) := Lib.hid (below_step HB4.out hb11)
     have HTx := Lib.hid (texts_of_own HSs.out ho11).2
     obtain ⟨U2, hU⟩ : ∃ U : Nat → Prop, U = (fun b => V4.heap.size ≤ b ∧ b < W11.heap.size) := ⟨_, rfl⟩
     rw [← hU] at HTx
     have HU1 : Hid (In U2 W11 W11) := Lib.hid (by rw [hU]; exact in_slf _ W11)
     have hVw : wr.heap.size ≤ V4.heap.size := HB4.out.size
     have HOu : Hid (∀ j, (Value.slice X3 M1.length c3).ownBlock = some j → ¬ U2 j) := Lib.hid (fun j hj => by rw [hU]; intro h; have := (HO3.out.lt j hj).2; omega)
     have HO5 : Hid (W11.ownsRow W2.heap.size 9 1 (.slice X3 M1.length c3) M1.length (strs M1)) := Lib.hid ((Below.moves HB11.out).row HO3.out (fun j hj e => Nat.not_lt.2 e (HO3.out.lt j hj).2))
     have HB5 := Lib.hid (below_step HB3.out HB11.out)
     have HT5 := Lib.hid (HT3.out.on HB11.out)
     clear hU ho11 hb11 s0 s1 s2 s3 s4 s5 s6 s7 s8 s9 s10 s11 s12 HSa HBi HI4 HB4 HO3 HB3 HT3 HB11 hVw
     go_loopg [5, 39] l2.length (fun kk o5 iv wr => ∃ (j : Nat) (X : Option Addr) (c : Nat) (M : List ByteArray), j + kk = l2.length ∧ iv = .int .i64 j ∧ o5 = .slice X M.length c ∧ Hid (M = M1 ++ (l2.take j).filter gf) ∧ Hid (wr.ownsRow W2.heap.size 9 1 (.slice X M.length c) M.length (strs M)) ∧ Hid (Below W2.heap.size W2 wr) ∧ Hid (In T W9 wr) ∧ Hid (∀ j, (Value.slice X M.length c).ownBlock = some j → ¬ T j) ∧ Hid (In U2 W11 wr) ∧ Hid (∀ j, (Value.slice X M.length c).ownBlock = some j → ¬ U2 j) ∧ Hid (∀ s ∈ M, small s))
     case atStart => exact ⟨0, X3, c3, M1, by omega, rfl, rfl, Lib.hid (by simp), HO5, HB5, HT5, HOf3, HU1, HOu, HSm3⟩
     case round =>
      obtain ⟨j, X6, c6, M2, hj, rfl, rfl, HM2, HO6, HB6, HT6, HOf6, HU6, HOu6, HSm6⟩ := hrel
      by_cases hjt : j < l2.length
      ·obtain ⟨a, rfl, _, pt, hsz⟩ := text_at HTx.out HU6.out hjt
       have HCj : Hid (l2.take (j + 1) = l2.take j ++ [l2[j]]) := Lib.hid (List.take_succ_eq_append_getElem hjt)
       have HIg := Lib.hid (rIn_any HGt.out (HI2.out.on HB6.out) l2[j])
       rw [HGf.out] at HIg
       have hM2l : M2.length ≤ 4000000000000 := by
        have h1 := HNl.out
        have h2 := List.length_filter_le gf (l2.take j)
        rw [List.length_take] at h2
        rw [HM2.out, List.length_append]
        omega
       generalize l2[j] = t at pt HCj HIg hsz
       have HBp6 := Lib.hid (HBp2.out.below HB6.out hbl)
       have q0 : wr.cell? ⟨b, 0, none⟩ = some (.slice Ag p.globals.length cg) := by rw [HBp6.out.cell]; rfl
       cases hg : gf t with
       | false =>
        have HMn : Hid (M2 = M1 ++ (l2.take (j + 1)).filter gf) := Lib.hid (by rw [HCj.out, List.filter_append, HM2.out]; simp [hg])
        rw [hg] at HIg
        clear hg
        go_wp2_with (go_at_call 22; refine HIg.out.mono ?_; rintro e' W' ⟨rfl, rfl⟩)
        go_roundg (l2.length - j - 1)
        case measure => omega
        case rel => exact ⟨j + 1, X6, c6, M2, by omega, by go_num, rfl, HMn, HO6, HB6, HT6, HOf6, HU6, HOu6, HSm6⟩
       | true =>
        have HMn : Hid (M2 ++ [t] = M1 ++ (l2.take (j + 1)).filter gf) := Lib.hid (by rw [HCj.out, List.filter_append, HM2.out]; simp [hg])
        rw [hg] at HIg
        clear hg
        have HSt : Hid (small t) := Lib.hid hsz
        have HW := Lib.hid (new_one wr t)
        have HO7 : Hid ((wr.alloc (.cells #[.string t] 9)).ownsRow W2.heap.size 9 1 (.slice X6 M2.length c6) M2.length (strs M2)) := Lib.hid (HO6.out.alloc _)
        have HB7 : Hid (Below W2.heap.size W2 (wr.alloc (.cells #[.string t] 9))) := Lib.hid (below_stepA HB6.out _)
        have HT7 : Hid (In T W9 (wr.alloc (.cells #[.string t] 9))) := Lib.hid (HT6.out.alloc _)
        have HU7 : Hid (In U2 W11 (wr.alloc (.cells #[.string t] 9))) := Lib.hid (HU6.out.alloc _)
        go_wp2_with (first
         | (go_at_call 22; refine HIg.out.mono ?_; rintro e' W' ⟨rfl, rfl⟩)
         | (at_builtin; refine wpList_append_own_at _ rfl (.tmp 47) (.tmp 49) 22 rfl W2.heap.size 9 i0 _ 1 16 Tryz.underlying22 hi0 hz0 hz1 hz2 rfl (by decide) _ M2.length (strs M2) rfl HO7.out ⟨wr.heap.size, 0, none⟩ 1 1 [.string t] rfl rfl HW.out (by simp [Value.oneCell']) (by unfold maxLen; omega) (by omega) HB7.out.size ?_; intro v8 w8 hown8 hg8 _ hat8; obtain ⟨X8, k8, rfl, _, _⟩ := own_shape hown8; have HO8 : Hid (w8.ownsRow W2.heap.size 9 1 (.slice X8 (M2 ++ [t]).length k8) (M2 ++ [t]).length (strs (M2 ++ [t]))) := Lib.hid (by rw [strs_append, List.length_append]; exact hown8); have HB8 : Hid (Below W2.heap.size W2 w8) := Lib.hid (HB7.out.grown hg8 HB7.out.size (fun j hj => (HO7.out.lt j hj).1)); have HT8 := Lib.hid (HT7.out.moves (moves_grown hg8) (fun j hj => HOf6.out j hj)); have HU8 := Lib.hid (HU7.out.moves (moves_grown hg8) (fun j hj => HOu6.out j hj)); have HOf8 : Hid (∀ j, (Value.slice X8 (M2 ++ [t]).length k8).ownBlock = some j → ¬ T j) := Lib.hid (by rw [List.length_append]; exact off_new HT7.out HOf6.out hat8); have HOu8 : Hid (∀ j, (Value.slice X8 (M2 ++ [t]).length k8).ownBlock = some j → ¬ U2 j) := Lib.hid (by rw [List.length_append]; exact off_new HU7.out HOu6.out hat8); clear hown8 hg8 hat8))
        go_roundg (l2.length - j - 1)
        case measure => omega
        case rel => exact ⟨j + 1, X8, k8, M2 ++ [t], by omega, by go_num, by rw [List.length_append]; rfl, HMn, HO8, HB8, HT8, HOf8, HU8, HOu8, Lib.hid (fun s hs => by
         rcases List.mem_append.1 hs with hs | hs
         ·exact HSm6.out s hs
         ·rw [List.mem_singleton.1 hs]; exact HSt.out)⟩
      ·obtain rfl : j = l2.length := by omega
       have HMn : Hid (M2 = M0 ++ (saidOf ((its.take (k3 + 1)).map It.s)).filter gf) := Lib.hid (by rw [HNx.out, List.filter_append, ← List.append_assoc, ← HM1.out, HM2.out, List.take_length])
       go_wp2_with fail
       go_roundg (its.length - k3 - 1)
       case measure => omega
       case rel => exact ⟨k3 + 1, X6, c6, M2, by omega, by go_num, rfl, HMn, HO6, HB6, HT6, HOf6, HSm6⟩
    ·obtain rfl : k3 = its.length := by omega
     have HMn : Hid (M1 = (tdL p (N.take (k + 1))).filter gf) := Lib.hid (by rw [HT.out, List.filter_append, ← HM.out, HM1.out, List.take_length])
     have HLn2 : Hid (M1.length ≤ (k + 1) * 10000000) := Lib.hid (by
      have h1 := HLn.out
      have h2 := List.length_filter_le gf (saidOf ((its.take its.length).map It.s))
      rw [List.take_length, HIt.out] at h2
      have h3 := HNf.out
      rw [HM1.out, List.length_append, List.take_length, HIt.out, Nat.add_mul]
      omega)
     go_wp2_with fail
     go_roundg (N.length - k - 1)
     case measure => omega
     case rel => exact ⟨k + 1, X3, c3, M1, by omega, by go_num, rfl, HMn, HO3, HB3, HSm3, HLn2⟩
  ·obtain rfl : k = N.length := by omega
   have HMn : Hid (M0 = (tdL p N).filter gf) := Lib.hid (by have h := HM.out; rwa [List.take_length] at h)
   have HTx := Lib.hid (texts_of_own HSm.out HO.out).2
   have hml : M0.length ≤ 1000000000000 := by have := HLn.out; omega
   have HSr := Lib.hid (rSorted_any HTx.out hml (in_slf _ wr))
   have HVw : Hid (W.heap.size ≤ wr.heap.size) := Lib.hid (below_step HB2.out HB.out).size
   rw [← HMn.out] at HRs
   go_wp2_with (go_at_call 91; refine HSr.out.mono ?_; rintro e' W12 ⟨v12, rfl, ho12, hb12⟩; have HO12 := Lib.hid ho12; have HB12 := Lib.hid (below_step (below_step HB2.out HB.out) hb12); clear ho12 hb12)
   go_ret
   exact ⟨srt M0, v12, rfl, own_lower HO12.out HVw.out, HB12.out, HRs.out⟩
end Go.Proofs.YtimejkbmfbjomaaGreat
