/- Texts, merged by a program; only what is used. -/
import Derived.Test.YtddfpmdbndakgaaK1
import Derived.Test.YtddfpmdbndakgaaK2
import Derived.Test.YtddfpmdbndakgaaK3
import Derived.Test.YtddfpmdbndakgaaK4
import Derived.Test.YtddfpmdbndakgaaK5
import Derived.Test.YtddfpmdbndakgaaK6
import Derived.Test.YtddfpmdbndakgaaK7
import Derived.Test.YtddfpmdbndakgaaK8
import Derived.Test.YtddfpmdbndakgaaK9
import Derived.Test.YtddfpmdbndakgaaK10
import Derived.Test.YtddfpmdbndakgaaK11
import Derived.Test.YtddfpmdbndakgaaK12
import Derived.Test.YtddfpmdbndakgaaK13
import Derived.Test.YtddfpmdbndakgaaK14
import Derived.Test.YtddfpmdbndakgaaK15
import Derived.Test.YtddfpmdbndakgaaK16
import Derived.Test.YtddfpmdbndakgaaK17
import Derived.Test.YtddfpmdbndakgaaK18
import Derived.Test.YtddfpmdbndakgaaK19
import Derived.Test.YtddfpmdbndakgaaK20
import Derived.Test.YtddfpmdbndakgaaK21
import Derived.Test.YtddfpmdbndakgaaK22
import Derived.Test.YtddfpmdbndakgaaK23
import Derived.Test.YtddfpmdbndakgaaK24
import Derived.Test.YtddfpmdbndakgaaK25
import Derived.Test.YtddfpmdbndakgaaK26
import Derived.Test.YtddfpmdbndakgaaK27
import Derived.Test.YtddfpmdbndakgaaK28
import Derived.Test.YtddfpmdbndakgaaK29
import Derived.Test.YtddfpmdbndakgaaK30
import Derived.Test.YtddfpmdbndakgaaL1
import Derived.Test.YtddfpmdbndakgaaL2
import Derived.Test.YtddfpmdbndakgaaL3
import Derived.Test.YtddfpmdbndakgaaL4
import Derived.Test.YtddfpmdbndakgaaL5
import Derived.Test.YtddfpmdbndakgaaM1
import Derived.Test.YtddfpmdbndakgaaM2
namespace Go.Proofs.Ytddfpmdbndakgaa
open Go.ChangeShapes Go.WideShapes Go.ChangeAt Go.RowKit Go.Deep
set_option linter.unusedVariables false
set_option linter.unusedSimpArgs false
theorem allL_map : ∀ (l : List Pr) (out : List It), (∀ q ∈ l, (flatOf q).map It.s = preSL q.body) → out.length + cntL l ≤ 200 → (allL l out).map It.s = out.map It.s ++ l.flatMap (fun q => preSL q.body)
 | [], out, _, _ => by rw [allL]; simp
 | q :: l, out, h, hn => by
  have hq := h q (List.mem_cons_self ..)
  have hl : (flatOf q).length = (preSL q.body).length := by rw [← hq, List.length_map]
  rw [cntL] at hn
  rw [allL, if_neg (by rw [List.length_append]; omega), allL_map l _ (fun q hq => h q (List.mem_cons_of_mem _ hq)) (by rw [List.length_append]; omega), List.map_append, hq, List.flatMap_cons, List.append_assoc]
theorem all_map {p : Pg} (h : mayP p = true) : (allOf p).map It.s = p.procs.flatMap (fun q => preSL q.body) := by
 obtain ⟨h1, h2, _⟩ := may_flat h
 have := allL_map p.procs [] (fun q hq => (h1 q hq).1) (by simpa [cntP] using h2)
 simpa [allOf] using this
theorem all_ids {p : Pg} (h : mayP p = true) : ∀ x ∈ allOf p, 1 ≤ x.s.id ∧ x.s.id ≤ 200 := fun x hx => by
 have h1 : x.s ∈ (allOf p).map It.s := List.mem_map_of_mem hx
 rw [all_map h, List.mem_flatMap] at h1
 obtain ⟨q, hq, hs⟩ := h1
 exact may_ids h q hq _ hs
theorem arL_eq {ps : List Pr} : ∀ (l : List Pr), (∀ q ∈ l, ∀ s ∈ preSL q.body, s.id ≠ 0) → arL ps l = if fstB (misB ps) (l.flatMap (fun q => preSL q.body)) = 0 then (0, 0) else (6, fstB (misB ps) (l.flatMap (fun q => preSL q.body)))
 | [], _ => rfl
 | q :: l, h => by
  rw [arL, List.flatMap_cons, fstB_app (h q (List.mem_cons_self ..)), arL_eq l (fun q hq => h q (List.mem_cons_of_mem _ hq))]
  by_cases h0 : fstB (misB ps) (preSL q.body) = 0
  ·simp [h0]
  ·simp [h0]
def rarP (p : Pg) : Int × Int := if fstB (misB p.procs) ((allOf p).map It.s) = 0 then (0, 0) else (6, fstB (misB p.procs) ((allOf p).map It.s))
theorem rarP_eq {p : Pg} (h : mayP p = true) : rarP p = arL p.procs p.procs := by
 rw [arL_eq p.procs (fun q hq s hs => by have := may_ids h q hq s hs; omega)]
 unfold rarP
 rw [all_map h]
set_option maxHeartbeats 8000000 in
set_option maxRecDepth 100000 in
theorem rarity_any {w : World} {Q : Nat → Prop} {p : Pg} {c0 c1 : Value} (h : ProgI w Q p [c0, c1]) (hm : mayP p = true) (W : World) (hI : In Q w W) :
 Calls Try.prog 95 #[.agg #[c0, c1]] W (ChRes (rarP p) W) := by
 have HAl := Lib.hid (fun V hV => All_any (W := V) h hV)
 have HCf := Lib.hid (fun s cs (hs : StmtI w Q s cs) V hV => rcallFits_any h hs V hV)
 obtain ⟨Ag, cg, Ap, cp, rfl, rfl, _⟩ := prog_open h
 have HI := Lib.hid hI
 have HIds := Lib.hid (all_ids hm)
 have HK : Hid (rarP p = if fstB (misB p.procs) ((allOf p).map It.s) = 0 then (0, 0) else (6, fstB (misB p.procs) ((allOf p).map It.s))) := Lib.hid rfl
 clear h hI hm
 generalize rarP p = res at HK
 generalize allOf p = its at HAl HIds HK
 go_enter Try.func95, Try.ntmps95
 go_upto_region 1 with fail
 have HB0 : Hid (Below W.heap.size W ((W.alloc (.cells #[.slice Ag p.globals.length cg, .slice Ap p.procs.length cp] 25)).alloc (.cells #[.int .i64 0, .int .i64 0] 45))) := Lib.hid (below_two _ _)
 have HBp : Hid (Blk ((W.alloc (.cells #[.slice Ag p.globals.length cg, .slice Ap p.procs.length cp] 25)).alloc (.cells #[.int .i64 0, .int .i64 0] 45)) W.heap.size 25 #[.slice Ag p.globals.length cg, .slice Ap p.procs.length cp]) := Lib.hid ((Blk.new _ _ _).alloc _)
 have HBf : Hid (Blk ((W.alloc (.cells #[.slice Ag p.globals.length cg, .slice Ap p.procs.length cp] 25)).alloc (.cells #[.int .i64 0, .int .i64 0] 45)) (W.heap.size + 1) 45 #[.int .i64 0, .int .i64 0]) := Lib.hid (by have := Blk.new (W.alloc (.cells #[.slice Ag p.globals.length cg, .slice Ap p.procs.length cp] 25)) 45 #[.int .i64 0, .int .i64 0]; rw [World.size_alloc] at this; exact this)
 generalize World.alloc _ _ = V at HB0 HBp HBf ⊢
 have HI0 := Lib.hid (HI.out.on HB0.out)
 have hwb : W.heap.size ≤ W.heap.size + 1 := by omega
 generalize hbe : W.heap.size = b at HBp HBf hwb ⊢
 generalize hfe : b + 1 = f at HBf hwb ⊢
 have hWf : W.heap.size ≤ f := by omega
 clear hbe hfe
 have q0 : V.cell? ⟨b, 0, none⟩ = some (.slice Ag p.globals.length cg) := by rw [HBp.out.cell]; rfl
 have q1 : V.cell? ⟨b, 1, none⟩ = some (.slice Ap p.procs.length cp) := by rw [HBp.out.cell]; rfl
 have hbl := HBp.out.lt
 have hfl := HBf.out.lt
 go_upto_region 2 with (go_at_call 21; refine (HAl.out V HI0.out).mono ?_; rintro e w1 ⟨X1, n1, k1, rfl, hal⟩; obtain ⟨rfl, hn1, hk1, hsl⟩ := hal.slice)
 have HSl := Lib.hid hsl
 have HB1 := Lib.hid (below_step HB0.out hal.below)
 have HI1 := Lib.hid hal.inn
 have HBp1 := Lib.hid (HBp.out.below hal.below hbl)
 have HBf1 := Lib.hid (HBf.out.below hal.below hfl)
 have HIl : Hid (In (fun b => V.heap.size ≤ b ∧ b < w1.heap.size) w1 w1) := Lib.hid ⟨fun b h => h.2, fun _ _ => rfl⟩
 clear q0 q1 hal hsl HB0 HBp HBf HI0 hbl hfl HAl
 have hbl := HBp1.out.lt
 have hfl := HBf1.out.lt
 generalize (fun b => V.heap.size ≤ b ∧ b < w1.heap.size) = T0 at HSl HIl
 go_loopg [8] its.length (fun kk iv wr => ∃ (k : Nat), k + kk = its.length ∧ iv = .int .i64 k ∧ Hid (Below w1.heap.size w1 wr) ∧ Hid (fstB (misB p.procs) ((its.drop k).map It.s) = fstB (misB p.procs) (its.map It.s)))
 case atStart => exact ⟨0, by omega, rfl, Lib.hid (Below.refl _ _), Lib.hid rfl⟩
 case round =>
  obtain ⟨k, hk, rfl, HBr, HA⟩ := hrel
  have HIr := Lib.hid (HI1.out.on HBr.out)
  by_cases hlt : k < its.length
  ·obtain ⟨a2, id, kind, labels, nm, proc, x, has, args, th, el, L, lc, y0, y1, y2, X, xn, xc, R, rc, T, tc, U, uc, dp, inn, els, rfl, hq2, hmk, hrow2, hid, hkind, hst⟩ := item_at HSl.out (HIl.out.on HBr.out) hlt
   obtain ⟨hi1, hi2⟩ := HIds.out _ (List.getElem_mem hlt)
   have HF3 : Hid (fstB (misB p.procs) (its.map It.s) = if misB p.procs its[k].s = true then its[k].s.id else fstB (misB p.procs) ((its.drop (k + 1)).map It.s)) := Lib.hid (by rw [← HA.out, List.drop_eq_getElem_cons hlt, List.map_cons, fstB_cons])
   rw [hmk] at HF3 hi1 hi2
   have hidb : 1 ≤ id := hi1
   have hidc : id ≤ 200 := hi2
   have HCs := Lib.hid (fun V hV => HCf.out _ _ hst V hV)
   simp only [List.toArray] at HCs
   obtain ⟨r, hr⟩ : ∃ r, r = fitsB p.procs (.mk id kind labels nm proc x has args th el) := ⟨_, rfl⟩
   obtain ⟨d, hd⟩ : ∃ d, d = misB p.procs (.mk id kind labels nm proc x has args th el) := ⟨_, rfl⟩
   have HD : Hid (d = (kind == 4 && !r)) := Lib.hid (by rw [hd, hr]; rfl)
   have HF4 : Hid (fstB (misB p.procs) (its.map It.s) = if d = true then id else fstB (misB p.procs) ((its.drop (k + 1)).map It.s)) := Lib.hid (by rw [hd]; exact HF3.out)
   rw [← hr] at HCs
   have hkb := hkind
   unfold i64 at hkb
   obtain ⟨p0, p1, p2, p3, p4, p5, p6, p7, p8, p9, p10, p11, p12, p13, p14, p15, _⟩ := hrow2
   clear hr hd HF3 hmk hst hid hkind hi1 hi2 hq2 HA
   go_upto_region 4 with fail
   have HBi : Hid (Blk (wr.alloc (.cells #[.int .i64 id, .int .i64 kind, .slice L labels.length lc, .string nm, .string proc, .int .i64 y0, .int .i64 y1, .string y2, .slice X xn xc, .bool has, .slice R args.length rc, .slice T th.length tc, .slice U el.length uc, .int .i64 dp, .int .i64 inn, .bool els] 113)) wr.heap.size 113 #[.int .i64 id, .int .i64 kind, .slice L labels.length lc, .string nm, .string proc, .int .i64 y0, .int .i64 y1, .string y2, .slice X xn xc, .bool has, .slice R args.length rc, .slice T th.length tc, .slice U el.length uc, .int .i64 dp, .int .i64 inn, .bool els]) := Lib.hid (Blk.new _ _ _)
   have HB4 : Hid (Below w1.heap.size w1 (wr.alloc (.cells #[.int .i64 id, .int .i64 kind, .slice L labels.length lc, .string nm, .string proc, .int .i64 y0, .int .i64 y1, .string y2, .slice X xn xc, .bool has, .slice R args.length rc, .slice T th.length tc, .slice U el.length uc, .int .i64 dp, .int .i64 inn, .bool els] 113))) := Lib.hid (below_stepA HBr.out _)
   have HI4 : Hid (In Q w (wr.alloc (.cells #[.int .i64 id, .int .i64 kind, .slice L labels.length lc, .string nm, .string proc, .int .i64 y0, .int .i64 y1, .string y2, .slice X xn xc, .bool has, .slice R args.length rc, .slice T th.length tc, .slice U el.length uc, .int .i64 dp, .int .i64 inn, .bool els] 113))) := Lib.hid (HIr.out.alloc _)
   clear p0 p1 p2 p3 p4 p5 p6 p7 p8 p9 p10 p11 p12 p13 p14 p15 HIr HBr
   generalize World.alloc wr _ = V4 at HBi HB4 HI4 ⊢
   generalize wr.heap.size = bi at HBi ⊢
   have hil := HBi.out.lt
   have HBp4 := Lib.hid (HBp1.out.below HB4.out hbl)
   have q0 : V4.cell? ⟨b, 0, none⟩ = some (.slice Ag p.globals.length cg) := by rw [HBp4.out.cell]; rfl
   have q1 : V4.cell? ⟨b, 1, none⟩ = some (.slice Ap p.procs.length cp) := by rw [HBp4.out.cell]; rfl
   have s0 : V4.cell? ⟨bi, 0, none⟩ = some (.int .i64 id) := by rw [HBi.out.cell]; rfl
   have s1 : V4.cell? ⟨bi, 1, none⟩ = some (.int .i64 kind) := by rw [HBi.out.cell]; rfl
   have s2 : V4.cell? ⟨bi, 2, none⟩ = some (.slice L labels.length lc) := by rw [HBi.out.cell]; rfl
   have s3 : V4.cell? ⟨bi, 3, none⟩ = some (.string nm) := by rw [HBi.out.cell]; rfl
   have s4 : V4.cell? ⟨bi, 4, none⟩ = some (.string proc) := by rw [HBi.out.cell]; rfl
   have s5 : V4.cell? ⟨bi, 5, none⟩ = some (.int .i64 y0) := by rw [HBi.out.cell]; rfl
   have s6 : V4.cell? ⟨bi, 6, none⟩ = some (.int .i64 y1) := by rw [HBi.out.cell]; rfl
   have s7 : V4.cell? ⟨bi, 7, none⟩ = some (.string y2) := by rw [HBi.out.cell]; rfl
   have s8 : V4.cell? ⟨bi, 8, none⟩ = some (.slice X xn xc) := by rw [HBi.out.cell]; rfl
   have s9 : V4.cell? ⟨bi, 9, none⟩ = some (.bool has) := by rw [HBi.out.cell]; rfl
   have s10 : V4.cell? ⟨bi, 10, none⟩ = some (.slice R args.length rc) := by rw [HBi.out.cell]; rfl
   have s11 : V4.cell? ⟨bi, 11, none⟩ = some (.slice T th.length tc) := by rw [HBi.out.cell]; rfl
   have s12 : V4.cell? ⟨bi, 12, none⟩ = some (.slice U el.length uc) := by rw [HBi.out.cell]; rfl
   go_cut [22] from 12 to 21 (fun s wx => s = .bool d ∧ Hid (Below V4.heap.size V4 wx))
   case first =>
    by_cases hk4 : kind = 4
    ·subst hk4
     have HB2 : Hid (d = !r) := Lib.hid HD.out
     clear HD
     go_wp2_with (go_at_call 97; refine (HCs.out V4 HI4.out).mono ?_; rintro e w5 ⟨rfl, hb5⟩)
     go_meet
     exact ⟨by rw [HB2.out], Lib.hid hb5⟩
    ·have hk5 : (kind == 4) = false := beq_eq_false_iff_ne.2 hk4
     have HB2 : Hid (d = false) := Lib.hid (by rw [HD.out, hk5]; rfl)
     clear hk4 HD
     go_wp2_with fail
     go_meet
     exact ⟨by rw [HB2.out], Lib.hid (Below.refl _ _)⟩
   case rest =>
    obtain ⟨rfl, HC⟩ := hcut
    have HBi5 := Lib.hid (HBi.out.below HC.out hil)
    have HB5 := Lib.hid (below_step HB4.out HC.out)
    have HBf5 := Lib.hid (HBf1.out.below HB5.out hfl)
    have HBW5 := Lib.hid (below_step HB1.out HB5.out)
    clear q0 q1 s0 s1 s2 s3 s4 s5 s6 s7 s8 s9 s10 s11 s12 HC HB4 HI4 HBi hil HD HCs
    cases d with
    | true =>
     have HAn : Hid (res = (6, id)) := Lib.hid (by
      have h1 : fstB (misB p.procs) (its.map It.s) = id := by rw [HF4.out]; rfl
      rw [HK.out, h1, if_neg (by omega)])
     clear HF4 HK
     have s0 : wc.cell? ⟨bi, 0, none⟩ = some (.int .i64 id) := by rw [HBi5.out.cell]; rfl
     go_wp2_with (go_at_call 78; refine (rfault_any 6 id wc).mono ?_; rintro e wf ⟨rfl, hbf_⟩; have HB_ := Lib.hid (below_step HBW5.out hbf_); have HBf_ := Lib.hid (HBf5.out.below hbf_ HBf5.out.lt); have f0_ := HBf_.out.frozen 0; have f1_ := HBf_.out.frozen 1; have y0_ : wf.cell? ⟨f, 0, none⟩ = some (.int .i64 0) := (by rw [HBf_.out.cell]; rfl); have y1_ : wf.cell? ⟨f, 1, none⟩ = some (.int .i64 0) := (by rw [HBf_.out.cell]; rfl); clear hbf_)
     (try simp only [Exit.inBlock, Exit.then])
     refine bodyPost_ret (results_c1 rfl _ _ f 45 #[.int .i64 6, .int .i64 id] (0, 0) _ rfl (fault_end HBf_.out) Try.underlying45 rfl (by kernel_rfl)) rfl ?_
     exact ⟨by rw [HAn.out], below_setc (below_setc HB_.out hWf _) hWf _⟩
    | false =>
     have HF5 : Hid (fstB (misB p.procs) (its.map It.s) = fstB (misB p.procs) ((its.drop (k + 1)).map It.s)) := Lib.hid HF4.out
     clear HF4
     go_wp2_with fail
     go_roundg (its.length - k - 1)
     case measure => omega
     case rel => exact ⟨k + 1, by omega, by go_num, HB5, Lib.hid HF5.out.symm⟩
  ·have HFe : Hid (res = (0, 0)) := Lib.hid (by
    have h1 : fstB (misB p.procs) (its.map It.s) = 0 := by rw [← HA.out, List.drop_of_length_le (by omega)]; rfl
    rw [HK.out, h1]; rfl)
   have HBfr := Lib.hid (HBf1.out.below HBr.out hfl)
   have HBWr := Lib.hid (below_step HB1.out HBr.out)
   have f0_ := HBfr.out.frozen 0
   have f1_ := HBfr.out.frozen 1
   have y0_ : wr.cell? ⟨f, 0, none⟩ = some (.int .i64 0) := by rw [HBfr.out.cell]; rfl
   have y1_ : wr.cell? ⟨f, 1, none⟩ = some (.int .i64 0) := by rw [HBfr.out.cell]; rfl
   go_wp2_with fail
   (try simp only [Exit.inBlock, Exit.then])
   refine bodyPost_ret (results_c1 rfl _ _ f 45 #[.int .i64 0, .int .i64 0] (0, 0) _ rfl (fault_end HBfr.out) Try.underlying45 rfl (by kernel_rfl)) rfl ?_
   exact ⟨by rw [HFe.out], below_setc (below_setc HBWr.out hWf _) hWf _⟩
set_option maxHeartbeats 4000000 in
set_option maxRecDepth 100000 in
theorem rArity_any {w : World} {Q : Nat → Prop} {p : Pg} {c0 c1 : Value} (h : ProgI w Q p [c0, c1]) (hsm : SmG p) (W : World) (hI : In Q w W) :
 Calls Try.prog 46 #[.agg #[c0, c1]] W (ChRes (arP p) W) := by
 have HS := Lib.hid (fun V hV => rScope_any h hsm V hV)
 have HR := Lib.hid (fun hm V hV => rarity_any h hm V hV)
 have HRe := Lib.hid (fun hm => rarP_eq (p := p) hm)
 obtain ⟨Ag, cg, Ap, cp, rfl, rfl, _⟩ := prog_open h
 have HI := Lib.hid hI
 have HOk := Lib.hid (chk_ok (p := p))
 have HK : Hid (arP p = if (chkP p).1 = 0 then arL p.procs p.procs else (1, 0)) := Lib.hid rfl
 have hff : ∀ (a c : Int) (w : World), (Instr.field 45 (.agg #[.int .i64 a, .int .i64 c]) 0).run Try.prog w = .ok (.int .i64 a) w := fun _ _ _ => by kernel_rfl
 clear h hI hsm
 generalize chkP p = r at HS HK HOk
 obtain ⟨rc, ri⟩ := r
 simp only at HK HOk
 go_enter Try.func46, Try.ntmps46
 go_upto_region 1 with fail
 have HB0 : Hid (Below W.heap.size W ((W.alloc (.cells #[.slice Ag p.globals.length cg, .slice Ap p.procs.length cp] 25)).alloc (.cells #[.int .i64 0, .int .i64 0] 45))) := Lib.hid (below_two _ _)
 have HBp : Hid (Blk ((W.alloc (.cells #[.slice Ag p.globals.length cg, .slice Ap p.procs.length cp] 25)).alloc (.cells #[.int .i64 0, .int .i64 0] 45)) W.heap.size 25 #[.slice Ag p.globals.length cg, .slice Ap p.procs.length cp]) := Lib.hid ((Blk.new _ _ _).alloc _)
 have HBf : Hid (Blk ((W.alloc (.cells #[.slice Ag p.globals.length cg, .slice Ap p.procs.length cp] 25)).alloc (.cells #[.int .i64 0, .int .i64 0] 45)) (W.heap.size + 1) 45 #[.int .i64 0, .int .i64 0]) := Lib.hid (by have := Blk.new (W.alloc (.cells #[.slice Ag p.globals.length cg, .slice Ap p.procs.length cp] 25)) 45 #[.int .i64 0, .int .i64 0]; rw [World.size_alloc] at this; exact this)
 generalize World.alloc _ _ = V at HB0 HBp HBf ⊢
 have HI0 := Lib.hid (HI.out.on HB0.out)
 have hwb : W.heap.size ≤ W.heap.size + 1 := by omega
 generalize hbe : W.heap.size = b at HBp HBf hwb ⊢
 generalize hfe : b + 1 = f at HBf hwb ⊢
 have hWf : W.heap.size ≤ f := by omega
 clear hbe hfe
 have q0 : V.cell? ⟨b, 0, none⟩ = some (.slice Ag p.globals.length cg) := by rw [HBp.out.cell]; rfl
 have q1 : V.cell? ⟨b, 1, none⟩ = some (.slice Ap p.procs.length cp) := by rw [HBp.out.cell]; rfl
 have hbl := HBp.out.lt
 have hfl := HBf.out.lt
 by_cases hr : rc = 0
 ·subst hr
  have hmy := (HOk.out rfl).may
  have HR2 := Lib.hid (fun V hV => HR.out hmy V hV)
  have HK2 : Hid (arP p = arL p.procs p.procs) := Lib.hid HK.out
  rw [HRe.out hmy, ← HK2.out] at HR2
  clear HK HOk HR HRe hmy
  generalize hres : arP p = res at HR2
  have HRs := Lib.hid hres
  clear hres
  obtain ⟨qc, qi⟩ := res
  go_upto_region 3 with (go_at_call 28; refine (HS.out V HI0.out).mono ?_; rintro e w1 ⟨rfl, hb1⟩)
  have HB1 := Lib.hid (below_step HB0.out hb1)
  have HI1 := Lib.hid (HI0.out.on hb1)
  have HBp1 := Lib.hid (HBp.out.below hb1 hbl)
  have HBf1 := Lib.hid (HBf.out.below hb1 hfl)
  clear q0 q1 hb1 HK2
  have q0 : w1.cell? ⟨b, 0, none⟩ = some (.slice Ag p.globals.length cg) := by rw [HBp1.out.cell]; rfl
  have q1 : w1.cell? ⟨b, 1, none⟩ = some (.slice Ap p.procs.length cp) := by rw [HBp1.out.cell]; rfl
  go_wp2_with (go_at_call 95; refine (HR2.out w1 HI1.out).mono ?_; rintro e w2 ⟨rfl, hb2⟩; have HB2 := Lib.hid (below_step HB1.out hb2); have HBf2 := Lib.hid (HBf1.out.below hb2 HBf1.out.lt); have f0_ := HBf2.out.frozen 0; have f1_ := HBf2.out.frozen 1; have y0_ : w2.cell? ⟨f, 0, none⟩ = some (.int .i64 0) := (by rw [HBf2.out.cell]; rfl); have y1_ : w2.cell? ⟨f, 1, none⟩ = some (.int .i64 0) := (by rw [HBf2.out.cell]; rfl); clear hb2)
  refine bodyPost_ret (results_c1 rfl _ _ f 45 #[.int .i64 qc, .int .i64 qi] (0, 0) _ rfl (fault_end HBf2.out) Try.underlying45 rfl (by kernel_rfl)) rfl ?_
  exact ⟨by rw [HRs.out], below_setc (below_setc HB2.out hWf _) hWf _⟩
 ·have HK2 : Hid (arP p = (1, 0)) := Lib.hid (by rw [HK.out, if_neg hr])
  have hr1 : (rc == 0) = false := beq_eq_false_iff_ne.2 hr
  have hr2 : (rc != 0) = true := by simp [bne, hr1]
  clear HK HOk hr HR HRe
  go_upto_if 6 with (go_at_call 28; refine (HS.out V HI0.out).mono ?_; rintro e w1 ⟨rfl, hb1⟩)
  have HB1 := Lib.hid (below_step HB0.out hb1)
  have HBf1 := Lib.hid (HBf.out.below hb1 hfl)
  clear q0 q1 hb1
  go_wp2_with (go_at_call 78; refine (rfault_any 1 0 w1).mono ?_; rintro e wf ⟨rfl, hbf_⟩; have HB_ := Lib.hid (below_step HB1.out hbf_); have HBf_ := Lib.hid (HBf1.out.below hbf_ HBf1.out.lt); have f0_ := HBf_.out.frozen 0; have f1_ := HBf_.out.frozen 1; have y0_ : wf.cell? ⟨f, 0, none⟩ = some (.int .i64 0) := (by rw [HBf_.out.cell]; rfl); have y1_ : wf.cell? ⟨f, 1, none⟩ = some (.int .i64 0) := (by rw [HBf_.out.cell]; rfl); clear hbf_)
  (try simp only [Exit.inBlock, Exit.then])
  refine bodyPost_ret (results_c1 rfl _ _ f 45 #[.int .i64 1, .int .i64 0] (0, 0) _ rfl (fault_end HBf_.out) Try.underlying45 rfl (by kernel_rfl)) rfl ?_
  exact ⟨by rw [HK2.out], below_setc (below_setc HB_.out hWf _) hWf _⟩
set_option maxHeartbeats 4000000 in
set_option maxRecDepth 100000 in
theorem rCallFits_any {w : World} {Q : Nat → Prop} {p : Pg} {c0 c1 : Value} {s : S} {cs : List Value} (h : ProgI w Q p [c0, c1]) (hsm : SmG p) (hs : StmtI w Q s cs) (W : World) (hI : In Q w W) :
 Calls Try.prog 48 #[.agg #[c0, c1], .agg cs.toArray] W (MayOk (fitsA p s) W) := by
 have HC := Lib.hid (fun V hV => rScope_any h hsm V hV)
 have HFo := Lib.hid (fun V hV => rcallFits_any h hs V hV)
 obtain ⟨Ag, cg, Ap, cp, rfl, rfl, _⟩ := prog_open h
 obtain ⟨id, kind, labels, nm, proc, x, has, args, th, el, L, lc, y0, y1, y2, X, xn, xc, R, rc, T, tc, U, uc, rfl, rfl, hid, hkind, _⟩ := stmt_open hs
 have HI := Lib.hid hI
 have HK : Hid (fitsA p (.mk id kind labels nm proc x has args th el) = (decide ((chkP p).1 = 0) && fitsB p.procs (.mk id kind labels nm proc x has args th el))) := Lib.hid rfl
 have hff : ∀ (a c : Int) (w : World), (Instr.field 45 (.agg #[.int .i64 a, .int .i64 c]) 0).run Try.prog w = .ok (.int .i64 a) w := fun _ _ _ => by kernel_rfl
 clear h hI hsm hs hid hkind
 simp only [List.toArray] at HFo ⊢
 generalize fitsB p.procs (.mk id kind labels nm proc x has args th el) = fb at HFo HK
 generalize chkP p = r at HC HK
 obtain ⟨cc, ri⟩ := r
 simp only at HK
 go_enter Try.func48, Try.ntmps48
 go_upto_region 1 with fail
 have HB0 : Hid (Below W.heap.size W ((W.alloc (.cells #[.slice Ag p.globals.length cg, .slice Ap p.procs.length cp] 25)).alloc (.cells #[.int .i64 id, .int .i64 kind, .slice L labels.length lc, .string nm, .string proc, .int .i64 y0, .int .i64 y1, .string y2, .slice X xn xc, .bool has, .slice R args.length rc, .slice T th.length tc, .slice U el.length uc] 61))) := Lib.hid (below_two _ _)
 have HBp : Hid (Blk ((W.alloc (.cells #[.slice Ag p.globals.length cg, .slice Ap p.procs.length cp] 25)).alloc (.cells #[.int .i64 id, .int .i64 kind, .slice L labels.length lc, .string nm, .string proc, .int .i64 y0, .int .i64 y1, .string y2, .slice X xn xc, .bool has, .slice R args.length rc, .slice T th.length tc, .slice U el.length uc] 61)) W.heap.size 25 #[.slice Ag p.globals.length cg, .slice Ap p.procs.length cp]) := Lib.hid ((Blk.new _ _ _).alloc _)
 have HBs : Hid (Blk ((W.alloc (.cells #[.slice Ag p.globals.length cg, .slice Ap p.procs.length cp] 25)).alloc (.cells #[.int .i64 id, .int .i64 kind, .slice L labels.length lc, .string nm, .string proc, .int .i64 y0, .int .i64 y1, .string y2, .slice X xn xc, .bool has, .slice R args.length rc, .slice T th.length tc, .slice U el.length uc] 61)) (W.heap.size + 1) 61 #[.int .i64 id, .int .i64 kind, .slice L labels.length lc, .string nm, .string proc, .int .i64 y0, .int .i64 y1, .string y2, .slice X xn xc, .bool has, .slice R args.length rc, .slice T th.length tc, .slice U el.length uc]) := Lib.hid (by have := Blk.new (W.alloc (.cells #[.slice Ag p.globals.length cg, .slice Ap p.procs.length cp] 25)) 61 #[.int .i64 id, .int .i64 kind, .slice L labels.length lc, .string nm, .string proc, .int .i64 y0, .int .i64 y1, .string y2, .slice X xn xc, .bool has, .slice R args.length rc, .slice T th.length tc, .slice U el.length uc]; rw [World.size_alloc] at this; exact this)
 generalize World.alloc _ _ = V at HB0 HBp HBs ⊢
 have HI0 := Lib.hid (HI.out.on HB0.out)
 generalize hbe : W.heap.size = b at HBp HBs ⊢
 generalize hfe : b + 1 = f at HBs ⊢
 clear hbe hfe
 have q0 : V.cell? ⟨b, 0, none⟩ = some (.slice Ag p.globals.length cg) := by rw [HBp.out.cell]; rfl
 have q1 : V.cell? ⟨b, 1, none⟩ = some (.slice Ap p.procs.length cp) := by rw [HBp.out.cell]; rfl
 have hbl := HBp.out.lt
 have hfl := HBs.out.lt
 by_cases hr : cc = 0
 ·subst hr
  have HK2 : Hid (fitsA p (.mk id kind labels nm proc x has args th el) = fb) := Lib.hid (by rw [HK.out]; simp)
  clear HK
  go_wp2_with (first
   | (go_at_call 28; refine (HC.out V HI0.out).mono ?_; rintro e w1 ⟨rfl, hb1⟩; have HB1 := Lib.hid (below_step HB0.out hb1); have HI1 := Lib.hid (HI0.out.on hb1); have HBp1 := Lib.hid (HBp.out.below hb1 hbl); have HBs1 := Lib.hid (HBs.out.below hb1 hfl); have q0' : w1.cell? ⟨b, 0, none⟩ = some (.slice Ag p.globals.length cg) := (by rw [HBp1.out.cell]; rfl); have q1' : w1.cell? ⟨b, 1, none⟩ = some (.slice Ap p.procs.length cp) := (by rw [HBp1.out.cell]; rfl); have s0' : w1.cell? ⟨f, 0, none⟩ = some (.int .i64 id) := (by rw [HBs1.out.cell]; rfl); have s1' : w1.cell? ⟨f, 1, none⟩ = some (.int .i64 kind) := (by rw [HBs1.out.cell]; rfl); have s2' : w1.cell? ⟨f, 2, none⟩ = some (.slice L labels.length lc) := (by rw [HBs1.out.cell]; rfl); have s3' : w1.cell? ⟨f, 3, none⟩ = some (.string nm) := (by rw [HBs1.out.cell]; rfl); have s4' : w1.cell? ⟨f, 4, none⟩ = some (.string proc) := (by rw [HBs1.out.cell]; rfl); have s5' : w1.cell? ⟨f, 5, none⟩ = some (.int .i64 y0) := (by rw [HBs1.out.cell]; rfl); have s6' : w1.cell? ⟨f, 6, none⟩ = some (.int .i64 y1) := (by rw [HBs1.out.cell]; rfl); have s7' : w1.cell? ⟨f, 7, none⟩ = some (.string y2) := (by rw [HBs1.out.cell]; rfl); have s8' : w1.cell? ⟨f, 8, none⟩ = some (.slice X xn xc) := (by rw [HBs1.out.cell]; rfl); have s9' : w1.cell? ⟨f, 9, none⟩ = some (.bool has) := (by rw [HBs1.out.cell]; rfl); have s10' : w1.cell? ⟨f, 10, none⟩ = some (.slice R args.length rc) := (by rw [HBs1.out.cell]; rfl); have s11' : w1.cell? ⟨f, 11, none⟩ = some (.slice T th.length tc) := (by rw [HBs1.out.cell]; rfl); have s12' : w1.cell? ⟨f, 12, none⟩ = some (.slice U el.length uc) := (by rw [HBs1.out.cell]; rfl); clear hb1)
   | (go_at_call 97; refine (HFo.out w1 HI1.out).mono ?_; rintro e w2 ⟨rfl, hb2⟩))
  go_ret
  exact ⟨by rw [HK2.out]; rfl, below_step HB1.out hb2⟩
 ·have HK2 : Hid (fitsA p (.mk id kind labels nm proc x has args th el) = false) := Lib.hid (by rw [HK.out, decide_eq_false hr]; rfl)
  have hr1 : (cc == 0) = false := beq_eq_false_iff_ne.2 hr
  clear HK hr
  go_wp2_with (go_at_call 28; refine (HC.out V HI0.out).mono ?_; rintro e w1 ⟨rfl, hb1⟩)
  go_ret
  exact ⟨ret_bool HK2.out.symm, below_step HB0.out hb1⟩
end Go.Proofs.Ytddfpmdbndakgaa
namespace Go.Proofs.Ytddfpmdbndakgaa
open Go.ChangeShapes Go.WideShapes Go.ChangeAt Go.RowKit Go.Deep
set_option linter.unusedVariables false
set_option linter.unusedSimpArgs false
theorem int_info : (Try.prog.info? 3).map (fun i => (i.zero, i.size, i.bytes)) = some (some (.int .i64 0), 1, 8) := by kernel_rfl
def intsV (l : List Int) : List Value := l.map (Value.int .i64)
def idsOf (kind : Int) (l : List It) : List Int := (l.filter (fun x => kind == 0 || x.s.kind == kind)).map (fun x => x.s.id)
theorem idsOf_take {kind : Int} {l : List It} {k : Nat} (h : k < l.length) : idsOf kind (l.take (k + 1)) = idsOf kind (l.take k) ++ if (kind == 0 || l[k].s.kind == kind) = true then [l[k].s.id] else [] := by
 unfold idsOf
 rw [List.take_succ_eq_append_getElem h, List.filter_append, List.map_append]
 congr 1
 rw [List.filter_cons, List.filter_nil]
 split <;> rfl
theorem idsOf_len {kind : Int} {l : List It} {k : Nat} : (idsOf kind (l.take k)).length ≤ k := by
 unfold idsOf
 rw [List.length_map]
 exact Nat.le_trans (List.length_filter_le ..) (by rw [List.length_take]; omega)
theorem new_int (w : World) (n : Int) : ∀ j u, [Value.int .i64 n][j]? = some u → (w.alloc (.cells #[.int .i64 n] 3)).cell? ((⟨w.heap.size, 0, none⟩ : Addr).add j) = some u := by
 intro j u hu
 have hj : j = 0 := by have := (List.getElem?_eq_some_iff.1 hu).1; simp at this; exact this
 subst hj
 simp at hu
 subst hu
 simp [Addr.add]
structure IdI (V wr : World) (l : List Int) (X : Option Addr) (n c : Nat) : Prop where
 row : wr.ownsRow V.heap.size 3 1 (.slice X n c) n (intsV l)
 len : n = l.length
 below : Below V.heap.size V wr
def NewInts (l : List Int) (w : World) (e : Ending) (w' : World) : Prop := ∃ v, e = .returned v ∧ w'.ownsRow w.heap.size 3 1 v l.length (intsV l) ∧ Below w.heap.size w w'
set_option maxHeartbeats 8000000 in
set_option maxRecDepth 100000 in
theorem Ids_any {w : World} {Q : Nat → Prop} {p : Pg} {c0 c1 : Value} (h : ProgI w Q p [c0, c1]) (kd : Int) (hkd : i64 kd) (W : World) (hI : In Q w W) :
 Calls Try.prog 37 #[.agg #[c0, c1], .int .i64 kd] W (NewInts (idsOf kd (allOf p)) W) := by
 have HAl := Lib.hid (fun V hV => All_any (W := V) h hV)
 obtain ⟨Ag, cg, Ap, cp, rfl, rfl, _⟩ := prog_open h
 have HI := Lib.hid hI
 have HLn : Hid ((allOf p).length ≤ 401) := Lib.hid (allL_len p.procs [] (by simp))
 obtain ⟨i0, hi0, hz0, hz1, hz2⟩ := info_parts int_info
 unfold i64 at hkd
 clear h hI
 generalize allOf p = its at HAl HLn ⊢
 go_enter Try.func37, Try.ntmps37
 go_upto_region 1 with fail
 have HB0 : Hid (Below W.heap.size W (W.alloc (.cells #[.slice Ag p.globals.length cg, .slice Ap p.procs.length cp] 25))) := Lib.hid (below_box _)
 have HBp : Hid (Blk (W.alloc (.cells #[.slice Ag p.globals.length cg, .slice Ap p.procs.length cp] 25)) W.heap.size 25 #[.slice Ag p.globals.length cg, .slice Ap p.procs.length cp]) := Lib.hid (Blk.new _ _ _)
 generalize World.alloc _ _ = V at HB0 HBp ⊢
 have HI0 := Lib.hid (HI.out.on HB0.out)
 generalize hbe : W.heap.size = b at HBp ⊢
 clear hbe
 have q0 : V.cell? ⟨b, 0, none⟩ = some (.slice Ag p.globals.length cg) := by rw [HBp.out.cell]; rfl
 have q1 : V.cell? ⟨b, 1, none⟩ = some (.slice Ap p.procs.length cp) := by rw [HBp.out.cell]; rfl
 go_upto_region 3 with (go_at_call 21; refine (HAl.out V HI0.out).mono ?_; rintro e w1 ⟨X1, n1, k1, rfl, hal⟩; obtain ⟨rfl, hn1, hk1, hsl⟩ := hal.slice)
 have HSl := Lib.hid hsl
 have HB1 := Lib.hid (below_step HB0.out hal.below)
 have HI1 := Lib.hid hal.inn
 have HIl : Hid (In (fun b => V.heap.size ≤ b ∧ b < w1.heap.size) w1 w1) := Lib.hid ⟨fun b h => h.2, fun _ _ => rfl⟩
 clear q0 q1 hal hsl HB0 HBp HI0 HAl
 generalize (fun b => V.heap.size ≤ b ∧ b < w1.heap.size) = T0 at HSl HIl
 have hll : its.length ≤ 401 := HLn.out
 have HS0 : Hid (IdI w1 w1 (idsOf kd (its.take 0)) none 0 0) := Lib.hid ⟨World.ownsRow_nil _ _ _ _, rfl, Below.refl _ _⟩
 go_loopg [5, 11] its.length (fun kk ov iv wr => ∃ (k : Nat) (Xr : Option Addr) (n c : Nat), k + kk = its.length ∧ iv = .int .i64 k ∧ ov = .slice Xr n c ∧ n ≤ 401 ∧ Hid (IdI w1 wr (idsOf kd (its.take k)) Xr n c))
 case atStart => exact ⟨0, none, 0, 0, by omega, rfl, rfl, by omega, HS0⟩
 case round =>
  clear HS0
  obtain ⟨k, Xr, n, c, hk, rfl, rfl, hn4, HR⟩ := hrel
  have HIr := Lib.hid (HI1.out.on HR.out.below)
  by_cases hlt : k < its.length
  ·obtain ⟨a2, id, kind, labels, nm, proc, x, has, args, th, el, L, lc, y0, y1, y2, X, xn, xc, R, rc, T, tc, U, uc, dp, inn, els, rfl, hq2, hmk, hrow2, hid, hkind, hst⟩ := item_at HSl.out (HIl.out.on HR.out.below) hlt
   have HT := Lib.hid (idsOf_take (kind := kd) hlt)
   rw [hmk] at HT
   have HLe : Hid (n = (idsOf kd (its.take k)).length ∧ n ≤ k) := Lib.hid ⟨HR.out.len, by rw [HR.out.len]; exact idsOf_len⟩
   generalize idsOf kd (its.take k) = pre at HR HT HLe
   have hkb := hkind
   unfold i64 at hkb
   obtain ⟨bb, hbb⟩ : ∃ bb, bb = (kd == 0 || kind == kd) := ⟨_, rfl⟩
   have HT2 : Hid (idsOf kd (its.take (k + 1)) = pre ++ if bb = true then [id] else []) := Lib.hid (by rw [hbb]; exact HT.out)
   have Hbb := Lib.hid hbb
   obtain ⟨p0, p1, p2, p3, p4, p5, p6, p7, p8, p9, p10, p11, p12, p13, p14, p15, _⟩ := hrow2
   clear hbb HT hmk hst hid hkind hq2
   go_upto_region 5 with fail
   have HBi : Hid (Blk (wr.alloc (.cells #[.int .i64 id, .int .i64 kind, .slice L labels.length lc, .string nm, .string proc, .int .i64 y0, .int .i64 y1, .string y2, .slice X xn xc, .bool has, .slice R args.length rc, .slice T th.length tc, .slice U el.length uc, .int .i64 dp, .int .i64 inn, .bool els] 113)) wr.heap.size 113 #[.int .i64 id, .int .i64 kind, .slice L labels.length lc, .string nm, .string proc, .int .i64 y0, .int .i64 y1, .string y2, .slice X xn xc, .bool has, .slice R args.length rc, .slice T th.length tc, .slice U el.length uc, .int .i64 dp, .int .i64 inn, .bool els]) := Lib.hid (Blk.new _ _ _)
   have HO4 : Hid ((wr.alloc (.cells #[.int .i64 id, .int .i64 kind, .slice L labels.length lc, .string nm, .string proc, .int .i64 y0, .int .i64 y1, .string y2, .slice X xn xc, .bool has, .slice R args.length rc, .slice T th.length tc, .slice U el.length uc, .int .i64 dp, .int .i64 inn, .bool els] 113)).ownsRow w1.heap.size 3 1 (.slice Xr n c) n (intsV pre)) := Lib.hid (HR.out.row.alloc _)
   have HB4 : Hid (Below w1.heap.size w1 (wr.alloc (.cells #[.int .i64 id, .int .i64 kind, .slice L labels.length lc, .string nm, .string proc, .int .i64 y0, .int .i64 y1, .string y2, .slice X xn xc, .bool has, .slice R args.length rc, .slice T th.length tc, .slice U el.length uc, .int .i64 dp, .int .i64 inn, .bool els] 113))) := Lib.hid (below_stepA HR.out.below _)
   clear p0 p1 p2 p3 p4 p5 p6 p7 p8 p9 p10 p11 p12 p13 p14 p15 HIr HR
   generalize World.alloc wr _ = V4 at HBi HB4 HO4 ⊢
   generalize wr.heap.size = bi at HBi ⊢
   have s0 : V4.cell? ⟨bi, 0, none⟩ = some (.int .i64 id) := by rw [HBi.out.cell]; rfl
   have s1 : V4.cell? ⟨bi, 1, none⟩ = some (.int .i64 kind) := by rw [HBi.out.cell]; rfl
   have hnk : n ≤ 400 := by have := HLe.out.2; omega
   go_cut [23] from 15 to 22 (fun s wx => s = .bool bb ∧ wx = V4)
   case first =>
    by_cases hk0 : kd = 0
    ·subst hk0
     have H2 : Hid (bb = true) := Lib.hid (by rw [Hbb.out]; rfl)
     go_wp2_with fail
     go_meet
     exact ⟨by rw [H2.out], rfl⟩
    ·have hk1 : (kd == 0) = false := beq_eq_false_iff_ne.2 hk0
     have H2 : Hid (bb = (kind == kd)) := Lib.hid (by rw [Hbb.out, hk1]; rfl)
     clear hk0
     go_wp2_with fail
     go_meet
     exact ⟨by rw [H2.out]; try rfl, rfl⟩
   case rest =>
    obtain ⟨rfl, hw⟩ := hcut
    replace hw := hw.symm
    subst hw
    cases bb with
    | true =>
     have HW := Lib.hid (new_int V4 id)
     have HO5 : Hid ((V4.alloc (.cells #[.int .i64 id] 3)).ownsRow w1.heap.size 3 1 (.slice Xr n c) n (intsV pre)) := Lib.hid (HO4.out.alloc _)
     have HB5 : Hid (Below w1.heap.size w1 (V4.alloc (.cells #[.int .i64 id] 3))) := Lib.hid (below_stepA HB4.out _)
     go_wp2_with (at_builtin; refine wpList_append_own_at _ rfl (.tmp 24) (.tmp 28) 67 rfl w1.heap.size 3 i0 _ 1 8 Try.underlying67 hi0 hz0 hz1 hz2 rfl (by decide) _ n (intsV pre) rfl HO5.out ⟨V4.heap.size, 0, none⟩ 1 1 [.int .i64 id] rfl rfl HW.out (by simp [Value.oneCell']) (by unfold maxLen; omega) (by omega) HB5.out.size ?_; intro v6 w6 hown6 hg6 _ hat6; obtain ⟨X6, k6, rfl, _, _⟩ := own_shape hown6; have HO6 := Lib.hid hown6; have HG6 := Lib.hid hg6; clear hown6 hg6 hat6)
     have HS : Hid (IdI w1 w6 (idsOf kd (its.take (k + 1))) X6 (n + 1) k6) := Lib.hid ⟨by rw [HT2.out]; show World.ownsRow _ _ _ _ _ _ (intsV (pre ++ [id])); unfold intsV; rw [List.map_append]; exact HO6.out, by rw [HT2.out]; show _ = (pre ++ [id]).length; rw [List.length_append, ← HLe.out.1]; rfl, HB5.out.grown HG6.out HB5.out.size (fun j hj => (HO5.out.lt j hj).1)⟩
     go_roundg (its.length - k - 1)
     case measure => omega
     case rel => exact ⟨k + 1, X6, _, k6, by omega, by go_num, rfl, by omega, HS⟩
    | false =>
     have HS : Hid (IdI w1 V4 (idsOf kd (its.take (k + 1))) Xr n c) := Lib.hid ⟨by rw [HT2.out]; show World.ownsRow _ _ _ _ _ _ (intsV (pre ++ [])); rw [List.append_nil]; exact HO4.out, by rw [HT2.out]; show _ = (pre ++ []).length; rw [List.append_nil]; exact HLe.out.1, HB4.out⟩
     go_wp2_with fail
     go_roundg (its.length - k - 1)
     case measure => omega
     case rel => exact ⟨k + 1, Xr, _, c, by omega, by go_num, rfl, by omega, HS⟩
  ·have hke : k = its.length := by omega
   subst hke
   go_wp2_with fail
   go_ret
   refine ⟨_, rfl, own_lower ?_ HB1.out.size, below_step HB1.out HR.out.below⟩
   have h1 := HR.out.row
   have h2 := HR.out.len
   rw [List.take_length] at h1 h2
   rw [h2] at h1 ⊢
   exact h1
theorem Pick_any {w W : World} {base c : Nat} {X : Option Addr} {l : List Int} (h : w.ownsRow base 3 1 (.slice X l.length c) l.length (intsV l)) (hl : l.length ≤ 1000) (hlb : ∀ i ∈ l, i64 i) (n : Int) (hb : Below w.heap.size w W) :
 Calls Try.prog 38 #[.slice X l.length c, .int .i64 n] W fun e w' => ∃ i : Int, (l = [] ∧ i = 0 ∨ i ∈ l) ∧ e = .returned (.int .i64 i) ∧ W = w' := by
 by_cases h0 : l.length = 0
 ·have hnil : l = [] := List.eq_nil_of_length_eq_zero h0
  have HN := Lib.hid hnil
  obtain ⟨len, hlen⟩ : ∃ len, len = l.length := ⟨_, rfl⟩
  rw [← hlen] at h0 ⊢
  subst h0
  clear h hl hlb hnil hlen
  go_enter Try.func38, Try.ntmps38
  go_wp2_with fail
  go_ret
  exact ⟨0, .inl ⟨HN.out, rfl⟩, rfl, rfl⟩
 ·obtain ⟨m, hm, hM⟩ := Mod_fix n l.length (by omega) (by omega)
  have HM := Lib.hid hM
  obtain ⟨a, cap, he, hc, _, _⟩ := own_at h hm
  injection he with h1 _ h3
  subst h1 h3
  have hcell := hc (.int .i64 l[m]) (by simp [intsV, List.getElem?_map, List.getElem?_eq_getElem hm])
  have hlt : (a.add m).block < w.heap.size := World.block_lt_of_cell? w _ hcell
  have p0 : W.cell? (a.add m) = some (.int .i64 l[m]) := (hb.cell hlt).trans hcell
  have hmem := List.getElem_mem hm
  have HMem := Lib.hid hmem
  have hb0 : (((l.length : Nat) : Int) == 0) = false := beq_eq_false_iff_ne.2 (by omega)
  clear h hl hlb hM hc hcell hlt hb hmem
  generalize l[m] = x at p0 HMem
  go_enter Try.func38, Try.ntmps38
  go_wp2_with (go_at_call 17; refine (HM.out _).mono ?_; rintro e w' ⟨rfl, rfl⟩)
  go_ret
  exact ⟨x, .inr HMem.out, rfl, rfl⟩
end Go.Proofs.Ytddfpmdbndakgaa
