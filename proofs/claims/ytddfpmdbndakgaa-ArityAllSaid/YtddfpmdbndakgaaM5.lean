/- Texts, merged by a program; only what is used. -/
import Derived.Test.YtddfpmdbndakgaaK1
import Derived.Test.YtddfpmdbndakgaaK2
import Derived.Test.YtddfpmdbndakgaaK3
import Derived.Test.YtddfpmdbndakgaaK4
import Derived.Test.YtddfpmdbndakgaaK5
import Derived.Test.YtddfpmdbndakgaaK6
import Derived.Test.YtddfpmdbndakgaaK7
import Derived.Test.YtddfpmdbndakgaaK8
import Derived.Test.YtddfpmdbndakgaaK9
import Derived.Test.YtddfpmdbndakgaaK10
import Derived.Test.YtddfpmdbndakgaaK11
import Derived.Test.YtddfpmdbndakgaaK12
import Derived.Test.YtddfpmdbndakgaaK13
import Derived.Test.YtddfpmdbndakgaaK14
import Derived.Test.YtddfpmdbndakgaaK15
import Derived.Test.YtddfpmdbndakgaaK16
import Derived.Test.YtddfpmdbndakgaaK17
import Derived.Test.YtddfpmdbndakgaaK18
import Derived.Test.YtddfpmdbndakgaaK19
import Derived.Test.YtddfpmdbndakgaaK20
import Derived.Test.YtddfpmdbndakgaaK21
import Derived.Test.YtddfpmdbndakgaaK22
import Derived.Test.YtddfpmdbndakgaaK23
import Derived.Test.YtddfpmdbndakgaaK24
import Derived.Test.YtddfpmdbndakgaaK25
import Derived.Test.YtddfpmdbndakgaaK26
import Derived.Test.YtddfpmdbndakgaaK27
import Derived.Test.YtddfpmdbndakgaaK28
import Derived.Test.YtddfpmdbndakgaaK29
import Derived.Test.YtddfpmdbndakgaaK30
import Derived.Test.YtddfpmdbndakgaaL1
import Derived.Test.YtddfpmdbndakgaaL2
import Derived.Test.YtddfpmdbndakgaaL3
import Derived.Test.YtddfpmdbndakgaaL4
import Derived.Test.YtddfpmdbndakgaaL5
import Derived.Test.YtddfpmdbndakgaaM1
import Derived.Test.YtddfpmdbndakgaaM2
import Derived.Test.YtddfpmdbndakgaaM3
import Derived.Test.YtddfpmdbndakgaaM4
namespace Go.Proofs.Ytddfpmdbndakgaa
open Go.ChangeShapes Go.WideShapes Go.ChangeAt Go.RowKit Go.Deep
set_option linter.unusedVariables false
set_option linter.unusedSimpArgs false
theorem some_chk : (chkP someP).1 = 0 := by
 unfold chkP
 rw [if_pos some_may]
 decide +kernel
theorem some_ok1 : 0 < someP.procs.length := by decide
theorem some_ok2 : 1 < someP.procs[0].body.length := by decide
theorem some_fits : fitsA someP someP.procs[0].body[1] = true := by
 unfold fitsA
 rw [some_chk]
 decide +kernel
theorem some_second : ∃ s, someP.procs[0].body[1]? = some s ∧ fitsA someP s = true := ⟨_, List.getElem?_eq_getElem some_ok2, some_fits⟩
theorem empty_ar : arP ⟨[], []⟩ = (1, 0) := by decide +kernel
theorem empty_smG : SmG ⟨[], []⟩ := ⟨by decide, by decide, fun q hq => absurd hq (by simp)⟩
set_option maxHeartbeats 2000000 in
set_option maxRecDepth 100000 in
theorem fitting_any (W : World) : Calls Try.prog 44 #[] W (MayOk true W) := by
 go_enter Try.func44, Try.ntmps44
 go_upto_region 1 with fail
 go_upto_region 2 with (go_at_call 23; refine (Some_any _).mono ?_; rintro e w1 ⟨c0, c1, rfl, hb1, hp1⟩; obtain ⟨Ag, cg, Ap, cp, rfl, rfl, _, _, _, _, _, hpr⟩ := prog_open hp1)
 have HI1 : Hid (In (nw W w1) w1 (w1.alloc (.cells #[.slice Ag someP.globals.length cg, .slice Ap someP.procs.length cp] 25))) := Lib.hid (In.on ⟨fun b h => h.2, fun _ _ => rfl⟩ (below_box _))
 have HB1 : Hid (Below W.heap.size W (w1.alloc (.cells #[.slice Ag someP.globals.length cg, .slice Ap someP.procs.length cp] 25))) := Lib.hid (below_stepA hb1 _)
 have HBp : Hid (Blk (w1.alloc (.cells #[.slice Ag someP.globals.length cg, .slice Ap someP.procs.length cp] 25)) w1.heap.size 25 #[.slice Ag someP.globals.length cg, .slice Ap someP.procs.length cp]) := Lib.hid (Blk.new _ _ _)
 have HPi := Lib.hid hp1
 have HPr := Lib.hid hpr
 clear hpr hp1 hb1
 generalize World.alloc w1 _ = W2 at HI1 HB1 HBp ⊢
 generalize w1.heap.size = b at HBp ⊢
 obtain ⟨a, Bp, kp, Bv, kv, Bb, kb, Be, ke, rfl, _, ⟨p0, p1, p2, p3, p4, _⟩, _, _, _, hbody, _⟩ := proc_at HPr.out HI1.out some_ok1
 obtain ⟨s2, hs2, hfs⟩ := some_second
 have hbl : 1 < someP.procs[0].body.length := some_ok2
 have HBd := Lib.hid hbody
 generalize someP.procs[0].body = bd at p3 HBd hs2 hbl
 obtain ⟨a2, id, kind, labels, nm, proc, x, has, args, th, el, L, lc, y0, y1, y2, X, xn, xc, R, rc, T, tc, U, uc, rfl, _, hlk, ⟨r0, r1, r2, r3, r4, r5, r6, r7, r8, r9, r10, r11, r12, _⟩, _, _, _, _, _, _, _, _, _, hst⟩ := stmt_at HBd.out HI1.out hbl
 have hbs : bd[1] = s2 := by rw [List.getElem?_eq_getElem hbl] at hs2; injection hs2
 rw [hbs] at hst
 have HFi := Lib.hid (fun V hV => aFits_any HPi.out some_smG hst V hV)
 rw [hfs] at HFi
 simp only [List.toArray] at HFi
 have HCe := Lib.hid (fun V : World => aCheck_any (empty_prog W (fun _ => False)) empty_smG V ⟨fun _ h => h.elim, fun _ h => h.elim⟩)
 rw [empty_ar] at HCe
 have q0 : W2.cell? ⟨b, 0, none⟩ = some (.slice Ag someP.globals.length cg) := by rw [HBp.out.cell]; rfl
 have q1 : W2.cell? ⟨b, 1, none⟩ = some (.slice (some a) someP.procs.length cp) := by rw [HBp.out.cell]; rfl
 have hl2 : someP.procs.length = 2 := rfl
 have hpb := HBp.out.lt
 simp only [hl2] at HFi
 rw [Nat.zero_mul, add_zero_] at p3
 have p3' : W2.cell? ⟨a.block, a.off + 3, none⟩ = some (.slice (some a2) bd.length kb) := p3
 have hbi : (1 : Int) < (bd.length : Int) := by omega
 simp only [Nat.one_mul, add_ne a2 (show (13 : Nat) ≠ 0 by decide)] at r0 r1 r2 r3 r4 r5 r6 r7 r8 r9 r10 r11 r12
 clear p0 p1 p2 p4 p3 hlk hst hfs hbody hs2 hbs
 go_upto_region 3 with fail
 have HBs : Hid (Blk (W2.alloc (.cells #[.int .i64 id, .int .i64 kind, .slice L labels.length lc, .string nm, .string proc, .int .i64 y0, .int .i64 y1, .string y2, .slice X xn xc, .bool has, .slice R args.length rc, .slice T th.length tc, .slice U el.length uc] 61)) W2.heap.size 61 #[.int .i64 id, .int .i64 kind, .slice L labels.length lc, .string nm, .string proc, .int .i64 y0, .int .i64 y1, .string y2, .slice X xn xc, .bool has, .slice R args.length rc, .slice T th.length tc, .slice U el.length uc]) := Lib.hid (Blk.new _ _ _)
 have HB3 : Hid (Below W.heap.size W (W2.alloc (.cells #[.int .i64 id, .int .i64 kind, .slice L labels.length lc, .string nm, .string proc, .int .i64 y0, .int .i64 y1, .string y2, .slice X xn xc, .bool has, .slice R args.length rc, .slice T th.length tc, .slice U el.length uc] 61))) := Lib.hid (below_stepA HB1.out _)
 have HI3 : Hid (In (nw W w1) w1 (W2.alloc (.cells #[.int .i64 id, .int .i64 kind, .slice L labels.length lc, .string nm, .string proc, .int .i64 y0, .int .i64 y1, .string y2, .slice X xn xc, .bool has, .slice R args.length rc, .slice T th.length tc, .slice U el.length uc] 61))) := Lib.hid (HI1.out.alloc _)
 have HBp3 : Hid (Blk (W2.alloc (.cells #[.int .i64 id, .int .i64 kind, .slice L labels.length lc, .string nm, .string proc, .int .i64 y0, .int .i64 y1, .string y2, .slice X xn xc, .bool has, .slice R args.length rc, .slice T th.length tc, .slice U el.length uc] 61)) b 25 #[.slice Ag someP.globals.length cg, .slice (some a) someP.procs.length cp]) := Lib.hid (HBp.out.alloc _)
 clear r0 r1 r2 r3 r4 r5 r6 r7 r8 r9 r10 r11 r12 p3' q0 q1
 generalize World.alloc W2 _ = V3 at HBs HB3 HI3 HBp3 ⊢
 generalize W2.heap.size = bs at HBs ⊢
 have q0 : V3.cell? ⟨b, 0, none⟩ = some (.slice Ag someP.globals.length cg) := by rw [HBp3.out.cell]; rfl
 have q1 : V3.cell? ⟨b, 1, none⟩ = some (.slice (some a) someP.procs.length cp) := by rw [HBp3.out.cell]; rfl
 have s0 : V3.cell? ⟨bs, 0, none⟩ = some (.int .i64 id) := by rw [HBs.out.cell]; rfl
 have s1 : V3.cell? ⟨bs, 1, none⟩ = some (.int .i64 kind) := by rw [HBs.out.cell]; rfl
 have s2 : V3.cell? ⟨bs, 2, none⟩ = some (.slice L labels.length lc) := by rw [HBs.out.cell]; rfl
 have s3 : V3.cell? ⟨bs, 3, none⟩ = some (.string nm) := by rw [HBs.out.cell]; rfl
 have s4 : V3.cell? ⟨bs, 4, none⟩ = some (.string proc) := by rw [HBs.out.cell]; rfl
 have s5 : V3.cell? ⟨bs, 5, none⟩ = some (.int .i64 y0) := by rw [HBs.out.cell]; rfl
 have s6 : V3.cell? ⟨bs, 6, none⟩ = some (.int .i64 y1) := by rw [HBs.out.cell]; rfl
 have s7 : V3.cell? ⟨bs, 7, none⟩ = some (.string y2) := by rw [HBs.out.cell]; rfl
 have s8 : V3.cell? ⟨bs, 8, none⟩ = some (.slice X xn xc) := by rw [HBs.out.cell]; rfl
 have s9 : V3.cell? ⟨bs, 9, none⟩ = some (.bool has) := by rw [HBs.out.cell]; rfl
 have s10 : V3.cell? ⟨bs, 10, none⟩ = some (.slice R args.length rc) := by rw [HBs.out.cell]; rfl
 have s11 : V3.cell? ⟨bs, 11, none⟩ = some (.slice T th.length tc) := by rw [HBs.out.cell]; rfl
 have s12 : V3.cell? ⟨bs, 12, none⟩ = some (.slice U el.length uc) := by rw [HBs.out.cell]; rfl
 go_wp2_with (first
  | (go_at_call 47; (with_reducible refine (HFi.out V3 HI3.out).mono ?_); rintro e w4 ⟨rfl, hb4⟩; have HB4 := Lib.hid (below_step HB3.out hb4); clear hb4)
  | (go_at_call 45; (with_reducible refine (HCe.out w4).mono ?_); rintro e w5 ⟨rfl, hb5⟩))
 go_ret
 exact ⟨rfl, below_step HB4.out hb5⟩
end Go.Proofs.Ytddfpmdbndakgaa
namespace Go.Proofs.Ytddfpmdbndakgaa
open Go.ChangeShapes Go.WideShapes Go.ChangeAt Go.RowKit Go.Deep
set_option linter.unusedVariables false
set_option linter.unusedSimpArgs false
set_option maxHeartbeats 8000000 in
set_option maxRecDepth 100000 in
theorem arityAll_walk {w : World} {Q : Nat → Prop} {p : Pg} {c0 c1 : Value} (h : ProgI w Q p [c0, c1]) (n : Int) (wn : (Lit.int .i64 n).wf = true) (W : World) (hI : In Q w W) :
 Calls Try.prog 11 #[.agg #[c0, c1], .int .i64 n] W fun e w' => e = .returned (.bool true) ∧ Below W.heap.size W w' := by
 have HP := Lib.hid h
 have HF := Lib.hid (fun V h1 => Fits_any h V h1)
 have HI := Lib.hid hI
 obtain ⟨Ag, cg, Ap, cp, rfl, rfl, _⟩ := prog_open h
 clear h hI
 go_enter Try.func11, Try.ntmps11
 go_upto_region 1 with fail
 have HB0 : Hid (Below W.heap.size W (W.alloc (.cells #[.slice Ag p.globals.length cg, .slice Ap p.procs.length cp] 25))) := Lib.hid (below_box _)
 have HBp0 : Hid (Blk (W.alloc (.cells #[.slice Ag p.globals.length cg, .slice Ap p.procs.length cp] 25)) W.heap.size 25 #[.slice Ag p.globals.length cg, .slice Ap p.procs.length cp]) := Lib.hid (Blk.new _ _ _)
 generalize World.alloc _ _ = W0 at HB0 HBp0 ⊢
 have HI0 := Lib.hid (HI.out.on HB0.out)
 generalize hbe : W.heap.size = b at HBp0 ⊢
 clear hbe
 go_upto_region 3 with (go_at_call 44; refine (fitting_any W0).mono ?_; rintro e' W1 ⟨rfl, hb1⟩)
 have HB1 : Hid (Below W.heap.size W W1) := Lib.hid (below_step HB0.out hb1)
 have HI1 := Lib.hid (HI0.out.on hb1)
 have HBp1 := Lib.hid (HBp0.out.below hb1 HBp0.out.lt)
 clear hb1 HB0 HBp0 HI0
 have q0 : W1.cell? ⟨b, 0, none⟩ = some (.slice Ag p.globals.length cg) := by rw [HBp1.out.cell]; rfl
 have q1 : W1.cell? ⟨b, 1, none⟩ = some (.slice Ap p.procs.length cp) := by rw [HBp1.out.cell]; rfl
 have hbl := HBp1.out.lt
 cases hf : fitsP p with
 | false =>
  rw [hf] at HF
  clear hf
  go_wp2_with (go_at_call 14; refine (HF.out _ HI1.out).mono ?_; rintro e' W2 ⟨rfl, hb2⟩)
  go_ret
  exact ⟨rfl, below_step HB1.out hb2⟩
 | true =>
  have HSg := Lib.hid (fits_smG hf)
  have HC := Lib.hid (fun V hV => aCheck_any HP.out (fits_smG hf) V hV)
  have HR := Lib.hid (fun V hV => rArity_any HP.out (fits_smG hf) V hV)
  have HM := Lib.hid (fun V hV => May_any HP.out V hV)
  have HIs := Lib.hid (fun V hV => Ids_any HP.out 0 (by simp [i64]) V hV)
  have HSt := Lib.hid (fun id V hV => rStmt_any HP.out id V hV)
  have HFi := Lib.hid (fun s cs (hs : StmtI w Q s cs) V hV => aFits_any HP.out (fits_smG hf) hs V hV)
  have HCf := Lib.hid (fun s cs (hs : StmtI w Q s cs) V hV => rCallFits_any HP.out (fits_smG hf) hs V hV)
  rw [hf] at HF
  clear hf
  go_upto_region 5 with (go_at_call 14; refine (HF.out _ HI1.out).mono ?_; rintro e' W2 ⟨rfl, hb2⟩)
  have HB2 : Hid (Below W.heap.size W W2) := Lib.hid (below_step HB1.out hb2)
  have HI2 := Lib.hid (HI1.out.on hb2)
  have HBp2 := Lib.hid (HBp1.out.below hb2 hbl)
  clear hb2 HB1 HI1 HBp1 q0 q1 hbl HF
  have q0 : W2.cell? ⟨b, 0, none⟩ = some (.slice Ag p.globals.length cg) := by rw [HBp2.out.cell]; rfl
  have q1 : W2.cell? ⟨b, 1, none⟩ = some (.slice Ap p.procs.length cp) := by rw [HBp2.out.cell]; rfl
  have hbl := HBp2.out.lt
  have HIds := Lib.hid (fun hm => all_ids (p := p) hm)
  generalize arP p = r at HC HR
  obtain ⟨qc, qi⟩ := r
  have HS1 : Hid (∀ w' : World, Below W2.heap.size W2 w' → (w'.cell? ⟨b, 0, none⟩ = some (.slice Ag p.globals.length cg) ∧ w'.cell? ⟨b, 1, none⟩ = some (.slice Ap p.procs.length cp))) := Lib.hid (fun w' hb => ⟨(hb.cell (p := ⟨b, 0, none⟩) hbl).trans q0, (hb.cell (p := ⟨b, 1, none⟩) hbl).trans q1⟩)
  have hBD : Below W2.heap.size W2 W2.drew := (Below.refl _ _).drew
  have hdr : ∀ V : World, In Q w V → In Q w V.drew := fun V h => h
  go_region_held3 (fun w' => w'.cell? ⟨b, 0, none⟩ = some (.slice Ag p.globals.length cg) ∧ w'.cell? ⟨b, 1, none⟩ = some (.slice Ap p.procs.length cp))
   ((refine HS1.out _ ?_; with_reducible assumption))
   (first
    | (go_at_call 45; (with_reducible refine (HC.out W2.drew (hdr W2 HI2.out)).mono ?_); rintro e' W3 ⟨rfl, hb3⟩; have g3 : Below W2.heap.size W2 W3 := hBD.trans hb3; have HI3 := Lib.hid (HI2.out.on g3))
    | (go_at_call 46; (with_reducible refine (HR.out W3 HI3.out).mono ?_); rintro e' W4 ⟨rfl, hb4⟩; have g4 : Below W2.heap.size W2 W4 := below_step g3 hb4))
  have HB4 := Lib.hid (below_step HB2.out g4)
  have HI4 := Lib.hid (HI2.out.on g4)
  have HBp4 := Lib.hid (HBp2.out.below g4 hbl)
  clear g3 hb3 g4 hb4 HI3 HS1 hBD q0 q1 hbl HC HR HB2 HI2 HBp2
  have hbl := HBp4.out.lt
  have q0 : W4.cell? ⟨b, 0, none⟩ = some (.slice Ag p.globals.length cg) := by rw [HBp4.out.cell]; rfl
  have q1 : W4.cell? ⟨b, 1, none⟩ = some (.slice Ap p.procs.length cp) := by rw [HBp4.out.cell]; rfl
  cases hm : mayP p with
  | false =>
   rw [hm] at HM
   clear hm
   go_wp2_with (go_at_call 15; refine (HM.out W4 HI4.out).mono ?_; rintro e' W5 ⟨rfl, hb5⟩)
   go_ret
   exact ⟨rfl, below_step HB4.out hb5⟩
  | true =>
   have HId2 := Lib.hid (HIds.out hm)
   rw [hm] at HM
   clear hm HIds
   go_upto_region 9 with (go_at_call 15; refine (HM.out W4 HI4.out).mono ?_; rintro e' W5 ⟨rfl, hb5⟩)
   have HB5 := Lib.hid (below_step HB4.out hb5)
   have HI5 := Lib.hid (HI4.out.on hb5)
   have HBp5 := Lib.hid (HBp4.out.below hb5 hbl)
   clear hb5 q0 q1 hbl HB4 HI4 HBp4 HM
   have hbl := HBp5.out.lt
   have q0 : W5.cell? ⟨b, 0, none⟩ = some (.slice Ag p.globals.length cg) := by rw [HBp5.out.cell]; rfl
   have q1 : W5.cell? ⟨b, 1, none⟩ = some (.slice Ap p.procs.length cp) := by rw [HBp5.out.cell]; rfl
   have HLn : Hid ((idsOf 0 (allOf p)).length ≤ 1000) := Lib.hid (by
    have h1 := allL_len p.procs [] (by simp)
    have h2 := idsOf_len (kind := 0) (l := allOf p) (k := (allOf p).length)
    rw [List.take_length] at h2
    have h3 : (allOf p).length ≤ 401 := h1
    omega)
   have HIb : Hid (∀ i ∈ idsOf 0 (allOf p), i64 i) := Lib.hid (fun i hi => by
    unfold idsOf at hi
    rw [List.mem_map] at hi
    obtain ⟨x, hx, rfl⟩ := hi
    have := HId2.out x (List.mem_filter.1 hx).1
    unfold i64
    omega)
   generalize idsOf 0 (allOf p) = il at HIs HLn HIb
   clear HId2
   go_upto_region 10 with (first
    | (go_at_call 37; refine (HIs.out W5 HI5.out).mono ?_; rintro e' W6 ⟨v6, rfl, ho6, hb6⟩; obtain ⟨X6, k6, rfl, _, _⟩ := own_shape ho6; have HPk := Lib.hid (Pick_any ho6 HLn.out HIb.out n (Below.refl _ _)); have HB6 := Lib.hid hb6; clear ho6 hb6)
    | (go_at_call 38; refine HPk.out.mono ?_; rintro e' W7 ⟨id, hidm, rfl, rfl⟩))
   have hid : i64 id := by rcases hidm with ⟨_, rfl⟩ | h; simp [i64]; exact HIb.out _ h
   unfold i64 at hid
   have HI6 := Lib.hid (HI5.out.on HB6.out)
   have HBp6 := Lib.hid (HBp5.out.below HB6.out hbl)
   have HB6W := Lib.hid (below_step HB5.out HB6.out)
   clear q0 q1 hbl hidm HPk HIs HLn HIb HB5 HI5 HBp5 HB6
   have hbl := HBp6.out.lt
   have q0 : W6.cell? ⟨b, 0, none⟩ = some (.slice Ag p.globals.length cg) := by rw [HBp6.out.cell]; rfl
   have q1 : W6.cell? ⟨b, 1, none⟩ = some (.slice Ap p.procs.length cp) := by rw [HBp6.out.cell]; rfl
   have HS0 := Lib.hid (fun V hV => HSt.out id V hV)
   generalize stP p id = s at HS0
   go_upto_region 11 with (go_at_call 39; refine (HS0.out W6 HI6.out).mono ?_; rintro e' W7 ⟨cs, rfl, hst, hb7⟩; obtain ⟨sid, kind, labels, nm, proc, x, has, args, th, el, L, lc, y0, y1, y2, X, xn, xc, R, rc, T, tc, U, uc, rfl, rfl, _⟩ := stmt_open hst; have HSi := Lib.hid hst; clear hst)
   have HFs := Lib.hid (fun V hV => HFi.out _ _ HSi.out V hV)
   have HCs := Lib.hid (fun V hV => HCf.out _ _ HSi.out V hV)
   have HB8 : Hid (Below W6.heap.size W6 (W7.alloc (.cells #[.int .i64 sid, .int .i64 kind, .slice L labels.length lc, .string nm, .string proc, .int .i64 y0, .int .i64 y1, .string y2, .slice X xn xc, .bool has, .slice R args.length rc, .slice T th.length tc, .slice U el.length uc] 61))) := Lib.hid (below_stepA hb7 _)
   have HBs8 : Hid (Blk (W7.alloc (.cells #[.int .i64 sid, .int .i64 kind, .slice L labels.length lc, .string nm, .string proc, .int .i64 y0, .int .i64 y1, .string y2, .slice X xn xc, .bool has, .slice R args.length rc, .slice T th.length tc, .slice U el.length uc] 61)) W7.heap.size 61 #[.int .i64 sid, .int .i64 kind, .slice L labels.length lc, .string nm, .string proc, .int .i64 y0, .int .i64 y1, .string y2, .slice X xn xc, .bool has, .slice R args.length rc, .slice T th.length tc, .slice U el.length uc]) := Lib.hid (Blk.new _ _ _)
   clear hb7 q0 q1 HSi HS0 HSt HFi HCf
   generalize fitsA p (.mk sid kind labels nm proc x has args th el) = fb at HFs HCs
   generalize World.alloc W7 _ = W8 at HB8 HBs8 ⊢
   generalize W7.heap.size = bs at HBs8 ⊢
   have HI8 := Lib.hid (HI6.out.on HB8.out)
   have HBp8 := Lib.hid (HBp6.out.below HB8.out hbl)
   have HB8W := Lib.hid (below_step HB6W.out HB8.out)
   clear hbl
   have hbl := HBp8.out.lt
   have hsl := HBs8.out.lt
   have q0 : W8.cell? ⟨b, 0, none⟩ = some (.slice Ag p.globals.length cg) := by rw [HBp8.out.cell]; rfl
   have q1 : W8.cell? ⟨b, 1, none⟩ = some (.slice Ap p.procs.length cp) := by rw [HBp8.out.cell]; rfl
   have s0 : W8.cell? ⟨bs, 0, none⟩ = some (.int .i64 sid) := by rw [HBs8.out.cell]; rfl
   have s1 : W8.cell? ⟨bs, 1, none⟩ = some (.int .i64 kind) := by rw [HBs8.out.cell]; rfl
   have s2 : W8.cell? ⟨bs, 2, none⟩ = some (.slice L labels.length lc) := by rw [HBs8.out.cell]; rfl
   have s3 : W8.cell? ⟨bs, 3, none⟩ = some (.string nm) := by rw [HBs8.out.cell]; rfl
   have s4 : W8.cell? ⟨bs, 4, none⟩ = some (.string proc) := by rw [HBs8.out.cell]; rfl
   have s5 : W8.cell? ⟨bs, 5, none⟩ = some (.int .i64 y0) := by rw [HBs8.out.cell]; rfl
   have s6 : W8.cell? ⟨bs, 6, none⟩ = some (.int .i64 y1) := by rw [HBs8.out.cell]; rfl
   have s7 : W8.cell? ⟨bs, 7, none⟩ = some (.string y2) := by rw [HBs8.out.cell]; rfl
   have s8 : W8.cell? ⟨bs, 8, none⟩ = some (.slice X xn xc) := by rw [HBs8.out.cell]; rfl
   have s9 : W8.cell? ⟨bs, 9, none⟩ = some (.bool has) := by rw [HBs8.out.cell]; rfl
   have s10 : W8.cell? ⟨bs, 10, none⟩ = some (.slice R args.length rc) := by rw [HBs8.out.cell]; rfl
   have s11 : W8.cell? ⟨bs, 11, none⟩ = some (.slice T th.length tc) := by rw [HBs8.out.cell]; rfl
   have s12 : W8.cell? ⟨bs, 12, none⟩ = some (.slice U el.length uc) := by rw [HBs8.out.cell]; rfl
   by_cases h0 : id = 0
   ·subst h0
    go_quiet (fail)
    go_wp2_with fail
    go_ret
    exact ⟨rfl, below_drewN HB8W.out _⟩
   ·have h1 : (id == 0) = false := beq_eq_false_iff_ne.2 h0
    have HS8 : Hid (∀ w' : World, Below W8.heap.size W8 w' → (w'.cell? ⟨b, 0, none⟩ = some (.slice Ag p.globals.length cg) ∧ w'.cell? ⟨b, 1, none⟩ = some (.slice Ap p.procs.length cp) ∧ w'.cell? ⟨bs, 0, none⟩ = some (.int .i64 sid) ∧ w'.cell? ⟨bs, 1, none⟩ = some (.int .i64 kind) ∧ w'.cell? ⟨bs, 2, none⟩ = some (.slice L labels.length lc) ∧ w'.cell? ⟨bs, 3, none⟩ = some (.string nm) ∧ w'.cell? ⟨bs, 4, none⟩ = some (.string proc) ∧ w'.cell? ⟨bs, 5, none⟩ = some (.int .i64 y0) ∧ w'.cell? ⟨bs, 6, none⟩ = some (.int .i64 y1) ∧ w'.cell? ⟨bs, 7, none⟩ = some (.string y2) ∧ w'.cell? ⟨bs, 8, none⟩ = some (.slice X xn xc) ∧ w'.cell? ⟨bs, 9, none⟩ = some (.bool has) ∧ w'.cell? ⟨bs, 10, none⟩ = some (.slice R args.length rc) ∧ w'.cell? ⟨bs, 11, none⟩ = some (.slice T th.length tc) ∧ w'.cell? ⟨bs, 12, none⟩ = some (.slice U el.length uc))) := Lib.hid (fun w' hb => ⟨(hb.cell (p := ⟨b, 0, none⟩) hbl).trans q0, (hb.cell (p := ⟨b, 1, none⟩) hbl).trans q1, (hb.cell (p := ⟨bs, 0, none⟩) hsl).trans s0, (hb.cell (p := ⟨bs, 1, none⟩) hsl).trans s1, (hb.cell (p := ⟨bs, 2, none⟩) hsl).trans s2, (hb.cell (p := ⟨bs, 3, none⟩) hsl).trans s3, (hb.cell (p := ⟨bs, 4, none⟩) hsl).trans s4, (hb.cell (p := ⟨bs, 5, none⟩) hsl).trans s5, (hb.cell (p := ⟨bs, 6, none⟩) hsl).trans s6, (hb.cell (p := ⟨bs, 7, none⟩) hsl).trans s7, (hb.cell (p := ⟨bs, 8, none⟩) hsl).trans s8, (hb.cell (p := ⟨bs, 9, none⟩) hsl).trans s9, (hb.cell (p := ⟨bs, 10, none⟩) hsl).trans s10, (hb.cell (p := ⟨bs, 11, none⟩) hsl).trans s11, (hb.cell (p := ⟨bs, 12, none⟩) hsl).trans s12⟩)
    have hBD : Below W8.heap.size W8 W8.drew := (Below.refl _ _).drew
    clear h0
    cases fb
    all_goals
     go_region_held3 (fun w' => w'.cell? ⟨b, 0, none⟩ = some (.slice Ag p.globals.length cg) ∧ w'.cell? ⟨b, 1, none⟩ = some (.slice Ap p.procs.length cp) ∧ w'.cell? ⟨bs, 0, none⟩ = some (.int .i64 sid) ∧ w'.cell? ⟨bs, 1, none⟩ = some (.int .i64 kind) ∧ w'.cell? ⟨bs, 2, none⟩ = some (.slice L labels.length lc) ∧ w'.cell? ⟨bs, 3, none⟩ = some (.string nm) ∧ w'.cell? ⟨bs, 4, none⟩ = some (.string proc) ∧ w'.cell? ⟨bs, 5, none⟩ = some (.int .i64 y0) ∧ w'.cell? ⟨bs, 6, none⟩ = some (.int .i64 y1) ∧ w'.cell? ⟨bs, 7, none⟩ = some (.string y2) ∧ w'.cell? ⟨bs, 8, none⟩ = some (.slice X xn xc) ∧ w'.cell? ⟨bs, 9, none⟩ = some (.bool has) ∧ w'.cell? ⟨bs, 10, none⟩ = some (.slice R args.length rc) ∧ w'.cell? ⟨bs, 11, none⟩ = some (.slice T th.length tc) ∧ w'.cell? ⟨bs, 12, none⟩ = some (.slice U el.length uc))
      ((refine HS8.out _ ?_; with_reducible assumption))
      (first
       | (go_at_call 47; (with_reducible refine (HFs.out W8.drew (hdr W8 HI8.out)).mono ?_); rintro e' W9 ⟨rfl, hb9⟩; have g9 : Below W8.heap.size W8 W9 := hBD.trans hb9; have HI9 := Lib.hid (HI8.out.on g9))
       | (go_at_call 48; (with_reducible refine (HCs.out W9 HI9.out).mono ?_); rintro e' W10 ⟨rfl, hb10⟩; have g10 : Below W8.heap.size W8 W10 := below_step g9 hb10))
     go_wp2_with fail
     go_ret
     exact ⟨rfl, below_step HB8W.out g10⟩
end Go.Proofs.Ytddfpmdbndakgaa
