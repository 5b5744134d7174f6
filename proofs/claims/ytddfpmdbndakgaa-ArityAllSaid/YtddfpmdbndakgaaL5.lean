/- Texts, merged by a program; only what is used. -/
import Derived.Test.YtddfpmdbndakgaaK1
import Derived.Test.YtddfpmdbndakgaaK2
import Derived.Test.YtddfpmdbndakgaaK3
import Derived.Test.YtddfpmdbndakgaaK4
import Derived.Test.YtddfpmdbndakgaaK5
import Derived.Test.YtddfpmdbndakgaaK6
import Derived.Test.YtddfpmdbndakgaaK7
import Derived.Test.YtddfpmdbndakgaaK8
import Derived.Test.YtddfpmdbndakgaaK9
import Derived.Test.YtddfpmdbndakgaaK10
import Derived.Test.YtddfpmdbndakgaaK11
import Derived.Test.YtddfpmdbndakgaaK12
import Derived.Test.YtddfpmdbndakgaaK13
import Derived.Test.YtddfpmdbndakgaaK14
import Derived.Test.YtddfpmdbndakgaaK15
import Derived.Test.YtddfpmdbndakgaaK16
import Derived.Test.YtddfpmdbndakgaaK17
import Derived.Test.YtddfpmdbndakgaaK18
import Derived.Test.YtddfpmdbndakgaaK19
import Derived.Test.YtddfpmdbndakgaaK20
import Derived.Test.YtddfpmdbndakgaaK21
import Derived.Test.YtddfpmdbndakgaaK22
import Derived.Test.YtddfpmdbndakgaaK23
import Derived.Test.YtddfpmdbndakgaaK24
import Derived.Test.YtddfpmdbndakgaaK25
import Derived.Test.YtddfpmdbndakgaaK26
import Derived.Test.YtddfpmdbndakgaaK27
import Derived.Test.YtddfpmdbndakgaaK28
import Derived.Test.YtddfpmdbndakgaaK29
import Derived.Test.YtddfpmdbndakgaaK30
import Derived.Test.YtddfpmdbndakgaaL1
import Derived.Test.YtddfpmdbndakgaaL2
import Derived.Test.YtddfpmdbndakgaaL3
import Derived.Test.YtddfpmdbndakgaaL4
namespace Go.Proofs.Ytddfpmdbndakgaa
open Go.ChangeShapes Go.WideShapes Go.ChangeAt Go.RowKit Go.Deep
set_option linter.unusedVariables false
set_option linter.unusedSimpArgs false
set_option maxHeartbeats 8000000 in
set_option maxRecDepth 100000 in
theorem scopeSaid_walk {w : World} {Q : Nat → Prop} {p : Pg} {c0 c1 : Value} (h : ProgI w Q p [c0, c1]) (id : Int) (wid : (Lit.int .i64 id).wf = true) (W : World) (hI : In Q w W) :
 Calls Try.prog 7 #[.agg #[c0, c1], .int .i64 id] W fun e w' => e = .returned (.bool true) ∧ Below W.heap.size W w' := by
 have HP := Lib.hid h
 have HF := Lib.hid (fun V h1 => Fits_any h V h1)
 have HI := Lib.hid hI
 obtain ⟨Ag, cg, Ap, cp, rfl, rfl, _⟩ := prog_open h
 clear h hI
 go_enter Try.func7, Try.ntmps7
 go_upto_region 1 with fail
 have HB0 : Hid (Below W.heap.size W (W.alloc (.cells #[.slice Ag p.globals.length cg, .slice Ap p.procs.length cp] 25))) := Lib.hid (below_box _)
 have HBp0 : Hid (Blk (W.alloc (.cells #[.slice Ag p.globals.length cg, .slice Ap p.procs.length cp] 25)) W.heap.size 25 #[.slice Ag p.globals.length cg, .slice Ap p.procs.length cp]) := Lib.hid (Blk.new _ _ _)
 generalize World.alloc _ _ = W0 at HB0 HBp0 ⊢
 have HI0 := Lib.hid (HI.out.on HB0.out)
 generalize hbe : W.heap.size = b at HBp0 ⊢
 clear hbe
 go_upto_region 3 with (go_at_call 26; refine (known_any W0).mono ?_; rintro e' W1 ⟨rfl, hb1⟩)
 have HB1 : Hid (Below W.heap.size W W1) := Lib.hid (below_step HB0.out hb1)
 have HI1 := Lib.hid (HI0.out.on hb1)
 have HBp1 := Lib.hid (HBp0.out.below hb1 HBp0.out.lt)
 clear hb1 HB0 HBp0 HI0
 have q0 : W1.cell? ⟨b, 0, none⟩ = some (.slice Ag p.globals.length cg) := by rw [HBp1.out.cell]; rfl
 have q1 : W1.cell? ⟨b, 1, none⟩ = some (.slice Ap p.procs.length cp) := by rw [HBp1.out.cell]; rfl
 have hbl := HBp1.out.lt
 cases hf : fitsP p with
 | false =>
  rw [hf] at HF
  clear hf
  go_wp2_with (go_at_call 14; refine (HF.out _ HI1.out).mono ?_; rintro e' W2 ⟨rfl, hb2⟩)
  go_ret
  exact ⟨rfl, below_step HB1.out hb2⟩
 | true =>
  have HSg := Lib.hid (fits_smG hf)
  have HC := Lib.hid (fun V hV => Check_any HP.out (fits_smG hf) V hV)
  have HFd := Lib.hid (fun V hV => Find_any HP.out id V hV (fits_sm hf))
  have HPc := Lib.hid (fun nm V hV => Proc_any HP.out (fits_smG hf) nm V hV)
  have HKd := Lib.hid (fun pr nm V hV => Kind_any HP.out pr nm V hV)
  rw [hf] at HF
  clear hf
  go_upto_region 5 with (go_at_call 14; refine (HF.out _ HI1.out).mono ?_; rintro e' W2 ⟨rfl, hb2⟩)
  have HB2 : Hid (Below W.heap.size W W2) := Lib.hid (below_step HB1.out hb2)
  have HI2 := Lib.hid (HI1.out.on hb2)
  have HBp2 := Lib.hid (HBp1.out.below hb2 hbl)
  clear hb2 HB1 HI1 HBp1 q0 q1 hbl HF
  have q0 : W2.cell? ⟨b, 0, none⟩ = some (.slice Ag p.globals.length cg) := by rw [HBp2.out.cell]; rfl
  have q1 : W2.cell? ⟨b, 1, none⟩ = some (.slice Ap p.procs.length cp) := by rw [HBp2.out.cell]; rfl
  have hbl := HBp2.out.lt
  have hff : ∀ (a c : Int) (w : World), (Instr.field 45 (.agg #[.int .i64 a, .int .i64 c]) 0).run Try.prog w = .ok (.int .i64 a) w := fun _ _ _ => by kernel_rfl
  have hok : (chkP p).1 = 0 → ChOk p := chk_ok
  have HOk0 := Lib.hid hok
  clear hok
  generalize chkP p = r at HC HOk0
  obtain ⟨rc, ri⟩ := r
  simp only at HOk0
  by_cases hr : rc = 0
  ·subst hr
   have HOk := Lib.hid (HOk0.out rfl)
   clear HOk0
   go_upto_region 7 with (go_at_call 27; refine (HC.out W2 HI2.out).mono ?_; rintro e' W3 ⟨rfl, hb3⟩)
   have HB3 : Hid (Below W.heap.size W W3) := Lib.hid (below_step HB2.out hb3)
   have HI3 := Lib.hid (HI2.out.on hb3)
   have HBp3 := Lib.hid (HBp2.out.below hb3 hbl)
   clear hb3 HB2 HI2 HBp2 q0 q1 hbl HC hff
   have q0 : W3.cell? ⟨b, 0, none⟩ = some (.slice Ag p.globals.length cg) := by rw [HBp3.out.cell]; rfl
   have q1 : W3.cell? ⟨b, 1, none⟩ = some (.slice Ap p.procs.length cp) := by rw [HBp3.out.cell]; rfl
   have hbl := HBp3.out.lt
   have hfi := findL_in p.procs id
   have HFi : Hid ((findP p id).2.2 = true → (saidS (findP p id).2.1).length ≤ 1000000 ∧ (∀ v ∈ saidS (findP p id).2.1, kindP p (findP p id).1 v ≠ 0) ∧ ((findP p id).2.1.kind = 4 → ((findP p id).2.1.proc.toList == [109, 97, 105, 110]) = false ∧ (procP p (findP p id).2.1.proc).2 = true)) := Lib.hid (fun h => by
    obtain ⟨q, hq, h1, h2⟩ := hfi h
    obtain ⟨h3, h4⟩ := HOk.out.said hq h2
    refine ⟨Nat.le_trans (saidS_w (may_stm HOk.out.may q hq _ h2)) (Nat.le_trans (preSL_w _ _ h2) (HSg.out.proc q hq).1), fun v hv => ?_, h4⟩
    have := h3 v hv
    rw [← h1] at this
    exact this)
   clear hfi HOk HSg
   generalize findP p id = r at HFd HFi
   obtain ⟨pn, s, ok⟩ := r
   simp only at HFi
   cases ok with
   | false =>
    clear HFi
    go_wp2_with (go_at_call 33; refine (HFd.out W3 HI3.out).mono ?_; rintro e' W4 ⟨d0, d1, d2, d3, d4, d5, d6, d7, d8, d9, d10, d11, d12, rfl, hb4, hs4⟩; obtain ⟨sid, kind, labels, nm, proc, x, has, args, th, el, L, lc, y0, y1, y2, X, xn, xc, R, rc, T, tc, U, uc, rfl, hc4, _⟩ := stmt_open hs4; simp only [List.cons.injEq, and_true] at hc4; obtain ⟨rfl, rfl, rfl, rfl, rfl, rfl, rfl, rfl, rfl, rfl, rfl, rfl, rfl⟩ := hc4; clear hs4)
    go_ret
    exact ⟨rfl, below_stepA (below_step HB3.out hb4) _⟩
   | true =>
    obtain ⟨hln, hkd, hcl⟩ := HFi.out rfl
    have HLn := Lib.hid hln
    have HKd0 := Lib.hid hkd
    have HCl := Lib.hid hcl
    clear HFi hln hkd hcl
    go_upto_region 8 with (go_at_call 33; refine (HFd.out W3 HI3.out).mono ?_; rintro e' W4 ⟨d0, d1, d2, d3, d4, d5, d6, d7, d8, d9, d10, d11, d12, rfl, hb4, hs4⟩; obtain ⟨sid, kind, labels, nm, proc, x, has, args, th, el, L, lc, y0, y1, y2, X, xn, xc, R, rc, T, tc, U, uc, rfl, hc4, _, hkb, _⟩ := stmt_open hs4; simp only [List.cons.injEq, and_true] at hc4; obtain ⟨rfl, rfl, rfl, rfl, rfl, rfl, rfl, rfl, rfl, rfl, rfl, rfl, rfl⟩ := hc4; have HSt := Lib.hid hs4; clear hs4)
    have HSa := Lib.hid (fun V hV => rSaid_any HSt.out HLn.out V hV)
    simp only [List.toArray] at HSa
    have HB4 : Hid (Below W3.heap.size W3 (W4.alloc (.cells #[.int .i64 sid, .int .i64 kind, .slice L labels.length lc, .string nm, .string proc, .int .i64 y0, .int .i64 y1, .string y2, .slice X xn xc, .bool has, .slice R args.length rc, .slice T th.length tc, .slice U el.length uc] 61))) := Lib.hid (below_stepA hb4 _)
    have HBs : Hid (Blk (W4.alloc (.cells #[.int .i64 sid, .int .i64 kind, .slice L labels.length lc, .string nm, .string proc, .int .i64 y0, .int .i64 y1, .string y2, .slice X xn xc, .bool has, .slice R args.length rc, .slice T th.length tc, .slice U el.length uc] 61)) W4.heap.size 61 #[.int .i64 sid, .int .i64 kind, .slice L labels.length lc, .string nm, .string proc, .int .i64 y0, .int .i64 y1, .string y2, .slice X xn xc, .bool has, .slice R args.length rc, .slice T th.length tc, .slice U el.length uc]) := Lib.hid (Blk.new _ _ _)
    have HIs : Hid (In (nw W3 W4) W4 (W4.alloc (.cells #[.int .i64 sid, .int .i64 kind, .slice L labels.length lc, .string nm, .string proc, .int .i64 y0, .int .i64 y1, .string y2, .slice X xn xc, .bool has, .slice R args.length rc, .slice T th.length tc, .slice U el.length uc] 61))) := Lib.hid (In.on ⟨fun j h => h.2, fun _ _ => rfl⟩ (below_box _))
    unfold i64 at hkb
    clear hb4 q0 q1 HFd
    simp only [S.kind, S.proc] at HCl
    generalize saidS (.mk sid kind labels nm proc x has args th el) = l at HSa HKd0
    clear HSt HLn
    generalize World.alloc W4 _ = V4 at HB4 HBs HIs ⊢
    generalize W4.heap.size = bs at HBs ⊢
    have HB4W := Lib.hid (below_step HB3.out HB4.out)
    have HI4 := Lib.hid (HI3.out.on HB4.out)
    have HBp4 := Lib.hid (HBp3.out.below HB4.out hbl)
    clear HB3 HI3 HBp3 HB4 hbl
    have hbl := HBp4.out.lt
    have hsl := HBs.out.lt
    go_upto_region 10 with fail
    have s0 : V4.cell? ⟨bs, 0, none⟩ = some (.int .i64 sid) := by rw [HBs.out.cell]; rfl
    have s1 : V4.cell? ⟨bs, 1, none⟩ = some (.int .i64 kind) := by rw [HBs.out.cell]; rfl
    have s2 : V4.cell? ⟨bs, 2, none⟩ = some (.slice L labels.length lc) := by rw [HBs.out.cell]; rfl
    have s3 : V4.cell? ⟨bs, 3, none⟩ = some (.string nm) := by rw [HBs.out.cell]; rfl
    have s4 : V4.cell? ⟨bs, 4, none⟩ = some (.string proc) := by rw [HBs.out.cell]; rfl
    have s5 : V4.cell? ⟨bs, 5, none⟩ = some (.int .i64 y0) := by rw [HBs.out.cell]; rfl
    have s6 : V4.cell? ⟨bs, 6, none⟩ = some (.int .i64 y1) := by rw [HBs.out.cell]; rfl
    have s7 : V4.cell? ⟨bs, 7, none⟩ = some (.string y2) := by rw [HBs.out.cell]; rfl
    have s8 : V4.cell? ⟨bs, 8, none⟩ = some (.slice X xn xc) := by rw [HBs.out.cell]; rfl
    have s9 : V4.cell? ⟨bs, 9, none⟩ = some (.bool has) := by rw [HBs.out.cell]; rfl
    have s10 : V4.cell? ⟨bs, 10, none⟩ = some (.slice R args.length rc) := by rw [HBs.out.cell]; rfl
    have s11 : V4.cell? ⟨bs, 11, none⟩ = some (.slice T th.length tc) := by rw [HBs.out.cell]; rfl
    have s12 : V4.cell? ⟨bs, 12, none⟩ = some (.slice U el.length uc) := by rw [HBs.out.cell]; rfl
    go_upto_region 11 with (go_at_call 34; refine (HSa.out V4 HIs.out).mono ?_; rintro e' W5 ⟨v5, rfl, ho5, hb5⟩; obtain ⟨X5, k5, rfl, _, _⟩ := own_shape ho5)
    have HO5 := Lib.hid ho5
    have HB5 := Lib.hid hb5
    clear s0 s1 s2 s3 s4 s5 s6 s7 s8 s9 s10 s11 s12 ho5 hb5 HSa HIs
    go_loopg [33] l.length (fun kk iv wr => ∃ (j : Nat), j + kk = l.length ∧ iv = .int .i64 j ∧ Hid (Below V4.heap.size V4 wr) ∧ Hid (wr.ownsRow V4.heap.size 9 1 (.slice X5 l.length k5) l.length (strs l)))
    case atStart => exact ⟨0, by omega, rfl, HB5, HO5⟩
    case round =>
     clear HO5 HB5
     obtain ⟨j, hj, rfl, HBr, HOr⟩ := hrel
     have HIr := Lib.hid (HI4.out.on HBr.out)
     have HBpr := Lib.hid (HBp4.out.below HBr.out hbl)
     have q0 : wr.cell? ⟨b, 0, none⟩ = some (.slice Ag p.globals.length cg) := by rw [HBpr.out.cell]; rfl
     have q1 : wr.cell? ⟨b, 1, none⟩ = some (.slice Ap p.procs.length cp) := by rw [HBpr.out.cell]; rfl
     by_cases hlt : j < l.length
     ·obtain ⟨g, cap, he, hcl, _, _⟩ := own_at HOr.out hlt
      injection he with h1 _ h3
      subst h1 h3
      have pt := hcl (.string l[j]) (by simp [strs, List.getElem?_map, List.getElem?_eq_getElem hlt])
      have HKj := Lib.hid (HKd.out pn l[j] wr HIr.out)
      have hne : (kindP p pn l[j] == 0) = false := beq_eq_false_iff_ne.2 (HKd0.out _ (List.getElem_mem hlt))
      generalize l[j] = tt at pt HKj hne
      generalize kindP p pn tt = zz at HKj hne
      clear hcl
      go_wp2_with (go_at_call 32; refine HKj.out.mono ?_; rintro e' w6 ⟨rfl, hb6⟩; have HB6 := Lib.hid (below_step HBr.out hb6); have HO6 := Lib.hid ((Below.moves hb6).row HOr.out (fun j hj e => Nat.not_lt.2 e (HOr.out.lt j hj).2)); clear hb6)
      go_roundg (l.length - j - 1)
      case measure => omega
      case rel => exact ⟨j + 1, by omega, by go_num, HB6, HO6⟩
     ·have HBsr := Lib.hid (HBs.out.below HBr.out hsl)
      have s4 : wr.cell? ⟨bs, 4, none⟩ = some (.string proc) := by rw [HBsr.out.cell]; rfl
      have HPj := Lib.hid (HPc.out proc wr HIr.out)
      have HB7W := Lib.hid (below_step HB4W.out HBr.out)
      generalize procP p proc = r at HPj HCl
      obtain ⟨rq, rb⟩ := r
      go_upto_region 17 with (go_at_call 30; refine HPj.out.mono ?_; rintro e' W8 ⟨d0, d1, d2, d3, d4, rfl, hb8, hp8⟩; obtain ⟨vp, vv, vb, ve, hc, hn', hpp, hvv, hbb, hee⟩ := hp8; simp only [List.cons.injEq, and_true] at hc; obtain ⟨rfl, rfl, rfl, rfl, rfl⟩ := hc; obtain ⟨qP, qpc, rfl, _, _⟩ := hpp.shape; obtain ⟨qV, qvc, rfl, _, _⟩ := hvv.shape; obtain ⟨qB, qbc, rfl, _⟩ := hbb.shape; obtain ⟨qE, qec, rfl, _⟩ := hee.shape; clear hn' hpp hvv hbb hee)
      have HB8 : Hid (Below wr.heap.size wr (W8.alloc (.cells #[.string rq.nm, .slice qP rq.params.length qpc, .slice qV rq.vars.length qvc, .slice qB rq.body.length qbc, .slice qE rq.end_.length qec] 51))) := Lib.hid (below_stepA hb8 _)
      generalize hV8 : World.alloc W8 _ = V8 at HB8 ⊢
      have HBs8 := Lib.hid (HBsr.out.below HB8.out HBsr.out.lt)
      clear q0 q1 s4 hb8 hV8
      have s1 : V8.cell? ⟨bs, 1, none⟩ = some (.int .i64 kind) := by rw [HBs8.out.cell]; rfl
      have s4 : V8.cell? ⟨bs, 4, none⟩ = some (.string proc) := by rw [HBs8.out.cell]; rfl
      by_cases hk4 : kind = 4
      ·subst hk4
       obtain ⟨hm, hb⟩ := HCl.out rfl
       (try simp only at hb)
       subst hb
       go_wp2_with fail
       go_ret
       exact ⟨rfl, below_step HB7W.out HB8.out⟩
      ·have hk5 : (kind == 4) = false := beq_eq_false_iff_ne.2 hk4
       have hk6 : (kind != 4) = true := by simp [bne, hk5]
       clear hk4
       go_wp2_with fail
       go_ret
       exact ⟨rfl, below_step HB7W.out HB8.out⟩
  ·have hr1 : (rc == 0) = false := beq_eq_false_iff_ne.2 hr
   have hr2 : (rc != 0) = true := by simp [bne, hr1]
   clear hr HOk0
   go_wp2_with (go_at_call 27; refine (HC.out W2 HI2.out).mono ?_; rintro e' W3 ⟨rfl, hb3⟩)
   go_ret
   exact ⟨rfl, below_step HB2.out hb3⟩
end Go.Proofs.Ytddfpmdbndakgaa
namespace Go.Proofs.Ytddfpmdbndakgaa
open Go.ChangeShapes Go.WideShapes Go.ChangeAt Go.RowKit Go.Deep
set_option linter.unusedVariables false
set_option linter.unusedSimpArgs false
theorem Mod_fix (n : Int) (k : Nat) (h1 : 1 ≤ k) (h2 : k ≤ 1000000) : ∃ m, m < k ∧ ∀ w : World, Calls Try.prog 17 #[.int .i64 n, .int .i64 k] w fun e w' => e = .returned (.int .i64 m) ∧ w = w' := by
 have hb : n.tmod k < k := Int.tmod_lt_of_pos n (by omega)
 have hb2 : -(k : Int) < n.tmod k := by
  have := Int.tmod_lt_of_pos (-n) (show (0 : Int) < k by omega)
  rw [Int.neg_tmod] at this
  omega
 by_cases hn : n.tmod k < 0
 ·refine ⟨(n.tmod k + k).toNat, by omega, fun w => ?_⟩
  go_enter Try.func17, Try.ntmps17
  go_wp2
  go_ret
  exact ⟨ret_int (by omega), rfl⟩
 ·refine ⟨(n.tmod k).toNat, by omega, fun w => ?_⟩
  go_enter Try.func17, Try.ntmps17
  go_wp2
  go_ret
  exact ⟨ret_int (by omega), rfl⟩
theorem ProcAt_any {w : World} {Q : Nat → Prop} {p : Pg} {c0 c1 : Value} (h : ProgI w Q p [c0, c1]) (hn : 1 ≤ p.procs.length ∧ p.procs.length ≤ 16) (n : Int) : ∃ m, ∃ hm : m < p.procs.length, ∀ W : World, In Q w W →
 Calls Try.prog 29 #[.agg #[c0, c1], .int .i64 n] W fun e w' => e = .returned (.string p.procs[m].nm) ∧ Below W.heap.size W w' := by
 obtain ⟨m, hm, hM⟩ := Mod_fix n p.procs.length hn.1 (by omega)
 refine ⟨m, hm, fun W hI => ?_⟩
 have HM := Lib.hid hM
 obtain ⟨Ag, cg, Ap, cp, rfl, rfl, _, _, _, _, hgl, hpr⟩ := prog_open h
 have HP := Lib.hid hpr
 have HI := Lib.hid hI
 obtain ⟨hn1, hn2⟩ := hn
 clear h hI hgl hpr hM
 go_enter Try.func29, Try.ntmps29
 go_upto_region 1 with fail
 have HB0 : Hid (Below W.heap.size W (W.alloc (.cells #[.slice Ag p.globals.length cg, .slice Ap p.procs.length cp] 25))) := Lib.hid (below_box _)
 have HBp : Hid (Blk (W.alloc (.cells #[.slice Ag p.globals.length cg, .slice Ap p.procs.length cp] 25)) W.heap.size 25 #[.slice Ag p.globals.length cg, .slice Ap p.procs.length cp]) := Lib.hid (Blk.new _ _ _)
 generalize World.alloc _ _ = V at HB0 HBp ⊢
 have HI0 := Lib.hid (HI.out.on HB0.out)
 generalize hbe : W.heap.size = b at HBp ⊢
 clear hbe
 obtain ⟨a, Bp, kp, Bv, kv, Bb, kb, Be, ke, rfl, _, ⟨p0, p1, p2, p3, p4, _⟩, _⟩ := proc_at HP.out HI0.out hm
 have q0 : V.cell? ⟨b, 0, none⟩ = some (.slice Ag p.globals.length cg) := by rw [HBp.out.cell]; rfl
 have q1 : V.cell? ⟨b, 1, none⟩ = some (.slice (some a) p.procs.length cp) := by rw [HBp.out.cell]; rfl
 clear p1 p2 p3 p4
 obtain ⟨xn, hx⟩ : ∃ xn, xn = p.procs[m].nm := ⟨_, rfl⟩
 rw [← hx] at p0
 have HX := Lib.hid hx
 clear hx
 go_upto_region 3 with fail
 go_quiet ((go_at_call 17; exact quiet_same (HM.out _)))
 go_wp2_with fail
 go_ret
 exact ⟨by rw [← HX.out]; rfl, below_drewN HB0.out _⟩
theorem knd_at {gl : List ByteArray} {q : Pr} (h : (namesP gl q).Nodup) {i : Nat} (hi : i < (namesP gl q).length) :
 (i < gl.length ∧ knd gl q (namesP gl q)[i] = 1) ∨ (gl.length + q.params.length ≤ i ∧ knd gl q (namesP gl q)[i] = 4) ∨ ∃ j, ∃ hj : j < q.params.length, i = gl.length + j ∧ knd gl q (namesP gl q)[i] = if q.params[j].ref = true then 3 else 2 := by
 have hl : (namesP gl q).length = gl.length + q.params.length + q.vars.length := by simp [namesP]; omega
 unfold namesP at h
 rw [List.append_assoc] at h
 obtain ⟨h1, h2, h3⟩ := List.nodup_append.1 h
 obtain ⟨h4, h5, h6⟩ := List.nodup_append.1 h2
 have hg0 : ∀ v ∈ gl, q.params.find? (isPa v) = none := fun v hv => List.find?_eq_none.2 (fun x hx e => h3 v hv x.nm (List.mem_append_left _ (List.mem_map_of_mem hx)) (show v = x.nm from (of_decide_eq_true (show decide (x.nm = v) = true from e)).symm))
 have hv0 : ∀ v ∈ q.vars, q.params.find? (isPa v) = none := fun v hv => List.find?_eq_none.2 (fun x hx e => h6 x.nm (List.mem_map_of_mem hx) v hv (by simpa [isPa] using e))
 have hvg : ∀ v ∈ gl, q.vars.any (isT v) = false := fun v hv => by
  rw [List.any_eq_false]
  intro x hx e
  have : v = x := by simpa [isT] using e
  exact h3 v hv x (List.mem_append_right _ hx) this
 by_cases c1 : i < gl.length
 ·refine .inl ⟨c1, ?_⟩
  have hm : (namesP gl q)[i] ∈ gl := by
   simp only [namesP, List.append_assoc]
   rw [List.getElem_append_left c1]
   exact List.getElem_mem c1
  generalize (namesP gl q)[i] = v at hm ⊢
  unfold knd
  rw [hg0 v hm, Option.elim_none, hvg v hm, if_neg (by simp), if_pos (List.any_eq_true.2 ⟨v, hm, by simp [isT]⟩)]
 ·by_cases c2 : gl.length + q.params.length ≤ i
  ·refine .inr (.inl ⟨c2, ?_⟩)
   have hm : (namesP gl q)[i] ∈ q.vars := by
    simp only [namesP]
    rw [List.getElem_append_right (by simp; omega)]
    exact List.getElem_mem _
   generalize (namesP gl q)[i] = v at hm ⊢
   unfold knd
   rw [hv0 v hm, Option.elim_none, if_pos (List.any_eq_true.2 ⟨v, hm, by simp [isT]⟩)]
  ·refine .inr (.inr ⟨i - gl.length, by omega, by omega, ?_⟩)
   have he : (namesP gl q)[i] = (q.params[i - gl.length]'(by omega)).nm := by
    simp only [namesP, List.append_assoc]
    rw [List.getElem_append_right (by omega), List.getElem_append_left (by simp; omega), List.getElem_map]
   rw [he]
   have hf : ∀ (l : List Pa), (l.map Pa.nm).Nodup → ∀ x ∈ l, l.find? (isPa x.nm) = some x := by
    intro l
    induction l with
    | nil => intro _ x hx; cases hx
    | cons y l ih =>
     intro hn x hx
     rw [List.map_cons, List.nodup_cons] at hn
     rw [List.find?_cons]
     rcases List.mem_cons.1 hx with rfl | hx
     ·rw [show isPa x.nm x = true by simp [isPa]]
     ·have hne : isPa x.nm y = false := by
       unfold isPa
       exact decide_eq_false (fun e => hn.1 (by rw [e]; exact List.mem_map_of_mem hx))
      rw [hne]
      exact ih hn.2 x hx
   unfold knd
   rw [hf q.params h4 _ (List.getElem_mem _)]
   rfl
end Go.Proofs.Ytddfpmdbndakgaa
namespace Go.Proofs.Ytddfpmdbndakgaa
open Go.ChangeShapes Go.WideShapes Go.ChangeAt Go.RowKit Go.Deep
set_option linter.unusedVariables false
set_option linter.unusedSimpArgs false
set_option maxHeartbeats 8000000 in
set_option maxRecDepth 100000 in
theorem scopeOne_walk {w : World} {Q : Nat → Prop} {p : Pg} {c0 c1 : Value} (h : ProgI w Q p [c0, c1]) (n : Int) (wn : (Lit.int .i64 n).wf = true) (W : World) (hI : In Q w W) :
 Calls Try.prog 6 #[.agg #[c0, c1], .int .i64 n] W fun e w' => e = .returned (.bool true) ∧ Below W.heap.size W w' := by
 have HP := Lib.hid h
 have HF := Lib.hid (fun V h1 => Fits_any h V h1)
 have HI := Lib.hid hI
 obtain ⟨Ag, cg, Ap, cp, rfl, rfl, _⟩ := prog_open h
 clear h hI
 go_enter Try.func6, Try.ntmps6
 go_upto_region 1 with fail
 have HB0 : Hid (Below W.heap.size W (W.alloc (.cells #[.slice Ag p.globals.length cg, .slice Ap p.procs.length cp] 25))) := Lib.hid (below_box _)
 have HBp0 : Hid (Blk (W.alloc (.cells #[.slice Ag p.globals.length cg, .slice Ap p.procs.length cp] 25)) W.heap.size 25 #[.slice Ag p.globals.length cg, .slice Ap p.procs.length cp]) := Lib.hid (Blk.new _ _ _)
 generalize World.alloc _ _ = W0 at HB0 HBp0 ⊢
 have HI0 := Lib.hid (HI.out.on HB0.out)
 generalize hbe : W.heap.size = b at HBp0 ⊢
 clear hbe
 go_upto_region 3 with (go_at_call 26; refine (known_any W0).mono ?_; rintro e' W1 ⟨rfl, hb1⟩)
 have HB1 : Hid (Below W.heap.size W W1) := Lib.hid (below_step HB0.out hb1)
 have HI1 := Lib.hid (HI0.out.on hb1)
 have HBp1 := Lib.hid (HBp0.out.below hb1 HBp0.out.lt)
 clear hb1 HB0 HBp0 HI0
 have q0 : W1.cell? ⟨b, 0, none⟩ = some (.slice Ag p.globals.length cg) := by rw [HBp1.out.cell]; rfl
 have q1 : W1.cell? ⟨b, 1, none⟩ = some (.slice Ap p.procs.length cp) := by rw [HBp1.out.cell]; rfl
 have hbl := HBp1.out.lt
 cases hf : fitsP p with
 | false =>
  rw [hf] at HF
  clear hf
  go_wp2_with (go_at_call 14; refine (HF.out _ HI1.out).mono ?_; rintro e' W2 ⟨rfl, hb2⟩)
  go_ret
  exact ⟨rfl, below_step HB1.out hb2⟩
 | true =>
  have HSg := Lib.hid (fits_smG hf)
  have HC := Lib.hid (fun V hV => Check_any HP.out (fits_smG hf) V hV)
  have HPc := Lib.hid (fun nm V hV => Proc_any HP.out (fits_smG hf) nm V hV)
  have HVr := Lib.hid (fun nm V hV => Vars_any HP.out (fits_smG hf) nm V hV)
  have HKd := Lib.hid (fun pr nm V hV => Kind_any HP.out pr nm V hV)
  rw [hf] at HF
  clear hf
  go_upto_region 5 with (go_at_call 14; refine (HF.out _ HI1.out).mono ?_; rintro e' W2 ⟨rfl, hb2⟩)
  have HB2 : Hid (Below W.heap.size W W2) := Lib.hid (below_step HB1.out hb2)
  have HI2 := Lib.hid (HI1.out.on hb2)
  have HBp2 := Lib.hid (HBp1.out.below hb2 hbl)
  clear hb2 HB1 HI1 HBp1 q0 q1 hbl HF
  have q0 : W2.cell? ⟨b, 0, none⟩ = some (.slice Ag p.globals.length cg) := by rw [HBp2.out.cell]; rfl
  have q1 : W2.cell? ⟨b, 1, none⟩ = some (.slice Ap p.procs.length cp) := by rw [HBp2.out.cell]; rfl
  have hbl := HBp2.out.lt
  have hff : ∀ (a c : Int) (w : World), (Instr.field 45 (.agg #[.int .i64 a, .int .i64 c]) 0).run Try.prog w = .ok (.int .i64 a) w := fun _ _ _ => by kernel_rfl
  have hok : (chkP p).1 = 0 → ChOk p := chk_ok
  have HOk0 := Lib.hid hok
  clear hok
  generalize chkP p = r at HC HOk0
  obtain ⟨rc, ri⟩ := r
  simp only at HOk0
  by_cases hr : rc = 0
  ·subst hr
   have HOk := Lib.hid (HOk0.out rfl)
   clear HOk0
   go_upto_region 7 with (go_at_call 27; refine (HC.out W2 HI2.out).mono ?_; rintro e' W3 ⟨rfl, hb3⟩)
   have HB3 : Hid (Below W.heap.size W W3) := Lib.hid (below_step HB2.out hb3)
   have HI3 := Lib.hid (HI2.out.on hb3)
   have HBp3 := Lib.hid (HBp2.out.below hb3 hbl)
   clear hb3 HB2 HI2 HBp2 q0 q1 hbl HC hff
   have q0 : W3.cell? ⟨b, 0, none⟩ = some (.slice Ag p.globals.length cg) := by rw [HBp3.out.cell]; rfl
   have q1 : W3.cell? ⟨b, 1, none⟩ = some (.slice Ap p.procs.length cp) := by rw [HBp3.out.cell]; rfl
   have hbl := HBp3.out.lt
   obtain ⟨hl1, hl2, hl3⟩ := may_lens HOk.out.may
   have hpos : 1 ≤ p.procs.length := by
    have h := HOk.out.main
    unfold mainBad at h
    cases hp : p.procs with
    | nil => rw [hp] at h; cases h
    | cons _ _ => simp
   obtain ⟨q, hq, hPA⟩ : ∃ q ∈ p.procs, ∀ W : World, In Q w W → Calls Try.prog 29 #[.agg #[.slice Ag p.globals.length cg, .slice Ap p.procs.length cp], .int .i64 n] W fun e w' => e = .returned (.string q.nm) ∧ Below W.heap.size W w' := by
    obtain ⟨m, hm, hPA⟩ := ProcAt_any HP.out ⟨hpos, hl2⟩ n
    exact ⟨p.procs[m], List.getElem_mem hm, hPA⟩
   have HPA := Lib.hid hPA
   clear hPA
   obtain ⟨hl4, hl5⟩ := hl3 _ hq
   have hpr : procP p q.nm = (q, true) := by
    unfold procP
    rw [if_pos HOk.out.may, find_own _ HOk.out.procs _ hq]
    rfl
   have hvr : varsP p q.nm = namesP p.globals q := by
    unfold varsP
    rw [if_pos HOk.out.may, find_own _ HOk.out.procs _ hq]
    rfl
   have HKn : Hid (∀ v, kindP p q.nm v = knd p.globals q v) := Lib.hid (fun v => HOk.out.kind hq v)
   have HKa : Hid (∀ i (hi : i < (namesP p.globals q).length), (i < p.globals.length ∧ knd p.globals q (namesP p.globals q)[i] = 1) ∨ (p.globals.length + q.params.length ≤ i ∧ knd p.globals q (namesP p.globals q)[i] = 4) ∨ ∃ (j : Nat) (x : Pa), q.params[j]? = some x ∧ j < q.params.length ∧ i = p.globals.length + j ∧ knd p.globals q (namesP p.globals q)[i] = if x.ref = true then 3 else 2) := Lib.hid (fun i hi => by
    rcases knd_at (HOk.out.names _ hq) hi with h | h | ⟨j, hj, h1, h2⟩
    ·exact .inl h
    ·exact .inr (.inl h)
    ·exact .inr (.inr ⟨j, q.params[j], List.getElem?_eq_getElem hj, hj, h1, h2⟩))
   have HP1 := Lib.hid (fun V hV => HPc.out q.nm V hV)
   rw [hpr] at HP1
   have HV1 := Lib.hid (fun V hV => HVr.out q.nm V hV)
   rw [hvr] at HV1
   have HK1 := Lib.hid (fun nm V hV => HKd.out q.nm nm V hV)
   have hln : (namesP p.globals q).length = p.globals.length + q.params.length + q.vars.length := by simp [namesP]; omega
   clear hpr hvr hq HPc HVr HKd HOk HSg hl3
   have HNm : Hid True := Lib.hid trivial
   generalize namesP p.globals q = l at HV1 HKa hln
   generalize hmn : q.nm = mn at HP1 HV1 HK1 HPA HKn
   have HMn := Lib.hid hmn
   clear hmn
   generalize hgl : p.globals.length = g at *
   generalize hpl : q.params.length = m1 at *
   generalize hvl : q.vars.length = m2 at *
   have HGl := Lib.hid hgl
   have HPl := Lib.hid hpl
   have HVl := Lib.hid hvl
   clear hgl hpl hvl
   go_upto_region 8 with (go_at_call 29; refine (HPA.out W3 HI3.out).mono ?_; rintro e' W4 ⟨rfl, hb4⟩)
   have HB4 := Lib.hid (below_step HB3.out hb4)
   have HI4 := Lib.hid (HI3.out.on hb4)
   have HBp4 := Lib.hid (HBp3.out.below hb4 hbl)
   clear hb4 HB3 HI3 HBp3 q0 q1 hbl HPA
   have q0 : W4.cell? ⟨b, 0, none⟩ = some (.slice Ag g cg) := by rw [HBp4.out.cell]; rfl
   have q1 : W4.cell? ⟨b, 1, none⟩ = some (.slice Ap p.procs.length cp) := by rw [HBp4.out.cell]; rfl
   have hbl := HBp4.out.lt
   go_upto_region 9 with (go_at_call 30; refine (HP1.out W4 HI4.out).mono ?_; rintro e' W5 ⟨d0, d1, d2, d3, d4, rfl, hb5, hp5⟩; obtain ⟨vp, vv, vb, ve, hc, hn', hpp, hvv, hbb, hee⟩ := hp5; simp only [List.cons.injEq, and_true] at hc; obtain ⟨rfl, rfl, rfl, rfl, rfl⟩ := hc; obtain ⟨M1, k1, rfl, _, _⟩ := hpp.shape; obtain ⟨M2, k2, rfl, _, _⟩ := hvv.shape; obtain ⟨M3, k3, rfl, _⟩ := hbb.shape; obtain ⟨M4, k4, rfl, _⟩ := hee.shape; have HPp := Lib.hid hpp; clear hn' hpp hvv hbb hee)
   rw [HMn.out, HPl.out, HVl.out]
   rw [HPl.out] at HPp
   generalize q.body.length = m3 at *
   generalize q.end_.length = m4 at *
   have HB5 : Hid (Below W4.heap.size W4 (W5.alloc (.cells #[.string mn, .slice M1 m1 k1, .slice M2 m2 k2, .slice M3 m3 k3, .slice M4 m4 k4] 51))) := Lib.hid (below_stepA hb5 _)
   have HBq : Hid (Blk (W5.alloc (.cells #[.string mn, .slice M1 m1 k1, .slice M2 m2 k2, .slice M3 m3 k3, .slice M4 m4 k4] 51)) W5.heap.size 51 #[.string mn, .slice M1 m1 k1, .slice M2 m2 k2, .slice M3 m3 k3, .slice M4 m4 k4]) := Lib.hid (Blk.new _ _ _)
   have HIq : Hid (In (nw W4 W5) W5 (W5.alloc (.cells #[.string mn, .slice M1 m1 k1, .slice M2 m2 k2, .slice M3 m3 k3, .slice M4 m4 k4] 51))) := Lib.hid (In.on ⟨fun j h => h.2, fun _ _ => rfl⟩ (below_box _))
   clear hb5 q0 q1 HP1
   generalize World.alloc W5 _ = V5 at HB5 HBq HIq ⊢
   generalize hbq : W5.heap.size = bq at HBq ⊢
   clear hbq
   have HB5W := Lib.hid (below_step HB4.out HB5.out)
   have HI5 := Lib.hid (HI4.out.on HB5.out)
   have HBp5 := Lib.hid (HBp4.out.below HB5.out hbl)
   clear HB4 HI4 HBp4 HB5 hbl
   have hbl := HBp5.out.lt
   have hql := HBq.out.lt
   have q0 : V5.cell? ⟨b, 0, none⟩ = some (.slice Ag g cg) := by rw [HBp5.out.cell]; rfl
   have q1 : V5.cell? ⟨b, 1, none⟩ = some (.slice Ap p.procs.length cp) := by rw [HBp5.out.cell]; rfl
   go_upto_region 10 with (go_at_call 31; refine (HV1.out V5 HI5.out).mono ?_; rintro e' W6 ⟨v6, rfl, ho6, hb6⟩; obtain ⟨X6, k6, rfl, _, _⟩ := own_shape ho6)
   (try rw [hln] at ho6)
   have HO6 := Lib.hid ho6
   have HB6 := Lib.hid hb6
   have HBp6 := Lib.hid (HBp5.out.below hb6 hbl)
   have HBq6 := Lib.hid (HBq.out.below hb6 hql)
   clear q0 q1 ho6 hb6 HV1
   have HBD : Hid True := Lib.hid trivial
   have q0 : W6.cell? ⟨b, 0, none⟩ = some (.slice Ag g cg) := by rw [HBp6.out.cell]; rfl
   have z0 : W6.cell? ⟨bq, 0, none⟩ = some (.string mn) := by rw [HBq6.out.cell]; rfl
   have z1 : W6.cell? ⟨bq, 1, none⟩ = some (.slice M1 m1 k1) := by rw [HBq6.out.cell]; rfl
   have z2 : W6.cell? ⟨bq, 2, none⟩ = some (.slice M2 m2 k2) := by rw [HBq6.out.cell]; rfl
   have hs : (mn.toList == mn.toList) = true := by simp
   have hdd : (((g + m1 + m2 : Nat) : Int) == (g : Int) + (m1 : Int) + (m2 : Int)) = true := by simp
   have hdd2 : (((g + m1 + m2 : Nat) : Int) != (g : Int) + (m1 : Int) + (m2 : Int)) = false := by simp [bne]
   go_cut [56] from 33 to 55 (fun s wx => s = .bool false ∧ wx = W6)
   case first =>
    go_wp2_with fail
    go_meet
    exact ⟨rfl, rfl⟩
   case rest =>
   obtain ⟨rfl, hw⟩ := hcut
   replace hw := hw.symm
   subst hw
   clear hs hdd hdd2 z0 z1 z2 q0
   go_upto_region 13 with fail
   clear HBp6 HBq6
   go_loopg [7, 59] (g + m1 + m2) (fun kk u7 iv wr => ∃ (i : Nat), i + kk = g + m1 + m2 ∧ iv = .int .i64 i ∧ u7 = .bool true ∧ Hid (Below V5.heap.size V5 wr) ∧ Hid (wr.ownsRow V5.heap.size 9 1 (.slice X6 (g + m1 + m2) k6) (g + m1 + m2) (strs l)))
   case atStart => exact ⟨0, by omega, rfl, rfl, HB6, HO6⟩
   case round =>
    clear HO6 HB6
    obtain ⟨i, hi, rfl, rfl, HBr, HOr⟩ := hrel
    have HIr := Lib.hid (HI5.out.on HBr.out)
    have HBpr := Lib.hid (HBp5.out.below HBr.out hbl)
    have HBqr := Lib.hid (HBq.out.below HBr.out hql)
    have HIqr := Lib.hid (HIq.out.on HBr.out)
    have q0 : wr.cell? ⟨b, 0, none⟩ = some (.slice Ag g cg) := by rw [HBpr.out.cell]; rfl
    have q1 : wr.cell? ⟨b, 1, none⟩ = some (.slice Ap p.procs.length cp) := by rw [HBpr.out.cell]; rfl
    by_cases hlt : i < g + m1 + m2
    ·obtain ⟨ga, cap, he, hcl, _, _⟩ := own_at HOr.out hlt
     injection he with h1 _ h3
     subst h1 h3
     have hlt2 : i < l.length := by omega
     have pt := hcl (.string l[i]) (by simp [strs, List.getElem?_map, List.getElem?_eq_getElem hlt2])
     have HKj := Lib.hid (HK1.out l[i] wr HIr.out)
     rw [HKn.out] at HKj
     have hka := HKa.out i hlt2
     generalize l[i] = tt at pt HKj hka
     generalize knd p.globals q tt = zz at HKj hka
     clear hcl hlt2
     go_upto_region 17 with (go_at_call 32; refine HKj.out.mono ?_; rintro e' w7 ⟨rfl, hb7⟩)
     have HB7 := Lib.hid (below_step HBr.out hb7)
     have HO7 := Lib.hid ((Below.moves hb7).row HOr.out (fun j hj e => Nat.not_lt.2 e (HOr.out.lt j hj).2))
     have HBp7 := Lib.hid (HBpr.out.below hb7 HBpr.out.lt)
     have HBq7 := Lib.hid (HBqr.out.below hb7 HBqr.out.lt)
     have HIq7 := Lib.hid (HIqr.out.on hb7)
     clear q0 q1 pt hb7 HBpr HBqr HIqr HIr HOr HBr
     clear HKj
     have q0 : w7.cell? ⟨b, 0, none⟩ = some (.slice Ag g cg) := by rw [HBp7.out.cell]; rfl
     have z1 : w7.cell? ⟨bq, 1, none⟩ = some (.slice M1 m1 k1) := by rw [HBq7.out.cell]; rfl
     rcases hka with ⟨c1, rfl⟩ | ⟨c2, rfl⟩ | ⟨j, px, hpx, hjm, rfl, hzz⟩
     ·go_wp2_with fail
      go_roundg (g + m1 + m2 - i - 1)
      case measure => omega
      case rel => exact ⟨i + 1, by omega, by go_num, rfl, HB7, HO7⟩
     ·have c1 : ¬ i < g := by omega
      have c3 : (g : Int) + (m1 : Int) ≤ (i : Int) := by omega
      have c4 : decide ((i : Int) < (g : Int)) = false := decide_eq_false (by omega)
      go_wp2_with fail
      go_roundg (g + m1 + m2 - i - 1)
      case measure => omega
      case rel => exact ⟨i + 1, by omega, by go_num, rfl, HB7, HO7⟩
     ·have hjl : j < q.params.length := by rw [HPl.out]; exact hjm
      rw [← HPl.out] at HPp
      obtain ⟨ap, rfl, _, ⟨p0, p1, _⟩, _⟩ := par_at HPp.out HIq7.out hjl
      have hpx2 : q.params[j] = px := by rw [List.getElem?_eq_getElem hjl] at hpx; injection hpx
      rw [hpx2] at p0 p1
      obtain ⟨xn, xr⟩ := px
      simp only at p0 p1 hzz
      have c4 : decide (((g + j : Nat) : Int) < (g : Int)) = false := decide_eq_false (by omega)
      have c5 : decide ((g : Int) + (m1 : Int) ≤ ((g + j : Nat) : Int)) = false := decide_eq_false (by omega)
      have c6 : ((g + j : Nat) : Int) - (g : Int) = (j : Int) := by omega
      clear hpx hpx2
      cases xr with
      | true =>
       rw [if_pos rfl] at hzz
       subst hzz
       go_wp2_with fail
       go_roundg (g + m1 + m2 - (g + j) - 1)
       case measure => omega
       case rel => exact ⟨g + j + 1, by omega, by go_num, rfl, HB7, HO7⟩
      | false =>
       rw [if_neg (by simp)] at hzz
       subst hzz
       go_wp2_with fail
       go_roundg (g + m1 + m2 - (g + j) - 1)
       case measure => omega
       case rel => exact ⟨g + j + 1, by omega, by go_num, rfl, HB7, HO7⟩
    ·go_wp2_with fail
     go_ret
     exact ⟨rfl, below_step HB5W.out HBr.out⟩
  ·have hr1 : (rc == 0) = false := beq_eq_false_iff_ne.2 hr
   have hr2 : (rc != 0) = true := by simp [bne, hr1]
   clear hr HOk0
   go_wp2_with (go_at_call 27; refine (HC.out W2 HI2.out).mono ?_; rintro e' W3 ⟨rfl, hb3⟩)
   go_ret
   exact ⟨rfl, below_step HB2.out hb3⟩
end Go.Proofs.Ytddfpmdbndakgaa
