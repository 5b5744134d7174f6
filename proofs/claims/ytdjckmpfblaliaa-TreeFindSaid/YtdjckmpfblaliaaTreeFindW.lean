/- The walk of TreeFind. -/
import Derived.Test.YtdjckmpfblaliaaTreeA
import Derived.Test.YtdjckmpfblaliaaTreeWW
import Derived.Test.YtdjckmpfblaliaaTreeFF
import Derived.Test.YtdjckmpfblaliaaTreeRE3
namespace Go.Proofs.Ytdjckmpfblaliaa
open Go.ChangeShapes Go.WideShapes Go.ChangeAt Go.RowKit Go.Deep
set_option linter.unusedVariables false

set_option maxHeartbeats 8000000 in
set_option maxRecDepth 100000 in
theorem treeFind_walk {w : World} {Q : Nat → Prop} {p : Pg} {c0 c1 : Value} (h : ProgI w Q p [c0, c1]) (id : Int) (wid : (Lit.int .i64 id).wf = true) (W : World) (hI : In Q w W) :
    Calls Try.prog 7 #[.agg #[c0, c1], .int .i64 id] W fun e w' => e = .returned (.bool true) ∧ Below W.heap.size W w' := by
  have HP := Lib.hid h
  have HI := Lib.hid hI
  have hid : i64 id := i64_of wid
  obtain ⟨Ag, cg, Ap, cp, rfl, rfl, _, _, hpl, hpc, _, hpr⟩ := prog_open h
  have HPr := Lib.hid hpr
  have HF := Lib.hid (fun V h1 => Fits_any HP.out V h1)
  have HM := Lib.hid (fun V h1 => May_any HP.out V h1)
  clear h hI wid hpr
  unfold i64 at hid
  have HB0 : Hid (Below W.heap.size W (W.alloc (.cells #[.slice Ag p.globals.length cg, .slice Ap p.procs.length cp] 32))) := Lib.hid (below_box _)
  have HBp0 : Hid (Blk (W.alloc (.cells #[.slice Ag p.globals.length cg, .slice Ap p.procs.length cp] 32)) W.heap.size 32 #[.slice Ag p.globals.length cg, .slice Ap p.procs.length cp]) := Lib.hid (Blk.new _ _ _)
  go_enter Try.func7, Try.ntmps7
  go_wp2_with fail
  generalize World.alloc _ _ = W0 at HB0 HBp0 ⊢
  have HI0 := Lib.hid (HI.out.on HB0.out)
  generalize hbe : W.heap.size = b at HBp0 ⊢
  clear hbe
  refine (treed_any W0).mono ?_
  rintro e' W1 ⟨rfl, hb1⟩
  have HB1 : Hid (Below W.heap.size W W1) := Lib.hid (below_step HB0.out hb1)
  have HI1 := Lib.hid (HI0.out.on hb1)
  have HBp1 := Lib.hid (HBp0.out.on_ hb1)
  clear hb1 HB0 HBp0 HI0
  have q0 : W1.cell? ⟨b, 0, none⟩ = some (.slice Ag p.globals.length cg) := by rw [HBp1.out.cell]; rfl
  have q1 : W1.cell? ⟨b, 1, none⟩ = some (.slice Ap p.procs.length cp) := by rw [HBp1.out.cell]; rfl
  have hbl := HBp1.out.lt
  cases hf : fitsP p with
  | false =>
    rw [hf] at HF
    clear hf
    go_wp2_with (go_at_call 20; refine (HF.out _ HI1.out).mono ?_; rintro e' W2 ⟨rfl, hb2⟩)
    go_ret
    exact ⟨rfl, below_step HB1.out hb2⟩
  | true =>
    have HSm := Lib.hid (fits_sm hf)
    rw [hf] at HF
    clear hf
    go_upto_region 5 with (go_at_call 20; refine (HF.out _ HI1.out).mono ?_; rintro e' W2 ⟨rfl, hb2⟩)
    have HB2 : Hid (Below W.heap.size W W2) := Lib.hid (below_step HB1.out hb2)
    have HI2 := Lib.hid (HI1.out.on hb2)
    have HBp2 := Lib.hid (HBp1.out.on_ hb2)
    clear hb2 HB1 HI1 HBp1 q0 q1 hbl HF
    have q0 : W2.cell? ⟨b, 0, none⟩ = some (.slice Ag p.globals.length cg) := by rw [HBp2.out.cell]; rfl
    have q1 : W2.cell? ⟨b, 1, none⟩ = some (.slice Ap p.procs.length cp) := by rw [HBp2.out.cell]; rfl
    have hbl := HBp2.out.lt
    cases hm : mayP p with
    | false =>
      rw [hm] at HM
      clear hm
      go_wp2_with (go_at_call 21; refine (HM.out _ HI2.out).mono ?_; rintro e' W3 ⟨rfl, hb3⟩)
      go_ret
      exact ⟨rfl, below_step HB2.out hb3⟩
    | true =>
      have HFl := Lib.hid (may_flat hm)
      rw [hm] at HM
      clear hm
      go_upto_region 7 with (go_at_call 21; refine (HM.out _ HI2.out).mono ?_; rintro e' W3 ⟨rfl, hb3⟩)
      have HB3 : Hid (Below W.heap.size W W3) := Lib.hid (below_step HB2.out hb3)
      have HI3 := Lib.hid (HI2.out.on hb3)
      have HBp3 := Lib.hid (HBp2.out.on_ hb3)
      clear hb3 HB2 HI2 HBp2 q0 q1 hbl HM
      have q0 : W3.cell? ⟨b, 0, none⟩ = some (.slice Ag p.globals.length cg) := by rw [HBp3.out.cell]; rfl
      have q1 : W3.cell? ⟨b, 1, none⟩ = some (.slice Ap p.procs.length cp) := by rw [HBp3.out.cell]; rfl
      have hbl := HBp3.out.lt
      have HFd := Lib.hid (Find_any HP.out id W3 HI3.out HSm.out)
      obtain ⟨fn, fs, fo, hfd⟩ : ∃ fn fs fo, findP p id = (fn, fs, fo) := ⟨_, _, _, rfl⟩
      have HFP := Lib.hid hfd
      rw [hfd] at HFd
      clear hfd
      go_upto_region 8 with (go_at_call 30; refine HFd.out.mono ?_; rintro e' W4 ⟨d0, d1, d2, d3, d4, d5, d6, d7, d8, d9, d10, d11, d12, rfl, hb4, hs4⟩; simp only at hs4; obtain ⟨sid, skind, slabels, snm, sproc, sx, shas, sargs, sth, sel, L, lc, x0, x1, x2, X, xn, xc, R, rc, T, tc, U, uc, hmk, hcs, _⟩ := stmt_open hs4; simp only [List.cons.injEq, and_true] at hcs; obtain ⟨rfl, rfl, rfl, rfl, rfl, rfl, rfl, rfl, rfl, rfl, rfl, rfl, rfl⟩ := hcs)
      have HS4 := Lib.hid hs4
      have HMk := Lib.hid hmk
      have HB4 : Hid (Below W.heap.size W W4) := Lib.hid (below_step HB3.out hb4)
      have HI4 := Lib.hid (HI3.out.on hb4)
      have HBp4 := Lib.hid (HBp3.out.on_ hb4)
      have HBs5 : Hid (Blk (W4.alloc (.cells #[.int .i64 sid, .int .i64 skind, .slice L slabels.length lc, .string snm, .string sproc, .int .i64 x0, .int .i64 x1, .string x2, .slice X xn xc, .bool shas, .slice R sargs.length rc, .slice T sth.length tc, .slice U sel.length uc] 47)) W4.heap.size 47 #[.int .i64 sid, .int .i64 skind, .slice L slabels.length lc, .string snm, .string sproc, .int .i64 x0, .int .i64 x1, .string x2, .slice X xn xc, .bool shas, .slice R sargs.length rc, .slice T sth.length tc, .slice U sel.length uc]) := Lib.hid (Blk.new _ _ _)
      have HB45 : Hid (Below W4.heap.size W4 (W4.alloc (.cells #[.int .i64 sid, .int .i64 skind, .slice L slabels.length lc, .string snm, .string sproc, .int .i64 x0, .int .i64 x1, .string x2, .slice X xn xc, .bool shas, .slice R sargs.length rc, .slice T sth.length tc, .slice U sel.length uc] 47))) := Lib.hid (below_box _)
      generalize World.alloc _ _ = W5 at HBs5 HB45 ⊢
      generalize W4.heap.size = bS at HBs5 ⊢
      have HB5 : Hid (Below W.heap.size W W5) := Lib.hid (below_step HB4.out HB45.out)
      have HI5 := Lib.hid (HI4.out.on HB45.out)
      have HBp5 := Lib.hid (HBp4.out.on_ HB45.out)
      have HS5 : Hid (StmtI W5 (nw W3 W4) fs [.int .i64 sid, .int .i64 skind, .slice L slabels.length lc, .string snm, .string sproc, .int .i64 x0, .int .i64 x1, .string x2, .slice X xn xc, .bool shas, .slice R sargs.length rc, .slice T sth.length tc, .slice U sel.length uc]) := Lib.hid (HS4.out.keep (fun _ h => h) (fun p hp => HB45.out.cell hp.2))
      have HSI : Hid (In (nw W3 W4) W5 W5) := Lib.hid ⟨fun b h => Nat.lt_of_lt_of_le h.2 HB45.out.size, fun _ _ => rfl⟩
      clear hb4 hs4 hmk HS4 HB3 HB4 HI3 HI4 HBp3 HBp4 q0 q1 hbl HFd HSm
      have q1 : W5.cell? ⟨b, 1, none⟩ = some (.slice Ap p.procs.length cp) := by rw [HBp5.out.cell]; rfl
      have hbl := HBp5.out.lt
      go_wp2_with fail
      clear q1 hbl
      have HFP0 : Hid (findL p.procs id = (fn, fs, fo)) := Lib.hid HFP.out
      go_loopw [30] (fun i wr => ∃ k : Nat, k ≤ p.procs.length ∧ i = .int .i64 k ∧ Hid (findL (p.procs.drop k) id = (fn, fs, fo)) ∧ Hid (Below W5.heap.size W5 wr)) (fun i _ => p.procs.length - (intOf i).toNat)
      case atStart => exact ⟨0, Nat.zero_le _, rfl, Lib.hid (by rw [List.drop_zero]; exact HFP0.out), Lib.hid (Below.refl _ _)⟩
      case round =>
        obtain ⟨k, hk, rfl, HW, HR⟩ := hrel
        by_cases hlt : k < p.procs.length
        · generalize wr = wo at *
          have hIr : In Q w wo := HI5.out.on HR.out
          obtain ⟨a, Bp, kp, Bv, kv, Bb, kb, Be, ke, rfl, _, hrow, hnm, hpp, hvv, hbody, hee⟩ := proc_at HPr.out hIr hlt
          have HD := Lib.hid (findL_drop hlt id)
          rw [HW.out] at HD
          have hfl := HFl.out.1 p.procs[k] (List.getElem_mem hlt)
          generalize p.procs[k] = x at hrow hnm hpp hvv hbody hee HD hfl
          obtain ⟨pn, pp, pv, pb, pe⟩ := x
          simp only at hrow hnm hpp hvv hbody hee HD hfl
          obtain ⟨p0, p1, p2, p3, p4, _⟩ := hrow
          have HPI : Hid (ProcI w Q ⟨pn, pp, pv, pb, pe⟩ [.string pn, .slice Bp pp.length kp, .slice Bv pv.length kv, .slice Bb pb.length kb, .slice Be pe.length ke]) := Lib.hid ⟨_, _, _, _, rfl, hnm, hpp, hvv, hbody, hee⟩
          have HIr := Lib.hid hIr
          have HFm := Lib.hid hfl.1
          clear hnm hpp hvv hbody hee hIr hfl
          have HC := Lib.hid (fun V h1 h2 => Flat_any (W := V) HPI.out h1 h2)
          have hfll := flatOf_len ⟨pn, pp, pv, pb, pe⟩
          obtain ⟨its, hits⟩ : ∃ its, its = flatOf ⟨pn, pp, pv, pb, pe⟩ := ⟨_, rfl⟩
          rw [← hits] at HC HFm hfll
          clear hits
          go_upto_region 11 with fail
          have HBq : Hid (Blk (wo.alloc (.cells #[.string pn, .slice Bp pp.length kp, .slice Bv pv.length kv, .slice Bb pb.length kb, .slice Be pe.length ke] 52)) wo.heap.size 52 #[.string pn, .slice Bp pp.length kp, .slice Bv pv.length kv, .slice Bb pb.length kb, .slice Be pe.length ke]) := Lib.hid (Blk.new _ _ _)
          have HBo : Hid (Below wo.heap.size wo (wo.alloc (.cells #[.string pn, .slice Bp pp.length kp, .slice Bv pv.length kv, .slice Bb pb.length kb, .slice Be pe.length ke] 52))) := Lib.hid (below_box _)
          generalize World.alloc _ _ = W6 at HBq HBo ⊢
          generalize wo.heap.size = bQ at HBq ⊢
          have HI6 := Lib.hid (HIr.out.on HBo.out)
          clear p0 p1 p2 p3 p4
          have z0 : W6.cell? ⟨bQ, 0, none⟩ = some (.string pn) := by rw [HBq.out.cell]; rfl
          have z1 : W6.cell? ⟨bQ, 1, none⟩ = some (.slice Bp pp.length kp) := by rw [HBq.out.cell]; rfl
          have z2 : W6.cell? ⟨bQ, 2, none⟩ = some (.slice Bv pv.length kv) := by rw [HBq.out.cell]; rfl
          have z3 : W6.cell? ⟨bQ, 3, none⟩ = some (.slice Bb pb.length kb) := by rw [HBq.out.cell]; rfl
          have z4 : W6.cell? ⟨bQ, 4, none⟩ = some (.slice Be pe.length ke) := by rw [HBq.out.cell]; rfl
          have hbq := HBq.out.lt
          go_wp2_with (go_at_call 31; refine (HC.out W6 HI6.out HI6.out.1).mono ?_; rintro e' W7 ⟨v7, rows7, rfl, ho7, ha7, hb7⟩; obtain ⟨X7, cx7, rfl, hx7, hx7'⟩ := own_shape ho7)
          have HSl := Lib.hid (slice_of_own ho7 ha7 (fun x cs h => by obtain ⟨c, rfl, hc⟩ := h; obtain ⟨_, _, _, _, _, _, _, _, _, _, _, _, _, _, _, _, _, _, _, _, _, _, _, _, _, rfl, _⟩ := stmt_open hc; rfl))
          have HB67 := Lib.hid hb7
          have HI7 := Lib.hid (HI6.out.on hb7)
          have HBq7 := Lib.hid (HBq.out.on_ hb7)
          clear ho7 ha7 hb7 z0 z1 z2 z3 z4 hbq HC
          go_loopw [37] (fun i wr => ∃ k2 : Nat, k2 ≤ its.length ∧ i = .int .i64 k2 ∧ Hid (((its.drop k2).map It.s).find? (fun s => s.id == id) = (preSL pb).find? (fun s => s.id == id)) ∧ Hid (Below W7.heap.size W7 wr)) (fun i _ => its.length - (intOf i).toNat)
          case atStart => exact ⟨0, Nat.zero_le _, rfl, Lib.hid (by rw [List.drop_zero, HFm.out]), Lib.hid (Below.refl _ _)⟩
          case round =>
            obtain ⟨k2, hk2, rfl, HW2, HR2⟩ := hrel
            by_cases hlt2 : k2 < its.length
            · obtain ⟨ai, cs, rfl, hqi, hit, hci⟩ := slice_at HSl.out (W := wr) ⟨fun b h => Nat.lt_of_lt_of_le h.2 HR2.out.size, fun p hp => HR2.out.cell hp.2⟩ hlt2
              have HDr : Hid (((its.drop k2).map It.s).find? (fun s => s.id == id) = if (its[k2].s.id == id) = true then some its[k2].s else ((its.drop (k2 + 1)).map It.s).find? (fun s => s.id == id)) := Lib.hid (by rw [List.drop_eq_getElem_cons hlt2, List.map_cons, List.find?_cons]; split <;> simp_all)
              rw [HW2.out] at HDr
              obtain ⟨c, rfl, hst⟩ := hit
              obtain ⟨id', kind', labels', nm', proc', x', has', args', th', el', L', lc', x0', x1', x2', X', xn', xc', R', rc', T', tc', U', uc', hmk', rfl, _⟩ := stmt_open hst
              have hci' : ∀ j u, ([.int .i64 id', .int .i64 kind', .slice L' labels'.length lc', .string nm', .string proc', .int .i64 x0', .int .i64 x1', .string x2', .slice X' xn' xc', .bool has', .slice R' args'.length rc', .slice T' th'.length tc', .slice U' el'.length uc', .int .i64 its[k2].deep, .int .i64 its[k2].inn, .bool its[k2].els] : List Value)[j]? = some u → wr.cell? (ai.add (k2 * 16 + j)) = some u := hci
              have hrw := rowAt_elem hci'
              clear hci'
              obtain ⟨p0, p1, p2, p3, p4, p5, p6, p7, p8, p9, p10, p11, p12, p13, p14, p15, _⟩ := hrw
              have HSt := Lib.hid hst
              rw [hmk'] at HDr HSt
              generalize its[k2].deep = dp at p13
              generalize its[k2].inn = inn at p14
              generalize its[k2].els = els at p15
              have hidd : S.id (.mk id' kind' labels' nm' proc' x' has' args' th' el') = id' := rfl
              rw [hidd] at HDr
              clear hidd hst hmk' hci hqi
              cases hv : (id' == id) with
              | false =>
                rw [hv, if_neg (by simp)] at HDr
                go_wp2_with fail
                go_roundw
                case rel => exact ⟨k2 + 1, by omega, by go_num, Lib.hid HDr.out.symm, Lib.hid (below_stepA HR2.out _)⟩
                case measure => simp [intOf]; omega
              | true =>
                rw [hv, if_pos rfl] at HDr
                rw [HDr.out] at HD
                have HD3 : Hid ((fn, fs, fo) = (pn, (S.mk id' kind' labels' nm' proc' x' has' args' th' el'), true)) := Lib.hid HD.out
                obtain ⟨e1, e2, e3⟩ : fn = pn ∧ fs = (S.mk id' kind' labels' nm' proc' x' has' args' th' el') ∧ fo = true := by have := HD3.out; simp only [Prod.mk.injEq] at this; exact this
                have HE2 := Lib.hid e2
                clear e2 HD HDr HD3
                subst e1 e3
                have HSIr := Lib.hid ((((HSI.out.on HR.out).on HBo.out).on HB67.out).on HR2.out)
                have HIr2 := Lib.hid (HI7.out.on HR2.out)
                have HEq : Hid (∀ (V : World) (b1 b2 : Nat), Blk V b1 47 #[.int .i64 sid, .int .i64 skind, .slice L slabels.length lc, .string snm, .string sproc, .int .i64 x0, .int .i64 x1, .string x2, .slice X xn xc, .bool shas, .slice R sargs.length rc, .slice T sth.length tc, .slice U sel.length uc] → Blk V b2 47 #[.int .i64 id', .int .i64 kind', .slice L' labels'.length lc', .string nm', .string proc', .int .i64 x0', .int .i64 x1', .string x2', .slice X' xn' xc', .bool has', .slice R' args'.length rc', .slice T' th'.length tc', .slice U' el'.length uc'] → In (nw W3 W4) W5 V → In Q w V → Calls Try.prog 32 #[.slice (some ⟨b1, 0, none⟩) 1 1, .slice (some ⟨b2, 0, none⟩) 1 1] V (MayOk true V)) := Lib.hid (fun V b1 b2 k1 k2 i1 i2 => by
                  have s1 : StmtsI V (fun b => nw W3 W4 b ∨ b = b1) [fs] (.slice (some ⟨b1, 0, none⟩) 1 1) := rows_slice (R := StmtI V (fun b => nw W3 W4 b ∨ b = b1)) (l := [fs]) [[.int .i64 sid, .int .i64 skind, .slice L slabels.length lc, .string snm, .string sproc, .int .i64 x0, .int .i64 x1, .string x2, .slice X xn xc, .bool shas, .slice R sargs.length rc, .slice T sth.length tc, .slice U sel.length uc]] k1 rfl ⟨HS5.out.keep (fun b h => .inl h) i1.2, trivial⟩ (stmtCk _ _) (.inr rfl) (by simp) rfl
                  have s2 : StmtsI V (fun b => Q b ∨ b = b2) [(S.mk id' kind' labels' nm' proc' x' has' args' th' el')] (.slice (some ⟨b2, 0, none⟩) 1 1) := rows_slice (R := StmtI V (fun b => Q b ∨ b = b2)) (l := [(S.mk id' kind' labels' nm' proc' x' has' args' th' el')]) [[.int .i64 id', .int .i64 kind', .slice L' labels'.length lc', .string nm', .string proc', .int .i64 x0', .int .i64 x1', .string x2', .slice X' xn' xc', .bool has', .slice R' args'.length rc', .slice T' th'.length tc', .slice U' el'.length uc']] k2 rfl ⟨HSt.out.keep (fun b h => .inl h) i2.2, trivial⟩ (stmtCk _ _) (.inr rfl) (by simp) rfl
                  have := EqStmts_any ((preSL [fs]).length + 1) [fs] (by omega) s1 s2 V ⟨fun b h => by rcases h with h | rfl; exact i1.1 b h; exact k1.lt, fun _ _ => rfl⟩ ⟨fun b h => by rcases h with h | rfl; exact i2.1 b h; exact k2.lt, fun _ _ => rfl⟩
                  rw [show eqB [fs] [(S.mk id' kind' labels' nm' proc' x' has' args' th' el')] = true from eqB_iff.2 (by rw [HE2.out])] at this
                  exact this)
                have HBSr := Lib.hid ((((HBs5.out.on_ HR.out).on_ HBo.out).on_ HB67.out).on_ HR2.out)
                have HBQr := Lib.hid (HBq7.out.on_ HR2.out)
                go_upto_region 15 with fail
                have HBI : Hid (Blk (wr.alloc (.cells #[.int .i64 id', .int .i64 kind', .slice L' labels'.length lc', .string nm', .string proc', .int .i64 x0', .int .i64 x1', .string x2', .slice X' xn' xc', .bool has', .slice R' args'.length rc', .slice T' th'.length tc', .slice U' el'.length uc', .int .i64 dp, .int .i64 inn, .bool els] 55)) wr.heap.size 55 #[.int .i64 id', .int .i64 kind', .slice L' labels'.length lc', .string nm', .string proc', .int .i64 x0', .int .i64 x1', .string x2', .slice X' xn' xc', .bool has', .slice R' args'.length rc', .slice T' th'.length tc', .slice U' el'.length uc', .int .i64 dp, .int .i64 inn, .bool els]) := Lib.hid (Blk.new _ _ _)
                have HBr8 : Hid (Below wr.heap.size wr (wr.alloc (.cells #[.int .i64 id', .int .i64 kind', .slice L' labels'.length lc', .string nm', .string proc', .int .i64 x0', .int .i64 x1', .string x2', .slice X' xn' xc', .bool has', .slice R' args'.length rc', .slice T' th'.length tc', .slice U' el'.length uc', .int .i64 dp, .int .i64 inn, .bool els] 55))) := Lib.hid (below_box _)
                generalize World.alloc _ _ = W8 at HBI HBr8 ⊢
                generalize wr.heap.size = bI at HBI ⊢
                have HBS8 := Lib.hid (HBSr.out.on_ HBr8.out)
                have HBQ8 := Lib.hid (HBQr.out.on_ HBr8.out)
                have HSI8 := Lib.hid (HSIr.out.on HBr8.out)
                have HI8 := Lib.hid (HIr2.out.on HBr8.out)
                clear p0 p1 p2 p3 p4 p5 p6 p7 p8 p9 p10 p11 p12 p13 p14 p15
                have s0 : W8.cell? ⟨bS, 0, none⟩ = some (.int .i64 sid) := by rw [HBS8.out.cell]; rfl
                have s1 : W8.cell? ⟨bS, 1, none⟩ = some (.int .i64 skind) := by rw [HBS8.out.cell]; rfl
                have s2 : W8.cell? ⟨bS, 2, none⟩ = some (.slice L slabels.length lc) := by rw [HBS8.out.cell]; rfl
                have s3 : W8.cell? ⟨bS, 3, none⟩ = some (.string snm) := by rw [HBS8.out.cell]; rfl
                have s4 : W8.cell? ⟨bS, 4, none⟩ = some (.string sproc) := by rw [HBS8.out.cell]; rfl
                have s5 : W8.cell? ⟨bS, 5, none⟩ = some (.int .i64 x0) := by rw [HBS8.out.cell]; rfl
                have s6 : W8.cell? ⟨bS, 6, none⟩ = some (.int .i64 x1) := by rw [HBS8.out.cell]; rfl
                have s7 : W8.cell? ⟨bS, 7, none⟩ = some (.string x2) := by rw [HBS8.out.cell]; rfl
                have s8 : W8.cell? ⟨bS, 8, none⟩ = some (.slice X xn xc) := by rw [HBS8.out.cell]; rfl
                have s9 : W8.cell? ⟨bS, 9, none⟩ = some (.bool shas) := by rw [HBS8.out.cell]; rfl
                have s10 : W8.cell? ⟨bS, 10, none⟩ = some (.slice R sargs.length rc) := by rw [HBS8.out.cell]; rfl
                have s11 : W8.cell? ⟨bS, 11, none⟩ = some (.slice T sth.length tc) := by rw [HBS8.out.cell]; rfl
                have s12 : W8.cell? ⟨bS, 12, none⟩ = some (.slice U sel.length uc) := by rw [HBS8.out.cell]; rfl
                have t0 : W8.cell? ⟨bI, 0, none⟩ = some (.int .i64 id') := by rw [HBI.out.cell]; rfl
                have t1 : W8.cell? ⟨bI, 1, none⟩ = some (.int .i64 kind') := by rw [HBI.out.cell]; rfl
                have t2 : W8.cell? ⟨bI, 2, none⟩ = some (.slice L' labels'.length lc') := by rw [HBI.out.cell]; rfl
                have t3 : W8.cell? ⟨bI, 3, none⟩ = some (.string nm') := by rw [HBI.out.cell]; rfl
                have t4 : W8.cell? ⟨bI, 4, none⟩ = some (.string proc') := by rw [HBI.out.cell]; rfl
                have t5 : W8.cell? ⟨bI, 5, none⟩ = some (.int .i64 x0') := by rw [HBI.out.cell]; rfl
                have t6 : W8.cell? ⟨bI, 6, none⟩ = some (.int .i64 x1') := by rw [HBI.out.cell]; rfl
                have t7 : W8.cell? ⟨bI, 7, none⟩ = some (.string x2') := by rw [HBI.out.cell]; rfl
                have t8 : W8.cell? ⟨bI, 8, none⟩ = some (.slice X' xn' xc') := by rw [HBI.out.cell]; rfl
                have t9 : W8.cell? ⟨bI, 9, none⟩ = some (.bool has') := by rw [HBI.out.cell]; rfl
                have t10 : W8.cell? ⟨bI, 10, none⟩ = some (.slice R' args'.length rc') := by rw [HBI.out.cell]; rfl
                have t11 : W8.cell? ⟨bI, 11, none⟩ = some (.slice T' th'.length tc') := by rw [HBI.out.cell]; rfl
                have t12 : W8.cell? ⟨bI, 12, none⟩ = some (.slice U' el'.length uc') := by rw [HBI.out.cell]; rfl
                have z0 : W8.cell? ⟨bQ, 0, none⟩ = some (.string fn) := by rw [HBQ8.out.cell]; rfl
                have hb1_ := HBS8.out.lt
                have hb2_ := HBI.out.lt
                have hb3_ := HBQ8.out.lt
                go_wp2_with (go_at_call 32; refine (HEq.out _ W8.heap.size (W8.heap.size + 1) (blkTwo _ _ _ _ _).1 (blkTwo _ _ _ _ _).2 ((HSI8.out.alloc _).alloc _) ((HI8.out.alloc _).alloc _)).mono ?_; rintro e' W9 ⟨rfl, hb9⟩)
                go_ret
                exact ⟨rfl, below_step HB5.out (below_step HR.out (below_step HBo.out (below_step HB67.out (below_step HR2.out (below_step HBr8.out (below_step (below_two _ _) hb9))))))⟩
            · have HN : Hid ((preSL pb).find? (fun s => s.id == id) = none) := Lib.hid (by have := HW2.out; rw [List.drop_of_length_le (by omega), List.map_nil, List.find?_nil] at this; exact this.symm)
              rw [HN.out] at HD
              have HD2 : Hid (findL (p.procs.drop (k + 1)) id = (fn, fs, fo)) := Lib.hid HD.out.symm
              go_wp2_with fail
              go_roundw
              case rel => exact ⟨k + 1, by omega, by go_num, HD2, Lib.hid (below_step HR.out (below_step HBo.out (below_step HB67.out HR2.out)))⟩
              case measure => simp [intOf]; omega
        · have HD3 : Hid ((fn, fs, fo) = ((⟨#[]⟩ : ByteArray), S0, false)) := Lib.hid (by have := HW.out; rw [List.drop_of_length_le (by omega), findL] at this; exact this.symm)
          obtain ⟨e1, e2, e3⟩ : fn = (⟨#[]⟩ : ByteArray) ∧ fs = S0 ∧ fo = false := by have := HD3.out; simp only [Prod.mk.injEq] at this; exact this
          have HE2 := Lib.hid e2
          have HFP2 : Hid ((findP p id).2.2 = false) := Lib.hid (by rw [HFP.out, e3])
          clear e2 HD3 HW
          subst e1 e3
          have HSIr := Lib.hid (HSI.out.on HR.out)
          have HIr2 := Lib.hid (HI5.out.on HR.out)
          have HEq : Hid (∀ (V : World) (b1 b2 : Nat), Blk V b1 47 #[.int .i64 sid, .int .i64 skind, .slice L slabels.length lc, .string snm, .string sproc, .int .i64 x0, .int .i64 x1, .string x2, .slice X xn xc, .bool shas, .slice R sargs.length rc, .slice T sth.length tc, .slice U sel.length uc] → Blk V b2 47 #[.int .i64 0, .int .i64 0, .slice none 0 0, .string ⟨#[]⟩, .string ⟨#[]⟩, .int .i64 0, .int .i64 0, .string ⟨#[]⟩, .slice none 0 0, .bool false, .slice none 0 0, .slice none 0 0, .slice none 0 0] → In (nw W3 W4) W5 V → Calls Try.prog 32 #[.slice (some ⟨b1, 0, none⟩) 1 1, .slice (some ⟨b2, 0, none⟩) 1 1] V (MayOk true V)) := Lib.hid (fun V b1 b2 k1 k2 i1 => by
            have s1 : StmtsI V (fun b => nw W3 W4 b ∨ b = b1) [fs] (.slice (some ⟨b1, 0, none⟩) 1 1) := rows_slice (R := StmtI V (fun b => nw W3 W4 b ∨ b = b1)) (l := [fs]) [[.int .i64 sid, .int .i64 skind, .slice L slabels.length lc, .string snm, .string sproc, .int .i64 x0, .int .i64 x1, .string x2, .slice X xn xc, .bool shas, .slice R sargs.length rc, .slice T sth.length tc, .slice U sel.length uc]] k1 rfl ⟨HS5.out.keep (fun b h => .inl h) i1.2, trivial⟩ (stmtCk _ _) (.inr rfl) (by simp) rfl
            have s2 : StmtsI V (fun b => b = b2) [S0] (.slice (some ⟨b2, 0, none⟩) 1 1) := rows_slice (Q := fun b => b = b2) (R := StmtI V (fun b => b = b2)) (l := [S0]) [[.int .i64 0, .int .i64 0, .slice none 0 0, .string ⟨#[]⟩, .string ⟨#[]⟩, .int .i64 0, .int .i64 0, .string ⟨#[]⟩, .slice none 0 0, .bool false, .slice none 0 0, .slice none 0 0, .slice none 0 0]] k2 rfl ⟨StmtI.of_slice i64_zero i64_zero (by decide) (by decide) nil_slice (ExprI.of_slice nil_slice i64_zero i64_zero (by decide)) nil_slice nil_slice nil_slice, trivial⟩ (stmtCk _ _) rfl (by simp) rfl
            have := EqStmts_any ((preSL [fs]).length + 1) [fs] (by omega) s1 s2 V ⟨fun b h => by rcases h with h | rfl; exact i1.1 b h; exact k1.lt, fun _ _ => rfl⟩ ⟨fun b h => by rw [h]; exact k2.lt, fun _ _ => rfl⟩
            rw [show eqB [fs] [S0] = true from eqB_iff.2 (by rw [HE2.out])] at this
            exact this)
          have HBSr := Lib.hid (HBs5.out.on_ HR.out)
          have HBpr := Lib.hid (HBp5.out.on_ HR.out)
          have s0 : wr.cell? ⟨bS, 0, none⟩ = some (.int .i64 sid) := by rw [HBSr.out.cell]; rfl
          have s1 : wr.cell? ⟨bS, 1, none⟩ = some (.int .i64 skind) := by rw [HBSr.out.cell]; rfl
          have s2 : wr.cell? ⟨bS, 2, none⟩ = some (.slice L slabels.length lc) := by rw [HBSr.out.cell]; rfl
          have s3 : wr.cell? ⟨bS, 3, none⟩ = some (.string snm) := by rw [HBSr.out.cell]; rfl
          have s4 : wr.cell? ⟨bS, 4, none⟩ = some (.string sproc) := by rw [HBSr.out.cell]; rfl
          have s5 : wr.cell? ⟨bS, 5, none⟩ = some (.int .i64 x0) := by rw [HBSr.out.cell]; rfl
          have s6 : wr.cell? ⟨bS, 6, none⟩ = some (.int .i64 x1) := by rw [HBSr.out.cell]; rfl
          have s7 : wr.cell? ⟨bS, 7, none⟩ = some (.string x2) := by rw [HBSr.out.cell]; rfl
          have s8 : wr.cell? ⟨bS, 8, none⟩ = some (.slice X xn xc) := by rw [HBSr.out.cell]; rfl
          have s9 : wr.cell? ⟨bS, 9, none⟩ = some (.bool shas) := by rw [HBSr.out.cell]; rfl
          have s10 : wr.cell? ⟨bS, 10, none⟩ = some (.slice R sargs.length rc) := by rw [HBSr.out.cell]; rfl
          have s11 : wr.cell? ⟨bS, 11, none⟩ = some (.slice T sth.length tc) := by rw [HBSr.out.cell]; rfl
          have s12 : wr.cell? ⟨bS, 12, none⟩ = some (.slice U sel.length uc) := by rw [HBSr.out.cell]; rfl
          have hb1_ := HBSr.out.lt
          have hb2_ := HBpr.out.lt
          have v0 : wr.cell? ⟨b, 0, none⟩ = some (.slice Ag p.globals.length cg) := by rw [HBpr.out.cell]; rfl
          have v1 : wr.cell? ⟨b, 1, none⟩ = some (.slice Ap p.procs.length cp) := by rw [HBpr.out.cell]; rfl
          have hcnt := HFl.out.2.1
          have HCt := Lib.hid (fun V h1 => Count_any HP.out V h1 (by omega))
          have HFc := Lib.hid (HFl.out.2.2)
          obtain ⟨cn, hcn⟩ : ∃ cn, cn = cntP p := ⟨_, rfl⟩
          rw [← hcn] at HCt HFc hcnt
          clear hcn
          by_cases hi1 : id < 1
          · go_wp2_with (go_at_call 32; refine (HEq.out _ wr.heap.size (wr.heap.size + 1) (blkTwo _ _ _ _ _).1 (blkTwo _ _ _ _ _).2 ((HSIr.out.alloc _).alloc _)).mono ?_; rintro e' W9 ⟨rfl, hb9⟩)
            go_ret
            exact ⟨rfl, below_step HB5.out (below_step HR.out (below_step (below_two _ _) hb9))⟩
          · have hi2 : ¬ id ≤ (cn : Int) := fun h => by have := HFc.out id (by omega) h; rw [HFP2.out] at this; cases this
            go_wp2_with (first
              | (go_at_call 32; refine (HEq.out _ wr.heap.size (wr.heap.size + 1) (blkTwo _ _ _ _ _).1 (blkTwo _ _ _ _ _).2 ((HSIr.out.alloc _).alloc _)).mono ?_; rintro e' W9 ⟨rfl, hb9⟩; have hb9' := below_step (below_two (W := wr) _ _) hb9; have HI9 := Lib.hid (HIr2.out.on hb9'); have y0 : W9.cell? ⟨b, 0, none⟩ = some (.slice Ag p.globals.length cg) := (hb9'.cell (p := ⟨b, 0, none⟩) hb2_).trans v0; have y1 : W9.cell? ⟨b, 1, none⟩ = some (.slice Ap p.procs.length cp) := (hb9'.cell (p := ⟨b, 1, none⟩) hb2_).trans v1)
              | (go_at_call 28; refine (HCt.out W9 HI9.out).mono ?_; rintro e' W10 ⟨rfl, hb10⟩))
            go_ret
            exact ⟨rfl, below_step HB5.out (below_step HR.out (below_step hb9' hb10))⟩
end Go.Proofs.Ytdjckmpfblaliaa
