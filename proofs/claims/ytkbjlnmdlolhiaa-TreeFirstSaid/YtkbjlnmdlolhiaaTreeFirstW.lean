/- The walk of TreeFirst. -/
import Derived.Test.YtkbjlnmdlolhiaaTreeA
import Derived.Test.YtkbjlnmdlolhiaaTreeWW
import Derived.Test.YtkbjlnmdlolhiaaTreeAl
import Derived.Test.YtkbjlnmdlolhiaaTreeFq
import Derived.Test.YtkbjlnmdlolhiaaTreeN13
namespace Go.Proofs.Ytkbjlnmdlolhiaa
open Go.ChangeShapes Go.WideShapes Go.ChangeAt Go.RowKit Go.Deep
set_option linter.unusedVariables false
set_option linter.unusedSimpArgs false

theorem AlI.sl {w W wr : World} {Q : Nat → Prop} {out : List It} {X : Option Addr} {n c : Nat} (h : AlI w Q W wr out X n c) : n = out.length ∧ n ≤ c ∧ c ≤ 9223372036854775807 ∧ SliceI wr (fun b => W.heap.size ≤ b ∧ b < wr.heap.size) 16 (ItemI w Q) out (.slice X n c) := by
  obtain ⟨rows, ho, ha⟩ := h.row
  obtain ⟨X', c', he, h1, h2⟩ := own_shape ho
  injection he with e1 e2 e3
  subst e1 e2 e3
  exact ⟨rfl, h1, h2, slice_of_own ho ha (fun x cs h => (item_one h).1)⟩
theorem Blk.dr {w : World} {g : Nat} {t : TypeId} {cs : Array Value} (h : Blk w g t cs) : Blk w.drew g t cs := h
theorem Mod_fix (n : Int) (k : Nat) (h1 : 1 ≤ k) (h2 : k ≤ 1000000) : ∃ m, m < k ∧ ∀ w : World, Calls Try.prog 20 #[.int .i64 n, .int .i64 k] w fun e w' => e = .returned (.int .i64 m) ∧ w = w' := by
  have hb : n.tmod k < k := Int.tmod_lt_of_pos n (by omega)
  have hb2 : -(k : Int) < n.tmod k := by
    have := Int.tmod_lt_of_pos (-n) (show (0 : Int) < k by omega)
    rw [Int.neg_tmod] at this
    omega
  by_cases hn : n.tmod k < 0
  · refine ⟨(n.tmod k + k).toNat, by omega, fun w => ?_⟩
    go_enter Try.func20, Try.ntmps20
    go_wp2
    go_ret
    exact ⟨ret_int (by omega), rfl⟩
  · refine ⟨(n.tmod k).toNat, by omega, fun w => ?_⟩
    go_enter Try.func20, Try.ntmps20
    go_wp2
    go_ret
    exact ⟨ret_int (by omega), rfl⟩
set_option maxHeartbeats 8000000 in
set_option maxRecDepth 100000 in
theorem treeFirst_walk {w : World} {Q : Nat → Prop} {p : Pg} {c0 c1 : Value} (h : ProgI w Q p [c0, c1]) (ai : Int) (wai : (Lit.int .i64 ai).wf = true) (W : World) (hI : In Q w W) :
    Calls Try.prog 5 #[.agg #[c0, c1], .int .i64 ai] W fun e w' => e = .returned (.bool true) ∧ Below W.heap.size W w' := by
  have HP := Lib.hid h
  have HF := Lib.hid (fun V h1 => Fits_any h V h1)
  have HM := Lib.hid (fun V h1 => May_any h V h1)
  have HI := Lib.hid hI
  obtain ⟨md, hmd, hmod⟩ := Mod_fix ai 300 (by omega) (by omega)
  have HMod := Lib.hid hmod
  have hai : i64 ai := i64_of wai
  obtain ⟨Ag, cg, Ap, cp, rfl, rfl, _⟩ := prog_open h
  clear h hI hmod wai
  go_enter Try.func5, Try.ntmps5
  go_upto_region 1 with fail
  have HB0 : Hid (Below W.heap.size W (W.alloc (.cells #[.slice Ag p.globals.length cg, .slice Ap p.procs.length cp] 25))) := Lib.hid (below_box _)
  have HBp0 : Hid (Blk (W.alloc (.cells #[.slice Ag p.globals.length cg, .slice Ap p.procs.length cp] 25)) W.heap.size 25 #[.slice Ag p.globals.length cg, .slice Ap p.procs.length cp]) := Lib.hid (Blk.new _ _ _)
  generalize World.alloc _ _ = W0 at HB0 HBp0 ⊢
  have HI0 := Lib.hid (HI.out.on HB0.out)
  generalize hbe : W.heap.size = b at HBp0 ⊢
  clear hbe
  go_upto_region 3 with (go_at_call 15; refine (treed_any W0).mono ?_; rintro e' W1 ⟨rfl, hb1⟩)
  have HB1 : Hid (Below W.heap.size W W1) := Lib.hid (below_step HB0.out hb1)
  have HI1 := Lib.hid (HI0.out.on hb1)
  have HBp1 := Lib.hid (HBp0.out.on_ hb1)
  clear hb1 HB0 HBp0 HI0
  have q0 : W1.cell? ⟨b, 0, none⟩ = some (.slice Ag p.globals.length cg) := by rw [HBp1.out.cell]; rfl
  have q1 : W1.cell? ⟨b, 1, none⟩ = some (.slice Ap p.procs.length cp) := by rw [HBp1.out.cell]; rfl
  have hbl := HBp1.out.lt
  cases hf : fitsP p with
  | false =>
    rw [hf] at HF
    clear hf
    go_wp2_with (go_at_call 16; refine (HF.out _ HI1.out).mono ?_; rintro e' W2 ⟨rfl, hb2⟩)
    go_ret
    exact ⟨rfl, below_step HB1.out hb2⟩
  | true =>
    have HSm := Lib.hid (fits_sm hf)
    have HSg := Lib.hid (fits_smG hf)
    rw [hf] at HF
    clear hf
    go_upto_region 5 with (go_at_call 16; refine (HF.out _ HI1.out).mono ?_; rintro e' W2 ⟨rfl, hb2⟩)
    have HB2 : Hid (Below W.heap.size W W2) := Lib.hid (below_step HB1.out hb2)
    have HI2 := Lib.hid (HI1.out.on hb2)
    have HBp2 := Lib.hid (HBp1.out.on_ hb2)
    clear hb2 HB1 HI1 HBp1 q0 q1 hbl HF
    have q0 : W2.cell? ⟨b, 0, none⟩ = some (.slice Ag p.globals.length cg) := by rw [HBp2.out.cell]; rfl
    have q1 : W2.cell? ⟨b, 1, none⟩ = some (.slice Ap p.procs.length cp) := by rw [HBp2.out.cell]; rfl
    have hbl := HBp2.out.lt
    cases hm : mayP p with
    | false =>
      rw [hm] at HM
      clear hm
      go_wp2_with (go_at_call 17; refine (HM.out _ HI2.out).mono ?_; rintro e' W3 ⟨rfl, hb3⟩)
      go_ret
      exact ⟨rfl, below_step HB2.out hb3⟩
    | true =>
      have HFl := Lib.hid (may_flat hm)
      have HIds := Lib.hid (may_ids hm)
      rw [hm] at HM
      clear hm
      have hcnt := HFl.out.2.1
      have HCt := Lib.hid (fun V h1 => Count_any HP.out V h1 (by omega))
      by_cases hc2 : cntP p < 2
      · go_wp2_with (first
          | (go_at_call 17; refine (HM.out _ HI2.out).mono ?_; rintro e' W3 ⟨rfl, hb3⟩; have hcc := (bcell hb3).1)
          | (go_at_call 23; refine (HCt.out _ (HI2.out.on hb3)).mono ?_; rintro e' W4 ⟨rfl, hb4⟩))
        go_ret
        exact ⟨rfl, below_step HB2.out (below_step hb3 hb4)⟩
      · obtain ⟨fn, fs, fd, fi, fe, fxs, hff1, hff2, hff3, hff4⟩ := first_facts (p := p) (by omega) 5
        go_upto_region 7 with (first
          | (go_at_call 17; refine (HM.out _ HI2.out).mono ?_; rintro e' W3 ⟨rfl, hb3⟩; have hcc := (bcell hb3).1)
          | (go_at_call 23; refine (HCt.out _ (HI2.out.on hb3)).mono ?_; rintro e' W4 ⟨rfl, hb4⟩))
        have HB4 : Hid (Below W.heap.size W W4) := Lib.hid (below_step HB2.out (below_step hb3 hb4))
        have HI4 := Lib.hid ((HI2.out.on hb3).on hb4)
        have HBp4 := Lib.hid ((HBp2.out.on_ hb3).on_ hb4)
        have HMa := Lib.hid (Marred_any (W := W4) (by_ := 0) (more := 5) HP.out HI4.out HSg.out HIds.out (by omega) (by omega))
        have HSq := Lib.hid (smQ_mar 0 5 HSm.out)
        have HFF1 := Lib.hid hff1
        have HFF2 := Lib.hid hff2
        have HFF3 := Lib.hid hff3
        have HFF4 := Lib.hid hff4
        clear hcc hb3 hb4 HB2 HI2 HBp2 q0 q1 hbl HM HCt HSm HSg HIds HFl hff1 hff2 hff3 hff4 hcnt hc2
        have q0 : W4.cell? ⟨b, 0, none⟩ = some (.slice Ag p.globals.length cg) := by rw [HBp4.out.cell]; rfl
        have q1 : W4.cell? ⟨b, 1, none⟩ = some (.slice Ap p.procs.length cp) := by rw [HBp4.out.cell]; rfl
        have hbl := HBp4.out.lt
        generalize marP 0 5 p = q at HMa HSq HFF1 HFF2 HFF3 HFF4
        go_upto_region 8 with (go_at_call 19; refine HMa.out.mono ?_; rintro e' W5 ⟨d0, d1, rfl, hb5, hq5⟩; obtain ⟨Bg, dg, Bp, dp, rfl, rfl, hq1, hq2, hq3, hq4, hq6, hq7⟩ := prog_open hq5)
        have HQ5 := Lib.hid hq5
        have HPr5 := Lib.hid hq7
        have HI5 : Hid (In (nw W4 W5) W5 W5) := Lib.hid ⟨fun b h => h.2, fun _ _ => rfl⟩
        have HB56 : Hid (Below W5.heap.size W5 (W5.alloc (.cells #[.slice Bg q.globals.length dg, .slice Bp q.procs.length dp] 25))) := Lib.hid (below_box _)
        have HBq6 : Hid (Blk (W5.alloc (.cells #[.slice Bg q.globals.length dg, .slice Bp q.procs.length dp] 25)) W5.heap.size 25 #[.slice Bg q.globals.length dg, .slice Bp q.procs.length dp]) := Lib.hid (Blk.new _ _ _)
        have HB6 := Lib.hid (below_step HB4.out (below_step hb5 HB56.out))
        have HI6 := Lib.hid (HI5.out.on HB56.out)
        clear hb5 hq5 hq6 hq7 HMa q0 q1 hbl HB4 HI4 HBp4
        generalize World.alloc _ _ = W6 at HB56 HBq6 HB6 HI6 ⊢
        generalize W5.heap.size = bq at HBq6 ⊢
        have q0 : W6.cell? ⟨bq, 0, none⟩ = some (.slice Bg q.globals.length dg) := by rw [HBq6.out.cell]; rfl
        have q1 : W6.cell? ⟨bq, 1, none⟩ = some (.slice Bp q.procs.length dp) := by rw [HBq6.out.cell]; rfl
        have hbl := HBq6.out.lt
        have HFd := Lib.hid (Find_any HQ5.out 5 W6 HI6.out HSq.out)
        rw [HFF1.out] at HFd
        go_upto_region 9 with (go_at_call 25; refine HFd.out.mono ?_; rintro e' W7 ⟨d0, d1, d2, d3, d4, d5, d6, d7, d8, d9, d10, d11, d12, rfl, hb7, hs7⟩; simp only at hs7; obtain ⟨sid, skind, slabels, snm, sproc, sx, shas, sargs, sth, sel, L, lc, x0, x1, x2, X, xn, xc, R, rc, T, tc, U, uc, hmk, hcs, _⟩ := stmt_open hs7; simp only [List.cons.injEq, and_true] at hcs; obtain ⟨rfl, rfl, rfl, rfl, rfl, rfl, rfl, rfl, rfl, rfl, rfl, rfl, rfl⟩ := hcs)
        have HBs8 : Hid (Blk (W7.alloc (.cells #[.int .i64 sid, .int .i64 skind, .slice L slabels.length lc, .string snm, .string sproc, .int .i64 x0, .int .i64 x1, .string x2, .slice X xn xc, .bool shas, .slice R sargs.length rc, .slice T sth.length tc, .slice U sel.length uc] 42)) W7.heap.size 42 #[.int .i64 sid, .int .i64 skind, .slice L slabels.length lc, .string snm, .string sproc, .int .i64 x0, .int .i64 x1, .string x2, .slice X xn xc, .bool shas, .slice R sargs.length rc, .slice T sth.length tc, .slice U sel.length uc]) := Lib.hid (Blk.new _ _ _)
        have HB78 : Hid (Below W7.heap.size W7 (W7.alloc (.cells #[.int .i64 sid, .int .i64 skind, .slice L slabels.length lc, .string snm, .string sproc, .int .i64 x0, .int .i64 x1, .string x2, .slice X xn xc, .bool shas, .slice R sargs.length rc, .slice T sth.length tc, .slice U sel.length uc] 42))) := Lib.hid (below_box _)
        have HS7 := Lib.hid hs7
        have HB68 : Hid (Below W6.heap.size W6 (W7.alloc (.cells #[.int .i64 sid, .int .i64 skind, .slice L slabels.length lc, .string snm, .string sproc, .int .i64 x0, .int .i64 x1, .string x2, .slice X xn xc, .bool shas, .slice R sargs.length rc, .slice T sth.length tc, .slice U sel.length uc] 42))) := Lib.hid (below_step hb7 HB78.out)
        have HS8 : Hid (StmtI (W7.alloc (.cells #[.int .i64 sid, .int .i64 skind, .slice L slabels.length lc, .string snm, .string sproc, .int .i64 x0, .int .i64 x1, .string x2, .slice X xn xc, .bool shas, .slice R sargs.length rc, .slice T sth.length tc, .slice U sel.length uc] 42)) (nw W6 W7) fs [.int .i64 sid, .int .i64 skind, .slice L slabels.length lc, .string snm, .string sproc, .int .i64 x0, .int .i64 x1, .string x2, .slice X xn xc, .bool shas, .slice R sargs.length rc, .slice T sth.length tc, .slice U sel.length uc]) := Lib.hid (hs7.keep (fun _ h => h) (fun p hp => HB78.out.cell hp.2))
        have HSI8 : Hid (In (nw W6 W7) (W7.alloc (.cells #[.int .i64 sid, .int .i64 skind, .slice L slabels.length lc, .string snm, .string sproc, .int .i64 x0, .int .i64 x1, .string x2, .slice X xn xc, .bool shas, .slice R sargs.length rc, .slice T sth.length tc, .slice U sel.length uc] 42)) (W7.alloc (.cells #[.int .i64 sid, .int .i64 skind, .slice L slabels.length lc, .string snm, .string sproc, .int .i64 x0, .int .i64 x1, .string x2, .slice X xn xc, .bool shas, .slice R sargs.length rc, .slice T sth.length tc, .slice U sel.length uc] 42))) := Lib.hid ⟨fun b h => Nat.lt_of_lt_of_le h.2 HB78.out.size, fun _ _ => rfl⟩
        clear hb7 hs7 HS7 HB78 q0 q1 hbl HFd hmk
        generalize World.alloc _ _ = W8 at HBs8 HB68 HS8 HSI8 ⊢
        generalize W7.heap.size = bs at HBs8 ⊢
        have HI8 := Lib.hid (HI6.out.on HB68.out)
        have HBq8 := Lib.hid (HBq6.out.on_ HB68.out)
        have HB8 := Lib.hid (below_step HB6.out HB68.out)
        clear HB6 HI6 HBq6 HB68 HB56
        have q0 : W8.cell? ⟨bq, 0, none⟩ = some (.slice Bg q.globals.length dg) := by rw [HBq8.out.cell]; rfl
        have q1 : W8.cell? ⟨bq, 1, none⟩ = some (.slice Bp q.procs.length dp) := by rw [HBq8.out.cell]; rfl
        have hbl := HBq8.out.lt
        have HAl := Lib.hid (All_any (W := W8) HQ5.out HI8.out)
        rw [HFF2.out] at HAl
        go_upto_region 10 with (go_at_call 24; refine HAl.out.mono ?_; rintro e' W9 ⟨Xa, na, ca, rfl, hal⟩)
        obtain ⟨e0, hna1, hna2, hsl⟩ := hal.sl
        subst e0
        have HSl := Lib.hid hsl
        have HI9 := Lib.hid hal.inn
        have HB89 := Lib.hid hal.below
        have HB9 := Lib.hid (below_step HB8.out hal.below)
        have HBq9 := Lib.hid (HBq8.out.on_ hal.below)
        have HBs9 := Lib.hid (HBs8.out.on_ hal.below)
        have HS9 := Lib.hid (HS8.out.keep (Q' := nw W6 W7) (fun _ h => h) (fun p hp => hal.below.cell (HSI8.out.1 _ hp)))
        have HSI9 : Hid (In (nw W6 W7) W9 W9) := Lib.hid ⟨fun b h => Nat.lt_of_lt_of_le (HSI8.out.1 _ h) hal.below.size, fun _ _ => rfl⟩
        clear hal hsl HAl q0 q1 hbl HI8 HB8 HBq8 HBs8 HS8 HSI8 HB89
        have q0 : W9.cell? ⟨bq, 0, none⟩ = some (.slice Bg q.globals.length dg) := by rw [HBq9.out.cell]; rfl
        have q1 : W9.cell? ⟨bq, 1, none⟩ = some (.slice Bp q.procs.length dp) := by rw [HBq9.out.cell]; rfl
        have hbl := HBq9.out.lt
        have HFn : Hid (∀ V, In (nw W4 W5) W5 V → Calls Try.prog 25 #[.agg #[.slice Bg q.globals.length dg, .slice Bp q.procs.length dp], .int .i64 (IntKind.i64.wrap (6 + (md : Int)))] V fun e w' => ∃ d0 d1 d2 d3 d4 d5 d6 d7 d8 d9 d10 d11 d12, e = .returned (.tuple #[.string ⟨#[]⟩, .agg #[d0, d1, d2, d3, d4, d5, d6, d7, d8, d9, d10, d11, d12], .bool false]) ∧ Below V.heap.size V w' ∧ StmtI w' (nw V w') S0 [d0, d1, d2, d3, d4, d5, d6, d7, d8, d9, d10, d11, d12]) := Lib.hid (fun V hV => by
          have h1 := Find_any HQ5.out (6 + (md : Int)) V hV HSq.out
          rw [show IntKind.i64.wrap (6 + (md : Int)) = 6 + (md : Int) by rw [IntKind.wrap_i64]; omega]
          rw [HFF4.out _ (by omega)] at h1
          exact h1)
        have hdr : ∀ {Q : Nat → Prop} {w V : World}, In Q w V → In Q w V.drew := fun h => h
        have hBD : Below W9.heap.size W9 W9.drew := (Below.refl _ _).drew
        have hBA : Below W9.heap.size W9 (W9.alloc (.cells zS 42)).drew := (below_box _).drew
        have hnb0 : (⟨bq, 0, none⟩ : Addr).block ≠ W9.heap.size := by show bq ≠ W9.heap.size; omega
        have hnb1 : (⟨bq, 1, none⟩ : Addr).block ≠ W9.heap.size := by show bq ≠ W9.heap.size; omega
        go_cut [10, 11, 12] from 38 to 46 (fun s t c wx => c = .bool false ∧ Hid (Below W9.heap.size W9 wx))
        case first =>
          go_region_held3 (fun w' => w'.cell? ⟨bq, 0, none⟩ = some (.slice Bg q.globals.length dg) ∧ w'.cell? ⟨bq, 1, none⟩ = some (.slice Bp q.procs.length dp))
            (first
              | (go_keep; done)
              | (refine ⟨?_, ?_⟩ <;> rw [set13_cell (b := W9.heap.size) (by first | exact hnb0 | exact hnb1)] <;> first | exact k0 | exact k1))
            (first
              | (go_at_call 20; refine (HMod.out _).mono ?_; rintro e w' ⟨rfl, rfl⟩)
              | (first
                | (go_at_call 25; refine (HFn.out _ (hdr HI9.out)).mono ?_; rintro e' W10 ⟨d0, d1, d2, d3, d4, d5, d6, d7, d8, d9, d10, d11, d12, rfl, hb10, hs10⟩; obtain ⟨tid, tkind, tlabels, tnm, tproc, tx, thas, targs, tth, tel, tL, tlc, tx0, tx1, tx2, tX, txn, txc, tR, trc, tT, ttc, tU, tuc, hts, hcs, _⟩ := stmt_open hs10; simp only [List.cons.injEq, and_true] at hcs; obtain ⟨rfl, rfl, rfl, rfl, rfl, rfl, rfl, rfl, rfl, rfl, rfl, rfl, rfl⟩ := hcs; clear hts hs10; have hb10' : Below W9.heap.size W9 W10 := hBD.trans hb10; have k0 : W10.cell? ⟨bq, 0, none⟩ = some (.slice Bg q.globals.length dg) := (hb10'.cell (p := ⟨bq, 0, none⟩) hbl).trans q0; have k1 : W10.cell? ⟨bq, 1, none⟩ = some (.slice Bp q.procs.length dp) := (hb10'.cell (p := ⟨bq, 1, none⟩) hbl).trans q1; have hbl2 := Nat.lt_of_lt_of_le hbl hb10'.size)
                | (go_at_call 25; refine (HFn.out _ (hdr (HI9.out.alloc _))).mono ?_; rintro e' W10 ⟨d0, d1, d2, d3, d4, d5, d6, d7, d8, d9, d10, d11, d12, rfl, hb10, hs10⟩; obtain ⟨tid, tkind, tlabels, tnm, tproc, tx, thas, targs, tth, tel, tL, tlc, tx0, tx1, tx2, tX, txn, txc, tR, trc, tT, ttc, tU, tuc, hts, hcs, _⟩ := stmt_open hs10; simp only [List.cons.injEq, and_true] at hcs; obtain ⟨rfl, rfl, rfl, rfl, rfl, rfl, rfl, rfl, rfl, rfl, rfl, rfl, rfl⟩ := hcs; clear hts hs10; have hb10' : Below W9.heap.size W9 W10 := below_step hBA hb10; have z10 : Blk W10 W9.heap.size 42 zS := Blk.below (show Blk (W9.alloc (.cells zS 42)).drew W9.heap.size 42 zS from Blk.new W9 42 zS) hb10 (by simp); have Z10 := Lib.hid z10; obtain ⟨⟨z0, z1, z2, z3, z4, z5, z6, z7, z8, z9, z10_, z11, z12⟩, f0, f1, f2, f3, f4, f5, f6, f7, f8, f9, f10, f11, f12⟩ := newS_of z10; have hzl := z10.lt; clear z10; have k0 : W10.cell? ⟨bq, 0, none⟩ = some (.slice Bg q.globals.length dg) := (hb10'.cell (p := ⟨bq, 0, none⟩) hbl).trans q0; have k1 : W10.cell? ⟨bq, 1, none⟩ = some (.slice Bp q.procs.length dp) := (hb10'.cell (p := ⟨bq, 1, none⟩) hbl).trans q1; have hbl2 := Nat.lt_of_lt_of_le hbl hb10'.size)))
          all_goals
            go_wp2_with fail
            go_meet
            refine ⟨rfl, Lib.hid ?_⟩
            first
              | ((with_reducible refine below_stepA ?_ _); exact hb10')
              | ((with_reducible refine set13_below ?_ ?_); exact hb10'; exact Nat.le_refl _)
        case rest =>
          obtain ⟨rfl, HBc⟩ := hcut
          have HBqc := Lib.hid (HBq9.out.on_ HBc.out)
          have HBsc := Lib.hid (HBs9.out.on_ HBc.out)
          have HIc := Lib.hid (HI9.out.on HBc.out)
          have HSIc := Lib.hid (HSI9.out.on HBc.out)
          have HBt := Lib.hid (below_step HB9.out HBc.out)
          obtain ⟨la, cells0, hla, hqi, hit, hci⟩ := slice_at HSl.out (W := wc) ⟨fun b h => Nat.lt_of_lt_of_le h.2 HBc.out.size, fun p hp => HBc.out.cell hp.2⟩ (k := 0) (by simp)
          subst hla
          obtain ⟨cst, rfl, hst⟩ := hit
          obtain ⟨id', kind', labels', nm', proc', x', has', args', th', el', L', lc', x0', x1', x2', X', xn', xc', R', rc', T', tc', U', uc', hmk', rfl, _⟩ := stmt_open hst
          have hrw := rowAt_elem (b := 0) (v := .int .i64 id') (vs := [.int .i64 kind', .slice L' labels'.length lc', .string nm', .string proc', .int .i64 x0', .int .i64 x1', .string x2', .slice X' xn' xc', .bool has', .slice R' args'.length rc', .slice T' th'.length tc', .slice U' el'.length uc', .int .i64 fd, .int .i64 fi, .bool fe]) (fun j u hu => by have := hci j u hu; simpa using this)
          obtain ⟨e0, e1, e2, e3, e4, e5, e6, e7, e8, e9, e10, e11, e12, _⟩ := hrw
          have HSt := Lib.hid hst
          simp only [List.getElem_cons_zero] at HSt
          clear hci hqi hst hmk' q0 q1 hbl hBD hBA hnb0 hnb1 HBq9 HBs9 HFn
          have q1 : wc.cell? ⟨bq, 1, none⟩ = some (.slice Bp q.procs.length dp) := by rw [HBqc.out.cell]; rfl
          have hbl := HBqc.out.lt
          go_wp2_with fail
          clear q1
          go_loopg [13, 14] q.procs.length (fun kk fv iv wr => ∃ z : Int, kk ≤ q.procs.length ∧ iv = .int .i64 z ∧ z = (kk : Int) - 1 ∧ fv = .string (nmOf (q.procs.drop kk)) ∧ wr = wc)
          case atStart => exact ⟨_, Nat.le_refl _, rfl, rfl, by rw [List.drop_length]; rfl, rfl⟩
          case round =>
            obtain ⟨z, hkk, rfl, hz, rfl, rfl⟩ := hrel
            cases gk with
            | succ k =>
              clear e0 e1 e2 e3 e4 e5 e6 e7 e8 e9 e10 e11 e12
              have hzk : z = (k : Int) := by omega
              clear hz
              subst hzk
              have hlt : k < q.procs.length := by omega
              obtain ⟨a, Cp, kp, Cv, kv, Cb, kb, Ce, ke, rfl, _, hrow, _⟩ := proc_at HPr5.out HIc.out hlt
              have hnd := nmOf_drop hlt
              obtain ⟨p0, p1, p2, p3, p4, _⟩ := hrow
              generalize q.procs[k] = y at p0 p1 p2 p3 p4 hnd
              obtain ⟨yn, yp, yv, yb, ye⟩ := y
              simp only at p0 p1 p2 p3 p4 hnd
              have q1 : wr.cell? ⟨bq, 1, none⟩ = some (.slice (some a) q.procs.length dp) := by rw [HBqc.out.cell]; rfl
              by_cases hy : yb.length = 0
              · rw [if_pos hy] at hnd
                have HNd := Lib.hid hnd
                clear hnd
                go_wp2_with fail
                go_roundg k
                case measure => omega
                case rel => exact ⟨(k : Int) - 1, by omega, by go_num, rfl, by rw [HNd.out], rfl⟩
              · rw [if_neg hy] at hnd
                have HNd := Lib.hid hnd
                clear hnd
                have hy' : 0 < yb.length := by omega
                go_wp2_with fail
                go_roundg k
                case measure => omega
                case rel => exact ⟨(k : Int) - 1, by omega, by go_num, rfl, by rw [HNd.out], rfl⟩
            | zero =>
              have hz0 : z = -1 := by omega
              clear hz
              subst hz0
              rw [List.drop_zero, HFF3.out]
              have HEq : Hid (∀ (V : World) (b1 b2 : Nat), Blk V b1 42 #[.int .i64 sid, .int .i64 skind, .slice L slabels.length lc, .string snm, .string sproc, .int .i64 x0, .int .i64 x1, .string x2, .slice X xn xc, .bool shas, .slice R sargs.length rc, .slice T sth.length tc, .slice U sel.length uc] → Blk V b2 42 #[.int .i64 id', .int .i64 kind', .slice L' labels'.length lc', .string nm', .string proc', .int .i64 x0', .int .i64 x1', .string x2', .slice X' xn' xc', .bool has', .slice R' args'.length rc', .slice T' th'.length tc', .slice U' el'.length uc'] → In (nw W6 W7) W9 V → In (nw W4 W5) W5 V → Calls Try.prog 26 #[.slice (some ⟨b1, 0, none⟩) 1 1, .slice (some ⟨b2, 0, none⟩) 1 1] V (MayOk true V)) := Lib.hid (fun V b1 b2 k1 k2 i1 i2 => by
                have s1 : StmtsI V (fun b => nw W6 W7 b ∨ b = b1) [fs] (.slice (some ⟨b1, 0, none⟩) 1 1) := rows_slice (R := StmtI V (fun b => nw W6 W7 b ∨ b = b1)) (l := [fs]) [[.int .i64 sid, .int .i64 skind, .slice L slabels.length lc, .string snm, .string sproc, .int .i64 x0, .int .i64 x1, .string x2, .slice X xn xc, .bool shas, .slice R sargs.length rc, .slice T sth.length tc, .slice U sel.length uc]] k1 rfl ⟨HS9.out.keep (fun b h => .inl h) i1.2, trivial⟩ (stmtCk _ _) (.inr rfl) (by simp) rfl
                have s2 : StmtsI V (fun b => nw W4 W5 b ∨ b = b2) [fs] (.slice (some ⟨b2, 0, none⟩) 1 1) := rows_slice (R := StmtI V (fun b => nw W4 W5 b ∨ b = b2)) (l := [fs]) [[.int .i64 id', .int .i64 kind', .slice L' labels'.length lc', .string nm', .string proc', .int .i64 x0', .int .i64 x1', .string x2', .slice X' xn' xc', .bool has', .slice R' args'.length rc', .slice T' th'.length tc', .slice U' el'.length uc']] k2 rfl ⟨HSt.out.keep (fun b h => .inl h) i2.2, trivial⟩ (stmtCk _ _) (.inr rfl) (by simp) rfl
                have := EqStmts_any ((preSL [fs]).length + 1) [fs] (by omega) s1 s2 V ⟨fun b h => by rcases h with h | rfl; exact i1.1 b h; exact k1.lt, fun _ _ => rfl⟩ ⟨fun b h => by rcases h with h | rfl; exact i2.1 b h; exact k2.lt, fun _ _ => rfl⟩
                rw [show eqB [fs] [fs] = true from eqB_iff.2 rfl] at this
                exact this)
              rw [add_zero_] at e0 e1 e2 e3 e4 e5 e6 e7 e8 e9 e10 e11 e12
              have s0 : wr.cell? ⟨bs, 0, none⟩ = some (.int .i64 sid) := by rw [HBsc.out.cell]; rfl
              have s1 : wr.cell? ⟨bs, 1, none⟩ = some (.int .i64 skind) := by rw [HBsc.out.cell]; rfl
              have s2 : wr.cell? ⟨bs, 2, none⟩ = some (.slice L slabels.length lc) := by rw [HBsc.out.cell]; rfl
              have s3 : wr.cell? ⟨bs, 3, none⟩ = some (.string snm) := by rw [HBsc.out.cell]; rfl
              have s4 : wr.cell? ⟨bs, 4, none⟩ = some (.string sproc) := by rw [HBsc.out.cell]; rfl
              have s5 : wr.cell? ⟨bs, 5, none⟩ = some (.int .i64 x0) := by rw [HBsc.out.cell]; rfl
              have s6 : wr.cell? ⟨bs, 6, none⟩ = some (.int .i64 x1) := by rw [HBsc.out.cell]; rfl
              have s7 : wr.cell? ⟨bs, 7, none⟩ = some (.string x2) := by rw [HBsc.out.cell]; rfl
              have s8 : wr.cell? ⟨bs, 8, none⟩ = some (.slice X xn xc) := by rw [HBsc.out.cell]; rfl
              have s9 : wr.cell? ⟨bs, 9, none⟩ = some (.bool shas) := by rw [HBsc.out.cell]; rfl
              have s10 : wr.cell? ⟨bs, 10, none⟩ = some (.slice R sargs.length rc) := by rw [HBsc.out.cell]; rfl
              have s11 : wr.cell? ⟨bs, 11, none⟩ = some (.slice T sth.length tc) := by rw [HBsc.out.cell]; rfl
              have s12 : wr.cell? ⟨bs, 12, none⟩ = some (.slice U sel.length uc) := by rw [HBsc.out.cell]; rfl
              have hb1_ := HBsc.out.lt
              have hb2_ := World.block_lt_of_cell? wr _ e0
              have hXY : ∀ a b : Obj, Below wr.heap.size wr ((wr.alloc a).alloc b).drew := fun a b => (below_two a b).drew
              go_upto_region 17 with fail
              go_region_held3 (fun w' => w'.cell? ⟨bs, 0, none⟩ = some (.int .i64 sid) ∧ w'.cell? ⟨bs, 1, none⟩ = some (.int .i64 skind) ∧ w'.cell? ⟨bs, 2, none⟩ = some (.slice L slabels.length lc) ∧ w'.cell? ⟨bs, 3, none⟩ = some (.string snm) ∧ w'.cell? ⟨bs, 4, none⟩ = some (.string sproc) ∧ w'.cell? ⟨bs, 5, none⟩ = some (.int .i64 x0) ∧ w'.cell? ⟨bs, 6, none⟩ = some (.int .i64 x1) ∧ w'.cell? ⟨bs, 7, none⟩ = some (.string x2) ∧ w'.cell? ⟨bs, 8, none⟩ = some (.slice X xn xc) ∧ w'.cell? ⟨bs, 9, none⟩ = some (.bool shas) ∧ w'.cell? ⟨bs, 10, none⟩ = some (.slice R sargs.length rc) ∧ w'.cell? ⟨bs, 11, none⟩ = some (.slice T sth.length tc) ∧ w'.cell? ⟨bs, 12, none⟩ = some (.slice U sel.length uc) ∧ w'.cell? la = some (.int .i64 id') ∧ w'.cell? ⟨la.block, la.off + 1, none⟩ = some (.int .i64 kind') ∧ w'.cell? ⟨la.block, la.off + 2, none⟩ = some (.slice L' labels'.length lc') ∧ w'.cell? ⟨la.block, la.off + 3, none⟩ = some (.string nm') ∧ w'.cell? ⟨la.block, la.off + 4, none⟩ = some (.string proc') ∧ w'.cell? ⟨la.block, la.off + 5, none⟩ = some (.int .i64 x0') ∧ w'.cell? ⟨la.block, la.off + 6, none⟩ = some (.int .i64 x1') ∧ w'.cell? ⟨la.block, la.off + 7, none⟩ = some (.string x2') ∧ w'.cell? ⟨la.block, la.off + 8, none⟩ = some (.slice X' xn' xc') ∧ w'.cell? ⟨la.block, la.off + 9, none⟩ = some (.bool has') ∧ w'.cell? ⟨la.block, la.off + 10, none⟩ = some (.slice R' args'.length rc') ∧ w'.cell? ⟨la.block, la.off + 11, none⟩ = some (.slice T' th'.length tc') ∧ w'.cell? ⟨la.block, la.off + 12, none⟩ = some (.slice U' el'.length uc'))
                (go_keep)
                ((go_at_call 26; (with_reducible refine (HEq.out _ _ _ ?_ ?_ ?_ ?_).mono ?_); (first | (with_reducible exact (blkTwo _ _ _ _ _).1.dr) | (with_reducible exact (blkTwo _ _ _ _ _).2.dr)); (first | (with_reducible exact (blkTwo _ _ _ _ _).1.dr) | (with_reducible exact (blkTwo _ _ _ _ _).2.dr)); (with_reducible exact hdr ((HSIc.out.alloc _).alloc _)); (with_reducible exact hdr ((HIc.out.alloc _).alloc _)); rintro e' W11 ⟨rfl, hb11⟩; have hb11' : Below wr.heap.size wr W11 := below_step (hXY _ _) hb11; have hc11 := (bcell hb11').1; have g0 : W11.cell? la = some (.int .i64 id') := (hb11'.cell hb2_).trans e0))
              all_goals
                go_wp2_with fail
                go_ret
                exact ⟨rfl, below_step HBt.out hb11'⟩
end Go.Proofs.Ytkbjlnmdlolhiaa
