/- What holds of the program Some. -/
import Derived.Test.YtkbjlnmdlolhiaaTreeI
import Derived.Test.YtkbjlnmdlolhiaaTreeX
import Derived.Test.YtkbjlnmdlolhiaaTreeN10
import Derived.Test.YtkbjlnmdlolhiaaTreeN17
namespace Go.Proofs.Ytkbjlnmdlolhiaa
open Go.ChangeShapes Go.WideShapes Go.ChangeAt Go.RowKit Go.Deep
set_option linter.unusedVariables false
set_option linter.unusedSimpArgs false

theorem nm_v : isNm (bl bv) = true := by decide
theorem nm_g : isNm (bl bg) = true := by decide
theorem nm_p : isNm (bl bp) = true := by decide
theorem nm_x : isNm (bl bx) = true := by decide
theorem nm_y : isNm (bl by_) = true := by decide
theorem nm_e : isNm (bl be) = true := by decide
theorem nm_main : isNm (bl bmain) = true := by decide
theorem some_cnt : cntP someP = 8 := by
  simp [cntP, cntL, someP, body1, body2, preSL, preS]
theorem some_find : findP someP 7 = (bp, .mk 7 10 [] be b0 eZ false [] [] [], true) := by
  simp [findP, findL, someP, body1, body2, preSL, preS, S.id]
theorem some_z : namesE eZ = [] := by
  simp [namesE, eZ, mayE, mayL, opN]
theorem some_n : namesE (.mk 8 0 b0 [eName by_, eName bx]) = [by_, bx] := by
  simp [namesE, eName, mayE, mayL, opN, nm_y, nm_x, walkE, walkL, spoke, hasB]
  rfl
theorem b0_emp : b0 = ByteArray.empty := rfl
theorem some_may : mayP someP = true := by
  simp [mayP, someP, prOk, headOk, parsOk, allN, blkOk, oneOk, body1, body2, stmtOk_eq, shp, nmOk, xOk, argsOk, argOk, noneE, eNum, eName, eZ, mayE, mayL, opN, nm_v, nm_g, nm_p, nm_x, nm_y, nm_e, nm_main, b0_emp]
theorem some_sz : szQ someP.procs := by
  intro q hq
  simp only [someP, List.mem_cons, List.not_mem_nil, or_false] at hq
  rcases hq with rfl | rfl
  · refine ⟨by simp [body1, preSL, preS], ?_⟩
    intro s hs
    simp only [body1, preSL, preS, List.mem_cons, List.mem_append, List.not_mem_nil, or_false, List.append_nil, false_or, List.cons_append, List.nil_append] at hs
    rcases hs with rfl | rfl | rfl | rfl <;> simp [szS, szA, S.x, S.args, eNum, eName, eZ, sizE, sizL]
  · refine ⟨by simp [body2, preSL, preS], ?_⟩
    intro s hs
    simp only [body2, preSL, preS, List.mem_cons, List.mem_append, List.not_mem_nil, or_false, List.append_nil, false_or, List.cons_append, List.nil_append] at hs
    rcases hs with rfl | rfl | rfl | rfl <;> simp [szS, szA, S.x, S.args, eNum, eName, eZ, sizE, sizL]
theorem some_sm : smQ someP.procs := by
  intro q hq
  simp only [someP, List.mem_cons, List.not_mem_nil, or_false] at hq
  rcases hq with rfl | rfl
  · simp [body1, wSL, wS, wE, wL, wT, wAr, eNum, eName, eZ]
    decide
  · simp [body2, wSL, wS, wE, wL, wT, wAr, eNum, eName, eZ]
    decide
theorem In.self (W w : World) : In (nw W w) w w := ⟨fun b h => h.2, fun _ _ => rfl⟩
set_option maxHeartbeats 4000000 in
theorem treed_any (W : World) : Calls Try.prog 15 #[] W (MayOk true W) := by
  go_enter Try.func15, Try.ntmps15
  go_wp2_with fail
  refine (Some_any _).mono ?_
  rintro e w1 ⟨c0, c1, rfl, hb1, hp1⟩
  have HP := Lib.hid hp1
  have HB1 := Lib.hid hb1
  have HI1 := Lib.hid (In.self W w1)
  obtain ⟨Ag, cg, Ap, cp, rfl, rfl, _, _, _, _, _, hpr⟩ := prog_open hp1
  obtain ⟨a, Bp, kp, Bv, kv, Bb, kb, Be, ke, rfl, hqa, _, _, _, _, hbody, _⟩ := proc_at hpr (In.self W w1) (k := 1) (by decide)
  have HPr := Lib.hid hpr
  have HBd : Hid (StmtsI w1 (nw W w1) body2 (.slice Bb 3 kb)) := Lib.hid hbody
  clear hp1 hb1 hpr hbody
  go_wp2_with fail
  have hl2 : 1 < someP.procs.length := by decide
  have HC := Lib.hid (Find_any HP.out 7 (w1.alloc (.cells #[.slice Ag someP.globals.length cg, .slice (some a) someP.procs.length cp] 25)) (HI1.out.alloc _) some_sm)
  rw [some_find] at HC
  refine HC.out.mono ?_
  rintro e w2 ⟨d0, d1, d2, d3, d4, d5, d6, d7, d8, d9, d10, d11, d12, rfl, hb2, hs2⟩
  clear HC
  obtain ⟨id, kind, labels, nm, proc, x, has, args, th, el, L, lc, x0, x1, x2, X, xn, xc, R, rc, T, tc, U, uc, hmk, hcs, _, _, _, _, _, hx, _⟩ := stmt_open hs2
  injection hmk with i1 i2 i3 i4 i5 i6 i7 i8 i9 i10
  subst i1 i2 i3 i4 i5 i6 i7 i8 i9 i10
  simp only [List.cons.injEq, and_true, List.length_nil] at hcs
  obtain ⟨rfl, rfl, rfl, rfl, rfl, rfl, rfl, rfl, rfl, rfl, rfl, rfl, rfl⟩ := hcs
  have HBp : Hid (Blk w2 w1.heap.size 25 #[.slice Ag someP.globals.length cg, .slice (some a) someP.procs.length cp]) := Lib.hid ((Blk.new _ _ _).below hb2 (by simp))
  have HB2 : Hid (Below W.heap.size W w2) := Lib.hid (below_step (below_stepA HB1.out _) hb2)
  have HB12 : Hid (Below w1.heap.size w1 w2) := Lib.hid (below_new hb2)
  have HI2 : Hid (In (nw W w1) w1 w2) := Lib.hid (HI1.out.on HB12.out)
  have HX := Lib.hid (fun V h1 => Names_any hx V h1)
  rw [some_z] at HX
  have HIx := Lib.hid (In.self (w1.alloc (.cells #[.slice Ag someP.globals.length cg, .slice (some a) someP.procs.length cp] 25)) w2)
  clear hs2 hx hb2
  generalize w1.alloc _ = w1' at HX HIx ⊢
  have hbp := HBp.out.lt
  have hIp := HI2.out
  go_upto_region 3 with fail
  have HBs : Hid (Blk (w2.alloc (.cells #[.int .i64 7, .int .i64 10, .slice L 0 lc, .string be, .string b0, .int .i64 x0, .int .i64 x1, .string x2, .slice X xn xc, .bool false, .slice R 0 rc, .slice T 0 tc, .slice U 0 uc] 42)) w2.heap.size 42 #[.int .i64 7, .int .i64 10, .slice L 0 lc, .string be, .string b0, .int .i64 x0, .int .i64 x1, .string x2, .slice X xn xc, .bool false, .slice R 0 rc, .slice T 0 tc, .slice U 0 uc]) := Lib.hid (Blk.new _ _ _)
  have HB3 : Hid (Below w2.heap.size w2 (w2.alloc (.cells #[.int .i64 7, .int .i64 10, .slice L 0 lc, .string be, .string b0, .int .i64 x0, .int .i64 x1, .string x2, .slice X xn xc, .bool false, .slice R 0 rc, .slice T 0 tc, .slice U 0 uc] 42))) := Lib.hid (below_box _)
  generalize World.alloc _ _ = w3 at HBs HB3 ⊢
  generalize w2.heap.size = bS at HBs ⊢
  have HI3 := Lib.hid (HI2.out.on HB3.out)
  have HIx3 := Lib.hid (HIx.out.on HB3.out)
  have HBp3 := Lib.hid (HBp.out.on_ HB3.out)
  have hbs := HBs.out.lt
  have s5 : w3.cell? ⟨bS, 5, none⟩ = some (.int .i64 x0) := by rw [HBs.out.cell]; rfl
  have s6 : w3.cell? ⟨bS, 6, none⟩ = some (.int .i64 x1) := by rw [HBs.out.cell]; rfl
  have s7 : w3.cell? ⟨bS, 7, none⟩ = some (.string x2) := by rw [HBs.out.cell]; rfl
  have s8 : w3.cell? ⟨bS, 8, none⟩ = some (.slice X xn xc) := by rw [HBs.out.cell]; rfl
  go_wp2_with fail
  refine (HX.out w3 HIx3.out).mono ?_
  rintro e w4 ⟨v4, rfl, hown4, hb4⟩
  obtain ⟨A4, k4, rfl, hk4, hk4'⟩ := own_shape hown4
  have HB4 := Lib.hid hb4
  clear hb4 hown4 HX HIx HIx3 s5 s6 s7 s8
  have HI4 := Lib.hid (HI3.out.on HB4.out)
  have HBp4 := Lib.hid (HBp3.out.on_ HB4.out)
  have HBs4 := Lib.hid (HBs.out.on_ HB4.out)
  obtain ⟨a', Bp', kp', Bv', kv', Bb', kb', Be', ke', ha', _, ⟨r0, r1, r2, r3, r4, _⟩, _, _, _, hbody', _⟩ := proc_at HPr.out HI4.out (k := 1) (by decide)
  injection ha' with ha'
  subst ha'
  have HBd' : Hid (StmtsI w1 (nw W w1) body2 (.slice Bb' 3 kb')) := Lib.hid hbody'
  rw [show a.add (1 * 5) = ⟨a.block, a.off + 5, none⟩ from add_ne a (by decide)] at r3
  have r3' : w4.cell? ⟨a.block, a.off + 5 + 3, none⟩ = some (.slice Bb' 3 kb') := r3
  clear r0 r1 r2 r3 r4 hbody'
  obtain ⟨ab, id5, kind5, labels5, nm5, proc5, x5, has5, args5, th5, el5, L5, lc5, y0, y1, y2, Y, yn, yc, R5, rc5, T5, tc5, U5, uc5, rfl, _, hmk5, ⟨p0, p1, p2, p3, p4, p5, p6, p7, p8, p9, p10, p11, p12, _⟩, _, _, _, _, _, hx5, _⟩ := stmt_at HBd'.out HI4.out (k := 0) (by decide)
  clear p0 p1 p2 p3 p4 p9 p10 p11 p12
  rw [show ab.add (0 * 13) = ab from add_zero_ ab] at p5 p6 p7 p8
  have p5' : w4.cell? ⟨ab.block, ab.off + 5, none⟩ = some (.int .i64 y0) := p5
  have p6' : w4.cell? ⟨ab.block, ab.off + 5 + 1, none⟩ = some (.int .i64 y1) := p6
  have p7' : w4.cell? ⟨ab.block, ab.off + 5 + 2, none⟩ = some (.string y2) := p7
  have p8' : w4.cell? ⟨ab.block, ab.off + 5 + 3, none⟩ = some (.slice Y yn yc) := p8
  clear p5 p6 p7 p8
  have hmk6 : S.mk 5 1 [] by_ b0 (.mk 8 0 b0 [eName by_, eName bx]) false [] [] [] = .mk id5 kind5 labels5 nm5 proc5 x5 has5 args5 th5 el5 := hmk5
  injection hmk6 with i1 i2 i3 i4 i5 i6 i7 i8 i9 i10
  subst i6
  have HX5 := Lib.hid (fun V h1 => Names_any hx5 V h1)
  rw [some_n] at HX5
  clear hmk5 i1 i2 i3 i4 i5 i7 i8 i9 i10 hx5
  have b1 : w4.cell? ⟨w1.heap.size, 1, none⟩ = some (.slice (some a) someP.procs.length cp) := by rw [HBp4.out.cell]; rfl
  have hbp4 := HBp4.out.lt
  go_wp2_with fail
  refine (HX5.out w4 HI4.out).mono ?_
  rintro e w5 ⟨v5, rfl, hown5, hb5⟩
  have htx := texts_of_own (l := [by_, bx]) (by intro s hs; simp only [List.mem_cons, List.not_mem_nil, or_false] at hs; rcases hs with rfl | rfl <;> decide) hown5
  obtain ⟨A5, k5, rfl, hk5, hk5'⟩ := own_shape hown5
  have HT5 := Lib.hid htx.2
  have HB5 := Lib.hid hb5
  clear hb5 hown5 HX5 htx p5' p6' p7' p8' r3' b1
  have HI5 := Lib.hid (HI4.out.on HB5.out)
  have HBp5 := Lib.hid (HBp4.out.on_ HB5.out)
  have HBs5 := Lib.hid (HBs4.out.on_ HB5.out)
  have HM := Lib.hid (fun V h => May_any HP.out V h)
  rw [some_may] at HM
  have HCt := Lib.hid (fun V h => Count_any HP.out V h (by rw [some_cnt]; decide))
  rw [some_cnt] at HCt
  have HE := Lib.hid (fun V h => Eq_any (W := V) HP.out HP.out h h some_sz some_sz)
  rw [eqB_self] at HE
  obtain ⟨ab5, e5, hq5, z0, _⟩ := text_at HT5.out (W := w5) ⟨fun b h => h.2, fun _ _ => rfl⟩ (k := 0) (by decide)
  obtain ⟨ab6, e6, _, z1, _⟩ := text_at HT5.out (W := w5) ⟨fun b h => h.2, fun _ _ => rfl⟩ (k := 1) (by decide)
  subst e5
  injection e6 with e6
  subst e6
  rw [add_zero_] at z0
  rw [add_ne _ (by decide)] at z1
  have z0_ : w5.cell? ab5 = some (.string by_) := z0
  have z1_ : w5.cell? ⟨ab5.block, ab5.off + 1, none⟩ = some (.string bx) := z1
  clear z0 z1
  have hq5l : ab5.block < w5.heap.size := hq5.2
  clear hq5
  have b0_ : w5.cell? ⟨w1.heap.size, 0, none⟩ = some (.slice Ag someP.globals.length cg) := by rw [HBp5.out.cell]; rfl
  have b1_ : w5.cell? ⟨w1.heap.size, 1, none⟩ = some (.slice (some a) someP.procs.length cp) := by rw [HBp5.out.cell]; rfl
  have s1_ : w5.cell? ⟨bS, 1, none⟩ = some (.int .i64 10) := by rw [HBs5.out.cell]; rfl
  have s3_ : w5.cell? ⟨bS, 3, none⟩ = some (.string be) := by rw [HBs5.out.cell]; rfl
  have hbp5 := HBp5.out.lt
  have hbs5 := HBs5.out.lt
  generalize w1.heap.size = bP at *
  go_wp2_with (first
    | (go_at_call 17; refine (HM.out w5 HI5.out).mono ?_; rintro e w6 ⟨rfl, hb6⟩; have hs6 := hb6.size; have HI6 := Lib.hid (HI5.out.on hb6); have s1_6 : w6.cell? ⟨bS, 1, none⟩ = some (.int .i64 10) := (hb6.cell (p := ⟨bS, 1, none⟩) hbs5).trans s1_; have s3_6 : w6.cell? ⟨bS, 3, none⟩ = some (.string be) := (hb6.cell (p := ⟨bS, 3, none⟩) hbs5).trans s3_; have b0_6 : w6.cell? ⟨bP, 0, none⟩ = some (.slice Ag someP.globals.length cg) := (hb6.cell (p := ⟨bP, 0, none⟩) hbp5).trans b0_; have b1_6 : w6.cell? ⟨bP, 1, none⟩ = some (.slice (some a) someP.procs.length cp) := (hb6.cell (p := ⟨bP, 1, none⟩) hbp5).trans b1_; have z0_6 : w6.cell? ab5 = some (.string by_) := (hb6.cell (p := ab5) hq5l).trans z0_; have z1_6 : w6.cell? ⟨ab5.block, ab5.off + 1, none⟩ = some (.string bx) := (hb6.cell (p := ⟨ab5.block, ab5.off + 1, none⟩) hq5l).trans z1_)
    | (go_at_call 23; refine (HCt.out w6 HI6.out).mono ?_; rintro e w7 ⟨rfl, hb7⟩; have hs7 := hb7.size; have HI7 := Lib.hid (HI6.out.on hb7); have s1_7 : w7.cell? ⟨bS, 1, none⟩ = some (.int .i64 10) := (hb7.cell (p := ⟨bS, 1, none⟩) (Nat.lt_of_lt_of_le hbs5 hs6)).trans s1_6; have s3_7 : w7.cell? ⟨bS, 3, none⟩ = some (.string be) := (hb7.cell (p := ⟨bS, 3, none⟩) (Nat.lt_of_lt_of_le hbs5 hs6)).trans s3_6; have b0_7 : w7.cell? ⟨bP, 0, none⟩ = some (.slice Ag someP.globals.length cg) := (hb7.cell (p := ⟨bP, 0, none⟩) (Nat.lt_of_lt_of_le hbp5 hs6)).trans b0_6; have b1_7 : w7.cell? ⟨bP, 1, none⟩ = some (.slice (some a) someP.procs.length cp) := (hb7.cell (p := ⟨bP, 1, none⟩) (Nat.lt_of_lt_of_le hbp5 hs6)).trans b1_6; have z0_7 : w7.cell? ab5 = some (.string by_) := (hb7.cell (p := ab5) (Nat.lt_of_lt_of_le hq5l hs6)).trans z0_6; have z1_7 : w7.cell? ⟨ab5.block, ab5.off + 1, none⟩ = some (.string bx) := (hb7.cell (p := ⟨ab5.block, ab5.off + 1, none⟩) (Nat.lt_of_lt_of_le hq5l hs6)).trans z1_6)
    | (go_at_call 29; refine (HE.out w7 HI7.out).mono ?_; rintro e w8 ⟨rfl, hb8⟩))
  go_ret
  exact ⟨rfl, below_step HB2.out (below_step HB3.out (below_step HB4.out (below_step HB5.out (below_step hb6 (below_step hb7 hb8)))))⟩
end Go.Proofs.Ytkbjlnmdlolhiaa
