/- Texts, merged by a program; only what is used. -/
import Derived.Deep.LoopGhost
import Derived.Deep.RegionHeld3
import Derived.Test.YtnnblklbjbkikaaM1
import Derived.Test.YtnnblklbjbkikaaM2
import Derived.Test.YtnnblklbjbkikaaM3
import Derived.Test.YtnnblklbjbkikaaM4
import Derived.Test.YtnnblklbjbkikaaM5
import Derived.Test.YtnnblklbjbkikaaM6
import Derived.Test.YtnnblklbjbkikaaM7
import Derived.Test.YtnnblklbjbkikaaM8
import Derived.Test.YtnnblklbjbkikaaM9
import Derived.Test.YtnnblklbjbkikaaM10
import Derived.Test.YtnnblklbjbkikaaM11
import Derived.Test.YtnnblklbjbkikaaM12
import Derived.Test.YtnnblklbjbkikaaM13
import Derived.Test.YtnnblklbjbkikaaM14
import Derived.Test.YtnnblklbjbkikaaM15
import Derived.Test.YtnnblklbjbkikaaM16
import Derived.Test.YtnnblklbjbkikaaM17
import Derived.Test.YtnnblklbjbkikaaM18
import Derived.Test.YtnnblklbjbkikaaM19
namespace Go.Proofs.Ytnnblklbjbkikaa
open Go.ChangeShapes Go.WideShapes Go.ChangeAt Go.RowKit Go.Deep
set_option linter.unusedVariables false
set_option linter.unusedSimpArgs false
theorem nm_v : isNm (bl bv) = true := by decide
theorem nm_g : isNm (bl bg) = true := by decide
theorem nm_p : isNm (bl bp) = true := by decide
theorem nm_x : isNm (bl bx) = true := by decide
theorem nm_y : isNm (bl by_) = true := by decide
theorem nm_e : isNm (bl be) = true := by decide
theorem nm_main : isNm (bl bmain) = true := by decide
theorem some_cnt : cntP someP = 8 := by
  simp [cntP, cntL, someP, body1, body2, preSL, preS]
theorem some_find : findP someP 7 = (bp, .mk 7 10 [] be b0 eZ false [] [] [], true) := by
  simp [findP, findL, someP, body1, body2, preSL, preS, S.id]
theorem some_z : namesE eZ = [] := by
  simp [namesE, eZ, mayE, mayL, opN]
theorem some_n : namesE (.mk 8 0 b0 [eName by_, eName bx]) = [by_, bx] := by
  simp [namesE, eName, mayE, mayL, opN, nm_y, nm_x, walkE, walkL, spoke, hasB]
  rfl
theorem b0_emp : b0 = ByteArray.empty := rfl
theorem some_may : mayP someP = true := by
  simp [mayP, someP, prOk, headOk, parsOk, allN, blkOk, oneOk, body1, body2, stmtOk_eq, shp, nmOk, xOk, argsOk, argOk, noneE, eNum, eName, eZ, mayE, mayL, opN, nm_v, nm_g, nm_p, nm_x, nm_y, nm_e, nm_main, b0_emp]
theorem some_sz : szQ someP.procs := by
  intro q hq
  simp only [someP, List.mem_cons, List.not_mem_nil, or_false] at hq
  rcases hq with rfl | rfl
  · refine ⟨by simp [body1, preSL, preS], ?_⟩
    intro s hs
    simp only [body1, preSL, preS, List.mem_cons, List.mem_append, List.not_mem_nil, or_false, List.append_nil, false_or, List.cons_append, List.nil_append] at hs
    rcases hs with rfl | rfl | rfl | rfl <;> simp [szS, szA, S.x, S.args, eNum, eName, eZ, sizE, sizL]
  · refine ⟨by simp [body2, preSL, preS], ?_⟩
    intro s hs
    simp only [body2, preSL, preS, List.mem_cons, List.mem_append, List.not_mem_nil, or_false, List.append_nil, false_or, List.cons_append, List.nil_append] at hs
    rcases hs with rfl | rfl | rfl | rfl <;> simp [szS, szA, S.x, S.args, eNum, eName, eZ, sizE, sizL]
theorem some_sm : smQ someP.procs := by
  intro q hq
  simp only [someP, List.mem_cons, List.not_mem_nil, or_false] at hq
  rcases hq with rfl | rfl
  · simp [body1, wSL, wS, wE, wL, wT, wAr, eNum, eName, eZ]
    decide
  · simp [body2, wSL, wS, wE, wL, wT, wAr, eNum, eName, eZ]
    decide
theorem In.self (W w : World) : In (nw W w) w w := ⟨fun b h => h.2, fun _ _ => rfl⟩
set_option maxHeartbeats 4000000 in
theorem treed_any (W : World) : Calls Try.prog 12 #[] W (MayOk true W) := by
  go_enter Try.func12, Try.ntmps12
  go_wp2_with fail
  refine (Some_any _).mono ?_
  rintro e w1 ⟨c0, c1, rfl, hb1, hp1⟩
  have HP := Lib.hid hp1
  have HB1 := Lib.hid hb1
  have HI1 := Lib.hid (In.self W w1)
  obtain ⟨Ag, cg, Ap, cp, rfl, rfl, _, _, _, _, _, hpr⟩ := prog_open hp1
  obtain ⟨a, Bp, kp, Bv, kv, Bb, kb, Be, ke, rfl, hqa, _, _, _, _, hbody, _⟩ := proc_at hpr (In.self W w1) (k := 1) (by decide)
  have HPr := Lib.hid hpr
  have HBd : Hid (StmtsI w1 (nw W w1) body2 (.slice Bb 3 kb)) := Lib.hid hbody
  clear hp1 hb1 hpr hbody
  go_wp2_with fail
  have hl2 : 1 < someP.procs.length := by decide
  have HC := Lib.hid (Find_any HP.out 7 (w1.alloc (.cells #[.slice Ag someP.globals.length cg, .slice (some a) someP.procs.length cp] 25)) (HI1.out.alloc _) some_sm)
  rw [some_find] at HC
  refine HC.out.mono ?_
  rintro e w2 ⟨d0, d1, d2, d3, d4, d5, d6, d7, d8, d9, d10, d11, d12, rfl, hb2, hs2⟩
  clear HC
  obtain ⟨id, kind, labels, nm, proc, x, has, args, th, el, L, lc, x0, x1, x2, X, xn, xc, R, rc, T, tc, U, uc, hmk, hcs, _, _, _, _, _, hx, _⟩ := stmt_open hs2
  injection hmk with i1 i2 i3 i4 i5 i6 i7 i8 i9 i10
  subst i1 i2 i3 i4 i5 i6 i7 i8 i9 i10
  simp only [List.cons.injEq, and_true, List.length_nil] at hcs
  obtain ⟨rfl, rfl, rfl, rfl, rfl, rfl, rfl, rfl, rfl, rfl, rfl, rfl, rfl⟩ := hcs
  have HBp : Hid (Blk w2 w1.heap.size 25 #[.slice Ag someP.globals.length cg, .slice (some a) someP.procs.length cp]) := Lib.hid ((Blk.new _ _ _).below hb2 (by simp))
  have HB2 : Hid (Below W.heap.size W w2) := Lib.hid (below_step (below_stepA HB1.out _) hb2)
  have HB12 : Hid (Below w1.heap.size w1 w2) := Lib.hid (below_new hb2)
  have HI2 : Hid (In (nw W w1) w1 w2) := Lib.hid (HI1.out.on HB12.out)
  have HX := Lib.hid (fun V h1 => Names_any hx V h1)
  rw [some_z] at HX
  have HIx := Lib.hid (In.self (w1.alloc (.cells #[.slice Ag someP.globals.length cg, .slice (some a) someP.procs.length cp] 25)) w2)
  clear hs2 hx hb2
  generalize w1.alloc _ = w1' at HX HIx ⊢
  have hbp := HBp.out.lt
  have hIp := HI2.out
  go_upto_region 3 with fail
  have HBs : Hid (Blk (w2.alloc (.cells #[.int .i64 7, .int .i64 10, .slice L 0 lc, .string be, .string b0, .int .i64 x0, .int .i64 x1, .string x2, .slice X xn xc, .bool false, .slice R 0 rc, .slice T 0 tc, .slice U 0 uc] 55)) w2.heap.size 55 #[.int .i64 7, .int .i64 10, .slice L 0 lc, .string be, .string b0, .int .i64 x0, .int .i64 x1, .string x2, .slice X xn xc, .bool false, .slice R 0 rc, .slice T 0 tc, .slice U 0 uc]) := Lib.hid (Blk.new _ _ _)
  have HB3 : Hid (Below w2.heap.size w2 (w2.alloc (.cells #[.int .i64 7, .int .i64 10, .slice L 0 lc, .string be, .string b0, .int .i64 x0, .int .i64 x1, .string x2, .slice X xn xc, .bool false, .slice R 0 rc, .slice T 0 tc, .slice U 0 uc] 55))) := Lib.hid (below_box _)
  generalize World.alloc _ _ = w3 at HBs HB3 ⊢
  generalize w2.heap.size = bS at HBs ⊢
  have HI3 := Lib.hid (HI2.out.on HB3.out)
  have HIx3 := Lib.hid (HIx.out.on HB3.out)
  have HBp3 := Lib.hid (HBp.out.on_ HB3.out)
  have hbs := HBs.out.lt
  have s5 : w3.cell? ⟨bS, 5, none⟩ = some (.int .i64 x0) := by rw [HBs.out.cell]; rfl
  have s6 : w3.cell? ⟨bS, 6, none⟩ = some (.int .i64 x1) := by rw [HBs.out.cell]; rfl
  have s7 : w3.cell? ⟨bS, 7, none⟩ = some (.string x2) := by rw [HBs.out.cell]; rfl
  have s8 : w3.cell? ⟨bS, 8, none⟩ = some (.slice X xn xc) := by rw [HBs.out.cell]; rfl
  go_wp2_with fail
  refine (HX.out w3 HIx3.out).mono ?_
  rintro e w4 ⟨v4, rfl, hown4, hb4⟩
  obtain ⟨A4, k4, rfl, hk4, hk4'⟩ := own_shape hown4
  have HB4 := Lib.hid hb4
  clear hb4 hown4 HX HIx HIx3 s5 s6 s7 s8
  have HI4 := Lib.hid (HI3.out.on HB4.out)
  have HBp4 := Lib.hid (HBp3.out.on_ HB4.out)
  have HBs4 := Lib.hid (HBs.out.on_ HB4.out)
  obtain ⟨a', Bp', kp', Bv', kv', Bb', kb', Be', ke', ha', _, ⟨r0, r1, r2, r3, r4, _⟩, _, _, _, hbody', _⟩ := proc_at HPr.out HI4.out (k := 1) (by decide)
  injection ha' with ha'
  subst ha'
  have HBd' : Hid (StmtsI w1 (nw W w1) body2 (.slice Bb' 3 kb')) := Lib.hid hbody'
  rw [show a.add (1 * 5) = ⟨a.block, a.off + 5, none⟩ from add_ne a (by decide)] at r3
  have r3' : w4.cell? ⟨a.block, a.off + 5 + 3, none⟩ = some (.slice Bb' 3 kb') := r3
  clear r0 r1 r2 r3 r4 hbody'
  obtain ⟨ab, id5, kind5, labels5, nm5, proc5, x5, has5, args5, th5, el5, L5, lc5, y0, y1, y2, Y, yn, yc, R5, rc5, T5, tc5, U5, uc5, rfl, _, hmk5, ⟨p0, p1, p2, p3, p4, p5, p6, p7, p8, p9, p10, p11, p12, _⟩, _, _, _, _, _, hx5, _⟩ := stmt_at HBd'.out HI4.out (k := 0) (by decide)
  clear p0 p1 p2 p3 p4 p9 p10 p11 p12
  rw [show ab.add (0 * 13) = ab from add_zero_ ab] at p5 p6 p7 p8
  have p5' : w4.cell? ⟨ab.block, ab.off + 5, none⟩ = some (.int .i64 y0) := p5
  have p6' : w4.cell? ⟨ab.block, ab.off + 5 + 1, none⟩ = some (.int .i64 y1) := p6
  have p7' : w4.cell? ⟨ab.block, ab.off + 5 + 2, none⟩ = some (.string y2) := p7
  have p8' : w4.cell? ⟨ab.block, ab.off + 5 + 3, none⟩ = some (.slice Y yn yc) := p8
  clear p5 p6 p7 p8
  have hmk6 : S.mk 5 1 [] by_ b0 (.mk 8 0 b0 [eName by_, eName bx]) false [] [] [] = .mk id5 kind5 labels5 nm5 proc5 x5 has5 args5 th5 el5 := hmk5
  injection hmk6 with i1 i2 i3 i4 i5 i6 i7 i8 i9 i10
  subst i6
  have HX5 := Lib.hid (fun V h1 => Names_any hx5 V h1)
  rw [some_n] at HX5
  clear hmk5 i1 i2 i3 i4 i5 i7 i8 i9 i10 hx5
  have b1 : w4.cell? ⟨w1.heap.size, 1, none⟩ = some (.slice (some a) someP.procs.length cp) := by rw [HBp4.out.cell]; rfl
  have hbp4 := HBp4.out.lt
  go_wp2_with fail
  refine (HX5.out w4 HI4.out).mono ?_
  rintro e w5 ⟨v5, rfl, hown5, hb5⟩
  have htx := texts_of_own (l := [by_, bx]) (by intro s hs; simp only [List.mem_cons, List.not_mem_nil, or_false] at hs; rcases hs with rfl | rfl <;> decide) hown5
  obtain ⟨A5, k5, rfl, hk5, hk5'⟩ := own_shape hown5
  have HT5 := Lib.hid htx.2
  have HB5 := Lib.hid hb5
  clear hb5 hown5 HX5 htx p5' p6' p7' p8' r3' b1
  have HI5 := Lib.hid (HI4.out.on HB5.out)
  have HBp5 := Lib.hid (HBp4.out.on_ HB5.out)
  have HBs5 := Lib.hid (HBs4.out.on_ HB5.out)
  have HM := Lib.hid (fun V h => May_any HP.out V h)
  rw [some_may] at HM
  have HCt := Lib.hid (fun V h => Count_any HP.out V h (by rw [some_cnt]; decide))
  rw [some_cnt] at HCt
  have HE := Lib.hid (fun V h => Eq_any (W := V) HP.out HP.out h h some_sz some_sz)
  rw [eqB_self] at HE
  obtain ⟨ab5, e5, hq5, z0, _⟩ := text_at HT5.out (W := w5) ⟨fun b h => h.2, fun _ _ => rfl⟩ (k := 0) (by decide)
  obtain ⟨ab6, e6, _, z1, _⟩ := text_at HT5.out (W := w5) ⟨fun b h => h.2, fun _ _ => rfl⟩ (k := 1) (by decide)
  subst e5
  injection e6 with e6
  subst e6
  rw [add_zero_] at z0
  rw [add_ne _ (by decide)] at z1
  have z0_ : w5.cell? ab5 = some (.string by_) := z0
  have z1_ : w5.cell? ⟨ab5.block, ab5.off + 1, none⟩ = some (.string bx) := z1
  clear z0 z1
  have hq5l : ab5.block < w5.heap.size := hq5.2
  clear hq5
  have b0_ : w5.cell? ⟨w1.heap.size, 0, none⟩ = some (.slice Ag someP.globals.length cg) := by rw [HBp5.out.cell]; rfl
  have b1_ : w5.cell? ⟨w1.heap.size, 1, none⟩ = some (.slice (some a) someP.procs.length cp) := by rw [HBp5.out.cell]; rfl
  have s1_ : w5.cell? ⟨bS, 1, none⟩ = some (.int .i64 10) := by rw [HBs5.out.cell]; rfl
  have s3_ : w5.cell? ⟨bS, 3, none⟩ = some (.string be) := by rw [HBs5.out.cell]; rfl
  have hbp5 := HBp5.out.lt
  have hbs5 := HBs5.out.lt
  generalize w1.heap.size = bP at *
  go_wp2_with (first
    | (go_at_call 14; refine (HM.out w5 HI5.out).mono ?_; rintro e w6 ⟨rfl, hb6⟩; have hs6 := hb6.size; have HI6 := Lib.hid (HI5.out.on hb6); have s1_6 : w6.cell? ⟨bS, 1, none⟩ = some (.int .i64 10) := (hb6.cell (p := ⟨bS, 1, none⟩) hbs5).trans s1_; have s3_6 : w6.cell? ⟨bS, 3, none⟩ = some (.string be) := (hb6.cell (p := ⟨bS, 3, none⟩) hbs5).trans s3_; have b0_6 : w6.cell? ⟨bP, 0, none⟩ = some (.slice Ag someP.globals.length cg) := (hb6.cell (p := ⟨bP, 0, none⟩) hbp5).trans b0_; have b1_6 : w6.cell? ⟨bP, 1, none⟩ = some (.slice (some a) someP.procs.length cp) := (hb6.cell (p := ⟨bP, 1, none⟩) hbp5).trans b1_; have z0_6 : w6.cell? ab5 = some (.string by_) := (hb6.cell (p := ab5) hq5l).trans z0_; have z1_6 : w6.cell? ⟨ab5.block, ab5.off + 1, none⟩ = some (.string bx) := (hb6.cell (p := ⟨ab5.block, ab5.off + 1, none⟩) hq5l).trans z1_)
    | (go_at_call 19; refine (HCt.out w6 HI6.out).mono ?_; rintro e w7 ⟨rfl, hb7⟩; have hs7 := hb7.size; have HI7 := Lib.hid (HI6.out.on hb7); have s1_7 : w7.cell? ⟨bS, 1, none⟩ = some (.int .i64 10) := (hb7.cell (p := ⟨bS, 1, none⟩) (Nat.lt_of_lt_of_le hbs5 hs6)).trans s1_6; have s3_7 : w7.cell? ⟨bS, 3, none⟩ = some (.string be) := (hb7.cell (p := ⟨bS, 3, none⟩) (Nat.lt_of_lt_of_le hbs5 hs6)).trans s3_6; have b0_7 : w7.cell? ⟨bP, 0, none⟩ = some (.slice Ag someP.globals.length cg) := (hb7.cell (p := ⟨bP, 0, none⟩) (Nat.lt_of_lt_of_le hbp5 hs6)).trans b0_6; have b1_7 : w7.cell? ⟨bP, 1, none⟩ = some (.slice (some a) someP.procs.length cp) := (hb7.cell (p := ⟨bP, 1, none⟩) (Nat.lt_of_lt_of_le hbp5 hs6)).trans b1_6; have z0_7 : w7.cell? ab5 = some (.string by_) := (hb7.cell (p := ab5) (Nat.lt_of_lt_of_le hq5l hs6)).trans z0_6; have z1_7 : w7.cell? ⟨ab5.block, ab5.off + 1, none⟩ = some (.string bx) := (hb7.cell (p := ⟨ab5.block, ab5.off + 1, none⟩) (Nat.lt_of_lt_of_le hq5l hs6)).trans z1_6)
    | (go_at_call 23; refine (HE.out w7 HI7.out).mono ?_; rintro e w8 ⟨rfl, hb8⟩))
  go_ret
  exact ⟨rfl, below_step HB2.out (below_step HB3.out (below_step HB4.out (below_step HB5.out (below_step hb6 (below_step hb7 hb8)))))⟩
end Go.Proofs.Ytnnblklbjbkikaa
namespace Go.Proofs.Ytnnblklbjbkikaa
open Go.ChangeShapes Go.WideShapes Go.ChangeAt Go.RowKit Go.Deep
set_option linter.unusedVariables false
theorem flat_at {C : Nat} : ∀ {rows : List (List Value)}, (∀ r ∈ rows, r.length = C) → ∀ i j, i < rows.length → j < C → rows.flatten[i * C + j]? = (rows.getD i [])[j]?
  | [], _, i, j, hi, _ => absurd hi (by simp)
  | r :: rs, h, 0, j, _, hj => by
    have hr := h r (List.mem_cons_self ..)
    rw [List.flatten_cons, Nat.zero_mul, Nat.zero_add, List.getElem?_append_left (by omega)]
    rfl
  | r :: rs, h, i + 1, j, hi, hj => by
    have hr := h r (List.mem_cons_self ..)
    rw [List.flatten_cons, List.getElem?_append_right (by rw [hr, Nat.succ_mul]; omega)]
    have he : (i + 1) * C + j - r.length = i * C + j := by rw [hr, Nat.succ_mul]; omega
    rw [he, flat_at (fun q hq => h q (List.mem_cons_of_mem _ hq)) i j (by simpa using hi) hj]
    rfl
theorem All2.mem_len {α : Type} {R : α → List Value → Prop} {C : Nat} (hC : ∀ x cs, R x cs → cs.length = C) : ∀ {l : List α} {rows : List (List Value)}, All2 R l rows → ∀ r ∈ rows, r.length = C
  | [], [], _, r, hr => absurd hr (by simp)
  | x :: l, c :: cs, h, r, hr => by
    rcases List.mem_cons.1 hr with rfl | hr
    · exact hC _ _ h.1
    · exact All2.mem_len hC h.2 r hr
theorem All2.imp {α : Type} {R R' : α → List Value → Prop} (hi : ∀ x cs, R x cs → R' x cs) : ∀ {l : List α} {rows : List (List Value)}, All2 R l rows → All2 R' l rows
  | [], [], _ => trivial
  | x :: l, c :: cs, h => ⟨hi _ _ h.1, All2.imp hi h.2⟩
theorem All2.snoc {α : Type} {R : α → List Value → Prop} {y : α} {cy : List Value} (hy : R y cy) : ∀ {l : List α} {rows : List (List Value)}, All2 R l rows → All2 R (l ++ [y]) (rows ++ [cy])
  | [], [], _ => ⟨hy, trivial⟩
  | x :: l, c :: cs, h => ⟨h.1, All2.snoc hy h.2⟩
/-- a row of the call's own whose elements read: a slice -/
theorem slice_of_own {α : Type} {w : World} {base : Nat} {e : TypeId} {C : Nat} {v : Value} {l : List α} {rows : List (List Value)} {R : α → List Value → Prop} (h : w.ownsRow base e C v l.length rows.flatten) (hr : All2 R l rows) (hC : ∀ x cs, R x cs → cs.length = C) :
    SliceI w (fun b => base ≤ b ∧ b < w.heap.size) C R l v := by
  rcases h.2 with ⟨rfl, hn⟩ | ⟨g, cap, cur, rfl, hb, hg, hnc, hcm, hcs, htk⟩
  · obtain rfl : l = [] := List.eq_nil_of_length_eq_zero hn
    exact ⟨none, 0, fun _ => [], rfl, ⟨Nat.le_refl _, by omega⟩, fun h => absurd h (by simp), fun i h => absurd h (by simp)⟩
  · unfold maxLen at hcm
    refine ⟨some ⟨g, 0, none⟩, cap, fun i => rows.getD i [], rfl, ⟨hnc, by omega⟩, fun h0 => ⟨_, rfl, ⟨hb, ?_⟩, fun i hi j u hu => ?_⟩, hr.at_⟩
    · have hb' : Blk w g e cur := hg
      exact hb'.lt
    · have hm := hr.mem_len hC
      have hlen := hr.len
      have hrl : (rows.getD i []).length = C := by
        have : rows.getD i [] ∈ rows := by
          rw [List.getD_eq_getElem?_getD, List.getElem?_eq_getElem (by omega)]
          exact List.getElem_mem _
        exact hm _ this
      have hj : j < C := by have := (List.getElem?_eq_some_iff.1 hu).1; rw [← hrl]; exact this
      have h1 := flat_at hm i j (by omega) hj
      rw [← htk, hu] at h1
      have h2 : i * C + j < l.length * C := by
        have : (i + 1) * C ≤ l.length * C := Nat.mul_le_mul_right C (by omega)
        rw [Nat.succ_mul] at this
        omega
      rw [List.getElem?_take_of_lt h2] at h1
      have hb' : Blk w g e cur := hg
      have hadd : (⟨g, 0, none⟩ : Addr).add (i * C + j) = ⟨g, i * C + j, none⟩ := by
        by_cases hz : i * C + j = 0
        · rw [hz, add_zero_]
        · rw [add_ne _ hz]; simp
      rw [hadd, hb'.cell]
      simpa using h1
section
variable {α : Type}
/-- a relation that holds on where its blocks stay -/
def Stays (R : World → (Nat → Prop) → α → List Value → Prop) : Prop := ∀ {w w' : World} {Q Q' : Nat → Prop} {x : α} {cs : List Value}, R w Q x cs → (∀ b, Q b → Q' b) → (∀ p : Addr, Q p.block → w'.cell? p = w.cell? p) → R w' Q' x cs
def BuildI (w : World) (base : Nat) (e : TypeId) (C : Nat) (R : World → (Nat → Prop) → α → List Value → Prop) (l : List α) (v : Value) : Prop :=
  ∃ rows : List (List Value), w.ownsRow base e C v l.length rows.flatten ∧ All2 (R w (fun b => (base ≤ b ∧ b < w.heap.size) ∧ v.ownBlock ≠ some b)) l rows
variable {R : World → (Nat → Prop) → α → List Value → Prop} {w w' : World} {base C : Nat} {e : TypeId} {l : List α} {v : Value}
theorem BuildI.nil (w : World) (base : Nat) (e : TypeId) (C : Nat) (R : World → (Nat → Prop) → α → List Value → Prop) : BuildI w base e C R [] (.slice none 0 0) := ⟨[], World.ownsRow_nil _ _ _ _, trivial⟩
theorem BuildI.below (hR : Stays R) (h : BuildI w base e C R l v) (hb : Below w.heap.size w w') : BuildI w' base e C R l v := by
  obtain ⟨rows, h1, h2⟩ := h
  exact ⟨rows, (Below.moves hb).row h1 (fun j hj e => Nat.not_lt.2 e (h1.lt j hj).2), h2.imp fun x cs h => hR h (fun b h => ⟨⟨h.1.1, Nat.lt_of_lt_of_le h.1.2 hb.size⟩, h.2⟩) (fun p hp => hb.cell hp.1.2)⟩
theorem BuildI.done (hR : Stays R) (hC : ∀ {w Q x cs}, R w Q x cs → cs.length = C) (h : BuildI w base e C R l v) : SliceI w (fun b => base ≤ b ∧ b < w.heap.size) C (R w (fun b => base ≤ b ∧ b < w.heap.size)) l v := by
  obtain ⟨rows, h1, h2⟩ := h
  exact slice_of_own h1 (h2.imp fun x cs h => hR h (fun b h => h.1) (fun p hp => rfl)) (fun x cs h => hC h)
/-- one more element, whose blocks are younger than the row's -/
theorem BuildI.push (hR : Stays R) {rows : List (List Value)} (h1 : w.ownsRow base e C v l.length rows.flatten) (h2 : All2 (R w (fun b => (base ≤ b ∧ b < w.heap.size) ∧ v.ownBlock ≠ some b)) l rows) {x : α} {cs : List Value} {B : Nat} (hx : R w (fun b => B ≤ b ∧ b < w.heap.size) x cs) (hB : base ≤ B) (hv : ∀ j, v.ownBlock = some j → j < B)
    {o : Obj} {w3 : World} {v' : Value} {n : Nat} (hn : n = l.length + 1) {xs : List Value} (hxs : xs = rows.flatten ++ cs) (h3 : w3.ownsRow base e C v' n xs) (hg : (w.alloc o).grownBy w3 v.ownBlock) (hat : v.ownBlock = v'.ownBlock ∨ v'.ownBlock = some (w.alloc o).heap.size) : BuildI w3 base e C R (l ++ [x]) v' := by
  subst hn hxs
  have hm : Moves (fun j => v.ownBlock = some j) w w3 := ((Moves.refl _ w).alloc o).trans (moves_grown hg) (fun j hj => .inr hj)
  have hsz := hm.size
  have key : ∀ b, (base ≤ b ∧ b < w.heap.size) ∧ v.ownBlock ≠ some b → (base ≤ b ∧ b < w3.heap.size) ∧ v'.ownBlock ≠ some b := by
    rintro b ⟨⟨h5, h6⟩, h7⟩
    refine ⟨⟨h5, by omega⟩, fun h => ?_⟩
    rcases hat with h8 | h8
    · exact h7 (h8.trans h)
    · rw [h8] at h; injection h with h; rw [World.size_alloc] at h; omega
  refine ⟨rows ++ [cs], by rw [List.length_append, List.flatten_append, List.flatten_cons, List.flatten_nil, List.append_nil]; exact h3, ?_⟩
  refine All2.snoc (hR hx (fun b hb => key b ⟨⟨by omega, hb.2⟩, fun h => by have := hv b h; omega⟩) (fun p hp => hm.cell hp.2 (fun h => by have := hv p.block h; omega))) (h2.imp fun y cy h => hR h key (fun p hp => hm.cell hp.1.2 hp.2))
end
end Go.Proofs.Ytnnblklbjbkikaa
namespace Go.Proofs.Ytnnblklbjbkikaa
open Go.ChangeShapes Go.WideShapes Go.ChangeAt Go.RowKit Go.Deep
set_option linter.unusedVariables false
structure It where
  s : S
  deep : Int
  inn : Int
  els : Bool
mutual
def flatL : List S → Nat → Int → Bool → List It → List It
  | [], _, _, _, out => out
  | s :: l, d, i, e, out => if out.length ≤ 200 then flatL l d i e (flatS s d i e out) else out
def flatS : S → Nat → Int → Bool → List It → List It
  | .mk id kind labels nm proc x has args th el, d, i, e, out =>
    if d ≤ 12 then flatL el (d + 1) id true (flatL th (d + 1) id false (out ++ [⟨.mk id kind labels nm proc x has args th el, d, i, e⟩])) else out ++ [⟨.mk id kind labels nm proc x has args th el, d, i, e⟩]
end
theorem new16 (w : World) (t : TypeId) (cs : List Value) : ∀ j u, cs[j]? = some u → (w.alloc (.cells cs.toArray t)).cell? ((⟨w.heap.size, 0, none⟩ : Addr).add j) = some u := by
  intro j u hu
  have ha : (⟨w.heap.size, 0, none⟩ : Addr).add j = ⟨w.heap.size, j, none⟩ := by
    by_cases hz : j = 0
    · rw [hz, add_zero_]
    · rw [add_ne _ hz]; simp
  rw [ha, (Blk.new w t cs.toArray).cell]
  simpa using hu
end Go.Proofs.Ytnnblklbjbkikaa
namespace Go.Proofs.Ytnnblklbjbkikaa
open Go.ChangeShapes Go.WideShapes Go.ChangeAt Go.RowKit Go.Deep
set_option linter.unusedVariables false
mutual
theorem flatL_pre : ∀ (l : List S) (d c c' : Nat), blkOk l d c = some c' → c' = c + (preSL l).length ∧ (∀ j (h : j < (preSL l).length), (preSL l)[j].id = ((c + 1 + j : Nat) : Int)) ∧ ∀ (i : Int) (e : Bool) (out : List It), out.length + (preSL l).length ≤ 200 → (flatL l d i e out).map It.s = out.map It.s ++ preSL l
  | [], d, c, c', h => by
    rw [blkOk] at h
    injection h with h
    subst h
    rw [preSL]
    exact ⟨rfl, fun j h => absurd h (by simp), fun i e out _ => by rw [flatL, List.append_nil]⟩
  | s :: l, d, c, c', h => by
    rw [blkOk] at h
    cases h1 : oneOk s d c with
    | none => rw [h1] at h; simp at h
    | some c1 =>
      rw [h1] at h
      simp only [Option.bind_some] at h
      obtain ⟨a1, a2, a3⟩ := flatS_pre s d c c1 h1
      obtain ⟨b1, b2, b3⟩ := flatL_pre l d c1 c' h
      rw [preSL]
      refine ⟨by rw [List.length_append]; omega, fun j hj => ?_, fun i e out ho => ?_⟩
      · rw [List.length_append] at hj
        by_cases hjs : j < (preS s).length
        · rw [List.getElem_append_left hjs]; exact a2 j hjs
        · rw [List.getElem_append_right (by omega), b2 _ (by omega)]; congr 1; omega
      · rw [List.length_append] at ho
        have hl1 : 1 ≤ (preS s).length := by rw [preS_eq]; simp
        rw [flatL, if_pos (by omega)]
        have h4 := a3 i e out (by omega)
        have h5 : (flatS s d i e out).length = out.length + (preS s).length := by
          have := congrArg List.length h4
          rw [List.length_map, List.length_append, List.length_map] at this
          exact this
        rw [b3 i e _ (by omega), h4, List.append_assoc]
theorem flatS_pre : ∀ (s : S) (d c c' : Nat), oneOk s d c = some c' → c' = c + (preS s).length ∧ (∀ j (h : j < (preS s).length), (preS s)[j].id = ((c + 1 + j : Nat) : Int)) ∧ ∀ (i : Int) (e : Bool) (out : List It), out.length + (preS s).length ≤ 200 → (flatS s d i e out).map It.s = out.map It.s ++ preS s
  | .mk id kind labels nm proc x has args th el, d, c, c', h => by
    rw [oneOk] at h
    split at h
    · rename_i hc
      obtain ⟨h12, _, hid, _⟩ := hc
      cases h1 : blkOk th (d + 1) (c + 1) with
      | none => rw [h1] at h; simp at h
      | some c1 =>
        rw [h1] at h
        simp only [Option.bind_some] at h
        obtain ⟨a1, a2, a3⟩ := flatL_pre th (d + 1) (c + 1) c1 h1
        obtain ⟨b1, b2, b3⟩ := flatL_pre el (d + 1) c1 c' h
        rw [preS]
        refine ⟨by rw [List.length_cons, List.length_append]; omega, fun j hj => ?_, fun i e out ho => ?_⟩
        · rw [List.length_cons, List.length_append] at hj
          cases j with
          | zero => rw [List.getElem_cons_zero]; exact hid
          | succ j =>
            rw [List.getElem_cons_succ]
            by_cases hjs : j < (preSL th).length
            · rw [List.getElem_append_left hjs, a2 j hjs]; congr 1; omega
            · rw [List.getElem_append_right (by omega), b2 _ (by omega)]; congr 1; omega
        · rw [List.length_cons, List.length_append] at ho
          rw [flatS, if_pos h12]
          have h4 := a3 id false (out ++ [⟨.mk id kind labels nm proc x has args th el, d, i, e⟩]) (by rw [List.length_append, List.length_cons, List.length_nil]; omega)
          have h5 : (flatL th (d + 1) id false (out ++ [⟨.mk id kind labels nm proc x has args th el, d, i, e⟩])).length = out.length + 1 + (preSL th).length := by
            have := congrArg List.length h4
            rw [List.length_map, List.length_append, List.length_map, List.length_append] at this
            simpa using this
          rw [b3 id true _ (by omega), h4, List.map_append, List.append_assoc, List.append_assoc]
          rfl
    · cases h
end
def flatOf (q : Pr) : List It := flatL q.body 1 0 false []
/-- of procedures that may be: what their rows are, and that each number has its statement -/
theorem prOk_flat : ∀ (l : List Pr) (c c' : Nat), prOk l c = some c' → c ≤ 200 → (∀ q ∈ l, (flatOf q).map It.s = preSL q.body ∧ (preSL q.body).length ≤ 200) ∧ c' = c + cntL l ∧ c' ≤ 200 ∧ ∀ n : Nat, c < n → n ≤ c' → (findL l (n : Int)).2.2 = true
  | [], c, c', h, h200 => by
    rw [prOk] at h
    injection h with h
    subst h
    exact ⟨fun q hq => by simp at hq, by rw [cntL]; omega, h200, fun n h1 h2 => absurd h1 (by omega)⟩
  | q :: l, c, c', h, h200 => by
    rw [prOk] at h
    split at h
    · cases h1 : blkOk q.body 1 c with
      | none => rw [h1] at h; simp at h
      | some c1 =>
        rw [h1] at h
        simp only [Option.bind_some] at h
        obtain ⟨a1, a2, a3⟩ := flatL_pre q.body 1 c c1 h1
        have hc1 := blkOk_le q.body 1 c c1 h200 h1
        obtain ⟨b1, b2, b3, b4⟩ := prOk_flat l c1 c' h hc1
        refine ⟨fun y hy => ?_, by rw [cntL]; omega, b3, fun n h5 h6 => ?_⟩
        · rcases List.mem_cons.1 hy with rfl | hy
          · have := a3 0 false [] (by simp; omega)
            rw [List.map_nil, List.nil_append] at this
            exact ⟨this, by omega⟩
          · exact b1 y hy
        · rw [findL]
          by_cases hn : n ≤ c1
          · have hj : n - c - 1 < (preSL q.body).length := by omega
            have hid := a2 (n - c - 1) hj
            have hs : ((preSL q.body).find? (fun s => s.id == (n : Int))).isSome = true := by
              rw [List.find?_isSome]
              exact ⟨_, List.getElem_mem hj, by rw [hid]; simp; omega⟩
            cases hf : (preSL q.body).find? (fun s => s.id == (n : Int)) with
            | none => rw [hf] at hs; cases hs
            | some s => rfl
          · cases hf : (preSL q.body).find? (fun s => s.id == (n : Int)) with
            | none => exact b4 n (by omega) h6
            | some s => rfl
    · cases h
theorem may_flat {p : Pg} (h : mayP p = true) : (∀ q ∈ p.procs, (flatOf q).map It.s = preSL q.body ∧ (preSL q.body).length ≤ 200) ∧ cntP p ≤ 200 ∧ ∀ n : Int, 1 ≤ n → n ≤ (cntP p : Int) → (findP p n).2.2 = true := by
  unfold mayP at h
  rw [Bool.and_eq_true] at h
  obtain ⟨_, h⟩ := h
  cases hp : prOk p.procs 0 with
  | none => rw [hp] at h; cases h
  | some c' =>
    obtain ⟨a1, a2, a3, a4⟩ := prOk_flat p.procs 0 c' hp (by omega)
    refine ⟨a1, by unfold cntP; omega, fun n h1 h2 => ?_⟩
    have := a4 n.toNat (by omega) (by unfold cntP at h2; omega)
    rw [show ((n.toNat : Nat) : Int) = n by omega] at this
    exact this
end Go.Proofs.Ytnnblklbjbkikaa
namespace Go.Proofs.Ytnnblklbjbkikaa
open Go.ChangeShapes Go.WideShapes Go.ChangeAt Go.RowKit Go.Deep
set_option linter.unusedVariables false
set_option linter.unusedSimpArgs false
section
variable {P : Program} {w : World}
end
structure NmI (V wr : World) (l : List ByteArray) (X : Option Addr) (n c : Nat) : Prop where
 row : wr.ownsRow V.heap.size 9 1 (.slice X n c) n (strs l)
 below : Below V.heap.size V wr
end Go.Proofs.Ytnnblklbjbkikaa
namespace Go.Proofs.Ytnnblklbjbkikaa
open Go.ChangeShapes Go.WideShapes Go.ChangeAt Go.RowKit Go.Deep
set_option linter.unusedVariables false
set_option linter.unusedSimpArgs false
def oth (a b s : ByteArray) : ByteArray := if s = a then b else if s = b then a else s
theorem other_any (s a b : ByteArray) (W : World) : Calls Try.prog 65 #[.string s, .string a, .string b] W fun e w' => e = .returned (.string (oth a b s)) ∧ W = w' := by
 have h1 : (s.toList == a.toList) = decide (s = a) := dec_bytes _ _
 have h2 : (s.toList == b.toList) = decide (s = b) := dec_bytes _ _
 by_cases c1 : s = a
 ·have HO : Hid (oth a b s = b) := Lib.hid (by unfold oth; rw [if_pos c1])
  rw [decide_eq_true c1] at h1
  clear c1 h2
  go_enter Try.func65, Try.ntmps65
  go_wp2_with fail
  go_ret
  exact ⟨by rw [HO.out]; rfl, rfl⟩
 ·rw [decide_eq_false c1] at h1
  by_cases c2 : s = b
  ·have HO : Hid (oth a b s = a) := Lib.hid (by unfold oth; rw [if_neg c1, if_pos c2])
   rw [decide_eq_true c2] at h2
   clear c1 c2
   go_enter Try.func65, Try.ntmps65
   go_wp2_with fail
   go_ret
   exact ⟨by rw [HO.out]; rfl, rfl⟩
  ·have HO : Hid (oth a b s = s) := Lib.hid (by unfold oth; rw [if_neg c1, if_neg c2])
   rw [decide_eq_false c2] at h2
   clear c1 c2
   go_enter Try.func65, Try.ntmps65
   go_wp2_with fail
   go_ret
   exact ⟨by rw [HO.out]; rfl, rfl⟩
set_option maxHeartbeats 2000000 in
set_option maxRecDepth 100000 in
theorem SwapTexts_any {w W : World} {Q : Nat → Prop} {l : List ByteArray} {v : Value} (h : TextsI w Q l v) (hl : l.length ≤ 1000000) (a b : ByteArray) (hI : In Q w W) :
 Calls Try.prog 36 #[v, .string a, .string b] W (NewRow (l.map (oth a b)) W) := by
 obtain ⟨A, cap, rfl, hl1, hl2⟩ := h.shape
 have H := Lib.hid h
 have HI := Lib.hid hI
 have HO := Lib.hid (fun s V => other_any s a b V)
 obtain ⟨i0, hi0, hz0, hz1, hz2⟩ := info_parts string_info
 clear h hI
 have HS : Hid (NmI W W ((l.take 0).map (oth a b)) none 0 0) := Lib.hid ⟨World.ownsRow_nil _ _ _ _, Below.refl _ _⟩
 go_enter Try.func36, Try.ntmps36
 go_upto_region 3 with fail
 go_loopg [7, 12] l.length (fun kk ov iv wr => ∃ (k : Nat) (X : Option Addr) (c : Nat), k + kk = l.length ∧ iv = .int .i64 k ∧ ov = .slice X k c ∧ Hid (NmI W wr ((l.take k).map (oth a b)) X k c))
 case atStart => exact ⟨0, none, 0, by omega, rfl, rfl, HS⟩
 case round =>
  clear HS
  obtain ⟨k, X, c, hk, rfl, rfl, HR⟩ := hrel
  have HIr := Lib.hid (HI.out.on HR.out.below)
  by_cases hlt : k < l.length
  ·obtain ⟨ad, rfl, _, p1, hs⟩ := text_at H.out HIr.out hlt
   have HT : Hid ((l.take (k + 1)).map (oth a b) = (l.take k).map (oth a b) ++ [oth a b l[k]]) := Lib.hid (by rw [List.take_succ_eq_append_getElem hlt, List.map_append]; rfl)
   have HOk := Lib.hid (HO.out l[k] wr)
   generalize (l.take k).map (oth a b) = pre at HR HT
   generalize l[k] = x at p1 hs HT HOk
   generalize oth a b x = y at HT HOk
   have HW := Lib.hid (new_one wr y)
   have HO5 : Hid ((wr.alloc (.cells #[.string y] 9)).ownsRow W.heap.size 9 1 (.slice X k c) k (strs pre)) := Lib.hid (HR.out.row.alloc _)
   have HB5 : Hid (Below W.heap.size W (wr.alloc (.cells #[.string y] 9))) := Lib.hid (below_stepA HR.out.below _)
   go_upto_region 6 with (first
    | (go_at_call 65; refine HOk.out.mono ?_; rintro e w' ⟨rfl, rfl⟩)
    | (at_builtin; refine wpList_append_own_at _ rfl (.tmp 16) (.tmp 21) 22 rfl W.heap.size 9 i0 _ 1 16 Try.underlying22 hi0 hz0 hz1 hz2 rfl (by decide) _ k (strs pre) rfl HO5.out ⟨wr.heap.size, 0, none⟩ 1 1 [.string y] rfl rfl HW.out (by simp [Value.oneCell']) (by unfold maxLen; omega) (by omega) HB5.out.size ?_; intro v6 w6 hown6 hg6 _ hat6; obtain ⟨X6, k6, rfl, _, _⟩ := own_shape hown6; have HO6 := Lib.hid hown6; have HG6 := Lib.hid hg6; clear hown6 hg6 hat6))
   have HS : Hid (NmI W w6 ((l.take (k + 1)).map (oth a b)) X6 (k + 1) k6) := Lib.hid ⟨by rw [HT.out, strs_append]; exact HO6.out, HB5.out.grown HG6.out HB5.out.size (fun j hj => (HO5.out.lt j hj).1)⟩
   go_wp2_with fail
   go_roundg (l.length - k - 1)
   case measure => omega
   case rel => exact ⟨k + 1, X6, k6, by omega, by go_num, rfl, HS⟩
  ·have hke : k = l.length := by omega
   subst hke
   go_wp2_with fail
   go_ret
   refine ⟨_, rfl, ?_, HR.out.below⟩
   have h := HR.out.row
   rw [List.take_length] at h
   rw [List.length_map]
   exact h
end Go.Proofs.Ytnnblklbjbkikaa
namespace Go.Proofs.Ytnnblklbjbkikaa
open Go
set_option linter.unusedVariables false
section
variable {P : Program} {md : Region.Mode} {ops : Array Oper} {Q : Exit → Act → World → Prop} {S : World → Prop} {z : Nat}
/-- as wpAnyH, but behind z nothing is asked of the world -/
def wpAnyL (P : Program) (md : Region.Mode) (ops : Array Oper) (Q : Exit → Act → World → Prop) (S : World → Prop) (z : Nat) : Nat → Array Bool → Act → World → Prop
  | 0, listed, a, w => Region.ready md ops listed = [] ∧ Q .normal a w
  | fuel + 1, listed, a, w =>
    (Region.ready md ops listed = [] → Q .normal a w) ∧
    ∀ i ∈ Region.ready md ops listed, wpOp P ops Q i (fun a' w' => (i ≠ z → S w') ∧ wpAnyL P md ops Q S z fuel (listed.setIfInBounds i true) a' w') a w
theorem wpAny_of_last : ∀ (fuel : Nat) (listed : Array Bool) (a : Act) (w : World), wpAnyL P md ops Q S z fuel listed a w → wpAny P md ops Q fuel listed a w
  | 0, _, _, _, h => h
  | fuel + 1, _, _, _, h => ⟨h.1, fun i hi => wpOp_mono (fun a' w' h' => wpAny_of_last fuel _ a' w' h'.2) (h.2 i hi)⟩
/-- the last one waits for every other -/
def waitsAll (md : Region.Mode) (ops : Array Oper) (z : Nat) : Bool := (List.range ops.size).all fun i => i == z || ((ops[z]?).map (·.after.any fun e => Region.binds md e && e.on == i)).getD false
theorem waits_spec (h : waitsAll md ops z = true) {i : Nat} (hi : i < ops.size) (hne : i ≠ z) : ∃ oz, ops[z]? = some oz ∧ ∃ e ∈ oz.after, Region.binds md e = true ∧ e.on = i := by
  have h1 := List.all_eq_true.1 h i (List.mem_range.2 hi)
  rw [Bool.or_eq_true] at h1
  rcases h1 with h1 | h1
  · exact absurd (by simpa using h1) hne
  · cases hz : ops[z]? with
    | none => rw [hz] at h1; cases h1
    | some oz =>
      rw [hz] at h1
      simp only [Option.map_some, Option.getD_some, Array.any_eq_true, Bool.and_eq_true, beq_iff_eq] at h1
      obtain ⟨k, hk, h2, h3⟩ := h1
      exact ⟨oz, rfl, _, Array.getElem_mem hk, h2, h3⟩
theorem lastTake {i : Nat} {oi : Oper} {v : Value} (hi : ops[i]? = some oi) (hz : waitsAll md ops z = true) (hiz : i ≠ z) (hsel : ∀ (j : Nat) (o : Oper) cs b, ops[j]? = some o → o.op ≠ .select cs b)
    (hQ : ∀ c a w, Q (.panic c) (a.put oi.dst v) w → Q (.panic c) a w) :
    ∀ (fuel : Nat) (listed : Array Bool) (a : Act) (w : World),
      (∀ j oj, ops[j]? = some oj → j ≠ i → listed.getD j true = false → (∀ e ∈ oj.after, Region.binds md e = true → e.on ≠ i) → oi.apart ops oj = true) →
      i ∈ Region.ready md ops listed → YieldsIf P ops S oi v a → S w →
      wpAnyL P md ops Q S z fuel (listed.setIfInBounds i true) (a.put oi.dst v) w → wpAnyL P md ops Q S z (fuel + 1) listed a w := by
  have hlt : i < ops.size := (Array.getElem?_eq_some_iff.1 hi).1
  -- one that may come up beside i does not wait for it
  have key : ∀ (listed : Array Bool) (j : Nat), i ∈ Region.ready md ops listed → j ∈ Region.ready md ops listed → j ≠ i → ∃ oj, ops[j]? = some oj ∧ listed.getD j true = false ∧ ∀ e ∈ oj.after, Region.binds md e = true → e.on ≠ i := by
    intro listed j hr hj hji
    obtain ⟨hjun, oj, hoj, hall⟩ := mem_ready.1 hj
    refine ⟨oj, hoj, hjun, fun e he hb heq => ?_⟩
    have h1 := hall e he hb
    have h0 := (mem_ready.1 hr).1
    rw [heq] at h1
    rcases Nat.lt_or_ge i listed.size with h' | h'
    · simp [h'] at h0 h1; rw [h0] at h1; cases h1
    · simp [Array.getElem?_eq_none h'] at h1
  intro fuel
  induction fuel with
  | zero =>
    intro listed a w _ hr hy hS H
    refine ⟨fun h => (by rw [h] at hr; cases hr), fun j hj => ?_⟩
    by_cases hji : j = i
    · subst hji; exact hy.wpOp hi hS ⟨fun _ => hS, H⟩
    · have := ready_mono hj hji
      rw [H.1] at this
      cases this
  | succ fuel ih =>
    intro listed a w hfree hr hy hS H
    refine ⟨fun h => (by rw [h] at hr; cases hr), fun j hj => ?_⟩
    by_cases hji : j = i
    · subst hji; exact hy.wpOp hi hS ⟨fun _ => hS, H⟩
    · obtain ⟨oj, hoj, hjun, hnot⟩ := key listed j hr hj hji
      have hjz : j ≠ z := by
        rintro rfl
        obtain ⟨oz, hoz, e, he, hb, heq⟩ := waits_spec hz hlt hiz
        rw [hoj] at hoz
        injection hoz with hoz
        subst hoz
        exact hnot e he hb heq
      have h2 := wpOp_putIf hoj (hfree j oj hoj hji hjun hnot) (fun cs b => hsel i oi cs b hi) (fun cs b => hsel j oj cs b hoj) hQ hy (H.2 j (ready_mono hj hji))
      refine wpOp_mono (fun a' w' h3 => ⟨h3.2.1, ih (listed.setIfInBounds j true) a' w' (fun k ok hk hki hun hno => hfree k ok hk hki ?_ hno) (ready_mono hr (Ne.symm hji)) h3.1 (h3.2.1 hjz) ?_⟩) h2
      · by_cases hjk : j = k
        · subst hjk; exact hjun
        · rw [getD_set_ne true hjk] at hun; exact hun
      · rw [Array.setIfInBounds_comm _ _ hji]
        exact h3.2.2
theorem wpAnyL_take {i : Nat} {oi : Oper} {v : Value} {fuel : Nat} {listed : Array Bool} {a : Act} {w : World} (hi : ops[i]? = some oi) (hz : waitsAll md ops z = true) (hiz : i ≠ z)
    (hs : Region.noSelect ops = true) (hf : Region.free md ops listed i = true) (hr : (Region.ready md ops listed).contains i = true)
    (hQ : ∀ c a w, Q (.panic c) (a.put oi.dst v) w → Q (.panic c) a w) (hy : YieldsIf P ops S oi v a) (hS : S w)
    (h : wpAnyL P md ops Q S z fuel (listed.setIfInBounds i true) (a.put oi.dst v) w) : wpAnyL P md ops Q S z (fuel + 1) listed a w :=
  lastTake hi hz hiz (Region.noSelect_spec hs) hQ fuel listed a w (Region.free_spec hi hf) (by simpa using hr) hy hS h
/-- one alone may come up -/
theorem wpAnyL_one {i : Nat} {fuel : Nat} {listed : Array Bool} {a : Act} {w : World} (hr : Region.ready md ops listed = [i])
    (h : wpOp P ops Q i (fun a' w' => (i ≠ z → S w') ∧ wpAnyL P md ops Q S z fuel (listed.setIfInBounds i true) a' w') a w) : wpAnyL P md ops Q S z (fuel + 1) listed a w :=
  ⟨fun h0 => absurd (hr.symm.trans h0) (by simp), fun j hj => by rw [hr] at hj; rw [List.mem_singleton.1 hj]; exact h⟩
theorem wpAnyL_step {i : Nat} {o : Oper} {fuel : Nat} {listed : Array Bool} {a : Act} {w : World} (hr : Region.ready md ops listed = [i]) (ho : ops[i]? = some o)
    (h : ∀ K' : Act → World → Prop, Shut (∀ a w, (i ≠ z → S w) → wpAnyL P md ops Q S z fuel (listed.setIfInBounds i true) a w → K' a w) → if Region.wanted o (yielded ops a.tmps) = true then Oper.wp P o a w K' Q else K' (a.put o.dst undef) w) : wpAnyL P md ops Q S z (fuel + 1) listed a w :=
  wpAnyL_one hr (wpOp_step ho (fun K' hK => h K' (fun a w h1 h2 => hK a w ⟨h1, h2⟩)))
theorem wpAnyL_done {listed : Array Bool} {a : Act} {w : World} (hr : Region.ready md ops listed = []) (h : Q .normal a w) : ∀ fuel, wpAnyL P md ops Q S z fuel listed a w
  | 0 => ⟨hr, h⟩
  | _ + 1 => ⟨fun _ => h, by rw [hr]; simp⟩
theorem wp_region_last {id : Nat} {a : Act} {w : World} (S : World → Prop) (z : Nat) (hm : P.follows .mixedOrders = true)
    (h : wpAnyL P .any ops Q S z ops.size (Array.replicate ops.size false) a { w with drawn := w.drawn + 1 }) : (Code.region id ops true).wp P Q a w :=
  wp_region_any hm (wpAny_of_last _ _ _ _ h)
end
end Go.Proofs.Ytnnblklbjbkikaa
