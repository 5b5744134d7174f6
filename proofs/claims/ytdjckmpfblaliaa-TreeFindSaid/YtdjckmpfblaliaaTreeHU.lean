/- One statement copied: cloneStmt (tree). -/
import Derived.Test.YtdjckmpfblaliaaTreeHT
namespace Go.Proofs.Ytdjckmpfblaliaa
open Go.ChangeShapes Go.WideShapes Go.ChangeAt Go.RowKit Go.Deep
set_option linter.unusedVariables false

/-- a new variable of the kind of statements -/
abbrev zS : Array Value := #[.int .i64 0, .int .i64 0, .slice none 0 0, .string ⟨#[]⟩, .string ⟨#[]⟩, .int .i64 0, .int .i64 0, .string ⟨#[]⟩, .slice none 0 0, .bool false, .slice none 0 0, .slice none 0 0, .slice none 0 0]
def S0 : S := .mk 0 0 [] ⟨#[]⟩ ⟨#[]⟩ (.mk 0 0 ⟨#[]⟩ []) false [] [] []
theorem i64_zero : i64 0 := ⟨by omega, by omega⟩
theorem zero_stmt (w : World) (Q : Nat → Prop) : StmtI w Q S0 zS.toList :=
  StmtI.of_slice i64_zero i64_zero (by decide) (by decide) nil_slice (ExprI.of_slice nil_slice i64_zero i64_zero (by decide)) nil_slice nil_slice nil_slice
def NewS (w : World) (b : Nat) : Prop := (w.cell? ⟨b, 0, none⟩ = some (.int .i64 0) ∧ w.cell? ⟨b, 1, none⟩ = some (.int .i64 0) ∧ w.cell? ⟨b, 2, none⟩ = some (.slice none 0 0) ∧ w.cell? ⟨b, 3, none⟩ = some (.string ⟨#[]⟩) ∧ w.cell? ⟨b, 4, none⟩ = some (.string ⟨#[]⟩) ∧ w.cell? ⟨b, 5, none⟩ = some (.int .i64 0) ∧ w.cell? ⟨b, 6, none⟩ = some (.int .i64 0) ∧ w.cell? ⟨b, 7, none⟩ = some (.string ⟨#[]⟩) ∧ w.cell? ⟨b, 8, none⟩ = some (.slice none 0 0) ∧ w.cell? ⟨b, 9, none⟩ = some (.bool false) ∧ w.cell? ⟨b, 10, none⟩ = some (.slice none 0 0) ∧ w.cell? ⟨b, 11, none⟩ = some (.slice none 0 0) ∧ w.cell? ⟨b, 12, none⟩ = some (.slice none 0 0)) ∧ w.frozen? ⟨b, 0, none⟩ = false ∧ w.frozen? ⟨b, 1, none⟩ = false ∧ w.frozen? ⟨b, 2, none⟩ = false ∧ w.frozen? ⟨b, 3, none⟩ = false ∧ w.frozen? ⟨b, 4, none⟩ = false ∧ w.frozen? ⟨b, 5, none⟩ = false ∧ w.frozen? ⟨b, 6, none⟩ = false ∧ w.frozen? ⟨b, 7, none⟩ = false ∧ w.frozen? ⟨b, 8, none⟩ = false ∧ w.frozen? ⟨b, 9, none⟩ = false ∧ w.frozen? ⟨b, 10, none⟩ = false ∧ w.frozen? ⟨b, 11, none⟩ = false ∧ w.frozen? ⟨b, 12, none⟩ = false
theorem newS_of {w : World} {b : Nat} (h : Blk w b 47 zS) : NewS w b := ⟨⟨by rw [h.cell]; rfl, by rw [h.cell]; rfl, by rw [h.cell]; rfl, by rw [h.cell]; rfl, by rw [h.cell]; rfl, by rw [h.cell]; rfl, by rw [h.cell]; rfl, by rw [h.cell]; rfl, by rw [h.cell]; rfl, by rw [h.cell]; rfl, by rw [h.cell]; rfl, by rw [h.cell]; rfl, by rw [h.cell]; rfl⟩, h.frozen 0, h.frozen 1, h.frozen 2, h.frozen 3, h.frozen 4, h.frozen 5, h.frozen 6, h.frozen 7, h.frozen 8, h.frozen 9, h.frozen 10, h.frozen 11, h.frozen 12⟩
theorem set13_blk {w : World} {b : Nat} {d0 d1 d2 d3 d4 d5 d6 d7 d8 d9 d10 d11 d12 : Value} (h : Blk w b 47 zS) : Blk (World.setCell (World.setCell (World.setCell (World.setCell (World.setCell (World.setCell (World.setCell (World.setCell (World.setCell (World.setCell (World.setCell (World.setCell (World.setCell w ⟨b, 0, none⟩ d0) ⟨b, 1, none⟩ d1) ⟨b, 2, none⟩ d2) ⟨b, 3, none⟩ d3) ⟨b, 4, none⟩ d4) ⟨b, 5, none⟩ d5) ⟨b, 6, none⟩ d6) ⟨b, 7, none⟩ d7) ⟨b, 8, none⟩ d8) ⟨b, 9, none⟩ d9) ⟨b, 10, none⟩ d10) ⟨b, 11, none⟩ d11) ⟨b, 12, none⟩ d12) b 47 #[d0, d1, d2, d3, d4, d5, d6, d7, d8, d9, d10, d11, d12] := by
  have := (((((((((((((h.set_ 0 d0).set_ 1 d1).set_ 2 d2).set_ 3 d3).set_ 4 d4).set_ 5 d5).set_ 6 d6).set_ 7 d7).set_ 8 d8).set_ 9 d9).set_ 10 d10).set_ 11 d11).set_ 12 d12)
  simp only [List.setIfInBounds_toArray, List.set_cons_zero, List.set_cons_succ] at this
  exact this
theorem set13_cell {w : World} {b : Nat} {d0 d1 d2 d3 d4 d5 d6 d7 d8 d9 d10 d11 d12 : Value} {p : Addr} (h : p.block ≠ b) : (World.setCell (World.setCell (World.setCell (World.setCell (World.setCell (World.setCell (World.setCell (World.setCell (World.setCell (World.setCell (World.setCell (World.setCell (World.setCell w ⟨b, 0, none⟩ d0) ⟨b, 1, none⟩ d1) ⟨b, 2, none⟩ d2) ⟨b, 3, none⟩ d3) ⟨b, 4, none⟩ d4) ⟨b, 5, none⟩ d5) ⟨b, 6, none⟩ d6) ⟨b, 7, none⟩ d7) ⟨b, 8, none⟩ d8) ⟨b, 9, none⟩ d9) ⟨b, 10, none⟩ d10) ⟨b, 11, none⟩ d11) ⟨b, 12, none⟩ d12).cell? p = w.cell? p := by
  have hne : ∀ j, p ≠ ⟨b, j, none⟩ := fun j e => h (by rw [e])
  rw [cell_set_ne _ (hne _), cell_set_ne _ (hne _), cell_set_ne _ (hne _), cell_set_ne _ (hne _), cell_set_ne _ (hne _), cell_set_ne _ (hne _), cell_set_ne _ (hne _), cell_set_ne _ (hne _), cell_set_ne _ (hne _), cell_set_ne _ (hne _), cell_set_ne _ (hne _), cell_set_ne _ (hne _), cell_set_ne _ (hne _)]
theorem set13_size {w : World} {b : Nat} {d0 d1 d2 d3 d4 d5 d6 d7 d8 d9 d10 d11 d12 : Value} : (World.setCell (World.setCell (World.setCell (World.setCell (World.setCell (World.setCell (World.setCell (World.setCell (World.setCell (World.setCell (World.setCell (World.setCell (World.setCell w ⟨b, 0, none⟩ d0) ⟨b, 1, none⟩ d1) ⟨b, 2, none⟩ d2) ⟨b, 3, none⟩ d3) ⟨b, 4, none⟩ d4) ⟨b, 5, none⟩ d5) ⟨b, 6, none⟩ d6) ⟨b, 7, none⟩ d7) ⟨b, 8, none⟩ d8) ⟨b, 9, none⟩ d9) ⟨b, 10, none⟩ d10) ⟨b, 11, none⟩ d11) ⟨b, 12, none⟩ d12).heap.size = w.heap.size := by simp only [size_set]
theorem set13_below {B : Nat} {a w : World} {b : Nat} {d0 d1 d2 d3 d4 d5 d6 d7 d8 d9 d10 d11 d12 : Value} (h : Below B a w) (hb : B ≤ b) : Below B a (World.setCell (World.setCell (World.setCell (World.setCell (World.setCell (World.setCell (World.setCell (World.setCell (World.setCell (World.setCell (World.setCell (World.setCell (World.setCell w ⟨b, 0, none⟩ d0) ⟨b, 1, none⟩ d1) ⟨b, 2, none⟩ d2) ⟨b, 3, none⟩ d3) ⟨b, 4, none⟩ d4) ⟨b, 5, none⟩ d5) ⟨b, 6, none⟩ d6) ⟨b, 7, none⟩ d7) ⟨b, 8, none⟩ d8) ⟨b, 9, none⟩ d9) ⟨b, 10, none⟩ d10) ⟨b, 11, none⟩ d11) ⟨b, 12, none⟩ d12) := (below_setc (below_setc (below_setc (below_setc (below_setc (below_setc (below_setc (below_setc (below_setc (below_setc (below_setc (below_setc (below_setc h hb _) hb _) hb _) hb _) hb _) hb _) hb _) hb _) hb _) hb _) hb _) hb _) hb _)
/-- thirteen cells at an address -/
theorem one_row {w V : World} {Q : Nat → Prop} {s : S} {cs : List Value} (h : StmtI w Q s cs) (hI : In Q w V) (hl : cs.length = 13) :
    StmtsI (V.alloc (.cells cs.toArray 47)) (fun k => Q k ∨ k = V.heap.size) [s] (.slice (some ⟨V.heap.size, 0, none⟩) 1 1) ∧ In (fun k => Q k ∨ k = V.heap.size) (V.alloc (.cells cs.toArray 47)) (V.alloc (.cells cs.toArray 47)) := by
  have hI' := hI.alloc (.cells cs.toArray 47)
  refine ⟨⟨_, 1, fun _ => cs, rfl, ⟨Nat.le_refl _, by omega⟩, fun _ => ⟨_, rfl, .inr rfl, fun i hi j u hu => ?_⟩, fun i hi => ?_⟩, ⟨fun b hb => ?_, fun _ _ => rfl⟩⟩
  · have hi0 : i = 0 := by simp at hi; exact hi
    subst hi0
    rw [Nat.zero_mul, Nat.zero_add, addr0, (Blk.new V 47 cs.toArray).cell]
    simpa using hu
  · have hi0 : i = 0 := by simp at hi; exact hi
    subst hi0
    exact h.keep (fun k hk => .inl hk) hI'.2
  · rcases hb with hb | rfl
    · exact hI'.1 b hb
    · simp
set_option maxHeartbeats 1000000 in
theorem cloneStmt_any {w W : World} {Q : Nat → Prop} {s : S} {c0 c1 c2 c3 c4 c5 c6 c7 c8 c9 c10 c11 c12 : Value} (h : StmtI w Q s [c0, c1, c2, c3, c4, c5, c6, c7, c8, c9, c10, c11, c12]) (hI : In Q w W) (hw : wS s ≤ 1000000) :
    Calls Try.prog 59 #[.agg #[c0, c1, c2, c3, c4, c5, c6, c7, c8, c9, c10, c11, c12]] W fun e w' => ∃ d0 d1 d2 d3 d4 d5 d6 d7 d8 d9 d10 d11 d12, e = .returned (.agg #[d0, d1, d2, d3, d4, d5, d6, d7, d8, d9, d10, d11, d12]) ∧ Below W.heap.size W w' ∧ StmtI w' (nw W w') s [d0, d1, d2, d3, d4, d5, d6, d7, d8, d9, d10, d11, d12] := by
  obtain ⟨id, kind, labels, nm, proc, ex, has, args, th, el, L, lc, x0, x1, x2, X, xn, xc, R, rc, Tt, tc, U, uc, hs, hcs, _⟩ := stmt_open h
  simp only [List.cons.injEq, and_true] at hcs
  obtain ⟨rfl, rfl, rfl, rfl, rfl, rfl, rfl, rfl, rfl, rfl, rfl, rfl, rfl⟩ := hcs
  have H := Lib.hid h
  have HI := Lib.hid hI
  have HZ : Hid (wSL [s] ≤ 1000000) := Lib.hid (by rw [wSL, wSL]; omega)
  clear h hI hs
  go_enter Try.func59, Try.ntmps59
  go_wp2_with fail
  have HBb : Hid (Blk ((W.alloc (.cells #[.int .i64 id, .int .i64 kind, .slice L labels.length lc, .string nm, .string proc, .int .i64 x0, .int .i64 x1, .string x2, .slice X xn xc, .bool has, .slice R args.length rc, .slice Tt th.length tc, .slice U el.length uc] 47)).alloc (.cells zS 47)) (W.heap.size + 1) 47 zS) := Lib.hid (by have := Blk.new (W.alloc (.cells #[.int .i64 id, .int .i64 kind, .slice L labels.length lc, .string nm, .string proc, .int .i64 x0, .int .i64 x1, .string x2, .slice X xn xc, .bool has, .slice R args.length rc, .slice Tt th.length tc, .slice U el.length uc] 47)) 47 zS; simpa using this)
  have HBW : Hid (Below W.heap.size W ((W.alloc (.cells #[.int .i64 id, .int .i64 kind, .slice L labels.length lc, .string nm, .string proc, .int .i64 x0, .int .i64 x1, .string x2, .slice X xn xc, .bool has, .slice R args.length rc, .slice Tt th.length tc, .slice U el.length uc] 47)).alloc (.cells zS 47))) := Lib.hid (below_two _ _)
  have hone := one_row (V := ((W.alloc (.cells #[.int .i64 id, .int .i64 kind, .slice L labels.length lc, .string nm, .string proc, .int .i64 x0, .int .i64 x1, .string x2, .slice X xn xc, .bool has, .slice R args.length rc, .slice Tt th.length tc, .slice U el.length uc] 47)).alloc (.cells zS 47))) H.out ((HI.out.alloc _).alloc _) rfl
  have HS1 := Lib.hid hone.1
  have HS2 := Lib.hid hone.2
  have HBc := Lib.hid (HBb.out.alloc (.cells #[.int .i64 id, .int .i64 kind, .slice L labels.length lc, .string nm, .string proc, .int .i64 x0, .int .i64 x1, .string x2, .slice X xn xc, .bool has, .slice R args.length rc, .slice Tt th.length tc, .slice U el.length uc] 47))
  have HBz : Hid (Below W.heap.size W (((W.alloc (.cells #[.int .i64 id, .int .i64 kind, .slice L labels.length lc, .string nm, .string proc, .int .i64 x0, .int .i64 x1, .string x2, .slice X xn xc, .bool has, .slice R args.length rc, .slice Tt th.length tc, .slice U el.length uc] 47)).alloc (.cells zS 47)).alloc (.cells #[.int .i64 id, .int .i64 kind, .slice L labels.length lc, .string nm, .string proc, .int .i64 x0, .int .i64 x1, .string x2, .slice X xn xc, .bool has, .slice R args.length rc, .slice Tt th.length tc, .slice U el.length uc] 47))) := Lib.hid (below_stepA HBW.out _)
  have HSz : Hid ((((W.alloc (.cells #[.int .i64 id, .int .i64 kind, .slice L labels.length lc, .string nm, .string proc, .int .i64 x0, .int .i64 x1, .string x2, .slice X xn xc, .bool has, .slice R args.length rc, .slice Tt th.length tc, .slice U el.length uc] 47)).alloc (.cells zS 47)).alloc (.cells #[.int .i64 id, .int .i64 kind, .slice L labels.length lc, .string nm, .string proc, .int .i64 x0, .int .i64 x1, .string x2, .slice X xn xc, .bool has, .slice R args.length rc, .slice Tt th.length tc, .slice U el.length uc] 47)).heap.size = W.heap.size + 3) := Lib.hid (by simp)
  clear hone HBb HBW
  simp only [World.size_alloc] at HS1 HS2
  generalize World.alloc _ _ = V3 at HS1 HS2 HBc HBz HSz ⊢
  refine (cloneStmts_any (W := _) HS1.out HS2.out HZ.out).mono ?_
  rintro e q ⟨v', rfl, hb, hst⟩
  obtain ⟨A', cap', rfl, hl1, hl2⟩ := hst.shape
  obtain ⟨a, cs, rfl, hq, hx, hc⟩ := slice_at hst (W := q) ⟨fun b hb => hb.2, fun _ _ => rfl⟩ (k := 0) (by simp)
  simp only [List.getElem_cons_zero, Nat.zero_mul, Nat.zero_add] at hx hc
  obtain ⟨id', kind', labels', nm', proc', ex', has', args', th', el', L', lc', x0', x1', x2', X', xn', xc', R', rc', Tt', tc', U', uc', hs', rfl, _⟩ := stmt_open hx
  obtain ⟨p0, p1, p2, p3, p4, p5, p6, p7, p8, p9, p10, p11, p12, _⟩ := rowAt_of hc
  have hB' := HBc.out.below hb HBc.out.lt
  obtain ⟨⟨y0, y1, y2, y3, y4, y5, y6, y7, y8, y9, y10, y11, y12⟩, g0, g1, g2, g3, g4, g5, g6, g7, g8, g9, g10, g11, g12⟩ := newS_of hB'
  have HB' := Lib.hid hB'
  have HX := Lib.hid hx
  have HQ := Lib.hid hq
  have HBq : Hid (Below W.heap.size W q) := Lib.hid (below_step HBz.out hb)
  have hal : a.block ≠ W.heap.size + 1 := by have := hq.1; rw [HSz.out] at this; omega
  have hl3 : 1 ≤ cap' := by simpa using hl1
  simp only [List.length_cons, List.length_nil, Nat.zero_add]
  clear hst hb hB' hq hc hx hs' hl1 HS1 HS2 HBc
  go_wp2_with fail
  (try simp only [Exit.inBlock, Exit.then])
  refine bodyPost_ret (results_cell_row rfl _ _ (W.heap.size + 1) 47 _ (0, 0) _ rfl (set13_blk HB'.out) Try.underlying47 rfl (by kernel_rfl)) rfl ?_
  refine ⟨_, _, _, _, _, _, _, _, _, _, _, _, _, rfl, set13_below HBq.out (by omega), HX.out.keep (fun b hb => ⟨?_, ?_⟩) (fun p hp => set13_cell ?_)⟩
  · have := hb.1; rw [HSz.out] at this; omega
  · rw [set13_size]; exact hb.2
  · have := hp.1; rw [HSz.out] at this; omega
end Go.Proofs.Ytdjckmpfblaliaa
