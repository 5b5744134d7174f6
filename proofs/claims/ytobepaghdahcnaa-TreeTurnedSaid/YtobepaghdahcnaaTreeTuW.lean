/- The walk of TreeTurned. -/
import Derived.Test.YtobepaghdahcnaaTreeA
import Derived.Test.YtobepaghdahcnaaTreeTd
import Derived.Deep.CutBlock
namespace Go.Proofs.Ytobepaghdahcnaa
open Go.ChangeShapes Go.WideShapes Go.ChangeAt Go.RowKit Go.Deep
set_option linter.unusedVariables false
set_option linter.unusedSimpArgs false

theorem Mod_fix (n : Int) (k : Nat) (h1 : 1 ≤ k) (h2 : k ≤ 1000000) : ∃ m, m < k ∧ ∀ w : World, Calls Try.prog 15 #[.int .i64 n, .int .i64 k] w fun e w' => e = .returned (.int .i64 m) ∧ w = w' := by
  have hb : n.tmod k < k := Int.tmod_lt_of_pos n (by omega)
  have hb2 : -(k : Int) < n.tmod k := by
    have := Int.tmod_lt_of_pos (-n) (show (0 : Int) < k by omega)
    rw [Int.neg_tmod] at this
    omega
  by_cases hn : n.tmod k < 0
  · refine ⟨(n.tmod k + k).toNat, by omega, fun w => ?_⟩
    go_enter Try.func15, Try.ntmps15
    go_wp2
    go_ret
    exact ⟨ret_int (by omega), rfl⟩
  · refine ⟨(n.tmod k).toNat, by omega, fun w => ?_⟩
    go_enter Try.func15, Try.ntmps15
    go_wp2
    go_ret
    exact ⟨ret_int (by omega), rfl⟩
/-- what the switch leaves: the turned statement in its block -/
structure TuR (W6 wx : World) (sb tb : Nat) (cs ct : Array Value) (s t : S) : Prop where
  bs : Blk wx sb 42 cs
  bt : Blk wx tb 42 ct
  moves : Moves (fun j => j = tb) W6 wx
  st : StmtI wx (fun j => j < wx.heap.size ∧ j ≠ tb) t ct.toList
  ok : okC t
  same : hd t s ↔ (t.nm = s.nm ∧ t.kind = s.kind ∧ t.labels.length = s.labels.length ∧ t.args.length = s.args.length ∧ t.has = s.has)
theorem s15_of {V U : World} {b tb : Nat} {b0 b1 t0 t1 t2 t3 t4 t5 t6 t7 t8 t9 t10 t11 t12 : Value} (h : Below V.heap.size V U) (hk : b < V.heap.size ∧ tb < V.heap.size ∧ V.cell? ⟨b, 0, none⟩ = some b0 ∧ V.cell? ⟨b, 1, none⟩ = some b1 ∧ V.cell? ⟨tb, 0, none⟩ = some t0 ∧ V.cell? ⟨tb, 1, none⟩ = some t1 ∧ V.cell? ⟨tb, 2, none⟩ = some t2 ∧ V.cell? ⟨tb, 3, none⟩ = some t3 ∧ V.cell? ⟨tb, 4, none⟩ = some t4 ∧ V.cell? ⟨tb, 5, none⟩ = some t5 ∧ V.cell? ⟨tb, 6, none⟩ = some t6 ∧ V.cell? ⟨tb, 7, none⟩ = some t7 ∧ V.cell? ⟨tb, 8, none⟩ = some t8 ∧ V.cell? ⟨tb, 9, none⟩ = some t9 ∧ V.cell? ⟨tb, 10, none⟩ = some t10 ∧ V.cell? ⟨tb, 11, none⟩ = some t11 ∧ V.cell? ⟨tb, 12, none⟩ = some t12) : U.cell? ⟨b, 0, none⟩ = some b0 ∧ U.cell? ⟨b, 1, none⟩ = some b1 ∧ U.cell? ⟨tb, 0, none⟩ = some t0 ∧ U.cell? ⟨tb, 1, none⟩ = some t1 ∧ U.cell? ⟨tb, 2, none⟩ = some t2 ∧ U.cell? ⟨tb, 3, none⟩ = some t3 ∧ U.cell? ⟨tb, 4, none⟩ = some t4 ∧ U.cell? ⟨tb, 5, none⟩ = some t5 ∧ U.cell? ⟨tb, 6, none⟩ = some t6 ∧ U.cell? ⟨tb, 7, none⟩ = some t7 ∧ U.cell? ⟨tb, 8, none⟩ = some t8 ∧ U.cell? ⟨tb, 9, none⟩ = some t9 ∧ U.cell? ⟨tb, 10, none⟩ = some t10 ∧ U.cell? ⟨tb, 11, none⟩ = some t11 ∧ U.cell? ⟨tb, 12, none⟩ = some t12 ∧ Below V.heap.size V U := by
  obtain ⟨h0, h0', hk⟩ := hk
  have e : ∀ j, U.cell? ⟨b, j, none⟩ = V.cell? ⟨b, j, none⟩ := fun j => h.cell (p := ⟨b, j, none⟩) h0
  have e' : ∀ j, U.cell? ⟨tb, j, none⟩ = V.cell? ⟨tb, j, none⟩ := fun j => h.cell (p := ⟨tb, j, none⟩) h0'
  rw [e 0, e 1, e' 0, e' 1, e' 2, e' 3, e' 4, e' 5, e' 6, e' 7, e' 8, e' 9, e' 10, e' 11, e' 12]
  obtain ⟨k0, k1, k2, k3, k4, k5, k6, k7, k8, k9, k10, k11, k12, k13, k14⟩ := hk
  exact ⟨k0, k1, k2, k3, k4, k5, k6, k7, k8, k9, k10, k11, k12, k13, k14, h⟩
theorem tuR_of {W6 w3 : World} {sb tb : Nat} {cs ct0 ct : Array Value} {s t : S} (hbs : Blk W6 sb 42 cs) (hbt : Blk W6 tb 42 ct0) (hb : Below W6.heap.size W6 w3) (i : Nat) (v : Value) (hne : sb ≠ tb) (hct : ct0.setIfInBounds i v = ct) (hst : StmtI w3 (fun j => j < w3.heap.size ∧ j ≠ tb) t ct.toList) (ok : okC t)
    (same : hd t s ↔ (t.nm = s.nm ∧ t.kind = s.kind ∧ t.labels.length = s.labels.length ∧ t.args.length = s.args.length ∧ t.has = s.has)) : TuR W6 (w3.setCell ⟨tb, i, none⟩ v) sb tb cs ct s t := by
  refine ⟨(hbs.below hb hbs.lt).far (p := ⟨tb, i, none⟩) hne _, by rw [← hct]; exact (hbt.below hb hbt.lt).set_ i v, ?_, hst.keep (fun j hj => ⟨by simp only [size_set]; exact hj.1, hj.2⟩) (fun p hp => cell_set_ne _ (fun e => hp.2 (by rw [e]))), ok, same⟩
  exact Moves.set_ (own := fun j => j = tb) ⟨hb.os, hb.tape, hb.output, hb.size, fun k hk _ => hb.block k hk⟩ (.inl rfl) v
theorem stmt_parts {w : World} {Q : Nat → Prop} {id kind : Int} {labels : List ByteArray} {nm proc : ByteArray} {x : E} {has : Bool} {args : List Ar} {th el : List S} {c0 c1 vl c3 c4 x0 x1 x2 x3 c9 va vt ve : Value} (h : StmtI w Q (.mk id kind labels nm proc x has args th el) [c0, c1, vl, c3, c4, x0, x1, x2, x3, c9, va, vt, ve]) :
    i64 id ∧ i64 kind ∧ nm.size ≤ 9223372036854775807 ∧ proc.size ≤ 9223372036854775807 ∧ TextsI w Q labels vl ∧ ExprI w Q x [x0, x1, x2, x3] ∧ SliceI w Q 6 (ArgI w Q) args va ∧ StmtsI w Q th vt ∧ StmtsI w Q el ve := by
  cases h with
  | mk hid hkind hnm hproc hl hx ha hc1 hc2 hA1 hA2 hk1 hk2 => exact ⟨hid, hkind, hnm, hproc, hl, hx, ha, ⟨_, _, _, rfl, hc1, hA1, hk1⟩, ⟨_, _, _, rfl, hc2, hA2, hk2⟩⟩
theorem args_take {w : World} {Q : Nat → Prop} {l : List Ar} {A : Option Addr} {n cap : Nat} (h : SliceI w Q 6 (ArgI w Q) l (.slice A n cap)) {k : Nat} (hk : k ≤ l.length) : SliceI w Q 6 (ArgI w Q) (l.take k) (.slice A (l.take k).length cap) := by
  obtain ⟨A', cap', css, e, h2, h3, h4⟩ := h
  injection e with e1 e2 e3
  subst e1 e3
  have hl : (l.take k).length = k := by rw [List.length_take]; omega
  refine ⟨A, cap, css, rfl, ⟨by omega, h2.2⟩, fun h0 => ?_, fun i hi => ?_⟩
  · obtain ⟨a, ha, hq, hc⟩ := h3 (by omega)
    exact ⟨a, ha, hq, fun i hi => hc i (by omega)⟩
  · rw [List.getElem_take]
    exact h4 i (by omega)
mutual
theorem szS_put (t : S) (ht : szS t) : ∀ s : S, (∀ x ∈ preS s, szS x) → (preS (putS t s)).length = (preS s).length ∧ ∀ x ∈ preS (putS t s), szS x
  | .mk id kind labels nm proc x has args th el, h => by
    rw [preS] at h
    obtain ⟨a1, a2⟩ := szSL_put t ht th (fun x hx => h x (List.mem_cons_of_mem _ (List.mem_append_left _ hx)))
    obtain ⟨b1, b2⟩ := szSL_put t ht el (fun x hx => h x (List.mem_cons_of_mem _ (List.mem_append_right _ hx)))
    have h0 := h _ (List.mem_cons_self ..)
    obtain ⟨tid, tkind, tlabels, tnm, tproc, tx, thas, targs, tth, tel⟩ := t
    rw [putS]
    split
    · rw [preS, preS]
      refine ⟨by simp only [List.length_cons, List.length_append]; omega, fun y hy => ?_⟩
      rcases List.mem_cons.1 hy with rfl | hy
      · exact ht
      · rcases List.mem_append.1 hy with hy | hy
        · exact a2 y hy
        · exact b2 y hy
    · rw [preS, preS]
      refine ⟨by simp only [List.length_cons, List.length_append]; omega, fun y hy => ?_⟩
      rcases List.mem_cons.1 hy with rfl | hy
      · exact h0
      · rcases List.mem_append.1 hy with hy | hy
        · exact a2 y hy
        · exact b2 y hy
theorem szSL_put (t : S) (ht : szS t) : ∀ l : List S, (∀ x ∈ preSL l, szS x) → (preSL (putSL t l)).length = (preSL l).length ∧ ∀ x ∈ preSL (putSL t l), szS x
  | [], h => by rw [putSL]; exact ⟨rfl, h⟩
  | s :: l, h => by
    rw [preSL] at h
    obtain ⟨a1, a2⟩ := szS_put t ht s (fun x hx => h x (List.mem_append_left _ hx))
    obtain ⟨b1, b2⟩ := szSL_put t ht l (fun x hx => h x (List.mem_append_right _ hx))
    rw [putSL, preSL, preSL]
    refine ⟨by simp only [List.length_append]; omega, fun y hy => ?_⟩
    rcases List.mem_append.1 hy with hy | hy
    · exact a2 y hy
    · exact b2 y hy
end
theorem szQ_put {p : Pg} (h : SmG p) {t : S} (ht : okC t) : szQ (putP t p).procs := by
  have hs : szS t := by
    obtain ⟨tid, tkind, tlabels, tnm, tproc, tx, thas, targs, tth, tel⟩ := t
    refine ⟨?_, fun a ha => ?_⟩
    · have := sizE_w tx; have := ht.1; show sizE tx ≤ _; omega
    · have := wAr_mem (l := targs) ha; have := sizE_w a.x; have := ht.2.2; omega
  intro q hq
  obtain ⟨q0, hq0, rfl⟩ := List.mem_map.1 hq
  have h1 := szB_of (h.proc q0 hq0).1
  have h2 := szSL_put t hs q0.body h1.2
  exact ⟨by show (preSL (putSL t q0.body)).length ≤ _; rw [h2.1]; exact h1.1, h2.2⟩
theorem wAr_take (l : List Ar) : ∀ n, wAr (l.take n) ≤ wAr l := by
  induction l with
  | nil => intro n; simp
  | cons a l ih =>
    intro n
    cases n with
    | zero => simp [wAr]
    | succ n => rw [List.take_succ_cons, wAr, wAr]; have := ih n; omega
set_option maxHeartbeats 8000000 in
set_option maxRecDepth 100000 in
theorem treeTurned_walk {w : World} {Q : Nat → Prop} {p : Pg} {c0 c1 : Value} (h : ProgI w Q p [c0, c1]) (id : Int) (wid : (Lit.int .i64 id).wf = true) (kk : Int) (wkk : (Lit.int .i64 kk).wf = true) (name : ByteArray) (hname : name.size ≤ maxLen) (W : World) (hI : In Q w W) :
    Calls Try.prog 7 #[.agg #[c0, c1], .int .i64 id, .int .i64 kk, .string name] W fun e w' => e = .returned (.bool true) ∧ Below W.heap.size W w' := by
  have HP := Lib.hid h
  have HI := Lib.hid hI
  have hid : i64 id := i64_of wid
  have hkk : i64 kk := i64_of wkk
  obtain ⟨Ag, cg, Ap, cp, rfl, rfl, _, _, hpl, hpc, _, _⟩ := prog_open h
  have HF := Lib.hid (fun V h1 => Fits_any HP.out V h1)
  have HM := Lib.hid (fun V h1 => May_any HP.out V h1)
  clear h hI wid wkk
  unfold i64 at hid hkk
  have HB0 : Hid (Below W.heap.size W (W.alloc (.cells #[.slice Ag p.globals.length cg, .slice Ap p.procs.length cp] 25))) := Lib.hid (below_box _)
  have HBp0 : Hid (Blk (W.alloc (.cells #[.slice Ag p.globals.length cg, .slice Ap p.procs.length cp] 25)) W.heap.size 25 #[.slice Ag p.globals.length cg, .slice Ap p.procs.length cp]) := Lib.hid (Blk.new _ _ _)
  go_enter Try.func7, Try.ntmps7
  go_upto_region 1 with fail
  generalize World.alloc _ _ = W0 at HB0 HBp0 ⊢
  have HI0 := Lib.hid (HI.out.on HB0.out)
  generalize hbe : W.heap.size = b at HBp0 ⊢
  clear hbe
  go_upto_region 3 with (go_at_call 10; refine (treed_any _).mono ?_; rintro e' W1 ⟨rfl, hb1⟩)
  have HB1 : Hid (Below W.heap.size W W1) := Lib.hid (below_step HB0.out hb1)
  have HI1 := Lib.hid (HI0.out.on hb1)
  have HBp1 := Lib.hid (HBp0.out.on_ hb1)
  clear hb1 HB0 HBp0 HI0
  have q0 : W1.cell? ⟨b, 0, none⟩ = some (.slice Ag p.globals.length cg) := by rw [HBp1.out.cell]; rfl
  have q1 : W1.cell? ⟨b, 1, none⟩ = some (.slice Ap p.procs.length cp) := by rw [HBp1.out.cell]; rfl
  have hbl := HBp1.out.lt
  cases hf : fitsP p with
  | false =>
    rw [hf] at HF
    clear hf
    go_wp2_with (go_at_call 11; refine (HF.out _ HI1.out).mono ?_; rintro e' W2 ⟨rfl, hb2⟩)
    go_ret
    exact ⟨rfl, below_step HB1.out hb2⟩
  | true =>
    have HSm := Lib.hid (fits_smG hf)
    have HSq := Lib.hid (fits_sm hf)
    rw [hf] at HF
    clear hf
    go_upto_region 5 with (go_at_call 11; refine (HF.out _ HI1.out).mono ?_; rintro e' W2 ⟨rfl, hb2⟩)
    have HB2 : Hid (Below W.heap.size W W2) := Lib.hid (below_step HB1.out hb2)
    have HI2 := Lib.hid (HI1.out.on hb2)
    have HBp2 := Lib.hid (HBp1.out.on_ hb2)
    clear hb2 HB1 HI1 HBp1 q0 q1 hbl HF
    have q0 : W2.cell? ⟨b, 0, none⟩ = some (.slice Ag p.globals.length cg) := by rw [HBp2.out.cell]; rfl
    have q1 : W2.cell? ⟨b, 1, none⟩ = some (.slice Ap p.procs.length cp) := by rw [HBp2.out.cell]; rfl
    have hbl := HBp2.out.lt
    cases hm : mayP p with
    | false =>
      rw [hm] at HM
      clear hm
      go_wp2_with (go_at_call 12; refine (HM.out _ HI2.out).mono ?_; rintro e' W3 ⟨rfl, hb3⟩)
      go_ret
      exact ⟨rfl, below_step HB2.out hb3⟩
    | true =>
      have HFl := Lib.hid (may_flat hm)
      have HMy := Lib.hid hm
      rw [hm] at HM
      clear hm
      go_upto_region 7 with (go_at_call 12; refine (HM.out _ HI2.out).mono ?_; rintro e' W3 ⟨rfl, hb3⟩)
      have HB3 : Hid (Below W.heap.size W W3) := Lib.hid (below_step HB2.out hb3)
      have HI3 := Lib.hid (HI2.out.on hb3)
      have HBp3 := Lib.hid (HBp2.out.on_ hb3)
      clear hb3 HB2 HI2 HBp2 q0 q1 hbl HM
      have q0 : W3.cell? ⟨b, 0, none⟩ = some (.slice Ag p.globals.length cg) := by rw [HBp3.out.cell]; rfl
      have q1 : W3.cell? ⟨b, 1, none⟩ = some (.slice Ap p.procs.length cp) := by rw [HBp3.out.cell]; rfl
      have hbl := HBp3.out.lt
      have HFd := Lib.hid (Find_any HP.out id W3 HI3.out HSq.out)
      obtain ⟨fn, fs, fo, hfd⟩ : ∃ fn fs fo, findP p id = (fn, fs, fo) := ⟨_, _, _, rfl⟩
      have HFP := Lib.hid hfd
      rw [hfd] at HFd
      clear hfd
      go_upto_region 8 with (go_at_call 20; refine HFd.out.mono ?_; rintro e' W4 ⟨d0, d1, d2, d3, d4, d5, d6, d7, d8, d9, d10, d11, d12, rfl, hb4, hs4⟩; simp only at hs4; obtain ⟨sid, skind, slabels, snm, sproc, sx, shas, sargs, sth, sel, L, lc, x0, x1, x2, X, xn, xc, R, rc, T, tc, U, uc, hmk, hcs, _⟩ := stmt_open hs4; simp only [List.cons.injEq, and_true] at hcs; obtain ⟨rfl, rfl, rfl, rfl, rfl, rfl, rfl, rfl, rfl, rfl, rfl, rfl, rfl⟩ := hcs)
      subst hmk
      have HS4 := Lib.hid hs4
      have HB4 : Hid (Below W.heap.size W W4) := Lib.hid (below_step HB3.out hb4)
      have HI4 := Lib.hid (HI3.out.on hb4)
      have HBp4 := Lib.hid (HBp3.out.on_ hb4)
      have HBs5 : Hid (Blk (W4.alloc (.cells #[.int .i64 sid, .int .i64 skind, .slice L slabels.length lc, .string snm, .string sproc, .int .i64 x0, .int .i64 x1, .string x2, .slice X xn xc, .bool shas, .slice R sargs.length rc, .slice T sth.length tc, .slice U sel.length uc] 42)) W4.heap.size 42 #[.int .i64 sid, .int .i64 skind, .slice L slabels.length lc, .string snm, .string sproc, .int .i64 x0, .int .i64 x1, .string x2, .slice X xn xc, .bool shas, .slice R sargs.length rc, .slice T sth.length tc, .slice U sel.length uc]) := Lib.hid (Blk.new _ _ _)
      have HB45 : Hid (Below W4.heap.size W4 (W4.alloc (.cells #[.int .i64 sid, .int .i64 skind, .slice L slabels.length lc, .string snm, .string sproc, .int .i64 x0, .int .i64 x1, .string x2, .slice X xn xc, .bool shas, .slice R sargs.length rc, .slice T sth.length tc, .slice U sel.length uc] 42))) := Lib.hid (below_box _)
      have hwb : W.heap.size ≤ W4.heap.size := HB4.out.size
      generalize World.alloc _ _ = W5 at HBs5 HB45 ⊢
      generalize hsbe : W4.heap.size = sb at HBs5 hwb ⊢
      have hs4b : W4.heap.size ≤ sb := by omega
      clear hsbe
      have HB5 : Hid (Below W.heap.size W W5) := Lib.hid (below_step HB4.out HB45.out)
      have HI5 := Lib.hid (HI4.out.on HB45.out)
      have HBp5 := Lib.hid (HBp4.out.on_ HB45.out)
      have HS5 : Hid (StmtI W5 (nw W3 W4) (S.mk sid skind slabels snm sproc sx shas sargs sth sel) [.int .i64 sid, .int .i64 skind, .slice L slabels.length lc, .string snm, .string sproc, .int .i64 x0, .int .i64 x1, .string x2, .slice X xn xc, .bool shas, .slice R sargs.length rc, .slice T sth.length tc, .slice U sel.length uc]) := Lib.hid (HS4.out.keep (fun _ h => h) (fun p hp => HB45.out.cell hp.2))
      have hz45 : W4.heap.size ≤ W5.heap.size := HB45.out.size
      clear hb4 hs4 HS4 HB3 HB4 HI3 HI4 HBp3 HBp4 q0 q1 hbl HFd HB45
      cases fo with
      | false =>
        have q0 : W5.cell? ⟨b, 0, none⟩ = some (.slice Ag p.globals.length cg) := by rw [HBp5.out.cell]; rfl
        have q1 : W5.cell? ⟨b, 1, none⟩ = some (.slice Ap p.procs.length cp) := by rw [HBp5.out.cell]; rfl
        have hbl := HBp5.out.lt
        have HCt := Lib.hid (fun V h1 => Count_any HP.out V h1 (by have := HFl.out.2.1; omega))
        have hor : id < 1 ∨ (cntP p : Int) < id := by
          by_cases h : id < 1
          · exact .inl h
          · right
            by_cases h2 : (cntP p : Int) < id
            · exact h2
            · have := HFl.out.2.2 id (by omega) (by omega); rw [HFP.out] at this; cases this
        rcases hor with hlt | hgt
        · have hb1 : decide (id < 1) = true := decide_eq_true hlt
          go_wp2_with fail
          go_ret
          exact ⟨rfl, HB5.out⟩
        · by_cases h1 : id < 1
          · have hb1 : decide (id < 1) = true := decide_eq_true h1
            go_wp2_with fail
            go_ret
            exact ⟨rfl, HB5.out⟩
          · have hb1 : decide (id < 1) = false := decide_eq_false h1
            have hb2 : decide ((cntP p : Int) < id) = true := decide_eq_true hgt
            go_wp2_with (go_at_call 18; refine (HCt.out _ HI5.out).mono ?_; rintro e' W6 ⟨rfl, hb6⟩)
            go_ret
            exact ⟨ret_bool (by first | (simp; done) | (simp; omega)), below_step HB5.out hb6⟩
      | true =>
        have HTu := Lib.hid (fun (t : S) (ht : t.id = id) => turned_eq HMy.out HFP.out ht)
        obtain ⟨pq, hpq, hspre, hsid⟩ := findL_mem _ _ _ _ HFP.out
        have hsid' : sid = id := hsid
        have hwS : wS (S.mk sid skind slabels snm sproc sx shas sargs sth sel) ≤ 1000000 := Nat.le_trans (preSL_w _ _ hspre) (HSm.out.proc pq hpq).1
        have HOk := Lib.hid (okC_of hwS)
        have HLs : Hid (slabels.length + 1 ≤ 1000000) := Lib.hid (by rw [wS] at hwS; have := wT_len slabels; omega)
        have HSid := Lib.hid hsid'
        clear hpq hspre hsid hsid' hwS HFP HFl HMy HSq
        obtain ⟨m, hm5, HMod⟩ := Mod_fix kk 5 (by omega) (by omega)
        have HMod := Lib.hid HMod
        have s0 : W5.cell? ⟨sb, 0, none⟩ = some (.int .i64 sid) := by rw [HBs5.out.cell]; rfl
        have s1 : W5.cell? ⟨sb, 1, none⟩ = some (.int .i64 skind) := by rw [HBs5.out.cell]; rfl
        have s2 : W5.cell? ⟨sb, 2, none⟩ = some (.slice L slabels.length lc) := by rw [HBs5.out.cell]; rfl
        have s3 : W5.cell? ⟨sb, 3, none⟩ = some (.string snm) := by rw [HBs5.out.cell]; rfl
        have s4 : W5.cell? ⟨sb, 4, none⟩ = some (.string sproc) := by rw [HBs5.out.cell]; rfl
        have s5 : W5.cell? ⟨sb, 5, none⟩ = some (.int .i64 x0) := by rw [HBs5.out.cell]; rfl
        have s6 : W5.cell? ⟨sb, 6, none⟩ = some (.int .i64 x1) := by rw [HBs5.out.cell]; rfl
        have s7 : W5.cell? ⟨sb, 7, none⟩ = some (.string x2) := by rw [HBs5.out.cell]; rfl
        have s8 : W5.cell? ⟨sb, 8, none⟩ = some (.slice X xn xc) := by rw [HBs5.out.cell]; rfl
        have s9 : W5.cell? ⟨sb, 9, none⟩ = some (.bool shas) := by rw [HBs5.out.cell]; rfl
        have s10 : W5.cell? ⟨sb, 10, none⟩ = some (.slice R sargs.length rc) := by rw [HBs5.out.cell]; rfl
        have s11 : W5.cell? ⟨sb, 11, none⟩ = some (.slice T sth.length tc) := by rw [HBs5.out.cell]; rfl
        have s12 : W5.cell? ⟨sb, 12, none⟩ = some (.slice U sel.length uc) := by rw [HBs5.out.cell]; rfl
        have hsl := HBs5.out.lt
        go_upto_block 0 with (go_at_call 15; refine (HMod.out _).mono ?_; rintro e' w' ⟨rfl, rfl⟩)
        clear s0 s1 s2 s3 s4 s5 s6 s7 s8 s9 s10 s11 s12 hsl HMod
        have HBt6 : Hid (Blk (W5.alloc (.cells #[.int .i64 sid, .int .i64 skind, .slice L slabels.length lc, .string snm, .string sproc, .int .i64 x0, .int .i64 x1, .string x2, .slice X xn xc, .bool shas, .slice R sargs.length rc, .slice T sth.length tc, .slice U sel.length uc] 42)) W5.heap.size 42 #[.int .i64 sid, .int .i64 skind, .slice L slabels.length lc, .string snm, .string sproc, .int .i64 x0, .int .i64 x1, .string x2, .slice X xn xc, .bool shas, .slice R sargs.length rc, .slice T sth.length tc, .slice U sel.length uc]) := Lib.hid (Blk.new _ _ _)
        have HBs6 := Lib.hid (HBs5.out.alloc (.cells #[.int .i64 sid, .int .i64 skind, .slice L slabels.length lc, .string snm, .string sproc, .int .i64 x0, .int .i64 x1, .string x2, .slice X xn xc, .bool shas, .slice R sargs.length rc, .slice T sth.length tc, .slice U sel.length uc] 42))
        have HBp6 := Lib.hid (HBp5.out.alloc (.cells #[.int .i64 sid, .int .i64 skind, .slice L slabels.length lc, .string snm, .string sproc, .int .i64 x0, .int .i64 x1, .string x2, .slice X xn xc, .bool shas, .slice R sargs.length rc, .slice T sth.length tc, .slice U sel.length uc] 42))
        have HB6 : Hid (Below W.heap.size W (W5.alloc (.cells #[.int .i64 sid, .int .i64 skind, .slice L slabels.length lc, .string snm, .string sproc, .int .i64 x0, .int .i64 x1, .string x2, .slice X xn xc, .bool shas, .slice R sargs.length rc, .slice T sth.length tc, .slice U sel.length uc] 42))) := Lib.hid (below_stepA HB5.out _)
        have HI6 := Lib.hid (HI5.out.alloc (.cells #[.int .i64 sid, .int .i64 skind, .slice L slabels.length lc, .string snm, .string sproc, .int .i64 x0, .int .i64 x1, .string x2, .slice X xn xc, .bool shas, .slice R sargs.length rc, .slice T sth.length tc, .slice U sel.length uc] 42))
        have HS6 : Hid (StmtI (W5.alloc (.cells #[.int .i64 sid, .int .i64 skind, .slice L slabels.length lc, .string snm, .string sproc, .int .i64 x0, .int .i64 x1, .string x2, .slice X xn xc, .bool shas, .slice R sargs.length rc, .slice T sth.length tc, .slice U sel.length uc] 42)) (fun j => j < W5.heap.size ∧ j ≠ sb) (S.mk sid skind slabels snm sproc sx shas sargs sth sel) [.int .i64 sid, .int .i64 skind, .slice L slabels.length lc, .string snm, .string sproc, .int .i64 x0, .int .i64 x1, .string x2, .slice X xn xc, .bool shas, .slice R sargs.length rc, .slice T sth.length tc, .slice U sel.length uc]) := Lib.hid (HS5.out.keep (fun j hj => ⟨by have := hj.2; omega, by have := hj.2; omega⟩) (fun p hp => (below_box _).cell (by have := hp.2; omega)))
        have hsb6 : sb < W5.heap.size := HBs5.out.lt
        have hbb6 : b < W5.heap.size := HBp5.out.lt
        have HQ6 : Hid (∀ j, Q j → j < W5.heap.size) := Lib.hid HI5.out.1
        have hW6 : W.heap.size ≤ W5.heap.size := HB5.out.size
        clear HBs5 HBp5 HB5 HI5 HS5 hz45 hs4b
        generalize World.alloc _ _ = W6 at HBt6 HBs6 HBp6 HB6 HI6 HS6 ⊢
        generalize W5.heap.size = tb at HBt6 HS6 hsb6 hbb6 HQ6 hW6 ⊢
        have hst : sb ≠ tb := by omega
        have htl := HBt6.out.lt
        have hsl : sb < W6.heap.size := HBs6.out.lt
        go_cut [12] from 42 to 80 (fun s12 wx => s12 = .pointer (some ⟨tb, 0, none⟩) ∧ ∃ (tkind : Int) (tlabels : List ByteArray) (tnm : ByteArray) (thas : Bool) (targs : List Ar) (tL : Option Addr) (tlc : Nat) (tR : Option Addr) (trc : Nat), Hid (TuR W6 wx sb tb #[.int .i64 sid, .int .i64 skind, .slice L slabels.length lc, .string snm, .string sproc, .int .i64 x0, .int .i64 x1, .string x2, .slice X xn xc, .bool shas, .slice R sargs.length rc, .slice T sth.length tc, .slice U sel.length uc] #[.int .i64 sid, .int .i64 tkind, .slice tL tlabels.length tlc, .string tnm, .string sproc, .int .i64 x0, .int .i64 x1, .string x2, .slice X xn xc, .bool thas, .slice tR targs.length trc, .slice T sth.length tc, .slice U sel.length uc] (S.mk sid skind slabels snm sproc sx shas sargs sth sel) (S.mk sid tkind tlabels tnm sproc sx thas targs sth sel)))
        case first =>
          have HS6' : Hid (StmtI W6 (fun j => j < W6.heap.size ∧ j ≠ tb) (S.mk sid skind slabels snm sproc sx shas sargs sth sel) [.int .i64 sid, .int .i64 skind, .slice L slabels.length lc, .string snm, .string sproc, .int .i64 x0, .int .i64 x1, .string x2, .slice X xn xc, .bool shas, .slice R sargs.length rc, .slice T sth.length tc, .slice U sel.length uc]) := Lib.hid (HS6.out.keep (fun j hj => ⟨by have := hj.1; omega, by have := hj.1; omega⟩) (fun _ _ => rfl))
          obtain ⟨g1, g2, g3, g4, g5, g6, g7, g8, g9⟩ := stmt_parts HS6'.out
          have G := Lib.hid (And.intro g1 (And.intro g2 (And.intro g3 (And.intro g4 (And.intro g5 (And.intro g6 (And.intro g7 (And.intro g8 g9))))))))
          obtain ⟨_, _, er, hrl, hrc⟩ := g7.shape
          obtain ⟨_, _, el_, hll, hlc⟩ := g5.shape
          injection er with er1 er2 er3
          subst er1 er3
          injection el_ with el1 el2 el3
          subst el1 el3
          clear g1 g2 g3 g4 g5 g6 g7 g8 g9 er2 el2
          have hmc : m = 0 ∨ m = 1 ∨ m = 2 ∨ m = 3 ∨ m = 4 := by omega
          rcases hmc with rfl | rfl | rfl | rfl | rfl
          · have t3 : W6.cell? ⟨tb, 3, none⟩ = some (.string snm) := by rw [HBt6.out.cell]; rfl
            have f3 := HBt6.out.frozen 3
            go_wp2_with fail
            go_meet
            exact ⟨rfl, skind, slabels, name, shas, sargs, L, lc, R, rc, Lib.hid (tuR_of HBs6.out HBt6.out (Below.refl _ _) 3 _ hst rfl (StmtI.of_slice G.out.1 G.out.2.1 (by unfold maxLen at hname; omega) G.out.2.2.2.1 G.out.2.2.2.2.1 G.out.2.2.2.2.2.1 G.out.2.2.2.2.2.2.1 G.out.2.2.2.2.2.2.2.1 G.out.2.2.2.2.2.2.2.2) HOk.out (by simp [hd, S.kind, S.labels, S.nm, S.proc, S.x, S.has, S.args]))⟩
          · have s1 : W6.cell? ⟨sb, 1, none⟩ = some (.int .i64 skind) := by rw [HBs6.out.cell]; rfl
            have t1 : W6.cell? ⟨tb, 1, none⟩ = some (.int .i64 skind) := by rw [HBt6.out.cell]; rfl
            have f1 := HBt6.out.frozen 1
            obtain ⟨m1, hm1, HM1⟩ := Mod_fix kk 10 (by omega) (by omega)
            obtain ⟨m2, hm2, HM2⟩ := Mod_fix (IntKind.i64.wrap (skind + m1)) 10 (by omega) (by omega)
            have HM1 : Hid (∀ w : World, Calls Try.prog 15 #[.int .i64 kk, .int .i64 10] w fun e w' => e = .returned (.int .i64 m1) ∧ w = w') := Lib.hid HM1
            have HM2 : Hid (∀ w : World, Calls Try.prog 15 #[.int .i64 (IntKind.i64.wrap (skind + m1)), .int .i64 10] w fun e w' => e = .returned (.int .i64 m2) ∧ w = w') := Lib.hid HM2
            go_wp2_with fail
            go_region_held3 (fun w' => w'.cell? ⟨sb, 1, none⟩ = some (.int .i64 skind))
              (first | exact set_far (w := W6) (a := ⟨tb, 1, none⟩) (p := ⟨sb, 1, none⟩) hst _ s1 | exact set_far (w := W6.drew) (a := ⟨tb, 1, none⟩) (p := ⟨sb, 1, none⟩) hst _ s1 | go_keep)
              (first
                | ((go_at_call 15; (with_reducible refine (HM1.out _).mono ?_); rintro e z1 ⟨rfl, rfl⟩))
                | ((go_at_call 15; (with_reducible refine (HM2.out _).mono ?_); rintro e z2 ⟨rfl, rfl⟩)))
            go_wp2_with fail
            go_meet
            exact ⟨rfl, _, slabels, snm, shas, sargs, L, lc, R, rc, Lib.hid (tuR_of HBs6.out HBt6.out (Below.refl _ _).drew 1 _ hst rfl (StmtI.keep (StmtI.of_slice G.out.1 (by unfold i64; (try rw [IntKind.wrap_i64]); omega) G.out.2.2.1 G.out.2.2.2.1 G.out.2.2.2.2.1 G.out.2.2.2.2.2.1 G.out.2.2.2.2.2.2.1 G.out.2.2.2.2.2.2.2.1 G.out.2.2.2.2.2.2.2.2) (fun _ h => h) (fun _ _ => rfl)) HOk.out (by simp [hd, S.kind, S.labels, S.nm, S.proc, S.x, S.has, S.args]))⟩
          · have s2 : W6.cell? ⟨sb, 2, none⟩ = some (.slice L slabels.length lc) := by rw [HBs6.out.cell]; rfl
            have t2 : W6.cell? ⟨tb, 2, none⟩ = some (.slice L slabels.length lc) := by rw [HBt6.out.cell]; rfl
            have f2 := HBt6.out.frozen 2
            obtain ⟨i0, hi0, hz0, hz1, hz2⟩ := info_parts string_info
            have hsll : slabels.length ≤ 999999 := by have := HLs.out; omega
            have HOw : Hid ((W6.alloc (.cells #[] 9)).ownsRow W6.heap.size 9 1 (.slice (some ⟨W6.heap.size, 0, none⟩) 0 0) 0 []) := Lib.hid ⟨rfl, .inr ⟨W6.heap.size, 0, #[], rfl, Nat.le_refl _, Blk.new _ _ _, by omega, by unfold maxLen; omega, rfl, rfl⟩⟩
            have HOk2 : Hid (∀ (tl : List ByteArray), tl.length = slabels.length + 1 → okC (S.mk sid skind tl snm sproc sx shas sargs sth sel)) := Lib.hid (fun tl h => ⟨HOk.out.1, by rw [h]; have := hsll; omega, HOk.out.2.2⟩)
            by_cases h0 : 0 < slabels.length
            · obtain ⟨a, rfl, _, _, _⟩ := text_at G.out.2.2.2.2.1 (W := W6) ⟨fun b h => h.1, fun _ _ => rfl⟩ (k := 0) h0
              have HCl := Lib.hid (texts_cells G.out.2.2.2.2.1 (W := W6) ⟨fun b h => h.1, fun _ _ => rfl⟩)
              have HCl2 : Hid (∀ j u, (strs slabels)[j]? = some u → (W6.alloc (.cells #[] 9)).cell? (a.add j) = some u) := Lib.hid (fun j u h => cell_new (HCl.out j u h))
              go_wp2_with (at_builtin; refine wpList_append_own_at _ rfl (.tmp 62) (.tmp 64) 22 rfl W6.heap.size 9 i0 _ 1 16 Try.underlying22 hi0 hz0 hz1 hz2 rfl (by decide) _ 0 [] rfl HOw.out a slabels.length lc (strs slabels) rfl (by simp [strs]) HCl2.out (by simp [strs, Value.oneCell']) (by unfold maxLen; omega) (by omega) (by simp) ?_)
              intro v3 w3 hown3 hg3 _ hat3
              obtain ⟨X3, c3, rfl, hc31, hc32⟩ := own_form hown3
              have HB3 : Hid (Below W6.heap.size W6 w3) := Lib.hid ((((Moves.refl _ W6).alloc _).trans (own := fun j => j = W6.heap.size) (moves_grown hg3) (fun j hj => .inl (by simp [Value.ownBlock] at hj; omega))).below (Nat.le_refl _) (fun j hj => by omega))
              have HO3 := Lib.hid hown3
              have HNw := Lib.hid (new16 w3 9 [.string name])
              have hcb : W6.heap.size ≤ w3.heap.size + 1 := by have := HB3.out.size; omega
              clear hown3 hg3 hat3 HOw HCl HCl2
              go_wp2_with (at_builtin; refine wpList_append_own_at _ rfl (.tmp 65) (.tmp 67) 22 rfl W6.heap.size 9 i0 _ 1 16 Try.underlying22 hi0 hz0 hz1 hz2 rfl (by decide) _ slabels.length (strs slabels) rfl (HO3.out.alloc _) ⟨w3.heap.size, 0, none⟩ 1 1 [.string name] rfl rfl HNw.out (by simp [Value.oneCell']) (by unfold maxLen; omega) (by omega) (by rw [World.size_alloc]; exact hcb) ?_)
              intro v4 w4 hown4 hg4 _ hat4
              have HB4 : Hid (Below W6.heap.size W6 w4) := Lib.hid (HB3.out.trans ((((Moves.refl (fun j => (Value.slice X3 slabels.length c3).ownBlock = some j) w3).alloc _).trans (moves_grown hg4) (fun j hj => .inr hj)).below HB3.out.size (fun j hj => (HO3.out.lt j hj).1)))
              have hb4 : Below W6.heap.size W6 w4 := HB4.out
              have y2 : w4.cell? ⟨tb, 2, none⟩ = some (.slice (some a) slabels.length lc) := (hb4.cell (p := ⟨tb, 2, none⟩) htl).trans t2
              have yf2 : w4.frozen? ⟨tb, 2, none⟩ = false := (hb4.frozen (p := ⟨tb, 2, none⟩) htl).trans f2
              have htl4 := Nat.lt_of_lt_of_le htl hb4.size
              have HTx : Hid (TextsI w4 (fun j => W6.heap.size ≤ j ∧ j < w4.heap.size) (slabels ++ [name]) v4) := Lib.hid (texts_of_own (n := slabels.length + 1) (fun s hs => by rcases List.mem_append.1 hs with h | h; exact texts_small G.out.2.2.2.2.1 s h; rw [List.mem_singleton.1 h]; unfold maxLen at hname; omega) (by rw [strs_append]; exact hown4)).2
              obtain ⟨X4, c4, rfl, hc41, hc42⟩ := own_form hown4
              clear hown4 hg4 hat4 hb4
              go_wp2_with fail
              go_meet
              refine ⟨rfl, skind, slabels ++ [name], snm, shas, sargs, X4, c4, R, rc, ?_⟩
              obtain ⟨k1, k2, k3, k4, k5, k6, k7, k8, k9⟩ := stmt_parts (HS6'.out.keep (w' := w4) (Q' := fun j => j < w4.heap.size ∧ j ≠ tb) (fun j hj => ⟨Nat.lt_of_lt_of_le hj.1 HB4.out.size, hj.2⟩) (fun p hp => HB4.out.cell hp.1))
              have hln : (slabels ++ [name]).length = slabels.length + 1 := by simp
              have hTx := HTx.out
              rw [hln]
              exact Lib.hid (tuR_of HBs6.out HBt6.out HB4.out 2 _ hst rfl (StmtI.of_slice k1 k2 k3 k4 (SliceI.keep hTx (fun j hj => ⟨hj.2, by have := hj.1; omega⟩) (fun _ _ => rfl) (fun _ _ _ h => h)) k6 k7 k8 k9) (HOk2.out _ hln) (by simp [hd, S.kind, S.labels, S.nm, S.proc, S.x, S.has, S.args]))
            · obtain rfl : slabels = [] := List.eq_nil_of_length_eq_zero (by omega)
              have HNw : Hid (∀ j u, [Value.string name][j]? = some u → ((W6.alloc (.cells #[] 9)).alloc (.cells #[.string name] 9)).cell? ((⟨W6.heap.size + 1, 0, none⟩ : Addr).add j) = some u) := Lib.hid (by have := new16 (W6.alloc (.cells #[] 9)) 9 [.string name]; simpa using this)
              clear h0
              cases L
              all_goals
                go_wp2_with (at_builtin; refine wpList_append_own_at _ rfl (.tmp 65) (.tmp 67) 22 rfl W6.heap.size 9 i0 _ 1 16 Try.underlying22 hi0 hz0 hz1 hz2 rfl (by decide) _ 0 [] rfl (HOw.out.alloc _) ⟨W6.heap.size + 1, 0, none⟩ 1 1 [.string name] rfl rfl HNw.out (by simp [Value.oneCell']) (by unfold maxLen; omega) (by omega) (by simp only [World.size_alloc]; omega) ?_)
                intro v4 w4 hown4 hg4 _ hat4
                have HB4 : Hid (Below W6.heap.size W6 w4) := Lib.hid (((((Moves.refl _ W6).alloc _).alloc _).trans (own := fun j => j = W6.heap.size) (moves_grown hg4) (fun j hj => .inl (by simp [Value.ownBlock] at hj; omega))).below (Nat.le_refl _) (fun j hj => by omega))
                have hb4 : Below W6.heap.size W6 w4 := HB4.out
                have y2 : w4.cell? ⟨tb, 2, none⟩ = some (.slice _ ([] : List ByteArray).length lc) := (hb4.cell (p := ⟨tb, 2, none⟩) htl).trans t2
                have yf2 : w4.frozen? ⟨tb, 2, none⟩ = false := (hb4.frozen (p := ⟨tb, 2, none⟩) htl).trans f2
                have htl4 := Nat.lt_of_lt_of_le htl hb4.size
                have HTx : Hid (TextsI w4 (fun j => W6.heap.size ≤ j ∧ j < w4.heap.size) (([] : List ByteArray) ++ [name]) v4) := Lib.hid (texts_of_own (n := 0 + 1) (fun s hs => by rcases List.mem_append.1 hs with h | h; exact texts_small G.out.2.2.2.2.1 s h; rw [List.mem_singleton.1 h]; unfold maxLen at hname; omega) (by rw [strs_append]; exact hown4)).2
                obtain ⟨X4, c4, rfl, hc41, hc42⟩ := own_form hown4
                clear hown4 hg4 hat4 hb4
                go_wp2_with fail
                go_meet
                refine ⟨rfl, skind, ([] : List ByteArray) ++ [name], snm, shas, sargs, X4, c4, R, rc, ?_⟩
                obtain ⟨k1, k2, k3, k4, k5, k6, k7, k8, k9⟩ := stmt_parts (HS6'.out.keep (w' := w4) (Q' := fun j => j < w4.heap.size ∧ j ≠ tb) (fun j hj => ⟨Nat.lt_of_lt_of_le hj.1 HB4.out.size, hj.2⟩) (fun p hp => HB4.out.cell hp.1))
                have hln : (([] : List ByteArray) ++ [name]).length = 0 + 1 := by simp
                have hTx := HTx.out
                rw [hln]
                exact Lib.hid (tuR_of HBs6.out HBt6.out HB4.out 2 _ hst rfl (StmtI.of_slice k1 k2 k3 k4 (SliceI.keep hTx (fun j hj => ⟨hj.2, by have := hj.1; omega⟩) (fun _ _ => rfl) (fun _ _ _ h => h)) k6 k7 k8 k9) (HOk2.out _ hln) (by simp [hd, S.kind, S.labels, S.nm, S.proc, S.x, S.has, S.args]))
          · have s10 : W6.cell? ⟨sb, 10, none⟩ = some (.slice R sargs.length rc) := by rw [HBs6.out.cell]; rfl
            have t10 : W6.cell? ⟨tb, 10, none⟩ = some (.slice R sargs.length rc) := by rw [HBt6.out.cell]; rfl
            have f10 := HBt6.out.frozen 10
            have hok3 : okC (S.mk sid skind slabels snm sproc sx shas (sargs.take (sargs.length - 1)) sth sel) := ⟨HOk.out.1, HOk.out.2.1, Nat.le_trans (wAr_take _ _) HOk.out.2.2⟩
            have HOk3 := Lib.hid hok3
            clear hok3
            have hmax : (max 0 ((sargs.length : Int) - 1)).toNat = (sargs.take (sargs.length - 1)).length := by rw [List.length_take]; omega
            have HMx := Lib.hid hmax
            clear hmax
            go_wp2_with fail
            go_meet
            refine ⟨rfl, skind, slabels, snm, shas, sargs.take (sargs.length - 1), L, lc, R, rc, ?_⟩
            rw [HMx.out]
            refine Lib.hid (tuR_of HBs6.out HBt6.out (Below.refl _ _) 10 _ hst rfl (StmtI.of_slice G.out.1 G.out.2.1 G.out.2.2.1 G.out.2.2.2.1 G.out.2.2.2.2.1 G.out.2.2.2.2.2.1 (args_take G.out.2.2.2.2.2.2.1 (by omega)) G.out.2.2.2.2.2.2.2.1 G.out.2.2.2.2.2.2.2.2) HOk3.out ?_)
            unfold hd
            constructor
            · rintro ⟨_, _, _, _, _, _, e⟩
              exact ⟨rfl, rfl, rfl, congrArg List.length e, rfl⟩
            · rintro ⟨_, _, _, e, _⟩
              have e' : (sargs.take (sargs.length - 1)).length = sargs.length := e
              exact ⟨rfl, rfl, rfl, rfl, rfl, rfl, List.take_of_length_le (by rw [List.length_take] at e'; omega)⟩
          · have s9 : W6.cell? ⟨sb, 9, none⟩ = some (.bool shas) := by rw [HBs6.out.cell]; rfl
            have t9 : W6.cell? ⟨tb, 9, none⟩ = some (.bool shas) := by rw [HBt6.out.cell]; rfl
            have f9 := HBt6.out.frozen 9
            go_wp2_with fail
            go_meet
            exact ⟨rfl, skind, slabels, snm, !shas, sargs, L, lc, R, rc, Lib.hid (tuR_of HBs6.out HBt6.out (Below.refl _ _) 9 _ hst rfl (StmtI.of_slice G.out.1 G.out.2.1 G.out.2.2.1 G.out.2.2.2.1 G.out.2.2.2.2.1 G.out.2.2.2.2.2.1 G.out.2.2.2.2.2.2.1 G.out.2.2.2.2.2.2.2.1 G.out.2.2.2.2.2.2.2.2) HOk.out (by simp [hd, S.kind, S.labels, S.nm, S.proc, S.x, S.has, S.args]))⟩
        case rest =>
          obtain ⟨rfl, tkind, tlabels, tnm, thas, targs, tL, tlc, tR, trc, HT⟩ := hcut
          have HBc : Hid (Below W.heap.size W wc) := Lib.hid (HB6.out.trans (HT.out.moves.below (by have := HB6.out.size; omega) (fun j hj => by omega)))
          have HIc : Hid (In Q w wc) := Lib.hid (HI6.out.moves HT.out.moves (fun j hj hq => by have := HQ6.out j hq; omega))
          have HBpc := Lib.hid (HT.out.moves.blk HBp6.out (by omega))
          have HI2 : Hid (In (fun j => j < wc.heap.size ∧ j ≠ tb) wc wc) := Lib.hid ⟨fun j h => h.1, fun _ _ => rfl⟩
          have HPut := Lib.hid (fun V h1 h2 => Put_any (W := V) HP.out HT.out.st h1 h2 HSm.out HT.out.ok)
          have HE4 : Hid (∀ (v : World) (Qc : Nat → Prop) (e0 e1 : Value) (V : World), ProgI v Qc (putP (S.mk sid tkind tlabels tnm sproc sx thas targs sth sel) p) [e0, e1] → In Q w V → In Qc v V → Calls Try.prog 22 #[.agg #[.slice Ag p.globals.length cg, .slice Ap p.procs.length cp], .agg #[e0, e1]] V (MayOk (eqB p (putP (S.mk sid tkind tlabels tnm sproc sx thas targs sth sel) p)) V)) := Lib.hid (fun v Qc e0 e1 V hc h1 h2 => Eq_any (W := V) HP.out hc h1 h2 (szQ_of HSm.out) (szQ_put HSm.out HT.out.ok))
          have HEq : Hid (eqB p (putP (S.mk sid tkind tlabels tnm sproc sx thas targs sth sel) p) = true ↔ (tnm = snm ∧ tkind = skind ∧ tlabels.length = slabels.length ∧ targs.length = sargs.length ∧ thas = shas)) := Lib.hid ((HTu.out (S.mk sid tkind tlabels tnm sproc sx thas targs sth sel) HSid.out).trans HT.out.same)
          have HK : Hid (b < wc.heap.size ∧ tb < wc.heap.size ∧ wc.cell? ⟨b, 0, none⟩ = some (.slice Ag p.globals.length cg) ∧ wc.cell? ⟨b, 1, none⟩ = some (.slice Ap p.procs.length cp) ∧ wc.cell? ⟨tb, 0, none⟩ = some (.int .i64 sid) ∧ wc.cell? ⟨tb, 1, none⟩ = some (.int .i64 tkind) ∧ wc.cell? ⟨tb, 2, none⟩ = some (.slice tL tlabels.length tlc) ∧ wc.cell? ⟨tb, 3, none⟩ = some (.string tnm) ∧ wc.cell? ⟨tb, 4, none⟩ = some (.string sproc) ∧ wc.cell? ⟨tb, 5, none⟩ = some (.int .i64 x0) ∧ wc.cell? ⟨tb, 6, none⟩ = some (.int .i64 x1) ∧ wc.cell? ⟨tb, 7, none⟩ = some (.string x2) ∧ wc.cell? ⟨tb, 8, none⟩ = some (.slice X xn xc) ∧ wc.cell? ⟨tb, 9, none⟩ = some (.bool thas) ∧ wc.cell? ⟨tb, 10, none⟩ = some (.slice tR targs.length trc) ∧ wc.cell? ⟨tb, 11, none⟩ = some (.slice T sth.length tc) ∧ wc.cell? ⟨tb, 12, none⟩ = some (.slice U sel.length uc)) := Lib.hid ⟨HBpc.out.lt, HT.out.bt.lt, by rw [HBpc.out.cell]; rfl, by rw [HBpc.out.cell]; rfl, by rw [HT.out.bt.cell]; rfl, by rw [HT.out.bt.cell]; rfl, by rw [HT.out.bt.cell]; rfl, by rw [HT.out.bt.cell]; rfl, by rw [HT.out.bt.cell]; rfl, by rw [HT.out.bt.cell]; rfl, by rw [HT.out.bt.cell]; rfl, by rw [HT.out.bt.cell]; rfl, by rw [HT.out.bt.cell]; rfl, by rw [HT.out.bt.cell]; rfl, by rw [HT.out.bt.cell]; rfl, by rw [HT.out.bt.cell]; rfl, by rw [HT.out.bt.cell]; rfl⟩
          have u1 : wc.cell? ⟨tb, 1, none⟩ = some (.int .i64 tkind) := by rw [HT.out.bt.cell]; rfl
          have u2 : wc.cell? ⟨tb, 2, none⟩ = some (.slice tL tlabels.length tlc) := by rw [HT.out.bt.cell]; rfl
          have u3 : wc.cell? ⟨tb, 3, none⟩ = some (.string tnm) := by rw [HT.out.bt.cell]; rfl
          have u9 : wc.cell? ⟨tb, 9, none⟩ = some (.bool thas) := by rw [HT.out.bt.cell]; rfl
          have u10 : wc.cell? ⟨tb, 10, none⟩ = some (.slice tR targs.length trc) := by rw [HT.out.bt.cell]; rfl
          have v1 : wc.cell? ⟨sb, 1, none⟩ = some (.int .i64 skind) := by rw [HT.out.bs.cell]; rfl
          have v2 : wc.cell? ⟨sb, 2, none⟩ = some (.slice L slabels.length lc) := by rw [HT.out.bs.cell]; rfl
          have v3 : wc.cell? ⟨sb, 3, none⟩ = some (.string snm) := by rw [HT.out.bs.cell]; rfl
          have v9 : wc.cell? ⟨sb, 9, none⟩ = some (.bool shas) := by rw [HT.out.bs.cell]; rfl
          have v10 : wc.cell? ⟨sb, 10, none⟩ = some (.slice R sargs.length rc) := by rw [HT.out.bs.cell]; rfl
          have hBD : Below wc.heap.size wc wc.drew := (Below.refl _ _).drew
          have L0 := HBpc.out.lt
          have L1 := HT.out.bt.lt
          have L2 := HT.out.bs.lt
          clear HBt6 HBs6 HBp6 HB6 HI6 HS6 HQ6 htl hsl HTu HSid HOk HLs hm5 HT
          cases hn : (tnm.toList == snm.toList) with
          | false =>
            have HEv : Hid (eqB p (putP (S.mk sid tkind tlabels tnm sproc sx thas targs sth sel) p) = false) := Lib.hid (Bool.eq_false_iff.2 (fun e => by obtain ⟨r1, r2, r3, r4, r5⟩ := HEq.out.1 e; rw [dec_bytes] at hn; simp [r1] at hn))
            rw [HEv.out] at HE4
            go_upto_region 22 with fail
            clear u1 u2 u3 u9 u10 v1 v2 v3 v9 v10
            go_region_held3 (fun w' => w'.cell? ⟨b, 0, none⟩ = some (.slice Ag p.globals.length cg) ∧ w'.cell? ⟨b, 1, none⟩ = some (.slice Ap p.procs.length cp) ∧ w'.cell? ⟨tb, 0, none⟩ = some (.int .i64 sid) ∧ w'.cell? ⟨tb, 1, none⟩ = some (.int .i64 tkind) ∧ w'.cell? ⟨tb, 2, none⟩ = some (.slice tL tlabels.length tlc) ∧ w'.cell? ⟨tb, 3, none⟩ = some (.string tnm) ∧ w'.cell? ⟨tb, 4, none⟩ = some (.string sproc) ∧ w'.cell? ⟨tb, 5, none⟩ = some (.int .i64 x0) ∧ w'.cell? ⟨tb, 6, none⟩ = some (.int .i64 x1) ∧ w'.cell? ⟨tb, 7, none⟩ = some (.string x2) ∧ w'.cell? ⟨tb, 8, none⟩ = some (.slice X xn xc) ∧ w'.cell? ⟨tb, 9, none⟩ = some (.bool thas) ∧ w'.cell? ⟨tb, 10, none⟩ = some (.slice tR targs.length trc) ∧ w'.cell? ⟨tb, 11, none⟩ = some (.slice T sth.length tc) ∧ w'.cell? ⟨tb, 12, none⟩ = some (.slice U sel.length uc) ∧ Below wc.heap.size wc w')
              ((refine s15_of ?_ HK.out; first | (with_reducible assumption) | (go_split_ands; with_reducible assumption)))
              (first
                | ((go_at_call 24; have hBU := below_step (V := wc) (by go_split_ands; assumption) (Below.refl _ _); refine (HPut.out _ (HIc.out.on hBU) (HI2.out.on hBU)).mono ?_; rintro e z1 ⟨e0, e1, rfl, hz1, hpp⟩; obtain ⟨Eg, eg, Ep, ep, rfl, rfl, _⟩ := prog_open hpp; have hBx := below_step (V := wc) (by go_split_ands; assumption) hz1; have HPp := Lib.hid hpp))
                | ((go_at_call 22; have hBU := below_step (V := wc) (by go_split_ands; assumption) (Below.refl _ _); refine (HE4.out _ _ _ _ _ HPp.out (HIc.out.on hBU) ⟨fun b hb => hb.2, fun _ _ => rfl⟩).mono ?_; rintro e z2 ⟨rfl, hz2⟩; have hBy := below_step (V := wc) (by go_split_ands; assumption) hz2)))
            go_wp2_with fail
            go_ret
            exact ⟨rfl, below_step HBc.out hBy⟩
          | true =>
            cases hk : (tkind == skind) with
            | false =>
              have HEv : Hid (eqB p (putP (S.mk sid tkind tlabels tnm sproc sx thas targs sth sel) p) = false) := Lib.hid (Bool.eq_false_iff.2 (fun e => by obtain ⟨r1, r2, r3, r4, r5⟩ := HEq.out.1 e; rw [r2] at hk; simp at hk))
              rw [HEv.out] at HE4
              go_upto_region 22 with fail
              clear u1 u2 u3 u9 u10 v1 v2 v3 v9 v10
              go_region_held3 (fun w' => w'.cell? ⟨b, 0, none⟩ = some (.slice Ag p.globals.length cg) ∧ w'.cell? ⟨b, 1, none⟩ = some (.slice Ap p.procs.length cp) ∧ w'.cell? ⟨tb, 0, none⟩ = some (.int .i64 sid) ∧ w'.cell? ⟨tb, 1, none⟩ = some (.int .i64 tkind) ∧ w'.cell? ⟨tb, 2, none⟩ = some (.slice tL tlabels.length tlc) ∧ w'.cell? ⟨tb, 3, none⟩ = some (.string tnm) ∧ w'.cell? ⟨tb, 4, none⟩ = some (.string sproc) ∧ w'.cell? ⟨tb, 5, none⟩ = some (.int .i64 x0) ∧ w'.cell? ⟨tb, 6, none⟩ = some (.int .i64 x1) ∧ w'.cell? ⟨tb, 7, none⟩ = some (.string x2) ∧ w'.cell? ⟨tb, 8, none⟩ = some (.slice X xn xc) ∧ w'.cell? ⟨tb, 9, none⟩ = some (.bool thas) ∧ w'.cell? ⟨tb, 10, none⟩ = some (.slice tR targs.length trc) ∧ w'.cell? ⟨tb, 11, none⟩ = some (.slice T sth.length tc) ∧ w'.cell? ⟨tb, 12, none⟩ = some (.slice U sel.length uc) ∧ Below wc.heap.size wc w')
                ((refine s15_of ?_ HK.out; first | (with_reducible assumption) | (go_split_ands; with_reducible assumption)))
                (first
                  | ((go_at_call 24; have hBU := below_step (V := wc) (by go_split_ands; assumption) (Below.refl _ _); refine (HPut.out _ (HIc.out.on hBU) (HI2.out.on hBU)).mono ?_; rintro e z1 ⟨e0, e1, rfl, hz1, hpp⟩; obtain ⟨Eg, eg, Ep, ep, rfl, rfl, _⟩ := prog_open hpp; have hBx := below_step (V := wc) (by go_split_ands; assumption) hz1; have HPp := Lib.hid hpp))
                  | ((go_at_call 22; have hBU := below_step (V := wc) (by go_split_ands; assumption) (Below.refl _ _); refine (HE4.out _ _ _ _ _ HPp.out (HIc.out.on hBU) ⟨fun b hb => hb.2, fun _ _ => rfl⟩).mono ?_; rintro e z2 ⟨rfl, hz2⟩; have hBy := below_step (V := wc) (by go_split_ands; assumption) hz2)))
              go_wp2_with fail
              go_ret
              exact ⟨rfl, below_step HBc.out hBy⟩
            | true =>
              cases hl : (((tlabels.length : Nat) : Int) == ((slabels.length : Nat) : Int)) with
              | false =>
                have HEv : Hid (eqB p (putP (S.mk sid tkind tlabels tnm sproc sx thas targs sth sel) p) = false) := Lib.hid (Bool.eq_false_iff.2 (fun e => by obtain ⟨r1, r2, r3, r4, r5⟩ := HEq.out.1 e; rw [r3] at hl; simp at hl))
                rw [HEv.out] at HE4
                go_upto_region 22 with fail
                clear u1 u2 u3 u9 u10 v1 v2 v3 v9 v10
                go_region_held3 (fun w' => w'.cell? ⟨b, 0, none⟩ = some (.slice Ag p.globals.length cg) ∧ w'.cell? ⟨b, 1, none⟩ = some (.slice Ap p.procs.length cp) ∧ w'.cell? ⟨tb, 0, none⟩ = some (.int .i64 sid) ∧ w'.cell? ⟨tb, 1, none⟩ = some (.int .i64 tkind) ∧ w'.cell? ⟨tb, 2, none⟩ = some (.slice tL tlabels.length tlc) ∧ w'.cell? ⟨tb, 3, none⟩ = some (.string tnm) ∧ w'.cell? ⟨tb, 4, none⟩ = some (.string sproc) ∧ w'.cell? ⟨tb, 5, none⟩ = some (.int .i64 x0) ∧ w'.cell? ⟨tb, 6, none⟩ = some (.int .i64 x1) ∧ w'.cell? ⟨tb, 7, none⟩ = some (.string x2) ∧ w'.cell? ⟨tb, 8, none⟩ = some (.slice X xn xc) ∧ w'.cell? ⟨tb, 9, none⟩ = some (.bool thas) ∧ w'.cell? ⟨tb, 10, none⟩ = some (.slice tR targs.length trc) ∧ w'.cell? ⟨tb, 11, none⟩ = some (.slice T sth.length tc) ∧ w'.cell? ⟨tb, 12, none⟩ = some (.slice U sel.length uc) ∧ Below wc.heap.size wc w')
                  ((refine s15_of ?_ HK.out; first | (with_reducible assumption) | (go_split_ands; with_reducible assumption)))
                  (first
                    | ((go_at_call 24; have hBU := below_step (V := wc) (by go_split_ands; assumption) (Below.refl _ _); refine (HPut.out _ (HIc.out.on hBU) (HI2.out.on hBU)).mono ?_; rintro e z1 ⟨e0, e1, rfl, hz1, hpp⟩; obtain ⟨Eg, eg, Ep, ep, rfl, rfl, _⟩ := prog_open hpp; have hBx := below_step (V := wc) (by go_split_ands; assumption) hz1; have HPp := Lib.hid hpp))
                    | ((go_at_call 22; have hBU := below_step (V := wc) (by go_split_ands; assumption) (Below.refl _ _); refine (HE4.out _ _ _ _ _ HPp.out (HIc.out.on hBU) ⟨fun b hb => hb.2, fun _ _ => rfl⟩).mono ?_; rintro e z2 ⟨rfl, hz2⟩; have hBy := below_step (V := wc) (by go_split_ands; assumption) hz2)))
                go_wp2_with fail
                go_ret
                exact ⟨rfl, below_step HBc.out hBy⟩
              | true =>
                cases ha : (((targs.length : Nat) : Int) == ((sargs.length : Nat) : Int)) with
                | false =>
                  have HEv : Hid (eqB p (putP (S.mk sid tkind tlabels tnm sproc sx thas targs sth sel) p) = false) := Lib.hid (Bool.eq_false_iff.2 (fun e => by obtain ⟨r1, r2, r3, r4, r5⟩ := HEq.out.1 e; rw [r4] at ha; simp at ha))
                  rw [HEv.out] at HE4
                  go_upto_region 22 with fail
                  clear u1 u2 u3 u9 u10 v1 v2 v3 v9 v10
                  go_region_held3 (fun w' => w'.cell? ⟨b, 0, none⟩ = some (.slice Ag p.globals.length cg) ∧ w'.cell? ⟨b, 1, none⟩ = some (.slice Ap p.procs.length cp) ∧ w'.cell? ⟨tb, 0, none⟩ = some (.int .i64 sid) ∧ w'.cell? ⟨tb, 1, none⟩ = some (.int .i64 tkind) ∧ w'.cell? ⟨tb, 2, none⟩ = some (.slice tL tlabels.length tlc) ∧ w'.cell? ⟨tb, 3, none⟩ = some (.string tnm) ∧ w'.cell? ⟨tb, 4, none⟩ = some (.string sproc) ∧ w'.cell? ⟨tb, 5, none⟩ = some (.int .i64 x0) ∧ w'.cell? ⟨tb, 6, none⟩ = some (.int .i64 x1) ∧ w'.cell? ⟨tb, 7, none⟩ = some (.string x2) ∧ w'.cell? ⟨tb, 8, none⟩ = some (.slice X xn xc) ∧ w'.cell? ⟨tb, 9, none⟩ = some (.bool thas) ∧ w'.cell? ⟨tb, 10, none⟩ = some (.slice tR targs.length trc) ∧ w'.cell? ⟨tb, 11, none⟩ = some (.slice T sth.length tc) ∧ w'.cell? ⟨tb, 12, none⟩ = some (.slice U sel.length uc) ∧ Below wc.heap.size wc w')
                    ((refine s15_of ?_ HK.out; first | (with_reducible assumption) | (go_split_ands; with_reducible assumption)))
                    (first
                      | ((go_at_call 24; have hBU := below_step (V := wc) (by go_split_ands; assumption) (Below.refl _ _); refine (HPut.out _ (HIc.out.on hBU) (HI2.out.on hBU)).mono ?_; rintro e z1 ⟨e0, e1, rfl, hz1, hpp⟩; obtain ⟨Eg, eg, Ep, ep, rfl, rfl, _⟩ := prog_open hpp; have hBx := below_step (V := wc) (by go_split_ands; assumption) hz1; have HPp := Lib.hid hpp))
                      | ((go_at_call 22; have hBU := below_step (V := wc) (by go_split_ands; assumption) (Below.refl _ _); refine (HE4.out _ _ _ _ _ HPp.out (HIc.out.on hBU) ⟨fun b hb => hb.2, fun _ _ => rfl⟩).mono ?_; rintro e z2 ⟨rfl, hz2⟩; have hBy := below_step (V := wc) (by go_split_ands; assumption) hz2)))
                  go_wp2_with fail
                  go_ret
                  exact ⟨rfl, below_step HBc.out hBy⟩
                | true =>
                  cases hh : (thas == shas) with
                  | false =>
                    have HEv : Hid (eqB p (putP (S.mk sid tkind tlabels tnm sproc sx thas targs sth sel) p) = false) := Lib.hid (Bool.eq_false_iff.2 (fun e => by obtain ⟨r1, r2, r3, r4, r5⟩ := HEq.out.1 e; rw [r5] at hh; simp at hh))
                    rw [HEv.out] at HE4
                    go_upto_region 22 with fail
                    clear u1 u2 u3 u9 u10 v1 v2 v3 v9 v10
                    go_region_held3 (fun w' => w'.cell? ⟨b, 0, none⟩ = some (.slice Ag p.globals.length cg) ∧ w'.cell? ⟨b, 1, none⟩ = some (.slice Ap p.procs.length cp) ∧ w'.cell? ⟨tb, 0, none⟩ = some (.int .i64 sid) ∧ w'.cell? ⟨tb, 1, none⟩ = some (.int .i64 tkind) ∧ w'.cell? ⟨tb, 2, none⟩ = some (.slice tL tlabels.length tlc) ∧ w'.cell? ⟨tb, 3, none⟩ = some (.string tnm) ∧ w'.cell? ⟨tb, 4, none⟩ = some (.string sproc) ∧ w'.cell? ⟨tb, 5, none⟩ = some (.int .i64 x0) ∧ w'.cell? ⟨tb, 6, none⟩ = some (.int .i64 x1) ∧ w'.cell? ⟨tb, 7, none⟩ = some (.string x2) ∧ w'.cell? ⟨tb, 8, none⟩ = some (.slice X xn xc) ∧ w'.cell? ⟨tb, 9, none⟩ = some (.bool thas) ∧ w'.cell? ⟨tb, 10, none⟩ = some (.slice tR targs.length trc) ∧ w'.cell? ⟨tb, 11, none⟩ = some (.slice T sth.length tc) ∧ w'.cell? ⟨tb, 12, none⟩ = some (.slice U sel.length uc) ∧ Below wc.heap.size wc w')
                      ((refine s15_of ?_ HK.out; first | (with_reducible assumption) | (go_split_ands; with_reducible assumption)))
                      (first
                        | ((go_at_call 24; have hBU := below_step (V := wc) (by go_split_ands; assumption) (Below.refl _ _); refine (HPut.out _ (HIc.out.on hBU) (HI2.out.on hBU)).mono ?_; rintro e z1 ⟨e0, e1, rfl, hz1, hpp⟩; obtain ⟨Eg, eg, Ep, ep, rfl, rfl, _⟩ := prog_open hpp; have hBx := below_step (V := wc) (by go_split_ands; assumption) hz1; have HPp := Lib.hid hpp))
                        | ((go_at_call 22; have hBU := below_step (V := wc) (by go_split_ands; assumption) (Below.refl _ _); refine (HE4.out _ _ _ _ _ HPp.out (HIc.out.on hBU) ⟨fun b hb => hb.2, fun _ _ => rfl⟩).mono ?_; rintro e z2 ⟨rfl, hz2⟩; have hBy := below_step (V := wc) (by go_split_ands; assumption) hz2)))
                    go_wp2_with fail
                    go_ret
                    exact ⟨rfl, below_step HBc.out hBy⟩
                  | true =>
                    have HEv : Hid (eqB p (putP (S.mk sid tkind tlabels tnm sproc sx thas targs sth sel) p) = true) := Lib.hid (HEq.out.2 ⟨by rw [dec_bytes] at hn; simpa using hn, eq_of_beq hk, by have := eq_of_beq hl; omega, by have := eq_of_beq ha; omega, eq_of_beq hh⟩)
                    rw [HEv.out] at HE4
                    go_upto_region 22 with fail
                    clear u1 u2 u3 u9 u10 v1 v2 v3 v9 v10
                    go_region_held3 (fun w' => w'.cell? ⟨b, 0, none⟩ = some (.slice Ag p.globals.length cg) ∧ w'.cell? ⟨b, 1, none⟩ = some (.slice Ap p.procs.length cp) ∧ w'.cell? ⟨tb, 0, none⟩ = some (.int .i64 sid) ∧ w'.cell? ⟨tb, 1, none⟩ = some (.int .i64 tkind) ∧ w'.cell? ⟨tb, 2, none⟩ = some (.slice tL tlabels.length tlc) ∧ w'.cell? ⟨tb, 3, none⟩ = some (.string tnm) ∧ w'.cell? ⟨tb, 4, none⟩ = some (.string sproc) ∧ w'.cell? ⟨tb, 5, none⟩ = some (.int .i64 x0) ∧ w'.cell? ⟨tb, 6, none⟩ = some (.int .i64 x1) ∧ w'.cell? ⟨tb, 7, none⟩ = some (.string x2) ∧ w'.cell? ⟨tb, 8, none⟩ = some (.slice X xn xc) ∧ w'.cell? ⟨tb, 9, none⟩ = some (.bool thas) ∧ w'.cell? ⟨tb, 10, none⟩ = some (.slice tR targs.length trc) ∧ w'.cell? ⟨tb, 11, none⟩ = some (.slice T sth.length tc) ∧ w'.cell? ⟨tb, 12, none⟩ = some (.slice U sel.length uc) ∧ Below wc.heap.size wc w')
                      ((refine s15_of ?_ HK.out; first | (with_reducible assumption) | (go_split_ands; with_reducible assumption)))
                      (first
                        | ((go_at_call 24; have hBU := below_step (V := wc) (by go_split_ands; assumption) (Below.refl _ _); refine (HPut.out _ (HIc.out.on hBU) (HI2.out.on hBU)).mono ?_; rintro e z1 ⟨e0, e1, rfl, hz1, hpp⟩; obtain ⟨Eg, eg, Ep, ep, rfl, rfl, _⟩ := prog_open hpp; have hBx := below_step (V := wc) (by go_split_ands; assumption) hz1; have HPp := Lib.hid hpp))
                        | ((go_at_call 22; have hBU := below_step (V := wc) (by go_split_ands; assumption) (Below.refl _ _); refine (HE4.out _ _ _ _ _ HPp.out (HIc.out.on hBU) ⟨fun b hb => hb.2, fun _ _ => rfl⟩).mono ?_; rintro e z2 ⟨rfl, hz2⟩; have hBy := below_step (V := wc) (by go_split_ands; assumption) hz2)))
                    go_wp2_with fail
                    go_ret
                    exact ⟨rfl, below_step HBc.out hBy⟩
end Go.Proofs.Ytobepaghdahcnaa
