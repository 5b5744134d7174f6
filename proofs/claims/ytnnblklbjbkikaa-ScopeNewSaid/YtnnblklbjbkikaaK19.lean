/- Texts, merged by a program; only what is used. -/
import Derived.Test.YtnnblklbjbkikaaK1
import Derived.Test.YtnnblklbjbkikaaK2
import Derived.Test.YtnnblklbjbkikaaK3
import Derived.Test.YtnnblklbjbkikaaK4
import Derived.Test.YtnnblklbjbkikaaK5
import Derived.Test.YtnnblklbjbkikaaK6
import Derived.Test.YtnnblklbjbkikaaK7
import Derived.Test.YtnnblklbjbkikaaK8
import Derived.Test.YtnnblklbjbkikaaK9
import Derived.Test.YtnnblklbjbkikaaK10
import Derived.Test.YtnnblklbjbkikaaK11
import Derived.Test.YtnnblklbjbkikaaK12
import Derived.Test.YtnnblklbjbkikaaK13
import Derived.Test.YtnnblklbjbkikaaK14
import Derived.Test.YtnnblklbjbkikaaK15
import Derived.Test.YtnnblklbjbkikaaK17
import Derived.Test.YtnnblklbjbkikaaK18
namespace Go.Proofs.Ytnnblklbjbkikaa
open Go.ChangeShapes Go.WideShapes Go.ChangeAt Go.RowKit Go.Deep
set_option linter.unusedVariables false
set_option linter.unusedSimpArgs false
theorem may_lens {p : Pg} (hm : mayP p = true) : p.globals.length ≤ 16 ∧ p.procs.length ≤ 16 ∧ ∀ q ∈ p.procs, q.params.length ≤ 8 ∧ q.vars.length ≤ 16 := by
 have h1 : p.globals.length ≤ 16 ∧ p.procs.length ≤ 16 := by
  have h := hm
  unfold mayP at h
  simp only [Bool.and_eq_true, Bool.not_eq_true', decide_eq_false_iff_not] at h
  omega
 refine ⟨h1.1, h1.2, fun q hq => ?_⟩
 have hh : headOk q = true := by
  rw [← rMayP_eq] at hm
  unfold rMayP at hm
  simp only [Bool.and_eq_true] at hm
  exact List.all_eq_true.1 hm.1.1.2 q hq
 unfold headOk at hh
 simp only [Bool.and_eq_true, Bool.not_eq_true', decide_eq_false_iff_not] at hh
 omega
theorem own_at {w : World} {base n : Nat} {e : TypeId} {v : Value} {xs : List Value} (h : w.ownsRow base e 1 v n xs) {k : Nat} (hk : k < n) :
  ∃ a cap, v = .slice (some a) n cap ∧ (∀ x, xs[k]? = some x → w.cell? (a.add k) = some x) ∧ w.frozen? (a.add k) = false ∧ base ≤ (a.add k).block := by
 obtain ⟨hl, h'⟩ := h
 rcases h' with ⟨_, rfl⟩ | ⟨g, cap, cur, rfl, hb, hg, hnc, hm, hs, ht⟩
 ·omega
 ·refine ⟨⟨g, 0, none⟩, cap, rfl, fun x hx => own_cells (m := n) (cap := cap) (n := n) (w := w) (base := base) (e := e) (size := 1) (xs := xs) ⟨hl, .inr ⟨g, cap, cur, rfl, hb, hg, hnc, hm, hs, ht⟩⟩ k x hx, ?_, ?_⟩
  ·rw [addr0]
   exact (show Blk w g e cur from hg).frozen k
  ·rw [addr0]; exact hb
def varsP (p : Pg) (proc : ByteArray) : List ByteArray := if mayP p = true then (p.procs.find? (isQ proc)).elim [] (namesP p.globals) else []
set_option maxHeartbeats 2000000 in
set_option maxRecDepth 100000 in
theorem Vars_any {w : World} {Q : Nat → Prop} {p : Pg} {c0 c1 : Value} (h : ProgI w Q p [c0, c1]) (hsm : SmG p) (proc : ByteArray) (W : World) (hI : In Q w W) :
  Calls Try.prog 34 #[.agg #[c0, c1], .string proc] W (NewRow (varsP p proc) W) := by
 have HF := Lib.hid (fun V hV => find_any h proc V hV)
 obtain ⟨Ag, cg, Ap, cp, rfl, rfl, _, _, _, _, hgl, hpr⟩ := prog_open h
 have HP := Lib.hid hpr
 have HGl := Lib.hid hgl
 have HI := Lib.hid hI
 have HSm := Lib.hid hsm
 have hfd : (fndP p proc = -1 ∧ varsP p proc = []) ∨ ∃ j, ∃ hj : j < p.procs.length, fndP p proc = ((j : Nat) : Int) ∧ varsP p proc = namesP p.globals p.procs[j] ∧ mayP p = true := by
  unfold fndP varsP
  by_cases hm : mayP p = true
  ·rw [if_pos hm, if_pos hm]
   rcases idxL_get (isQ proc) p.procs 0 with ⟨h1, h2⟩ | ⟨j, hj, h1, _, h3⟩
   ·exact .inl ⟨h1, by rw [h2]; rfl⟩
   ·exact .inr ⟨j, hj, by rw [h1, Nat.zero_add], by rw [h3]; rfl, hm⟩
  ·rw [if_neg hm, if_neg hm]
   exact .inl ⟨rfl, rfl⟩
 clear h hI hpr hgl hsm
 generalize fndP p proc = z at HF hfd
 go_enter Try.func34, Try.ntmps34
 go_upto_region 1 with fail
 have HB0 : Hid (Below W.heap.size W (W.alloc (.cells #[.slice Ag p.globals.length cg, .slice Ap p.procs.length cp] 25))) := Lib.hid (below_box _)
 have HBp : Hid (Blk (W.alloc (.cells #[.slice Ag p.globals.length cg, .slice Ap p.procs.length cp] 25)) W.heap.size 25 #[.slice Ag p.globals.length cg, .slice Ap p.procs.length cp]) := Lib.hid (Blk.new _ _ _)
 generalize World.alloc _ _ = V at HB0 HBp ⊢
 generalize hbe : W.heap.size = b at HBp ⊢
 clear hbe
 have HI0 := Lib.hid (HI.out.on HB0.out)
 have q0 : V.cell? ⟨b, 0, none⟩ = some (.slice Ag p.globals.length cg) := by rw [HBp.out.cell]; rfl
 have q1 : V.cell? ⟨b, 1, none⟩ = some (.slice Ap p.procs.length cp) := by rw [HBp.out.cell]; rfl
 have hbl := HBp.out.lt
 go_upto_region 2 with (go_at_call 85; refine (HF.out V HI0.out).mono ?_; rintro e w1 ⟨rfl, hb1⟩)
 have HB1 := Lib.hid (below_step HB0.out hb1)
 have HI1 := Lib.hid (HI0.out.on hb1)
 have HBp1 := Lib.hid (HBp.out.below hb1 hbl)
 clear q0 q1 hbl hb1 HB0 HBp HI0 HF
 rcases hfd with ⟨rfl, hk⟩ | ⟨j, hj, rfl, hk, hm⟩
 ·have HK0 := Lib.hid hk
  clear hk
  go_wp2_with fail
  go_ret
  exact ⟨.slice none 0 0, rfl, by rw [HK0.out]; exact World.ownsRow_nil _ _ _ _, HB1.out⟩
 ·obtain ⟨a, Bp, kp, Bv, kv, Bb, kb, Be, ke, rfl, hqa, hrow, hnm, hpp, hvv, hbody, hee⟩ := proc_at HP.out HI1.out hj
  have HPI : Hid (ProcI w Q p.procs[j] [.string p.procs[j].nm, .slice Bp p.procs[j].params.length kp, .slice Bv p.procs[j].vars.length kv, .slice Bb p.procs[j].body.length kb, .slice Be p.procs[j].end_.length ke]) := Lib.hid ⟨_, _, _, _, rfl, hnm, hpp, hvv, hbody, hee⟩
  obtain ⟨hm1, _, hm2⟩ := may_lens hm
  have hm3 := hm2 _ (List.getElem_mem hj)
  have HC := Lib.hid (fun V hV => namesIn_any HGl.out HPI.out ⟨hm1, hm3.1, hm3.2⟩ V hV)
  have HL : Hid (∀ s ∈ namesP p.globals p.procs[j], s.size ≤ 281474976710656) := Lib.hid (by
   obtain ⟨_, h2, h3, _⟩ := (U.smC_of HSm.out hm).proc _ (List.getElem_mem hj)
   intro s hs
   unfold namesP at hs
   simp only [List.mem_append, List.mem_map] at hs
   rcases hs with (hs | ⟨x, hx, rfl⟩) | hs
   ·exact Nat.le_trans ((U.smC_of HSm.out hm).globals.2 _ hs) (by omega)
   ·exact Nat.le_trans (h2.2 _ hx) (by omega)
   ·exact Nat.le_trans (h3.2 _ hs) (by omega))
  have hll : (namesP p.globals p.procs[j]).length ≤ 40 := by simp [namesP]; omega
  have HK0 := Lib.hid hk
  generalize namesP p.globals p.procs[j] = l at HC HK0 HL hll
  generalize p.procs[j].nm = x0 at hrow HC
  generalize p.procs[j].params.length = x1 at hrow HC
  generalize p.procs[j].vars.length = x2 at hrow HC
  generalize p.procs[j].body.length = x3 at hrow HC
  generalize p.procs[j].end_.length = x4 at hrow HC
  obtain ⟨p0, p1, p2, p3, p4, _⟩ := hrow
  clear HPI hk hnm hpp hvv hbody hee hm hm1 hm2 hm3 HSm
  have q0 : w1.cell? ⟨b, 0, none⟩ = some (.slice Ag p.globals.length cg) := by rw [HBp1.out.cell]; rfl
  have q1 : w1.cell? ⟨b, 1, none⟩ = some (.slice (some a) p.procs.length cp) := by rw [HBp1.out.cell]; rfl
  have hbl := HBp1.out.lt
  have HQa : Hid (Q (a.add (j * 5)).block) := Lib.hid (by rw [block_add]; exact hqa)
  clear hqa
  have hdr : ∀ V : World, In Q w V → In Q w V.drew := fun V h => h
  have hBD : Below w1.heap.size w1 w1.drew := (Below.refl _ _).drew
  go_upto_region 4 with fail
  go_region_held3 (fun w' => w'.cell? ⟨b, 0, none⟩ = some (.slice Ag p.globals.length cg) ∧ w'.cell? ⟨b, 1, none⟩ = some (.slice (some a) p.procs.length cp) ∧ w'.cell? (a.add (j * 5)) = some (.string x0) ∧ w'.cell? ⟨(a.add (j * 5)).block, (a.add (j * 5)).off + 1, none⟩ = some (.slice Bp x1 kp) ∧ w'.cell? ⟨(a.add (j * 5)).block, (a.add (j * 5)).off + 2, none⟩ = some (.slice Bv x2 kv) ∧ w'.cell? ⟨(a.add (j * 5)).block, (a.add (j * 5)).off + 3, none⟩ = some (.slice Bb x3 kb) ∧ w'.cell? ⟨(a.add (j * 5)).block, (a.add (j * 5)).off + 4, none⟩ = some (.slice Be x4 ke))
   (go_keep)
   ((go_at_call 76; refine (HC.out _ (hdr _ HI1.out)).mono ?_; rintro e' w2 ⟨v2, rfl, ho2, hb2⟩; obtain ⟨X2, k2, rfl, _, _⟩ := own_shape ho2; have HO2 := Lib.hid ho2; clear ho2; have hb2' := hBD.trans hb2; have HI2 := Lib.hid (HI1.out.on hb2'); have k0 := (hb2'.cell (p := ⟨b, 0, none⟩) hbl).trans q0; have k1 := (hb2'.cell (p := ⟨b, 1, none⟩) hbl).trans q1; have r0 := (HI2.out.cell (p := a.add (j * 5)) HQa.out).trans ((HI1.out.cell (p := a.add (j * 5)) HQa.out).symm.trans p0); have r1 := (HI2.out.cell (p := ⟨(a.add (j * 5)).block, (a.add (j * 5)).off + 1, none⟩) HQa.out).trans ((HI1.out.cell (p := ⟨(a.add (j * 5)).block, (a.add (j * 5)).off + 1, none⟩) HQa.out).symm.trans p1); have r2 := (HI2.out.cell (p := ⟨(a.add (j * 5)).block, (a.add (j * 5)).off + 2, none⟩) HQa.out).trans ((HI1.out.cell (p := ⟨(a.add (j * 5)).block, (a.add (j * 5)).off + 2, none⟩) HQa.out).symm.trans p2); have r3 := (HI2.out.cell (p := ⟨(a.add (j * 5)).block, (a.add (j * 5)).off + 3, none⟩) HQa.out).trans ((HI1.out.cell (p := ⟨(a.add (j * 5)).block, (a.add (j * 5)).off + 3, none⟩) HQa.out).symm.trans p3); have r4 := (HI2.out.cell (p := ⟨(a.add (j * 5)).block, (a.add (j * 5)).off + 4, none⟩) HQa.out).trans ((HI1.out.cell (p := ⟨(a.add (j * 5)).block, (a.add (j * 5)).off + 4, none⟩) HQa.out).symm.trans p4)))
  have HB2 : Hid (Below w1.heap.size w1 w2) := Lib.hid hb2'
  have HO3 : Hid (w2.ownsRow w1.heap.size 9 1 (.slice X2 l.length k2) l.length (strs l)) := HO2
  clear p0 p1 p2 p3 p4 q0 q1 hbl hb2 hb2' k0 k1 r0 r1 r2 r3 r4 hdr hBD HQa HO2 HC
  go_wp2_with fail
  go_loopw [24] (fun iv wr => ∃ (k : Nat), k ≤ l.length ∧ iv = .int .i64 k ∧ Hid (Below w1.heap.size w1 wr) ∧ Hid (wr.ownsRow w1.heap.size 9 1 (.slice X2 l.length k2) l.length (strs l))) (fun iv _ => l.length - (intOf iv).toNat)
  case atStart => exact ⟨0, Nat.zero_le _, rfl, HB2, HO3⟩
  case round =>
   clear HB2 HO3
   obtain ⟨k, hk, rfl, HBr, HOr⟩ := hrel
   by_cases hlt : k < l.length
   ·obtain ⟨g, cap, he, hc, hf, hb⟩ := own_at HOr.out hlt
    injection he with h1 _ h3
    subst h1 h3
    have hsz : l[k].size ≤ 281474976710656 := HL.out _ (List.getElem_mem hlt)
    have HCl := Lib.hid (fun V => Clone_any l[k] V hsz)
    have p := hc (.string l[k]) (by simp [strs, List.getElem?_map, List.getElem?_eq_getElem hlt])
    have HC : Hid (∀ w2 : World, w2.ownsRow w1.heap.size 9 1 (.slice (some g) l.length k2) l.length (strs l) → w2.cell? (g.add k) = some (.string l[k]) ∧ w2.frozen? (g.add k) = false) := Lib.hid (fun w2 h2 => by
     obtain ⟨g', cap', he', hc', hf', _⟩ := own_at h2 hlt
     injection he' with h1' _ h3'
     injection h1' with h1'
     subst h1'
     exact ⟨hc' _ (by simp [strs, List.getElem?_map, List.getElem?_eq_getElem hlt]), hf'⟩)
    generalize l[k] = s at HCl p HC
    clear hc hf hb hsz
    go_upto_region 8 with fail
    go_upto_region 9 with (go_at_call 86; refine (HCl.out _).mono ?_; rintro e w3 ⟨rfl, hb3⟩; have HO3 := Lib.hid ((Below.moves hb3).row HOr.out (fun j hj e => Nat.not_lt.2 e (HOr.out.lt j hj).2)); obtain ⟨p3, f3⟩ := HC.out _ HO3.out; have HB3 := Lib.hid hb3; clear hb3)
    rw [U.setCell_same p3]
    clear p3 f3
    go_wp2_with fail
    go_roundw
    case rel => exact ⟨k + 1, by omega, by go_num, Lib.hid (below_step HBr.out HB3.out), HO3⟩
    case measure => simp [intOf]; omega
   ·go_wp2_with fail
    go_ret
    exact ⟨_, rfl, by rw [HK0.out]; exact own_lower HOr.out HB1.out.size, below_step HB1.out HBr.out⟩
end Go.Proofs.Ytnnblklbjbkikaa
namespace Go.Proofs.Ytnnblklbjbkikaa
open Go.ChangeShapes Go.WideShapes Go.ChangeAt Go.RowKit Go.Deep
set_option linter.unusedVariables false
set_option linter.unusedSimpArgs false
def rightS (gl : List ByteArray) (q : Pr) (ps : List ByteArray) (s : S) : Bool := (varsS s).all (fun v => knd gl q v != 0) && (s.kind != 4 || (!(s.proc.toList == [109, 97, 105, 110]) && ps.any (isT s.proc)))
set_option maxHeartbeats 4000000 in
set_option maxRecDepth 100000 in
theorem right_any {w : World} {Q : Nat → Prop} {gl ps : List ByteArray} {vg vs : Value} {q : Pr} {s : S} {c0 c1 c2 c3 c4 : Value} {cs : List Value} (hg : TextsI w Q gl vg) (hps : TextsI w Q ps vs) (hq : ProcI w Q q [c0, c1, c2, c3, c4]) (h : StmtI w Q s cs) (hn : (varsS s).length ≤ 1000000) (W : World) (hI : In Q w W) :
 Calls Try.prog 115 #[.agg #[vg, vs, c0, c1, c2, c3, c4], .agg cs.toArray] W (MayOk (rightS gl q ps s) W) := by
 have HVa := Lib.hid (fun V hV => variables_any h hn V hV)
 have HKi := Lib.hid (fun s V hV => kindIn_any hg hq s V hV)
 have HCo := Lib.hid (fun s V hV => Contains_any (W := V) hps hV s)
 obtain ⟨id, kind, labels, nm, proc, x, has, args, th, el, L, lc, x0, x1, x2, X, xn, xc, R, rc, T, tc, U, uc, rfl, rfl, hid, hkind, hnm, hproc, hl, hx, ha, hth, hel⟩ := stmt_open h
 obtain ⟨vp, vv, vb, ve, hc, hnq, hpp, hvv, hbb, hee⟩ := hq
 simp only [List.cons.injEq, and_true] at hc
 obtain ⟨rfl, rfl, rfl, rfl, rfl⟩ := hc
 obtain ⟨Ap, cp, rfl, _, _⟩ := hpp.shape
 obtain ⟨Av, cv, rfl, _, _⟩ := hvv.shape
 obtain ⟨Ab, cb, rfl, _⟩ := hbb.shape
 obtain ⟨Ae, ce, rfl, _⟩ := hee.shape
 obtain ⟨Ag, cg, rfl, _⟩ := hg.shape
 obtain ⟨As, cs', rfl, _⟩ := hps.shape
 have HI := Lib.hid hI
 have HR : Hid (rightS gl q ps (.mk id kind labels nm proc x has args th el) = ((varsS (.mk id kind labels nm proc x has args th el)).all (fun v => knd gl q v != 0) && (kind != 4 || (!(proc.toList == [109, 97, 105, 110]) && ps.any (isT proc))))) := Lib.hid rfl
 have hok := hkind
 unfold i64 at hok
 have hLn := hn
 clear h hn hI hl hx ha hth hel hid hkind hnm hproc hg hps hnq hpp hvv hbb hee
 generalize varsS (.mk id kind labels nm proc x has args th el) = l at HVa HR hLn
 simp only [List.toArray] at HVa ⊢
 have HLn := Lib.hid hLn
 clear hLn
 go_enter Try.func115, Try.ntmps115
 go_upto_region 1 with fail
 have HBc : Hid (Blk ((W.alloc (.cells #[.slice Ag gl.length cg, .slice As ps.length cs', .string q.nm, .slice Ap q.params.length cp, .slice Av q.vars.length cv, .slice Ab q.body.length cb, .slice Ae q.end_.length ce] 114)).alloc (.cells #[.int .i64 id, .int .i64 kind, .slice L labels.length lc, .string nm, .string proc, .int .i64 x0, .int .i64 x1, .string x2, .slice X xn xc, .bool has, .slice R args.length rc, .slice T th.length tc, .slice U el.length uc] 55)) W.heap.size 114 #[.slice Ag gl.length cg, .slice As ps.length cs', .string q.nm, .slice Ap q.params.length cp, .slice Av q.vars.length cv, .slice Ab q.body.length cb, .slice Ae q.end_.length ce]) := Lib.hid ((Blk.new _ _ _).alloc _)
 have HBs : Hid (Blk ((W.alloc (.cells #[.slice Ag gl.length cg, .slice As ps.length cs', .string q.nm, .slice Ap q.params.length cp, .slice Av q.vars.length cv, .slice Ab q.body.length cb, .slice Ae q.end_.length ce] 114)).alloc (.cells #[.int .i64 id, .int .i64 kind, .slice L labels.length lc, .string nm, .string proc, .int .i64 x0, .int .i64 x1, .string x2, .slice X xn xc, .bool has, .slice R args.length rc, .slice T th.length tc, .slice U el.length uc] 55)) (W.heap.size + 1) 55 #[.int .i64 id, .int .i64 kind, .slice L labels.length lc, .string nm, .string proc, .int .i64 x0, .int .i64 x1, .string x2, .slice X xn xc, .bool has, .slice R args.length rc, .slice T th.length tc, .slice U el.length uc]) := Lib.hid (by have := Blk.new (W.alloc (.cells #[.slice Ag gl.length cg, .slice As ps.length cs', .string q.nm, .slice Ap q.params.length cp, .slice Av q.vars.length cv, .slice Ab q.body.length cb, .slice Ae q.end_.length ce] 114)) 55 #[.int .i64 id, .int .i64 kind, .slice L labels.length lc, .string nm, .string proc, .int .i64 x0, .int .i64 x1, .string x2, .slice X xn xc, .bool has, .slice R args.length rc, .slice T th.length tc, .slice U el.length uc]; rw [World.size_alloc] at this; exact this)
 have HB0 : Hid (Below W.heap.size W ((W.alloc (.cells #[.slice Ag gl.length cg, .slice As ps.length cs', .string q.nm, .slice Ap q.params.length cp, .slice Av q.vars.length cv, .slice Ab q.body.length cb, .slice Ae q.end_.length ce] 114)).alloc (.cells #[.int .i64 id, .int .i64 kind, .slice L labels.length lc, .string nm, .string proc, .int .i64 x0, .int .i64 x1, .string x2, .slice X xn xc, .bool has, .slice R args.length rc, .slice T th.length tc, .slice U el.length uc] 55))) := Lib.hid (below_stepA (below_box _) _)
 generalize World.alloc _ _ = V at HBc HBs HB0 ⊢
 have HI0 := Lib.hid (HI.out.on HB0.out)
 have hbc := HBc.out.lt
 have hbs := HBs.out.lt
 generalize hb1 : W.heap.size + 1 = b1 at *
 generalize W.heap.size = b at HBc HBs hbc hbs ⊢
 have q0 : V.cell? ⟨b1, 0, none⟩ = some (.int .i64 id) := by rw [HBs.out.cell]; rfl
 have q1 : V.cell? ⟨b1, 1, none⟩ = some (.int .i64 kind) := by rw [HBs.out.cell]; rfl
 have q2 : V.cell? ⟨b1, 2, none⟩ = some (.slice L labels.length lc) := by rw [HBs.out.cell]; rfl
 have q3 : V.cell? ⟨b1, 3, none⟩ = some (.string nm) := by rw [HBs.out.cell]; rfl
 have q4 : V.cell? ⟨b1, 4, none⟩ = some (.string proc) := by rw [HBs.out.cell]; rfl
 have q5 : V.cell? ⟨b1, 5, none⟩ = some (.int .i64 x0) := by rw [HBs.out.cell]; rfl
 have q6 : V.cell? ⟨b1, 6, none⟩ = some (.int .i64 x1) := by rw [HBs.out.cell]; rfl
 have q7 : V.cell? ⟨b1, 7, none⟩ = some (.string x2) := by rw [HBs.out.cell]; rfl
 have q8 : V.cell? ⟨b1, 8, none⟩ = some (.slice X xn xc) := by rw [HBs.out.cell]; rfl
 have q9 : V.cell? ⟨b1, 9, none⟩ = some (.bool has) := by rw [HBs.out.cell]; rfl
 have q10 : V.cell? ⟨b1, 10, none⟩ = some (.slice R args.length rc) := by rw [HBs.out.cell]; rfl
 have q11 : V.cell? ⟨b1, 11, none⟩ = some (.slice T th.length tc) := by rw [HBs.out.cell]; rfl
 have q12 : V.cell? ⟨b1, 12, none⟩ = some (.slice U el.length uc) := by rw [HBs.out.cell]; rfl
 go_upto_region 2 with (go_at_call 148; refine (HVa.out V HI0.out).mono ?_; rintro e w1 ⟨v1, rfl, ho1, hbb1⟩; obtain ⟨X1, k1, rfl, _, _⟩ := own_shape ho1)
 have HO1 := Lib.hid ho1
 have HB1 := Lib.hid hbb1
 clear q0 q1 q2 q3 q4 q5 q6 q7 q8 q9 q10 q11 q12 ho1 hbb1 HVa
 go_loopw [10] (fun iv wr => ∃ (k : Nat), k ≤ l.length ∧ iv = .int .i64 k ∧ Hid (Below V.heap.size V wr) ∧ Hid (wr.ownsRow V.heap.size 9 1 (.slice X1 l.length k1) l.length (strs l)) ∧ Hid ((l.drop k).all (fun v => knd gl q v != 0) = l.all (fun v => knd gl q v != 0))) (fun iv _ => l.length - (intOf iv).toNat)
 case atStart => exact ⟨0, Nat.zero_le _, rfl, HB1, HO1, Lib.hid rfl⟩
 case round =>
  clear HB1 HO1
  obtain ⟨k, hk, rfl, HBr, HOr, HA⟩ := hrel
  have HIr := Lib.hid (HI0.out.on HBr.out)
  have HBcr := Lib.hid (HBc.out.below HBr.out hbc)
  have HBsr := Lib.hid (HBs.out.below HBr.out hbs)
  have z0 : wr.cell? ⟨b, 0, none⟩ = some (.slice Ag gl.length cg) := by rw [HBcr.out.cell]; rfl
  have z1 : wr.cell? ⟨b, 1, none⟩ = some (.slice As ps.length cs') := by rw [HBcr.out.cell]; rfl
  by_cases hlt : k < l.length
  ·obtain ⟨g, cap, he, hcl, _, _⟩ := own_at HOr.out hlt
   injection he with h1 _ h3
   subst h1 h3
   have p := hcl (.string l[k]) (by simp [strs, List.getElem?_map, List.getElem?_eq_getElem hlt])
   have HAk : Hid ((l.drop k).all (fun v => knd gl q v != 0) = ((knd gl q l[k] != 0) && (l.drop (k + 1)).all (fun v => knd gl q v != 0))) := Lib.hid (by rw [List.drop_eq_getElem_cons hlt, List.all_cons])
   rw [HA.out] at HAk
   have HK := Lib.hid (HKi.out l[k] wr HIr.out)
   generalize l[k] = t at p HK HAk
   generalize knd gl q t = z at HK HAk
   have z2 : wr.cell? ⟨b, 2, none⟩ = some (.string q.nm) := by rw [HBcr.out.cell]; rfl
   have z3 : wr.cell? ⟨b, 3, none⟩ = some (.slice Ap q.params.length cp) := by rw [HBcr.out.cell]; rfl
   have z4 : wr.cell? ⟨b, 4, none⟩ = some (.slice Av q.vars.length cv) := by rw [HBcr.out.cell]; rfl
   have z5 : wr.cell? ⟨b, 5, none⟩ = some (.slice Ab q.body.length cb) := by rw [HBcr.out.cell]; rfl
   have z6 : wr.cell? ⟨b, 6, none⟩ = some (.slice Ae q.end_.length ce) := by rw [HBcr.out.cell]; rfl
   clear hcl
   by_cases hz : z = 0
   ·subst hz
    go_wp2_with (go_at_call 87; refine HK.out.mono ?_; rintro e w2 ⟨rfl, hb2⟩)
    go_ret
    exact ⟨ret_bool (by rw [HR.out, HAk.out]; rfl), below_step HB0.out (below_step HBr.out hb2)⟩
   ·have hz1 : (z == 0) = false := beq_eq_false_iff_ne.2 hz
    have HAn : Hid (l.all (fun v => knd gl q v != 0) = (l.drop (k + 1)).all (fun v => knd gl q v != 0)) := Lib.hid (by rw [HAk.out, bne, hz1]; rfl)
    clear hz HAk
    go_wp2_with (go_at_call 87; refine HK.out.mono ?_; rintro e w2 ⟨rfl, hb2⟩; have HB2 := Lib.hid (below_step HBr.out hb2); have HO2 := Lib.hid ((Below.moves hb2).row HOr.out (fun j hj e => Nat.not_lt.2 e (HOr.out.lt j hj).2)); clear hb2)
    go_roundw
    case rel => exact ⟨k + 1, by omega, by go_num, HB2, HO2, Lib.hid HAn.out.symm⟩
    case measure => simp [intOf]; omega
  ·have HAe : Hid (l.all (fun v => knd gl q v != 0) = true) := Lib.hid (by rw [← HA.out, List.drop_of_length_le (by omega)]; rfl)
   rw [HAe.out, Bool.true_and] at HR
   have y1 : wr.cell? ⟨b1, 1, none⟩ = some (.int .i64 kind) := by rw [HBsr.out.cell]; rfl
   have y4 : wr.cell? ⟨b1, 4, none⟩ = some (.string proc) := by rw [HBsr.out.cell]; rfl
   have HC := Lib.hid (HCo.out proc wr HIr.out)
   generalize ps.any (isT proc) = z at HC HR
   clear HAe HA
   by_cases hk4 : kind = 4
   ·subst hk4
    cases hm : proc.toList == [109, 97, 105, 110] with
    | true =>
     rw [hm] at HR
     go_wp2_with fail
     go_ret
     exact ⟨ret_bool (by rw [HR.out]; rfl), below_step HB0.out HBr.out⟩
    | false =>
     rw [hm] at HR
     go_wp2_with (go_at_call 94; refine HC.out.mono ?_; rintro e w' ⟨rfl, rfl⟩)
     go_ret
     exact ⟨ret_bool (by rw [HR.out]; rfl), below_step HB0.out HBr.out⟩
   ·have hk5 : (kind == 4) = false := beq_eq_false_iff_ne.2 hk4
    have HR2 : Hid (rightS gl q ps (.mk id kind labels nm proc x has args th el) = true) := Lib.hid (by rw [HR.out, bne, hk5]; rfl)
    have hk6 : (kind != 4) = true := by simp [bne, hk5]
    clear hk4 HR
    go_wp2_with fail
    go_ret
    exact ⟨ret_bool HR2.out.symm, below_step HB0.out HBr.out⟩
end Go.Proofs.Ytnnblklbjbkikaa
namespace Go.Proofs.Ytnnblklbjbkikaa
open Go.ChangeShapes Go.WideShapes Go.ChangeAt Go.RowKit Go.Deep
set_option linter.unusedVariables false
set_option linter.unusedSimpArgs false
def fstB (f : S → Bool) (L : List S) : Int := (L.find? f).elim 0 S.id
theorem fstB_cons {f : S → Bool} {x : S} {L : List S} : fstB f (x :: L) = if f x = true then x.id else fstB f L := by
 unfold fstB
 rw [List.find?_cons]
 cases f x <;> rfl
theorem fstB_app {f : S → Bool} {A B : List S} (h : ∀ s ∈ A, s.id ≠ 0) : fstB f (A ++ B) = if fstB f A = 0 then fstB f B else fstB f A := by
 unfold fstB
 rw [List.find?_append]
 cases hf : A.find? f with
 | none => simp
 | some x =>
  have := h x (List.mem_of_find?_eq_some hf)
  simp [this]
def badS (gl : List ByteArray) (q : Pr) (ps : List ByteArray) (s : S) : Bool := !rightS gl q ps s
theorem fstB_step {f : S → Bool} {l : List S} {k : Nat} (h : k < l.length) (hz : ∀ s ∈ preSL l, s.id ≠ 0) : fstB f (preSL (l.drop k)) = if f l[k] = true then l[k].id else if fstB f (preSL l[k].th) = 0 then (if fstB f (preSL l[k].el) = 0 then fstB f (preSL (l.drop (k + 1))) else fstB f (preSL l[k].el)) else fstB f (preSL l[k].th) := by
 have hm : ∀ s ∈ subS l[k], s.id ≠ 0 := fun s hs => hz s (by
  have h1 : ∀ (l : List S) (k : Nat) (h : k < l.length), ∀ s ∈ preS l[k], s ∈ preSL l := by
   intro l
   induction l with
   | nil => intro k h; cases h
   | cons x l ih =>
    intro k h s hs
    rw [preSL]
    cases k with
    | zero => exact List.mem_append_left _ hs
    | succ k => exact List.mem_append_right _ (ih k (by simpa using h) s (by simpa using hs))
  exact h1 l k h s (by rw [preS_eq]; exact List.mem_cons_of_mem _ hs))
 rw [subS_eq] at hm
 rw [List.drop_eq_getElem_cons h, preSL_cons, fstB_cons, subS_eq, List.append_assoc, fstB_app (fun s hs => hm s (List.mem_append_left _ hs)), fstB_app (fun s hs => hm s (List.mem_append_right _ hs))]
def WrOk (r : Int) (W : World) (e : Ending) (w' : World) : Prop := e = .returned (.int .i64 r) ∧ Below W.heap.size W w'
set_option maxHeartbeats 4000000 in
set_option maxRecDepth 100000 in
theorem wrong_any {w : World} {Q : Nat → Prop} {gl ps : List ByteArray} {vg vs : Value} {q : Pr} {c0 c1 c2 c3 c4 : Value} (hg : TextsI w Q gl vg) (hps : TextsI w Q ps vs) (hq : ProcI w Q q [c0, c1, c2, c3, c4]) : ∀ (N : Nat) (l : List S), (preSL l).length < N → ∀ {W : World} {A : Option Addr} {cap : Nat}, StmtsI w Q l (.slice A l.length cap) → In Q w W → (∀ s ∈ preSL l, s.id ≠ 0) → (∀ s ∈ preSL l, (varsS s).length ≤ 1000000) →
 Calls Try.prog 77 #[.agg #[vg, vs, c0, c1, c2, c3, c4], .slice A l.length cap] W (WrOk (fstB (badS gl q ps) (preSL l)) W) := by
 have HRi := Lib.hid (fun s cs (h : StmtI w Q s cs) hn V hV => right_any hg hps hq h hn V hV)
 obtain ⟨vp, vv, vb, ve, hc, hnq, hpp, hvv, hbb, hee⟩ := hq
 simp only [List.cons.injEq, and_true] at hc
 obtain ⟨rfl, rfl, rfl, rfl, rfl⟩ := hc
 obtain ⟨Ap, cp, rfl, _, _⟩ := hpp.shape
 obtain ⟨Av, cv, rfl, _, _⟩ := hvv.shape
 obtain ⟨Ab, cb, rfl, _⟩ := hbb.shape
 obtain ⟨Ae, ce, rfl, _⟩ := hee.shape
 obtain ⟨Ag, cg, rfl, _⟩ := hg.shape
 obtain ⟨As, cs, rfl, _⟩ := hps.shape
 clear hg hps hnq hpp hvv hbb hee
 intro N
 induction N with
 | zero => intro l h; omega
 | succ N ih =>
  intro l hN W A cap hl hI hz hv
  obtain ⟨_, hlc, hcap, _⟩ := slice_len hl
  have IH := Lib.hid @ih
  have HN := Lib.hid hN
  have HL := Lib.hid hl
  have HI := Lib.hid hI
  have HZ := Lib.hid hz
  have HVv := Lib.hid hv
  clear ih hN hl hI hz hv
  go_enter Try.func77, Try.ntmps77
  go_upto_region 1 with fail
  have HBc : Hid (Blk (W.alloc (.cells #[.slice Ag gl.length cg, .slice As ps.length cs, .string q.nm, .slice Ap q.params.length cp, .slice Av q.vars.length cv, .slice Ab q.body.length cb, .slice Ae q.end_.length ce] 114)) W.heap.size 114 #[.slice Ag gl.length cg, .slice As ps.length cs, .string q.nm, .slice Ap q.params.length cp, .slice Av q.vars.length cv, .slice Ab q.body.length cb, .slice Ae q.end_.length ce]) := Lib.hid (Blk.new _ _ _)
  have HB0 : Hid (Below W.heap.size W (W.alloc (.cells #[.slice Ag gl.length cg, .slice As ps.length cs, .string q.nm, .slice Ap q.params.length cp, .slice Av q.vars.length cv, .slice Ab q.body.length cb, .slice Ae q.end_.length ce] 114))) := Lib.hid (below_box _)
  generalize World.alloc _ _ = V at HBc HB0 ⊢
  have HI0 := Lib.hid (HI.out.on HB0.out)
  have hbc := HBc.out.lt
  generalize W.heap.size = b at HBc hbc ⊢
  go_upto_region 2 with fail
  go_loopw [11] (fun iv wr => ∃ (k : Nat), k ≤ l.length ∧ iv = .int .i64 k ∧ Hid (Below V.heap.size V wr) ∧ Hid (fstB (badS gl q ps) (preSL (l.drop k)) = fstB (badS gl q ps) (preSL l))) (fun iv _ => l.length - (intOf iv).toNat)
  case atStart => exact ⟨0, Nat.zero_le _, rfl, Lib.hid (Below.refl _ _), Lib.hid rfl⟩
  case round =>
   obtain ⟨k, hk, rfl, HBr, HA⟩ := hrel
   have HIr := Lib.hid (HI0.out.on HBr.out)
   have HBcr := Lib.hid (HBc.out.below HBr.out hbc)
   by_cases hlt : k < l.length
   ·obtain ⟨a, id, kind, labels, nm, proc, x, has, args, th, el, L, lc, x0, x1, x2, X, xn, xc, R, rc, T, tc, U, uc, rfl, hqa, hlk, ⟨p0, p1, p2, p3, p4, p5, p6, p7, p8, p9, p10, p11, p12, _⟩, hid, hkind, hnm, hproc, htx, hx, ha, hth, hel, hst⟩ := stmt_at HL.out HIr.out hlt
    have HAk : Hid (fstB (badS gl q ps) (preSL l) = if badS gl q ps (.mk id kind labels nm proc x has args th el) = true then id else if fstB (badS gl q ps) (preSL th) = 0 then (if fstB (badS gl q ps) (preSL el) = 0 then fstB (badS gl q ps) (preSL (l.drop (k + 1))) else fstB (badS gl q ps) (preSL el)) else fstB (badS gl q ps) (preSL th)) := Lib.hid (by
     have h := fstB_step (f := badS gl q ps) hlt HZ.out
     rw [HA.out, hlk] at h
     exact h)
    have hsub := preSL_at hlt
    have hmem : ∀ s ∈ preS l[k], s ∈ preSL l := fun s hs => by
     have h1 : ∀ (l : List S) (k : Nat) (h : k < l.length), ∀ s ∈ preS l[k], s ∈ preSL l := by
      intro l
      induction l with
      | nil => intro k h; cases h
      | cons x l ih =>
       intro k h s hs
       rw [preSL]
       cases k with
       | zero => exact List.mem_append_left _ hs
       | succ k => exact List.mem_append_right _ (ih k (by simpa using h) s (by simpa using hs))
     exact h1 l k hlt s hs
    rw [hlk, subS_eq] at hsub
    rw [hlk, preS_eq, subS_eq] at hmem
    rw [List.length_append] at hsub
    rw [hlk] at hst
    have HR := Lib.hid (fun V hV => HRi.out _ _ hst (HVv.out _ (hmem _ (List.mem_cons_self ..))) V hV)
    have HT := Lib.hid (fun V hV => IH.out th (by have := HN.out; simp only [S.th, S.el] at hsub; omega) (W := V) hth hV (fun s hs => HZ.out s (hmem s (List.mem_cons_of_mem _ (List.mem_append_left _ hs)))) (fun s hs => HVv.out s (hmem s (List.mem_cons_of_mem _ (List.mem_append_left _ hs)))))
    have HE := Lib.hid (fun V hV => IH.out el (by have := HN.out; simp only [S.th, S.el] at hsub; omega) (W := V) hel hV (fun s hs => HZ.out s (hmem s (List.mem_cons_of_mem _ (List.mem_append_right _ hs)))) (fun s hs => HVv.out s (hmem s (List.mem_cons_of_mem _ (List.mem_append_right _ hs)))))
    simp only [List.toArray] at HR
    have HB : Hid (badS gl q ps (.mk id kind labels nm proc x has args th el) = !rightS gl q ps (.mk id kind labels nm proc x has args th el)) := Lib.hid rfl
    rw [HB.out] at HAk
    have hidb := hid
    unfold i64 at hidb
    clear HB hlk hsub hmem hst hid hkind hnm hproc htx hx ha hth hel hqa
    generalize rightS gl q ps (.mk id kind labels nm proc x has args th el) = r at HR HAk
    generalize fstB (badS gl q ps) (preSL th) = r1 at HT HAk
    generalize fstB (badS gl q ps) (preSL el) = r2 at HE HAk
    go_upto_region 4 with fail
    have HBx : Hid (Blk (wr.alloc (.cells #[.int .i64 id, .int .i64 kind, .slice L labels.length lc, .string nm, .string proc, .int .i64 x0, .int .i64 x1, .string x2, .slice X xn xc, .bool has, .slice R args.length rc, .slice T th.length tc, .slice U el.length uc] 55)) wr.heap.size 55 #[.int .i64 id, .int .i64 kind, .slice L labels.length lc, .string nm, .string proc, .int .i64 x0, .int .i64 x1, .string x2, .slice X xn xc, .bool has, .slice R args.length rc, .slice T th.length tc, .slice U el.length uc]) := Lib.hid (Blk.new _ _ _)
    have HB4 : Hid (Below V.heap.size V (wr.alloc (.cells #[.int .i64 id, .int .i64 kind, .slice L labels.length lc, .string nm, .string proc, .int .i64 x0, .int .i64 x1, .string x2, .slice X xn xc, .bool has, .slice R args.length rc, .slice T th.length tc, .slice U el.length uc] 55))) := Lib.hid (below_stepA HBr.out _)
    have HI4 : Hid (In Q w (wr.alloc (.cells #[.int .i64 id, .int .i64 kind, .slice L labels.length lc, .string nm, .string proc, .int .i64 x0, .int .i64 x1, .string x2, .slice X xn xc, .bool has, .slice R args.length rc, .slice T th.length tc, .slice U el.length uc] 55))) := Lib.hid (HIr.out.alloc _)
    have HBc4 : Hid (Blk (wr.alloc (.cells #[.int .i64 id, .int .i64 kind, .slice L labels.length lc, .string nm, .string proc, .int .i64 x0, .int .i64 x1, .string x2, .slice X xn xc, .bool has, .slice R args.length rc, .slice T th.length tc, .slice U el.length uc] 55)) b 114 #[.slice Ag gl.length cg, .slice As ps.length cs, .string q.nm, .slice Ap q.params.length cp, .slice Av q.vars.length cv, .slice Ab q.body.length cb, .slice Ae q.end_.length ce]) := Lib.hid (HBcr.out.alloc _)
    clear p0 p1 p2 p3 p4 p5 p6 p7 p8 p9 p10 p11 p12 HIr HBcr
    generalize World.alloc wr _ = V4 at HBx HB4 HI4 HBc4 ⊢
    generalize wr.heap.size = bx at HBx ⊢
    have hb4 := HBc4.out.lt
    have hx4 := HBx.out.lt
    have z0 : V4.cell? ⟨b, 0, none⟩ = some (.slice Ag gl.length cg) := by rw [HBc4.out.cell]; rfl
    have z1 : V4.cell? ⟨b, 1, none⟩ = some (.slice As ps.length cs) := by rw [HBc4.out.cell]; rfl
    have z2 : V4.cell? ⟨b, 2, none⟩ = some (.string q.nm) := by rw [HBc4.out.cell]; rfl
    have z3 : V4.cell? ⟨b, 3, none⟩ = some (.slice Ap q.params.length cp) := by rw [HBc4.out.cell]; rfl
    have z4 : V4.cell? ⟨b, 4, none⟩ = some (.slice Av q.vars.length cv) := by rw [HBc4.out.cell]; rfl
    have z5 : V4.cell? ⟨b, 5, none⟩ = some (.slice Ab q.body.length cb) := by rw [HBc4.out.cell]; rfl
    have z6 : V4.cell? ⟨b, 6, none⟩ = some (.slice Ae q.end_.length ce) := by rw [HBc4.out.cell]; rfl
    have y0 : V4.cell? ⟨bx, 0, none⟩ = some (.int .i64 id) := by rw [HBx.out.cell]; rfl
    have y1 : V4.cell? ⟨bx, 1, none⟩ = some (.int .i64 kind) := by rw [HBx.out.cell]; rfl
    have y2 : V4.cell? ⟨bx, 2, none⟩ = some (.slice L labels.length lc) := by rw [HBx.out.cell]; rfl
    have y3 : V4.cell? ⟨bx, 3, none⟩ = some (.string nm) := by rw [HBx.out.cell]; rfl
    have y4 : V4.cell? ⟨bx, 4, none⟩ = some (.string proc) := by rw [HBx.out.cell]; rfl
    have y5 : V4.cell? ⟨bx, 5, none⟩ = some (.int .i64 x0) := by rw [HBx.out.cell]; rfl
    have y6 : V4.cell? ⟨bx, 6, none⟩ = some (.int .i64 x1) := by rw [HBx.out.cell]; rfl
    have y7 : V4.cell? ⟨bx, 7, none⟩ = some (.string x2) := by rw [HBx.out.cell]; rfl
    have y8 : V4.cell? ⟨bx, 8, none⟩ = some (.slice X xn xc) := by rw [HBx.out.cell]; rfl
    have y9 : V4.cell? ⟨bx, 9, none⟩ = some (.bool has) := by rw [HBx.out.cell]; rfl
    have y10 : V4.cell? ⟨bx, 10, none⟩ = some (.slice R args.length rc) := by rw [HBx.out.cell]; rfl
    have y11 : V4.cell? ⟨bx, 11, none⟩ = some (.slice T th.length tc) := by rw [HBx.out.cell]; rfl
    have y12 : V4.cell? ⟨bx, 12, none⟩ = some (.slice U el.length uc) := by rw [HBx.out.cell]; rfl
    cases r with
    | false =>
     have HAn : Hid (fstB (badS gl q ps) (preSL l) = id) := Lib.hid (by rw [HAk.out]; rfl)
     clear HAk
     go_upto_region 5 with (go_at_call 115; refine (HR.out V4 HI4.out).mono ?_; rintro e w5 ⟨rfl, hb5⟩)
     have HBx5 := Lib.hid (HBx.out.below hb5 hx4)
     have HB5 := Lib.hid (below_step HB4.out hb5)
     clear z0 z1 z2 z3 z4 z5 z6 y0 y1 y2 y3 y4 y5 y6 y7 y8 y9 y10 y11 y12 hb5
     have y0 : w5.cell? ⟨bx, 0, none⟩ = some (.int .i64 id) := by rw [HBx5.out.cell]; rfl
     go_wp2_with fail
     go_ret
     exact ⟨ret_int HAn.out.symm, below_step HB0.out HB5.out⟩
    | true =>
     go_upto_region 6 with (go_at_call 115; refine (HR.out V4 HI4.out).mono ?_; rintro e w5 ⟨rfl, hb5⟩)
     have HBx5 := Lib.hid (HBx.out.below hb5 hx4)
     have HBc5 := Lib.hid (HBc4.out.below hb5 hb4)
     have HB5 := Lib.hid (below_step HB4.out hb5)
     have HI5 := Lib.hid (HI4.out.on hb5)
     clear z0 z1 z2 z3 z4 z5 z6 y0 y1 y2 y3 y4 y5 y6 y7 y8 y9 y10 y11 y12 hb5 HB4 HI4 HBx HBc4 HR hb4 hx4
     have hb5 := HBc5.out.lt
     have hx5 := HBx5.out.lt
     have z0 : w5.cell? ⟨b, 0, none⟩ = some (.slice Ag gl.length cg) := by rw [HBc5.out.cell]; rfl
     have z1 : w5.cell? ⟨b, 1, none⟩ = some (.slice As ps.length cs) := by rw [HBc5.out.cell]; rfl
     have z2 : w5.cell? ⟨b, 2, none⟩ = some (.string q.nm) := by rw [HBc5.out.cell]; rfl
     have z3 : w5.cell? ⟨b, 3, none⟩ = some (.slice Ap q.params.length cp) := by rw [HBc5.out.cell]; rfl
     have z4 : w5.cell? ⟨b, 4, none⟩ = some (.slice Av q.vars.length cv) := by rw [HBc5.out.cell]; rfl
     have z5 : w5.cell? ⟨b, 5, none⟩ = some (.slice Ab q.body.length cb) := by rw [HBc5.out.cell]; rfl
     have z6 : w5.cell? ⟨b, 6, none⟩ = some (.slice Ae q.end_.length ce) := by rw [HBc5.out.cell]; rfl
     have y11 : w5.cell? ⟨bx, 11, none⟩ = some (.slice T th.length tc) := by rw [HBx5.out.cell]; rfl
     go_upto_region 7 with (go_at_call 77; refine (HT.out w5 HI5.out).mono ?_; rintro e w6 ⟨rfl, hb6⟩)
     have HBx6 := Lib.hid (HBx5.out.below hb6 hx5)
     have HBc6 := Lib.hid (HBc5.out.below hb6 hb5)
     have HB6 := Lib.hid (below_step HB5.out hb6)
     have HI6 := Lib.hid (HI5.out.on hb6)
     clear z0 z1 z2 z3 z4 z5 z6 y11 hb5 hb6 HB5 HI5 HBx5 HBc5 hx5 HT
     by_cases h1 : r1 = 0
     ·subst h1
      have HAn : Hid (fstB (badS gl q ps) (preSL l) = if r2 = 0 then fstB (badS gl q ps) (preSL (l.drop (k + 1))) else r2) := Lib.hid (by rw [HAk.out]; rfl)
      clear HAk
      have z0 : w6.cell? ⟨b, 0, none⟩ = some (.slice Ag gl.length cg) := by rw [HBc6.out.cell]; rfl
      have z1 : w6.cell? ⟨b, 1, none⟩ = some (.slice As ps.length cs) := by rw [HBc6.out.cell]; rfl
      have z2 : w6.cell? ⟨b, 2, none⟩ = some (.string q.nm) := by rw [HBc6.out.cell]; rfl
      have z3 : w6.cell? ⟨b, 3, none⟩ = some (.slice Ap q.params.length cp) := by rw [HBc6.out.cell]; rfl
      have z4 : w6.cell? ⟨b, 4, none⟩ = some (.slice Av q.vars.length cv) := by rw [HBc6.out.cell]; rfl
      have z5 : w6.cell? ⟨b, 5, none⟩ = some (.slice Ab q.body.length cb) := by rw [HBc6.out.cell]; rfl
      have z6 : w6.cell? ⟨b, 6, none⟩ = some (.slice Ae q.end_.length ce) := by rw [HBc6.out.cell]; rfl
      have y12 : w6.cell? ⟨bx, 12, none⟩ = some (.slice U el.length uc) := by rw [HBx6.out.cell]; rfl
      by_cases h2 : r2 = 0
      ·subst h2
       rw [if_pos rfl] at HAn
       go_wp2_with (go_at_call 77; refine (HE.out w6 HI6.out).mono ?_; rintro e w7 ⟨rfl, hb7⟩; have HB7 := Lib.hid (below_step HB6.out hb7); clear hb7)
       go_roundw
       case rel => exact ⟨k + 1, by omega, by go_num, HB7, Lib.hid HAn.out.symm⟩
       case measure => simp [intOf]; omega
      ·rw [if_neg h2] at HAn
       have h2' : (r2 == 0) = false := beq_eq_false_iff_ne.2 h2
       clear h2
       go_wp2_with (go_at_call 77; refine (HE.out w6 HI6.out).mono ?_; rintro e w7 ⟨rfl, hb7⟩; have HB7 := Lib.hid (below_step HB6.out hb7); clear hb7)
       go_ret
       exact ⟨ret_int HAn.out.symm, below_step HB0.out HB7.out⟩
     ·have HAn : Hid (fstB (badS gl q ps) (preSL l) = r1) := Lib.hid (by rw [HAk.out, if_neg h1]; rfl)
      have h1' : (r1 == 0) = false := beq_eq_false_iff_ne.2 h1
      clear h1 HAk
      go_wp2_with fail
      go_ret
      exact ⟨ret_int HAn.out.symm, below_step HB0.out HB6.out⟩
   ·have HAe : Hid (fstB (badS gl q ps) (preSL l) = 0) := Lib.hid (by rw [← HA.out, List.drop_of_length_le (by omega), preSL]; rfl)
    go_wp2_with fail
    go_ret
    exact ⟨ret_int HAe.out.symm, below_step HB0.out HBr.out⟩
end Go.Proofs.Ytnnblklbjbkikaa
