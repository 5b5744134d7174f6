/- Texts, merged by a program; only what is used. -/
import Derived.Deep.LoopGhost
import Derived.Test.YtcocilpifdjibaaK1
import Derived.Test.YtcocilpifdjibaaK2
import Derived.Test.YtcocilpifdjibaaK3
import Derived.Test.YtcocilpifdjibaaK4
import Derived.Test.YtcocilpifdjibaaK5
import Derived.Test.YtcocilpifdjibaaK6
import Derived.Test.YtcocilpifdjibaaK7
import Derived.Test.YtcocilpifdjibaaK8
import Derived.Test.YtcocilpifdjibaaK9
import Derived.Test.YtcocilpifdjibaaK10
import Derived.Test.YtcocilpifdjibaaK11
import Derived.Test.YtcocilpifdjibaaK12
import Derived.Test.YtcocilpifdjibaaK13
import Derived.Test.YtcocilpifdjibaaK14
import Derived.Test.YtcocilpifdjibaaK15
import Derived.Test.YtcocilpifdjibaaK18
import Derived.Test.YtcocilpifdjibaaK19
import Derived.Test.YtcocilpifdjibaaK20
import Derived.Test.YtcocilpifdjibaaK21
import Derived.Test.YtcocilpifdjibaaK23
import Derived.Test.YtcocilpifdjibaaK25
import Derived.Test.YtcocilpifdjibaaK26
import Derived.Test.YtcocilpifdjibaaK27
import Derived.Test.YtcocilpifdjibaaK28
import Derived.Test.YtcocilpifdjibaaK29
namespace Go.Proofs.Ytcocilpifdjibaa.U
open Go.ChangeShapes Go.WideShapes Go.ChangeAt Go.RowKit Go.Deep
set_option linter.unusedVariables false
set_option linter.unusedSimpArgs false
theorem Unf.frozen' {w : World} {a : Addr} (h : Unf w a.block) : w.frozen? a = false := by
  obtain ⟨t, cs, h⟩ := h
  unfold Blk at h
  unfold World.frozen?
  rw [h]
  simp
theorem prOk_step {l : List Pr} {k q : Nat} (hlt : k < l.length) (hq : q ≤ 200) (h : (prOk (l.drop k) q).isSome = true) :
    q + (preSL l[k].body).length ≤ 200 ∧ (∀ j (h : j < (preSL l[k].body).length), (preSL l[k].body)[j].id = ((q + 1 + j : Nat) : Int)) ∧ (prOk (l.drop (k + 1)) (q + (preSL l[k].body).length)).isSome = true := by
  rw [prOk_drop hlt] at h
  split at h
  · cases h1 : blkOk l[k].body 1 q with
    | none => rw [h1] at h; cases h
    | some c =>
      rw [h1] at h
      obtain ⟨a1, a2, _⟩ := flatL_pre _ _ _ _ h1
      have := blkOk_le _ _ _ _ hq h1
      subst a1
      exact ⟨this, a2, h⟩
  · cases h
set_option maxHeartbeats 4000000 in
set_option maxRecDepth 100000 in
theorem Number_any {w W : World} {Q : Nat → Prop} {p : Pg} {c0 c1 : Value} (h : ProgI w Q p [c0, c1]) (hI : In Q w W) (hsm : SmG p) (hm : mayP p = true) :
    Calls Try.prog 20 #[.agg #[c0, c1]] W fun e w' => ∃ d0 d1, e = .returned (.agg #[d0, d1]) ∧ Below W.heap.size W w' ∧ ProgI w' (nw W w') p [d0, d1] := by
  have HC := Lib.hid (fun V hV => cloneProgram_any (W := V) h hV (smC_of hsm hm))
  have HI := Lib.hid hI
  have hok : (prOk p.procs 0).isSome = true := by
    unfold mayP at hm
    rw [Bool.and_eq_true] at hm
    exact hm.2
  obtain ⟨Ag, cg, Ap, cp, rfl, rfl, _⟩ := prog_open h
  clear h hI hsm hm
  go_enter Try.func20, Try.ntmps20
  go_upto_region 1 with fail
  have HBp : Hid (Blk ((W.alloc (.cells #[.slice Ag p.globals.length cg, .slice Ap p.procs.length cp] 25)).alloc (.cells #[.slice none 0 0, .slice none 0 0] 25)) W.heap.size 25 #[.slice Ag p.globals.length cg, .slice Ap p.procs.length cp]) := Lib.hid ((Blk.new _ _ _).alloc _)
  have HBr : Hid (Blk ((W.alloc (.cells #[.slice Ag p.globals.length cg, .slice Ap p.procs.length cp] 25)).alloc (.cells #[.slice none 0 0, .slice none 0 0] 25)) (W.heap.size + 1) 25 #[.slice none 0 0, .slice none 0 0]) := Lib.hid (blk22 _ _ _ _)
  have HB0 : Hid (Below W.heap.size W ((W.alloc (.cells #[.slice Ag p.globals.length cg, .slice Ap p.procs.length cp] 25)).alloc (.cells #[.slice none 0 0, .slice none 0 0] 25))) := Lib.hid (below_two _ _)
  generalize World.alloc _ _ = V at HBp HBr HB0 ⊢
  have p0 : V.cell? ⟨W.heap.size, 0, none⟩ = some (.slice Ag p.globals.length cg) := by rw [HBp.out.cell]; rfl
  have p1 : V.cell? ⟨W.heap.size, 1, none⟩ = some (.slice Ap p.procs.length cp) := by rw [HBp.out.cell]; rfl
  have hl := HBp.out.lt
  have hlr := HBr.out.lt
  go_upto_region 2 with (go_at_call 61; refine (HC.out V (HI.out.on HB0.out)).mono ?_; rintro e w1 ⟨d0, d1, rfl, hb1, hp1⟩; obtain ⟨Bg, dg, Bp, dp, rfl, rfl, hq1, hq2, hq3, hq4, hgl, hpr⟩ := prog_open hp1)
  have HP := Lib.hid hpr
  have HPI := Lib.hid hp1
  have HQ : Hid (In (nw V w1) w1 w1) := Lib.hid ⟨fun b h => h.2.lt, fun _ _ => rfl⟩
  have HB1 := Lib.hid (below_step HB0.out hb1)
  have HBy : Hid (Blk (w1.alloc (.cells #[.slice Bg p.globals.length dg, .slice Bp p.procs.length dp] 25)) w1.heap.size 25 #[.slice Bg p.globals.length dg, .slice Bp p.procs.length dp]) := Lib.hid (Blk.new _ _ _)
  have HB12 : Hid (Below w1.heap.size w1 (w1.alloc (.cells #[.slice Bg p.globals.length dg, .slice Bp p.procs.length dp] 25))) := Lib.hid (below_box _)
  have HBr1 := Lib.hid (HBr.out.below hb1 hlr)
  have hrl1 := HBr1.out.lt
  have hVz := HB0.out.size
  clear hb1 hpr hp1 hgl HBp HBr HB0 HC p0 p1 hl
  generalize World.alloc _ _ = w2 at HBy HB12 ⊢
  obtain ⟨yb, hyb⟩ : ∃ yb, yb = w1.heap.size := ⟨_, rfl⟩
  rw [← hyb] at HBy ⊢
  have hyb1 : w1.heap.size ≤ yb := by omega
  clear hyb
  have q1 : w2.cell? ⟨yb, 1, none⟩ = some (.slice Bp p.procs.length dp) := by rw [HBy.out.cell]; rfl
  have hyl := HBy.out.lt
  go_wp2_with fail
  clear q1 hyl
  go_loopg [4, 14] p.procs.length (fun kk m iv wr => ∃ (k q : Nat), k + kk = p.procs.length ∧ iv = .int .i64 k ∧ m = .int .i64 q ∧ q ≤ 200 ∧ Hid ((prOk (p.procs.drop k) q).isSome = true) ∧ Hid (Below w2.heap.size w2 wr))
  case atStart => exact ⟨0, 0, by omega, rfl, rfl, by omega, Lib.hid (by rw [List.drop_zero]; exact hok), Lib.hid (Below.refl _ _)⟩
  case round =>
    obtain ⟨k, q, hk, rfl, rfl, hq, HW, HR⟩ := hrel
    generalize wr = wo at *
    have HBo := Lib.hid (below_step HB12.out HR.out)
    by_cases hlt : k < p.procs.length
    · obtain ⟨a, Cp, bp, Cv, bv, Cb, bb, Ce, be, rfl, _, ⟨p0, p1, p2, p3, p4, _⟩, _, _, _, hbody, _⟩ := proc_at HP.out (HQ.out.on HBo.out) hlt
      obtain ⟨hs1, hs2, hs3⟩ := prOk_step hlt hq HW.out
      have HBd := Lib.hid hbody
      have HIr := Lib.hid (HQ.out.on HBo.out)
      have HIds := Lib.hid hs2
      have HNx := Lib.hid hs3
      generalize p.procs[k].body = body at p3 HBd HIds HNx hs1
      clear hbody hs2 hs3 HW
      go_wp2_with fail
      refine (stmts_any (W := _) HBd.out).mono ?_
      rintro e w3 ⟨v, rfl, hw3, hb3, hj3⟩
      have hz3 : wo.heap.size + 1 < w3.heap.size := by obtain ⟨_, _, _, hc, _⟩ := hw3; have := hc.blk.lt; simp at this; omega
      have hb3' : Below wo.heap.size wo w3 := below_new hb3
      have HI3 := Lib.hid (HIr.out.on hb3')
      have HB3 := Lib.hid hb3'
      have HW3 := Lib.hid hw3
      clear hw3 hb3 hb3' hj3
      simp only [World.size_alloc] at HW3 ⊢
      generalize hc : wo.heap.size + 1 = c at *
      have hcw : wo.heap.size < c := by omega
      have hLn : (preSL body).length ≤ 1000000000 := by omega
      have HN3 : Hid (∀ (v : Value) (R : List S) (W' : World), WalkS w1 W' (nw V w1) c c v R → In (nw V w1) w1 W' → R.length ≤ 1000000000 → Calls Try.prog 63 #[.pointer (some ⟨c, 0, none⟩)] W' fun e w' => ∃ o, e = .returned (.pointer o) ∧ AtS w1 w' (nw V w1) c c o R ∧ Below c W' w') :=
        Lib.hid (fun v R W' h1 h2 h3 => nextS_at h1 h2 (by have := h1.lt.1; omega) (Nat.le_refl _) (by omega))
      obtain ⟨L, hL⟩ : ∃ L, L = preSL body := ⟨_, rfl⟩
      rw [← hL] at HW3 hs1 hLn HIds HNx
      clear hL hc
      go_wp2_with fail
      refine (HN3.out v L w3 HW3.out HI3.out hLn).mono ?_
      rintro e w4 ⟨o, rfl, hat, hb4⟩
      have HA4 := Lib.hid hat
      have hlb : ∀ b, nw V w1 b → b < c := fun b hb => by have := HIr.out.1 b hb; omega
      have HLb := Lib.hid hlb
      have HI4 := Lib.hid (HI3.out.below hlb hb4)
      have HB4 : Hid (Below wo.heap.size wo w4) := Lib.hid (HB3.out.trans (hb4.mono (by omega)))
      clear hat hb4 hlb HB3 HI3 HW3
      go_wp2_with fail
      go_loopg [4, 8] L.length (fun kk m i w4 => ∃ (q2 : Nat) (o : Option Addr) (L2 : List S), m = .int .i64 q2 ∧ i = .pointer o ∧ L2.length = kk ∧ q2 + L2.length = q + L.length ∧ Hid (∀ j (h : j < L2.length), L2[j].id = ((q2 + 1 + j : Nat) : Int)) ∧ Hid (AtS w1 w4 (nw V w1) c c o L2) ∧ Hid (In (nw V w1) w1 w4) ∧ Hid (Below wo.heap.size wo w4))
      case atStart => exact ⟨q, o, L, rfl, rfl, rfl, rfl, HIds, HA4, HI4, HB4⟩
      case round =>
        clear HA4 HI4 HB4
        obtain ⟨q2, o, L2, rfl, rfl, hkk, hq2, HJ, HA4, HI4, HB4⟩ := hrel
        rcases HA4.out with ⟨rfl, rfl⟩ | ⟨a4, x, R, v4, rfl, rfl, hn4, hw4⟩
        · simp only [List.length_nil] at hq2
          have HNy : Hid ((prOk (p.procs.drop (k + 1)) q2).isSome = true) := Lib.hid (by rw [show q2 = q + L.length by omega]; exact HNx.out)
          go_wp2_with fail
          go_roundg (p.procs.length - k - 1)
          case measure => omega
          case rel => exact ⟨k + 1, q2, by omega, by go_num, rfl, by omega, HNy, Lib.hid (below_step HR.out HB4.out)⟩
        · simp only [List.length_cons] at hq2 hkk
          have hx0 := HJ.out 0 (by simp)
          simp only [List.getElem_cons_zero] at hx0
          have HJ2 : Hid (∀ j (h : j < R.length), R[j].id = ((q2 + 1 + 1 + j : Nat) : Int)) := Lib.hid (fun j hj => by
            have := HJ.out (j + 1) (by simpa using hj)
            rw [List.getElem_cons_succ] at this
            rw [this]; congr 1; omega)
          have HW4 := Lib.hid hw4
          have huf := (Unf.below hn4.1.2 (below_step HBo.out HB4.out) hn4.1.2.lt).frozen'
          obtain ⟨id, kind, labels, nm, proc, ex, has, args, th, el, L', lc, x0, x1, x2, X, xn, xc, R', rc, T, tc, U', uc, rfl, hrow, _⟩ := stmt_node hn4 HI4.out
          have r0 := hrow.1
          have hid : id = (q2 : Int) + 1 := by
            have : id = ((q2 + 1 + 0 : Nat) : Int) := hx0
            omega
          subst hid
          have hal := World.block_lt_of_cell? wr _ r0
          clear hrow hn4 hw4 hx0
          go_upto_region 9 with fail
          rw [setCell_same r0]
          clear r0 huf hal
          go_wp2_with (go_at_call 63; refine (HN3.out v4 R wr HW4.out HI4.out (by omega)).mono ?_; rintro e w5 ⟨o5, rfl, hat5, hb5⟩)
          go_roundg R.length
          case measure => omega
          case rel => exact ⟨q2 + 1, o5, R, by go_num, rfl, rfl, by omega, HJ2, Lib.hid hat5, Lib.hid (HI4.out.below HLb.out hb5), Lib.hid (HB4.out.trans (hb5.mono (by omega)))⟩
    · have HRo := Lib.hid ((HBr1.out.below (below_step HB12.out HR.out) hrl1))
      have HYo := Lib.hid (HBy.out.below HR.out HBy.out.lt)
      have y0 : wo.cell? ⟨yb, 0, none⟩ = some (.slice Bg p.globals.length dg) := by rw [HYo.out.cell]; rfl
      have y1 : wo.cell? ⟨yb, 1, none⟩ = some (.slice Bp p.procs.length dp) := by rw [HYo.out.cell]; rfl
      have r0 : wo.cell? ⟨W.heap.size + 1, 0, none⟩ = some (.slice none 0 0) := by rw [HRo.out.cell]; rfl
      have r1 : wo.cell? ⟨W.heap.size + 1, 1, none⟩ = some (.slice none 0 0) := by rw [HRo.out.cell]; rfl
      have f0 := HRo.out.frozen 0
      have f1 := HRo.out.frozen 1
      have hl1 := HYo.out.lt
      have hl2 := HRo.out.lt
      have hz0 := HB1.out.size
      go_wp2_with fail
      (try simp only [Exit.inBlock, Exit.then])
      have hQ2 : ∀ j, nw V w1 j → nw W ((wo.setCell ⟨W.heap.size + 1, 0, none⟩ (.slice Bg p.globals.length dg)).setCell ⟨W.heap.size + 1, 1, none⟩ (.slice Bp p.procs.length dp)) j := fun j hj => ⟨by have := hj.1; omega, ((hj.2.below HBo.out hj.2.lt).set_ _ _).set_ _ _⟩
      have hne : ∀ j, nw V w1 j → j ≠ W.heap.size + 1 := fun j hj => by have := hj.1; omega
      refine bodyPost_ret (results_cell_row rfl _ _ (W.heap.size + 1) 25 _ (0, 0) _ rfl ((HRo.out.set_ 0 _).set_ 1 _) Try.underlying25 rfl (by kernel_rfl)) rfl ⟨_, _, rfl, below_setc (below_setc (below_step HB1.out HBo.out) (by show W.heap.size ≤ W.heap.size + 1; omega) _) (by show W.heap.size ≤ W.heap.size + 1; omega) _, ?_⟩
      exact HPI.out.keep hQ2 (fun a ha => by
        have h1 := hne _ ha
        rw [cell_set_ne _ (fun e => h1 (by rw [e])), cell_set_ne _ (fun e => h1 (by rw [e]))]
        exact HBo.out.cell ha.2.lt)
end Go.Proofs.Ytcocilpifdjibaa.U
namespace Go.Proofs.Ytcocilpifdjibaa
open Go.ChangeShapes Go.WideShapes Go.ChangeAt Go.RowKit Go.Deep
set_option linter.unusedVariables false
set_option linter.unusedSimpArgs false
abbrev zP : Array Value := #[.string ⟨#[]⟩, .slice none 0 0, .slice none 0 0, .slice none 0 0, .slice none 0 0]
def P0 : Pr := ⟨⟨#[]⟩, [], [], [], []⟩
theorem zero_proc (w : World) (Q : Nat → Prop) : ProcI w Q P0 [.string ⟨#[]⟩, .slice none 0 0, .slice none 0 0, .slice none 0 0, .slice none 0 0] := ⟨_, _, _, _, rfl, by decide, nil_slice, nil_slice, nil_slice, nil_slice⟩
theorem pc5_blk {w : World} {b : Nat} {d0 d1 d2 d3 d4 : Value} (h : Blk w b 59 zP) : Blk (World.setCell (World.setCell (World.setCell (World.setCell (World.setCell w ⟨b, 0, none⟩ d0) ⟨b, 1, none⟩ d1) ⟨b, 2, none⟩ d2) ⟨b, 3, none⟩ d3) ⟨b, 4, none⟩ d4) b 59 #[d0, d1, d2, d3, d4] := by
 have := ((((h.set_ 0 d0).set_ 1 d1).set_ 2 d2).set_ 3 d3).set_ 4 d4
 simp only [List.setIfInBounds_toArray, List.set_cons_zero, List.set_cons_succ] at this
 exact this
theorem pc5_cell {w : World} {b : Nat} {d0 d1 d2 d3 d4 : Value} {p : Addr} (h : p.block ≠ b) : World.cell? (World.setCell (World.setCell (World.setCell (World.setCell (World.setCell w ⟨b, 0, none⟩ d0) ⟨b, 1, none⟩ d1) ⟨b, 2, none⟩ d2) ⟨b, 3, none⟩ d3) ⟨b, 4, none⟩ d4) p = w.cell? p := by
 have hne : ∀ j, p ≠ ⟨b, j, none⟩ := fun j e => h (by rw [e])
 rw [cell_set_ne _ (hne _), cell_set_ne _ (hne _), cell_set_ne _ (hne _), cell_set_ne _ (hne _), cell_set_ne _ (hne _)]
theorem pc5_size {w : World} {b : Nat} {d0 d1 d2 d3 d4 : Value} : (World.heap (World.setCell (World.setCell (World.setCell (World.setCell (World.setCell w ⟨b, 0, none⟩ d0) ⟨b, 1, none⟩ d1) ⟨b, 2, none⟩ d2) ⟨b, 3, none⟩ d3) ⟨b, 4, none⟩ d4)).size = w.heap.size := by simp
theorem pc5_below {B : Nat} {a w : World} {b : Nat} {d0 d1 d2 d3 d4 : Value} (h : Below B a w) (hb : B ≤ b) : Below B a (World.setCell (World.setCell (World.setCell (World.setCell (World.setCell w ⟨b, 0, none⟩ d0) ⟨b, 1, none⟩ d1) ⟨b, 2, none⟩ d2) ⟨b, 3, none⟩ d3) ⟨b, 4, none⟩ d4) := below_setc (below_setc (below_setc (below_setc (below_setc h hb _) hb _) hb _) hb _) hb _
theorem results_ct {P : Program} {fn : Func} {p u : Tmp} {ty : TypeId} (h : fn.results = #[.cell p ty, .tmp u]) (tmps : Array Value) (w : World) (g : Nat) (tt : TypeId) (cs : Array Value) (fr : Nat × Nat) (d : TypeDesc)
  (hp : tmps.getD p undef = .pointer (some ⟨g, 0, none⟩)) (hg : w.heap[g]? = some (.cells cs tt fr))
  (hu : P.underlying ty = some d) (hd : (match d with | .struct _ | .array _ _ => true | _ => false) = true) (hi : (P.info? ty).map (·.size) = some cs.size) :
  (results fn tmps).run P w = .ok (.tuple #[.agg cs, tmps.getD u undef]) w := by
 have hp' : tmps[p]?.getD undef = .pointer (some ⟨g, 0, none⟩) := by simpa using hp
 simp [results, h, hp', asAddr, run_loadVar_row w g tt ty cs fr d hg hu hd hi]
def procP (p : Pg) (nm : ByteArray) : Pr × Bool := if mayP p = true then (p.procs.find? (isQ nm)).elim (P0, false) (fun q => (q, true)) else (P0, false)
def PcRes (r : Pr × Bool) (W : World) (e : Ending) (w' : World) : Prop := ∃ d0 d1 d2 d3 d4, e = .returned (.tuple #[.agg #[d0, d1, d2, d3, d4], .bool r.2]) ∧ Below W.heap.size W w' ∧ ProcI w' (fun b => W.heap.size ≤ b ∧ b < w'.heap.size) r.1 [d0, d1, d2, d3, d4]
set_option maxHeartbeats 2000000 in
set_option maxRecDepth 100000 in
theorem Proc_any {w : World} {Q : Nat → Prop} {p : Pg} {c0 c1 : Value} (h : ProgI w Q p [c0, c1]) (hsm : SmG p) (nm : ByteArray) (W : World) (hI : In Q w W) :
  Calls Try.prog 99 #[.agg #[c0, c1], .string nm] W (PcRes (procP p nm) W) := by
 have HF := Lib.hid (fun V hV => find_any h nm V hV)
 have HN := Lib.hid (fun V hV hm => U.Number_any (W := V) h hV hsm hm)
 obtain ⟨Ag, cg, Ap, cp, rfl, rfl, _, _, _, _, hgl, hpr⟩ := prog_open h
 have HI := Lib.hid hI
 have hfd : (fndP p nm = -1 ∧ procP p nm = (P0, false)) ∨ ∃ j, ∃ hj : j < p.procs.length, fndP p nm = ((j : Nat) : Int) ∧ procP p nm = (p.procs[j], true) ∧ mayP p = true := by
  unfold fndP procP
  by_cases hm : mayP p = true
  ·rw [if_pos hm, if_pos hm]
   rcases idxL_get (isQ nm) p.procs 0 with ⟨h1, h2⟩ | ⟨j, hj, h1, _, h3⟩
   ·exact .inl ⟨h1, by rw [h2]; rfl⟩
   ·exact .inr ⟨j, hj, by rw [h1, Nat.zero_add], by rw [h3]; rfl, hm⟩
  ·rw [if_neg hm, if_neg hm]
   exact .inl ⟨rfl, rfl⟩
 clear h hI hpr hgl hsm
 generalize fndP p nm = z at HF hfd
 go_enter Try.func99, Try.ntmps99
 go_upto_region 1 with fail
 have HB0 : Hid (Below W.heap.size W ((W.alloc (.cells #[.slice Ag p.globals.length cg, .slice Ap p.procs.length cp] 25)).alloc (.cells zP 59))) := Lib.hid (below_two _ _)
 have HBp : Hid (Blk ((W.alloc (.cells #[.slice Ag p.globals.length cg, .slice Ap p.procs.length cp] 25)).alloc (.cells zP 59)) W.heap.size 25 #[.slice Ag p.globals.length cg, .slice Ap p.procs.length cp]) := Lib.hid ((Blk.new _ _ _).alloc _)
 have HBz : Hid (Blk ((W.alloc (.cells #[.slice Ag p.globals.length cg, .slice Ap p.procs.length cp] 25)).alloc (.cells zP 59)) (W.heap.size + 1) 59 zP) := Lib.hid (by have := Blk.new (W.alloc (.cells #[.slice Ag p.globals.length cg, .slice Ap p.procs.length cp] 25)) 59 zP; rw [World.size_alloc] at this; exact this)
 generalize World.alloc _ _ = V at HB0 HBp HBz ⊢
 have HI0 := Lib.hid (HI.out.on HB0.out)
 have q0 : V.cell? ⟨W.heap.size, 0, none⟩ = some (.slice Ag p.globals.length cg) := by rw [HBp.out.cell]; rfl
 have q1 : V.cell? ⟨W.heap.size, 1, none⟩ = some (.slice Ap p.procs.length cp) := by rw [HBp.out.cell]; rfl
 have hbl := HBp.out.lt
 go_upto_region 2 with (go_at_call 107; refine (HF.out V HI0.out).mono ?_; rintro e w1 ⟨rfl, hb1⟩)
 have HB1 := Lib.hid (below_step HB0.out hb1)
 have HI1 := Lib.hid (HI0.out.on hb1)
 have HBp1 := Lib.hid (HBp.out.below hb1 hbl)
 have HBz1 := Lib.hid (HBz.out.below hb1 HBz.out.lt)
 clear q0 q1 hbl hb1 HB0 HBp HBz HI0 HF
 rcases hfd with ⟨rfl, hk⟩ | ⟨j, hj, rfl, hk, hm⟩
 ·have HK0 := Lib.hid hk
  clear hk
  have y0 : w1.cell? ⟨W.heap.size + 1, 0, none⟩ = some (.string ⟨#[]⟩) := by rw [HBz1.out.cell]; rfl
  have y1 : w1.cell? ⟨W.heap.size + 1, 1, none⟩ = some (.slice none 0 0) := by rw [HBz1.out.cell]; rfl
  have y2 : w1.cell? ⟨W.heap.size + 1, 2, none⟩ = some (.slice none 0 0) := by rw [HBz1.out.cell]; rfl
  have y3 : w1.cell? ⟨W.heap.size + 1, 3, none⟩ = some (.slice none 0 0) := by rw [HBz1.out.cell]; rfl
  have y4 : w1.cell? ⟨W.heap.size + 1, 4, none⟩ = some (.slice none 0 0) := by rw [HBz1.out.cell]; rfl
  have f0 := HBz1.out.frozen 0
  have f1 := HBz1.out.frozen 1
  have f2 := HBz1.out.frozen 2
  have f3 := HBz1.out.frozen 3
  have f4 := HBz1.out.frozen 4
  have hzl := HBz1.out.lt
  go_wp2_with fail
  (try simp only [Exit.inBlock, Exit.then])
  refine bodyPost_ret (results_ct rfl _ _ (W.heap.size + 1) 59 _ (0, 0) _ rfl (pc5_blk HBz1.out) Try.underlying59 rfl (by kernel_rfl)) rfl ?_
  rw [HK0.out]
  exact ⟨_, _, _, _, _, rfl, pc5_below HB1.out (by omega), zero_proc _ _⟩
 ·have HK0 := Lib.hid hk
  have HN1 := Lib.hid (fun V hV => HN.out V hV hm)
  have hfl : ∀ (A : Option Addr) (n c : Nat) (B : Option Addr) (m d : Nat) (w : World), (Instr.field 25 (.agg #[.slice A n c, .slice B m d]) 1).run Try.prog w = .ok (.slice B m d) w := fun _ _ _ _ _ _ _ => by kernel_rfl
  clear hk hm
  have q0 : w1.cell? ⟨W.heap.size, 0, none⟩ = some (.slice Ag p.globals.length cg) := by rw [HBp1.out.cell]; rfl
  have q1 : w1.cell? ⟨W.heap.size, 1, none⟩ = some (.slice Ap p.procs.length cp) := by rw [HBp1.out.cell]; rfl
  have hbl := HBp1.out.lt
  go_upto_region 4 with fail
  go_wp2_with (go_at_call 20; refine (HN1.out w1 HI1.out).mono ?_; rintro e w2 ⟨e0, e1, rfl, hb2, hpg⟩; obtain ⟨Bg, bg, Bp, bp, rfl, rfl, _, _, _, _, _, hbp⟩ := prog_open hpg; obtain ⟨a, Ep, kp, Ev, kv, Eb, kb, Ee, ke, rfl, hqa, hrow, hnm, hpp, hvv, hbody, hee⟩ := proc_at hbp (W := w2) ⟨fun b hb => hb.2.lt, fun _ _ => rfl⟩ hj; obtain ⟨p0, p1, p2, p3, p4, _⟩ := hrow; have HBz2 := Lib.hid (HBz1.out.below hb2 HBz1.out.lt); have y0 : w2.cell? ⟨W.heap.size + 1, 0, none⟩ = some (.string ⟨#[]⟩) := (by rw [HBz2.out.cell]; rfl); have y1 : w2.cell? ⟨W.heap.size + 1, 1, none⟩ = some (.slice none 0 0) := (by rw [HBz2.out.cell]; rfl); have y2 : w2.cell? ⟨W.heap.size + 1, 2, none⟩ = some (.slice none 0 0) := (by rw [HBz2.out.cell]; rfl); have y3 : w2.cell? ⟨W.heap.size + 1, 3, none⟩ = some (.slice none 0 0) := (by rw [HBz2.out.cell]; rfl); have y4 : w2.cell? ⟨W.heap.size + 1, 4, none⟩ = some (.slice none 0 0) := (by rw [HBz2.out.cell]; rfl); have f0 := HBz2.out.frozen 0; have f1 := HBz2.out.frozen 1; have f2 := HBz2.out.frozen 2; have f3 := HBz2.out.frozen 3; have f4 := HBz2.out.frozen 4; have hzl := HBz2.out.lt; have HPc : Hid (ProcI w2 (U.nw w1 w2) p.procs[j] [.string p.procs[j].nm, .slice Ep p.procs[j].params.length kp, .slice Ev p.procs[j].vars.length kv, .slice Eb p.procs[j].body.length kb, .slice Ee p.procs[j].end_.length ke]) := Lib.hid ⟨_, _, _, _, rfl, hnm, hpp, hvv, hbody, hee⟩; have HB2 := Lib.hid (below_step HB1.out hb2); have HB12 := Lib.hid hb2; clear hnm hpp hvv hbody hee hpg hbp hb2)
  (try simp only [Exit.inBlock, Exit.then])
  refine bodyPost_ret (results_ct rfl _ _ (W.heap.size + 1) 59 _ (0, 0) _ rfl (pc5_blk HBz2.out) Try.underlying59 rfl (by kernel_rfl)) rfl ?_
  rw [HK0.out]
  have hz1 := HBz1.out.lt
  refine ⟨_, _, _, _, _, rfl, pc5_below HB2.out (by omega), ?_⟩
  exact HPc.out.keep (fun b hb => ⟨Nat.le_trans HB1.out.size hb.1, by rw [pc5_size]; exact hb.2.lt⟩) (fun p hp => pc5_cell (by have := hp.1; omega))
end Go.Proofs.Ytcocilpifdjibaa
