/- Texts, merged by a program; only what is used. -/
import Derived.Deep.RegionHeld3
import Derived.Test.YtddfpmdbndakgaaK1
import Derived.Test.YtddfpmdbndakgaaK2
import Derived.Test.YtddfpmdbndakgaaK3
import Derived.Test.YtddfpmdbndakgaaK4
import Derived.Test.YtddfpmdbndakgaaK5
import Derived.Test.YtddfpmdbndakgaaK6
import Derived.Test.YtddfpmdbndakgaaK7
import Derived.Test.YtddfpmdbndakgaaK8
import Derived.Test.YtddfpmdbndakgaaK9
import Derived.Test.YtddfpmdbndakgaaK10
import Derived.Test.YtddfpmdbndakgaaK11
import Derived.Test.YtddfpmdbndakgaaK12
import Derived.Test.YtddfpmdbndakgaaK13
import Derived.Test.YtddfpmdbndakgaaK14
import Derived.Test.YtddfpmdbndakgaaK15
import Derived.Test.YtddfpmdbndakgaaK16
import Derived.Test.YtddfpmdbndakgaaK17
import Derived.Test.YtddfpmdbndakgaaK18
import Derived.Test.YtddfpmdbndakgaaK19
import Derived.Test.YtddfpmdbndakgaaK20
import Derived.Test.YtddfpmdbndakgaaK21
import Derived.Test.YtddfpmdbndakgaaK22
import Derived.Test.YtddfpmdbndakgaaK23
import Derived.Test.YtddfpmdbndakgaaK24
import Derived.Test.YtddfpmdbndakgaaK25
import Derived.Test.YtddfpmdbndakgaaK26
import Derived.Test.YtddfpmdbndakgaaK27
import Derived.Test.YtddfpmdbndakgaaK28
import Derived.Test.YtddfpmdbndakgaaK29
import Derived.Test.YtddfpmdbndakgaaK30
import Derived.Test.YtddfpmdbndakgaaL1
import Derived.Test.YtddfpmdbndakgaaL2
import Derived.Test.YtddfpmdbndakgaaL3
namespace Go.Proofs.Ytddfpmdbndakgaa
open Go.ChangeShapes Go.WideShapes Go.ChangeAt Go.RowKit Go.Deep
set_option linter.unusedVariables false
set_option linter.unusedSimpArgs false
theorem in_drew {Q : Nat → Prop} {w W : World} (h : In Q w W) : In Q w W.drew := h
end Go.Proofs.Ytddfpmdbndakgaa
namespace Go.Proofs.Ytddfpmdbndakgaa
open Go.ChangeShapes Go.WideShapes Go.ChangeAt Go.RowKit Go.Deep
set_option linter.unusedVariables false
theorem findL_drop {l : List Pr} {k : Nat} (h : k < l.length) (id : Int) : findL (l.drop k) id = ((preSL l[k].body).find? (fun s => s.id == id)).elim (findL (l.drop (k + 1)) id) (fun s => (l[k].nm, s, true)) := by rw [List.drop_eq_getElem_cons h, findL]
mutual
theorem preS_siz : ∀ s : S, (preS s).length = sizS s
  | .mk id kind labels nm proc e has args th el => by rw [preS, sizS, List.length_cons, List.length_append, preSL_siz th, preSL_siz el]
theorem preSL_siz : ∀ l : List S, (preSL l).length = sizSL l
  | [] => by rw [preSL, sizSL]; rfl
  | s :: l => by rw [preSL, sizSL, List.length_append, preS_siz s, preSL_siz l]
end
/-- procedures that are not too great -/
def smQ (l : List Pr) : Prop := ∀ q ∈ l, wSL q.body ≤ 1000000 ∧ q.nm.size ≤ 1000000
theorem results_tct {P : Program} {fn : Func} {t p u : Tmp} {ty : TypeId} (h : fn.results = #[.tmp t, .cell p ty, .tmp u]) (tmps : Array Value) (w : World) (g : Nat) (tt : TypeId) (cs : Array Value) (fr : Nat × Nat) (d : TypeDesc)
    (hp : tmps.getD p undef = .pointer (some ⟨g, 0, none⟩)) (hg : w.heap[g]? = some (.cells cs tt fr))
    (hu : P.underlying ty = some d) (hd : (match d with | .struct _ | .array _ _ => true | _ => false) = true) (hi : (P.info? ty).map (·.size) = some cs.size) :
    (results fn tmps).run P w = .ok (.tuple #[tmps.getD t undef, .agg cs, tmps.getD u undef]) w := by
  have hp' : tmps[p]?.getD undef = .pointer (some ⟨g, 0, none⟩) := by simpa using hp
  simp [results, h, hp', asAddr, run_loadVar_row w g tt ty cs fr d hg hu hd hi]
theorem sF_same {w w' : World} {a : Addr} {fb : Nat} {pn : ByteArray} {d0 d1 d2 d3 d4 d5 d6 d7 d8 d9 d10 d11 d12 : Value} (hs : ∀ p : Addr, p.block = a.block ∨ p.block = fb → w'.cell? p = w.cell? p) (h : w.cell? a = some d0 ∧ w.cell? ⟨a.block, a.off + 1, none⟩ = some d1 ∧ w.cell? ⟨a.block, a.off + 2, none⟩ = some d2 ∧ w.cell? ⟨a.block, a.off + 3, none⟩ = some d3 ∧ w.cell? ⟨a.block, a.off + 4, none⟩ = some d4 ∧ w.cell? ⟨a.block, a.off + 5, none⟩ = some d5 ∧ w.cell? ⟨a.block, a.off + 6, none⟩ = some d6 ∧ w.cell? ⟨a.block, a.off + 7, none⟩ = some d7 ∧ w.cell? ⟨a.block, a.off + 8, none⟩ = some d8 ∧ w.cell? ⟨a.block, a.off + 9, none⟩ = some d9 ∧ w.cell? ⟨a.block, a.off + 10, none⟩ = some d10 ∧ w.cell? ⟨a.block, a.off + 11, none⟩ = some d11 ∧ w.cell? ⟨a.block, a.off + 12, none⟩ = some d12 ∧ w.cell? ⟨fb, 0, none⟩ = some (.string pn)) : w'.cell? a = some d0 ∧ w'.cell? ⟨a.block, a.off + 1, none⟩ = some d1 ∧ w'.cell? ⟨a.block, a.off + 2, none⟩ = some d2 ∧ w'.cell? ⟨a.block, a.off + 3, none⟩ = some d3 ∧ w'.cell? ⟨a.block, a.off + 4, none⟩ = some d4 ∧ w'.cell? ⟨a.block, a.off + 5, none⟩ = some d5 ∧ w'.cell? ⟨a.block, a.off + 6, none⟩ = some d6 ∧ w'.cell? ⟨a.block, a.off + 7, none⟩ = some d7 ∧ w'.cell? ⟨a.block, a.off + 8, none⟩ = some d8 ∧ w'.cell? ⟨a.block, a.off + 9, none⟩ = some d9 ∧ w'.cell? ⟨a.block, a.off + 10, none⟩ = some d10 ∧ w'.cell? ⟨a.block, a.off + 11, none⟩ = some d11 ∧ w'.cell? ⟨a.block, a.off + 12, none⟩ = some d12 ∧ w'.cell? ⟨fb, 0, none⟩ = some (.string pn) :=
  ⟨(hs a (.inl rfl)).trans h.1, (hs ⟨a.block, a.off + 1, none⟩ (.inl rfl)).trans h.2.1, (hs ⟨a.block, a.off + 2, none⟩ (.inl rfl)).trans h.2.2.1, (hs ⟨a.block, a.off + 3, none⟩ (.inl rfl)).trans h.2.2.2.1, (hs ⟨a.block, a.off + 4, none⟩ (.inl rfl)).trans h.2.2.2.2.1, (hs ⟨a.block, a.off + 5, none⟩ (.inl rfl)).trans h.2.2.2.2.2.1, (hs ⟨a.block, a.off + 6, none⟩ (.inl rfl)).trans h.2.2.2.2.2.2.1, (hs ⟨a.block, a.off + 7, none⟩ (.inl rfl)).trans h.2.2.2.2.2.2.2.1, (hs ⟨a.block, a.off + 8, none⟩ (.inl rfl)).trans h.2.2.2.2.2.2.2.2.1, (hs ⟨a.block, a.off + 9, none⟩ (.inl rfl)).trans h.2.2.2.2.2.2.2.2.2.1, (hs ⟨a.block, a.off + 10, none⟩ (.inl rfl)).trans h.2.2.2.2.2.2.2.2.2.2.1, (hs ⟨a.block, a.off + 11, none⟩ (.inl rfl)).trans h.2.2.2.2.2.2.2.2.2.2.2.1, (hs ⟨a.block, a.off + 12, none⟩ (.inl rfl)).trans h.2.2.2.2.2.2.2.2.2.2.2.2.1, (hs _ (.inr rfl)).trans h.2.2.2.2.2.2.2.2.2.2.2.2.2⟩
set_option maxHeartbeats 4000000 in
set_option maxRecDepth 100000 in
theorem Find_any {w : World} {Q : Nat → Prop} {p : Pg} {c0 c1 : Value} (h : ProgI w Q p [c0, c1]) (id : Int) (W : World) (hI : In Q w W) (hn : smQ p.procs) :
    Calls Try.prog 33 #[.agg #[c0, c1], .int .i64 id] W fun e w' => ∃ d0 d1 d2 d3 d4 d5 d6 d7 d8 d9 d10 d11 d12, e = .returned (.tuple #[.string (findP p id).1, .agg #[d0, d1, d2, d3, d4, d5, d6, d7, d8, d9, d10, d11, d12], .bool (findP p id).2.2]) ∧ Below W.heap.size W w' ∧ StmtI w' (nw W w') (findP p id).2.1 [d0, d1, d2, d3, d4, d5, d6, d7, d8, d9, d10, d11, d12] := by
  obtain ⟨Ag, cg, Ap, cp, rfl, rfl, hg1, hg2, hp1, hp2, _, hpr⟩ := prog_open h
  have HI := Lib.hid hI
  have HP := Lib.hid hpr
  have HSm := Lib.hid hn
  clear h hI hpr hn
  unfold findP
  obtain ⟨res, hres⟩ : ∃ r, r = findL p.procs id := ⟨_, rfl⟩
  rw [← hres]
  have HRes := Lib.hid hres
  clear hres
  go_enter Try.func33, Try.ntmps33
  go_wp2_with fail
  have HBb : Hid (Blk ((W.alloc (.cells #[.slice Ag p.globals.length cg, .slice Ap p.procs.length cp] 25)).alloc (.cells zS 61)) (W.heap.size + 1) 61 zS) := Lib.hid (by have := Blk.new (W.alloc (.cells #[.slice Ag p.globals.length cg, .slice Ap p.procs.length cp] 25)) 61 zS; simpa using this)
  have HB1 : Hid (Below W.heap.size W ((W.alloc (.cells #[.slice Ag p.globals.length cg, .slice Ap p.procs.length cp] 25)).alloc (.cells zS 61))) := Lib.hid (below_two _ _)
  generalize World.alloc _ _ = W1 at HB1 HBb ⊢
  go_loopw [14] (fun i wr => ∃ (k : Nat), k ≤ p.procs.length ∧ i = .int .i64 k ∧ Hid (findL (p.procs.drop k) id = res) ∧ Hid (Below W1.heap.size W1 wr)) (fun i _ => p.procs.length - (intOf i).toNat)
  case atStart => exact ⟨0, Nat.zero_le _, rfl, Lib.hid (by rw [List.drop_zero]; exact HRes.out.symm), Lib.hid (Below.refl _ _)⟩
  case round =>
    obtain ⟨k, hk, rfl, HQk, HR⟩ := hrel
    generalize wr = wo at *
    by_cases hlt : k < p.procs.length
    · have hIr : In Q w wo := HI.out.on (HB1.out.trans (HR.out.mono HB1.out.size))
      obtain ⟨a, Bp, bp, Bv, bv, Bb, bb, Be, be, rfl, _, ⟨p0, p1, p2, p3, p4, _⟩, _, _, _, hbody, _⟩ := proc_at HP.out hIr hlt
      have HBd := Lib.hid hbody
      have HIr := Lib.hid hIr
      have HQ' := Lib.hid HQk.out
      rw [findL_drop hlt] at HQ'
      have hsm := HSm.out _ (List.getElem_mem hlt)
      have hLn : (preSL p.procs[k].body).length ≤ 1000000 := by rw [preSL_siz]; exact Nat.le_trans (sizSL_w _) hsm.1
      have HWx : Hid (∀ x ∈ preSL p.procs[k].body, wS x ≤ 1000000) := Lib.hid (fun x hx => Nat.le_trans (preSL_w _ x hx) hsm.1)
      have hpn : p.procs[k].nm.size ≤ 281474976710656 := by have := hsm.2; omega
      clear hbody hIr hsm
      have HFB : Hid (Blk (wo.alloc (.cells #[.string p.procs[k].nm, .slice Bp p.procs[k].params.length bp, .slice Bv p.procs[k].vars.length bv, .slice Bb p.procs[k].body.length bb, .slice Be p.procs[k].end_.length be] 51)) wo.heap.size 51 #[.string p.procs[k].nm, .slice Bp p.procs[k].params.length bp, .slice Bv p.procs[k].vars.length bv, .slice Bb p.procs[k].body.length bb, .slice Be p.procs[k].end_.length be]) := Lib.hid (Blk.new _ _ _)
      go_wp2_with fail
      refine (stmts_any (W := _) HBd.out).mono ?_
      rintro e w2 ⟨v, rfl, hw2, hb2, hj2⟩
      have HFB2 := Lib.hid (HFB.out.below hb2 HFB.out.lt)
      have hz2 : wo.heap.size + 1 < w2.heap.size := by have := hw2; obtain ⟨_, _, _, hc, _⟩ := this; have := hc.blk.lt; simp at this; omega
      have hb2' : Below wo.heap.size wo w2 := below_new hb2
      have HI2 := Lib.hid (HIr.out.on hb2')
      have HB2 := Lib.hid hb2'
      have HW2 := Lib.hid hw2
      have HJ2 := Lib.hid hj2
      clear hw2 hb2 hb2' hj2 HFB
      simp only [World.size_alloc] at HW2 HJ2 ⊢
      obtain ⟨fb, hfb⟩ : ∃ fb, fb = wo.heap.size := ⟨_, rfl⟩
      rw [← hfb] at HFB2 ⊢
      have HFb := Lib.hid hfb
      generalize hc : wo.heap.size + 1 = c at *
      have hfc : fb < c := by omega
      rw [show fb + 1 = c by omega]
      clear hfb
      have HN2 : Hid (∀ (v : Value) (R : List S) (W' : World), WalkS w W' Q c c v R → In Q w W' → R.length ≤ 1000000 → Calls Try.prog 60 #[.pointer (some ⟨c, 0, none⟩)] W' fun e w' => ∃ o, e = .returned (.pointer o) ∧ AtS w w' Q c c o R ∧ Below c W' w') :=
        Lib.hid (fun v R W' h1 h2 h3 => nextS_at h1 h2 (by have := h1.lt.1; omega) (Nat.le_refl _) (by omega))
      obtain ⟨L0, hL⟩ : ∃ L, L = preSL p.procs[k].body := ⟨_, rfl⟩
      obtain ⟨pn, hpn'⟩ : ∃ n, n = p.procs[k].nm := ⟨_, rfl⟩
      rw [← hL] at HW2 HQ' HWx hLn
      rw [← hpn'] at HQ' hpn HFB2
      have HCl := Lib.hid (fun V => Clone_any pn V hpn)
      clear hL hpn' hpn
      go_wp2_with fail
      refine (HN2.out v L0 w2 HW2.out HI2.out hLn).mono ?_
      rintro e w3 ⟨o, rfl, hat, hb3⟩
      have HA3 := Lib.hid hat
      have HI3 := Lib.hid (HI2.out.below (fun b hb => Nat.lt_trans (HIr.out.1 b hb) (by omega)) hb3)
      have HB3 : Hid (Below wo.heap.size wo w3) := Lib.hid (HB2.out.trans (hb3.mono (by omega)))
      have HFB3 := Lib.hid (HFB2.out.below hb3 hfc)
      clear hat hb3 HW2 HI2 HB2 HJ2 HFB2
      go_wp2_with fail
      go_loopg [10] L0.length (fun kk i w4 => ∃ (o : Option Addr) (L2 : List S), L2.length = kk ∧ i = .pointer o ∧ L2.length ≤ 1000000 ∧ Hid ((L2.find? (fun s => s.id == id)).elim (findL (p.procs.drop (k + 1)) id) (fun s => (pn, s, true)) = res) ∧ Hid (∀ x ∈ L2, wS x ≤ 1000000) ∧ Hid (AtS w w4 Q c c o L2) ∧ Hid (In Q w w4) ∧ Hid (Below wo.heap.size wo w4) ∧ Hid (Blk w4 fb 51 #[.string pn, .slice Bp p.procs[k].params.length bp, .slice Bv p.procs[k].vars.length bv, .slice Bb p.procs[k].body.length bb, .slice Be p.procs[k].end_.length be]))
      case atStart => exact ⟨o, L0, rfl, rfl, hLn, HQ', HWx, HA3, HI3, HB3, HFB3⟩
      case round =>
        obtain ⟨o, L2, hLk, rfl, hL2, HF4, HW4x, HA4, HI4, HB4, HFB4⟩ := hrel
        rcases HA4.out with ⟨rfl, rfl⟩ | ⟨a4, x, R, v4, rfl, rfl, hn4, hw4⟩
        · have HF5 : Hid (findL (p.procs.drop (k + 1)) id = res) := Lib.hid HF4.out
          go_wp2_with fail
          go_roundw
          case rel => exact ⟨k + 1, by omega, by go_num, HF5, Lib.hid (HR.out.trans (HB4.out.mono HR.out.size))⟩
          case measure => simp [intOf]; omega
        · obtain ⟨hqa, cs, hst, hcell⟩ := hn4
          have hwx := HW4x.out x (List.mem_cons_self ..)
          obtain ⟨id', kind, labels, nm, proc, ex, has, args, th, el, L, lc, x0, x1, x2, X, xn, xc, Rr, rc, Tt, tc, U, uc, rfl, rfl, _⟩ := stmt_open hst
          have hcw : ∀ j u, _ = some u → wr.cell? (a4.add j) = some u := fun j u hu => (HI4.out.cell (by rw [block_add]; exact hqa)).trans (hcell j u hu)
          have hrow := rowAt_of hcw
          obtain ⟨q0, q1, q2, q3, q4, q5, q6, q7, q8, q9, q10, q11, q12, _⟩ := hrow
          have HW4 := Lib.hid hw4
          have HCS := Lib.hid (fun V hV => cloneStmt_any (W := V) hst hV hwx)
          have hal : a4.block < wr.heap.size := HI4.out.1 _ hqa
          have hra : a4.block < W1.heap.size := Nat.lt_of_lt_of_le (HI.out.1 _ hqa) HB1.out.size
          have hra' : a4.block < W.heap.size := HI.out.1 _ hqa
          have n0 : wr.cell? ⟨fb, 0, none⟩ = some (.string pn) := by rw [HFB4.out.cell]; rfl
          have hfl := HFB4.out.lt
          have HBR := Lib.hid (HR.out.trans (HB4.out.mono HR.out.size))
          have HBb4 := Lib.hid (HBb.out.below HBR.out HBb.out.lt)
          have hW1 := HBb.out.lt
          clear hcw hcell hst hw4
          cases hv : (id' == id) with
          | false =>
            have HF5 : Hid ((R.find? (fun s => s.id == id)).elim (findL (p.procs.drop (k + 1)) id) (fun s => (pn, s, true)) = res) := Lib.hid (by have := HF4.out; rw [List.find?_cons_of_neg (by show ¬ (id' == id) = true; rw [hv]; decide)] at this; exact this)
            simp only [List.length_cons] at hL2 hLk
            go_wp2_with (go_at_call 60; refine (HN2.out v4 R wr HW4.out HI4.out (by omega)).mono ?_; rintro e w5 ⟨o5, rfl, hat5, hb5⟩)
            have HFB5 := Lib.hid (HFB4.out.below hb5 hfc)
            go_roundg R.length
            case measure => omega
            case rel => exact ⟨o5, R, rfl, rfl, by omega, HF5, Lib.hid (fun y hy => HW4x.out y (List.mem_cons_of_mem _ hy)), Lib.hid hat5, Lib.hid (HI4.out.below (fun b hb => Nat.lt_trans (HIr.out.1 b hb) (by omega)) hb5), Lib.hid (HB4.out.trans (hb5.mono (by omega))), HFB5⟩
          | true =>
            have HF5 : Hid (res = (pn, .mk id' kind labels nm proc ex has args th el, true)) := Lib.hid (by have := HF4.out; rw [List.find?_cons_of_pos (by show (id' == id) = true; exact hv)] at this; exact this.symm)
            have hS0 : (fun w' => w'.cell? a4 = some (.int .i64 id') ∧ w'.cell? ⟨a4.block, a4.off + 1, none⟩ = some (.int .i64 kind) ∧ w'.cell? ⟨a4.block, a4.off + 2, none⟩ = some (.slice L labels.length lc) ∧ w'.cell? ⟨a4.block, a4.off + 3, none⟩ = some (.string nm) ∧ w'.cell? ⟨a4.block, a4.off + 4, none⟩ = some (.string proc) ∧ w'.cell? ⟨a4.block, a4.off + 5, none⟩ = some (.int .i64 x0) ∧ w'.cell? ⟨a4.block, a4.off + 6, none⟩ = some (.int .i64 x1) ∧ w'.cell? ⟨a4.block, a4.off + 7, none⟩ = some (.string x2) ∧ w'.cell? ⟨a4.block, a4.off + 8, none⟩ = some (.slice X xn xc) ∧ w'.cell? ⟨a4.block, a4.off + 9, none⟩ = some (.bool has) ∧ w'.cell? ⟨a4.block, a4.off + 10, none⟩ = some (.slice Rr args.length rc) ∧ w'.cell? ⟨a4.block, a4.off + 11, none⟩ = some (.slice Tt th.length tc) ∧ w'.cell? ⟨a4.block, a4.off + 12, none⟩ = some (.slice U el.length uc) ∧ w'.cell? ⟨fb, 0, none⟩ = some (.string pn)) wr := ⟨q0, q1, q2, q3, q4, q5, q6, q7, q8, q9, q10, q11, q12, n0⟩
            have HS0 := Lib.hid hS0
            clear hS0 HF4 HA4 HW4 HN2 HQ' HW4x
            obtain ⟨⟨y0, y1, y2, y3, y4, y5, y6, y7, y8, y9, y10, y11, y12⟩, g0, g1, g2, g3, g4, g5, g6, g7, g8, g9, g10, g11, g12⟩ := newS_of HBb4.out
            have hne1 : a4.block ≠ W.heap.size + 1 := by omega
            have hne2 : fb ≠ W.heap.size + 1 := by have := HFb.out; have := HR.out.size; omega
            go_wp2_with fail
            go_region_held3 (fun w' => w'.cell? a4 = some (.int .i64 id') ∧ w'.cell? ⟨a4.block, a4.off + 1, none⟩ = some (.int .i64 kind) ∧ w'.cell? ⟨a4.block, a4.off + 2, none⟩ = some (.slice L labels.length lc) ∧ w'.cell? ⟨a4.block, a4.off + 3, none⟩ = some (.string nm) ∧ w'.cell? ⟨a4.block, a4.off + 4, none⟩ = some (.string proc) ∧ w'.cell? ⟨a4.block, a4.off + 5, none⟩ = some (.int .i64 x0) ∧ w'.cell? ⟨a4.block, a4.off + 6, none⟩ = some (.int .i64 x1) ∧ w'.cell? ⟨a4.block, a4.off + 7, none⟩ = some (.string x2) ∧ w'.cell? ⟨a4.block, a4.off + 8, none⟩ = some (.slice X xn xc) ∧ w'.cell? ⟨a4.block, a4.off + 9, none⟩ = some (.bool has) ∧ w'.cell? ⟨a4.block, a4.off + 10, none⟩ = some (.slice Rr args.length rc) ∧ w'.cell? ⟨a4.block, a4.off + 11, none⟩ = some (.slice Tt th.length tc) ∧ w'.cell? ⟨a4.block, a4.off + 12, none⟩ = some (.slice U el.length uc) ∧ w'.cell? ⟨fb, 0, none⟩ = some (.string pn))
              (first | (with_reducible assumption) | (with_reducible exact hS1) | (with_reducible exact hS2) | (with_reducible refine sF_same (w := r2) ?_ hS2; intro p hp; exact set13_cell (by rcases hp with hp | hp; rw [hp]; exact hne1; rw [hp]; exact hne2)) | exact HS0.out)
              (first
                | ((go_at_call 84; (with_reducible refine (HCl.out _).mono ?_); rintro e r1 ⟨rfl, hb1⟩; have hS1 : (fun w' => w'.cell? a4 = some (.int .i64 id') ∧ w'.cell? ⟨a4.block, a4.off + 1, none⟩ = some (.int .i64 kind) ∧ w'.cell? ⟨a4.block, a4.off + 2, none⟩ = some (.slice L labels.length lc) ∧ w'.cell? ⟨a4.block, a4.off + 3, none⟩ = some (.string nm) ∧ w'.cell? ⟨a4.block, a4.off + 4, none⟩ = some (.string proc) ∧ w'.cell? ⟨a4.block, a4.off + 5, none⟩ = some (.int .i64 x0) ∧ w'.cell? ⟨a4.block, a4.off + 6, none⟩ = some (.int .i64 x1) ∧ w'.cell? ⟨a4.block, a4.off + 7, none⟩ = some (.string x2) ∧ w'.cell? ⟨a4.block, a4.off + 8, none⟩ = some (.slice X xn xc) ∧ w'.cell? ⟨a4.block, a4.off + 9, none⟩ = some (.bool has) ∧ w'.cell? ⟨a4.block, a4.off + 10, none⟩ = some (.slice Rr args.length rc) ∧ w'.cell? ⟨a4.block, a4.off + 11, none⟩ = some (.slice Tt th.length tc) ∧ w'.cell? ⟨a4.block, a4.off + 12, none⟩ = some (.slice U el.length uc) ∧ w'.cell? ⟨fb, 0, none⟩ = some (.string pn)) r1 := sF_same (w := wr) (fun p hp => hb1.cell (by rcases hp with hp | hp; rw [hp]; exact hal; rw [hp]; exact hfl)) HS0.out; have HBr1 := Lib.hid ((show Blk wr.drew (W.heap.size + 1) 61 zS from HBb4.out).below hb1 HBb4.out.lt); have HIr1 := Lib.hid ((in_drew HI4.out).on hb1); have HBx1 : Hid (Below W1.heap.size W1 r1) := Lib.hid ((HBR.out.drew).trans (hb1.mono HBR.out.size)); have hz1 : wr.heap.size ≤ r1.heap.size := hb1.size; clear hb1))
                | ((go_at_call 86; (with_reducible refine (HCS.out _ HIr1.out).mono ?_); rintro e r2 ⟨d0, d1, d2, d3, d4, d5, d6, d7, d8, d9, d10, d11, d12, rfl, hb2, hx2⟩; have hS2 : (fun w' => w'.cell? a4 = some (.int .i64 id') ∧ w'.cell? ⟨a4.block, a4.off + 1, none⟩ = some (.int .i64 kind) ∧ w'.cell? ⟨a4.block, a4.off + 2, none⟩ = some (.slice L labels.length lc) ∧ w'.cell? ⟨a4.block, a4.off + 3, none⟩ = some (.string nm) ∧ w'.cell? ⟨a4.block, a4.off + 4, none⟩ = some (.string proc) ∧ w'.cell? ⟨a4.block, a4.off + 5, none⟩ = some (.int .i64 x0) ∧ w'.cell? ⟨a4.block, a4.off + 6, none⟩ = some (.int .i64 x1) ∧ w'.cell? ⟨a4.block, a4.off + 7, none⟩ = some (.string x2) ∧ w'.cell? ⟨a4.block, a4.off + 8, none⟩ = some (.slice X xn xc) ∧ w'.cell? ⟨a4.block, a4.off + 9, none⟩ = some (.bool has) ∧ w'.cell? ⟨a4.block, a4.off + 10, none⟩ = some (.slice Rr args.length rc) ∧ w'.cell? ⟨a4.block, a4.off + 11, none⟩ = some (.slice Tt th.length tc) ∧ w'.cell? ⟨a4.block, a4.off + 12, none⟩ = some (.slice U el.length uc) ∧ w'.cell? ⟨fb, 0, none⟩ = some (.string pn)) r2 := sF_same (w := r1) (fun p hp => hb2.cell (by rcases hp with hp | hp; rw [hp]; exact Nat.lt_of_lt_of_le hal hz1; rw [hp]; exact Nat.lt_of_lt_of_le hfl hz1)) hS1; have HBr2 := Lib.hid (HBr1.out.below hb2 HBr1.out.lt); obtain ⟨⟨y0, y1, y2, y3, y4, y5, y6, y7, y8, y9, y10, y11, y12⟩, g0, g1, g2, g3, g4, g5, g6, g7, g8, g9, g10, g11, g12⟩ := newS_of HBr2.out; obtain ⟨id2, kind2, labels2, nm2, proc2, ex2, has2, args2, th2, el2, L2', lc2, x02, x12, x22, X2, xn2, xc2, R2, rc2, Tt2, tc2, U2, uc2, hs2, hcs2, _⟩ := stmt_open hx2; simp only [List.cons.injEq, and_true] at hcs2; obtain ⟨rfl, rfl, rfl, rfl, rfl, rfl, rfl, rfl, rfl, rfl, rfl, rfl, rfl⟩ := hcs2; have HX2 := Lib.hid hx2; have HBx2 : Hid (Below W1.heap.size W1 r2) := Lib.hid (HBx1.out.trans (hb2.mono HBx1.out.size)); have hz2' : r1.heap.size ≤ r2.heap.size := hb2.size; clear hb2 hx2 hs2)))
            go_wp2_with fail
            (try simp only [Exit.inBlock, Exit.then])
            refine bodyPost_ret (results_tct rfl _ _ (W.heap.size + 1) 61 _ (0, 0) _ rfl (set13_blk HBr2.out) Try.underlying61 rfl (by kernel_rfl)) rfl ?_
            have hww := HR.out.size
            have hwz := HB4.out.size
            have hw1 := HB1.out.size
            have hww1 : W1.heap.size ≤ wr.heap.size := Nat.le_trans hww hwz
            rw [HF5.out]
            refine ⟨_, _, _, _, _, _, _, _, _, _, _, _, _, rfl, set13_below (HB1.out.trans (HBx2.out.mono hw1)) (by omega), ?_⟩
            exact HX2.out.keep (fun b hb => ⟨by have := hb.1; omega, by rw [set13_size]; exact hb.2⟩) (fun p hp => set13_cell (by have := hp.1; omega))
    · have hq2 : findL (p.procs.drop k) id = (⟨#[]⟩, S0, false) := by rw [List.drop_of_length_le (by omega), findL]
      have HN : Hid (res = (⟨#[]⟩, S0, false)) := Lib.hid (by rw [← HQk.out]; exact hq2)
      have HBb4 := Lib.hid (HBb.out.below HR.out HBb.out.lt)
      obtain ⟨⟨y0, y1, y2, y3, y4, y5, y6, y7, y8, y9, y10, y11, y12⟩, g0, g1, g2, g3, g4, g5, g6, g7, g8, g9, g10, g11, g12⟩ := newS_of HBb4.out
      have HBR := Lib.hid (HB1.out.trans (HR.out.mono HB1.out.size))
      clear hq2
      go_wp2_with fail
      (try simp only [Exit.inBlock, Exit.then])
      refine bodyPost_ret (results_tct rfl _ _ (W.heap.size + 1) 61 _ (0, 0) _ rfl (set13_blk HBb4.out) Try.underlying61 rfl (by kernel_rfl)) rfl ?_
      rw [HN.out]
      exact ⟨_, _, _, _, _, _, _, _, _, _, _, _, _, rfl, set13_below HBR.out (by omega), zero_stmt _ _⟩
end Go.Proofs.Ytddfpmdbndakgaa
namespace Go.Proofs.Ytddfpmdbndakgaa
open Go.ChangeShapes Go.WideShapes Go.ChangeAt Go.RowKit Go.Deep
set_option linter.unusedVariables false
end Go.Proofs.Ytddfpmdbndakgaa
namespace Go.Proofs.Ytddfpmdbndakgaa
open Go.ChangeShapes Go.WideShapes Go.ChangeAt Go.RowKit Go.Deep
set_option linter.unusedVariables false
end Go.Proofs.Ytddfpmdbndakgaa
namespace Go.Proofs.Ytddfpmdbndakgaa
open Go.ChangeShapes Go.WideShapes Go.ChangeAt Go.RowKit Go.Deep
set_option linter.unusedVariables false
end Go.Proofs.Ytddfpmdbndakgaa
namespace Go.Proofs.Ytddfpmdbndakgaa
set_option linter.unusedVariables false
theorem weighPa_ge : ∀ (l : List Pa) (n : Nat), weighPa l n ≤ 20000 → n ≤ weighPa l n
  | [], n, h => by rw [weighPa]; omega
  | a :: l, n, h => by
    rw [weighPa] at h ⊢
    split at h
    · rename_i hn
      rw [if_pos hn]
      have h1 := weighPa_ge l _ h
      have h2 := weighT_eq (s := a.nm.size) (n := n) (by omega)
      omega
    · omega
theorem weighQs_all : ∀ (l : List Pr) (n : Nat), weighQs l n ≤ 20000 → n ≤ weighQs l n ∧ ∀ q ∈ l, wSL q.body ≤ 20000 ∧ q.nm.size ≤ 20000
  | [], n, h => by rw [weighQs]; exact ⟨Nat.le_refl _, fun q hq => by simp at hq⟩
  | q :: l, n, h => by
    rw [weighQs] at h ⊢
    split at h
    · rename_i hn
      rw [if_pos hn]
      obtain ⟨h1, h2⟩ := weighQs_all l _ h
      have hq : weighQ q n ≤ 20000 := by omega
      unfold weighQ at hq h1
      have h3 := weighSL_eq q.body _ hq
      have h4 := weighPa_ge q.params (weighTs q.end_ (weighTs q.vars (weighT q.nm.size n))) (by omega)
      have h5 := weighTs_eq q.end_ _ (show weighTs q.end_ (weighTs q.vars (weighT q.nm.size n)) ≤ 20000 by omega)
      have h6 := weighTs_eq q.vars _ (show weighTs q.vars (weighT q.nm.size n) ≤ 20000 by omega)
      have h7 := weighT_eq (s := q.nm.size) (n := n) (by omega)
      refine ⟨by unfold weighQ; omega, fun y hy => ?_⟩
      rcases List.mem_cons.1 hy with rfl | hy
      · exact ⟨by omega, by omega⟩
      · exact h2 y hy
    · omega
theorem fits_sm {p : Pg} (h : fitsP p = true) : smQ p.procs := by
  unfold fitsP weighP at h
  have h1 := (weighQs_all p.procs _ (of_decide_eq_true h)).2
  exact fun q hq => ⟨by have := (h1 q hq).1; omega, by have := (h1 q hq).2; omega⟩
end Go.Proofs.Ytddfpmdbndakgaa
namespace Go.Proofs.Ytddfpmdbndakgaa
open Go.ChangeShapes Go.WideShapes Go.ChangeAt Go.RowKit Go.Deep
set_option linter.unusedVariables false
set_option linter.unusedSimpArgs false
theorem dupL_false : ∀ (l p : List ByteArray), dupL p l = false → (∀ x ∈ l, x ∉ p) ∧ l.Nodup
 | [], p, _ => ⟨fun x hx => absurd hx (by simp), List.nodup_nil⟩
 | x :: l, p, h => by
  rw [dupL, Bool.or_eq_false_iff] at h
  obtain ⟨h1, h2⟩ := h
  obtain ⟨h3, h4⟩ := dupL_false l (p ++ [x]) h2
  have hx : x ∉ p := fun hp => by
   rw [List.any_eq_false] at h1
   exact h1 x hp (by simp [isT])
  refine ⟨fun y hy => ?_, List.nodup_cons.2 ⟨fun hy => h3 x hy (by simp), h4⟩⟩
  rcases List.mem_cons.1 hy with rfl | hy
  ·exact hx
  ·exact fun hp => h3 y hy (by simp [hp])
theorem dup_nodup {l : List ByteArray} (h : dup l = false) : l.Nodup := (dupL_false l [] h).2
theorem find_own : ∀ (l : List Pr), (l.map Pr.nm).Nodup → ∀ q ∈ l, l.find? (isQ q.nm) = some q
 | [], _, q, hq => by cases hq
 | x :: l, h, q, hq => by
  rw [List.map_cons, List.nodup_cons] at h
  rw [List.find?_cons]
  rcases List.mem_cons.1 hq with rfl | hq
  ·rw [show isQ q.nm q = true by simp [isQ]]
  ·have hne : isQ q.nm x = false := by
    unfold isQ
    exact decide_eq_false (fun e => h.1 (by rw [e]; exact List.mem_map_of_mem hq))
   rw [hne]
   exact find_own l h.2 q hq
theorem chkL_ok {gl ps : List ByteArray} : ∀ (l : List Pr), (∀ q ∈ l, ∀ s ∈ preSL q.body, s.id ≠ 0) → (chkL gl ps l).1 = 0 → ∀ q ∈ l, dup (namesP gl q) = false ∧ ∀ s ∈ preSL q.body, badS gl q ps s = false
 | [], _, _, q, hq => by cases hq
 | x :: l, hz, h, q, hq => by
  rw [chkL] at h
  split at h
  ·cases h
  ·rename_i hd
   split at h
   ·rename_i hf
    rcases List.mem_cons.1 hq with rfl | hq
    ·refine ⟨by simpa using hd, fun s hs => ?_⟩
     cases hb : badS gl q ps s with
     | false => rfl
     | true =>
      unfold fstB at hf
      cases hfd : (preSL q.body).find? (badS gl q ps) with
      | none =>
       have := List.find?_eq_none.1 hfd s hs
       rw [hb] at this; exact absurd rfl this
      | some y =>
       rw [hfd, Option.elim_some] at hf
       exact absurd hf (hz q (List.mem_cons_self ..) y (List.mem_of_find?_eq_some hfd))
    ·exact chkL_ok l (fun q hq => hz q (List.mem_cons_of_mem _ hq)) h q hq
   ·cases h
structure ChOk (p : Pg) : Prop where
 may : mayP p = true
 main : mainBad p = false
 glob : p.globals.Nodup
 procs : (p.procs.map Pr.nm).Nodup
 names : ∀ q ∈ p.procs, (namesP p.globals q).Nodup
 stm : ∀ q ∈ p.procs, ∀ s ∈ preSL q.body, badS p.globals q (p.procs.map Pr.nm) s = false
theorem chk_ok {p : Pg} (h : (chkP p).1 = 0) : ChOk p := by
 unfold chkP at h
 split at h
 ·rename_i hm
  split at h
  ·cases h
  ·rename_i hh
   unfold hdBad at hh
   simp only [Bool.or_eq_true, not_or, Bool.not_eq_true] at hh
   have h1 := chkL_ok p.procs (fun q hq s hs => by have := may_ids hm q hq s hs; omega) h
   exact ⟨hm, hh.1.1, dup_nodup hh.1.2, dup_nodup hh.2, fun q hq => dup_nodup (h1 q hq).1, fun q hq => (h1 q hq).2⟩
 ·cases h
theorem ChOk.kind {p : Pg} (h : ChOk p) {q : Pr} (hq : q ∈ p.procs) (v : ByteArray) : kindP p q.nm v = knd p.globals q v := by
 unfold kindP
 rw [if_pos h.may, find_own _ h.procs q hq]
 rfl
theorem ChOk.said {p : Pg} (h : ChOk p) {q : Pr} (hq : q ∈ p.procs) {s : S} (hs : s ∈ preSL q.body) : (∀ v ∈ saidS s, kindP p q.nm v ≠ 0) ∧ (s.kind = 4 → (s.proc.toList == [109, 97, 105, 110]) = false ∧ (procP p s.proc).2 = true) := by
 have hb := h.stm q hq s hs
 rw [← badR_eq (may_stm h.may q hq s hs)] at hb
 unfold badR at hb
 rw [Bool.or_eq_false_iff, Bool.not_eq_false', List.all_eq_true] at hb
 refine ⟨fun v hv => ?_, fun hk => ?_⟩
 ·rw [h.kind hq]
  simpa using hb.1 v hv
 ·have h2 := hb.2
  rw [hk] at h2
  simp only [beq_self_eq_true, Bool.true_and, Bool.or_eq_false_iff, Bool.not_eq_false'] at h2
  refine ⟨h2.1, ?_⟩
  unfold procP
  rw [if_pos h.may]
  have h3 := h2.2
  rw [List.any_map, List.any_eq_true] at h3
  obtain ⟨x, hx, hxs⟩ := h3
  cases hf : p.procs.find? (isQ s.proc) with
  | some y => rfl
  | none =>
   have := List.find?_eq_none.1 hf x hx
   rw [← isQ_T] at this
   exact absurd hxs this
theorem findL_in : ∀ (l : List Pr) (id : Int), (findL l id).2.2 = true → ∃ q ∈ l, (findL l id).1 = q.nm ∧ (findL l id).2.1 ∈ preSL q.body
 | [], id, h => by rw [findL] at h; cases h
 | x :: l, id, h => by
  rw [findL] at h ⊢
  cases hf : (preSL x.body).find? (fun s => s.id == id) with
  | some s =>
   exact ⟨x, List.mem_cons_self .., rfl, List.mem_of_find?_eq_some hf⟩
  | none =>
   rw [hf, Option.elim_none] at h
   obtain ⟨q, hq, h1, h2⟩ := findL_in l id h
   exact ⟨q, List.mem_cons_of_mem _ hq, h1, h2⟩
end Go.Proofs.Ytddfpmdbndakgaa
