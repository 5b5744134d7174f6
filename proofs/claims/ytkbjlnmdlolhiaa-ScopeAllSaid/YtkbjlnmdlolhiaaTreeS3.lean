/- Scope: the variables that a procedure can name: Vars (scope). -/
import Derived.Test.YtkbjlnmdlolhiaaTreeS2
import Derived.Test.YtkbjlnmdlolhiaaTreeU11
namespace Go.Proofs.Ytkbjlnmdlolhiaa
open Go.ChangeShapes Go.WideShapes Go.ChangeAt Go.RowKit Go.Deep
set_option linter.unusedVariables false
set_option linter.unusedSimpArgs false
theorem may_lens {p : Pg} (hm : mayP p = true) : p.globals.length ≤ 16 ∧ p.procs.length ≤ 16 ∧ ∀ q ∈ p.procs, q.params.length ≤ 8 ∧ q.vars.length ≤ 16 := by
 have h1 : p.globals.length ≤ 16 ∧ p.procs.length ≤ 16 := by
  have h := hm
  unfold mayP at h
  simp only [Bool.and_eq_true, Bool.not_eq_true', decide_eq_false_iff_not] at h
  omega
 refine ⟨h1.1, h1.2, fun q hq => ?_⟩
 have hh : headOk q = true := by
  rw [← rMayP_eq] at hm
  unfold rMayP at hm
  simp only [Bool.and_eq_true] at hm
  exact List.all_eq_true.1 hm.1.1.2 q hq
 unfold headOk at hh
 simp only [Bool.and_eq_true, Bool.not_eq_true', decide_eq_false_iff_not] at hh
 omega
theorem own_at {w : World} {base n : Nat} {e : TypeId} {v : Value} {xs : List Value} (h : w.ownsRow base e 1 v n xs) {k : Nat} (hk : k < n) :
  ∃ a cap, v = .slice (some a) n cap ∧ (∀ x, xs[k]? = some x → w.cell? (a.add k) = some x) ∧ w.frozen? (a.add k) = false ∧ base ≤ (a.add k).block := by
 obtain ⟨hl, h'⟩ := h
 rcases h' with ⟨_, rfl⟩ | ⟨g, cap, cur, rfl, hb, hg, hnc, hm, hs, ht⟩
 ·omega
 ·refine ⟨⟨g, 0, none⟩, cap, rfl, fun x hx => own_cells (m := n) (cap := cap) (n := n) (w := w) (base := base) (e := e) (size := 1) (xs := xs) ⟨hl, .inr ⟨g, cap, cur, rfl, hb, hg, hnc, hm, hs, ht⟩⟩ k x hx, ?_, ?_⟩
  ·rw [addr0]
   exact (show Blk w g e cur from hg).frozen k
  ·rw [addr0]; exact hb
def varsP (p : Pg) (proc : ByteArray) : List ByteArray := if mayP p = true then (p.procs.find? (isQ proc)).elim [] (namesP p.globals) else []
set_option maxHeartbeats 2000000 in
set_option maxRecDepth 100000 in
theorem Vars_any {w : World} {Q : Nat → Prop} {p : Pg} {c0 c1 : Value} (h : ProgI w Q p [c0, c1]) (hsm : SmG p) (proc : ByteArray) (W : World) (hI : In Q w W) :
  Calls Try.prog 34 #[.agg #[c0, c1], .string proc] W (NewRow (varsP p proc) W) := by
 have HF := Lib.hid (fun V hV => find_any h proc V hV)
 obtain ⟨Ag, cg, Ap, cp, rfl, rfl, _, _, _, _, hgl, hpr⟩ := prog_open h
 have HP := Lib.hid hpr
 have HGl := Lib.hid hgl
 have HI := Lib.hid hI
 have HSm := Lib.hid hsm
 have hfd : (fndP p proc = -1 ∧ varsP p proc = []) ∨ ∃ j, ∃ hj : j < p.procs.length, fndP p proc = ((j : Nat) : Int) ∧ varsP p proc = namesP p.globals p.procs[j] ∧ mayP p = true := by
  unfold fndP varsP
  by_cases hm : mayP p = true
  ·rw [if_pos hm, if_pos hm]
   rcases idxL_get (isQ proc) p.procs 0 with ⟨h1, h2⟩ | ⟨j, hj, h1, _, h3⟩
   ·exact .inl ⟨h1, by rw [h2]; rfl⟩
   ·exact .inr ⟨j, hj, by rw [h1, Nat.zero_add], by rw [h3]; rfl, hm⟩
  ·rw [if_neg hm, if_neg hm]
   exact .inl ⟨rfl, rfl⟩
 clear h hI hpr hgl hsm
 generalize fndP p proc = z at HF hfd
 go_enter Try.func34, Try.ntmps34
 go_upto_region 1 with fail
 have HB0 : Hid (Below W.heap.size W (W.alloc (.cells #[.slice Ag p.globals.length cg, .slice Ap p.procs.length cp] 25))) := Lib.hid (below_box _)
 have HBp : Hid (Blk (W.alloc (.cells #[.slice Ag p.globals.length cg, .slice Ap p.procs.length cp] 25)) W.heap.size 25 #[.slice Ag p.globals.length cg, .slice Ap p.procs.length cp]) := Lib.hid (Blk.new _ _ _)
 generalize World.alloc _ _ = V at HB0 HBp ⊢
 generalize hbe : W.heap.size = b at HBp ⊢
 clear hbe
 have HI0 := Lib.hid (HI.out.on HB0.out)
 have q0 : V.cell? ⟨b, 0, none⟩ = some (.slice Ag p.globals.length cg) := by rw [HBp.out.cell]; rfl
 have q1 : V.cell? ⟨b, 1, none⟩ = some (.slice Ap p.procs.length cp) := by rw [HBp.out.cell]; rfl
 have hbl := HBp.out.lt
 go_upto_region 2 with (go_at_call 79; refine (HF.out V HI0.out).mono ?_; rintro e w1 ⟨rfl, hb1⟩)
 have HB1 := Lib.hid (below_step HB0.out hb1)
 have HI1 := Lib.hid (HI0.out.on hb1)
 have HBp1 := Lib.hid (HBp.out.below hb1 hbl)
 clear q0 q1 hbl hb1 HB0 HBp HI0 HF
 rcases hfd with ⟨rfl, hk⟩ | ⟨j, hj, rfl, hk, hm⟩
 ·have HK0 := Lib.hid hk
  clear hk
  go_wp2_with fail
  go_ret
  exact ⟨.slice none 0 0, rfl, by rw [HK0.out]; exact World.ownsRow_nil _ _ _ _, HB1.out⟩
 ·obtain ⟨a, Bp, kp, Bv, kv, Bb, kb, Be, ke, rfl, hqa, hrow, hnm, hpp, hvv, hbody, hee⟩ := proc_at HP.out HI1.out hj
  have HPI : Hid (ProcI w Q p.procs[j] [.string p.procs[j].nm, .slice Bp p.procs[j].params.length kp, .slice Bv p.procs[j].vars.length kv, .slice Bb p.procs[j].body.length kb, .slice Be p.procs[j].end_.length ke]) := Lib.hid ⟨_, _, _, _, rfl, hnm, hpp, hvv, hbody, hee⟩
  obtain ⟨hm1, _, hm2⟩ := may_lens hm
  have hm3 := hm2 _ (List.getElem_mem hj)
  have HC := Lib.hid (fun V hV => namesIn_any HGl.out HPI.out ⟨hm1, hm3.1, hm3.2⟩ V hV)
  have HL : Hid (∀ s ∈ namesP p.globals p.procs[j], s.size ≤ 281474976710656) := Lib.hid (by
   obtain ⟨_, h2, h3, _⟩ := (U.smC_of HSm.out hm).proc _ (List.getElem_mem hj)
   intro s hs
   unfold namesP at hs
   simp only [List.mem_append, List.mem_map] at hs
   rcases hs with (hs | ⟨x, hx, rfl⟩) | hs
   ·exact Nat.le_trans ((U.smC_of HSm.out hm).globals.2 _ hs) (by omega)
   ·exact Nat.le_trans (h2.2 _ hx) (by omega)
   ·exact Nat.le_trans (h3.2 _ hs) (by omega))
  have hll : (namesP p.globals p.procs[j]).length ≤ 40 := by simp [namesP]; omega
  have HK0 := Lib.hid hk
  generalize namesP p.globals p.procs[j] = l at HC HK0 HL hll
  generalize p.procs[j].nm = x0 at hrow HC
  generalize p.procs[j].params.length = x1 at hrow HC
  generalize p.procs[j].vars.length = x2 at hrow HC
  generalize p.procs[j].body.length = x3 at hrow HC
  generalize p.procs[j].end_.length = x4 at hrow HC
  obtain ⟨p0, p1, p2, p3, p4, _⟩ := hrow
  clear HPI hk hnm hpp hvv hbody hee hm hm1 hm2 hm3 HSm
  have q0 : w1.cell? ⟨b, 0, none⟩ = some (.slice Ag p.globals.length cg) := by rw [HBp1.out.cell]; rfl
  have q1 : w1.cell? ⟨b, 1, none⟩ = some (.slice (some a) p.procs.length cp) := by rw [HBp1.out.cell]; rfl
  have hbl := HBp1.out.lt
  have HQa : Hid (Q (a.add (j * 5)).block) := Lib.hid (by rw [block_add]; exact hqa)
  clear hqa
  have hdr : ∀ V : World, In Q w V → In Q w V.drew := fun V h => h
  have hBD : Below w1.heap.size w1 w1.drew := (Below.refl _ _).drew
  go_upto_region 4 with fail
  go_region_held3 (fun w' => w'.cell? ⟨b, 0, none⟩ = some (.slice Ag p.globals.length cg) ∧ w'.cell? ⟨b, 1, none⟩ = some (.slice (some a) p.procs.length cp) ∧ w'.cell? (a.add (j * 5)) = some (.string x0) ∧ w'.cell? ⟨(a.add (j * 5)).block, (a.add (j * 5)).off + 1, none⟩ = some (.slice Bp x1 kp) ∧ w'.cell? ⟨(a.add (j * 5)).block, (a.add (j * 5)).off + 2, none⟩ = some (.slice Bv x2 kv) ∧ w'.cell? ⟨(a.add (j * 5)).block, (a.add (j * 5)).off + 3, none⟩ = some (.slice Bb x3 kb) ∧ w'.cell? ⟨(a.add (j * 5)).block, (a.add (j * 5)).off + 4, none⟩ = some (.slice Be x4 ke))
   (go_keep)
   ((go_at_call 81; refine (HC.out _ (hdr _ HI1.out)).mono ?_; rintro e' w2 ⟨v2, rfl, ho2, hb2⟩; obtain ⟨X2, k2, rfl, _, _⟩ := own_shape ho2; have HO2 := Lib.hid ho2; clear ho2; have hb2' := hBD.trans hb2; have HI2 := Lib.hid (HI1.out.on hb2'); have k0 := (hb2'.cell (p := ⟨b, 0, none⟩) hbl).trans q0; have k1 := (hb2'.cell (p := ⟨b, 1, none⟩) hbl).trans q1; have r0 := (HI2.out.cell (p := a.add (j * 5)) HQa.out).trans ((HI1.out.cell (p := a.add (j * 5)) HQa.out).symm.trans p0); have r1 := (HI2.out.cell (p := ⟨(a.add (j * 5)).block, (a.add (j * 5)).off + 1, none⟩) HQa.out).trans ((HI1.out.cell (p := ⟨(a.add (j * 5)).block, (a.add (j * 5)).off + 1, none⟩) HQa.out).symm.trans p1); have r2 := (HI2.out.cell (p := ⟨(a.add (j * 5)).block, (a.add (j * 5)).off + 2, none⟩) HQa.out).trans ((HI1.out.cell (p := ⟨(a.add (j * 5)).block, (a.add (j * 5)).off + 2, none⟩) HQa.out).symm.trans p2); have r3 := (HI2.out.cell (p := ⟨(a.add (j * 5)).block, (a.add (j * 5)).off + 3, none⟩) HQa.out).trans ((HI1.out.cell (p := ⟨(a.add (j * 5)).block, (a.add (j * 5)).off + 3, none⟩) HQa.out).symm.trans p3); have r4 := (HI2.out.cell (p := ⟨(a.add (j * 5)).block, (a.add (j * 5)).off + 4, none⟩) HQa.out).trans ((HI1.out.cell (p := ⟨(a.add (j * 5)).block, (a.add (j * 5)).off + 4, none⟩) HQa.out).symm.trans p4)))
  have HB2 : Hid (Below w1.heap.size w1 w2) := Lib.hid hb2'
  have HO3 : Hid (w2.ownsRow w1.heap.size 9 1 (.slice X2 l.length k2) l.length (strs l)) := HO2
  clear p0 p1 p2 p3 p4 q0 q1 hbl hb2 hb2' k0 k1 r0 r1 r2 r3 r4 hdr hBD HQa HO2 HC
  go_wp2_with fail
  go_loopw [24] (fun iv wr => ∃ (k : Nat), k ≤ l.length ∧ iv = .int .i64 k ∧ Hid (Below w1.heap.size w1 wr) ∧ Hid (wr.ownsRow w1.heap.size 9 1 (.slice X2 l.length k2) l.length (strs l))) (fun iv _ => l.length - (intOf iv).toNat)
  case atStart => exact ⟨0, Nat.zero_le _, rfl, HB2, HO3⟩
  case round =>
   clear HB2 HO3
   obtain ⟨k, hk, rfl, HBr, HOr⟩ := hrel
   by_cases hlt : k < l.length
   ·obtain ⟨g, cap, he, hc, hf, hb⟩ := own_at HOr.out hlt
    injection he with h1 _ h3
    subst h1 h3
    have hsz : l[k].size ≤ 281474976710656 := HL.out _ (List.getElem_mem hlt)
    have HCl := Lib.hid (fun V => Clone_any l[k] V hsz)
    have p := hc (.string l[k]) (by simp [strs, List.getElem?_map, List.getElem?_eq_getElem hlt])
    have HC : Hid (∀ w2 : World, w2.ownsRow w1.heap.size 9 1 (.slice (some g) l.length k2) l.length (strs l) → w2.cell? (g.add k) = some (.string l[k]) ∧ w2.frozen? (g.add k) = false) := Lib.hid (fun w2 h2 => by
     obtain ⟨g', cap', he', hc', hf', _⟩ := own_at h2 hlt
     injection he' with h1' _ h3'
     injection h1' with h1'
     subst h1'
     exact ⟨hc' _ (by simp [strs, List.getElem?_map, List.getElem?_eq_getElem hlt]), hf'⟩)
    generalize l[k] = s at HCl p HC
    clear hc hf hb hsz
    go_upto_region 8 with fail
    go_upto_region 9 with (go_at_call 67; refine (HCl.out _).mono ?_; rintro e w3 ⟨rfl, hb3⟩; have HO3 := Lib.hid ((Below.moves hb3).row HOr.out (fun j hj e => Nat.not_lt.2 e (HOr.out.lt j hj).2)); obtain ⟨p3, f3⟩ := HC.out _ HO3.out; have HB3 := Lib.hid hb3; clear hb3)
    rw [U.setCell_same p3]
    clear p3 f3
    go_wp2_with fail
    go_roundw
    case rel => exact ⟨k + 1, by omega, by go_num, Lib.hid (below_step HBr.out HB3.out), HO3⟩
    case measure => simp [intOf]; omega
   ·go_wp2_with fail
    go_ret
    exact ⟨_, rfl, by rw [HK0.out]; exact own_lower HOr.out HB1.out.size, below_step HB1.out HBr.out⟩
end Go.Proofs.Ytkbjlnmdlolhiaa
