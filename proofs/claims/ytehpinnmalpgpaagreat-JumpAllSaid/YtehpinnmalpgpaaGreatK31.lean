/- Texts, merged by a program; only what is used. -/
import Derived.Test.YtehpinnmalpgpaaGreatK1
import Derived.Test.YtehpinnmalpgpaaGreatK2
import Derived.Test.YtehpinnmalpgpaaGreatK3
import Derived.Test.YtehpinnmalpgpaaGreatK4
import Derived.Test.YtehpinnmalpgpaaGreatK5
import Derived.Test.YtehpinnmalpgpaaGreatK6
import Derived.Test.YtehpinnmalpgpaaGreatK7
import Derived.Test.YtehpinnmalpgpaaGreatK8
import Derived.Test.YtehpinnmalpgpaaGreatK9
import Derived.Test.YtehpinnmalpgpaaGreatK10
import Derived.Test.YtehpinnmalpgpaaGreatK11
import Derived.Test.YtehpinnmalpgpaaGreatK12
import Derived.Test.YtehpinnmalpgpaaGreatK13
import Derived.Test.YtehpinnmalpgpaaGreatK14
import Derived.Test.YtehpinnmalpgpaaGreatK15
import Derived.Test.YtehpinnmalpgpaaGreatK16
import Derived.Test.YtehpinnmalpgpaaGreatK17
import Derived.Test.YtehpinnmalpgpaaGreatK18
import Derived.Test.YtehpinnmalpgpaaGreatK19
import Derived.Test.YtehpinnmalpgpaaGreatK20
import Derived.Test.YtehpinnmalpgpaaGreatK21
import Derived.Test.YtehpinnmalpgpaaGreatK22
import Derived.Test.YtehpinnmalpgpaaGreatK23
import Derived.Test.YtehpinnmalpgpaaGreatK24
import Derived.Test.YtehpinnmalpgpaaGreatK25
import Derived.Test.YtehpinnmalpgpaaGreatK26
import Derived.Test.YtehpinnmalpgpaaGreatK27
import Derived.Test.YtehpinnmalpgpaaGreatK28
import Derived.Test.YtehpinnmalpgpaaGreatK29
import Derived.Test.YtehpinnmalpgpaaGreatK30
namespace Go.Proofs.YtehpinnmalpgpaaGreat
open Go.ChangeShapes Go.WideShapes Go.ChangeAt Go.RowKit Go.Deep Go.Shelf
set_option linter.unusedVariables false
set_option linter.unusedSimpArgs false
attribute [local go_sem] Oper.semAt_some
/-- the marks of loops that are over -/
def markD (ds : List Nat) : List Deferred := ds.map fun D => { target := .collected D, args := #[] }
def Marks (n0 : Nat) (ds : List Nat) (W : World) : Prop := ds.Nodup ∧ ∀ D ∈ ds, n0 ≤ D ∧ W.heap[D]? = some (.deferred (some []))
theorem Marks.nil (n0 : Nat) (W : World) : Marks n0 [] W := ⟨List.nodup_nil, fun D hD => by cases hD⟩
theorem Marks.lt {n0 : Nat} {ds : List Nat} {W : World} (h : Marks n0 ds W) : ∀ D ∈ ds, D < W.heap.size := fun D hD => (Array.getElem?_eq_some_iff.1 (h.2 D hD).2).1
theorem Marks.kept {n0 : Nat} {ds : List Nat} {W W' : World} (h : Marks n0 ds W) (hk : ∀ D, n0 ≤ D → D < W.heap.size → W'.heap[D]? = W.heap[D]?) : Marks n0 ds W' := ⟨h.1, fun D hD => ⟨(h.2 D hD).1, (hk D (h.2 D hD).1 (h.lt D hD)).trans (h.2 D hD).2⟩⟩
theorem Marks.cons {n0 D : Nat} {ds : List Nat} {W : World} (h : Marks n0 ds W) (h1 : n0 ≤ D) (h2 : W.heap[D]? = some (.deferred (some []))) (h3 : D ∉ ds) : Marks n0 (D :: ds) W := ⟨List.nodup_cons.2 ⟨h3, h.1⟩, fun x hx => by
 rcases List.mem_cons.1 hx with rfl | hx
 ·exact ⟨h1, h2⟩
 ·exact h.2 x hx⟩
theorem marks_leave {F : Fence} {n n0 : Nat} {P : Program} {fn : Func} {tmps : Array Value} {R : Ending → World → Prop} : ∀ (ds : List Nat) (W : World), Marks n0 ds W → (∀ W', Below n0 W W' → (∀ (a : Addr) v, W.cell? a = some v → W'.cell? a = some v) → ∃ v, (results fn tmps).run P W' = .ok v W' ∧ R (.returned v) W') → LeavesInM F n P fn tmps R (markD ds) .returning W
 | [], W, _, h => h W (Below.refl _ _) (fun _ _ h => h)
 | D :: ds, W, hm, h => by
  have hD := (hm.2 D (List.mem_cons_self ..)).2
  have hn := (hm.2 D (List.mem_cons_self ..)).1
  have hB : Below n0 W (W.putObj D (.deferred none)) := (Below.refl n0 W).grown (grownBy_putObj' W D _) (by have := hm.lt D (List.mem_cons_self ..); omega) (fun k e => by cases e; omega)
  refine ⟨by simp, .inl ⟨_, _, rfl, run_takeDeferred hD, marks_leave ds _ ⟨(List.nodup_cons.1 hm.1).2, fun x hx => ⟨(hm.2 x (List.mem_cons_of_mem _ hx)).1, ?_⟩⟩ fun W' hb hc => h W' (hB.trans hb) fun a v ha => hc a v ?_⟩⟩
  ·have hne : x ≠ D := fun e => (List.nodup_cons.1 hm.1).1 (e ▸ hx)
   exact (World.putObj_heap_other (fun e' => hne (by first | exact e' | exact e'.symm))).trans (hm.2 x (List.mem_cons_of_mem _ hx)).2
  ·exact cell_kept ha (grownBy_putObj' _ D (.deferred none)) (fun r e => by cases e; exact ⟨_, hD, rfl⟩)
theorem find_stopI {w : World} {Q : Nat → Prop} {id0 : Int} {L : List S} {ys : List (YE w Q)} {x : YE w Q} (h : (ys ++ [x]).map valY <+: lpSL L 0) (hn : ∀ y ∈ ys, ¬ (valY y).1.id = id0) (hx : (valY x).1.id = id0) : (lpSL L 0).find? (fun z => z.1.id == id0) = some (valY x) := by
 obtain ⟨t, ht⟩ := h
 rw [← ht, List.map_append, List.append_assoc, List.find?_append, List.find?_eq_none.2]
 ·rw [Option.none_or, List.map_cons, List.map_nil, List.cons_append, List.nil_append]
  exact List.find?_cons_of_pos (by simpa using hx)
 ·intro s hs
  simp only [List.mem_map] at hs
  obtain ⟨y, hy, rfl⟩ := hs
  simpa using hn y hy
theorem find_doneI {w : World} {Q : Nat → Prop} {id0 : Int} {L : List S} {ys : List (YE w Q)} (h : ys.map valY = lpSL L 0) (hn : ∀ y ∈ ys, ¬ (valY y).1.id = id0) : (lpSL L 0).find? (fun z => z.1.id == id0) = none := by
 rw [← h, List.find?_eq_none]
 intro s hs
 simp only [List.mem_map] at hs
 obtain ⟨y, hy, rfl⟩ := hs
 simpa using hn y hy
set_option maxRecDepth 100000 in
set_option maxHeartbeats 8000000 in
theorem jLoop_any {w : World} {Q : Nat → Prop} {p : Pg} {c0 c1 : Value} (h : ProgI w Q p [c0, c1]) (hsm : SmG p) (id0 : Int) (W : World) (hI : In Q w W) :
 Calls Tryz.prog 11 #[.agg #[c0, c1], .int .i64 id0] W fun e w' => e = .returned (.tuple #[.int .i64 (jLoop p id0).1, .bool (jLoop p id0).2]) ∧ Below W.heap.size W w' := by
 have HM := Lib.hid (fun V hV => named_any h hsm V hV)
 obtain ⟨Ag, cg, Ap, cp, rfl, rfl, _, _, _, _, _, hpr⟩ := prog_open h
 have HP := Lib.hid hpr
 have HI := Lib.hid hI
 clear h hI hpr
 obtain ⟨res, hres⟩ : ∃ res, res = jLoop p id0 := ⟨_, rfl⟩
 rw [← hres]
 unfold jLoop at hres
 have HRes := Lib.hid hres
 clear hres
 refine (callsIn_wide (n := 6)).1 ?_
 have hro : Fence.wide.round = none := rfl
 refine callsIn_of_wp_marks Tryz.func11 rfl trivial ?_ hro
 simp only [Tryz.ntmps11, List.size_toArray, List.length_cons, List.length_nil, Nat.reduceAdd, Nat.reduceSub, Array.replicate_succ, Array.replicate_zero, List.push_toArray, List.append_toArray, List.nil_append, List.cons_append]
 obtain ⟨V0, hV0⟩ : ∃ V0, V0 = ((((W.alloc (.cells #[.slice Ag p.globals.length cg, .slice Ap p.procs.length cp] 25)).alloc (.cells #[.int .i64 id0] 3)).alloc (.cells #[.int .i64 0] 3)).alloc (.cells #[.bool false] 4)) := ⟨_, rfl⟩
 have HV0 := Lib.hid hV0
 have hB0 : Below W.heap.size W V0 := by rw [hV0]; exact below_stepA (below_stepA (below_stepA (below_box _) _) _) _
 have hz0 : V0.heap.size = W.heap.size + 1 + 1 + 1 + 1 := by rw [hV0]; simp
 have HB3 : Hid (Blk V0 W.heap.size 25 #[.slice Ag p.globals.length cg, .slice Ap p.procs.length cp]) := Lib.hid (by rw [hV0]; exact (((Blk.new _ _ _).alloc _).alloc _).alloc _)
 have HB5 : Hid (Blk V0 (W.heap.size + 1) 3 #[.int .i64 id0]) := Lib.hid (by rw [hV0]; have h := Blk.new (W.alloc (.cells #[.slice Ag p.globals.length cg, .slice Ap p.procs.length cp] 25)) 3 #[.int .i64 id0]; rw [World.size_alloc] at h; exact (h.alloc _).alloc _)
 have HB6 : Hid (Blk V0 (W.heap.size + 1 + 1) 3 #[.int .i64 0]) := Lib.hid (by rw [hV0]; have h := Blk.new ((W.alloc (.cells #[.slice Ag p.globals.length cg, .slice Ap p.procs.length cp] 25)).alloc (.cells #[.int .i64 id0] 3)) 3 #[.int .i64 0]; rw [World.size_alloc, World.size_alloc] at h; exact h.alloc _)
 have HB7 : Hid (Blk V0 (W.heap.size + 1 + 1 + 1) 4 #[.bool false]) := Lib.hid (by rw [hV0]; have h := Blk.new (((W.alloc (.cells #[.slice Ag p.globals.length cg, .slice Ap p.procs.length cp] 25)).alloc (.cells #[.int .i64 id0] 3)).alloc (.cells #[.int .i64 0] 3)) 4 #[.bool false]; rw [World.size_alloc, World.size_alloc, World.size_alloc] at h; exact h)
 have HI0 := Lib.hid (HI.out.on hB0)
 have HF0 := Lib.hid (HM.out _ HI0.out)
 have qq : V0.cell? ⟨W.heap.size, 0, none⟩ = some (.slice Ag p.globals.length cg) := by rw [HB3.out.cell]; rfl
 have qr : V0.cell? ⟨W.heap.size, 1, none⟩ = some (.slice Ap p.procs.length cp) := by rw [HB3.out.cell]; rfl
 rw [hV0] at HF0 qq qr
 have HBW := Lib.hid hB0
 have HZ0 := Lib.hid hz0
 clear hV0 hB0 hz0
 cases hm : chkOK p with
 | false =>
  rw [hm] at HF0
  have HRv : Hid (res = (0, false)) := Lib.hid (by rw [HRes.out, hm]; rfl)
  clear hm
  gi_wp2_with (refine ⟨trivial, ?_⟩; gi_at_call 42; refine (callsIn_wide.2 HF0.out).mono ?_; clear HF0; rintro e w1 ⟨rfl, hb1⟩; rw [← HV0.out] at hb1; have h6 := HB6.out.below hb1 HB6.out.lt; have h7 := HB7.out.below hb1 HB7.out.lt; have c6 : w1.cell? ⟨W.heap.size + 1 + 1, 0, none⟩ = some (.int .i64 0) := (by rw [h6.cell]; rfl); have c7 : w1.cell? ⟨W.heap.size + 1 + 1 + 1, 0, none⟩ = some (.bool false) := (by rw [h7.cell]; rfl); have f6 := h6.frozen 0; have f7 := h7.frozen 0; have l6 := h6.lt; have l7 := h7.lt; have HB1 := Lib.hid hb1; clear hb1)
  have h6' := (h6.set_ 0 (.int .i64 0)).far (p := ⟨W.heap.size + 1 + 1 + 1, 0, none⟩) (by show (W.heap.size + 1 + 1 : Nat) ≠ W.heap.size + 1 + 1 + 1; omega) (.bool false)
  have h7' := (h7.far (p := ⟨W.heap.size + 1 + 1, 0, none⟩) (by show (W.heap.size + 1 + 1 + 1 : Nat) ≠ W.heap.size + 1 + 1; omega) (.int .i64 0)).set_ 0 (.bool false)
  simp only [List.setIfInBounds_toArray, List.set_cons_zero] at h6' h7'
  have hc6 := h6'.cell 0
  have hc7 := h7'.cell 0
  refine ⟨_, ?_, by rw [HRv.out], ((below_step HBW.out HB1.out).setCell (p := ⟨W.heap.size + 1 + 1, 0, none⟩) (by show W.heap.size ≤ W.heap.size + 1 + 1; omega) _).setCell (p := ⟨W.heap.size + 1 + 1 + 1, 0, none⟩) (by show W.heap.size ≤ W.heap.size + 1 + 1 + 1; omega) _⟩
  simp [results, Tryz.f11, go_sem, hc6, hc7]
 | true =>
  rw [hm] at HF0
  rw [hm, if_pos rfl] at HRes
  have HRes := Lib.hid HRes.out
  clear hm
  gi_wp2_with (refine ⟨trivial, ?_⟩; gi_at_call 42; refine (callsIn_wide.2 HF0.out).mono ?_; clear HF0; rintro e w1 ⟨rfl, hb1⟩; rw [← HV0.out] at hb1; have HB1 := Lib.hid hb1; have HI1 := Lib.hid (HI0.out.on hb1); have d3 := HB3.out.below hb1 HB3.out.lt; have HD3 := Lib.hid d3; have q1 : w1.cell? ⟨W.heap.size, 1, none⟩ = some (.slice Ap p.procs.length cp) := (by rw [d3.cell]; rfl); clear hb1 d3)
  have HD5 := Lib.hid (HB5.out.below HB1.out HB5.out.lt)
  have HD6 := Lib.hid (HB6.out.below HB1.out HB6.out.lt)
  have HD7 := Lib.hid (HB7.out.below HB1.out HB7.out.lt)
  have HBW1 := Lib.hid (below_step HBW.out HB1.out)
  have hnz : W.heap.size + 1 + 1 + 1 + 1 ≤ w1.heap.size := by rw [← HZ0.out]; exact HB1.out.size
  clear qq qr
  refine wpIn_loop (fun a' wr => ∃ (k : Nat) (ds : List Nat) (u7 u17 u18 u19 u20 u21 u22 u32 : Value), a' = { tmps := #[.agg #[.slice Ag p.globals.length cg, .slice Ap p.procs.length cp], .int .i64 id0, .pointer (some ⟨W.heap.size, 0, none⟩), .pointer (some ⟨W.heap.size + 1, 0, none⟩), .pointer (some ⟨W.heap.size + 1 + 1, 0, none⟩), .pointer (some ⟨W.heap.size + 1 + 1 + 1, 0, none⟩), undef, u7, undef, undef, .agg #[.slice Ag p.globals.length cg, .slice Ap p.procs.length cp], .bool true, .bool false, .pointer (some ⟨W.heap.size, 1, none⟩), .slice Ap p.procs.length cp, .int .i64 p.procs.length, .int .i64 k, u17, u18, u19, u20, u21, u22, undef, undef, undef, undef, undef, undef, undef, undef, undef, u32], defers := markD ds } ∧ k ≤ p.procs.length ∧ Hid (lpL (p.procs.drop k) id0 = lpL p.procs id0) ∧ Hid (Marks (W.heap.size + 1 + 1 + 1 + 1) ds wr) ∧ Hid (Below W.heap.size W wr) ∧ Hid (Blk wr W.heap.size 25 #[.slice Ag p.globals.length cg, .slice Ap p.procs.length cp]) ∧ Hid (Blk wr (W.heap.size + 1) 3 #[.int .i64 id0]) ∧ Hid (Blk wr (W.heap.size + 1 + 1) 3 #[.int .i64 0]) ∧ Hid (Blk wr (W.heap.size + 1 + 1 + 1) 4 #[.bool false])) (fun a' _ => p.procs.length - (intOf (a'.tmps.getD 16 undef)).toNat) ⟨0, [], undef, undef, undef, undef, undef, undef, undef, undef, rfl, Nat.zero_le _, Lib.hid (by rw [List.drop_zero]), Lib.hid (Marks.nil _ _), HBW1, HD3, HD5, HD6, HD7⟩ ?round
  case round =>
   rintro _ wr ⟨k, ds, u7, u17, u18, u19, u20, u21, u22, u32, rfl, hk, HDr, HMk, HBr, HR3, HR5, HR6, HR7⟩
   have HIr := Lib.hid (HI.out.on HBr.out)
   have hnr : W.heap.size + 1 + 1 + 1 + 1 ≤ wr.heap.size := HR7.out.lt
   have q1r : wr.cell? ⟨W.heap.size, 1, none⟩ = some (.slice Ap p.procs.length cp) := by rw [HR3.out.cell]; rfl
   clear HD3 HD5 HD6 HD7 q1 hnz HI1 HB1 HBW1
   by_cases hlt : k < p.procs.length
   ·obtain ⟨a, Bp, kp, Bv, kv, Bb, kb, Be, ke, rfl, hqa, ⟨p0, p1, p2, p3, p4, _⟩, hnm, hpp, hvv, hbody, hee⟩ := proc_at HP.out HIr.out hlt
    have HDd := Lib.hid (lpL_drop hlt id0)
    rw [HDr.out] at HDd
    have HSm := Lib.hid (hsm.proc _ (List.getElem_mem hlt)).1
    generalize hq : p.procs[k] = y at p0 p1 p2 p3 p4 hbody HDd HSm
    obtain ⟨ynm, yps, yvs, yb, ye⟩ := y
    simp only at p0 p1 p2 p3 p4 hbody HDd HSm
    clear hq hnm hpp hvv hee
    have HBo := Lib.hid hbody
    gi_wp2_with (refine ⟨trivial, ?_⟩; gi_at_call 37; refine (callsIn_wide.2 (statements_any _ _ HBo.out)).mono ?_; rintro e w2 ⟨rfl, hw2⟩; have HW2 := Lib.hid hw2; clear hw2)
    have hw2 : w2 = (wr.alloc (.cells #[.string ynm, .slice Bp yps.length kp, .slice Bv yvs.length kv, .slice Bb yb.length kb, .slice Be ye.length ke] 43)).alloc (.cells #[.slice Bb yb.length kb] 41) := HW2.out
    have hs2 : w2.heap.size = wr.heap.size + 1 + 1 := by rw [hw2]; simp
    have hb12 : Below wr.heap.size wr w2 := by rw [hw2]; exact below_stepA (below_box _) _
    have hI2 : In Q w w2 := HIr.out.on hb12
    have hQ2 : ∀ j, Q j → j < w2.heap.size ∧ ¬ (j = W.heap.size + 1 + 1 ∨ j = W.heap.size + 1 + 1 + 1) := fun j hj => ⟨hI2.1 j hj, by have := HI.out.1 j hj; omega⟩
    have hc2 : w2.cell? ⟨wr.heap.size + 1, 0, none⟩ = some (.slice Bb yb.length kb) := by
     have h := Blk.new (wr.alloc (.cells #[.string ynm, .slice Bp yps.length kp, .slice Bv yvs.length kv, .slice Bb yb.length kb, .slice Be ye.length ke] 43)) 41 #[.slice Bb yb.length kb]
     rw [World.size_alloc] at h
     rw [hw2, h.cell]; rfl
    have h5 := HR5.out.below hb12 HR5.out.lt
    have h6 := HR6.out.below hb12 HR6.out.lt
    have h7 := HR7.out.below hb12 HR7.out.lt
    have H3 := Lib.hid (HR3.out.below hb12 HR3.out.lt)
    have H5 := Lib.hid h5
    have HB02 := Lib.hid (below_step HBr.out hb12)
    have HB12 := Lib.hid hb12
    have HI2 := Lib.hid hI2
    have HQ2 := Lib.hid hQ2
    have HS2 := Lib.hid hs2
    have Hhr : Hid (∀ (A B : World) (row : Option Nat), (∀ r, row = some r → w2.heap.size ≤ r ∧ ∃ o : Obj, A.heap[r]? = some o ∧ o.isCells = false) → (∀ r, row = some r → ∃ o : Obj, A.heap[r]? = some o ∧ o.isCells = false)) := Lib.hid (fun A B row h r e => (h r e).2)
    have HMk3 : Hid (∀ W3 : World, KpC w2.heap.size (fun j => j = W.heap.size + 1 + 1 ∨ j = W.heap.size + 1 + 1 + 1) w2 W3 → Marks (W.heap.size + 1 + 1 + 1 + 1) ds W3) := Lib.hid (fun W3 hK => HMk.out.kept (fun D h1 h2 => (hK.low D (by omega) (by omega)).trans (hb12.block D h2)))
    have HDn : Hid (∀ D, w2.heap.size ≤ D → D ∉ ds) := Lib.hid (fun D h1 h2 => by have := HMk.out.lt D h2; omega)
    clear hw2 hI2 q1r p0 p1 p2 p3 p4
    refine wpIn_rangeFunc_ownH hro (by omega) (gf := 76) (lb := #[.pointer (some ⟨wr.heap.size + 1, 0, none⟩)]) rfl trivial (enters_of Tryz.func76 (by kernel_rfl) rfl)
     (statements_stops rfl trivial trivial hro (6 - 1) (wr.heap.size + 1) w2.heap.size (fun j => j = W.heap.size + 1 + 1 ∨ j = W.heap.size + 1 + 1 + 1) hQ2 ⟨by omega, by omega⟩ HBo.out HSm.out w2 HI2.out (Nat.le_refl _) hc2) (fun h k => KpC.trans h k) (KpC.put (Nat.le_refl _)) (Below.refl _ _) (fun _ => rfl)
     (fun pre V => KpC w2.heap.size (fun j => j = W.heap.size + 1 + 1 ∨ j = W.heap.size + 1 + 1 + 1) w2 V ∧ Blk V (W.heap.size + 1 + 1) 3 #[.int .i64 0] ∧ Blk V (W.heap.size + 1 + 1 + 1) 4 #[.bool false] ∧ ∀ x ∈ pre, ¬ (valY x).1.id = id0)
     (fun c pre V => ∃ ys x, pre = ys ++ [x] ∧ c = .ret ∧ KpC w2.heap.size (fun j => j = W.heap.size + 1 + 1 ∨ j = W.heap.size + 1 + 1 + 1) w2 V ∧ Blk V (W.heap.size + 1 + 1) 3 #[.int .i64 (valY x).2] ∧ Blk V (W.heap.size + 1 + 1 + 1) 4 #[.bool ((valY x).2 != 0)] ∧ (∀ y ∈ ys, ¬ (valY y).1.id = id0) ∧ (valY x).1.id = id0)
     (fun s A B row hs hg hr => ⟨hs.1.trans (kpc_grown hs.1.size hg hr), blk_grown hs.2.1 hg (Hhr.out A B row hr), blk_grown hs.2.2.1 hg (Hhr.out A B row hr), hs.2.2.2⟩)
     (fun c s A B row hs hg hr => by
      obtain ⟨ys, x, h1, h2, h3, h4, h5, h6⟩ := hs
      exact ⟨ys, x, h1, h2, h3.trans (kpc_grown h3.size hg hr), blk_grown h4 hg (Hhr.out A B row hr), blk_grown h5 hg (Hhr.out A B row hr), h6⟩)
     ⟨KpC.refl _, h6, h7, fun x hx => by cases hx⟩
     (fun x a' V => ∃ Bx, w2.heap.size ≤ Bx ∧ Blk V Bx 53 x.1.2.toArray ∧ a' = { tmps := #[.agg #[.slice Ag p.globals.length cg, .slice (some a) p.procs.length cp], .int .i64 id0, .pointer (some ⟨W.heap.size, 0, none⟩), .pointer (some ⟨W.heap.size + 1, 0, none⟩), .pointer (some ⟨W.heap.size + 1 + 1, 0, none⟩), .pointer (some ⟨W.heap.size + 1 + 1 + 1, 0, none⟩), undef, .pointer (some ⟨wr.heap.size, 0, none⟩), .pointer (some ⟨Bx, 0, none⟩), .int .i64 x.1.1.2, .agg #[.slice Ag p.globals.length cg, .slice (some a) p.procs.length cp], .bool true, .bool false, .pointer (some ⟨W.heap.size, 1, none⟩), .slice (some a) p.procs.length cp, .int .i64 p.procs.length, .int .i64 k, .bool true, .pointer (some (a.add (k * 5))), .agg #[.string ynm, .slice Bp yps.length kp, .slice Bv yvs.length kv, .slice Bb yb.length kb, .slice Be ye.length ke], .pointer (some ⟨wr.heap.size, 3, none⟩), .slice Bb yb.length kb, .func (.func 76) #[] #[.pointer (some ⟨wr.heap.size + 1, 0, none⟩)], .agg x.1.2.toArray, .int .i64 x.1.1.2, undef, undef, undef, undef, undef, undef, undef, u32], defers := [] })
     (fun x a' s A B row hs hg hr => by
      obtain ⟨Bx, h1, h2, h3⟩ := hs
      exact ⟨Bx, h1, blk_grown h2 hg (Hhr.out A B row hr), h3⟩) ?assign ?body ?done ?stop
    case assign =>
     rintro l pre ⟨⟨⟨s, lp⟩, cs⟩, hst, hlp⟩ W3 K hi hK
     obtain ⟨sid, kind, labels, nm, proc, x, has, args, th, el, L, lc, y0, y1, y2, X, xn, xc, R, rc, T, tc, U, uc, hmk, hcs, _⟩ := stmt_open hst
     have hcs' : cs = [.int .i64 sid, .int .i64 kind, .slice L labels.length lc, .string nm, .string proc, .int .i64 y0, .int .i64 y1, .string y2, .slice X xn xc, .bool has, .slice R args.length rc, .slice T th.length tc, .slice U el.length uc] := hcs
     subst hcs'
     have HI3 := Lib.hid hi
     clear hi h5 h6 h7 hmk hcs
     dsimp only [encY]
     gi_wp2
     exact hK _ _ (kf_below (below_box _)) (KpC.of_below HI3.out.1.size (below_box _)) ⟨HI3.out.1.trans (KpC.of_below HI3.out.1.size (below_box _)), HI3.out.2.1.alloc _, HI3.out.2.2.1.alloc _, HI3.out.2.2.2⟩ ⟨W3.heap.size, HI3.out.1.size, Blk.new _ _ _, rfl⟩
    case body =>
     rintro l pre ⟨⟨⟨s, lp⟩, cs⟩, hst, hlp⟩ a' W3 hl hrec hi ⟨Bx, hBx, hbx, rfl⟩ hlt3
     obtain ⟨sid, kind, labels, nm, proc, x, has, args, th, el, L, lc, y0, y1, y2, X, xn, xc, R, rc, T, tc, U, uc, hmk, hcs, _⟩ := stmt_open hst
     have hcs' : cs = [.int .i64 sid, .int .i64 kind, .slice L labels.length lc, .string nm, .string proc, .int .i64 y0, .int .i64 y1, .string y2, .slice X xn xc, .bool has, .slice R args.length rc, .slice T th.length tc, .slice U el.length uc] := hcs
     subst hcs'
     have HI3 := Lib.hid hi
     have HSi : Hid (s.id = sid) := Lib.hid (by rw [show s = _ from hmk]; rfl)
     have b5 : Blk W3 (W.heap.size + 1) 3 #[.int .i64 id0] := (HI3.out.1.low _ (by omega) (by omega)).trans H5.out
     have bx : Blk W3 Bx 53 #[.int .i64 sid, .int .i64 kind, .slice L labels.length lc, .string nm, .string proc, .int .i64 y0, .int .i64 y1, .string y2, .slice X xn xc, .bool has, .slice R args.length rc, .slice T th.length tc, .slice U el.length uc] := hbx
     have c5 : W3.cell? ⟨W.heap.size + 1, 0, none⟩ = some (.int .i64 id0) := by rw [b5.cell]; rfl
     have cx0 : W3.cell? ⟨Bx, 0, none⟩ = some (.int .i64 sid) := by rw [bx.cell]; rfl
     have c6 : W3.cell? ⟨W.heap.size + 1 + 1, 0, none⟩ = some (.int .i64 0) := by rw [HI3.out.2.1.cell]; rfl
     have c7 : W3.cell? ⟨W.heap.size + 1 + 1 + 1, 0, none⟩ = some (.bool false) := by rw [HI3.out.2.2.1.cell]; rfl
     have f6 := HI3.out.2.1.frozen 0
     have f7 := HI3.out.2.2.1.frozen 0
     have hbl6 := HI3.out.2.1.lt
     have hbl7 := HI3.out.2.2.1.lt
     dsimp only at hmk
     clear hi h5 h6 h7 hcs hmk hbx
     by_cases he : sid = id0
     ·subst he
      have hee : (sid == sid) = true := by simp
      gi_wp2
      refine ⟨((KeepsOthers.setCell _ _ _).trans (KeepsOthers.setCell _ _ _)).from _, pre, ⟨((s, lp), _), hst, hlp⟩, rfl, rfl, HI3.out.1.trans ((KpC.set_ (.inl rfl) (by show W.heap.size + 1 + 1 < _; omega) _).trans (KpC.set_ (.inr rfl) (by show W.heap.size + 1 + 1 + 1 < _; omega) _)), ?_, ?_, HI3.out.2.2.2, ?_⟩
      ·have h := (HI3.out.2.1.set_ 0 (.int .i64 lp)).far (p := ⟨W.heap.size + 1 + 1 + 1, 0, none⟩) (by show (W.heap.size + 1 + 1 : Nat) ≠ W.heap.size + 1 + 1 + 1; omega) (.bool (lp != 0))
       simp only [List.setIfInBounds_toArray, List.set_cons_zero] at h
       exact h
      ·have h := (HI3.out.2.2.1.far (p := ⟨W.heap.size + 1 + 1, 0, none⟩) (by show (W.heap.size + 1 + 1 + 1 : Nat) ≠ W.heap.size + 1 + 1; omega) (.int .i64 lp)).set_ 0 (.bool (lp != 0))
       simp only [List.setIfInBounds_toArray, List.set_cons_zero] at h
       exact h
      ·exact HSi.out
     ·have hee : (sid == id0) = false := beq_eq_false_iff_ne.2 he
      have HNe := Lib.hid he
      clear he
      gi_wp2
      refine ⟨KeepsFrom.refl _ _, KpC.refl _, HI3.out.1, HI3.out.2.1, HI3.out.2.2.1, fun y hy => ?_⟩
      rcases List.mem_append.1 hy with hy | hy
      ·exact HI3.out.2.2.2 y hy
      ·rw [List.mem_singleton.1 hy]
       show ¬ s.id = id0
       rw [HSi.out]; exact HNe.out
    case done =>
     rintro D xs W3 hD hS ⟨hK, k6, k7, hno⟩ hKd
     have HMD := Lib.hid ((HMk3.out W3 hK).cons (Nat.le_trans (by omega) hD) hKd (HDn.out D hD))
     have HD4 : Hid (lpL (p.procs.drop (k + 1)) id0 = lpL p.procs id0) := Lib.hid (by rw [HDd.out, find_doneI hS hno]; rfl)
     have HB4 := Lib.hid (HB02.out.trans (below_kpc hK (by omega) (fun j hj => by omega)))
     have K3 : Hid (Blk W3 W.heap.size 25 #[.slice Ag p.globals.length cg, .slice (some a) p.procs.length cp]) := Lib.hid ((hK.low _ (by omega) (by omega)).trans H3.out)
     have K5 : Hid (Blk W3 (W.heap.size + 1) 3 #[.int .i64 id0]) := Lib.hid ((hK.low _ (by omega) (by omega)).trans H5.out)
     have K6 := Lib.hid k6
     have K7 := Lib.hid k7
     clear hS hK hKd k6 k7 hno h5 h6 h7
     gi_wp2
     have e1 : (k : Int) + 1 = ((k + 1 : Nat) : Int) := by omega
     rw [e1]
     refine ⟨⟨k + 1, D :: ds, _, _, _, _, _, _, _, _, rfl, by omega, HD4, HMD, HB4, K3, K5, K6, K7⟩, ?_⟩
     simp [intOf]
     omega
    case stop =>
     rintro D c pre W3 hD hS ⟨ys, x, rfl, rfl, hK, k6, k7, hno, hyes⟩ hKd
     have HMD := Lib.hid ((HMk3.out W3 hK).cons (Nat.le_trans (by omega) hD) hKd (HDn.out D hD))
     have HRv : Hid (res = ((valY x).2, (valY x).2 != 0)) := Lib.hid (by rw [HRes.out, HDd.out, find_stopI hS hno hyes]; rfl)
     have hc6 : W3.cell? ⟨W.heap.size + 1 + 1, 0, none⟩ = some (.int .i64 (valY x).2) := by rw [k6.cell]; rfl
     have hc7 : W3.cell? ⟨W.heap.size + 1 + 1 + 1, 0, none⟩ = some (.bool ((valY x).2 != 0)) := by rw [k7.cell]; rfl
     have HB4 := Lib.hid (HB02.out.trans (below_kpc hK (by omega) (fun j hj => by omega)))
     clear h5 h6 h7
     gi_wp2
     refine marks_leave (D :: ds) W3 HMD.out fun W' hb hc => ?_
     have hd6 := hc _ _ hc6
     have hd7 := hc _ _ hc7
     refine ⟨_, ?_, by rw [HRv.out], HB4.out.trans (hb.mono (by omega))⟩
     simp [results, Tryz.f11, go_sem, hd6, hd7]
   ·obtain rfl : k = p.procs.length := by omega
    have HRv : Hid (res = (0, false)) := Lib.hid (by rw [HRes.out, ← HDr.out, List.drop_length, lpL])
    have c6 : wr.cell? ⟨W.heap.size + 1 + 1, 0, none⟩ = some (.int .i64 0) := by rw [HR6.out.cell]; rfl
    have c7 : wr.cell? ⟨W.heap.size + 1 + 1 + 1, 0, none⟩ = some (.bool false) := by rw [HR7.out.cell]; rfl
    have f6 := HR6.out.frozen 0
    have f7 := HR7.out.frozen 0
    have l6 := HR6.out.lt
    have l7 := HR7.out.lt
    gi_wp2
    have h6' := (HR6.out.set_ 0 (.int .i64 0)).far (p := ⟨W.heap.size + 1 + 1 + 1, 0, none⟩) (by show (W.heap.size + 1 + 1 : Nat) ≠ W.heap.size + 1 + 1 + 1; omega) (.bool false)
    have h7' := (HR7.out.far (p := ⟨W.heap.size + 1 + 1, 0, none⟩) (by show (W.heap.size + 1 + 1 + 1 : Nat) ≠ W.heap.size + 1 + 1; omega) (.int .i64 0)).set_ 0 (.bool false)
    simp only [List.setIfInBounds_toArray, List.set_cons_zero] at h6' h7'
    have hc6 := h6'.cell 0
    have hc7 := h7'.cell 0
    refine marks_leave ds _ (HMk.out.kept (fun D h1 h2 => ?_)) fun W' hb hc => ?_
    ·rw [Below.heap_setCell _ _ _ _ (by show D ≠ W.heap.size + 1 + 1 + 1; omega), Below.heap_setCell _ _ _ _ (by show D ≠ W.heap.size + 1 + 1; omega)]
    ·have hd6 := hc _ _ hc6
     have hd7 := hc _ _ hc7
     refine ⟨_, ?_, by rw [HRv.out], ((HBr.out.setCell (p := ⟨W.heap.size + 1 + 1, 0, none⟩) (by show W.heap.size ≤ W.heap.size + 1 + 1; omega) _).setCell (p := ⟨W.heap.size + 1 + 1 + 1, 0, none⟩) (by show W.heap.size ≤ W.heap.size + 1 + 1 + 1; omega) _).trans (hb.mono (by omega))⟩
     simp [results, Tryz.f11, go_sem, hd6, hd7]
end Go.Proofs.YtehpinnmalpgpaaGreat
namespace Go.Proofs.YtehpinnmalpgpaaGreat
open Go.ChangeShapes Go.WideShapes Go.ChangeAt Go.RowKit Go.Deep
set_option linter.unusedVariables false
set_option linter.unusedSimpArgs false
theorem item_open {w : World} {Q : Nat → Prop} {it : It} {cs : Array Value} (h : ItemI w Q it cs.toList) : ∃ (id0 : Int) (labels : List ByteArray) (nm proc : ByteArray) (x : E) (has : Bool) (args : List Ar) (th el : List S) (L : Option Addr) (lc : Nat) (y0 y1 : Int) (y2 : ByteArray) (X : Option Addr) (xn xc : Nat) (R : Option Addr) (rc : Nat) (T : Option Addr) (tc : Nat) (U : Option Addr) (uc : Nat), cs = #[.int .i64 id0, .int .i64 it.s.kind, .slice L labels.length lc, .string nm, .string proc, .int .i64 y0, .int .i64 y1, .string y2, .slice X xn xc, .bool has, .slice R args.length rc, .slice T th.length tc, .slice U el.length uc, .int .i64 it.deep, .int .i64 it.inn, .bool it.els] := by
 obtain ⟨c, hc, hst⟩ := h
 obtain ⟨id, kind, labels, nm, proc, x, has, args, th, el, L, lc, y0, y1, y2, X, xn, xc, R, rc, T, tc, U, uc, hmk, rfl, _⟩ := stmt_open hst
 refine ⟨id, labels, nm, proc, x, has, args, th, el, L, lc, y0, y1, y2, X, xn, xc, R, rc, T, tc, U, uc, ?_⟩
 rw [← Array.toArray_toList (xs := cs), hc, hmk]
 rfl
end Go.Proofs.YtehpinnmalpgpaaGreat
namespace Go.Proofs.YtehpinnmalpgpaaGreat
open Go.ChangeShapes Go.WideShapes Go.ChangeAt Go.RowKit Go.Deep
set_option linter.unusedVariables false
set_option linter.unusedSimpArgs false
def rLoopD (p : Pg) (id : Int) : Int × Bool := if (rfL p.procs id).isSome = true ∧ chkOK p = true then aroundD (flatOf (namP p ((rfL p.procs id).elim ⟨#[]⟩ Prod.snd)).1) id else (0, false)
set_option maxHeartbeats 4000000 in
set_option maxRecDepth 100000 in
theorem rLoop_any {w : World} {Q : Nat → Prop} {p : Pg} {c0 c1 : Value} (h : ProgI w Q p [c0, c1]) (hsm : SmG p) (id : Int) (W : World) (hI : In Q w W) :
 Calls Tryz.prog 12 #[.agg #[c0, c1], .int .i64 id] W fun e w' => e = .returned (.tuple #[.int .i64 (rLoopD p id).1, .bool (rLoopD p id).2]) ∧ Below W.heap.size W w' := by
 obtain ⟨res, hres⟩ : ∃ res, res = rLoopD p id := ⟨_, rfl⟩
 rw [← hres]
 have HRs := Lib.hid hres
 clear hres
 have HFd := Lib.hid (fun V hV => rFind_any h id V hV)
 have HNa := Lib.hid (fun nm V hV => rnamed_any h nm V hV)
 have HSc := Lib.hid (fun V hV => rScope_any h hsm V hV)
 obtain ⟨Ag, cg, Ap, cp, rfl, rfl, _⟩ := prog_open h
 have HI := Lib.hid hI
 have hff : ∀ (a c : Int) (w : World), (Instr.field 34 (.agg #[.int .i64 a, .int .i64 c]) 0).run Tryz.prog w = .ok (.int .i64 a) w := fun _ _ _ => by kernel_rfl
 have HCk : Hid (chkOK p = decide ((chkP p).1 = 0)) := Lib.hid rfl
 clear h hI
 generalize hr : rfL p.procs id = r at HFd
 have HRr := Lib.hid hr
 clear hr
 go_enter Tryz.func12, Tryz.ntmps12
 go_upto_region 1 with fail
 have HB0 : Hid (Below W.heap.size W (W.alloc (.cells #[.slice Ag p.globals.length cg, .slice Ap p.procs.length cp] 25))) := Lib.hid (below_box _)
 have HBp0 : Hid (Blk (W.alloc (.cells #[.slice Ag p.globals.length cg, .slice Ap p.procs.length cp] 25)) W.heap.size 25 #[.slice Ag p.globals.length cg, .slice Ap p.procs.length cp]) := Lib.hid (Blk.new _ _ _)
 generalize World.alloc _ _ = W0 at HB0 HBp0 ⊢
 have HI0 := Lib.hid (HI.out.on HB0.out)
 generalize hbe : W.heap.size = b at HBp0 ⊢
 clear hbe
 have q0 : W0.cell? ⟨b, 0, none⟩ = some (.slice Ag p.globals.length cg) := by rw [HBp0.out.cell]; rfl
 have q1 : W0.cell? ⟨b, 1, none⟩ = some (.slice Ap p.procs.length cp) := by rw [HBp0.out.cell]; rfl
 go_upto_region 2 with (go_at_call 43; refine (HFd.out W0 HI0.out).mono ?_; rintro e' W6 ⟨cs, rfl, hit, hb6⟩; obtain ⟨it, hitq⟩ : ∃ it, it = r.elim It0 Prod.fst := ⟨_, rfl⟩; rw [← hitq] at hit; clear hitq; obtain ⟨id0, labels, nm, proc, x, has, args, th, el, L, lc, y0, y1, y2, X, xn, xc, R, rc, T, tc, U, uc, rfl⟩ := item_open hit; clear hit)
 have HB6 : Hid (Below W0.heap.size W0 (W6.alloc (.cells #[.int .i64 id0, .int .i64 it.s.kind, .slice L labels.length lc, .string nm, .string proc, .int .i64 y0, .int .i64 y1, .string y2, .slice X xn xc, .bool has, .slice R args.length rc, .slice T th.length tc, .slice U el.length uc, .int .i64 it.deep, .int .i64 it.inn, .bool it.els] 55))) := Lib.hid (below_stepA hb6 _)
 clear hb6 q0 q1
 generalize World.alloc W6 _ = V6 at HB6 ⊢
 have HI6 := Lib.hid (HI0.out.on HB6.out)
 have HBp6 := Lib.hid (HBp0.out.below HB6.out HBp0.out.lt)
 have HB6W := Lib.hid (below_step HB0.out HB6.out)
 have hbl := HBp6.out.lt
 have q0 : V6.cell? ⟨b, 0, none⟩ = some (.slice Ag p.globals.length cg) := by rw [HBp6.out.cell]; rfl
 have q1 : V6.cell? ⟨b, 1, none⟩ = some (.slice Ap p.procs.length cp) := by rw [HBp6.out.cell]; rfl
 clear HB6 HI0 HBp0 HB0
 cases r with
 | none =>
  simp only [Option.isSome_none, Option.elim_none]
  go_wp2_with fail
  (first | go_ret | go_ret2)
  exact ⟨(by rw [HRs.out]; unfold rLoopD; rw [HRr.out, if_neg (fun h => by cases h.1)]; rfl), HB6W.out⟩
 | some y =>
  simp only [Option.isSome_some, Option.elim_some]
  generalize hcr : chkP p = cr at HSc HCk
  clear hcr
  obtain ⟨rc2, ri⟩ := cr
  simp only at HCk
  by_cases hr : rc2 = 0
  ·subst hr
   have HCk := Lib.hid (show chkOK p = true from HCk.out)
   have HRv : Hid (res = aroundD (flatOf (namP p y.2).1) id) := Lib.hid (by rw [HRs.out]; unfold rLoopD; rw [HRr.out, if_pos ⟨rfl, HCk.out⟩]; rfl)
   have HN1 := Lib.hid (fun V hV => HNa.out y.2 V hV)
   generalize y.2 = yn at HN1 HRv ⊢
   generalize namP p yn = nr at HN1 HRv
   obtain ⟨q, qb⟩ := nr
   simp only at HRv
   go_upto_region 4 with (go_at_call 40; refine (HSc.out V6 HI6.out).mono ?_; rintro e' W7 ⟨rfl, hb7⟩)
   have HI7 := Lib.hid (HI6.out.on hb7)
   have HBp7 := Lib.hid (HBp6.out.below hb7 hbl)
   have HB7W := Lib.hid (below_step HB6W.out hb7)
   clear hb7 q0 q1 HB6W HI6 HBp6 HSc hff hbl HNa HFd HRs HRr
   have q0 : W7.cell? ⟨b, 0, none⟩ = some (.slice Ag p.globals.length cg) := by rw [HBp7.out.cell]; rfl
   have q1 : W7.cell? ⟨b, 1, none⟩ = some (.slice Ap p.procs.length cp) := by rw [HBp7.out.cell]; rfl
   go_upto_region 5 with (go_at_call 44; refine (HN1.out W7 HI7.out).mono ?_; rintro e' W8 ⟨d0, d1, d2, d3, d4, rfl, hb8, hp8⟩; have hp8' := hp8; obtain ⟨vp, vv, vb, ve, hc, hn', hpp, hvv, hbb, hee⟩ := hp8'; simp only [List.cons.injEq, and_true] at hc; obtain ⟨rfl, rfl, rfl, rfl, rfl⟩ := hc; obtain ⟨M1, k1, rfl, _, _⟩ := hpp.shape; obtain ⟨M2, k2, rfl, _, _⟩ := hvv.shape; obtain ⟨M3, k3, rfl, _⟩ := hbb.shape; obtain ⟨M4, k4, rfl, _⟩ := hee.shape; have HPi := Lib.hid hp8; clear hn' hpp hvv hbb hee hp8)
   (try simp only at HPi ⊢)
   have HB8 : Hid (Below W7.heap.size W7 (W8.alloc (.cells #[.string q.nm, .slice M1 q.params.length k1, .slice M2 q.vars.length k2, .slice M3 q.body.length k3, .slice M4 q.end_.length k4] 43))) := Lib.hid (below_stepA hb8 _)
   have HBq : Hid (Blk (W8.alloc (.cells #[.string q.nm, .slice M1 q.params.length k1, .slice M2 q.vars.length k2, .slice M3 q.body.length k3, .slice M4 q.end_.length k4] 43)) W8.heap.size 43 #[.string q.nm, .slice M1 q.params.length k1, .slice M2 q.vars.length k2, .slice M3 q.body.length k3, .slice M4 q.end_.length k4]) := Lib.hid (Blk.new _ _ _)
   clear hb8 q0 q1 HN1
   generalize World.alloc W8 _ = V8 at HB8 HBq ⊢
   generalize W8.heap.size = bq at HBq ⊢
   have HI8 := Lib.hid (HI7.out.on HB8.out)
   have HB8W := Lib.hid (below_step HB7W.out HB8.out)
   have HFl := Lib.hid (Flat_any (W := V8) HPi.out HI8.out HI8.out.1)
   have HLn : Hid ((flatOf q).length ≤ 1000) := Lib.hid (Nat.le_trans (flatOf_len q) (by omega))
   generalize flatOf q = its at HFl HRv HLn
   have z0 : V8.cell? ⟨bq, 0, none⟩ = some (.string q.nm) := by rw [HBq.out.cell]; rfl
   have z1 : V8.cell? ⟨bq, 1, none⟩ = some (.slice M1 q.params.length k1) := by rw [HBq.out.cell]; rfl
   have z2 : V8.cell? ⟨bq, 2, none⟩ = some (.slice M2 q.vars.length k2) := by rw [HBq.out.cell]; rfl
   have z3 : V8.cell? ⟨bq, 3, none⟩ = some (.slice M3 q.body.length k3) := by rw [HBq.out.cell]; rfl
   have z4 : V8.cell? ⟨bq, 4, none⟩ = some (.slice M4 q.end_.length k4) := by rw [HBq.out.cell]; rfl
   have HAr : Hid (∀ (W9 : World) (X : Option Addr) (c : Nat), SliceI W9 (fun j => V8.heap.size ≤ j ∧ j < W9.heap.size) 16 (ItemI w Q) its (.slice X its.length c) → Calls Tryz.prog 45 #[.slice X its.length c, .int .i64 id] W9 fun e w' => e = .returned (.tuple #[.int .i64 res.1, .bool res.2]) ∧ W9 = w') := Lib.hid (fun W9 X c h1 => by
    have h := rAround_any h1 ⟨fun j h => h.2, fun _ _ => rfl⟩ HLn.out id
    rw [← HRv.out] at h
    exact h)
   obtain ⟨ra, rb⟩ := res
   simp only at HAr
   clear HRv
   go_wp2_with (first
    | (go_at_call 27; refine HFl.out.mono ?_; rintro e' W9 ⟨v9, rows9, rfl, ho9, ha9, hb9⟩; obtain ⟨X9, cx9, rfl, hx9, hx9'⟩ := own_shape ho9; have HB9 := Lib.hid hb9; have HSl := Lib.hid (slice_of_own ho9 ha9 (fun x cs h => by obtain ⟨c, rfl, hc⟩ := h; obtain ⟨_, _, _, _, _, _, _, _, _, _, _, _, _, _, _, _, _, _, _, _, _, _, _, _, _, rfl, _⟩ := stmt_open hc; rfl)); clear ho9 ha9 hb9)
    | (go_at_call 45; refine (HAr.out W9 X9 cx9 HSl.out).mono ?_; rintro e' W10 ⟨rfl, rfl⟩))
   (first | go_ret | go_ret2)
   exact ⟨rfl, below_step HB8W.out HB9.out⟩
  ·have hr1 : (rc2 == 0) = false := beq_eq_false_iff_ne.2 hr
   have hr2 : (rc2 != 0) = true := by simp [bne, hr1]
   have HCn : Hid (¬ chkOK p = true) := Lib.hid (by rw [HCk.out]; simpa using hr)
   clear hr HCk
   go_wp2_with (go_at_call 40; refine (HSc.out V6 HI6.out).mono ?_; rintro e' W7 ⟨rfl, hb7⟩)
   (first | go_ret | go_ret2)
   exact ⟨(by rw [HRs.out]; unfold rLoopD; rw [if_neg (fun h => HCn.out h.2)]; rfl), below_step HB6W.out hb7⟩
end Go.Proofs.YtehpinnmalpgpaaGreat
