/- Texts, merged by a program; only what is used. -/
import Derived.Test.YtimejkbmfbjomaaGreatK1
import Derived.Test.YtimejkbmfbjomaaGreatK2
import Derived.Test.YtimejkbmfbjomaaGreatK3
import Derived.Test.YtimejkbmfbjomaaGreatK4
import Derived.Test.YtimejkbmfbjomaaGreatK5
import Derived.Test.YtimejkbmfbjomaaGreatK6
import Derived.Test.YtimejkbmfbjomaaGreatK7
import Derived.Test.YtimejkbmfbjomaaGreatK8
import Derived.Test.YtimejkbmfbjomaaGreatK9
import Derived.Test.YtimejkbmfbjomaaGreatK10
import Derived.Test.YtimejkbmfbjomaaGreatK11
import Derived.Test.YtimejkbmfbjomaaGreatK12
import Derived.Test.YtimejkbmfbjomaaGreatK13
import Derived.Test.YtimejkbmfbjomaaGreatK14
import Derived.Test.YtimejkbmfbjomaaGreatK15
import Derived.Test.YtimejkbmfbjomaaGreatK16
import Derived.Test.YtimejkbmfbjomaaGreatK17
import Derived.Test.YtimejkbmfbjomaaGreatK18
import Derived.Test.YtimejkbmfbjomaaGreatK19
import Derived.Test.YtimejkbmfbjomaaGreatK20
import Derived.Test.YtimejkbmfbjomaaGreatK21
import Derived.Test.YtimejkbmfbjomaaGreatK22
import Derived.Test.YtimejkbmfbjomaaGreatK23
import Derived.Test.YtimejkbmfbjomaaGreatK24
import Derived.Test.YtimejkbmfbjomaaGreatK25
import Derived.Test.YtimejkbmfbjomaaGreatK26
import Derived.Test.YtimejkbmfbjomaaGreatK27
import Derived.Test.YtimejkbmfbjomaaGreatK28
import Derived.Test.YtimejkbmfbjomaaGreatK29
import Derived.Test.YtimejkbmfbjomaaGreatK30
import Derived.Test.YtimejkbmfbjomaaGreatKA1
namespace Go.Proofs.YtimejkbmfbjomaaGreat
open Go.ChangeShapes Go.WideShapes Go.ChangeAt Go.RowKit Go.Deep
set_option linter.unusedVariables false
set_option linter.unusedSimpArgs false
theorem results_ctt {P : Program} {fn : Func} {p t u : Tmp} {ty : TypeId} (h : fn.results = #[.cell p ty, .tmp t, .tmp u]) (tmps : Array Value) (w : World) (g : Nat) (tt : TypeId) (cs : Array Value) (fr : Nat × Nat) (d : TypeDesc)
 (hp : tmps.getD p undef = .pointer (some ⟨g, 0, none⟩)) (hg : w.heap[g]? = some (.cells cs tt fr))
 (hu : P.underlying ty = some d) (hd : (match d with | .struct _ | .array _ _ => true | _ => false) = true) (hi : (P.info? ty).map (·.size) = some cs.size) :
 (results fn tmps).run P w = .ok (.tuple #[.agg cs, tmps.getD t undef, tmps.getD u undef]) w := by
 have hp' : tmps[p]?.getD undef = .pointer (some ⟨g, 0, none⟩) := by simpa using hp
 simp [results, h, hp', asAddr, run_loadVar_row w g tt ty cs fr d hg hu hd hi]
abbrev zI : Array Value := #[.int .i64 0, .int .i64 0, .slice none 0 0, .string ⟨#[]⟩, .string ⟨#[]⟩, .int .i64 0, .int .i64 0, .string ⟨#[]⟩, .slice none 0 0, .bool false, .slice none 0 0, .slice none 0 0, .slice none 0 0, .int .i64 0, .int .i64 0, .bool false]
theorem blk16 {w : World} {f : Nat} {d0 d1 d2 d3 d4 d5 d6 d7 d8 d9 d10 d11 d12 d13 d14 d15 : Value} (h : Blk w f 51 zI) : Blk (World.setCell (World.setCell (World.setCell (World.setCell (World.setCell (World.setCell (World.setCell (World.setCell (World.setCell (World.setCell (World.setCell (World.setCell (World.setCell (World.setCell (World.setCell (World.setCell w ⟨f, 0, none⟩ d0) ⟨f, 1, none⟩ d1) ⟨f, 2, none⟩ d2) ⟨f, 3, none⟩ d3) ⟨f, 4, none⟩ d4) ⟨f, 5, none⟩ d5) ⟨f, 6, none⟩ d6) ⟨f, 7, none⟩ d7) ⟨f, 8, none⟩ d8) ⟨f, 9, none⟩ d9) ⟨f, 10, none⟩ d10) ⟨f, 11, none⟩ d11) ⟨f, 12, none⟩ d12) ⟨f, 13, none⟩ d13) ⟨f, 14, none⟩ d14) ⟨f, 15, none⟩ d15) f 51 #[d0, d1, d2, d3, d4, d5, d6, d7, d8, d9, d10, d11, d12, d13, d14, d15] := by
 have := ((((((((((((((((h.set_ 0 d0).set_ 1 d1).set_ 2 d2).set_ 3 d3).set_ 4 d4).set_ 5 d5).set_ 6 d6).set_ 7 d7).set_ 8 d8).set_ 9 d9).set_ 10 d10).set_ 11 d11).set_ 12 d12).set_ 13 d13).set_ 14 d14).set_ 15 d15)
 simp only [List.setIfInBounds_toArray, List.set_cons_zero, List.set_cons_succ] at this
 exact this
theorem blk_drew {w : World} {g : Nat} {ty : TypeId} {cs : Array Value} (h : Blk w g ty cs) : Blk w.drew g ty cs := h
theorem below16 {B : Nat} {a w : World} {f : Nat} {d0 d1 d2 d3 d4 d5 d6 d7 d8 d9 d10 d11 d12 d13 d14 d15 : Value} (h : Below B a w) (hf : B ≤ f) : Below B a (World.setCell (World.setCell (World.setCell (World.setCell (World.setCell (World.setCell (World.setCell (World.setCell (World.setCell (World.setCell (World.setCell (World.setCell (World.setCell (World.setCell (World.setCell (World.setCell w ⟨f, 0, none⟩ d0) ⟨f, 1, none⟩ d1) ⟨f, 2, none⟩ d2) ⟨f, 3, none⟩ d3) ⟨f, 4, none⟩ d4) ⟨f, 5, none⟩ d5) ⟨f, 6, none⟩ d6) ⟨f, 7, none⟩ d7) ⟨f, 8, none⟩ d8) ⟨f, 9, none⟩ d9) ⟨f, 10, none⟩ d10) ⟨f, 11, none⟩ d11) ⟨f, 12, none⟩ d12) ⟨f, 13, none⟩ d13) ⟨f, 14, none⟩ d14) ⟨f, 15, none⟩ d15) := by
 iterate 16 (refine below_setc ?_ hf _)
 exact h
def It0 : It := ⟨S0, 0, 0, false⟩
theorem zero_item (w : World) (Q : Nat → Prop) : ItemI w Q It0 zI.toList := by
 refine ⟨[.int .i64 0, .int .i64 0, .slice none 0 0, .string ⟨#[]⟩, .string ⟨#[]⟩, .int .i64 0, .int .i64 0, .string ⟨#[]⟩, .slice none 0 0, .bool false, .slice none 0 0, .slice none 0 0, .slice none 0 0], rfl, ?_⟩
 exact .mk (css1 := fun _ => []) (css2 := fun _ => []) (by simp [i64]) (by simp [i64]) (by decide) (by decide) nil_slice (.mk (css := fun _ => []) (by simp [i64]) (by simp [i64]) (by decide) (by simp) (by simp) (by simp)) nil_slice (by simp) (by simp) (by simp) (by simp) (by simp) (by simp)
def rfL : List Pr → Int → Option (It × ByteArray)
 | [], _ => none
 | q :: l, id => ((flatOf q).find? (fun x => x.s.id == id)).elim (rfL l id) (fun x => some (x, q.nm))
theorem rfL_drop {l : List Pr} {k : Nat} (h : k < l.length) (id : Int) : rfL (l.drop k) id = ((flatOf l[k]).find? (fun x => x.s.id == id)).elim (rfL (l.drop (k + 1)) id) (fun x => some (x, l[k].nm)) := by rw [List.drop_eq_getElem_cons h, rfL]
def FdRes (w : World) (Q : Nat → Prop) (r : Option (It × ByteArray)) (W : World) (e : Ending) (w' : World) : Prop := ∃ cs, e = .returned (.tuple #[.agg cs, .string (r.elim ⟨#[]⟩ Prod.snd), .bool r.isSome]) ∧ ItemI w Q (r.elim It0 Prod.fst) cs.toList ∧ Below W.heap.size W w'
set_option maxHeartbeats 2000000 in
set_option maxRecDepth 100000 in
theorem rFind_any {w : World} {Q : Nat → Prop} {p : Pg} {c0 c1 : Value} (h : ProgI w Q p [c0, c1]) (id0 : Int) (W : World) (hI : In Q w W) :
 Calls Tryz.prog 69 #[.agg #[c0, c1], .int .i64 id0] W (FdRes w Q (rfL p.procs id0) W) := by
 obtain ⟨Ag, cg, Ap, cp, rfl, rfl, _, _, _, _, hgl, hpr⟩ := prog_open h
 have HP := Lib.hid hpr
 have HI := Lib.hid hI
 clear h hI hgl hpr
 go_enter Tryz.func69, Tryz.ntmps69
 go_upto_region 1 with fail
 have HB0 : Hid (Below W.heap.size W ((W.alloc (.cells #[.slice Ag p.globals.length cg, .slice Ap p.procs.length cp] 25)).alloc (.cells zI 51))) := Lib.hid (below_two _ _)
 have HBp : Hid (Blk ((W.alloc (.cells #[.slice Ag p.globals.length cg, .slice Ap p.procs.length cp] 25)).alloc (.cells zI 51)) W.heap.size 25 #[.slice Ag p.globals.length cg, .slice Ap p.procs.length cp]) := Lib.hid ((Blk.new _ _ _).alloc _)
 have HBf : Hid (Blk ((W.alloc (.cells #[.slice Ag p.globals.length cg, .slice Ap p.procs.length cp] 25)).alloc (.cells zI 51)) (W.heap.size + 1) 51 zI) := Lib.hid (by have := Blk.new (W.alloc (.cells #[.slice Ag p.globals.length cg, .slice Ap p.procs.length cp] 25)) 51 zI; rw [World.size_alloc] at this; exact this)
 generalize World.alloc _ _ = V at HB0 HBp HBf ⊢
 have HI0 := Lib.hid (HI.out.on HB0.out)
 have hwb : W.heap.size ≤ W.heap.size + 1 := by omega
 generalize hbe : W.heap.size = b at HBp HBf hwb ⊢
 generalize hfe : b + 1 = f at HBf hwb ⊢
 have hWf : W.heap.size ≤ f := by omega
 clear hbe hfe
 have q0 : V.cell? ⟨b, 0, none⟩ = some (.slice Ag p.globals.length cg) := by rw [HBp.out.cell]; rfl
 have q1 : V.cell? ⟨b, 1, none⟩ = some (.slice Ap p.procs.length cp) := by rw [HBp.out.cell]; rfl
 have hfl := HBf.out.lt
 go_upto_region 2 with fail
 clear q0 q1
 go_loopg [14] p.procs.length (fun kk iv wr => ∃ (k : Nat), k + kk = p.procs.length ∧ iv = .int .i64 k ∧ Hid (Below V.heap.size V wr) ∧ Hid (rfL (p.procs.drop k) id0 = rfL p.procs id0))
 case atStart => exact ⟨0, by omega, rfl, Lib.hid (Below.refl _ _), Lib.hid rfl⟩
 case round =>
  obtain ⟨k, hk, rfl, HBr, HA⟩ := hrel
  generalize wr = wo at *
  have HIr := Lib.hid (HI0.out.on HBr.out)
  by_cases hlt : k < p.procs.length
  ·obtain ⟨a, Bp, kp, Bv, kv, Bb, kb, Be, ke, rfl, hqa, hrow, hnm, hpp, hvv, hbody, hee⟩ := proc_at HP.out HIr.out hlt
   have HPI : Hid (ProcI w Q p.procs[k] [.string p.procs[k].nm, .slice Bp p.procs[k].params.length kp, .slice Bv p.procs[k].vars.length kv, .slice Bb p.procs[k].body.length kb, .slice Be p.procs[k].end_.length ke]) := Lib.hid ⟨_, _, _, _, rfl, hnm, hpp, hvv, hbody, hee⟩
   have HFl := Lib.hid (fun V hV => Flat_any (W := V) HPI.out hV hV.1)
   have HAk := Lib.hid (rfL_drop hlt id0)
   rw [HA.out] at HAk
   clear HPI hnm hpp hvv hbody hee hqa HA
   generalize flatOf p.procs[k] = its at HFl HAk
   generalize p.procs[k].nm = x0 at hrow HFl HAk
   generalize p.procs[k].params.length = x1 at hrow HFl
   generalize p.procs[k].vars.length = x2 at hrow HFl
   generalize p.procs[k].body.length = x3 at hrow HFl
   generalize p.procs[k].end_.length = x4 at hrow HFl
   obtain ⟨p0, p1, p2, p3, p4, _⟩ := hrow
   go_upto_region 4 with fail
   have HBx : Hid (Blk (wo.alloc (.cells #[.string x0, .slice Bp x1 kp, .slice Bv x2 kv, .slice Bb x3 kb, .slice Be x4 ke] 39)) wo.heap.size 39 #[.string x0, .slice Bp x1 kp, .slice Bv x2 kv, .slice Bb x3 kb, .slice Be x4 ke]) := Lib.hid (Blk.new _ _ _)
   have HB4 : Hid (Below V.heap.size V (wo.alloc (.cells #[.string x0, .slice Bp x1 kp, .slice Bv x2 kv, .slice Bb x3 kb, .slice Be x4 ke] 39))) := Lib.hid (below_stepA HBr.out _)
   have HI4 : Hid (In Q w (wo.alloc (.cells #[.string x0, .slice Bp x1 kp, .slice Bv x2 kv, .slice Bb x3 kb, .slice Be x4 ke] 39))) := Lib.hid (HIr.out.alloc _)
   have HBo : Hid (f < wo.heap.size) := Lib.hid (Nat.lt_of_lt_of_le hfl HBr.out.size)
   clear p0 p1 p2 p3 p4 HIr HBr
   generalize World.alloc wo _ = V4 at HBx HB4 HI4 ⊢
   have hxf : wo.heap.size ≠ f := by have := HBo.out; omega
   have hfx : f ≠ wo.heap.size := fun e => hxf e.symm
   generalize wo.heap.size = bx at HBx hxf hfx ⊢
   clear HBo
   have hxl := HBx.out.lt
   have z0 : V4.cell? ⟨bx, 0, none⟩ = some (.string x0) := by rw [HBx.out.cell]; rfl
   have z1 : V4.cell? ⟨bx, 1, none⟩ = some (.slice Bp x1 kp) := by rw [HBx.out.cell]; rfl
   have z2 : V4.cell? ⟨bx, 2, none⟩ = some (.slice Bv x2 kv) := by rw [HBx.out.cell]; rfl
   have z3 : V4.cell? ⟨bx, 3, none⟩ = some (.slice Bb x3 kb) := by rw [HBx.out.cell]; rfl
   have z4 : V4.cell? ⟨bx, 4, none⟩ = some (.slice Be x4 ke) := by rw [HBx.out.cell]; rfl
   go_upto_region 5 with (go_at_call 20; refine (HFl.out V4 HI4.out).mono ?_; rintro e' W9 ⟨v9, rows9, rfl, ho9, ha9, hb9⟩; obtain ⟨X9, cx9, rfl, hx9, hx9'⟩ := own_shape ho9)
   have HSl := Lib.hid (slice_of_own ho9 ha9 (fun x cs h => by obtain ⟨c, rfl, hc⟩ := h; obtain ⟨_, _, _, _, _, _, _, _, _, _, _, _, _, _, _, _, _, _, _, _, _, _, _, _, _, rfl, _⟩ := stmt_open hc; rfl))
   have HB9 := Lib.hid (below_step HB4.out hb9)
   have HI9 := Lib.hid (HI4.out.on hb9)
   have HBx9 := Lib.hid (HBx.out.below hb9 hxl)
   clear ho9 ha9 hb9 z0 z1 z2 z3 z4 hxl HI4 HB4 HBx HFl
   have hxl := HBx9.out.lt
   go_loopg [21] its.length (fun kk iv wr => ∃ (j : Nat), j + kk = its.length ∧ iv = .int .i64 j ∧ Hid (Below W9.heap.size W9 wr) ∧ Hid ((its.drop j).find? (fun x => x.s.id == id0) = its.find? (fun x => x.s.id == id0)))
   case atStart => exact ⟨0, by omega, rfl, Lib.hid (Below.refl _ _), Lib.hid rfl⟩
   case round =>
    obtain ⟨j, hj, rfl, HR2, HF2⟩ := hrel
    by_cases hlt2 : j < its.length
    ·obtain ⟨a2, id, kind, labels, nm, proc, x, has, args, th, el, L, lc, y0, y1, y2, X, xn, xc, R, rc, T, tc, U, uc, dp, inn, els, rfl, hq2, hmk, hrow2, hid, hkind, hst, hdp, hinn, hels⟩ := item_at2 HSl.out (W := wr) ⟨fun b h => Nat.lt_of_lt_of_le h.2 HR2.out.size, fun p hp => HR2.out.cell hp.2⟩ hlt2
     have HF3 : Hid (its.find? (fun x => x.s.id == id0) = if (id == id0) = true then some its[j] else (its.drop (j + 1)).find? (fun x => x.s.id == id0)) := Lib.hid (by
      rw [← HF2.out, List.drop_eq_getElem_cons hlt2, List.find?_cons]
      have he : its[j].s.id = id := by rw [hmk]; rfl
      rw [he]
      cases id == id0 <;> rfl)
     obtain ⟨d, hd⟩ : ∃ d, d = (id == id0) := ⟨_, rfl⟩
     have HF4 : Hid (its.find? (fun x => x.s.id == id0) = if d = true then some its[j] else (its.drop (j + 1)).find? (fun x => x.s.id == id0)) := Lib.hid (by rw [hd]; exact HF3.out)
     have HIt : Hid (ItemI w Q its[j] [.int .i64 id, .int .i64 kind, .slice L labels.length lc, .string nm, .string proc, .int .i64 y0, .int .i64 y1, .string y2, .slice X xn xc, .bool has, .slice R args.length rc, .slice T th.length tc, .slice U el.length uc, .int .i64 dp, .int .i64 inn, .bool els]) := Lib.hid (by
      refine ⟨[.int .i64 id, .int .i64 kind, .slice L labels.length lc, .string nm, .string proc, .int .i64 y0, .int .i64 y1, .string y2, .slice X xn xc, .bool has, .slice R args.length rc, .slice T th.length tc, .slice U el.length uc], ?_, by rw [hmk]; exact hst⟩
      rw [← hdp, ← hinn, ← hels]
      rfl)
     have hkb := hid
     unfold i64 at hkb
     obtain ⟨p0, p1, p2, p3, p4, p5, p6, p7, p8, p9, p10, p11, p12, p13, p14, p15, _⟩ := hrow2
     generalize its[j] = xi at HF4 HIt
     have Hd := Lib.hid hd
     clear hd HF3 hmk hst hid hkind hq2 HF2 hdp hinn hels
     go_upto_region 7 with fail
     have HBi : Hid (Blk (wr.alloc (.cells #[.int .i64 id, .int .i64 kind, .slice L labels.length lc, .string nm, .string proc, .int .i64 y0, .int .i64 y1, .string y2, .slice X xn xc, .bool has, .slice R args.length rc, .slice T th.length tc, .slice U el.length uc, .int .i64 dp, .int .i64 inn, .bool els] 51)) wr.heap.size 51 #[.int .i64 id, .int .i64 kind, .slice L labels.length lc, .string nm, .string proc, .int .i64 y0, .int .i64 y1, .string y2, .slice X xn xc, .bool has, .slice R args.length rc, .slice T th.length tc, .slice U el.length uc, .int .i64 dp, .int .i64 inn, .bool els]) := Lib.hid (Blk.new _ _ _)
     have HB10 : Hid (Below W9.heap.size W9 (wr.alloc (.cells #[.int .i64 id, .int .i64 kind, .slice L labels.length lc, .string nm, .string proc, .int .i64 y0, .int .i64 y1, .string y2, .slice X xn xc, .bool has, .slice R args.length rc, .slice T th.length tc, .slice U el.length uc, .int .i64 dp, .int .i64 inn, .bool els] 51))) := Lib.hid (below_stepA HR2.out _)
     have hbi : f ≠ wr.heap.size := by have := HR2.out.size; have := HB9.out.size; omega
     have hib : wr.heap.size ≠ f := fun e => hbi e.symm
     clear p0 p1 p2 p3 p4 p5 p6 p7 p8 p9 p10 p11 p12 p13 p14 p15 HR2
     generalize World.alloc wr _ = V10 at HBi HB10 ⊢
     generalize wr.heap.size = bi at HBi hbi hib ⊢
     have s0 : V10.cell? ⟨bi, 0, none⟩ = some (.int .i64 id) := by rw [HBi.out.cell]; rfl
     cases d with
     | false =>
      have hdf : (id == id0) = false := Hd.out.symm
      have HF5 : Hid (its.find? (fun x => x.s.id == id0) = (its.drop (j + 1)).find? (fun x => x.s.id == id0)) := Lib.hid HF4.out
      clear HF4
      go_wp2_with fail
      go_roundg (its.length - j - 1)
      case measure => omega
      case rel => exact ⟨j + 1, by omega, by go_num, HB10, Lib.hid HF5.out.symm⟩
     | true =>
      have hdt : (id == id0) = true := Hd.out.symm
      have HAn : Hid (rfL p.procs id0 = some (xi, x0)) := Lib.hid (by rw [HAk.out, HF4.out]; rfl)
      clear HF4 HAk
      have HB11 := Lib.hid (below_step HB9.out HB10.out)
      have HBf11 := Lib.hid (HBf.out.below HB11.out hfl)
      have HBx11 := Lib.hid (HBx9.out.below HB10.out hxl)
      have HBW11 := Lib.hid (below_step HB0.out HB11.out)
      go_upto_region 8 with fail
      clear s0
      have s0 : V10.cell? ⟨bi, 0, none⟩ = some (.int .i64 id) := by rw [HBi.out.cell]; rfl
      have s1 : V10.cell? ⟨bi, 1, none⟩ = some (.int .i64 kind) := by rw [HBi.out.cell]; rfl
      have s2 : V10.cell? ⟨bi, 2, none⟩ = some (.slice L labels.length lc) := by rw [HBi.out.cell]; rfl
      have s3 : V10.cell? ⟨bi, 3, none⟩ = some (.string nm) := by rw [HBi.out.cell]; rfl
      have s4 : V10.cell? ⟨bi, 4, none⟩ = some (.string proc) := by rw [HBi.out.cell]; rfl
      have s5 : V10.cell? ⟨bi, 5, none⟩ = some (.int .i64 y0) := by rw [HBi.out.cell]; rfl
      have s6 : V10.cell? ⟨bi, 6, none⟩ = some (.int .i64 y1) := by rw [HBi.out.cell]; rfl
      have s7 : V10.cell? ⟨bi, 7, none⟩ = some (.string y2) := by rw [HBi.out.cell]; rfl
      have s8 : V10.cell? ⟨bi, 8, none⟩ = some (.slice X xn xc) := by rw [HBi.out.cell]; rfl
      have s9 : V10.cell? ⟨bi, 9, none⟩ = some (.bool has) := by rw [HBi.out.cell]; rfl
      have s10 : V10.cell? ⟨bi, 10, none⟩ = some (.slice R args.length rc) := by rw [HBi.out.cell]; rfl
      have s11 : V10.cell? ⟨bi, 11, none⟩ = some (.slice T th.length tc) := by rw [HBi.out.cell]; rfl
      have s12 : V10.cell? ⟨bi, 12, none⟩ = some (.slice U el.length uc) := by rw [HBi.out.cell]; rfl
      have s13 : V10.cell? ⟨bi, 13, none⟩ = some (.int .i64 dp) := by rw [HBi.out.cell]; rfl
      have s14 : V10.cell? ⟨bi, 14, none⟩ = some (.int .i64 inn) := by rw [HBi.out.cell]; rfl
      have s15 : V10.cell? ⟨bi, 15, none⟩ = some (.bool els) := by rw [HBi.out.cell]; rfl
      have z0 : V10.cell? ⟨bx, 0, none⟩ = some (.string x0) := by rw [HBx11.out.cell]; rfl
      have f0_ := HBf11.out.frozen 0
      have y0_ : V10.cell? ⟨f, 0, none⟩ = some (.int .i64 0) := by rw [HBf11.out.cell]; rfl
      have f1_ := HBf11.out.frozen 1
      have y1_ : V10.cell? ⟨f, 1, none⟩ = some (.int .i64 0) := by rw [HBf11.out.cell]; rfl
      have f2_ := HBf11.out.frozen 2
      have y2_ : V10.cell? ⟨f, 2, none⟩ = some (.slice none 0 0) := by rw [HBf11.out.cell]; rfl
      have f3_ := HBf11.out.frozen 3
      have y3_ : V10.cell? ⟨f, 3, none⟩ = some (.string ⟨#[]⟩) := by rw [HBf11.out.cell]; rfl
      have f4_ := HBf11.out.frozen 4
      have y4_ : V10.cell? ⟨f, 4, none⟩ = some (.string ⟨#[]⟩) := by rw [HBf11.out.cell]; rfl
      have f5_ := HBf11.out.frozen 5
      have y5_ : V10.cell? ⟨f, 5, none⟩ = some (.int .i64 0) := by rw [HBf11.out.cell]; rfl
      have f6_ := HBf11.out.frozen 6
      have y6_ : V10.cell? ⟨f, 6, none⟩ = some (.int .i64 0) := by rw [HBf11.out.cell]; rfl
      have f7_ := HBf11.out.frozen 7
      have y7_ : V10.cell? ⟨f, 7, none⟩ = some (.string ⟨#[]⟩) := by rw [HBf11.out.cell]; rfl
      have f8_ := HBf11.out.frozen 8
      have y8_ : V10.cell? ⟨f, 8, none⟩ = some (.slice none 0 0) := by rw [HBf11.out.cell]; rfl
      have f9_ := HBf11.out.frozen 9
      have y9_ : V10.cell? ⟨f, 9, none⟩ = some (.bool false) := by rw [HBf11.out.cell]; rfl
      have f10_ := HBf11.out.frozen 10
      have y10_ : V10.cell? ⟨f, 10, none⟩ = some (.slice none 0 0) := by rw [HBf11.out.cell]; rfl
      have f11_ := HBf11.out.frozen 11
      have y11_ : V10.cell? ⟨f, 11, none⟩ = some (.slice none 0 0) := by rw [HBf11.out.cell]; rfl
      have f12_ := HBf11.out.frozen 12
      have y12_ : V10.cell? ⟨f, 12, none⟩ = some (.slice none 0 0) := by rw [HBf11.out.cell]; rfl
      have f13_ := HBf11.out.frozen 13
      have y13_ : V10.cell? ⟨f, 13, none⟩ = some (.int .i64 0) := by rw [HBf11.out.cell]; rfl
      have f14_ := HBf11.out.frozen 14
      have y14_ : V10.cell? ⟨f, 14, none⟩ = some (.int .i64 0) := by rw [HBf11.out.cell]; rfl
      have f15_ := HBf11.out.frozen 15
      have y15_ : V10.cell? ⟨f, 15, none⟩ = some (.bool false) := by rw [HBf11.out.cell]; rfl
      have HBl : Hid (Blk (World.drew (World.setCell (World.setCell (World.setCell (World.setCell (World.setCell (World.setCell (World.setCell (World.setCell (World.setCell (World.setCell (World.setCell (World.setCell (World.setCell (World.setCell (World.setCell (World.setCell V10 ⟨f, 0, none⟩ (.int .i64 id)) ⟨f, 1, none⟩ (.int .i64 kind)) ⟨f, 2, none⟩ (.slice L labels.length lc)) ⟨f, 3, none⟩ (.string nm)) ⟨f, 4, none⟩ (.string proc)) ⟨f, 5, none⟩ (.int .i64 y0)) ⟨f, 6, none⟩ (.int .i64 y1)) ⟨f, 7, none⟩ (.string y2)) ⟨f, 8, none⟩ (.slice X xn xc)) ⟨f, 9, none⟩ (.bool has)) ⟨f, 10, none⟩ (.slice R args.length rc)) ⟨f, 11, none⟩ (.slice T th.length tc)) ⟨f, 12, none⟩ (.slice U el.length uc)) ⟨f, 13, none⟩ (.int .i64 dp)) ⟨f, 14, none⟩ (.int .i64 inn)) ⟨f, 15, none⟩ (.bool els))) f 51 #[.int .i64 id, .int .i64 kind, .slice L labels.length lc, .string nm, .string proc, .int .i64 y0, .int .i64 y1, .string y2, .slice X xn xc, .bool has, .slice R args.length rc, .slice T th.length tc, .slice U el.length uc, .int .i64 dp, .int .i64 inn, .bool els]) := Lib.hid (blk_drew (blk16 HBf11.out))
      have HBe : Hid (Below W.heap.size W (World.drew (World.setCell (World.setCell (World.setCell (World.setCell (World.setCell (World.setCell (World.setCell (World.setCell (World.setCell (World.setCell (World.setCell (World.setCell (World.setCell (World.setCell (World.setCell (World.setCell V10 ⟨f, 0, none⟩ (.int .i64 id)) ⟨f, 1, none⟩ (.int .i64 kind)) ⟨f, 2, none⟩ (.slice L labels.length lc)) ⟨f, 3, none⟩ (.string nm)) ⟨f, 4, none⟩ (.string proc)) ⟨f, 5, none⟩ (.int .i64 y0)) ⟨f, 6, none⟩ (.int .i64 y1)) ⟨f, 7, none⟩ (.string y2)) ⟨f, 8, none⟩ (.slice X xn xc)) ⟨f, 9, none⟩ (.bool has)) ⟨f, 10, none⟩ (.slice R args.length rc)) ⟨f, 11, none⟩ (.slice T th.length tc)) ⟨f, 12, none⟩ (.slice U el.length uc)) ⟨f, 13, none⟩ (.int .i64 dp)) ⟨f, 14, none⟩ (.int .i64 inn)) ⟨f, 15, none⟩ (.bool els)))) := Lib.hid (below16 HBW11.out hWf).drew
      go_region
      generalize World.drew _ = VF at HBl HBe ⊢
      clear s0 s1 s2 s3 s4 s5 s6 s7 s8 s9 s10 s11 s12 s13 s14 s15 z0
      go_wp2_with fail
      (try simp only [Exit.inBlock, Exit.then])
      refine bodyPost_ret (results_ctt rfl _ _ f 51 #[.int .i64 id, .int .i64 kind, .slice L labels.length lc, .string nm, .string proc, .int .i64 y0, .int .i64 y1, .string y2, .slice X xn xc, .bool has, .slice R args.length rc, .slice T th.length tc, .slice U el.length uc, .int .i64 dp, .int .i64 inn, .bool els] (0, 0) _ rfl HBl.out Tryz.underlying51 rfl (by kernel_rfl)) rfl ?_
      rw [HAn.out]
      exact ⟨_, rfl, HIt.out, HBe.out⟩
    ·have HFe : Hid (its.find? (fun x => x.s.id == id0) = none) := Lib.hid (by rw [← HF2.out, List.drop_of_length_le (by omega)]; rfl)
     have HAn : Hid (rfL p.procs id0 = rfL (p.procs.drop (k + 1)) id0) := Lib.hid (by rw [HAk.out, HFe.out]; rfl)
     clear HAk HFe HF2
     go_wp2_with fail
     go_roundg (p.procs.length - k - 1)
     case measure => omega
     case rel => exact ⟨k + 1, by omega, by go_num, Lib.hid (below_step HB9.out HR2.out), Lib.hid HAn.out.symm⟩
  ·have HAn : Hid (rfL p.procs id0 = none) := Lib.hid (by rw [← HA.out, List.drop_of_length_le (by omega)]; rfl)
   have HBfr := Lib.hid (HBf.out.below HBr.out hfl)
   have HBWr := Lib.hid (below_step HB0.out HBr.out)
   have hf := HBfr.out.lt
   have f0_ := HBfr.out.frozen 0
   have y0_ : wo.cell? ⟨f, 0, none⟩ = some (.int .i64 0) := by rw [HBfr.out.cell]; rfl
   have f1_ := HBfr.out.frozen 1
   have y1_ : wo.cell? ⟨f, 1, none⟩ = some (.int .i64 0) := by rw [HBfr.out.cell]; rfl
   have f2_ := HBfr.out.frozen 2
   have y2_ : wo.cell? ⟨f, 2, none⟩ = some (.slice none 0 0) := by rw [HBfr.out.cell]; rfl
   have f3_ := HBfr.out.frozen 3
   have y3_ : wo.cell? ⟨f, 3, none⟩ = some (.string ⟨#[]⟩) := by rw [HBfr.out.cell]; rfl
   have f4_ := HBfr.out.frozen 4
   have y4_ : wo.cell? ⟨f, 4, none⟩ = some (.string ⟨#[]⟩) := by rw [HBfr.out.cell]; rfl
   have f5_ := HBfr.out.frozen 5
   have y5_ : wo.cell? ⟨f, 5, none⟩ = some (.int .i64 0) := by rw [HBfr.out.cell]; rfl
   have f6_ := HBfr.out.frozen 6
   have y6_ : wo.cell? ⟨f, 6, none⟩ = some (.int .i64 0) := by rw [HBfr.out.cell]; rfl
   have f7_ := HBfr.out.frozen 7
   have y7_ : wo.cell? ⟨f, 7, none⟩ = some (.string ⟨#[]⟩) := by rw [HBfr.out.cell]; rfl
   have f8_ := HBfr.out.frozen 8
   have y8_ : wo.cell? ⟨f, 8, none⟩ = some (.slice none 0 0) := by rw [HBfr.out.cell]; rfl
   have f9_ := HBfr.out.frozen 9
   have y9_ : wo.cell? ⟨f, 9, none⟩ = some (.bool false) := by rw [HBfr.out.cell]; rfl
   have f10_ := HBfr.out.frozen 10
   have y10_ : wo.cell? ⟨f, 10, none⟩ = some (.slice none 0 0) := by rw [HBfr.out.cell]; rfl
   have f11_ := HBfr.out.frozen 11
   have y11_ : wo.cell? ⟨f, 11, none⟩ = some (.slice none 0 0) := by rw [HBfr.out.cell]; rfl
   have f12_ := HBfr.out.frozen 12
   have y12_ : wo.cell? ⟨f, 12, none⟩ = some (.slice none 0 0) := by rw [HBfr.out.cell]; rfl
   have f13_ := HBfr.out.frozen 13
   have y13_ : wo.cell? ⟨f, 13, none⟩ = some (.int .i64 0) := by rw [HBfr.out.cell]; rfl
   have f14_ := HBfr.out.frozen 14
   have y14_ : wo.cell? ⟨f, 14, none⟩ = some (.int .i64 0) := by rw [HBfr.out.cell]; rfl
   have f15_ := HBfr.out.frozen 15
   have y15_ : wo.cell? ⟨f, 15, none⟩ = some (.bool false) := by rw [HBfr.out.cell]; rfl
   go_wp2_with fail
   (try simp only [Exit.inBlock, Exit.then])
   refine bodyPost_ret (results_ctt rfl _ _ f 51 _ (0, 0) _ rfl (blk16 HBfr.out) Tryz.underlying51 rfl (by kernel_rfl)) rfl ?_
   rw [HAn.out]
   exact ⟨_, rfl, zero_item _ _, below16 HBWr.out hWf⟩
end Go.Proofs.YtimejkbmfbjomaaGreat
namespace Go.Proofs.YtimejkbmfbjomaaGreat
open Go.ChangeShapes Go.WideShapes Go.ChangeAt Go.RowKit Go.Deep
set_option linter.unusedVariables false
set_option linter.unusedSimpArgs false
def stP (p : Pg) (id : Int) : S := ((rfL p.procs id).elim It0 Prod.fst).s
def StRes (w : World) (Q : Nat → Prop) (s : S) (W : World) (e : Ending) (w' : World) : Prop := ∃ cs : List Value, e = .returned (.agg cs.toArray) ∧ StmtI w Q s cs ∧ Below W.heap.size W w'
set_option maxHeartbeats 4000000 in
set_option maxRecDepth 100000 in
theorem rStmt_any {w : World} {Q : Nat → Prop} {p : Pg} {c0 c1 : Value} (h : ProgI w Q p [c0, c1]) (id0 : Int) (W : World) (hI : In Q w W) :
 Calls Tryz.prog 30 #[.agg #[c0, c1], .int .i64 id0] W (StRes w Q (stP p id0) W) := by
 have HFd := Lib.hid (fun V hV => rFind_any h id0 V hV)
 obtain ⟨Ag, cg, Ap, cp, rfl, rfl, _⟩ := prog_open h
 have HI := Lib.hid hI
 have HK : Hid (stP p id0 = ((rfL p.procs id0).elim It0 Prod.fst).s) := Lib.hid rfl
 clear h hI
 generalize rfL p.procs id0 = r at HFd HK
 go_enter Tryz.func30, Tryz.ntmps30
 go_upto_region 1 with fail
 have HB0 : Hid (Below W.heap.size W ((W.alloc (.cells #[.slice Ag p.globals.length cg, .slice Ap p.procs.length cp] 25)).alloc (.cells zS 49))) := Lib.hid (below_two _ _)
 have HBp : Hid (Blk ((W.alloc (.cells #[.slice Ag p.globals.length cg, .slice Ap p.procs.length cp] 25)).alloc (.cells zS 49)) W.heap.size 25 #[.slice Ag p.globals.length cg, .slice Ap p.procs.length cp]) := Lib.hid ((Blk.new _ _ _).alloc _)
 have HBf : Hid (Blk ((W.alloc (.cells #[.slice Ag p.globals.length cg, .slice Ap p.procs.length cp] 25)).alloc (.cells zS 49)) (W.heap.size + 1) 49 zS) := Lib.hid (by have := Blk.new (W.alloc (.cells #[.slice Ag p.globals.length cg, .slice Ap p.procs.length cp] 25)) 49 zS; rw [World.size_alloc] at this; exact this)
 generalize World.alloc _ _ = V at HB0 HBp HBf ⊢
 have HI0 := Lib.hid (HI.out.on HB0.out)
 have hwb : W.heap.size ≤ W.heap.size + 1 := by omega
 generalize hbe : W.heap.size = b at HBp HBf hwb ⊢
 generalize hfe : b + 1 = f at HBf hwb ⊢
 have hWf : W.heap.size ≤ f := by omega
 clear hbe hfe
 have q0 : V.cell? ⟨b, 0, none⟩ = some (.slice Ag p.globals.length cg) := by rw [HBp.out.cell]; rfl
 have q1 : V.cell? ⟨b, 1, none⟩ = some (.slice Ap p.procs.length cp) := by rw [HBp.out.cell]; rfl
 have hfl := HBf.out.lt
 have hIt : ∀ cs : Array Value, ItemI w Q (r.elim It0 Prod.fst) cs.toList → ∃ (id kind : Int) (labels : List ByteArray) (nm proc : ByteArray) (x : E) (has : Bool) (args : List Ar) (th el : List S) (L : Option Addr) (lc : Nat) (y0 y1 : Int) (y2 : ByteArray) (X : Option Addr) (xn xc : Nat) (R : Option Addr) (rc : Nat) (T : Option Addr) (tc : Nat) (U : Option Addr) (uc : Nat) (dp inn : Int) (els : Bool), cs = #[.int .i64 id, .int .i64 kind, .slice L labels.length lc, .string nm, .string proc, .int .i64 y0, .int .i64 y1, .string y2, .slice X xn xc, .bool has, .slice R args.length rc, .slice T th.length tc, .slice U el.length uc, .int .i64 dp, .int .i64 inn, .bool els] ∧ StmtI w Q (r.elim It0 Prod.fst).s [.int .i64 id, .int .i64 kind, .slice L labels.length lc, .string nm, .string proc, .int .i64 y0, .int .i64 y1, .string y2, .slice X xn xc, .bool has, .slice R args.length rc, .slice T th.length tc, .slice U el.length uc] := by
  rintro cs ⟨c, hc, hst⟩
  obtain ⟨id, kind, labels, nm, proc, x, has, args, th, el, L, lc, y0, y1, y2, X, xn, xc, R, rc, T, tc, U, uc, hmk, rfl, _⟩ := stmt_open hst
  refine ⟨id, kind, labels, nm, proc, x, has, args, th, el, L, lc, y0, y1, y2, X, xn, xc, R, rc, T, tc, U, uc, (r.elim It0 Prod.fst).deep, (r.elim It0 Prod.fst).inn, (r.elim It0 Prod.fst).els, ?_, hst⟩
  rw [← Array.toArray_toList (xs := cs), hc]
  rfl
 have HIt := Lib.hid hIt
 clear hIt
 go_upto_region 2 with (go_at_call 69; refine (HFd.out V HI0.out).mono ?_; rintro e' w1 ⟨cs, rfl, hit, hb1⟩; obtain ⟨id, kind, labels, nm, proc, x, has, args, th, el, L, lc, y0, y1, y2, X, xn, xc, R, rc, T, tc, U, uc, dp, inn, els, rfl, hst⟩ := HIt.out _ hit; have HSt := Lib.hid hst; clear hst hit)
 have HBi : Hid (Blk (w1.alloc (.cells #[.int .i64 id, .int .i64 kind, .slice L labels.length lc, .string nm, .string proc, .int .i64 y0, .int .i64 y1, .string y2, .slice X xn xc, .bool has, .slice R args.length rc, .slice T th.length tc, .slice U el.length uc, .int .i64 dp, .int .i64 inn, .bool els] 51)) w1.heap.size 51 #[.int .i64 id, .int .i64 kind, .slice L labels.length lc, .string nm, .string proc, .int .i64 y0, .int .i64 y1, .string y2, .slice X xn xc, .bool has, .slice R args.length rc, .slice T th.length tc, .slice U el.length uc, .int .i64 dp, .int .i64 inn, .bool els]) := Lib.hid (Blk.new _ _ _)
 have HB1 : Hid (Below V.heap.size V (w1.alloc (.cells #[.int .i64 id, .int .i64 kind, .slice L labels.length lc, .string nm, .string proc, .int .i64 y0, .int .i64 y1, .string y2, .slice X xn xc, .bool has, .slice R args.length rc, .slice T th.length tc, .slice U el.length uc, .int .i64 dp, .int .i64 inn, .bool els] 51))) := Lib.hid (below_stepA hb1 _)
 clear q0 q1 hb1 HFd HIt
 generalize World.alloc w1 _ = V1 at HBi HB1 ⊢
 generalize w1.heap.size = bi at HBi ⊢
 have HBf1 := Lib.hid (HBf.out.below HB1.out hfl)
 have HBW := Lib.hid (below_step HB0.out HB1.out)
 have s0 : V1.cell? ⟨bi, 0, none⟩ = some (.int .i64 id) := by rw [HBi.out.cell]; rfl
 have s1 : V1.cell? ⟨bi, 1, none⟩ = some (.int .i64 kind) := by rw [HBi.out.cell]; rfl
 have s2 : V1.cell? ⟨bi, 2, none⟩ = some (.slice L labels.length lc) := by rw [HBi.out.cell]; rfl
 have s3 : V1.cell? ⟨bi, 3, none⟩ = some (.string nm) := by rw [HBi.out.cell]; rfl
 have s4 : V1.cell? ⟨bi, 4, none⟩ = some (.string proc) := by rw [HBi.out.cell]; rfl
 have s5 : V1.cell? ⟨bi, 5, none⟩ = some (.int .i64 y0) := by rw [HBi.out.cell]; rfl
 have s6 : V1.cell? ⟨bi, 6, none⟩ = some (.int .i64 y1) := by rw [HBi.out.cell]; rfl
 have s7 : V1.cell? ⟨bi, 7, none⟩ = some (.string y2) := by rw [HBi.out.cell]; rfl
 have s8 : V1.cell? ⟨bi, 8, none⟩ = some (.slice X xn xc) := by rw [HBi.out.cell]; rfl
 have s9 : V1.cell? ⟨bi, 9, none⟩ = some (.bool has) := by rw [HBi.out.cell]; rfl
 have s10 : V1.cell? ⟨bi, 10, none⟩ = some (.slice R args.length rc) := by rw [HBi.out.cell]; rfl
 have s11 : V1.cell? ⟨bi, 11, none⟩ = some (.slice T th.length tc) := by rw [HBi.out.cell]; rfl
 have s12 : V1.cell? ⟨bi, 12, none⟩ = some (.slice U el.length uc) := by rw [HBi.out.cell]; rfl
 have f0_ := HBf1.out.frozen 0
 have y0_ : V1.cell? ⟨f, 0, none⟩ = some (.int .i64 0) := by rw [HBf1.out.cell]; rfl
 have f1_ := HBf1.out.frozen 1
 have y1_ : V1.cell? ⟨f, 1, none⟩ = some (.int .i64 0) := by rw [HBf1.out.cell]; rfl
 have f2_ := HBf1.out.frozen 2
 have y2_ : V1.cell? ⟨f, 2, none⟩ = some (.slice none 0 0) := by rw [HBf1.out.cell]; rfl
 have f3_ := HBf1.out.frozen 3
 have y3_ : V1.cell? ⟨f, 3, none⟩ = some (.string ⟨#[]⟩) := by rw [HBf1.out.cell]; rfl
 have f4_ := HBf1.out.frozen 4
 have y4_ : V1.cell? ⟨f, 4, none⟩ = some (.string ⟨#[]⟩) := by rw [HBf1.out.cell]; rfl
 have f5_ := HBf1.out.frozen 5
 have y5_ : V1.cell? ⟨f, 5, none⟩ = some (.int .i64 0) := by rw [HBf1.out.cell]; rfl
 have f6_ := HBf1.out.frozen 6
 have y6_ : V1.cell? ⟨f, 6, none⟩ = some (.int .i64 0) := by rw [HBf1.out.cell]; rfl
 have f7_ := HBf1.out.frozen 7
 have y7_ : V1.cell? ⟨f, 7, none⟩ = some (.string ⟨#[]⟩) := by rw [HBf1.out.cell]; rfl
 have f8_ := HBf1.out.frozen 8
 have y8_ : V1.cell? ⟨f, 8, none⟩ = some (.slice none 0 0) := by rw [HBf1.out.cell]; rfl
 have f9_ := HBf1.out.frozen 9
 have y9_ : V1.cell? ⟨f, 9, none⟩ = some (.bool false) := by rw [HBf1.out.cell]; rfl
 have f10_ := HBf1.out.frozen 10
 have y10_ : V1.cell? ⟨f, 10, none⟩ = some (.slice none 0 0) := by rw [HBf1.out.cell]; rfl
 have f11_ := HBf1.out.frozen 11
 have y11_ : V1.cell? ⟨f, 11, none⟩ = some (.slice none 0 0) := by rw [HBf1.out.cell]; rfl
 have f12_ := HBf1.out.frozen 12
 have y12_ : V1.cell? ⟨f, 12, none⟩ = some (.slice none 0 0) := by rw [HBf1.out.cell]; rfl
 go_wp2_with fail
 refine bodyPost_ret (results_c1 rfl _ _ f 49 #[.int .i64 id, .int .i64 kind, .slice L labels.length lc, .string nm, .string proc, .int .i64 y0, .int .i64 y1, .string y2, .slice X xn xc, .bool has, .slice R args.length rc, .slice T th.length tc, .slice U el.length uc] (0, 0) _ rfl (blk13 HBf1.out) Tryz.underlying49 rfl (by kernel_rfl)) rfl ?_
 refine ⟨[.int .i64 id, .int .i64 kind, .slice L labels.length lc, .string nm, .string proc, .int .i64 y0, .int .i64 y1, .string y2, .slice X xn xc, .bool has, .slice R args.length rc, .slice T th.length tc, .slice U el.length uc], rfl, by rw [HK.out]; exact HSt.out, ?_⟩
 iterate 13 (refine below_setc ?_ hWf _)
 exact HBW.out
end Go.Proofs.YtimejkbmfbjomaaGreat
namespace Go.Proofs.YtimejkbmfbjomaaGreat
open Go.ChangeShapes Go.WideShapes Go.ChangeAt Go.RowKit Go.Deep
set_option linter.unusedVariables false
set_option linter.unusedSimpArgs false
/-- of a program that may be, each statement is found by its id, and its procedure -/
theorem prOk_find2 : ∀ (l : List Pr) (c c' : Nat), prOk l c = some c' → ∀ q ∈ l, ∀ x ∈ preSL q.body, findL l x.id = (q.nm, x, true)
 | [], c, c', h => fun q hq => by simp at hq
 | q :: l, c, c', h => by
  rw [prOk] at h
  split at h
  ·cases h1 : blkOk q.body 1 c with
   | none => rw [h1] at h; simp at h
   | some c1 =>
    rw [h1] at h
    simp only [Option.bind_some] at h
    obtain ⟨a1, a2, a3⟩ := flatL_pre q.body 1 c c1 h1
    intro y hy x hx
    rw [findL]
    rcases List.mem_cons.1 hy with rfl | hy
    ·obtain ⟨j, hj, rfl⟩ := List.getElem_of_mem hx
     have hf : (preSL y.body).find? (fun s => s.id == (preSL y.body)[j].id) = some (preSL y.body)[j] := by
      rw [List.find?_eq_some_iff_getElem]
      refine ⟨by simp, j, hj, rfl, fun i hi => ?_⟩
      rw [a2 j hj, a2 i (by omega)]
      simp
      omega
     rw [hf]
     rfl
    ·have hid := (prOk_ids l c1 c' h).2 y hy x hx
     have hf : (preSL q.body).find? (fun s => s.id == x.id) = none := by
      rw [List.find?_eq_none]
      intro z hz
      obtain ⟨j, hj, rfl⟩ := List.getElem_of_mem hz
      rw [a2 j hj]
      simp
      omega
     rw [hf]
     exact prOk_find2 l c1 c' h y hy x hx
  ·cases h
theorem rfL_find : ∀ (l : List Pr) (id : Int), (∀ q ∈ l, (flatOf q).map It.s = preSL q.body) → ((rfL l id).elim It0 Prod.fst).s = (findL l id).2.1 ∧ (rfL l id).elim ⟨#[]⟩ Prod.snd = (findL l id).1
 | [], id, _ => ⟨rfl, rfl⟩
 | q :: l, id, h => by
  have ih := rfL_find l id (fun q hq => h q (List.mem_cons_of_mem _ hq))
  rw [rfL, findL, ← h q (List.mem_cons_self ..), List.find?_map, show ((fun s : S => s.id == id) ∘ It.s) = (fun x : It => x.s.id == id) from rfl]
  cases (flatOf q).find? (fun x => x.s.id == id) with
  | none => exact ih
  | some x => exact ⟨rfl, rfl⟩
def pfP (p : Pg) (id : Int) : ByteArray := (rfL p.procs id).elim ⟨#[]⟩ Prod.snd
/-- the statement of an id: itself, its procedure; no other one has that id -/
structure AtId (p : Pg) (id : Int) (q : Pr) (s : S) : Prop where
 mem : q ∈ p.procs
 stm : s ∈ preSL q.body
 eid : s.id = id
 st : stP p id = s
 pf : pfP p id = q.nm
 only : ∀ q' ∈ p.procs, ∀ x ∈ preSL q'.body, x.id = id → x = s ∧ q'.nm = q.nm
theorem at_id {p : Pg} (h : mayP p = true) {q : Pr} (hq : q ∈ p.procs) {s : S} (hs : s ∈ preSL q.body) : AtId p s.id q s := by
 have h1 := may_flat h
 have h2 : ∀ q ∈ p.procs, ∀ x ∈ preSL q.body, findL p.procs x.id = (q.nm, x, true) := by
  unfold mayP at h
  rw [Bool.and_eq_true] at h
  cases h3 : prOk p.procs 0 with
  | none => rw [h3] at h; cases h.2
  | some c => exact prOk_find2 p.procs 0 c h3
 have h3 := rfL_find p.procs s.id (fun q hq => (h1.1 q hq).1)
 rw [h2 q hq s hs] at h3
 refine ⟨hq, hs, rfl, h3.1, h3.2, fun q' hq' x hx he => ?_⟩
 have h4 := h2 q' hq' x hx
 rw [he, h2 q hq s hs] at h4
 simp only [Prod.mk.injEq, and_true] at h4
 exact ⟨h4.2.symm, h4.1.symm⟩
/-- an id of a kind has its statement -/
theorem ids_at {p : Pg} (h : mayP p = true) {kd id : Int} (hi : id ∈ idsOf kd (allOf p)) : ∃ q s, AtId p id q s ∧ (kd = 0 ∨ s.kind = kd) ∧ 1 ≤ id ∧ id ≤ 200 := by
 unfold idsOf at hi
 rw [List.mem_map] at hi
 obtain ⟨x, hx, rfl⟩ := hi
 rw [List.mem_filter] at hx
 have h1 : x.s ∈ (allOf p).map It.s := List.mem_map_of_mem hx.1
 rw [all_map h, List.mem_flatMap] at h1
 obtain ⟨q, hq, hs⟩ := h1
 refine ⟨q, x.s, at_id h hq hs, ?_, may_ids h q hq _ hs⟩
 have := hx.2
 simp only [Bool.or_eq_true, beq_iff_eq] at this
 exact this
end Go.Proofs.YtimejkbmfbjomaaGreat
namespace Go.Proofs.YtimejkbmfbjomaaGreat
open Go.ChangeShapes Go.WideShapes Go.ChangeAt Go.RowKit Go.Deep
set_option linter.unusedVariables false
set_option linter.unusedSimpArgs false
theorem rfL_none : ∀ (l : List Pr) (id : Int), (∀ q ∈ l, (flatOf q).map It.s = preSL q.body) → (∀ q ∈ l, ∀ s ∈ preSL q.body, s.id ≠ id) → rfL l id = none
 | [], id, _, _ => rfl
 | q :: l, id, hm, h => by
  have hno : (flatOf q).find? (fun x => x.s.id == id) = none := by
   rw [List.find?_eq_none]
   intro z hz
   have : z.s ∈ preSL q.body := by rw [← hm q (List.mem_cons_self ..)]; exact List.mem_map_of_mem hz
   have := h q (List.mem_cons_self ..) _ this
   simpa using this
  rw [rfL, hno]
  exact rfL_none l id (fun q hq => hm q (List.mem_cons_of_mem _ hq)) (fun q hq => h q (List.mem_cons_of_mem _ hq))
end Go.Proofs.YtimejkbmfbjomaaGreat
