/- Texts, merged by a program; only what is used. -/
import Derived.Test.YtehpinnmalpgpaaGreatK1
import Derived.Test.YtehpinnmalpgpaaGreatK2
import Derived.Test.YtehpinnmalpgpaaGreatK3
import Derived.Test.YtehpinnmalpgpaaGreatK4
import Derived.Test.YtehpinnmalpgpaaGreatK5
import Derived.Test.YtehpinnmalpgpaaGreatK6
import Derived.Test.YtehpinnmalpgpaaGreatK7
import Derived.Test.YtehpinnmalpgpaaGreatK8
import Derived.Test.YtehpinnmalpgpaaGreatK9
import Derived.Test.YtehpinnmalpgpaaGreatK10
import Derived.Test.YtehpinnmalpgpaaGreatK11
import Derived.Test.YtehpinnmalpgpaaGreatK12
import Derived.Test.YtehpinnmalpgpaaGreatK13
import Derived.Test.YtehpinnmalpgpaaGreatK14
import Derived.Test.YtehpinnmalpgpaaGreatK15
import Derived.Test.YtehpinnmalpgpaaGreatK16
import Derived.Test.YtehpinnmalpgpaaGreatK17
import Derived.Test.YtehpinnmalpgpaaGreatK18
import Derived.Test.YtehpinnmalpgpaaGreatK19
import Derived.Test.YtehpinnmalpgpaaGreatK20
import Derived.Test.YtehpinnmalpgpaaGreatK21
import Derived.Test.YtehpinnmalpgpaaGreatK22
import Derived.Test.YtehpinnmalpgpaaGreatK23
import Derived.Test.YtehpinnmalpgpaaGreatK24
import Derived.Test.YtehpinnmalpgpaaGreatK25
import Derived.Test.YtehpinnmalpgpaaGreatK26
import Derived.Test.YtehpinnmalpgpaaGreatK27
import Derived.Test.YtehpinnmalpgpaaGreatK28
import Derived.Test.YtehpinnmalpgpaaGreatK29
import Derived.Test.YtehpinnmalpgpaaGreatK30
import Derived.Test.YtehpinnmalpgpaaGreatK31
namespace Go.Proofs.YtehpinnmalpgpaaGreat
open Go.ChangeShapes Go.WideShapes Go.ChangeAt Go.RowKit Go.Deep
set_option linter.unusedVariables false
set_option linter.unusedSimpArgs false
def rjB (its : List It) (lb acc : List ByteArray) (x : It) : Bool := (dup (acc ++ x.s.labels) || ((x.s.kind == 7 || x.s.kind == 8) && !(aroundD its x.s.id).2)) || (x.s.kind == 10 && !lb.any (isT x.s.nm))
def rjL (its : List It) (lb : List ByteArray) : List ByteArray → List It → Option Int
 | _, [] => none
 | acc, x :: l => if rjB its lb acc x = true then some x.s.id else rjL its lb (acc ++ x.s.labels) l
def rjQ (q : Pr) : Int × Bool := (rjL (flatOf q) (itLb (flatOf q) ++ q.end_) [] (flatOf q)).elim (0, dup (itLb (flatOf q) ++ q.end_)) (fun i => (i, true))
def rjP : List Pr → Int × Int
 | [] => (0, 0)
 | q :: l => if (rjQ q).2 = true then (7, (rjQ q).1) else rjP l
theorem rjP_drop {l : List Pr} {k : Nat} (h : k < l.length) : rjP (l.drop k) = if (rjQ l[k]).2 = true then (7, (rjQ l[k]).1) else rjP (l.drop (k + 1)) := by
 rw [List.drop_eq_getElem_cons h, rjP]
theorem itLb_sm {w W0 : World} {Q Q0 : Nat → Prop} {its : List It} {v : Value} (h : SliceI W0 Q0 16 (ItemI w Q) its v) : ∀ s ∈ itLb its, small s := by
 intro s hs
 unfold itLb at hs
 obtain ⟨x, hx, hs⟩ := List.mem_flatMap.1 hs
 obtain ⟨cs, c, rfl, hst⟩ := slice_mem h x hx
 obtain ⟨id, kind, labels, nm, proc, y, has, args, th, el, L, lc, y0, y1, y2, X, xn, xc, R, rc, T, tc, U, uc, hmk, rfl, h1, h2, _⟩ := stmt_open hst
 rw [hmk] at hst hs
 exact texts_sm (it_labs hst) s hs
theorem itLb_pre (its : List It) (k : Nat) : ∀ s ∈ itLb (its.take k), s ∈ itLb its := by
 intro s hs
 unfold itLb at hs ⊢
 obtain ⟨x, hx, hs⟩ := List.mem_flatMap.1 hs
 exact List.mem_flatMap.2 ⟨x, List.mem_of_mem_take hx, hs⟩
set_option maxHeartbeats 4000000 in
set_option maxRecDepth 100000 in
theorem rjumps_any {w W : World} {Q : Nat → Prop} {p : Pg} {c0 c1 : Value} (h : ProgI w Q p [c0, c1]) (hb : ∀ q ∈ p.procs, (itLb (flatOf q)).length + q.end_.length ≤ 1000000) (hI : In Q w W) :
 Calls Tryz.prog 48 #[.agg #[c0, c1]] W (ChRes (rjP p.procs) W) := by
 obtain ⟨Ag, cg, Ap, cp, rfl, rfl, _, _, _, _, hgl, hpr⟩ := prog_open h
 have HP := Lib.hid hpr
 have HI := Lib.hid hI
 have HLb := Lib.hid hb
 obtain ⟨r, hr⟩ : ∃ r, r = rjP p.procs := ⟨_, rfl⟩
 rw [← hr]
 have HK := Lib.hid hr
 obtain ⟨i0, hi0, hz0, hz1, hz2⟩ := info_parts string_info
 clear h hI hpr hgl hb hr
 go_enter Tryz.func48, Tryz.ntmps48
 go_upto_region 1 with fail
 have HBp : Hid (Blk ((W.alloc (.cells #[.slice Ag p.globals.length cg, .slice Ap p.procs.length cp] 25)).alloc (.cells #[.int .i64 0, .int .i64 0] 34)) W.heap.size 25 #[.slice Ag p.globals.length cg, .slice Ap p.procs.length cp]) := Lib.hid ((Blk.new _ _ _).alloc _)
 have HBf : Hid (Blk ((W.alloc (.cells #[.slice Ag p.globals.length cg, .slice Ap p.procs.length cp] 25)).alloc (.cells #[.int .i64 0, .int .i64 0] 34)) (W.heap.size + 1) 34 #[.int .i64 0, .int .i64 0]) := Lib.hid (by have := Blk.new (W.alloc (.cells #[.slice Ag p.globals.length cg, .slice Ap p.procs.length cp] 25)) 34 #[.int .i64 0, .int .i64 0]; rw [World.size_alloc] at this; exact this)
 have HB0 : Hid (Below W.heap.size W ((W.alloc (.cells #[.slice Ag p.globals.length cg, .slice Ap p.procs.length cp] 25)).alloc (.cells #[.int .i64 0, .int .i64 0] 34))) := Lib.hid (below_stepA (below_box _) _)
 generalize World.alloc (World.alloc _ _) _ = V at HBp HBf HB0 ⊢
 have hwb : W.heap.size ≤ W.heap.size + 1 := by omega
 generalize hbe : W.heap.size = b at HBp HBf hwb ⊢
 generalize hfe : b + 1 = f at HBf hwb ⊢
 have hWf : W.heap.size ≤ f := by omega
 clear hbe hfe
 have q1 : V.cell? ⟨b, 1, none⟩ = some (.slice Ap p.procs.length cp) := by rw [HBp.out.cell]; rfl
 have HI0 := Lib.hid (HI.out.on HB0.out)
 have hfl := HBf.out.lt
 go_upto_region 2 with fail
 clear q1 HBp HI
 go_loopg [15] p.procs.length (fun kk iv wr => ∃ (k : Nat), k + kk = p.procs.length ∧ iv = .int .i64 k ∧ Hid (Below V.heap.size V wr) ∧ Hid (rjP (p.procs.drop k) = rjP p.procs))
 case atStart => exact ⟨0, by omega, rfl, Lib.hid (Below.refl _ _), Lib.hid rfl⟩
 case round =>
  obtain ⟨k, hk, rfl, HBr, HA⟩ := hrel
  have HIr := Lib.hid (HI0.out.on HBr.out)
  by_cases hlt : k < p.procs.length
  ·obtain ⟨a, Bp, kp, Bv, kv, Bb, kb, Be, ke, rfl, hqa, hrow, hnm, hpp, hvv, hbody, hee⟩ := proc_at HP.out HIr.out hlt
   have HPI : Hid (ProcI w Q p.procs[k] [.string p.procs[k].nm, .slice Bp p.procs[k].params.length kp, .slice Bv p.procs[k].vars.length kv, .slice Bb p.procs[k].body.length kb, .slice Be p.procs[k].end_.length ke]) := Lib.hid ⟨_, _, _, _, rfl, hnm, hpp, hvv, hbody, hee⟩
   have hmem := List.getElem_mem hlt
   have HFl := Lib.hid (fun V hV => Flat_any (W := V) HPI.out hV hV.1)
   have HLa := Lib.hid (fun V hV => rlabels_any HPI.out (HLb.out _ hmem) V hV)
   have HLn := Lib.hid (HLb.out _ hmem)
   have HEe := Lib.hid hee
   have HAk : Hid (rjP p.procs = (rjL (flatOf p.procs[k]) (itLb (flatOf p.procs[k]) ++ p.procs[k].end_) [] (flatOf p.procs[k])).elim (if dup (itLb (flatOf p.procs[k]) ++ p.procs[k].end_) = true then (7, 0) else rjP (p.procs.drop (k + 1))) (fun i => (7, i))) := Lib.hid (by
    rw [← HA.out, rjP_drop hlt]
    unfold rjQ
    cases rjL (flatOf p.procs[k]) (itLb (flatOf p.procs[k]) ++ p.procs[k].end_) [] (flatOf p.procs[k]) <;> rfl)
   have HFn : Hid ((flatOf p.procs[k]).length ≤ 1000) := Lib.hid (Nat.le_trans (flatOf_len _) (by omega))
   clear HPI hnm hpp hvv hbody hmem hqa HA
   generalize flatOf p.procs[k] = its at HFl HLa HLn HAk HFn
   generalize hel : p.procs[k].end_.length = x4 at hrow HFl HLa HLn HEe
   generalize p.procs[k].end_ = endl at HLa HLn HEe HAk hel
   have HEl := Lib.hid hel
   clear hel hee
   generalize p.procs[k].nm = x0 at hrow HFl HLa
   generalize p.procs[k].params.length = x1 at hrow HFl HLa
   generalize p.procs[k].vars.length = x2 at hrow HFl HLa
   generalize p.procs[k].body.length = x3 at hrow HFl HLa
   obtain ⟨lb, hlb⟩ : ∃ lb, lb = itLb its ++ endl := ⟨_, rfl⟩
   rw [← hlb] at HAk HLa
   have HLB := Lib.hid hlb
   clear hlb
   obtain ⟨p0, p1, p2, p3, p4, _⟩ := hrow
   go_upto_region 5 with fail
   have HBx : Hid (Blk (wr.alloc (.cells #[.string x0, .slice Bp x1 kp, .slice Bv x2 kv, .slice Bb x3 kb, .slice Be x4 ke] 43)) wr.heap.size 43 #[.string x0, .slice Bp x1 kp, .slice Bv x2 kv, .slice Bb x3 kb, .slice Be x4 ke]) := Lib.hid (Blk.new _ _ _)
   have HB4 : Hid (Below V.heap.size V (wr.alloc (.cells #[.string x0, .slice Bp x1 kp, .slice Bv x2 kv, .slice Bb x3 kb, .slice Be x4 ke] 43))) := Lib.hid (below_stepA HBr.out _)
   have HI4 : Hid (In Q w (wr.alloc (.cells #[.string x0, .slice Bp x1 kp, .slice Bv x2 kv, .slice Bb x3 kb, .slice Be x4 ke] 43))) := Lib.hid (HIr.out.alloc _)
   clear p0 p1 p2 p3 p4 HIr HBr
   generalize World.alloc wr _ = V4 at HBx HB4 HI4 ⊢
   generalize wr.heap.size = bx at HBx ⊢
   have hbx := HBx.out.lt
   have z0 : V4.cell? ⟨bx, 0, none⟩ = some (.string x0) := by rw [HBx.out.cell]; rfl
   have z1 : V4.cell? ⟨bx, 1, none⟩ = some (.slice Bp x1 kp) := by rw [HBx.out.cell]; rfl
   have z2 : V4.cell? ⟨bx, 2, none⟩ = some (.slice Bv x2 kv) := by rw [HBx.out.cell]; rfl
   have z3 : V4.cell? ⟨bx, 3, none⟩ = some (.slice Bb x3 kb) := by rw [HBx.out.cell]; rfl
   have z4 : V4.cell? ⟨bx, 4, none⟩ = some (.slice Be x4 ke) := by rw [HBx.out.cell]; rfl
   go_upto_region 6 with (go_at_call 27; refine (HFl.out V4 HI4.out).mono ?_; rintro e' W9 ⟨v9, rows9, rfl, ho9, ha9, hb9⟩; obtain ⟨X9, cx9, rfl, hx9, hx9'⟩ := own_shape ho9)
   have HSl := Lib.hid (slice_of_own ho9 ha9 (fun x cs h => by obtain ⟨c, rfl, hc⟩ := h; obtain ⟨_, _, _, _, _, _, _, _, _, _, _, _, _, _, _, _, _, _, _, _, _, _, _, _, _, rfl, _⟩ := stmt_open hc; rfl))
   have HB9 := Lib.hid (below_step HB4.out hb9)
   have HI9 := Lib.hid (HI4.out.on hb9)
   have HBx9 := Lib.hid (HBx.out.below hb9 hbx)
   have HIs : Hid (In (fun b => V4.heap.size ≤ b ∧ b < W9.heap.size) W9 W9) := Lib.hid (in_self9 _ W9)
   clear ho9 ha9 hb9 z0 z1 z2 z3 z4 HFl HBx HI4 hbx
   generalize (fun b => V4.heap.size ≤ b ∧ b < W9.heap.size) = T0 at HSl HIs
   have HSm := Lib.hid (itLb_sm HSl.out)
   have hbx := HBx9.out.lt
   go_upto_region 7 with fail
   go_loopg [5, 23] its.length (fun kk ov iv wr => ∃ (k2 : Nat) (Xr : Option Addr) (n c : Nat), k2 + kk = its.length ∧ iv = .int .i64 k2 ∧ ov = .slice Xr n c ∧ n = (itLb (its.take k2)).length ∧ Hid (NmI W9 wr (itLb (its.take k2)) Xr n c) ∧ Hid (rjL its lb (itLb (its.take k2)) (its.drop k2) = rjL its lb [] its))
   case atStart => exact ⟨0, none, 0, 0, by omega, rfl, rfl, rfl, Lib.hid ⟨World.ownsRow_nil _ _ _ _, Below.refl _ _⟩, Lib.hid rfl⟩
   case round =>
    obtain ⟨k2, Xr, n, c, hk2, rfl, rfl, hnl, HR, HD⟩ := hrel
    have HIr := Lib.hid (HI9.out.on HR.out.below)
    by_cases hlt2 : k2 < its.length
    ·obtain ⟨a2, id, kind, labels, nm, proc, x, has, args, th, el, L, lc, y0, y1, y2, X, xn, xc, R, rc, T, tc, U, uc, dp, inn, els, rfl, hq2, hmk, hrow2, hid, hkind, hst, hdp, hinn, hels⟩ := item_at2 HSl.out (W := wr) (HIs.out.on HR.out.below) hlt2
     have HT : Hid (itLb (its.take (k2 + 1)) = itLb (its.take k2) ++ labels) := Lib.hid (by rw [itLb_take hlt2, hmk]; rfl)
     have HNk : Hid (n + labels.length ≤ 1000000) := Lib.hid (by
      have h1 := itLb_le its (k2 + 1)
      rw [HT.out, List.length_append] at h1
      have := HLn.out
      omega)
     have HLs := Lib.hid (it_labs hst)
     have HLk := Lib.hid hnl
     have HDk : Hid (rjL its lb [] its = if ((dup (itLb (its.take k2) ++ labels) || ((kind == 7 || kind == 8) && !(aroundD its id).2)) || (kind == 10 && !lb.any (isT nm))) = true then some id else rjL its lb (itLb (its.take k2) ++ labels) (its.drop (k2 + 1))) := Lib.hid (by
      rw [← HD.out, List.drop_eq_getElem_cons hlt2, rjL]
      unfold rjB
      rw [hmk]
      rfl)
     have HSp : Hid (∀ s ∈ itLb (its.take k2) ++ labels, small s) := Lib.hid (fun s hs => HSm.out s (itLb_pre its (k2 + 1) s (by rw [HT.out]; exact hs)))
     obtain ⟨p0, p1, p2, p3, p4, p5, p6, p7, p8, p9, p10, p11, p12, p13, p14, p15, _⟩ := hrow2
     generalize itLb (its.take k2) = pre at HR HT HLk HDk HSp
     have hkb := hkind
     unfold i64 at hkb
     clear hmk hst hid hkind hq2 hdp hinn hels hnl HD
     go_upto_region 9 with fail
     have HBi : Hid (Blk (wr.alloc (.cells #[.int .i64 id, .int .i64 kind, .slice L labels.length lc, .string nm, .string proc, .int .i64 y0, .int .i64 y1, .string y2, .slice X xn xc, .bool has, .slice R args.length rc, .slice T th.length tc, .slice U el.length uc, .int .i64 dp, .int .i64 inn, .bool els] 55)) wr.heap.size 55 #[.int .i64 id, .int .i64 kind, .slice L labels.length lc, .string nm, .string proc, .int .i64 y0, .int .i64 y1, .string y2, .slice X xn xc, .bool has, .slice R args.length rc, .slice T th.length tc, .slice U el.length uc, .int .i64 dp, .int .i64 inn, .bool els]) := Lib.hid (Blk.new _ _ _)
     have HO4 : Hid ((wr.alloc (.cells #[.int .i64 id, .int .i64 kind, .slice L labels.length lc, .string nm, .string proc, .int .i64 y0, .int .i64 y1, .string y2, .slice X xn xc, .bool has, .slice R args.length rc, .slice T th.length tc, .slice U el.length uc, .int .i64 dp, .int .i64 inn, .bool els] 55)).ownsRow W9.heap.size 9 1 (.slice Xr n c) n (strs pre)) := Lib.hid (HR.out.row.alloc _)
     have HBs4 : Hid (Below W9.heap.size W9 (wr.alloc (.cells #[.int .i64 id, .int .i64 kind, .slice L labels.length lc, .string nm, .string proc, .int .i64 y0, .int .i64 y1, .string y2, .slice X xn xc, .bool has, .slice R args.length rc, .slice T th.length tc, .slice U el.length uc, .int .i64 dp, .int .i64 inn, .bool els] 55))) := Lib.hid (below_stepA HR.out.below _)
     have HIq : Hid (In Q w (wr.alloc (.cells #[.int .i64 id, .int .i64 kind, .slice L labels.length lc, .string nm, .string proc, .int .i64 y0, .int .i64 y1, .string y2, .slice X xn xc, .bool has, .slice R args.length rc, .slice T th.length tc, .slice U el.length uc, .int .i64 dp, .int .i64 inn, .bool els] 55))) := Lib.hid (HIr.out.alloc _)
     clear p0 p1 p2 p3 p4 p5 p6 p7 p8 p9 p10 p11 p12 p13 p14 p15 HR HIr
     generalize World.alloc wr _ = V5 at HBi HO4 HBs4 HIq ⊢
     generalize wr.heap.size = bi at HBi ⊢
     have s2 : V5.cell? ⟨bi, 2, none⟩ = some (.slice L labels.length lc) := by rw [HBi.out.cell]; rfl
     go_upto_region 10 with (at_builtin; refine wpList_append_texts rfl (.tmp 27) (.tmp 30) 22 rfl W9.heap.size 9 i0 _ Tryz.underlying22 hi0 hz0 hz1 hz2 rfl _ n (strs pre) rfl HO4.out w Q L labels labels.length lc rfl rfl HLs.out HIq.out HNk.out HBs4.out.size ?_; intro v6 w6 hown6 hg6; obtain ⟨X6, k6, rfl, _, _⟩ := own_shape hown6; have HN6 : Hid (NmI W9 w6 (pre ++ labels) X6 (n + labels.length) k6) := Lib.hid ⟨(by rw [strs_append]; exact hown6), HBs4.out.grown hg6 HBs4.out.size (fun j hj => (HO4.out.lt j hj).1)⟩; have HBi6 := Lib.hid (HBi.out.grown hg6 (fun e => own_blk_ne HO4.out HBi.out (by decide) e.symm)); clear hown6 hg6)
     clear s2 HO4 HBi HIq HBs4 HLs
     have HLk6 : Hid (n + labels.length = (pre ++ labels).length) := Lib.hid (by rw [List.length_append, ← HLk.out])
     have HTw := Lib.hid (rtwice_any (texts_of_own HSp.out HN6.out.row).2 (in_self9 _ w6))
     generalize n + labels.length = n6 at HN6 HLk6 HTw HNk ⊢
     rw [← HT.out] at HN6 HLk6 HDk HTw
     clear HT HSp HLk
     obtain ⟨d1, hd1⟩ : ∃ d1, d1 = dup (itLb (its.take (k2 + 1))) := ⟨_, rfl⟩
     rw [← hd1] at HDk HTw
     clear hd1
     have hil := HBi6.out.lt
     go_upto_region 11 with (go_at_call 79; refine HTw.out.mono ?_; rintro e' w7 ⟨rfl, hb7⟩)
     have HN7 : Hid (NmI W9 w7 (itLb (its.take (k2 + 1))) X6 n6 k6) := Lib.hid ⟨(Below.moves hb7).row HN6.out.row (fun j hj e => Nat.not_lt.2 e (HN6.out.row.lt j hj).2), below_step HN6.out.below hb7⟩
     have HBi7 := Lib.hid (HBi6.out.below hb7 hil)
     have HI7 := Lib.hid (HI9.out.on HN7.out.below)
     have HIs7 := Lib.hid (HIs.out.on HN7.out.below)
     have HBx7 := Lib.hid (HBx9.out.below HN7.out.below hbx)
     clear hb7 HN6 HBi6 hil HTw
     have hil := HBi7.out.lt
     have hxl := HBx7.out.lt
     have s0 : w7.cell? ⟨bi, 0, none⟩ = some (.int .i64 id) := by rw [HBi7.out.cell]; rfl
     have s1 : w7.cell? ⟨bi, 1, none⟩ = some (.int .i64 kind) := by rw [HBi7.out.cell]; rfl
     have s3 : w7.cell? ⟨bi, 3, none⟩ = some (.string nm) := by rw [HBi7.out.cell]; rfl
     have HAr := Lib.hid (rAround_any HSl.out HIs7.out HFn.out id)
     generalize aroundD its id = ar at HDk HAr
     obtain ⟨ar1, ar2⟩ := ar
     simp only at HDk HAr
     obtain ⟨d2, hd2⟩ : ∃ d2, d2 = (d1 || ((kind == 7 || kind == 8) && !ar2)) := ⟨_, rfl⟩
     rw [← hd2] at HDk
     have HD2 := Lib.hid hd2
     clear hd2
     obtain ⟨k78, hk78⟩ : ∃ b : Bool, b = (kind == 7 || kind == 8) := ⟨_, rfl⟩
     rw [← hk78] at HD2
     have HK78 := Lib.hid hk78
     clear hk78
     go_cut [43] from 34 to 42 (fun s43 wx => s43 = .bool k78 ∧ w7 = wx)
     case first =>
      by_cases hk7 : kind = 7
      ·subst hk7
       have HD3 : Hid (k78 = true) := Lib.hid (by rw [HK78.out]; rfl)
       clear HD2 HDk HK78
       go_wp2_with fail
       go_meet
       exact ⟨by rw [HD3.out], rfl⟩
      ·have hk7' : (kind == 7) = false := beq_eq_false_iff_ne.2 hk7
       by_cases hk8 : kind = 8
       ·subst hk8
        have HD3 : Hid (k78 = true) := Lib.hid (by rw [HK78.out]; rfl)
        clear HD2 HDk HK78
        go_wp2_with fail
        go_meet
        exact ⟨by rw [HD3.out], rfl⟩
       ·have hk8' : (kind == 8) = false := beq_eq_false_iff_ne.2 hk8
        have HD3 : Hid (k78 = false) := Lib.hid (by rw [HK78.out, hk7', hk8']; rfl)
        clear HD2 HDk hk7 hk8 HK78
        go_wp2_with fail
        go_meet
        exact ⟨by rw [HD3.out], rfl⟩
     case rest =>
     obtain ⟨rfl, hw⟩ := hcut
     subst hw
     clear HK78
     go_upto_if 43 with fail
     go_cut [9, 10, 11] from 44 to 56 (fun s9 s10 s11 wx => s9 = .bool d2 ∧ w7 = wx)
     case first =>
      clear HDk
      cases k78
      ·have HD3 : Hid (d2 = d1) := Lib.hid (by rw [HD2.out]; simp)
       clear HD2
       go_wp2_with fail
       go_meet
       exact ⟨by rw [HD3.out], rfl⟩
      ·have HD3 : Hid (d2 = (d1 || !ar2)) := Lib.hid (by rw [HD2.out]; simp)
       clear HD2
       cases d1 <;> cases ar2
       all_goals
        go_wp2_with (go_at_call 45; refine HAr.out.mono ?_; rintro e' W10 ⟨rfl, rfl⟩)
        go_meet
        exact ⟨(by rw [HD3.out]; rfl), rfl⟩
     case rest =>
      obtain ⟨rfl, hw⟩ := hcut
      subst hw
      clear HAr HD2 s1
      have s1 : w7.cell? ⟨bi, 1, none⟩ = some (.int .i64 kind) := by rw [HBi7.out.cell]; rfl
      have HIn := Lib.hid (fun (W0 V : World) (Q0 : Nat → Prop) (v : Value) (h1 : TextsI W0 Q0 lb v) (h2 : In Q0 W0 V) => rIn_any h1 h2 nm)
      have HLs : Hid (∀ s ∈ lb, small s) := Lib.hid (fun s hs => by
       rw [HLB.out] at hs
       rcases List.mem_append.1 hs with hs | hs
       ·exact HSm.out s hs
       ·exact texts_sm HEe.out s hs)
      generalize lb.any (isT nm) = z at HIn HDk
      obtain ⟨d, hd⟩ : ∃ d, d = (kind == 10 && !z) := ⟨_, rfl⟩
      rw [← hd] at HDk
      have HDd := Lib.hid hd
      clear hd
      have z0 : w7.cell? ⟨bx, 0, none⟩ = some (.string x0) := by rw [HBx7.out.cell]; rfl
      have z1 : w7.cell? ⟨bx, 1, none⟩ = some (.slice Bp x1 kp) := by rw [HBx7.out.cell]; rfl
      have z2 : w7.cell? ⟨bx, 2, none⟩ = some (.slice Bv x2 kv) := by rw [HBx7.out.cell]; rfl
      have z3 : w7.cell? ⟨bx, 3, none⟩ = some (.slice Bb x3 kb) := by rw [HBx7.out.cell]; rfl
      have z4 : w7.cell? ⟨bx, 4, none⟩ = some (.slice Be x4 ke) := by rw [HBx7.out.cell]; rfl
      go_upto_region 14 with fail
      go_cut [69] from 57 to 68 (fun s69 wx => s69 = .bool d ∧ Hid (Below w7.heap.size w7 wx))
      case first =>
       by_cases hk10 : kind = 10
       ·subst hk10
        have HD3 : Hid (d = !z) := Lib.hid (by rw [HDd.out]; rfl)
        clear HDd HDk
        have HS7 : Hid (∀ w' : World, Below w7.heap.size w7 w' → (w'.cell? ⟨bx, 0, none⟩ = some (.string x0) ∧ w'.cell? ⟨bx, 1, none⟩ = some (.slice Bp x1 kp) ∧ w'.cell? ⟨bx, 2, none⟩ = some (.slice Bv x2 kv) ∧ w'.cell? ⟨bx, 3, none⟩ = some (.slice Bb x3 kb) ∧ w'.cell? ⟨bx, 4, none⟩ = some (.slice Be x4 ke) ∧ w'.cell? ⟨bi, 1, none⟩ = some (.int .i64 10) ∧ w'.cell? ⟨bi, 3, none⟩ = some (.string nm))) := Lib.hid (fun w' hb => ⟨(hb.cell (p := ⟨bx, 0, none⟩) hxl).trans z0, (hb.cell (p := ⟨bx, 1, none⟩) hxl).trans z1, (hb.cell (p := ⟨bx, 2, none⟩) hxl).trans z2, (hb.cell (p := ⟨bx, 3, none⟩) hxl).trans z3, (hb.cell (p := ⟨bx, 4, none⟩) hxl).trans z4, (hb.cell (p := ⟨bi, 1, none⟩) hil).trans s1, (hb.cell (p := ⟨bi, 3, none⟩) hil).trans s3⟩)
        have hBD : Below w7.heap.size w7 w7.drew := (Below.refl _ _).drew
        have hdr : ∀ V : World, In Q w V → In Q w V.drew := fun V h => h
        cases z
        all_goals
         go_region_held3 (fun w' => w'.cell? ⟨bx, 0, none⟩ = some (.string x0) ∧ w'.cell? ⟨bx, 1, none⟩ = some (.slice Bp x1 kp) ∧ w'.cell? ⟨bx, 2, none⟩ = some (.slice Bv x2 kv) ∧ w'.cell? ⟨bx, 3, none⟩ = some (.slice Bb x3 kb) ∧ w'.cell? ⟨bx, 4, none⟩ = some (.slice Be x4 ke) ∧ w'.cell? ⟨bi, 1, none⟩ = some (.int .i64 10) ∧ w'.cell? ⟨bi, 3, none⟩ = some (.string nm))
          ((refine HS7.out _ ?_; with_reducible assumption))
          (first
           | (go_at_call 50; (with_reducible refine (HLa.out w7.drew (hdr w7 HI7.out)).mono ?_); rintro e' W8 ⟨v8, rfl, ho8, hb8⟩; have k8 : Below w7.heap.size w7 W8 := hBD.trans hb8; have HT8 := Lib.hid (texts_of_own HLs.out ho8).2; clear ho8 hb8)
           | (go_at_call 29; (with_reducible refine (HIn.out _ W8 _ v8 HT8.out (in_self9 _ W8)).mono ?_); rintro e' W10 ⟨rfl, rfl⟩))
         go_wp2_with fail
         go_meet
         exact ⟨(by rw [HD3.out]; rfl), Lib.hid k8⟩
       ·have hk10' : (kind == 10) = false := beq_eq_false_iff_ne.2 hk10
        have HD3 : Hid (d = false) := Lib.hid (by rw [HDd.out, hk10']; simp)
        clear HDd HDk hk10
        go_quiet (fail)
        go_wp2_with fail
        go_meet
        exact ⟨by rw [HD3.out], Lib.hid (below_drewN (Below.refl _ _) _)⟩
      case rest =>
       obtain ⟨rfl, HC⟩ := hcut
       have HNc : Hid (NmI W9 wc (itLb (its.take (k2 + 1))) X6 n6 k6) := Lib.hid ⟨(Below.moves HC.out).row HN7.out.row (fun j hj e => Nat.not_lt.2 e (HN7.out.row.lt j hj).2), below_step HN7.out.below HC.out⟩
       have HBic := Lib.hid (HBi7.out.below HC.out hil)
       have s0 : wc.cell? ⟨bi, 0, none⟩ = some (.int .i64 id) := by rw [HBic.out.cell]; rfl
       clear HDd HIn HLs z0 z1 z2 z3 z4 s1 s3 HN7 HBi7 hil hxl HI7 HIs7 HBx7 HC
       have HBVc := Lib.hid (below_step HB9.out HNc.out.below)
       have HBfc := Lib.hid (HBf.out.below HBVc.out hfl)
       have HBWc := Lib.hid (below_step HB0.out HBVc.out)
       cases d with
       | true =>
        have HAn : Hid (rjP p.procs = (7, id)) := Lib.hid (by rw [HAk.out, HDk.out, Bool.or_true]; rfl)
        clear HAk HDk
        go_wp2_with (go_at_call 47; refine (rfault_any 7 id wc).mono ?_; rintro e wf ⟨rfl, hbf_⟩; have HB_ := Lib.hid (below_step HBWc.out hbf_); have HBf_ := Lib.hid (HBfc.out.below hbf_ HBfc.out.lt); have f0_ := HBf_.out.frozen 0; have f1_ := HBf_.out.frozen 1; have y0_ : wf.cell? ⟨f, 0, none⟩ = some (.int .i64 0) := (by rw [HBf_.out.cell]; rfl); have y1_ : wf.cell? ⟨f, 1, none⟩ = some (.int .i64 0) := (by rw [HBf_.out.cell]; rfl); clear hbf_)
        (try simp only [Exit.inBlock, Exit.then])
        refine bodyPost_ret (results_c1 rfl _ _ f 34 #[.int .i64 7, .int .i64 id] (0, 0) _ rfl (fault_end HBf_.out) Tryz.underlying34 rfl (by kernel_rfl)) rfl ?_
        exact ⟨by rw [HK.out, HAn.out], below_setc (below_setc HB_.out hWf _) hWf _⟩
       | false =>
        cases d2 with
        | true =>
         have HAn : Hid (rjP p.procs = (7, id)) := Lib.hid (by rw [HAk.out, HDk.out]; rfl)
         clear HAk HDk
         go_wp2_with (go_at_call 47; refine (rfault_any 7 id wc).mono ?_; rintro e wf ⟨rfl, hbf_⟩; have HB_ := Lib.hid (below_step HBWc.out hbf_); have HBf_ := Lib.hid (HBfc.out.below hbf_ HBfc.out.lt); have f0_ := HBf_.out.frozen 0; have f1_ := HBf_.out.frozen 1; have y0_ : wf.cell? ⟨f, 0, none⟩ = some (.int .i64 0) := (by rw [HBf_.out.cell]; rfl); have y1_ : wf.cell? ⟨f, 1, none⟩ = some (.int .i64 0) := (by rw [HBf_.out.cell]; rfl); clear hbf_)
         (try simp only [Exit.inBlock, Exit.then])
         refine bodyPost_ret (results_c1 rfl _ _ f 34 #[.int .i64 7, .int .i64 id] (0, 0) _ rfl (fault_end HBf_.out) Tryz.underlying34 rfl (by kernel_rfl)) rfl ?_
         exact ⟨by rw [HK.out, HAn.out], below_setc (below_setc HB_.out hWf _) hWf _⟩
        | false =>
         have HDr : Hid (rjL its lb [] its = rjL its lb (itLb (its.take (k2 + 1))) (its.drop (k2 + 1))) := Lib.hid HDk.out
         clear HDk
         go_wp2_with fail
         go_roundg (its.length - k2 - 1)
         case measure => omega
         case rel => exact ⟨k2 + 1, X6, n6, k6, by omega, by go_num, rfl, HLk6.out, HNc, Lib.hid HDr.out.symm⟩
    ·obtain rfl : k2 = its.length := by omega
     rw [List.take_length] at HR hnl
     have HDn : Hid (rjP p.procs = if dup lb = true then (7, 0) else rjP (p.procs.drop (k + 1))) := Lib.hid (by
      rw [HAk.out, ← HD.out, List.drop_length]
      rfl)
     have HBxr := Lib.hid (HBx9.out.below HR.out.below hbx)
     have z4 : wr.cell? ⟨bx, 4, none⟩ = some (.slice Be x4 ke) := by rw [HBxr.out.cell]; rfl
     have HO7 := Lib.hid HR.out.row
     have HNk : Hid (n + x4 ≤ 1000000) := Lib.hid (by have := HLn.out; omega)
     have HLs : Hid (∀ s ∈ lb, small s) := Lib.hid (fun s hs => by
       rw [HLB.out] at hs
       rcases List.mem_append.1 hs with hs | hs
       ·exact HSm.out s hs
       ·exact texts_sm HEe.out s hs)
     have HTw := Lib.hid (fun (W0 V : World) (Q0 : Nat → Prop) (v : Value) (h1 : TextsI W0 Q0 lb v) (h2 : In Q0 W0 V) => rtwice_any h1 h2)
     generalize dup lb = d at HDn HTw
     clear HAk HD
     cases d with
     | true =>
      have HAn : Hid (rjP p.procs = (7, 0)) := Lib.hid HDn.out
      clear HDn
      go_upto_region 20 with (first
      | (at_builtin; refine wpList_append_texts rfl (.tmp 76) (.tmp 78) 22 rfl W9.heap.size 9 i0 _ Tryz.underlying22 hi0 hz0 hz1 hz2 rfl _ n (strs (itLb its)) rfl HO7.out w Q Be endl x4 ke rfl HEl.out.symm HEe.out HIr.out HNk.out HR.out.below.size ?_; intro v7 w7 hown7 hg7; have HO8 := Lib.hid hown7; have HB7 := Lib.hid (HR.out.below.grown hg7 HR.out.below.size (fun j hj => (HO7.out.lt j hj).1)); clear hown7 hg7; have HT8 : Hid (TextsI w7 (fun b => W9.heap.size ≤ b ∧ b < w7.heap.size) lb v7) := Lib.hid (texts_of_own HLs.out (by have h := HO8.out; rw [← strs_append, ← HLB.out] at h; exact h)).2)
      | (go_at_call 79; refine (HTw.out _ w7 _ v7 HT8.out (in_self9 _ w7)).mono ?_; rintro e' w8 ⟨rfl, hb8⟩; have HB8 := Lib.hid (below_step HB9.out (below_step HB7.out hb8)); clear hb8))
      have HBf8 := Lib.hid (HBf.out.below HB8.out hfl)
      have HBW8 := Lib.hid (below_step HB0.out HB8.out)
      clear HB7 HO8 HT8 z4 HTw HO7
      go_wp2_with (go_at_call 47; refine (rfault_any 7 0 w8).mono ?_; rintro e wf ⟨rfl, hbf_⟩; have HB_ := Lib.hid (below_step HBW8.out hbf_); have HBf_ := Lib.hid (HBf8.out.below hbf_ HBf8.out.lt); have f0_ := HBf_.out.frozen 0; have f1_ := HBf_.out.frozen 1; have y0_ : wf.cell? ⟨f, 0, none⟩ = some (.int .i64 0) := (by rw [HBf_.out.cell]; rfl); have y1_ : wf.cell? ⟨f, 1, none⟩ = some (.int .i64 0) := (by rw [HBf_.out.cell]; rfl); clear hbf_)
      (try simp only [Exit.inBlock, Exit.then])
      refine bodyPost_ret (results_c1 rfl _ _ f 34 #[.int .i64 7, .int .i64 0] (0, 0) _ rfl (fault_end HBf_.out) Tryz.underlying34 rfl (by kernel_rfl)) rfl ?_
      exact ⟨by rw [HK.out, HAn.out], below_setc (below_setc HB_.out hWf _) hWf _⟩
     | false =>
      have HAm : Hid (rjP p.procs = rjP (p.procs.drop (k + 1))) := Lib.hid HDn.out
      clear HDn
      go_wp2_with (first
      | (at_builtin; refine wpList_append_texts rfl (.tmp 76) (.tmp 78) 22 rfl W9.heap.size 9 i0 _ Tryz.underlying22 hi0 hz0 hz1 hz2 rfl _ n (strs (itLb its)) rfl HO7.out w Q Be endl x4 ke rfl HEl.out.symm HEe.out HIr.out HNk.out HR.out.below.size ?_; intro v7 w7 hown7 hg7; have HO8 := Lib.hid hown7; have HB7 := Lib.hid (HR.out.below.grown hg7 HR.out.below.size (fun j hj => (HO7.out.lt j hj).1)); clear hown7 hg7; have HT8 : Hid (TextsI w7 (fun b => W9.heap.size ≤ b ∧ b < w7.heap.size) lb v7) := Lib.hid (texts_of_own HLs.out (by have h := HO8.out; rw [← strs_append, ← HLB.out] at h; exact h)).2)
      | (go_at_call 79; refine (HTw.out _ w7 _ v7 HT8.out (in_self9 _ w7)).mono ?_; rintro e' w8 ⟨rfl, hb8⟩; have HB8 := Lib.hid (below_step HB9.out (below_step HB7.out hb8)); clear hb8))
      go_roundg (p.procs.length - k - 1)
      case measure => omega
      case rel => exact ⟨k + 1, by omega, by go_num, HB8, Lib.hid HAm.out.symm⟩
  ·have HAn : Hid (rjP p.procs = (0, 0)) := Lib.hid (by rw [← HA.out, List.drop_of_length_le (by omega)]; rfl)
   have HBfr := Lib.hid (HBf.out.below HBr.out hfl)
   have HBWr := Lib.hid (below_step HB0.out HBr.out)
   have f0_ := HBfr.out.frozen 0
   have f1_ := HBfr.out.frozen 1
   have y0_ : wr.cell? ⟨f, 0, none⟩ = some (.int .i64 0) := by rw [HBfr.out.cell]; rfl
   have y1_ : wr.cell? ⟨f, 1, none⟩ = some (.int .i64 0) := by rw [HBfr.out.cell]; rfl
   go_wp2_with fail
   (try simp only [Exit.inBlock, Exit.then])
   refine bodyPost_ret (results_c1 rfl _ _ f 34 #[.int .i64 0, .int .i64 0] (0, 0) _ rfl (fault_end HBfr.out) Tryz.underlying34 rfl (by kernel_rfl)) rfl ?_
   exact ⟨by rw [HK.out, HAn.out], below_setc (below_setc HBWr.out hWf _) hWf _⟩
set_option maxHeartbeats 4000000 in
set_option maxRecDepth 100000 in
theorem rJumps_any {w : World} {Q : Nat → Prop} {p : Pg} {c0 c1 : Value} (h : ProgI w Q p [c0, c1]) (hsm : SmG p) (hb : LbOk p) (W : World) (hI : In Q w W) :
 Calls Tryz.prog 14 #[.agg #[c0, c1]] W (ChRes (if chkOK p = true then rjP p.procs else (1, 0)) W) := by
 have HSc := Lib.hid (fun V hV => rScope_any h hsm V hV)
 have HJu := Lib.hid (fun (hc : chkOK p = true) V hV => rjumps_any (W := V) h (hb hc) hV)
 obtain ⟨Ag, cg, Ap, cp, rfl, rfl, _⟩ := prog_open h
 have HI := Lib.hid hI
 have hff : ∀ (a c : Int) (w : World), (Instr.field 34 (.agg #[.int .i64 a, .int .i64 c]) 0).run Tryz.prog w = .ok (.int .i64 a) w := fun _ _ _ => by kernel_rfl
 have HCk : Hid (chkOK p = decide ((chkP p).1 = 0)) := Lib.hid rfl
 obtain ⟨r, hr⟩ : ∃ r, r = (if chkOK p = true then rjP p.procs else (1, 0)) := ⟨_, rfl⟩
 rw [← hr]
 have HK := Lib.hid hr
 clear h hI hb hr
 generalize hcr : chkP p = cr at HSc HCk
 clear hcr
 obtain ⟨rc, ri⟩ := cr
 simp only at HCk
 go_enter Tryz.func14, Tryz.ntmps14
 go_upto_region 1 with fail
 have HBp : Hid (Blk ((W.alloc (.cells #[.slice Ag p.globals.length cg, .slice Ap p.procs.length cp] 25)).alloc (.cells #[.int .i64 0, .int .i64 0] 34)) W.heap.size 25 #[.slice Ag p.globals.length cg, .slice Ap p.procs.length cp]) := Lib.hid ((Blk.new _ _ _).alloc _)
 have HBf : Hid (Blk ((W.alloc (.cells #[.slice Ag p.globals.length cg, .slice Ap p.procs.length cp] 25)).alloc (.cells #[.int .i64 0, .int .i64 0] 34)) (W.heap.size + 1) 34 #[.int .i64 0, .int .i64 0]) := Lib.hid (by have := Blk.new (W.alloc (.cells #[.slice Ag p.globals.length cg, .slice Ap p.procs.length cp] 25)) 34 #[.int .i64 0, .int .i64 0]; rw [World.size_alloc] at this; exact this)
 have HB0 : Hid (Below W.heap.size W ((W.alloc (.cells #[.slice Ag p.globals.length cg, .slice Ap p.procs.length cp] 25)).alloc (.cells #[.int .i64 0, .int .i64 0] 34))) := Lib.hid (below_stepA (below_box _) _)
 generalize World.alloc (World.alloc _ _) _ = V at HBp HBf HB0 ⊢
 have hwb : W.heap.size ≤ W.heap.size + 1 := by omega
 generalize hbe : W.heap.size = b at HBp HBf hwb ⊢
 generalize hfe : b + 1 = f at HBf hwb ⊢
 have hWf : W.heap.size ≤ f := by omega
 clear hbe hfe
 have HI0 := Lib.hid (HI.out.on HB0.out)
 have hfl := HBf.out.lt
 have hbl := HBp.out.lt
 have q0 : V.cell? ⟨b, 0, none⟩ = some (.slice Ag p.globals.length cg) := by rw [HBp.out.cell]; rfl
 have q1 : V.cell? ⟨b, 1, none⟩ = some (.slice Ap p.procs.length cp) := by rw [HBp.out.cell]; rfl
 by_cases hr : rc = 0
 ·subst hr
  have HCk := Lib.hid (show chkOK p = true from HCk.out)
  have HKv : Hid (r = rjP p.procs) := Lib.hid (by rw [HK.out, if_pos HCk.out])
  have HJ := Lib.hid (HJu.out HCk.out)
  obtain ⟨r1, r2⟩ := r
  rw [← HKv.out] at HJ
  go_upto_region 3 with (go_at_call 40; refine (HSc.out V HI0.out).mono ?_; rintro e' W7 ⟨rfl, hb7⟩)
  have HI7 := Lib.hid (HI0.out.on hb7)
  have HBp7 := Lib.hid (HBp.out.below hb7 hbl)
  have HBf7 := Lib.hid (HBf.out.below hb7 hfl)
  have HB7 := Lib.hid (below_step HB0.out hb7)
  clear hb7 q0 q1 HBp HBf HI0 HB0 hbl hfl hff HSc
  have q0 : W7.cell? ⟨b, 0, none⟩ = some (.slice Ag p.globals.length cg) := by rw [HBp7.out.cell]; rfl
  have q1 : W7.cell? ⟨b, 1, none⟩ = some (.slice Ap p.procs.length cp) := by rw [HBp7.out.cell]; rfl
  go_wp2_with (go_at_call 48; refine (HJ.out W7 HI7.out).mono ?_; rintro e wf ⟨rfl, hbf_⟩; have HB_ := Lib.hid (below_step HB7.out hbf_); have HBf_ := Lib.hid (HBf7.out.below hbf_ HBf7.out.lt); have f0_ := HBf_.out.frozen 0; have f1_ := HBf_.out.frozen 1; have y0_ : wf.cell? ⟨f, 0, none⟩ = some (.int .i64 0) := (by rw [HBf_.out.cell]; rfl); have y1_ : wf.cell? ⟨f, 1, none⟩ = some (.int .i64 0) := (by rw [HBf_.out.cell]; rfl); clear hbf_)
  (try simp only [Exit.inBlock, Exit.then])
  refine bodyPost_ret (results_c1 rfl _ _ f 34 #[.int .i64 r1, .int .i64 r2] (0, 0) _ rfl (fault_end HBf_.out) Tryz.underlying34 rfl (by kernel_rfl)) rfl ?_
  exact ⟨rfl, below_setc (below_setc HB_.out hWf _) hWf _⟩
 ·have hr1 : (rc == 0) = false := beq_eq_false_iff_ne.2 hr
  have hr2 : (rc != 0) = true := by simp [bne, hr1]
  have HKv : Hid (r = (1, 0)) := Lib.hid (by rw [HK.out, if_neg (by rw [HCk.out]; simpa using hr)])
  clear hr HCk HK
  go_upto_region 2 with (go_at_call 40; refine (HSc.out V HI0.out).mono ?_; rintro e' W7 ⟨rfl, hb7⟩)
  have HBf7 := Lib.hid (HBf.out.below hb7 hfl)
  have HB7 := Lib.hid (below_step HB0.out hb7)
  clear hb7 q0 q1 HBp HBf HI0 HB0 hbl hfl hff HSc
  go_wp2_with (go_at_call 47; refine (rfault_any 1 0 W7).mono ?_; rintro e wf ⟨rfl, hbf_⟩; have HB_ := Lib.hid (below_step HB7.out hbf_); have HBf_ := Lib.hid (HBf7.out.below hbf_ HBf7.out.lt); have f0_ := HBf_.out.frozen 0; have f1_ := HBf_.out.frozen 1; have y0_ : wf.cell? ⟨f, 0, none⟩ = some (.int .i64 0) := (by rw [HBf_.out.cell]; rfl); have y1_ : wf.cell? ⟨f, 1, none⟩ = some (.int .i64 0) := (by rw [HBf_.out.cell]; rfl); clear hbf_)
  (try simp only [Exit.inBlock, Exit.then])
  refine bodyPost_ret (results_c1 rfl _ _ f 34 #[.int .i64 1, .int .i64 0] (0, 0) _ rfl (fault_end HBf_.out) Tryz.underlying34 rfl (by kernel_rfl)) rfl ?_
  exact ⟨by rw [HKv.out], below_setc (below_setc HB_.out hWf _) hWf _⟩
end Go.Proofs.YtehpinnmalpgpaaGreat
