/- Texts, merged by a program; only what is used. -/
import Derived.Deep.LoopGhost
import Derived.Test.YtcocilpifdjibaaK1
import Derived.Test.YtcocilpifdjibaaK2
import Derived.Test.YtcocilpifdjibaaK3
import Derived.Test.YtcocilpifdjibaaK4
import Derived.Test.YtcocilpifdjibaaK5
import Derived.Test.YtcocilpifdjibaaK6
import Derived.Test.YtcocilpifdjibaaK7
import Derived.Test.YtcocilpifdjibaaK8
import Derived.Test.YtcocilpifdjibaaK9
import Derived.Test.YtcocilpifdjibaaK12
namespace Go.Proofs.Ytcocilpifdjibaa
open Go.ChangeShapes Go.WideShapes Go.ChangeAt Go.RowKit Go.Deep
set_option linter.unusedVariables false
set_option linter.unusedSimpArgs false
def idxL {α : Type} (f : α → Bool) : List α → Nat → Int
 | [], _ => -1
 | x :: l, k => if f x = true then (k : Int) else idxL f l (k + 1)
theorem idxL_drop {α : Type} {f : α → Bool} {l : List α} {k : Nat} (h : k < l.length) : idxL f (l.drop k) k = if f l[k] = true then (k : Int) else idxL f (l.drop (k + 1)) (k + 1) := by
 rw [List.drop_eq_getElem_cons h, idxL]
theorem idxL_get {α : Type} (f : α → Bool) : ∀ (l : List α) (k : Nat), idxL f l k = -1 ∧ l.find? f = none ∨ ∃ j, ∃ h : j < l.length, idxL f l k = ((k + j : Nat) : Int) ∧ f l[j] = true ∧ l.find? f = some l[j]
 | [], k => .inl ⟨rfl, rfl⟩
 | x :: l, k => by
  rw [idxL, List.find?_cons]
  by_cases hf : f x = true
  ·rw [if_pos hf, hf]
   exact .inr ⟨0, by simp, rfl, by simpa using hf, rfl⟩
  ·rw [if_neg hf, Bool.eq_false_iff.2 hf]
   rcases idxL_get f l (k + 1) with ⟨h1, h2⟩ | ⟨j, hj, h1, h2, h3⟩
   ·exact .inl ⟨h1, h2⟩
   ·exact .inr ⟨j + 1, by simpa using hj, by rw [h1]; congr 1; omega, by simpa using h2, by simpa using h3⟩
def isT (s : ByteArray) : ByteArray → Bool := fun t => decide (s = t)
set_option maxHeartbeats 1000000 in
theorem Index_any {w W : World} {Q : Nat → Prop} {l : List ByteArray} {v : Value} (h : TextsI w Q l v) (hI : In Q w W) (s : ByteArray) :
  Calls Try.prog 101 #[v, .string s] W fun e w' => e = .returned (.int .i64 (idxL (isT s) l 0)) ∧ W = w' := by
 obtain ⟨A, cap, rfl, hl1, hl2⟩ := h.shape
 have H := Lib.hid h
 have HI := Lib.hid hI
 clear h hI
 go_enter Try.func101, Try.ntmps101
 go_wp2_with fail
 go_loopg [8] l.length (fun kk i wr => ∃ k : Nat, k + kk = l.length ∧ i = .int .i64 k ∧ Hid (idxL (isT s) (l.drop k) k = idxL (isT s) l 0) ∧ wr = W)
 case atStart => exact ⟨0, by omega, rfl, Lib.hid (by rw [List.drop_zero]), rfl⟩
 case round =>
  obtain ⟨k, hk, rfl, HW, rfl⟩ := hrel
  by_cases hlt : k < l.length
  ·obtain ⟨a, rfl, _, p1, hs⟩ := text_at H.out HI.out hlt
   have HD := Lib.hid (idxL_drop (f := isT s) hlt)
   rw [HW.out] at HD
   have hv : isT s l[k] = (s.toList == l[k].toList) := (dec_bytes s l[k]).symm
   generalize l[k] = t at p1 hs HD hv
   cases hb : isT s t with
   | true =>
    rw [hb, if_pos rfl] at HD
    have hv2 : (s.toList == t.toList) = true := by rw [← hv]; exact hb
    clear hv hb
    go_wp2_with fail
    go_ret
    exact ⟨ret_int HD.out.symm, rfl⟩
   | false =>
    rw [hb, if_neg (by simp)] at HD
    have hv2 : (s.toList == t.toList) = false := by rw [← hv]; exact hb
    clear hv hb
    go_wp2_with fail
    go_roundg (l.length - k - 1)
    case measure => omega
    case rel => exact ⟨k + 1, by omega, by go_num, Lib.hid HD.out.symm, rfl⟩
  ·have HD : Hid (idxL (isT s) l 0 = -1) := Lib.hid (by rw [← HW.out, List.drop_of_length_le (by omega), idxL])
   go_wp2_with fail
   go_ret
   exact ⟨ret_int HD.out.symm, rfl⟩
theorem idx_has (s : ByteArray) (l : List ByteArray) : decide (0 ≤ idxL (isT s) l 0) = l.any (isT s) := by
 rcases idxL_get (isT s) l 0 with ⟨h1, h2⟩ | ⟨j, hj, h1, h2, _⟩
 ·rw [h1]
  have : l.any (isT s) = false := by
   rw [List.any_eq_false]
   intro x hx
   have := List.find?_eq_none.1 h2 x hx
   simpa using this
  rw [this]; rfl
 ·rw [h1, List.any_eq_true.2 ⟨_, List.getElem_mem hj, h2⟩]
  simp
theorem Contains_any {w W : World} {Q : Nat → Prop} {l : List ByteArray} {v : Value} (h : TextsI w Q l v) (hI : In Q w W) (s : ByteArray) :
  Calls Try.prog 155 #[v, .string s] W fun e w' => e = .returned (.bool (l.any (isT s))) ∧ W = w' := by
 have HC := Lib.hid (Index_any h hI s)
 have HE := Lib.hid (idx_has s l)
 obtain ⟨A, cap, rfl, _⟩ := h.shape
 clear h hI
 generalize idxL (isT s) l 0 = z at HC HE
 go_enter Try.func155, Try.ntmps155
 go_wp2_with (go_at_call 101; refine HC.out.mono ?_; rintro e w' ⟨rfl, rfl⟩)
 go_ret
 exact ⟨ret_bool HE.out, rfl⟩
def isQ (s : ByteArray) : Pr → Bool := fun q => decide (q.nm = s)
def isPa (s : ByteArray) : Pa → Bool := fun q => decide (q.nm = s)
set_option maxHeartbeats 1000000 in
theorem IndexQ_any {w W : World} {Q : Nat → Prop} {l : List Pr} {v : Value} (h : SliceI w Q 5 (ProcI w Q) l v) (hI : In Q w W) (s : ByteArray) (b : Nat) (hb : W.cell? ⟨b, 0, none⟩ = some (.string s)) :
  Calls Try.prog 159 #[v, .func (.func 160) #[] #[.pointer (some ⟨b, 0, none⟩)]] W fun e w' => e = .returned (.int .i64 (idxL (isQ s) l 0)) ∧ Below W.heap.size W w' := by
 obtain ⟨A, cap, rfl, hl1, hl2⟩ := h.shape
 have H := Lib.hid h
 have HI := Lib.hid hI
 have HB := Lib.hid hb
 clear h hI hb
 go_enter Try.func159, Try.ntmps159
 go_wp2_with fail
 go_loopg [8] l.length (fun kk i wr => ∃ k : Nat, k + kk = l.length ∧ i = .int .i64 k ∧ Hid (idxL (isQ s) (l.drop k) k = idxL (isQ s) l 0) ∧ Hid (Below W.heap.size W wr))
 case atStart => exact ⟨0, by omega, rfl, Lib.hid (by rw [List.drop_zero]), Lib.hid (Below.refl _ _)⟩
 case round =>
  obtain ⟨k, hk, rfl, HW, HR⟩ := hrel
  by_cases hlt : k < l.length
  ·obtain ⟨a, Cp, kp, Cv, kv, Cb, kb, Ce, ke, rfl, _, ⟨p0, p1, p2, p3, p4, _⟩, _⟩ := proc_at H.out (HI.out.on HR.out) hlt
   have HD := Lib.hid (idxL_drop (f := isQ s) hlt)
   rw [HW.out] at HD
   have hv : isQ s l[k] = (l[k].nm.toList == s.toList) := (dec_bytes _ _).symm
   generalize l[k] = y at p0 p1 p2 p3 p4 HD hv
   obtain ⟨yn, yp, yv, yb, ye⟩ := y
   simp only at p0 p1 p2 p3 p4 hv
   have q0 : wr.cell? ⟨b, 0, none⟩ = some (.string s) := (HR.out.cell (p := ⟨b, 0, none⟩) (World.block_lt_of_cell? W _ HB.out)).trans HB.out
   have hbl := World.block_lt_of_cell? wr _ q0
   cases hb : isQ s ⟨yn, yp, yv, yb, ye⟩ with
   | true =>
    rw [hb, if_pos rfl] at HD
    have hv2 : (yn.toList == s.toList) = true := by rw [← hv]; exact hb
    clear hv hb
    go_wp2_with (go_at_call 160; go_in)
    go_ret
    exact ⟨ret_int HD.out.symm, below_step HR.out (below_box _)⟩
   | false =>
    rw [hb, if_neg (by simp)] at HD
    have hv2 : (yn.toList == s.toList) = false := by rw [← hv]; exact hb
    clear hv hb
    go_wp2_with (go_at_call 160; go_in)
    go_roundg (l.length - k - 1)
    case measure => omega
    case rel => exact ⟨k + 1, by omega, by go_num, Lib.hid HD.out.symm, Lib.hid (below_step HR.out (below_box _))⟩
  ·have HD : Hid (idxL (isQ s) l 0 = -1) := Lib.hid (by rw [← HW.out, List.drop_of_length_le (by omega), idxL])
   go_wp2_with fail
   go_ret
   exact ⟨ret_int HD.out.symm, HR.out⟩
set_option maxHeartbeats 1000000 in
theorem IndexPa_any {w W : World} {Q : Nat → Prop} {l : List Pa} {v : Value} (h : SliceI w Q 2 ParI l v) (hI : In Q w W) (s : ByteArray) (b : Nat) (hb : W.cell? ⟨b, 0, none⟩ = some (.string s)) :
  Calls Try.prog 192 #[v, .func (.func 193) #[] #[.pointer (some ⟨b, 0, none⟩)]] W fun e w' => e = .returned (.int .i64 (idxL (isPa s) l 0)) ∧ Below W.heap.size W w' := by
 obtain ⟨A, cap, rfl, hl1, hl2⟩ := h.shape
 have H := Lib.hid h
 have HI := Lib.hid hI
 have HB := Lib.hid hb
 clear h hI hb
 go_enter Try.func192, Try.ntmps192
 go_wp2_with fail
 go_loopg [8] l.length (fun kk i wr => ∃ k : Nat, k + kk = l.length ∧ i = .int .i64 k ∧ Hid (idxL (isPa s) (l.drop k) k = idxL (isPa s) l 0) ∧ Hid (Below W.heap.size W wr))
 case atStart => exact ⟨0, by omega, rfl, Lib.hid (by rw [List.drop_zero]), Lib.hid (Below.refl _ _)⟩
 case round =>
  obtain ⟨k, hk, rfl, HW, HR⟩ := hrel
  by_cases hlt : k < l.length
  ·obtain ⟨a, rfl, _, ⟨p0, p1, _⟩, hs⟩ := par_at H.out (HI.out.on HR.out) hlt
   have HD := Lib.hid (idxL_drop (f := isPa s) hlt)
   rw [HW.out] at HD
   have hv : isPa s l[k] = (l[k].nm.toList == s.toList) := (dec_bytes _ _).symm
   generalize l[k] = y at p0 p1 hs HD hv
   obtain ⟨yn, yr⟩ := y
   simp only at p0 p1 hs hv
   have q0 : wr.cell? ⟨b, 0, none⟩ = some (.string s) := (HR.out.cell (p := ⟨b, 0, none⟩) (World.block_lt_of_cell? W _ HB.out)).trans HB.out
   have hbl := World.block_lt_of_cell? wr _ q0
   cases hb : isPa s ⟨yn, yr⟩ with
   | true =>
    rw [hb, if_pos rfl] at HD
    have hv2 : (yn.toList == s.toList) = true := by rw [← hv]; exact hb
    clear hv hb
    go_wp2_with (go_at_call 193; go_in)
    go_ret
    exact ⟨ret_int HD.out.symm, below_step HR.out (below_box _)⟩
   | false =>
    rw [hb, if_neg (by simp)] at HD
    have hv2 : (yn.toList == s.toList) = false := by rw [← hv]; exact hb
    clear hv hb
    go_wp2_with (go_at_call 193; go_in)
    go_roundg (l.length - k - 1)
    case measure => omega
    case rel => exact ⟨k + 1, by omega, by go_num, Lib.hid HD.out.symm, Lib.hid (below_step HR.out (below_box _))⟩
  ·have HD : Hid (idxL (isPa s) l 0 = -1) := Lib.hid (by rw [← HW.out, List.drop_of_length_le (by omega), idxL])
   go_wp2_with fail
   go_ret
   exact ⟨ret_int HD.out.symm, HR.out⟩
def fndP (p : Pg) (s : ByteArray) : Int := if mayP p = true then idxL (isQ s) p.procs 0 else -1
theorem find_any {w : World} {Q : Nat → Prop} {p : Pg} {c0 c1 : Value} (h : ProgI w Q p [c0, c1]) (s : ByteArray) (W : World) (hI : In Q w W) :
  Calls Try.prog 107 #[.agg #[c0, c1], .string s] W fun e w' => e = .returned (.int .i64 (fndP p s)) ∧ Below W.heap.size W w' := by
 have HM := Lib.hid (fun V hV => May_any h V hV)
 obtain ⟨Ag, cg, Ap, cp, rfl, rfl, _, _, _, _, _, hpr⟩ := prog_open h
 have HX := Lib.hid (fun V hV b hb => IndexQ_any (W := V) hpr hV s b hb)
 have HI := Lib.hid hI
 have HF : Hid (fndP p s = if mayP p = true then idxL (isQ s) p.procs 0 else -1) := Lib.hid rfl
 clear h hI hpr
 generalize idxL (isQ s) p.procs 0 = z at HX HF
 go_enter Try.func107, Try.ntmps107
 go_upto_region 1 with fail
 have HBp : Hid (Blk ((W.alloc (.cells #[.slice Ag p.globals.length cg, .slice Ap p.procs.length cp] 25)).alloc (.cells #[.string s] 9)) W.heap.size 25 #[.slice Ag p.globals.length cg, .slice Ap p.procs.length cp]) := Lib.hid ((Blk.new _ _ _).alloc _)
 have HBr : Hid (Blk ((W.alloc (.cells #[.slice Ag p.globals.length cg, .slice Ap p.procs.length cp] 25)).alloc (.cells #[.string s] 9)) (W.heap.size + 1) 9 #[.string s]) := Lib.hid (by have := Blk.new (W.alloc (.cells #[.slice Ag p.globals.length cg, .slice Ap p.procs.length cp] 25)) 9 #[.string s]; rw [World.size_alloc] at this; exact this)
 have HB0 : Hid (Below W.heap.size W ((W.alloc (.cells #[.slice Ag p.globals.length cg, .slice Ap p.procs.length cp] 25)).alloc (.cells #[.string s] 9))) := Lib.hid (below_stepA (below_box _) _)
 generalize World.alloc _ _ = V at HBp HBr HB0 ⊢
 have q0 : V.cell? ⟨W.heap.size, 0, none⟩ = some (.slice Ag p.globals.length cg) := by rw [HBp.out.cell]; rfl
 have q1 : V.cell? ⟨W.heap.size, 1, none⟩ = some (.slice Ap p.procs.length cp) := by rw [HBp.out.cell]; rfl
 have hbl := HBp.out.lt
 have hbr := HBr.out.lt
 cases hm : mayP p with
 | false =>
  rw [hm] at HM HF
  clear hm
  go_wp2_with (go_at_call 17; refine (HM.out V (HI.out.on HB0.out)).mono ?_; rintro e w1 ⟨rfl, hb1⟩)
  go_ret
  exact ⟨ret_int (by rw [HF.out]; rfl), below_step HB0.out hb1⟩
 | true =>
  rw [hm] at HM HF
  clear hm
  go_wp2_with (first
   | (go_at_call 17; refine (HM.out V (HI.out.on HB0.out)).mono ?_; rintro e w1 ⟨rfl, hb1⟩; have HI1 := Lib.hid ((HI.out.on HB0.out).on hb1); have q0' : w1.cell? ⟨W.heap.size, 0, none⟩ = some (.slice Ag p.globals.length cg) := (hb1.cell (p := ⟨W.heap.size, 0, none⟩) hbl).trans q0; have q1' : w1.cell? ⟨W.heap.size, 1, none⟩ = some (.slice Ap p.procs.length cp) := (hb1.cell (p := ⟨W.heap.size, 1, none⟩) hbl).trans q1; have r0' : w1.cell? ⟨W.heap.size + 1, 0, none⟩ = some (.string s) := (by rw [(HBr.out.below hb1 hbr).cell]; rfl))
   | (go_at_call 159; refine (HX.out w1 HI1.out _ r0').mono ?_; rintro e w2 ⟨rfl, hb2⟩))
  go_ret
  exact ⟨ret_int (by rw [HF.out]; rfl), below_step (below_step HB0.out hb1) hb2⟩
def knd (gl : List ByteArray) (q : Pr) (s : ByteArray) : Int := (q.params.find? (isPa s)).elim (if q.vars.any (isT s) = true then 4 else if gl.any (isT s) = true then 1 else 0) (fun x => if x.ref = true then 3 else 2)
set_option maxHeartbeats 2000000 in
theorem kindIn_any {w : World} {Q : Nat → Prop} {gl : List ByteArray} {vg : Value} {q : Pr} {c0 c1 c2 c3 c4 : Value} (hg : TextsI w Q gl vg) (h : ProcI w Q q [c0, c1, c2, c3, c4]) (s : ByteArray) (W : World) (hI : In Q w W) :
  Calls Try.prog 154 #[vg, .agg #[c0, c1, c2, c3, c4], .string s] W fun e w' => e = .returned (.int .i64 (knd gl q s)) ∧ Below W.heap.size W w' := by
 obtain ⟨vp, vv, vb, ve, hc, hnm, hpp, hvv, hbb, hee⟩ := h
 simp only [List.cons.injEq, and_true] at hc
 obtain ⟨rfl, rfl, rfl, rfl, rfl⟩ := hc
 obtain ⟨Ap, cp, rfl, _, _⟩ := hpp.shape
 obtain ⟨Av, cv, rfl, _, _⟩ := hvv.shape
 obtain ⟨Ab, cb, rfl, _⟩ := hbb.shape
 obtain ⟨Ae, ce, rfl, _⟩ := hee.shape
 obtain ⟨Ag, cg, rfl, _⟩ := hg.shape
 have HG := Lib.hid (fun V hV => Contains_any (W := V) hg hV s)
 have HV := Lib.hid (fun V hV => Contains_any (W := V) hvv hV s)
 have HX := Lib.hid (fun V hV b hb => IndexPa_any (W := V) hpp hV s b hb)
 have HPp := Lib.hid hpp
 have HI := Lib.hid hI
 have HK : Hid (knd gl q s = (q.params.find? (isPa s)).elim (if q.vars.any (isT s) = true then 4 else if gl.any (isT s) = true then 1 else 0) (fun x => if x.ref = true then 3 else 2)) := Lib.hid rfl
 have hfd := idxL_get (isPa s) q.params 0
 clear hg hpp hvv hbb hee hI
 generalize idxL (isPa s) q.params 0 = z at HX hfd
 go_enter Try.func154, Try.ntmps154
 go_upto_region 1 with fail
 have HBp : Hid (Blk ((W.alloc (.cells #[.string q.nm, .slice Ap q.params.length cp, .slice Av q.vars.length cv, .slice Ab q.body.length cb, .slice Ae q.end_.length ce] 59)).alloc (.cells #[.string s] 9)) W.heap.size 59 #[.string q.nm, .slice Ap q.params.length cp, .slice Av q.vars.length cv, .slice Ab q.body.length cb, .slice Ae q.end_.length ce]) := Lib.hid ((Blk.new _ _ _).alloc _)
 have HBr : Hid (Blk ((W.alloc (.cells #[.string q.nm, .slice Ap q.params.length cp, .slice Av q.vars.length cv, .slice Ab q.body.length cb, .slice Ae q.end_.length ce] 59)).alloc (.cells #[.string s] 9)) (W.heap.size + 1) 9 #[.string s]) := Lib.hid (by have := Blk.new (W.alloc (.cells #[.string q.nm, .slice Ap q.params.length cp, .slice Av q.vars.length cv, .slice Ab q.body.length cb, .slice Ae q.end_.length ce] 59)) 9 #[.string s]; rw [World.size_alloc] at this; exact this)
 have HB0 : Hid (Below W.heap.size W ((W.alloc (.cells #[.string q.nm, .slice Ap q.params.length cp, .slice Av q.vars.length cv, .slice Ab q.body.length cb, .slice Ae q.end_.length ce] 59)).alloc (.cells #[.string s] 9))) := Lib.hid (below_stepA (below_box _) _)
 generalize World.alloc _ _ = V at HBp HBr HB0 ⊢
 have q1 : V.cell? ⟨W.heap.size, 1, none⟩ = some (.slice Ap q.params.length cp) := by rw [HBp.out.cell]; rfl
 have r0 : V.cell? ⟨W.heap.size + 1, 0, none⟩ = some (.string s) := by rw [HBr.out.cell]; rfl
 have hbl := HBp.out.lt
 have hbr := HBr.out.lt
 have HI0 := Lib.hid (HI.out.on HB0.out)
 go_upto_region 2 with (go_at_call 192; refine (HX.out V HI0.out _ r0).mono ?_; rintro e w1 ⟨rfl, hb1⟩)
 have HI1 := Lib.hid (HI0.out.on hb1)
 have HBp1 := Lib.hid (HBp.out.below hb1 hbl)
 have HBr1 := Lib.hid (HBr.out.below hb1 hbr)
 have HB1 := Lib.hid (below_step HB0.out hb1)
 clear q1 r0 hbl hbr hb1 HBp HBr HB0 HI0 HX
 have q1 : w1.cell? ⟨W.heap.size, 1, none⟩ = some (.slice Ap q.params.length cp) := by rw [HBp1.out.cell]; rfl
 have q2 : w1.cell? ⟨W.heap.size, 2, none⟩ = some (.slice Av q.vars.length cv) := by rw [HBp1.out.cell]; rfl
 have r0 : w1.cell? ⟨W.heap.size + 1, 0, none⟩ = some (.string s) := by rw [HBr1.out.cell]; rfl
 have hbl := HBp1.out.lt
 have hbr := HBr1.out.lt
 rcases hfd with ⟨rfl, hf⟩ | ⟨j, hj, rfl, _, hf⟩
 ·rw [hf, Option.elim_none] at HK
  clear hf
  generalize q.vars.any (isT s) = b1 at HV HK
  generalize gl.any (isT s) = b2 at HG HK
  cases b1
  ·cases b2
   ·go_wp2_with (first
     | (go_at_call 155; (with_reducible refine (HV.out w1 HI1.out).mono ?_); rintro e w' ⟨rfl, rfl⟩)
     | (go_at_call 155; (with_reducible refine (HG.out w1 HI1.out).mono ?_); rintro e w' ⟨rfl, rfl⟩))
    go_ret
    exact ⟨ret_int (by rw [HK.out]; rfl), HB1.out⟩
   ·go_wp2_with (first
     | (go_at_call 155; (with_reducible refine (HV.out w1 HI1.out).mono ?_); rintro e w' ⟨rfl, rfl⟩)
     | (go_at_call 155; (with_reducible refine (HG.out w1 HI1.out).mono ?_); rintro e w' ⟨rfl, rfl⟩))
    go_ret
    exact ⟨ret_int (by rw [HK.out]; rfl), HB1.out⟩
  ·go_wp2_with (go_at_call 155; (with_reducible refine (HV.out w1 HI1.out).mono ?_); rintro e w' ⟨rfl, rfl⟩)
   go_ret
   exact ⟨ret_int (by rw [HK.out]; rfl), HB1.out⟩
 ·rw [hf, Option.elim_some] at HK
  obtain ⟨a, rfl, _, ⟨p0, p1, _⟩, _⟩ := par_at HPp.out HI1.out hj
  rw [Nat.zero_add]
  cases hr : q.params[j].ref with
  | true =>
   rw [hr] at p1 HK
   clear hr hf
   go_wp2_with fail
   go_ret
   exact ⟨ret_int (by rw [HK.out]; rfl), HB1.out⟩
  | false =>
   rw [hr] at p1 HK
   clear hr hf
   go_wp2_with fail
   go_ret
   exact ⟨ret_int (by rw [HK.out]; rfl), HB1.out⟩
def kindP (p : Pg) (proc s : ByteArray) : Int := if mayP p = true then (p.procs.find? (isQ proc)).elim 0 (fun q => knd p.globals q s) else 0
set_option maxHeartbeats 2000000 in
theorem Kind_any {w : World} {Q : Nat → Prop} {p : Pg} {c0 c1 : Value} (h : ProgI w Q p [c0, c1]) (proc s : ByteArray) (W : World) (hI : In Q w W) :
  Calls Try.prog 100 #[.agg #[c0, c1], .string proc, .string s] W fun e w' => e = .returned (.int .i64 (kindP p proc s)) ∧ Below W.heap.size W w' := by
 have HF := Lib.hid (fun V hV => find_any h proc V hV)
 obtain ⟨Ag, cg, Ap, cp, rfl, rfl, _, _, _, _, hgl, hpr⟩ := prog_open h
 have HP := Lib.hid hpr
 have HGl := Lib.hid hgl
 have HI := Lib.hid hI
 have HK : Hid (kindP p proc s = if mayP p = true then (p.procs.find? (isQ proc)).elim 0 (fun q => knd p.globals q s) else 0) := Lib.hid rfl
 have hfd : (fndP p proc = -1 ∧ kindP p proc s = 0) ∨ ∃ j, ∃ hj : j < p.procs.length, fndP p proc = ((j : Nat) : Int) ∧ kindP p proc s = knd p.globals p.procs[j] s := by
  rw [HK.out]
  unfold fndP
  by_cases hm : mayP p = true
  ·rw [if_pos hm, if_pos hm]
   rcases idxL_get (isQ proc) p.procs 0 with ⟨h1, h2⟩ | ⟨j, hj, h1, _, h3⟩
   ·exact .inl ⟨h1, by rw [h2]; rfl⟩
   ·exact .inr ⟨j, hj, by rw [h1, Nat.zero_add], by rw [h3]; rfl⟩
  ·rw [if_neg hm, if_neg hm]
   exact .inl ⟨rfl, rfl⟩
 clear h hI hpr hgl HK
 generalize fndP p proc = z at HF hfd
 go_enter Try.func100, Try.ntmps100
 go_upto_region 1 with fail
 have HB0 : Hid (Below W.heap.size W (W.alloc (.cells #[.slice Ag p.globals.length cg, .slice Ap p.procs.length cp] 25))) := Lib.hid (below_box _)
 have HBp : Hid (Blk (W.alloc (.cells #[.slice Ag p.globals.length cg, .slice Ap p.procs.length cp] 25)) W.heap.size 25 #[.slice Ag p.globals.length cg, .slice Ap p.procs.length cp]) := Lib.hid (Blk.new _ _ _)
 generalize World.alloc _ _ = V at HB0 HBp ⊢
 generalize hbe : W.heap.size = b at HBp ⊢
 clear hbe
 have HI0 := Lib.hid (HI.out.on HB0.out)
 have q0 : V.cell? ⟨b, 0, none⟩ = some (.slice Ag p.globals.length cg) := by rw [HBp.out.cell]; rfl
 have q1 : V.cell? ⟨b, 1, none⟩ = some (.slice Ap p.procs.length cp) := by rw [HBp.out.cell]; rfl
 have hbl := HBp.out.lt
 go_upto_region 2 with (go_at_call 107; refine (HF.out V HI0.out).mono ?_; rintro e w1 ⟨rfl, hb1⟩)
 have HB1 := Lib.hid (below_step HB0.out hb1)
 have HI1 := Lib.hid (HI0.out.on hb1)
 have HBp1 := Lib.hid (HBp.out.below hb1 hbl)
 clear q0 q1 hbl hb1 HB0 HBp HI0 HF
 rcases hfd with ⟨rfl, hk⟩ | ⟨j, hj, rfl, hk⟩
 ·have HK0 := Lib.hid hk
  clear hk
  go_wp2_with fail
  go_ret
  exact ⟨by rw [HK0.out]; rfl, HB1.out⟩
 ·obtain ⟨a, Bp, kp, Bv, kv, Bb, kb, Be, ke, rfl, hqa, hrow, hnm, hpp, hvv, hbody, hee⟩ := proc_at HP.out HI1.out hj
  have HPI : Hid (ProcI w Q p.procs[j] [.string p.procs[j].nm, .slice Bp p.procs[j].params.length kp, .slice Bv p.procs[j].vars.length kv, .slice Bb p.procs[j].body.length kb, .slice Be p.procs[j].end_.length ke]) := Lib.hid ⟨_, _, _, _, rfl, hnm, hpp, hvv, hbody, hee⟩
  have HC := Lib.hid (fun V hV => kindIn_any HGl.out HPI.out s V hV)
  have HK0 := Lib.hid hk
  generalize knd p.globals p.procs[j] s = z at HC HK0
  generalize p.procs[j].nm = x0 at hrow HC
  generalize p.procs[j].params.length = x1 at hrow HC
  generalize p.procs[j].vars.length = x2 at hrow HC
  generalize p.procs[j].body.length = x3 at hrow HC
  generalize p.procs[j].end_.length = x4 at hrow HC
  obtain ⟨p0, p1, p2, p3, p4, _⟩ := hrow
  clear HPI hk hnm hpp hvv hbody hee
  have q0 : w1.cell? ⟨b, 0, none⟩ = some (.slice Ag p.globals.length cg) := by rw [HBp1.out.cell]; rfl
  have q1 : w1.cell? ⟨b, 1, none⟩ = some (.slice (some a) p.procs.length cp) := by rw [HBp1.out.cell]; rfl
  have hbl := HBp1.out.lt
  have HQa : Hid (Q (a.add (j * 5)).block) := Lib.hid (by have hba : (a.add (j * 5)).block = a.block := (by unfold Addr.add; split <;> rfl); rw [hba]; exact hqa)
  clear hqa
  have hdr : ∀ V : World, In Q w V → In Q w V.drew := fun V h => h
  have hBD : Below w1.heap.size w1 w1.drew := (Below.refl _ _).drew
  go_upto_region 4 with fail
  go_region_held3 (fun w' => w'.cell? ⟨b, 0, none⟩ = some (.slice Ag p.globals.length cg) ∧ w'.cell? ⟨b, 1, none⟩ = some (.slice (some a) p.procs.length cp) ∧ w'.cell? (a.add (j * 5)) = some (.string x0) ∧ w'.cell? ⟨(a.add (j * 5)).block, (a.add (j * 5)).off + 1, none⟩ = some (.slice Bp x1 kp) ∧ w'.cell? ⟨(a.add (j * 5)).block, (a.add (j * 5)).off + 2, none⟩ = some (.slice Bv x2 kv) ∧ w'.cell? ⟨(a.add (j * 5)).block, (a.add (j * 5)).off + 3, none⟩ = some (.slice Bb x3 kb) ∧ w'.cell? ⟨(a.add (j * 5)).block, (a.add (j * 5)).off + 4, none⟩ = some (.slice Be x4 ke))
   (go_keep)
   ((go_at_call 154; refine (HC.out _ (hdr _ HI1.out)).mono ?_; rintro e' w2 ⟨rfl, hb2⟩; have hb2' := hBD.trans hb2; have HI2 := Lib.hid (HI1.out.on hb2'); have k0 := (hb2'.cell (p := ⟨b, 0, none⟩) hbl).trans q0; have k1 := (hb2'.cell (p := ⟨b, 1, none⟩) hbl).trans q1; have r0 := (HI2.out.cell (p := a.add (j * 5)) HQa.out).trans ((HI1.out.cell (p := a.add (j * 5)) HQa.out).symm.trans p0); have r1 := (HI2.out.cell (p := ⟨(a.add (j * 5)).block, (a.add (j * 5)).off + 1, none⟩) HQa.out).trans ((HI1.out.cell (p := ⟨(a.add (j * 5)).block, (a.add (j * 5)).off + 1, none⟩) HQa.out).symm.trans p1); have r2 := (HI2.out.cell (p := ⟨(a.add (j * 5)).block, (a.add (j * 5)).off + 2, none⟩) HQa.out).trans ((HI1.out.cell (p := ⟨(a.add (j * 5)).block, (a.add (j * 5)).off + 2, none⟩) HQa.out).symm.trans p2); have r3 := (HI2.out.cell (p := ⟨(a.add (j * 5)).block, (a.add (j * 5)).off + 3, none⟩) HQa.out).trans ((HI1.out.cell (p := ⟨(a.add (j * 5)).block, (a.add (j * 5)).off + 3, none⟩) HQa.out).symm.trans p3); have r4 := (HI2.out.cell (p := ⟨(a.add (j * 5)).block, (a.add (j * 5)).off + 4, none⟩) HQa.out).trans ((HI1.out.cell (p := ⟨(a.add (j * 5)).block, (a.add (j * 5)).off + 4, none⟩) HQa.out).symm.trans p4)))
  go_wp2_with fail
  go_ret
  exact ⟨by rw [HK0.out]; rfl, below_step HB1.out hb2'⟩
end Go.Proofs.Ytcocilpifdjibaa
