/- Texts, merged by a program; only what is used. -/
import Derived.Deep.LoopGhost
import Derived.Test.YtimejkbmfbjomaaGreatK1
import Derived.Test.YtimejkbmfbjomaaGreatK2
import Derived.Test.YtimejkbmfbjomaaGreatK3
import Derived.Test.YtimejkbmfbjomaaGreatK4
import Derived.Test.YtimejkbmfbjomaaGreatK5
import Derived.Test.YtimejkbmfbjomaaGreatK6
import Derived.Test.YtimejkbmfbjomaaGreatK7
import Derived.Test.YtimejkbmfbjomaaGreatK8
namespace Go.Proofs.YtimejkbmfbjomaaGreat
open Go.ChangeShapes Go.WideShapes Go.ChangeAt Go.RowKit Go.Deep
set_option linter.unusedVariables false
set_option linter.unusedSimpArgs false
def idxL {α : Type} (f : α → Bool) : List α → Nat → Int
 | [], _ => -1
 | x :: l, k => if f x = true then (k : Int) else idxL f l (k + 1)
theorem idxL_drop {α : Type} {f : α → Bool} {l : List α} {k : Nat} (h : k < l.length) : idxL f (l.drop k) k = if f l[k] = true then (k : Int) else idxL f (l.drop (k + 1)) (k + 1) := by
 rw [List.drop_eq_getElem_cons h, idxL]
theorem idxL_get {α : Type} (f : α → Bool) : ∀ (l : List α) (k : Nat), idxL f l k = -1 ∧ l.find? f = none ∨ ∃ j, ∃ h : j < l.length, idxL f l k = ((k + j : Nat) : Int) ∧ f l[j] = true ∧ l.find? f = some l[j]
 | [], k => .inl ⟨rfl, rfl⟩
 | x :: l, k => by
  rw [idxL, List.find?_cons]
  by_cases hf : f x = true
  ·rw [if_pos hf, hf]
   exact .inr ⟨0, by simp, rfl, by simpa using hf, rfl⟩
  ·rw [if_neg hf, Bool.eq_false_iff.2 hf]
   rcases idxL_get f l (k + 1) with ⟨h1, h2⟩ | ⟨j, hj, h1, h2, h3⟩
   ·exact .inl ⟨h1, h2⟩
   ·exact .inr ⟨j + 1, by simpa using hj, by rw [h1]; congr 1; omega, by simpa using h2, by simpa using h3⟩
def isT (s : ByteArray) : ByteArray → Bool := fun t => decide (s = t)
set_option maxHeartbeats 1000000 in
theorem Index_any {w W : World} {Q : Nat → Prop} {l : List ByteArray} {v : Value} (h : TextsI w Q l v) (hI : In Q w W) (s : ByteArray) :
  Calls Tryz.prog 52 #[v, .string s] W fun e w' => e = .returned (.int .i64 (idxL (isT s) l 0)) ∧ W = w' := by
 obtain ⟨A, cap, rfl, hl1, hl2⟩ := h.shape
 have H := Lib.hid h
 have HI := Lib.hid hI
 clear h hI
 go_enter Tryz.func52, Tryz.ntmps52
 go_wp2_with fail
 go_loopg [8] l.length (fun kk i wr => ∃ k : Nat, k + kk = l.length ∧ i = .int .i64 k ∧ Hid (idxL (isT s) (l.drop k) k = idxL (isT s) l 0) ∧ wr = W)
 case atStart => exact ⟨0, by omega, rfl, Lib.hid (by rw [List.drop_zero]), rfl⟩
 case round =>
  obtain ⟨k, hk, rfl, HW, rfl⟩ := hrel
  by_cases hlt : k < l.length
  ·obtain ⟨a, rfl, _, p1, hs⟩ := text_at H.out HI.out hlt
   have HD := Lib.hid (idxL_drop (f := isT s) hlt)
   rw [HW.out] at HD
   have hv : isT s l[k] = (s.toList == l[k].toList) := (dec_bytes s l[k]).symm
   generalize l[k] = t at p1 hs HD hv
   cases hb : isT s t with
   | true =>
    rw [hb, if_pos rfl] at HD
    have hv2 : (s.toList == t.toList) = true := by rw [← hv]; exact hb
    clear hv hb
    go_wp2_with fail
    go_ret
    exact ⟨ret_int HD.out.symm, rfl⟩
   | false =>
    rw [hb, if_neg (by simp)] at HD
    have hv2 : (s.toList == t.toList) = false := by rw [← hv]; exact hb
    clear hv hb
    go_wp2_with fail
    go_roundg (l.length - k - 1)
    case measure => omega
    case rel => exact ⟨k + 1, by omega, by go_num, Lib.hid HD.out.symm, rfl⟩
  ·have HD : Hid (idxL (isT s) l 0 = -1) := Lib.hid (by rw [← HW.out, List.drop_of_length_le (by omega), idxL])
   go_wp2_with fail
   go_ret
   exact ⟨ret_int HD.out.symm, rfl⟩
theorem idx_has (s : ByteArray) (l : List ByteArray) : decide (0 ≤ idxL (isT s) l 0) = l.any (isT s) := by
 rcases idxL_get (isT s) l 0 with ⟨h1, h2⟩ | ⟨j, hj, h1, h2, _⟩
 ·rw [h1]
  have : l.any (isT s) = false := by
   rw [List.any_eq_false]
   intro x hx
   have := List.find?_eq_none.1 h2 x hx
   simpa using this
  rw [this]; rfl
 ·rw [h1, List.any_eq_true.2 ⟨_, List.getElem_mem hj, h2⟩]
  simp
theorem Contains_any {w W : World} {Q : Nat → Prop} {l : List ByteArray} {v : Value} (h : TextsI w Q l v) (hI : In Q w W) (s : ByteArray) :
  Calls Tryz.prog 94 #[v, .string s] W fun e w' => e = .returned (.bool (l.any (isT s))) ∧ W = w' := by
 have HC := Lib.hid (Index_any h hI s)
 have HE := Lib.hid (idx_has s l)
 obtain ⟨A, cap, rfl, _⟩ := h.shape
 clear h hI
 generalize idxL (isT s) l 0 = z at HC HE
 go_enter Tryz.func94, Tryz.ntmps94
 go_wp2_with (go_at_call 52; refine HC.out.mono ?_; rintro e w' ⟨rfl, rfl⟩)
 go_ret
 exact ⟨ret_bool HE.out, rfl⟩
def isQ (s : ByteArray) : Pr → Bool := fun q => decide (q.nm = s)
def isPa (s : ByteArray) : Pa → Bool := fun q => decide (q.nm = s)
set_option maxHeartbeats 1000000 in
theorem IndexQ_any {w W : World} {Q : Nat → Prop} {l : List Pr} {v : Value} (h : SliceI w Q 5 (ProcI w Q) l v) (hI : In Q w W) (s : ByteArray) (b : Nat) (hb : W.cell? ⟨b, 0, none⟩ = some (.string s)) :
  Calls Tryz.prog 80 #[v, .func (.func 96) #[] #[.pointer (some ⟨b, 0, none⟩)]] W fun e w' => e = .returned (.int .i64 (idxL (isQ s) l 0)) ∧ Below W.heap.size W w' := by
 obtain ⟨A, cap, rfl, hl1, hl2⟩ := h.shape
 have H := Lib.hid h
 have HI := Lib.hid hI
 have HB := Lib.hid hb
 clear h hI hb
 go_enter Tryz.func80, Tryz.ntmps80
 go_wp2_with fail
 go_loopg [8] l.length (fun kk i wr => ∃ k : Nat, k + kk = l.length ∧ i = .int .i64 k ∧ Hid (idxL (isQ s) (l.drop k) k = idxL (isQ s) l 0) ∧ Hid (Below W.heap.size W wr))
 case atStart => exact ⟨0, by omega, rfl, Lib.hid (by rw [List.drop_zero]), Lib.hid (Below.refl _ _)⟩
 case round =>
  obtain ⟨k, hk, rfl, HW, HR⟩ := hrel
  by_cases hlt : k < l.length
  ·obtain ⟨a, Cp, kp, Cv, kv, Cb, kb, Ce, ke, rfl, _, ⟨p0, p1, p2, p3, p4, _⟩, _⟩ := proc_at H.out (HI.out.on HR.out) hlt
   have HD := Lib.hid (idxL_drop (f := isQ s) hlt)
   rw [HW.out] at HD
   have hv : isQ s l[k] = (l[k].nm.toList == s.toList) := (dec_bytes _ _).symm
   generalize l[k] = y at p0 p1 p2 p3 p4 HD hv
   obtain ⟨yn, yp, yv, yb, ye⟩ := y
   simp only at p0 p1 p2 p3 p4 hv
   have q0 : wr.cell? ⟨b, 0, none⟩ = some (.string s) := (HR.out.cell (p := ⟨b, 0, none⟩) (World.block_lt_of_cell? W _ HB.out)).trans HB.out
   have hbl := World.block_lt_of_cell? wr _ q0
   cases hb : isQ s ⟨yn, yp, yv, yb, ye⟩ with
   | true =>
    rw [hb, if_pos rfl] at HD
    have hv2 : (yn.toList == s.toList) = true := by rw [← hv]; exact hb
    clear hv hb
    go_wp2_with (go_at_call 96; go_in)
    go_ret
    exact ⟨ret_int HD.out.symm, below_step HR.out (below_box _)⟩
   | false =>
    rw [hb, if_neg (by simp)] at HD
    have hv2 : (yn.toList == s.toList) = false := by rw [← hv]; exact hb
    clear hv hb
    go_wp2_with (go_at_call 96; go_in)
    go_roundg (l.length - k - 1)
    case measure => omega
    case rel => exact ⟨k + 1, by omega, by go_num, Lib.hid HD.out.symm, Lib.hid (below_step HR.out (below_box _))⟩
  ·have HD : Hid (idxL (isQ s) l 0 = -1) := Lib.hid (by rw [← HW.out, List.drop_of_length_le (by omega), idxL])
   go_wp2_with fail
   go_ret
   exact ⟨ret_int HD.out.symm, HR.out⟩
set_option maxHeartbeats 1000000 in
theorem IndexPa_any {w W : World} {Q : Nat → Prop} {l : List Pa} {v : Value} (h : SliceI w Q 2 ParI l v) (hI : In Q w W) (s : ByteArray) (b : Nat) (hb : W.cell? ⟨b, 0, none⟩ = some (.string s)) :
  Calls Tryz.prog 159 #[v, .func (.func 160) #[] #[.pointer (some ⟨b, 0, none⟩)]] W fun e w' => e = .returned (.int .i64 (idxL (isPa s) l 0)) ∧ Below W.heap.size W w' := by
 obtain ⟨A, cap, rfl, hl1, hl2⟩ := h.shape
 have H := Lib.hid h
 have HI := Lib.hid hI
 have HB := Lib.hid hb
 clear h hI hb
 go_enter Tryz.func159, Tryz.ntmps159
 go_wp2_with fail
 go_loopg [8] l.length (fun kk i wr => ∃ k : Nat, k + kk = l.length ∧ i = .int .i64 k ∧ Hid (idxL (isPa s) (l.drop k) k = idxL (isPa s) l 0) ∧ Hid (Below W.heap.size W wr))
 case atStart => exact ⟨0, by omega, rfl, Lib.hid (by rw [List.drop_zero]), Lib.hid (Below.refl _ _)⟩
 case round =>
  obtain ⟨k, hk, rfl, HW, HR⟩ := hrel
  by_cases hlt : k < l.length
  ·obtain ⟨a, rfl, _, ⟨p0, p1, _⟩, hs⟩ := par_at H.out (HI.out.on HR.out) hlt
   have HD := Lib.hid (idxL_drop (f := isPa s) hlt)
   rw [HW.out] at HD
   have hv : isPa s l[k] = (l[k].nm.toList == s.toList) := (dec_bytes _ _).symm
   generalize l[k] = y at p0 p1 hs HD hv
   obtain ⟨yn, yr⟩ := y
   simp only at p0 p1 hs hv
   have q0 : wr.cell? ⟨b, 0, none⟩ = some (.string s) := (HR.out.cell (p := ⟨b, 0, none⟩) (World.block_lt_of_cell? W _ HB.out)).trans HB.out
   have hbl := World.block_lt_of_cell? wr _ q0
   cases hb : isPa s ⟨yn, yr⟩ with
   | true =>
    rw [hb, if_pos rfl] at HD
    have hv2 : (yn.toList == s.toList) = true := by rw [← hv]; exact hb
    clear hv hb
    go_wp2_with (go_at_call 160; go_in)
    go_ret
    exact ⟨ret_int HD.out.symm, below_step HR.out (below_box _)⟩
   | false =>
    rw [hb, if_neg (by simp)] at HD
    have hv2 : (yn.toList == s.toList) = false := by rw [← hv]; exact hb
    clear hv hb
    go_wp2_with (go_at_call 160; go_in)
    go_roundg (l.length - k - 1)
    case measure => omega
    case rel => exact ⟨k + 1, by omega, by go_num, Lib.hid HD.out.symm, Lib.hid (below_step HR.out (below_box _))⟩
  ·have HD : Hid (idxL (isPa s) l 0 = -1) := Lib.hid (by rw [← HW.out, List.drop_of_length_le (by omega), idxL])
   go_wp2_with fail
   go_ret
   exact ⟨ret_int HD.out.symm, HR.out⟩
def fndP (p : Pg) (s : ByteArray) : Int := if mayP p = true then idxL (isQ s) p.procs 0 else -1
theorem find_any {w : World} {Q : Nat → Prop} {p : Pg} {c0 c1 : Value} (h : ProgI w Q p [c0, c1]) (s : ByteArray) (W : World) (hI : In Q w W) :
  Calls Tryz.prog 56 #[.agg #[c0, c1], .string s] W fun e w' => e = .returned (.int .i64 (fndP p s)) ∧ Below W.heap.size W w' := by
 have HM := Lib.hid (fun V hV => May_any h V hV)
 obtain ⟨Ag, cg, Ap, cp, rfl, rfl, _, _, _, _, _, hpr⟩ := prog_open h
 have HX := Lib.hid (fun V hV b hb => IndexQ_any (W := V) hpr hV s b hb)
 have HI := Lib.hid hI
 have HF : Hid (fndP p s = if mayP p = true then idxL (isQ s) p.procs 0 else -1) := Lib.hid rfl
 clear h hI hpr
 generalize idxL (isQ s) p.procs 0 = z at HX HF
 go_enter Tryz.func56, Tryz.ntmps56
 go_upto_region 1 with fail
 have HBp : Hid (Blk ((W.alloc (.cells #[.slice Ag p.globals.length cg, .slice Ap p.procs.length cp] 25)).alloc (.cells #[.string s] 9)) W.heap.size 25 #[.slice Ag p.globals.length cg, .slice Ap p.procs.length cp]) := Lib.hid ((Blk.new _ _ _).alloc _)
 have HBr : Hid (Blk ((W.alloc (.cells #[.slice Ag p.globals.length cg, .slice Ap p.procs.length cp] 25)).alloc (.cells #[.string s] 9)) (W.heap.size + 1) 9 #[.string s]) := Lib.hid (by have := Blk.new (W.alloc (.cells #[.slice Ag p.globals.length cg, .slice Ap p.procs.length cp] 25)) 9 #[.string s]; rw [World.size_alloc] at this; exact this)
 have HB0 : Hid (Below W.heap.size W ((W.alloc (.cells #[.slice Ag p.globals.length cg, .slice Ap p.procs.length cp] 25)).alloc (.cells #[.string s] 9))) := Lib.hid (below_stepA (below_box _) _)
 generalize World.alloc _ _ = V at HBp HBr HB0 ⊢
 have q0 : V.cell? ⟨W.heap.size, 0, none⟩ = some (.slice Ag p.globals.length cg) := by rw [HBp.out.cell]; rfl
 have q1 : V.cell? ⟨W.heap.size, 1, none⟩ = some (.slice Ap p.procs.length cp) := by rw [HBp.out.cell]; rfl
 have hbl := HBp.out.lt
 have hbr := HBr.out.lt
 cases hm : mayP p with
 | false =>
  rw [hm] at HM HF
  clear hm
  go_wp2_with (go_at_call 27; refine (HM.out V (HI.out.on HB0.out)).mono ?_; rintro e w1 ⟨rfl, hb1⟩)
  go_ret
  exact ⟨ret_int (by rw [HF.out]; rfl), below_step HB0.out hb1⟩
 | true =>
  rw [hm] at HM HF
  clear hm
  go_wp2_with (first
   | (go_at_call 27; refine (HM.out V (HI.out.on HB0.out)).mono ?_; rintro e w1 ⟨rfl, hb1⟩; have HI1 := Lib.hid ((HI.out.on HB0.out).on hb1); have q0' : w1.cell? ⟨W.heap.size, 0, none⟩ = some (.slice Ag p.globals.length cg) := (hb1.cell (p := ⟨W.heap.size, 0, none⟩) hbl).trans q0; have q1' : w1.cell? ⟨W.heap.size, 1, none⟩ = some (.slice Ap p.procs.length cp) := (hb1.cell (p := ⟨W.heap.size, 1, none⟩) hbl).trans q1; have r0' : w1.cell? ⟨W.heap.size + 1, 0, none⟩ = some (.string s) := (by rw [(HBr.out.below hb1 hbr).cell]; rfl))
   | (go_at_call 80; refine (HX.out w1 HI1.out _ r0').mono ?_; rintro e w2 ⟨rfl, hb2⟩))
  go_ret
  exact ⟨ret_int (by rw [HF.out]; rfl), below_step (below_step HB0.out hb1) hb2⟩
def knd (gl : List ByteArray) (q : Pr) (s : ByteArray) : Int := (q.params.find? (isPa s)).elim (if q.vars.any (isT s) = true then 4 else if gl.any (isT s) = true then 1 else 0) (fun x => if x.ref = true then 3 else 2)
set_option maxHeartbeats 2000000 in
theorem kindIn_any {w : World} {Q : Nat → Prop} {gl : List ByteArray} {vg : Value} {q : Pr} {c0 c1 c2 c3 c4 : Value} (hg : TextsI w Q gl vg) (h : ProcI w Q q [c0, c1, c2, c3, c4]) (s : ByteArray) (W : World) (hI : In Q w W) :
  Calls Tryz.prog 118 #[vg, .agg #[c0, c1, c2, c3, c4], .string s] W fun e w' => e = .returned (.int .i64 (knd gl q s)) ∧ Below W.heap.size W w' := by
 obtain ⟨vp, vv, vb, ve, hc, hnm, hpp, hvv, hbb, hee⟩ := h
 simp only [List.cons.injEq, and_true] at hc
 obtain ⟨rfl, rfl, rfl, rfl, rfl⟩ := hc
 obtain ⟨Ap, cp, rfl, _, _⟩ := hpp.shape
 obtain ⟨Av, cv, rfl, _, _⟩ := hvv.shape
 obtain ⟨Ab, cb, rfl, _⟩ := hbb.shape
 obtain ⟨Ae, ce, rfl, _⟩ := hee.shape
 obtain ⟨Ag, cg, rfl, _⟩ := hg.shape
 have HG := Lib.hid (fun V hV => Contains_any (W := V) hg hV s)
 have HV := Lib.hid (fun V hV => Contains_any (W := V) hvv hV s)
 have HX := Lib.hid (fun V hV b hb => IndexPa_any (W := V) hpp hV s b hb)
 have HPp := Lib.hid hpp
 have HI := Lib.hid hI
 have HK : Hid (knd gl q s = (q.params.find? (isPa s)).elim (if q.vars.any (isT s) = true then 4 else if gl.any (isT s) = true then 1 else 0) (fun x => if x.ref = true then 3 else 2)) := Lib.hid rfl
 have hfd := idxL_get (isPa s) q.params 0
 clear hg hpp hvv hbb hee hI
 generalize idxL (isPa s) q.params 0 = z at HX hfd
 go_enter Tryz.func118, Tryz.ntmps118
 go_upto_region 1 with fail
 have HBp : Hid (Blk ((W.alloc (.cells #[.string q.nm, .slice Ap q.params.length cp, .slice Av q.vars.length cv, .slice Ab q.body.length cb, .slice Ae q.end_.length ce] 39)).alloc (.cells #[.string s] 9)) W.heap.size 39 #[.string q.nm, .slice Ap q.params.length cp, .slice Av q.vars.length cv, .slice Ab q.body.length cb, .slice Ae q.end_.length ce]) := Lib.hid ((Blk.new _ _ _).alloc _)
 have HBr : Hid (Blk ((W.alloc (.cells #[.string q.nm, .slice Ap q.params.length cp, .slice Av q.vars.length cv, .slice Ab q.body.length cb, .slice Ae q.end_.length ce] 39)).alloc (.cells #[.string s] 9)) (W.heap.size + 1) 9 #[.string s]) := Lib.hid (by have := Blk.new (W.alloc (.cells #[.string q.nm, .slice Ap q.params.length cp, .slice Av q.vars.length cv, .slice Ab q.body.length cb, .slice Ae q.end_.length ce] 39)) 9 #[.string s]; rw [World.size_alloc] at this; exact this)
 have HB0 : Hid (Below W.heap.size W ((W.alloc (.cells #[.string q.nm, .slice Ap q.params.length cp, .slice Av q.vars.length cv, .slice Ab q.body.length cb, .slice Ae q.end_.length ce] 39)).alloc (.cells #[.string s] 9))) := Lib.hid (below_stepA (below_box _) _)
 generalize World.alloc _ _ = V at HBp HBr HB0 ⊢
 have q1 : V.cell? ⟨W.heap.size, 1, none⟩ = some (.slice Ap q.params.length cp) := by rw [HBp.out.cell]; rfl
 have r0 : V.cell? ⟨W.heap.size + 1, 0, none⟩ = some (.string s) := by rw [HBr.out.cell]; rfl
 have hbl := HBp.out.lt
 have hbr := HBr.out.lt
 have HI0 := Lib.hid (HI.out.on HB0.out)
 go_upto_region 2 with (go_at_call 159; refine (HX.out V HI0.out _ r0).mono ?_; rintro e w1 ⟨rfl, hb1⟩)
 have HI1 := Lib.hid (HI0.out.on hb1)
 have HBp1 := Lib.hid (HBp.out.below hb1 hbl)
 have HBr1 := Lib.hid (HBr.out.below hb1 hbr)
 have HB1 := Lib.hid (below_step HB0.out hb1)
 clear q1 r0 hbl hbr hb1 HBp HBr HB0 HI0 HX
 have q1 : w1.cell? ⟨W.heap.size, 1, none⟩ = some (.slice Ap q.params.length cp) := by rw [HBp1.out.cell]; rfl
 have q2 : w1.cell? ⟨W.heap.size, 2, none⟩ = some (.slice Av q.vars.length cv) := by rw [HBp1.out.cell]; rfl
 have r0 : w1.cell? ⟨W.heap.size + 1, 0, none⟩ = some (.string s) := by rw [HBr1.out.cell]; rfl
 have hbl := HBp1.out.lt
 have hbr := HBr1.out.lt
 rcases hfd with ⟨rfl, hf⟩ | ⟨j, hj, rfl, _, hf⟩
 ·rw [hf, Option.elim_none] at HK
  clear hf
  generalize q.vars.any (isT s) = b1 at HV HK
  generalize gl.any (isT s) = b2 at HG HK
  cases b1
  ·cases b2
   ·go_wp2_with (first
     | (go_at_call 94; (with_reducible refine (HV.out w1 HI1.out).mono ?_); rintro e w' ⟨rfl, rfl⟩)
     | (go_at_call 94; (with_reducible refine (HG.out w1 HI1.out).mono ?_); rintro e w' ⟨rfl, rfl⟩))
    go_ret
    exact ⟨ret_int (by rw [HK.out]; rfl), HB1.out⟩
   ·go_wp2_with (first
     | (go_at_call 94; (with_reducible refine (HV.out w1 HI1.out).mono ?_); rintro e w' ⟨rfl, rfl⟩)
     | (go_at_call 94; (with_reducible refine (HG.out w1 HI1.out).mono ?_); rintro e w' ⟨rfl, rfl⟩))
    go_ret
    exact ⟨ret_int (by rw [HK.out]; rfl), HB1.out⟩
  ·go_wp2_with (go_at_call 94; (with_reducible refine (HV.out w1 HI1.out).mono ?_); rintro e w' ⟨rfl, rfl⟩)
   go_ret
   exact ⟨ret_int (by rw [HK.out]; rfl), HB1.out⟩
 ·rw [hf, Option.elim_some] at HK
  obtain ⟨a, rfl, _, ⟨p0, p1, _⟩, _⟩ := par_at HPp.out HI1.out hj
  rw [Nat.zero_add]
  cases hr : q.params[j].ref with
  | true =>
   rw [hr] at p1 HK
   clear hr hf
   go_wp2_with fail
   go_ret
   exact ⟨ret_int (by rw [HK.out]; rfl), HB1.out⟩
  | false =>
   rw [hr] at p1 HK
   clear hr hf
   go_wp2_with fail
   go_ret
   exact ⟨ret_int (by rw [HK.out]; rfl), HB1.out⟩
end Go.Proofs.YtimejkbmfbjomaaGreat
namespace Go.Proofs.YtimejkbmfbjomaaGreat
open Go.ChangeShapes Go.WideShapes Go.ChangeAt Go.RowKit Go.Deep
set_option linter.unusedVariables false
theorem freshS_v {w W : World} {Q : Nat → Prop} {l : List S} {v : Value} (h : StmtsI w Q l v) (hI : In Q w W) (hw : wSL l ≤ 1000000) :
    Calls Tryz.prog 163 #[v] W fun e w' => ∃ A cap, e = .returned (.slice A l.length cap) ∧ RowS' w Q l A cap W.heap.size w'.heap.size w' ∧ Below W.heap.size W w' := by
  have h' : SliceI w Q 13 (RS w Q) l v := by
    obtain ⟨A, cap, css, h1, h2, h3, h4⟩ := h
    exact ⟨A, cap, css, h1, h2, h3, fun i hi => ⟨h4 i hi, Nat.le_trans (wSL_mem (List.getElem_mem hi)) hw⟩⟩
  refine (freshS_any h' hI (rsOk w Q) (Nat.le_trans (wSL_len l) hw)).mono ?_
  intro e w' hf
  have hb := hf.below
  rcases hf with ⟨rfl, rfl, _⟩ | ⟨css, rfl, rfl, hr⟩
  · exact ⟨_, _, rfl, ⟨⟨Nat.le_refl _, by omega⟩, .inl rfl⟩, hb⟩
  · exact ⟨_, _, rfl, ⟨⟨Nat.le_refl _, by have := Nat.le_trans (wSL_len l) hw; omega⟩, .inr ⟨_, css, rfl, rfl, Nat.le_refl _, by simp, Blk.new _ _ _, hr⟩⟩, hb⟩
theorem RowS'.on {w W W' : World} {Q : Nat → Prop} {l : List S} {A : Option Addr} {cap M M' : Nat} (h : RowS' w Q l A cap M M' W) (hb : ∀ k, M ≤ k → k < M' → W'.heap[k]? = W.heap[k]?) : RowS' w Q l A cap M M' W' := by
  obtain ⟨h1, h2⟩ := h
  refine ⟨h1, h2.imp (fun h => h) ?_⟩
  rintro ⟨b, css, e1, e2, e3, e4, e5, e6⟩
  exact ⟨b, css, e1, e2, e3, e4, (hb b e3 e4).trans e5, e6⟩
theorem RowS'.start {w W : World} {Q : Nat → Prop} {l : List S} {A : Option Addr} {cap M M' : Nat} (h : RowS' w Q l A cap M M' W) (hl : l.length ≤ 1000000) (hM : M' ≤ W.heap.size) :
    ∃ hs T, pushS [] A l.length cap = hs.map slH ∧ CopyS w Q M (fun V => StmtsI V (nb M V) l (.slice A l.length cap)) W hs T ∧ szHS hs = sizSL l ∧ (∀ b, T b → b < M') ∧ (0 < l.length → A ≠ none) := by
  obtain ⟨new, e1, z1, r1, d1, a1, f1⟩ := row_holes h hl
  exact ⟨new, fun k => M ≤ k ∧ k < M', by rw [e1, List.append_nil], ⟨fun b hb => ⟨hb.1, by omega⟩, fun k hk => ⟨⟨(r1 k hk).1, (r1 k hk).2.1⟩, (r1 k hk).2.2⟩, d1, fun V _ _ hd => f1 V M (Nat.le_refl _) hd⟩, z1, fun b hb => hb.2, a1⟩
theorem NodeW.start {W : World} {b o : Nat} {t : TypeId} {bc : Array Value} {cs : List Value} (hB : Blk W b t bc) (hl : cs.length = 13) (h : ∀ j u, cs[j]? = some u → W.cell? ⟨b, o + 0 * 13 + j, none⟩ = some u) : NodeW W W b o cs :=
  ⟨Moves.refl _ _, hB.lt, fun _ _ _ => rfl, ⟨t, bc, hB⟩, fun j u hu => by have := h j u hu; rw [Nat.zero_mul, Nat.add_zero] at this; exact this, hl⟩
theorem size_set (q : World) (p : Addr) (u : Value) : (q.setCell p u).heap.size = q.heap.size := by simp [World.setCell]
end Go.Proofs.YtimejkbmfbjomaaGreat
namespace Go.Proofs.YtimejkbmfbjomaaGreat
open Go.ChangeShapes Go.WideShapes Go.ChangeAt Go.RowKit Go.Deep
set_option linter.unusedVariables false
def S0 : S := .mk 0 0 [] ⟨#[]⟩ ⟨#[]⟩ (.mk 0 0 ⟨#[]⟩ []) false [] [] []
theorem i64_zero : i64 0 := ⟨by omega, by omega⟩
end Go.Proofs.YtimejkbmfbjomaaGreat
namespace Go.Proofs.YtimejkbmfbjomaaGreat
open Go.ChangeShapes Go.WideShapes Go.ChangeAt Go.RowKit Go.Deep
set_option linter.unusedVariables false
/-- the first statement with that id, and its procedure -/
def findL : List Pr → Int → ByteArray × S × Bool
  | [], _ => (⟨#[]⟩, S0, false)
  | q :: l, id => ((preSL q.body).find? (fun s => s.id == id)).elim (findL l id) (fun s => (q.nm, s, true))
def findP (p : Pg) (id : Int) : ByteArray × S × Bool := findL p.procs id
mutual
theorem preS_w : ∀ (s : S) (x : S), x ∈ preS s → wS x ≤ wS s
  | .mk id kind labels nm proc e has args th el, x, h => by
    rw [preS] at h
    rcases List.mem_cons.1 h with rfl | h
    · exact Nat.le_refl _
    · rw [wS]
      rcases List.mem_append.1 h with h | h
      · have := preSL_w th x h; omega
      · have := preSL_w el x h; omega
theorem preSL_w : ∀ (l : List S) (x : S), x ∈ preSL l → wS x ≤ wSL l
  | [], x, h => by rw [preSL] at h; simp at h
  | s :: l, x, h => by
    rw [preSL] at h
    rw [wSL]
    rcases List.mem_append.1 h with h | h
    · have := preS_w s x h; omega
    · have := preSL_w l x h; omega
end
end Go.Proofs.YtimejkbmfbjomaaGreat
