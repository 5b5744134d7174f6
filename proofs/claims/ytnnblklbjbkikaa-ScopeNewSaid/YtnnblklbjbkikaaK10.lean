/- Texts, merged by a program; only what is used. -/
import Derived.Deep.LoopGhost
import Derived.Test.YtnnblklbjbkikaaK1
import Derived.Test.YtnnblklbjbkikaaK2
import Derived.Test.YtnnblklbjbkikaaK3
import Derived.Test.YtnnblklbjbkikaaK4
import Derived.Test.YtnnblklbjbkikaaK5
import Derived.Test.YtnnblklbjbkikaaK6
import Derived.Test.YtnnblklbjbkikaaK7
import Derived.Test.YtnnblklbjbkikaaK8
import Derived.Test.YtnnblklbjbkikaaK9
namespace Go.Proofs.Ytnnblklbjbkikaa
open Go.ChangeShapes Go.WideShapes Go.ChangeAt Go.RowKit Go.Deep
set_option linter.unusedVariables false
set_option linter.unusedSimpArgs false
def idxL {α : Type} (f : α → Bool) : List α → Nat → Int
 | [], _ => -1
 | x :: l, k => if f x = true then (k : Int) else idxL f l (k + 1)
theorem idxL_drop {α : Type} {f : α → Bool} {l : List α} {k : Nat} (h : k < l.length) : idxL f (l.drop k) k = if f l[k] = true then (k : Int) else idxL f (l.drop (k + 1)) (k + 1) := by
 rw [List.drop_eq_getElem_cons h, idxL]
theorem idxL_get {α : Type} (f : α → Bool) : ∀ (l : List α) (k : Nat), idxL f l k = -1 ∧ l.find? f = none ∨ ∃ j, ∃ h : j < l.length, idxL f l k = ((k + j : Nat) : Int) ∧ f l[j] = true ∧ l.find? f = some l[j]
 | [], k => .inl ⟨rfl, rfl⟩
 | x :: l, k => by
  rw [idxL, List.find?_cons]
  by_cases hf : f x = true
  ·rw [if_pos hf, hf]
   exact .inr ⟨0, by simp, rfl, by simpa using hf, rfl⟩
  ·rw [if_neg hf, Bool.eq_false_iff.2 hf]
   rcases idxL_get f l (k + 1) with ⟨h1, h2⟩ | ⟨j, hj, h1, h2, h3⟩
   ·exact .inl ⟨h1, h2⟩
   ·exact .inr ⟨j + 1, by simpa using hj, by rw [h1]; congr 1; omega, by simpa using h2, by simpa using h3⟩
def isT (s : ByteArray) : ByteArray → Bool := fun t => decide (s = t)
set_option maxHeartbeats 1000000 in
theorem Index_any {w W : World} {Q : Nat → Prop} {l : List ByteArray} {v : Value} (h : TextsI w Q l v) (hI : In Q w W) (s : ByteArray) :
  Calls Try.prog 74 #[v, .string s] W fun e w' => e = .returned (.int .i64 (idxL (isT s) l 0)) ∧ W = w' := by
 obtain ⟨A, cap, rfl, hl1, hl2⟩ := h.shape
 have H := Lib.hid h
 have HI := Lib.hid hI
 clear h hI
 go_enter Try.func74, Try.ntmps74
 go_wp2_with fail
 go_loopg [8] l.length (fun kk i wr => ∃ k : Nat, k + kk = l.length ∧ i = .int .i64 k ∧ Hid (idxL (isT s) (l.drop k) k = idxL (isT s) l 0) ∧ wr = W)
 case atStart => exact ⟨0, by omega, rfl, Lib.hid (by rw [List.drop_zero]), rfl⟩
 case round =>
  obtain ⟨k, hk, rfl, HW, rfl⟩ := hrel
  by_cases hlt : k < l.length
  ·obtain ⟨a, rfl, _, p1, hs⟩ := text_at H.out HI.out hlt
   have HD := Lib.hid (idxL_drop (f := isT s) hlt)
   rw [HW.out] at HD
   have hv : isT s l[k] = (s.toList == l[k].toList) := (dec_bytes s l[k]).symm
   generalize l[k] = t at p1 hs HD hv
   cases hb : isT s t with
   | true =>
    rw [hb, if_pos rfl] at HD
    have hv2 : (s.toList == t.toList) = true := by rw [← hv]; exact hb
    clear hv hb
    go_wp2_with fail
    go_ret
    exact ⟨ret_int HD.out.symm, rfl⟩
   | false =>
    rw [hb, if_neg (by simp)] at HD
    have hv2 : (s.toList == t.toList) = false := by rw [← hv]; exact hb
    clear hv hb
    go_wp2_with fail
    go_roundg (l.length - k - 1)
    case measure => omega
    case rel => exact ⟨k + 1, by omega, by go_num, Lib.hid HD.out.symm, rfl⟩
  ·have HD : Hid (idxL (isT s) l 0 = -1) := Lib.hid (by rw [← HW.out, List.drop_of_length_le (by omega), idxL])
   go_wp2_with fail
   go_ret
   exact ⟨ret_int HD.out.symm, rfl⟩
theorem idx_has (s : ByteArray) (l : List ByteArray) : decide (0 ≤ idxL (isT s) l 0) = l.any (isT s) := by
 rcases idxL_get (isT s) l 0 with ⟨h1, h2⟩ | ⟨j, hj, h1, h2, _⟩
 ·rw [h1]
  have : l.any (isT s) = false := by
   rw [List.any_eq_false]
   intro x hx
   have := List.find?_eq_none.1 h2 x hx
   simpa using this
  rw [this]; rfl
 ·rw [h1, List.any_eq_true.2 ⟨_, List.getElem_mem hj, h2⟩]
  simp
theorem Contains_any {w W : World} {Q : Nat → Prop} {l : List ByteArray} {v : Value} (h : TextsI w Q l v) (hI : In Q w W) (s : ByteArray) :
  Calls Try.prog 94 #[v, .string s] W fun e w' => e = .returned (.bool (l.any (isT s))) ∧ W = w' := by
 have HC := Lib.hid (Index_any h hI s)
 have HE := Lib.hid (idx_has s l)
 obtain ⟨A, cap, rfl, _⟩ := h.shape
 clear h hI
 generalize idxL (isT s) l 0 = z at HC HE
 go_enter Try.func94, Try.ntmps94
 go_wp2_with (go_at_call 74; refine HC.out.mono ?_; rintro e w' ⟨rfl, rfl⟩)
 go_ret
 exact ⟨ret_bool HE.out, rfl⟩
def isQ (s : ByteArray) : Pr → Bool := fun q => decide (q.nm = s)
def isPa (s : ByteArray) : Pa → Bool := fun q => decide (q.nm = s)
set_option maxHeartbeats 1000000 in
theorem IndexQ_any {w W : World} {Q : Nat → Prop} {l : List Pr} {v : Value} (h : SliceI w Q 5 (ProcI w Q) l v) (hI : In Q w W) (s : ByteArray) (b : Nat) (hb : W.cell? ⟨b, 0, none⟩ = some (.string s)) :
  Calls Try.prog 117 #[v, .func (.func 118) #[] #[.pointer (some ⟨b, 0, none⟩)]] W fun e w' => e = .returned (.int .i64 (idxL (isQ s) l 0)) ∧ Below W.heap.size W w' := by
 obtain ⟨A, cap, rfl, hl1, hl2⟩ := h.shape
 have H := Lib.hid h
 have HI := Lib.hid hI
 have HB := Lib.hid hb
 clear h hI hb
 go_enter Try.func117, Try.ntmps117
 go_wp2_with fail
 go_loopg [8] l.length (fun kk i wr => ∃ k : Nat, k + kk = l.length ∧ i = .int .i64 k ∧ Hid (idxL (isQ s) (l.drop k) k = idxL (isQ s) l 0) ∧ Hid (Below W.heap.size W wr))
 case atStart => exact ⟨0, by omega, rfl, Lib.hid (by rw [List.drop_zero]), Lib.hid (Below.refl _ _)⟩
 case round =>
  obtain ⟨k, hk, rfl, HW, HR⟩ := hrel
  by_cases hlt : k < l.length
  ·obtain ⟨a, Cp, kp, Cv, kv, Cb, kb, Ce, ke, rfl, _, ⟨p0, p1, p2, p3, p4, _⟩, _⟩ := proc_at H.out (HI.out.on HR.out) hlt
   have HD := Lib.hid (idxL_drop (f := isQ s) hlt)
   rw [HW.out] at HD
   have hv : isQ s l[k] = (l[k].nm.toList == s.toList) := (dec_bytes _ _).symm
   generalize l[k] = y at p0 p1 p2 p3 p4 HD hv
   obtain ⟨yn, yp, yv, yb, ye⟩ := y
   simp only at p0 p1 p2 p3 p4 hv
   have q0 : wr.cell? ⟨b, 0, none⟩ = some (.string s) := (HR.out.cell (p := ⟨b, 0, none⟩) (World.block_lt_of_cell? W _ HB.out)).trans HB.out
   have hbl := World.block_lt_of_cell? wr _ q0
   cases hb : isQ s ⟨yn, yp, yv, yb, ye⟩ with
   | true =>
    rw [hb, if_pos rfl] at HD
    have hv2 : (yn.toList == s.toList) = true := by rw [← hv]; exact hb
    clear hv hb
    go_wp2_with (go_at_call 118; go_in)
    go_ret
    exact ⟨ret_int HD.out.symm, below_step HR.out (below_box _)⟩
   | false =>
    rw [hb, if_neg (by simp)] at HD
    have hv2 : (yn.toList == s.toList) = false := by rw [← hv]; exact hb
    clear hv hb
    go_wp2_with (go_at_call 118; go_in)
    go_roundg (l.length - k - 1)
    case measure => omega
    case rel => exact ⟨k + 1, by omega, by go_num, Lib.hid HD.out.symm, Lib.hid (below_step HR.out (below_box _))⟩
  ·have HD : Hid (idxL (isQ s) l 0 = -1) := Lib.hid (by rw [← HW.out, List.drop_of_length_le (by omega), idxL])
   go_wp2_with fail
   go_ret
   exact ⟨ret_int HD.out.symm, HR.out⟩
set_option maxHeartbeats 1000000 in
theorem IndexPa_any {w W : World} {Q : Nat → Prop} {l : List Pa} {v : Value} (h : SliceI w Q 2 ParI l v) (hI : In Q w W) (s : ByteArray) (b : Nat) (hb : W.cell? ⟨b, 0, none⟩ = some (.string s)) :
  Calls Try.prog 120 #[v, .func (.func 121) #[] #[.pointer (some ⟨b, 0, none⟩)]] W fun e w' => e = .returned (.int .i64 (idxL (isPa s) l 0)) ∧ Below W.heap.size W w' := by
 obtain ⟨A, cap, rfl, hl1, hl2⟩ := h.shape
 have H := Lib.hid h
 have HI := Lib.hid hI
 have HB := Lib.hid hb
 clear h hI hb
 go_enter Try.func120, Try.ntmps120
 go_wp2_with fail
 go_loopg [8] l.length (fun kk i wr => ∃ k : Nat, k + kk = l.length ∧ i = .int .i64 k ∧ Hid (idxL (isPa s) (l.drop k) k = idxL (isPa s) l 0) ∧ Hid (Below W.heap.size W wr))
 case atStart => exact ⟨0, by omega, rfl, Lib.hid (by rw [List.drop_zero]), Lib.hid (Below.refl _ _)⟩
 case round =>
  obtain ⟨k, hk, rfl, HW, HR⟩ := hrel
  by_cases hlt : k < l.length
  ·obtain ⟨a, rfl, _, ⟨p0, p1, _⟩, hs⟩ := par_at H.out (HI.out.on HR.out) hlt
   have HD := Lib.hid (idxL_drop (f := isPa s) hlt)
   rw [HW.out] at HD
   have hv : isPa s l[k] = (l[k].nm.toList == s.toList) := (dec_bytes _ _).symm
   generalize l[k] = y at p0 p1 hs HD hv
   obtain ⟨yn, yr⟩ := y
   simp only at p0 p1 hs hv
   have q0 : wr.cell? ⟨b, 0, none⟩ = some (.string s) := (HR.out.cell (p := ⟨b, 0, none⟩) (World.block_lt_of_cell? W _ HB.out)).trans HB.out
   have hbl := World.block_lt_of_cell? wr _ q0
   cases hb : isPa s ⟨yn, yr⟩ with
   | true =>
    rw [hb, if_pos rfl] at HD
    have hv2 : (yn.toList == s.toList) = true := by rw [← hv]; exact hb
    clear hv hb
    go_wp2_with (go_at_call 121; go_in)
    go_ret
    exact ⟨ret_int HD.out.symm, below_step HR.out (below_box _)⟩
   | false =>
    rw [hb, if_neg (by simp)] at HD
    have hv2 : (yn.toList == s.toList) = false := by rw [← hv]; exact hb
    clear hv hb
    go_wp2_with (go_at_call 121; go_in)
    go_roundg (l.length - k - 1)
    case measure => omega
    case rel => exact ⟨k + 1, by omega, by go_num, Lib.hid HD.out.symm, Lib.hid (below_step HR.out (below_box _))⟩
  ·have HD : Hid (idxL (isPa s) l 0 = -1) := Lib.hid (by rw [← HW.out, List.drop_of_length_le (by omega), idxL])
   go_wp2_with fail
   go_ret
   exact ⟨ret_int HD.out.symm, HR.out⟩
def fndP (p : Pg) (s : ByteArray) : Int := if mayP p = true then idxL (isQ s) p.procs 0 else -1
theorem find_any {w : World} {Q : Nat → Prop} {p : Pg} {c0 c1 : Value} (h : ProgI w Q p [c0, c1]) (s : ByteArray) (W : World) (hI : In Q w W) :
  Calls Try.prog 85 #[.agg #[c0, c1], .string s] W fun e w' => e = .returned (.int .i64 (fndP p s)) ∧ Below W.heap.size W w' := by
 have HM := Lib.hid (fun V hV => May_any h V hV)
 obtain ⟨Ag, cg, Ap, cp, rfl, rfl, _, _, _, _, _, hpr⟩ := prog_open h
 have HX := Lib.hid (fun V hV b hb => IndexQ_any (W := V) hpr hV s b hb)
 have HI := Lib.hid hI
 have HF : Hid (fndP p s = if mayP p = true then idxL (isQ s) p.procs 0 else -1) := Lib.hid rfl
 clear h hI hpr
 generalize idxL (isQ s) p.procs 0 = z at HX HF
 go_enter Try.func85, Try.ntmps85
 go_upto_region 1 with fail
 have HBp : Hid (Blk ((W.alloc (.cells #[.slice Ag p.globals.length cg, .slice Ap p.procs.length cp] 25)).alloc (.cells #[.string s] 9)) W.heap.size 25 #[.slice Ag p.globals.length cg, .slice Ap p.procs.length cp]) := Lib.hid ((Blk.new _ _ _).alloc _)
 have HBr : Hid (Blk ((W.alloc (.cells #[.slice Ag p.globals.length cg, .slice Ap p.procs.length cp] 25)).alloc (.cells #[.string s] 9)) (W.heap.size + 1) 9 #[.string s]) := Lib.hid (by have := Blk.new (W.alloc (.cells #[.slice Ag p.globals.length cg, .slice Ap p.procs.length cp] 25)) 9 #[.string s]; rw [World.size_alloc] at this; exact this)
 have HB0 : Hid (Below W.heap.size W ((W.alloc (.cells #[.slice Ag p.globals.length cg, .slice Ap p.procs.length cp] 25)).alloc (.cells #[.string s] 9))) := Lib.hid (below_stepA (below_box _) _)
 generalize World.alloc _ _ = V at HBp HBr HB0 ⊢
 have q0 : V.cell? ⟨W.heap.size, 0, none⟩ = some (.slice Ag p.globals.length cg) := by rw [HBp.out.cell]; rfl
 have q1 : V.cell? ⟨W.heap.size, 1, none⟩ = some (.slice Ap p.procs.length cp) := by rw [HBp.out.cell]; rfl
 have hbl := HBp.out.lt
 have hbr := HBr.out.lt
 cases hm : mayP p with
 | false =>
  rw [hm] at HM HF
  clear hm
  go_wp2_with (go_at_call 14; refine (HM.out V (HI.out.on HB0.out)).mono ?_; rintro e w1 ⟨rfl, hb1⟩)
  go_ret
  exact ⟨ret_int (by rw [HF.out]; rfl), below_step HB0.out hb1⟩
 | true =>
  rw [hm] at HM HF
  clear hm
  go_wp2_with (first
   | (go_at_call 14; refine (HM.out V (HI.out.on HB0.out)).mono ?_; rintro e w1 ⟨rfl, hb1⟩; have HI1 := Lib.hid ((HI.out.on HB0.out).on hb1); have q0' : w1.cell? ⟨W.heap.size, 0, none⟩ = some (.slice Ag p.globals.length cg) := (hb1.cell (p := ⟨W.heap.size, 0, none⟩) hbl).trans q0; have q1' : w1.cell? ⟨W.heap.size, 1, none⟩ = some (.slice Ap p.procs.length cp) := (hb1.cell (p := ⟨W.heap.size, 1, none⟩) hbl).trans q1; have r0' : w1.cell? ⟨W.heap.size + 1, 0, none⟩ = some (.string s) := (by rw [(HBr.out.below hb1 hbr).cell]; rfl))
   | (go_at_call 117; refine (HX.out w1 HI1.out _ r0').mono ?_; rintro e w2 ⟨rfl, hb2⟩))
  go_ret
  exact ⟨ret_int (by rw [HF.out]; rfl), below_step (below_step HB0.out hb1) hb2⟩
def knd (gl : List ByteArray) (q : Pr) (s : ByteArray) : Int := (q.params.find? (isPa s)).elim (if q.vars.any (isT s) = true then 4 else if gl.any (isT s) = true then 1 else 0) (fun x => if x.ref = true then 3 else 2)
set_option maxHeartbeats 2000000 in
theorem kindIn_any {w : World} {Q : Nat → Prop} {gl : List ByteArray} {vg : Value} {q : Pr} {c0 c1 c2 c3 c4 : Value} (hg : TextsI w Q gl vg) (h : ProcI w Q q [c0, c1, c2, c3, c4]) (s : ByteArray) (W : World) (hI : In Q w W) :
  Calls Try.prog 87 #[vg, .agg #[c0, c1, c2, c3, c4], .string s] W fun e w' => e = .returned (.int .i64 (knd gl q s)) ∧ Below W.heap.size W w' := by
 obtain ⟨vp, vv, vb, ve, hc, hnm, hpp, hvv, hbb, hee⟩ := h
 simp only [List.cons.injEq, and_true] at hc
 obtain ⟨rfl, rfl, rfl, rfl, rfl⟩ := hc
 obtain ⟨Ap, cp, rfl, _, _⟩ := hpp.shape
 obtain ⟨Av, cv, rfl, _, _⟩ := hvv.shape
 obtain ⟨Ab, cb, rfl, _⟩ := hbb.shape
 obtain ⟨Ae, ce, rfl, _⟩ := hee.shape
 obtain ⟨Ag, cg, rfl, _⟩ := hg.shape
 have HG := Lib.hid (fun V hV => Contains_any (W := V) hg hV s)
 have HV := Lib.hid (fun V hV => Contains_any (W := V) hvv hV s)
 have HX := Lib.hid (fun V hV b hb => IndexPa_any (W := V) hpp hV s b hb)
 have HPp := Lib.hid hpp
 have HI := Lib.hid hI
 have HK : Hid (knd gl q s = (q.params.find? (isPa s)).elim (if q.vars.any (isT s) = true then 4 else if gl.any (isT s) = true then 1 else 0) (fun x => if x.ref = true then 3 else 2)) := Lib.hid rfl
 have hfd := idxL_get (isPa s) q.params 0
 clear hg hpp hvv hbb hee hI
 generalize idxL (isPa s) q.params 0 = z at HX hfd
 go_enter Try.func87, Try.ntmps87
 go_upto_region 1 with fail
 have HBp : Hid (Blk ((W.alloc (.cells #[.string q.nm, .slice Ap q.params.length cp, .slice Av q.vars.length cv, .slice Ab q.body.length cb, .slice Ae q.end_.length ce] 62)).alloc (.cells #[.string s] 9)) W.heap.size 62 #[.string q.nm, .slice Ap q.params.length cp, .slice Av q.vars.length cv, .slice Ab q.body.length cb, .slice Ae q.end_.length ce]) := Lib.hid ((Blk.new _ _ _).alloc _)
 have HBr : Hid (Blk ((W.alloc (.cells #[.string q.nm, .slice Ap q.params.length cp, .slice Av q.vars.length cv, .slice Ab q.body.length cb, .slice Ae q.end_.length ce] 62)).alloc (.cells #[.string s] 9)) (W.heap.size + 1) 9 #[.string s]) := Lib.hid (by have := Blk.new (W.alloc (.cells #[.string q.nm, .slice Ap q.params.length cp, .slice Av q.vars.length cv, .slice Ab q.body.length cb, .slice Ae q.end_.length ce] 62)) 9 #[.string s]; rw [World.size_alloc] at this; exact this)
 have HB0 : Hid (Below W.heap.size W ((W.alloc (.cells #[.string q.nm, .slice Ap q.params.length cp, .slice Av q.vars.length cv, .slice Ab q.body.length cb, .slice Ae q.end_.length ce] 62)).alloc (.cells #[.string s] 9))) := Lib.hid (below_stepA (below_box _) _)
 generalize World.alloc _ _ = V at HBp HBr HB0 ⊢
 have q1 : V.cell? ⟨W.heap.size, 1, none⟩ = some (.slice Ap q.params.length cp) := by rw [HBp.out.cell]; rfl
 have r0 : V.cell? ⟨W.heap.size + 1, 0, none⟩ = some (.string s) := by rw [HBr.out.cell]; rfl
 have hbl := HBp.out.lt
 have hbr := HBr.out.lt
 have HI0 := Lib.hid (HI.out.on HB0.out)
 go_upto_region 2 with (go_at_call 120; refine (HX.out V HI0.out _ r0).mono ?_; rintro e w1 ⟨rfl, hb1⟩)
 have HI1 := Lib.hid (HI0.out.on hb1)
 have HBp1 := Lib.hid (HBp.out.below hb1 hbl)
 have HBr1 := Lib.hid (HBr.out.below hb1 hbr)
 have HB1 := Lib.hid (below_step HB0.out hb1)
 clear q1 r0 hbl hbr hb1 HBp HBr HB0 HI0 HX
 have q1 : w1.cell? ⟨W.heap.size, 1, none⟩ = some (.slice Ap q.params.length cp) := by rw [HBp1.out.cell]; rfl
 have q2 : w1.cell? ⟨W.heap.size, 2, none⟩ = some (.slice Av q.vars.length cv) := by rw [HBp1.out.cell]; rfl
 have r0 : w1.cell? ⟨W.heap.size + 1, 0, none⟩ = some (.string s) := by rw [HBr1.out.cell]; rfl
 have hbl := HBp1.out.lt
 have hbr := HBr1.out.lt
 rcases hfd with ⟨rfl, hf⟩ | ⟨j, hj, rfl, _, hf⟩
 ·rw [hf, Option.elim_none] at HK
  clear hf
  generalize q.vars.any (isT s) = b1 at HV HK
  generalize gl.any (isT s) = b2 at HG HK
  cases b1
  ·cases b2
   ·go_wp2_with (first
     | (go_at_call 94; (with_reducible refine (HV.out w1 HI1.out).mono ?_); rintro e w' ⟨rfl, rfl⟩)
     | (go_at_call 94; (with_reducible refine (HG.out w1 HI1.out).mono ?_); rintro e w' ⟨rfl, rfl⟩))
    go_ret
    exact ⟨ret_int (by rw [HK.out]; rfl), HB1.out⟩
   ·go_wp2_with (first
     | (go_at_call 94; (with_reducible refine (HV.out w1 HI1.out).mono ?_); rintro e w' ⟨rfl, rfl⟩)
     | (go_at_call 94; (with_reducible refine (HG.out w1 HI1.out).mono ?_); rintro e w' ⟨rfl, rfl⟩))
    go_ret
    exact ⟨ret_int (by rw [HK.out]; rfl), HB1.out⟩
  ·go_wp2_with (go_at_call 94; (with_reducible refine (HV.out w1 HI1.out).mono ?_); rintro e w' ⟨rfl, rfl⟩)
   go_ret
   exact ⟨ret_int (by rw [HK.out]; rfl), HB1.out⟩
 ·rw [hf, Option.elim_some] at HK
  obtain ⟨a, rfl, _, ⟨p0, p1, _⟩, _⟩ := par_at HPp.out HI1.out hj
  rw [Nat.zero_add]
  cases hr : q.params[j].ref with
  | true =>
   rw [hr] at p1 HK
   clear hr hf
   go_wp2_with fail
   go_ret
   exact ⟨ret_int (by rw [HK.out]; rfl), HB1.out⟩
  | false =>
   rw [hr] at p1 HK
   clear hr hf
   go_wp2_with fail
   go_ret
   exact ⟨ret_int (by rw [HK.out]; rfl), HB1.out⟩
def kindP (p : Pg) (proc s : ByteArray) : Int := if mayP p = true then (p.procs.find? (isQ proc)).elim 0 (fun q => knd p.globals q s) else 0
set_option maxHeartbeats 2000000 in
theorem Kind_any {w : World} {Q : Nat → Prop} {p : Pg} {c0 c1 : Value} (h : ProgI w Q p [c0, c1]) (proc s : ByteArray) (W : World) (hI : In Q w W) :
  Calls Try.prog 37 #[.agg #[c0, c1], .string proc, .string s] W fun e w' => e = .returned (.int .i64 (kindP p proc s)) ∧ Below W.heap.size W w' := by
 have HF := Lib.hid (fun V hV => find_any h proc V hV)
 obtain ⟨Ag, cg, Ap, cp, rfl, rfl, _, _, _, _, hgl, hpr⟩ := prog_open h
 have HP := Lib.hid hpr
 have HGl := Lib.hid hgl
 have HI := Lib.hid hI
 have HK : Hid (kindP p proc s = if mayP p = true then (p.procs.find? (isQ proc)).elim 0 (fun q => knd p.globals q s) else 0) := Lib.hid rfl
 have hfd : (fndP p proc = -1 ∧ kindP p proc s = 0) ∨ ∃ j, ∃ hj : j < p.procs.length, fndP p proc = ((j : Nat) : Int) ∧ kindP p proc s = knd p.globals p.procs[j] s := by
  rw [HK.out]
  unfold fndP
  by_cases hm : mayP p = true
  ·rw [if_pos hm, if_pos hm]
   rcases idxL_get (isQ proc) p.procs 0 with ⟨h1, h2⟩ | ⟨j, hj, h1, _, h3⟩
   ·exact .inl ⟨h1, by rw [h2]; rfl⟩
   ·exact .inr ⟨j, hj, by rw [h1, Nat.zero_add], by rw [h3]; rfl⟩
  ·rw [if_neg hm, if_neg hm]
   exact .inl ⟨rfl, rfl⟩
 clear h hI hpr hgl HK
 generalize fndP p proc = z at HF hfd
 go_enter Try.func37, Try.ntmps37
 go_upto_region 1 with fail
 have HB0 : Hid (Below W.heap.size W (W.alloc (.cells #[.slice Ag p.globals.length cg, .slice Ap p.procs.length cp] 25))) := Lib.hid (below_box _)
 have HBp : Hid (Blk (W.alloc (.cells #[.slice Ag p.globals.length cg, .slice Ap p.procs.length cp] 25)) W.heap.size 25 #[.slice Ag p.globals.length cg, .slice Ap p.procs.length cp]) := Lib.hid (Blk.new _ _ _)
 generalize World.alloc _ _ = V at HB0 HBp ⊢
 generalize hbe : W.heap.size = b at HBp ⊢
 clear hbe
 have HI0 := Lib.hid (HI.out.on HB0.out)
 have q0 : V.cell? ⟨b, 0, none⟩ = some (.slice Ag p.globals.length cg) := by rw [HBp.out.cell]; rfl
 have q1 : V.cell? ⟨b, 1, none⟩ = some (.slice Ap p.procs.length cp) := by rw [HBp.out.cell]; rfl
 have hbl := HBp.out.lt
 go_upto_region 2 with (go_at_call 85; refine (HF.out V HI0.out).mono ?_; rintro e w1 ⟨rfl, hb1⟩)
 have HB1 := Lib.hid (below_step HB0.out hb1)
 have HI1 := Lib.hid (HI0.out.on hb1)
 have HBp1 := Lib.hid (HBp.out.below hb1 hbl)
 clear q0 q1 hbl hb1 HB0 HBp HI0 HF
 rcases hfd with ⟨rfl, hk⟩ | ⟨j, hj, rfl, hk⟩
 ·have HK0 := Lib.hid hk
  clear hk
  go_wp2_with fail
  go_ret
  exact ⟨by rw [HK0.out]; rfl, HB1.out⟩
 ·obtain ⟨a, Bp, kp, Bv, kv, Bb, kb, Be, ke, rfl, hqa, hrow, hnm, hpp, hvv, hbody, hee⟩ := proc_at HP.out HI1.out hj
  have HPI : Hid (ProcI w Q p.procs[j] [.string p.procs[j].nm, .slice Bp p.procs[j].params.length kp, .slice Bv p.procs[j].vars.length kv, .slice Bb p.procs[j].body.length kb, .slice Be p.procs[j].end_.length ke]) := Lib.hid ⟨_, _, _, _, rfl, hnm, hpp, hvv, hbody, hee⟩
  have HC := Lib.hid (fun V hV => kindIn_any HGl.out HPI.out s V hV)
  have HK0 := Lib.hid hk
  generalize knd p.globals p.procs[j] s = z at HC HK0
  generalize p.procs[j].nm = x0 at hrow HC
  generalize p.procs[j].params.length = x1 at hrow HC
  generalize p.procs[j].vars.length = x2 at hrow HC
  generalize p.procs[j].body.length = x3 at hrow HC
  generalize p.procs[j].end_.length = x4 at hrow HC
  obtain ⟨p0, p1, p2, p3, p4, _⟩ := hrow
  clear HPI hk hnm hpp hvv hbody hee
  have q0 : w1.cell? ⟨b, 0, none⟩ = some (.slice Ag p.globals.length cg) := by rw [HBp1.out.cell]; rfl
  have q1 : w1.cell? ⟨b, 1, none⟩ = some (.slice (some a) p.procs.length cp) := by rw [HBp1.out.cell]; rfl
  have hbl := HBp1.out.lt
  have HQa : Hid (Q (a.add (j * 5)).block) := Lib.hid (by have hba : (a.add (j * 5)).block = a.block := (by unfold Addr.add; split <;> rfl); rw [hba]; exact hqa)
  clear hqa
  have hdr : ∀ V : World, In Q w V → In Q w V.drew := fun V h => h
  have hBD : Below w1.heap.size w1 w1.drew := (Below.refl _ _).drew
  go_upto_region 4 with fail
  go_region_held3 (fun w' => w'.cell? ⟨b, 0, none⟩ = some (.slice Ag p.globals.length cg) ∧ w'.cell? ⟨b, 1, none⟩ = some (.slice (some a) p.procs.length cp) ∧ w'.cell? (a.add (j * 5)) = some (.string x0) ∧ w'.cell? ⟨(a.add (j * 5)).block, (a.add (j * 5)).off + 1, none⟩ = some (.slice Bp x1 kp) ∧ w'.cell? ⟨(a.add (j * 5)).block, (a.add (j * 5)).off + 2, none⟩ = some (.slice Bv x2 kv) ∧ w'.cell? ⟨(a.add (j * 5)).block, (a.add (j * 5)).off + 3, none⟩ = some (.slice Bb x3 kb) ∧ w'.cell? ⟨(a.add (j * 5)).block, (a.add (j * 5)).off + 4, none⟩ = some (.slice Be x4 ke))
   (go_keep)
   ((go_at_call 87; refine (HC.out _ (hdr _ HI1.out)).mono ?_; rintro e' w2 ⟨rfl, hb2⟩; have hb2' := hBD.trans hb2; have HI2 := Lib.hid (HI1.out.on hb2'); have k0 := (hb2'.cell (p := ⟨b, 0, none⟩) hbl).trans q0; have k1 := (hb2'.cell (p := ⟨b, 1, none⟩) hbl).trans q1; have r0 := (HI2.out.cell (p := a.add (j * 5)) HQa.out).trans ((HI1.out.cell (p := a.add (j * 5)) HQa.out).symm.trans p0); have r1 := (HI2.out.cell (p := ⟨(a.add (j * 5)).block, (a.add (j * 5)).off + 1, none⟩) HQa.out).trans ((HI1.out.cell (p := ⟨(a.add (j * 5)).block, (a.add (j * 5)).off + 1, none⟩) HQa.out).symm.trans p1); have r2 := (HI2.out.cell (p := ⟨(a.add (j * 5)).block, (a.add (j * 5)).off + 2, none⟩) HQa.out).trans ((HI1.out.cell (p := ⟨(a.add (j * 5)).block, (a.add (j * 5)).off + 2, none⟩) HQa.out).symm.trans p2); have r3 := (HI2.out.cell (p := ⟨(a.add (j * 5)).block, (a.add (j * 5)).off + 3, none⟩) HQa.out).trans ((HI1.out.cell (p := ⟨(a.add (j * 5)).block, (a.add (j * 5)).off + 3, none⟩) HQa.out).symm.trans p3); have r4 := (HI2.out.cell (p := ⟨(a.add (j * 5)).block, (a.add (j * 5)).off + 4, none⟩) HQa.out).trans ((HI1.out.cell (p := ⟨(a.add (j * 5)).block, (a.add (j * 5)).off + 4, none⟩) HQa.out).symm.trans p4)))
  go_wp2_with fail
  go_ret
  exact ⟨by rw [HK0.out]; rfl, below_step HB1.out hb2'⟩
end Go.Proofs.Ytnnblklbjbkikaa
namespace Go.Proofs.Ytnnblklbjbkikaa
open Go.ChangeShapes Go.WideShapes Go.ChangeAt Go.RowKit Go.Deep
set_option linter.unusedVariables false
/-- one piece turned -/
def upd (css : Nat → List Value) (k : Nat) (cs : List Value) : Nat → List Value := fun i => if i = k then cs else css i
theorem upd_same (css : Nat → List Value) (k : Nat) (cs : List Value) : upd css k cs k = cs := by simp [upd]
theorem upd_ne (css : Nat → List Value) {k i : Nat} (cs : List Value) (h : i ≠ k) : upd css k cs i = css i := by simp [upd, h]
theorem upd_upd (css : Nat → List Value) (k : Nat) (cs ds : List Value) : upd (upd css k cs) k ds = upd css k ds := by
  funext i; simp only [upd]; split <;> rfl
theorem upd_self (css : Nat → List Value) (k : Nat) : upd css k (css k) = css := by
  funext i; simp only [upd]; split
  · rename_i h; rw [h]
  · rfl
theorem upd_len {css : Nat → List Value} {k n C : Nat} {cs : List Value} (h : ∀ i, i < n → (css i).length = C) (hc : cs.length = C) (i : Nat) (hi : i < n) : (upd css k cs i).length = C := by
  unfold upd; split
  · exact hc
  · exact h i hi
theorem flatN_upd_ge (css : Nat → List Value) {k n : Nat} (cs : List Value) (h : n ≤ k) : flatN (upd css k cs) n = flatN css n := by
  induction n with
  | zero => rfl
  | succ n ih => rw [flatN, flatN, ih (by omega), upd_ne _ _ (by omega)]
theorem flatN_set {css : Nat → List Value} {C n : Nat} (h : ∀ i, i < n → (css i).length = C) {i j : Nat} (hi : i < n) (hj : j < C) (u : Value) : (flatN css n).set (i * C + j) u = flatN (upd css i ((css i).set j u)) n := by
  induction n with
  | zero => omega
  | succ n ih =>
    have hl : (flatN css n).length = n * C := flatN_len (fun i hi => h i (by omega))
    rw [flatN, flatN]
    by_cases hin : i < n
    · have : i * C + j < n * C := by
        have := Nat.mul_le_mul_right C (show i + 1 ≤ n by omega)
        rw [Nat.succ_mul] at this
        omega
      rw [List.set_append_left _ _ (by rw [hl]; exact this), ih (fun i hi => h i (by omega)) hin, upd_ne _ _ (by omega)]
    · have e : i = n := by omega
      subst e
      rw [List.set_append_right _ _ (by rw [hl]; omega), hl, flatN_upd_ge _ _ (Nat.le_refl _), upd_same]
      congr 2
      omega
/-- a row of such pieces; a cell of it is set -/
theorem Blk.setN {w : World} {b : Nat} {t : TypeId} {css : Nat → List Value} {n C : Nat} (hB : Blk w b t (flatN css n).toArray) (h : ∀ i, i < n → (css i).length = C) {i j : Nat} (hi : i < n) (hj : j < C) (u : Value) : Blk (w.setCell ⟨b, i * C + j, none⟩ u) b t (flatN (upd css i ((css i).set j u)) n).toArray := by
  have := hB.set_ (i * C + j) u
  rwa [List.setIfInBounds_toArray, flatN_set h hi hj u] at this
theorem Blk.getN {w : World} {b : Nat} {t : TypeId} {css : Nat → List Value} {n C : Nat} (hB : Blk w b t (flatN css n).toArray) (h : ∀ i, i < n → (css i).length = C) {i j : Nat} (hi : i < n) (hj : j < C) : w.cell? ⟨b, i * C + j, none⟩ = (css i)[j]? := by
  rw [hB.cell, List.getElem?_toArray, flatN_get h hi hj]
def wAr : List Ar → Nat
  | [] => 0
  | a :: l => wE a.x + (a.nm.size + 1) + wAr l
theorem wAr_mem {l : List Ar} {a : Ar} (h : a ∈ l) : wE a.x + (a.nm.size + 1) ≤ wAr l := by
  induction l with
  | nil => simp at h
  | cons x l ih =>
    rw [wAr]
    rcases List.mem_cons.1 h with rfl | h
    · omega
    · have := ih h; omega
theorem wAr_len (l : List Ar) : l.length ≤ wAr l := by
  induction l with
  | nil => exact Nat.zero_le _
  | cons x l ih => rw [wAr, List.length_cons]; omega
theorem argCk (w : World) (Q : Nat → Prop) (x : Ar) (cs : List Value) (h : ArgI w Q x cs) : CellsOk 6 cs := by
  obtain ⟨xcs, rfl, _, h⟩ := h
  obtain ⟨h1, h2⟩ := exprOk _ _ _ _ h
  exact ⟨by simp [h1], fun u hu => by rcases List.mem_cons.1 hu with rfl | hu; rfl; rcases List.mem_cons.1 hu with rfl | hu; rfl; exact h2 u hu⟩
theorem ArgI.keep {w w' : World} {Q Q' : Nat → Prop} {a : Ar} {cs : List Value} (h : ArgI w Q a cs) (hQ : ∀ b, Q b → Q' b) (hc : ∀ p : Addr, Q p.block → w'.cell? p = w.cell? p) : ArgI w' Q' a cs := by
  obtain ⟨xcs, h1, h2, h3⟩ := h
  exact ⟨xcs, h1, h2, h3.keep hQ hc⟩
theorem ArgI.open_ {w : World} {Q : Nat → Prop} {a : Ar} {cs : List Value} (h : ArgI w Q a cs) : ∃ o n s A l c, cs = [.bool a.ref, .string a.nm, .int .i64 o, .int .i64 n, .string s, .slice A l c] ∧ a.nm.size ≤ 9223372036854775807 ∧ ExprI w Q a.x [.int .i64 o, .int .i64 n, .string s, .slice A l c] := by
  obtain ⟨xcs, rfl, h2, h3⟩ := h
  obtain ⟨o, n, s, A, l, c, rfl⟩ := h3.form
  exact ⟨o, n, s, A, l, c, rfl, h2, h3⟩
theorem set4_cells (w : World) {b o : Nat} (v0 v1 v2 v3 : Value) : ((((w.setCell ⟨b, o, none⟩ v0).setCell ⟨b, o + 1, none⟩ v1).setCell ⟨b, o + 2, none⟩ v2).setCell ⟨b, o + 3, none⟩ v3).heap.size = w.heap.size ∧ ∀ p : Addr, p.block ≠ b → ((((w.setCell ⟨b, o, none⟩ v0).setCell ⟨b, o + 1, none⟩ v1).setCell ⟨b, o + 2, none⟩ v2).setCell ⟨b, o + 3, none⟩ v3).cell? p = w.cell? p := by
  refine ⟨by simp [World.setCell], fun p hp => ?_⟩
  have hne : ∀ j, p ≠ ⟨b, j, none⟩ := fun j e => hp (by rw [e])
  rw [cell_set_ne _ (hne _), cell_set_ne _ (hne _), cell_set_ne _ (hne _), cell_set_ne _ (hne _)]
end Go.Proofs.Ytnnblklbjbkikaa
namespace Go.Proofs.Ytnnblklbjbkikaa
open Go.ChangeShapes Go.WideShapes Go.ChangeAt Go.RowKit Go.Deep
set_option linter.unusedVariables false
def wT : List ByteArray → Nat
  | [] => 0
  | s :: l => s.size + 1 + wT l
theorem wT_mem {l : List ByteArray} {s : ByteArray} (h : s ∈ l) : s.size + 1 ≤ wT l := by
  induction l with
  | nil => simp at h
  | cons x l ih =>
    rw [wT]
    rcases List.mem_cons.1 h with rfl | h
    · omega
    · have := ih h; omega
theorem wT_len (l : List ByteArray) : l.length ≤ wT l := by
  induction l with
  | nil => exact Nat.zero_le _
  | cons x l ih => rw [wT, List.length_cons]; omega
theorem smT_of {l : List ByteArray} (h : wT l ≤ 1000000) : smT l := ⟨Nat.le_trans (wT_len l) h, fun s hs => by have := wT_mem hs; omega⟩
mutual
/-- how much a statement is -/
def wS : S → Nat
  | .mk _ _ labels nm proc x _ args th el => wE x + wT labels + (nm.size + 1) + (proc.size + 1) + wAr args + wSL th + wSL el
def wSL : List S → Nat
  | [] => 0
  | s :: l => wS s + wSL l
end
theorem wSL_mem {l : List S} {s : S} (h : s ∈ l) : wS s ≤ wSL l := by
  induction l with
  | nil => simp at h
  | cons x l ih =>
    rw [wSL]
    rcases List.mem_cons.1 h with rfl | h
    · omega
    · have := ih h; omega
theorem wS_pos (s : S) : 1 ≤ wS s := by cases s; rw [wS]; omega
theorem wSL_len (l : List S) : l.length ≤ wSL l := by
  induction l with
  | nil => exact Nat.zero_le _
  | cons x l ih => rw [wSL, List.length_cons]; have := wS_pos x; omega
mutual
def sizS : S → Nat
  | .mk _ _ _ _ _ _ _ _ th el => sizSL th + sizSL el + 1
def sizSL : List S → Nat
  | [] => 0
  | s :: l => sizS s + sizSL l
end
mutual
theorem sizS_w : ∀ s : S, sizS s ≤ wS s
  | .mk _ _ labels nm proc x _ args th el => by rw [sizS, wS]; have := sizSL_w th; have := sizSL_w el; omega
theorem sizSL_w : ∀ l : List S, sizSL l ≤ wSL l
  | [] => by rw [sizSL]; exact Nat.zero_le _
  | s :: l => by rw [sizSL, wSL]; have := sizS_w s; have := sizSL_w l; omega
end
/-- a statement that is not too great -/
def RS (w : World) (Q : Nat → Prop) (x : S) (cs : List Value) : Prop := StmtI w Q x cs ∧ wS x ≤ 1000000
theorem rsOk (w : World) (Q : Nat → Prop) (x : S) (cs : List Value) (h : RS w Q x cs) : CellsOk 13 cs := by
  obtain ⟨id, kind, labels, nm, proc, ex, has, args, th, el, L, lc, x0, x1, x2, X, xn, xc, R, rc, T, tc, U, uc, rfl, rfl, _⟩ := stmt_open h.1
  exact ⟨rfl, by simp [Value.oneCell']⟩
abbrev CopyS := Copy (α := S) 13 RS
theorem StmtI.of_slice {w : World} {Q : Nat → Prop} {id kind : Int} {labels : List ByteArray} {nm proc : ByteArray} {x : E} {has : Bool} {args : List Ar} {th el : List S} {vl va vt ve : Value} {x0 x1 x2 x3 : Value} (hid : i64 id) (hkind : i64 kind) (hnm : nm.size ≤ 9223372036854775807) (hproc : proc.size ≤ 9223372036854775807)
    (hl : TextsI w Q labels vl) (hx : ExprI w Q x [x0, x1, x2, x3]) (ha : SliceI w Q 6 (ArgI w Q) args va) (ht : StmtsI w Q th vt) (he : StmtsI w Q el ve) : StmtI w Q (.mk id kind labels nm proc x has args th el) [.int .i64 id, .int .i64 kind, vl, .string nm, .string proc, x0, x1, x2, x3, .bool has, va, vt, ve] := by
  obtain ⟨A1, cap1, css1, rfl, h1, h2, h3⟩ := ht
  obtain ⟨A2, cap2, css2, rfl, h4, h5, h6⟩ := he
  exact .mk hid hkind hnm hproc hl hx ha h1 h4 h2 h5 h3 h6
/-- how many nodes are ahead -/
def szHS : List (Hole S) → Nat
  | [] => 0
  | h :: hs => sizSL h.ts + szHS hs
theorem szHS_append (a b : List (Hole S)) : szHS (a ++ b) = szHS a + szHS b := by
  induction a with
  | nil => rw [List.nil_append, szHS]; omega
  | cons k a ih => rw [List.cons_append, szHS, szHS, ih]; omega
theorem len_szHS {hs : List (Hole S)} (hg : ∀ x ∈ hs.map slH, goodS x) : hs.length ≤ szHS hs := by
  induction hs with
  | nil => exact Nat.zero_le _
  | cons k hs ih =>
    have h1 := ih (fun x hx => hg x (by rw [List.map_cons]; exact List.mem_cons_of_mem _ hx))
    have h2 := (hg (slH k) (by rw [List.map_cons]; exact List.mem_cons_self ..)).1
    obtain ⟨b, o, ts, cap⟩ := k
    rw [szHS, List.length_cons]
    cases ts with
    | nil => simp [slH] at h2
    | cons t ts => simp only [sizSL]; cases t; rw [sizS]; omega
theorem CurS.own_lt {w : World} {base c : Nat} {v : Value} {last : Option Addr} {s : List SL} (h : CurS w base c v last s) {k : Nat} (hk : ownS c v k) : k < w.heap.size := by
  rcases hk with rfl | hk
  · exact h.blk.lt
  · rcases h.row.2 with ⟨rfl, _⟩ | ⟨g, cap, cur, rfl, _, hg, _⟩
    · simp [Value.ownBlock] at hk
    · have : g = k := by simpa [Value.ownBlock] using hk
      subst this
      exact (Array.getElem?_eq_some_iff.1 hg).1
/-- a node that is being filled: its cells now -/
structure NodeW (W q : World) (b o : Nat) (cs : List Value) : Prop where
  mv : Moves (fun k => k = b) W q
  lt : b < W.heap.size
  oth : ∀ p : Addr, p.block = b → ¬ (o ≤ p.off ∧ p.off < o + 13) → q.cell? p = W.cell? p
  blk : ∃ t bc, Blk q b t bc
  at_ : ∀ j u, cs[j]? = some u → q.cell? ⟨b, o + j, none⟩ = some u
  len : cs.length = 13
theorem NodeW.below {W q q' : World} {b o : Nat} {cs : List Value} (h : NodeW W q b o cs) (hb : Below q.heap.size q q') : NodeW W q' b o cs := by
  have hl : b < q.heap.size := Nat.lt_of_lt_of_le h.lt h.mv.size
  refine ⟨h.mv.trans (Below.moves hb) (fun j hj => .inl (Nat.le_trans h.mv.size hj)), h.lt, fun p hp hn => (hb.cell (by rw [hp]; exact hl)).trans (h.oth p hp hn), ?_, fun j u hu => (hb.cell (p := ⟨b, o + j, none⟩) hl).trans (h.at_ j u hu), h.len⟩
  obtain ⟨t, bc, hB⟩ := h.blk
  exact ⟨t, bc, hB.below hb hl⟩
theorem NodeW.set {W q : World} {b o : Nat} {cs : List Value} (h : NodeW W q b o cs) {j : Nat} (hj : j < 13) (u : Value) : NodeW W (q.setCell ⟨b, o + j, none⟩ u) b o (cs.set j u) := by
  obtain ⟨t, bc, hB⟩ := h.blk
  refine ⟨h.mv.set_ (.inl rfl) u, h.lt, fun p hp hn => ?_, ⟨t, _, hB.set_ (o + j) u⟩, fun i v hv => ?_, by rw [List.length_set]; exact h.len⟩
  · rw [cell_set_ne _ (fun e => hn (by rw [e]; simp; omega))]
    exact h.oth p hp hn
  · by_cases e : i = j
    · subst e
      rw [List.getElem?_set_self (by rw [h.len]; exact hj)] at hv
      have h1 := h.at_ i (cs[i]'(by rw [h.len]; exact hj)) (List.getElem?_eq_getElem _)
      rw [(hB.set_ (o + i) u).cell, Array.getElem?_setIfInBounds_self_of_lt]
      · exact hv
      · rw [hB.cell] at h1; exact (Array.getElem?_eq_some_iff.1 h1).1
    · rw [List.getElem?_set_ne (fun x => e x.symm)] at hv
      rw [cell_set_ne _ (fun x => e (by injection x with _ x _; omega))]
      exact h.at_ i v hv
theorem NodeW.frozen {W q : World} {b o : Nat} {cs : List Value} (h : NodeW W q b o cs) (j : Nat) : q.frozen? ⟨b, o + j, none⟩ = false := by
  obtain ⟨t, bc, hB⟩ := h.blk
  exact hB.frozen _
/-- a new row of statements, or none -/
def RowS' (w : World) (Q : Nat → Prop) (l : List S) (A : Option Addr) (cap M M' : Nat) (W : World) : Prop :=
  (l.length ≤ cap ∧ cap ≤ 9223372036854775807) ∧ (l = [] ∨ ∃ b css, A = some ⟨b, 0, none⟩ ∧ cap = l.length ∧ M ≤ b ∧ b < M' ∧ Blk W b 55 (flatN css l.length).toArray ∧ ∀ i (h : i < l.length), RS w Q l[i] (css i))
theorem row_holes {w W : World} {Q : Nat → Prop} {l : List S} {A : Option Addr} {cap M M' : Nat} (h : RowS' w Q l A cap M M' W) (hl : l.length ≤ 1000000) :
    ∃ new : List (Hole S), (∀ s, pushS s A l.length cap = new.map slH ++ s) ∧ szHS new = sizSL l ∧ (∀ k ∈ new, M ≤ k.b ∧ k.b < M' ∧ (∃ t cs, Blk W k.b t cs) ∧ atH 13 (RS w Q) W k) ∧ new.Pairwise (disH 13) ∧ (0 < l.length → A ≠ none) ∧
      ∀ V base, base ≤ M → (∀ k ∈ new, atH 13 (RS V (nb base V)) V k) → StmtsI V (nb base V) l (.slice A l.length cap) := by
  obtain ⟨h1, h2⟩ := h
  rcases h2 with rfl | ⟨b, css, rfl, rfl, h3, h4, h5, h6⟩
  · exact ⟨[], fun s => by rw [List.length_nil, pushS_zero]; rfl, by rw [szHS, sizSL], fun _ h => absurd h (by simp), .nil, fun h => absurd h (by simp), fun V base _ _ => ⟨A, cap, fun _ => [], rfl, h1, fun h => absurd h (by simp), fun i h => absurd h (by simp)⟩⟩
  · by_cases h0 : l.length = 0
    · have hn : l = [] := List.length_eq_zero_iff.1 h0
      subst hn
      exact ⟨[], fun s => by rw [List.length_nil, pushS_zero]; rfl, by rw [szHS, sizSL], fun _ h => absurd h (by simp), .nil, fun h => absurd h (by simp), fun V base _ _ => ⟨_, _, fun _ => [], rfl, h1, fun h => absurd h (by simp), fun i h => absurd h (by simp)⟩⟩
    · refine ⟨[⟨b, 0, l, l.length⟩], fun s => by rw [pushS_pos _ _ _ (by omega)]; rfl, by rw [szHS, szHS]; simp, fun k hk => ?_, List.pairwise_singleton _ _, fun _ => by simp, fun V base hb hd => ?_⟩
      · have : k = ⟨b, 0, l, l.length⟩ := by simpa using hk
        subst this
        refine ⟨h3, h4, ⟨_, _, h5⟩, fun i hi => ⟨css i, h6 i hi, fun j u hu => ?_⟩⟩
        have hj : j < 13 := by rw [← (rsOk _ _ _ _ (h6 i hi)).1]; exact (List.getElem?_eq_some_iff.1 hu).1
        rw [h5.cell]
        simp only [List.getElem?_toArray, Nat.zero_add]
        rw [flatN_get (fun i hi => (rsOk _ _ _ _ (h6 i hi)).1) hi hj]
        exact hu
      · have h7 := slice_of_at (base := base) (hd _ (List.mem_singleton.2 rfl)) (rsOk _ _) (by omega) (Nat.le_trans hb h3) hl
        obtain ⟨A', cap', ds, e1, e2, e3, e4⟩ := h7
        exact ⟨A', cap', ds, e1, e2, e3, fun i hi => (e4 i hi).1⟩
end Go.Proofs.Ytnnblklbjbkikaa
