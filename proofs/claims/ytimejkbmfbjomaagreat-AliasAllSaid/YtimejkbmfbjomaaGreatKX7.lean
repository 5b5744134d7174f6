/- Texts, merged by a program; only what is used. -/
import Derived.Deep.LoopGhost
import Derived.Test.YtimejkbmfbjomaaGreatKX1
import Derived.Test.YtimejkbmfbjomaaGreatKX2
import Derived.Test.YtimejkbmfbjomaaGreatKX3
import Derived.Test.YtimejkbmfbjomaaGreatKX4
import Derived.Test.YtimejkbmfbjomaaGreatKX5
import Derived.Test.YtimejkbmfbjomaaGreatKX6
namespace Go.Proofs.YtimejkbmfbjomaaGreat
open Go.ChangeShapes Go.WideShapes Go.ChangeAt Go.RowKit Go.Deep
set_option linter.unusedVariables false
set_option linter.unusedSimpArgs false
def idxL {α : Type} (f : α → Bool) : List α → Nat → Int
 | [], _ => -1
 | x :: l, k => if f x = true then (k : Int) else idxL f l (k + 1)
theorem idxL_drop {α : Type} {f : α → Bool} {l : List α} {k : Nat} (h : k < l.length) : idxL f (l.drop k) k = if f l[k] = true then (k : Int) else idxL f (l.drop (k + 1)) (k + 1) := by
 rw [List.drop_eq_getElem_cons h, idxL]
theorem idxL_get {α : Type} (f : α → Bool) : ∀ (l : List α) (k : Nat), idxL f l k = -1 ∧ l.find? f = none ∨ ∃ j, ∃ h : j < l.length, idxL f l k = ((k + j : Nat) : Int) ∧ f l[j] = true ∧ l.find? f = some l[j]
 | [], k => .inl ⟨rfl, rfl⟩
 | x :: l, k => by
  rw [idxL, List.find?_cons]
  by_cases hf : f x = true
  ·rw [if_pos hf, hf]
   exact .inr ⟨0, by simp, rfl, by simpa using hf, rfl⟩
  ·rw [if_neg hf, Bool.eq_false_iff.2 hf]
   rcases idxL_get f l (k + 1) with ⟨h1, h2⟩ | ⟨j, hj, h1, h2, h3⟩
   ·exact .inl ⟨h1, h2⟩
   ·exact .inr ⟨j + 1, by simpa using hj, by rw [h1]; congr 1; omega, by simpa using h2, by simpa using h3⟩
def isT (s : ByteArray) : ByteArray → Bool := fun t => decide (s = t)
set_option maxHeartbeats 1000000 in
theorem Index_any {w W : World} {Q : Nat → Prop} {l : List ByteArray} {v : Value} (h : TextsI w Q l v) (hI : In Q w W) (s : ByteArray) :
  Calls Tryz.prog 52 #[v, .string s] W fun e w' => e = .returned (.int .i64 (idxL (isT s) l 0)) ∧ W = w' := by
 obtain ⟨A, cap, rfl, hl1, hl2⟩ := h.shape
 have H := Lib.hid h
 have HI := Lib.hid hI
 clear h hI
 go_enter Tryz.func52, Tryz.ntmps52
 go_wp2_with fail
 go_loopg [8] l.length (fun kk i wr => ∃ k : Nat, k + kk = l.length ∧ i = .int .i64 k ∧ Hid (idxL (isT s) (l.drop k) k = idxL (isT s) l 0) ∧ wr = W)
 case atStart => exact ⟨0, by omega, rfl, Lib.hid (by rw [List.drop_zero]), rfl⟩
 case round =>
  obtain ⟨k, hk, rfl, HW, rfl⟩ := hrel
  by_cases hlt : k < l.length
  ·obtain ⟨a, rfl, _, p1, hs⟩ := text_at H.out HI.out hlt
   have HD := Lib.hid (idxL_drop (f := isT s) hlt)
   rw [HW.out] at HD
   have hv : isT s l[k] = (s.toList == l[k].toList) := (dec_bytes s l[k]).symm
   generalize l[k] = t at p1 hs HD hv
   cases hb : isT s t with
   | true =>
    rw [hb, if_pos rfl] at HD
    have hv2 : (s.toList == t.toList) = true := by rw [← hv]; exact hb
    clear hv hb
    go_wp2_with fail
    go_ret
    exact ⟨ret_int HD.out.symm, rfl⟩
   | false =>
    rw [hb, if_neg (by simp)] at HD
    have hv2 : (s.toList == t.toList) = false := by rw [← hv]; exact hb
    clear hv hb
    go_wp2_with fail
    go_roundg (l.length - k - 1)
    case measure => omega
    case rel => exact ⟨k + 1, by omega, by go_num, Lib.hid HD.out.symm, rfl⟩
  ·have HD : Hid (idxL (isT s) l 0 = -1) := Lib.hid (by rw [← HW.out, List.drop_of_length_le (by omega), idxL])
   go_wp2_with fail
   go_ret
   exact ⟨ret_int HD.out.symm, rfl⟩
theorem idx_has (s : ByteArray) (l : List ByteArray) : decide (0 ≤ idxL (isT s) l 0) = l.any (isT s) := by
 rcases idxL_get (isT s) l 0 with ⟨h1, h2⟩ | ⟨j, hj, h1, h2, _⟩
 ·rw [h1]
  have : l.any (isT s) = false := by
   rw [List.any_eq_false]
   intro x hx
   have := List.find?_eq_none.1 h2 x hx
   simpa using this
  rw [this]; rfl
 ·rw [h1, List.any_eq_true.2 ⟨_, List.getElem_mem hj, h2⟩]
  simp
theorem Contains_any {w W : World} {Q : Nat → Prop} {l : List ByteArray} {v : Value} (h : TextsI w Q l v) (hI : In Q w W) (s : ByteArray) :
  Calls Tryz.prog 94 #[v, .string s] W fun e w' => e = .returned (.bool (l.any (isT s))) ∧ W = w' := by
 have HC := Lib.hid (Index_any h hI s)
 have HE := Lib.hid (idx_has s l)
 obtain ⟨A, cap, rfl, _⟩ := h.shape
 clear h hI
 generalize idxL (isT s) l 0 = z at HC HE
 go_enter Tryz.func94, Tryz.ntmps94
 go_wp2_with (go_at_call 52; refine HC.out.mono ?_; rintro e w' ⟨rfl, rfl⟩)
 go_ret
 exact ⟨ret_bool HE.out, rfl⟩
def isQ (s : ByteArray) : Pr → Bool := fun q => decide (q.nm = s)
def isPa (s : ByteArray) : Pa → Bool := fun q => decide (q.nm = s)
set_option maxHeartbeats 1000000 in
theorem IndexPa_any {w W : World} {Q : Nat → Prop} {l : List Pa} {v : Value} (h : SliceI w Q 2 ParI l v) (hI : In Q w W) (s : ByteArray) (b : Nat) (hb : W.cell? ⟨b, 0, none⟩ = some (.string s)) :
  Calls Tryz.prog 159 #[v, .func (.func 160) #[] #[.pointer (some ⟨b, 0, none⟩)]] W fun e w' => e = .returned (.int .i64 (idxL (isPa s) l 0)) ∧ Below W.heap.size W w' := by
 obtain ⟨A, cap, rfl, hl1, hl2⟩ := h.shape
 have H := Lib.hid h
 have HI := Lib.hid hI
 have HB := Lib.hid hb
 clear h hI hb
 go_enter Tryz.func159, Tryz.ntmps159
 go_wp2_with fail
 go_loopg [8] l.length (fun kk i wr => ∃ k : Nat, k + kk = l.length ∧ i = .int .i64 k ∧ Hid (idxL (isPa s) (l.drop k) k = idxL (isPa s) l 0) ∧ Hid (Below W.heap.size W wr))
 case atStart => exact ⟨0, by omega, rfl, Lib.hid (by rw [List.drop_zero]), Lib.hid (Below.refl _ _)⟩
 case round =>
  obtain ⟨k, hk, rfl, HW, HR⟩ := hrel
  by_cases hlt : k < l.length
  ·obtain ⟨a, rfl, _, ⟨p0, p1, _⟩, hs⟩ := par_at H.out (HI.out.on HR.out) hlt
   have HD := Lib.hid (idxL_drop (f := isPa s) hlt)
   rw [HW.out] at HD
   have hv : isPa s l[k] = (l[k].nm.toList == s.toList) := (dec_bytes _ _).symm
   generalize l[k] = y at p0 p1 hs HD hv
   obtain ⟨yn, yr⟩ := y
   simp only at p0 p1 hs hv
   have q0 : wr.cell? ⟨b, 0, none⟩ = some (.string s) := (HR.out.cell (p := ⟨b, 0, none⟩) (World.block_lt_of_cell? W _ HB.out)).trans HB.out
   have hbl := World.block_lt_of_cell? wr _ q0
   cases hb : isPa s ⟨yn, yr⟩ with
   | true =>
    rw [hb, if_pos rfl] at HD
    have hv2 : (yn.toList == s.toList) = true := by rw [← hv]; exact hb
    clear hv hb
    go_wp2_with (go_at_call 160; go_in)
    go_ret
    exact ⟨ret_int HD.out.symm, below_step HR.out (below_box _)⟩
   | false =>
    rw [hb, if_neg (by simp)] at HD
    have hv2 : (yn.toList == s.toList) = false := by rw [← hv]; exact hb
    clear hv hb
    go_wp2_with (go_at_call 160; go_in)
    go_roundg (l.length - k - 1)
    case measure => omega
    case rel => exact ⟨k + 1, by omega, by go_num, Lib.hid HD.out.symm, Lib.hid (below_step HR.out (below_box _))⟩
  ·have HD : Hid (idxL (isPa s) l 0 = -1) := Lib.hid (by rw [← HW.out, List.drop_of_length_le (by omega), idxL])
   go_wp2_with fail
   go_ret
   exact ⟨ret_int HD.out.symm, HR.out⟩
def knd (gl : List ByteArray) (q : Pr) (s : ByteArray) : Int := (q.params.find? (isPa s)).elim (if q.vars.any (isT s) = true then 4 else if gl.any (isT s) = true then 1 else 0) (fun x => if x.ref = true then 3 else 2)
set_option maxHeartbeats 2000000 in
theorem kindIn_any {w : World} {Q : Nat → Prop} {gl : List ByteArray} {vg : Value} {q : Pr} {c0 c1 c2 c3 c4 : Value} (hg : TextsI w Q gl vg) (h : ProcI w Q q [c0, c1, c2, c3, c4]) (s : ByteArray) (W : World) (hI : In Q w W) :
  Calls Tryz.prog 118 #[vg, .agg #[c0, c1, c2, c3, c4], .string s] W fun e w' => e = .returned (.int .i64 (knd gl q s)) ∧ Below W.heap.size W w' := by
 obtain ⟨vp, vv, vb, ve, hc, hnm, hpp, hvv, hbb, hee⟩ := h
 simp only [List.cons.injEq, and_true] at hc
 obtain ⟨rfl, rfl, rfl, rfl, rfl⟩ := hc
 obtain ⟨Ap, cp, rfl, _, _⟩ := hpp.shape
 obtain ⟨Av, cv, rfl, _, _⟩ := hvv.shape
 obtain ⟨Ab, cb, rfl, _⟩ := hbb.shape
 obtain ⟨Ae, ce, rfl, _⟩ := hee.shape
 obtain ⟨Ag, cg, rfl, _⟩ := hg.shape
 have HG := Lib.hid (fun V hV => Contains_any (W := V) hg hV s)
 have HV := Lib.hid (fun V hV => Contains_any (W := V) hvv hV s)
 have HX := Lib.hid (fun V hV b hb => IndexPa_any (W := V) hpp hV s b hb)
 have HPp := Lib.hid hpp
 have HI := Lib.hid hI
 have HK : Hid (knd gl q s = (q.params.find? (isPa s)).elim (if q.vars.any (isT s) = true then 4 else if gl.any (isT s) = true then 1 else 0) (fun x => if x.ref = true then 3 else 2)) := Lib.hid rfl
 have hfd := idxL_get (isPa s) q.params 0
 clear hg hpp hvv hbb hee hI
 generalize idxL (isPa s) q.params 0 = z at HX hfd
 go_enter Tryz.func118, Tryz.ntmps118
 go_upto_region 1 with fail
 have HBp : Hid (Blk ((W.alloc (.cells #[.string q.nm, .slice Ap q.params.length cp, .slice Av q.vars.length cv, .slice Ab q.body.length cb, .slice Ae q.end_.length ce] 39)).alloc (.cells #[.string s] 9)) W.heap.size 39 #[.string q.nm, .slice Ap q.params.length cp, .slice Av q.vars.length cv, .slice Ab q.body.length cb, .slice Ae q.end_.length ce]) := Lib.hid ((Blk.new _ _ _).alloc _)
 have HBr : Hid (Blk ((W.alloc (.cells #[.string q.nm, .slice Ap q.params.length cp, .slice Av q.vars.length cv, .slice Ab q.body.length cb, .slice Ae q.end_.length ce] 39)).alloc (.cells #[.string s] 9)) (W.heap.size + 1) 9 #[.string s]) := Lib.hid (by have := Blk.new (W.alloc (.cells #[.string q.nm, .slice Ap q.params.length cp, .slice Av q.vars.length cv, .slice Ab q.body.length cb, .slice Ae q.end_.length ce] 39)) 9 #[.string s]; rw [World.size_alloc] at this; exact this)
 have HB0 : Hid (Below W.heap.size W ((W.alloc (.cells #[.string q.nm, .slice Ap q.params.length cp, .slice Av q.vars.length cv, .slice Ab q.body.length cb, .slice Ae q.end_.length ce] 39)).alloc (.cells #[.string s] 9))) := Lib.hid (below_stepA (below_box _) _)
 generalize World.alloc _ _ = V at HBp HBr HB0 ⊢
 have q1 : V.cell? ⟨W.heap.size, 1, none⟩ = some (.slice Ap q.params.length cp) := by rw [HBp.out.cell]; rfl
 have r0 : V.cell? ⟨W.heap.size + 1, 0, none⟩ = some (.string s) := by rw [HBr.out.cell]; rfl
 have hbl := HBp.out.lt
 have hbr := HBr.out.lt
 have HI0 := Lib.hid (HI.out.on HB0.out)
 go_upto_region 2 with (go_at_call 159; refine (HX.out V HI0.out _ r0).mono ?_; rintro e w1 ⟨rfl, hb1⟩)
 have HI1 := Lib.hid (HI0.out.on hb1)
 have HBp1 := Lib.hid (HBp.out.below hb1 hbl)
 have HBr1 := Lib.hid (HBr.out.below hb1 hbr)
 have HB1 := Lib.hid (below_step HB0.out hb1)
 clear q1 r0 hbl hbr hb1 HBp HBr HB0 HI0 HX
 have q1 : w1.cell? ⟨W.heap.size, 1, none⟩ = some (.slice Ap q.params.length cp) := by rw [HBp1.out.cell]; rfl
 have q2 : w1.cell? ⟨W.heap.size, 2, none⟩ = some (.slice Av q.vars.length cv) := by rw [HBp1.out.cell]; rfl
 have r0 : w1.cell? ⟨W.heap.size + 1, 0, none⟩ = some (.string s) := by rw [HBr1.out.cell]; rfl
 have hbl := HBp1.out.lt
 have hbr := HBr1.out.lt
 rcases hfd with ⟨rfl, hf⟩ | ⟨j, hj, rfl, _, hf⟩
 ·rw [hf, Option.elim_none] at HK
  clear hf
  generalize q.vars.any (isT s) = b1 at HV HK
  generalize gl.any (isT s) = b2 at HG HK
  cases b1
  ·cases b2
   ·go_wp2_with (first
     | (go_at_call 94; (with_reducible refine (HV.out w1 HI1.out).mono ?_); rintro e w' ⟨rfl, rfl⟩)
     | (go_at_call 94; (with_reducible refine (HG.out w1 HI1.out).mono ?_); rintro e w' ⟨rfl, rfl⟩))
    go_ret
    exact ⟨ret_int (by rw [HK.out]; rfl), HB1.out⟩
   ·go_wp2_with (first
     | (go_at_call 94; (with_reducible refine (HV.out w1 HI1.out).mono ?_); rintro e w' ⟨rfl, rfl⟩)
     | (go_at_call 94; (with_reducible refine (HG.out w1 HI1.out).mono ?_); rintro e w' ⟨rfl, rfl⟩))
    go_ret
    exact ⟨ret_int (by rw [HK.out]; rfl), HB1.out⟩
  ·go_wp2_with (go_at_call 94; (with_reducible refine (HV.out w1 HI1.out).mono ?_); rintro e w' ⟨rfl, rfl⟩)
   go_ret
   exact ⟨ret_int (by rw [HK.out]; rfl), HB1.out⟩
 ·rw [hf, Option.elim_some] at HK
  obtain ⟨a, rfl, _, ⟨p0, p1, _⟩, _⟩ := par_at HPp.out HI1.out hj
  rw [Nat.zero_add]
  cases hr : q.params[j].ref with
  | true =>
   rw [hr] at p1 HK
   clear hr hf
   go_wp2_with fail
   go_ret
   exact ⟨ret_int (by rw [HK.out]; rfl), HB1.out⟩
  | false =>
   rw [hr] at p1 HK
   clear hr hf
   go_wp2_with fail
   go_ret
   exact ⟨ret_int (by rw [HK.out]; rfl), HB1.out⟩
end Go.Proofs.YtimejkbmfbjomaaGreat
namespace Go.Proofs.YtimejkbmfbjomaaGreat
open Go.ChangeShapes Go.WideShapes Go.ChangeAt Go.RowKit Go.Deep
set_option linter.unusedVariables false
theorem size_set (q : World) (p : Addr) (u : Value) : (q.setCell p u).heap.size = q.heap.size := by simp [World.setCell]
end Go.Proofs.YtimejkbmfbjomaaGreat
namespace Go.Proofs.YtimejkbmfbjomaaGreat
open Go.ChangeShapes Go.WideShapes Go.ChangeAt Go.RowKit Go.Deep
set_option linter.unusedVariables false
/-- a new variable of the kind of statements -/
abbrev zS : Array Value := #[.int .i64 0, .int .i64 0, .slice none 0 0, .string ⟨#[]⟩, .string ⟨#[]⟩, .int .i64 0, .int .i64 0, .string ⟨#[]⟩, .slice none 0 0, .bool false, .slice none 0 0, .slice none 0 0, .slice none 0 0]
def S0 : S := .mk 0 0 [] ⟨#[]⟩ ⟨#[]⟩ (.mk 0 0 ⟨#[]⟩ []) false [] [] []
theorem i64_zero : i64 0 := ⟨by omega, by omega⟩
theorem set13_blk {w : World} {b : Nat} {d0 d1 d2 d3 d4 d5 d6 d7 d8 d9 d10 d11 d12 : Value} (h : Blk w b 49 zS) : Blk (World.setCell (World.setCell (World.setCell (World.setCell (World.setCell (World.setCell (World.setCell (World.setCell (World.setCell (World.setCell (World.setCell (World.setCell (World.setCell w ⟨b, 0, none⟩ d0) ⟨b, 1, none⟩ d1) ⟨b, 2, none⟩ d2) ⟨b, 3, none⟩ d3) ⟨b, 4, none⟩ d4) ⟨b, 5, none⟩ d5) ⟨b, 6, none⟩ d6) ⟨b, 7, none⟩ d7) ⟨b, 8, none⟩ d8) ⟨b, 9, none⟩ d9) ⟨b, 10, none⟩ d10) ⟨b, 11, none⟩ d11) ⟨b, 12, none⟩ d12) b 49 #[d0, d1, d2, d3, d4, d5, d6, d7, d8, d9, d10, d11, d12] := by
  have := (((((((((((((h.set_ 0 d0).set_ 1 d1).set_ 2 d2).set_ 3 d3).set_ 4 d4).set_ 5 d5).set_ 6 d6).set_ 7 d7).set_ 8 d8).set_ 9 d9).set_ 10 d10).set_ 11 d11).set_ 12 d12)
  simp only [List.setIfInBounds_toArray, List.set_cons_zero, List.set_cons_succ] at this
  exact this
end Go.Proofs.YtimejkbmfbjomaaGreat
namespace Go.Proofs.YtimejkbmfbjomaaGreat
open Go.ChangeShapes Go.WideShapes Go.ChangeAt Go.RowKit Go.Deep
set_option linter.unusedVariables false
/-- the first statement with that id, and its procedure -/
def findL : List Pr → Int → ByteArray × S × Bool
  | [], _ => (⟨#[]⟩, S0, false)
  | q :: l, id => ((preSL q.body).find? (fun s => s.id == id)).elim (findL l id) (fun s => (q.nm, s, true))
def findP (p : Pg) (id : Int) : ByteArray × S × Bool := findL p.procs id
mutual
theorem preS_w : ∀ (s : S) (x : S), x ∈ preS s → wS x ≤ wS s
  | .mk id kind labels nm proc e has args th el, x, h => by
    rw [preS] at h
    rcases List.mem_cons.1 h with rfl | h
    · exact Nat.le_refl _
    · rw [wS]
      rcases List.mem_append.1 h with h | h
      · have := preSL_w th x h; omega
      · have := preSL_w el x h; omega
theorem preSL_w : ∀ (l : List S) (x : S), x ∈ preSL l → wS x ≤ wSL l
  | [], x, h => by rw [preSL] at h; simp at h
  | s :: l, x, h => by
    rw [preSL] at h
    rw [wSL]
    rcases List.mem_append.1 h with h | h
    · have := preS_w s x h; omega
    · have := preSL_w l x h; omega
end
theorem blk13 {w : World} {b : Nat} {d0 d1 d2 d3 d4 d5 d6 d7 d8 d9 d10 d11 d12 : Value} (h : Blk w b 49 zS) : Blk (World.setCell (World.setCell (World.setCell (World.setCell (World.setCell (World.setCell (World.setCell (World.setCell (World.setCell (World.setCell (World.setCell (World.setCell (World.setCell w ⟨b, 0, none⟩ d0) ⟨b, 1, none⟩ d1) ⟨b, 2, none⟩ d2) ⟨b, 3, none⟩ d3) ⟨b, 4, none⟩ d4) ⟨b, 5, none⟩ d5) ⟨b, 6, none⟩ d6) ⟨b, 7, none⟩ d7) ⟨b, 8, none⟩ d8) ⟨b, 9, none⟩ d9) ⟨b, 10, none⟩ d10) ⟨b, 11, none⟩ d11) ⟨b, 12, none⟩ d12) b 49 #[d0, d1, d2, d3, d4, d5, d6, d7, d8, d9, d10, d11, d12] := set13_blk h
end Go.Proofs.YtimejkbmfbjomaaGreat
