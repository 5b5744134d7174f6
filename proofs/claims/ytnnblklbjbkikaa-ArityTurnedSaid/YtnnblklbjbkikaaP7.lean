/- Texts, merged by a program; only what is used. -/
import Derived.Deep.RegionHeld3
import Derived.Deep.LoopGhost
import Derived.Deep.Cut
import Derived.Deep.CutRange
import Derived.Laws.Rows
import Derived.Test.YtnnblklbjbkikaaP1
import Derived.Test.YtnnblklbjbkikaaP2
import Derived.Test.YtnnblklbjbkikaaP3
import Derived.Test.YtnnblklbjbkikaaP4
import Derived.Test.YtnnblklbjbkikaaP5
import Derived.Test.YtnnblklbjbkikaaP6
namespace Go.Proofs.Ytnnblklbjbkikaa
open Go.ChangeShapes Go.WideShapes Go.ChangeAt Go.RowKit Go.Deep
set_option linter.unusedVariables false
/-- the blocks made since -/
abbrev nw (W w' : World) : Nat → Prop := fun b => W.heap.size ≤ b ∧ b < w'.heap.size
theorem addr0 (b k : Nat) : (⟨b, 0, none⟩ : Addr).add k = ⟨b, k, none⟩ := by
  by_cases h0 : k = 0
  · subst h0; rw [add_zero_]
  · rw [add_ne _ h0]; simp
theorem below_setc {B : Nat} {a b : World} (h : Below B a b) {p : Addr} (hp : B ≤ p.block) (u : Value) : Below B a (b.setCell p u) :=
  ⟨h.os, h.tape, h.output, by simp only [World.setCell, Array.size_modify]; exact h.size, fun k hk => (Below.heap_setCell _ _ _ _ (by omega)).trans (h.block k hk)⟩
theorem row_slice {α : Type} {w' : World} {Q : Nat → Prop} {C : Nat} {R : α → List Value → Prop} {l : List α} {b : Nat} {t : TypeId} {css : Nat → List Value} (hb : Blk w' b t (flatN css l.length).toArray) (hr : ∀ i (h : i < l.length), R l[i] (css i)) (hC : ∀ x cs, R x cs → CellsOk C cs) (hq : Q b) (hl : l.length ≤ 1000000) :
    SliceI w' Q C R l (.slice (some ⟨b, 0, none⟩) l.length l.length) := by
  refine ⟨some ⟨b, 0, none⟩, l.length, css, rfl, ⟨Nat.le_refl _, by omega⟩, fun _ => ⟨_, rfl, hq, fun i hi j u hu => ?_⟩, hr⟩
  rw [addr0, hb.cell]
  simp only [List.getElem?_toArray]
  have hj : j < C := by rw [← (hC _ _ (hr i hi)).1]; exact (List.getElem?_eq_some_iff.1 hu).1
  rw [flatN_get (fun i hi => (hC _ _ (hr i hi)).1) hi hj]
  exact hu
theorem nil_slice {α : Type} {w' : World} {Q : Nat → Prop} {C : Nat} {R : α → List Value → Prop} : SliceI w' Q C R ([] : List α) (.slice none 0 0) :=
  ⟨none, 0, fun _ => [], rfl, ⟨Nat.le_refl _, by omega⟩, fun h => absurd h (by simp), fun i h => absurd h (by simp)⟩
theorem set_same {cs : Array Value} {i : Nat} {u : Value} (h : cs[i]? = some u) : cs.setIfInBounds i u = cs := by
  apply Array.ext
  · simp
  · intro k h1 h2
    rw [Array.getElem_setIfInBounds]
    split
    · rename_i hk; subst hk; obtain ⟨_, h⟩ := Array.getElem?_eq_some_iff.1 h; exact h.symm
    · rfl
theorem textOk (s : ByteArray) (cs : List Value) (h : TextI s cs) : CellsOk 1 cs := by obtain ⟨rfl, _⟩ := h; exact ⟨rfl, by simp [Value.oneCell']⟩
theorem parOk (s : Pa) (cs : List Value) (h : ParI s cs) : CellsOk 2 cs := by obtain ⟨rfl, _⟩ := h; exact ⟨rfl, by simp [Value.oneCell']⟩
/-- texts that a copy takes no great memory for -/
def smT (l : List ByteArray) : Prop := l.length ≤ 1000000 ∧ ∀ s ∈ l, s.size ≤ 1000000
/-- parameters that a copy takes no great memory for -/
def smP (l : List Pa) : Prop := l.length ≤ 1000000 ∧ ∀ s ∈ l, s.nm.size ≤ 1000000
end Go.Proofs.Ytnnblklbjbkikaa
namespace Go.Proofs.Ytnnblklbjbkikaa
open Go.ChangeShapes Go.WideShapes Go.ChangeAt Go.RowKit Go.Deep
set_option linter.unusedVariables false
/-- a piece of a row: block, place, the nodes, the capacity that the cursor keeps of it -/
structure Hole (α : Type) where
  b : Nat
  o : Nat
  ts : List α
  cap : Nat
section
variable {α : Type} {C : Nat} {R : World → (Nat → Prop) → α → List Value → Prop} {w W W' : World} {Q : Nat → Prop} {base : Nat} {G : World → Prop} {hs : List (Hole α)} {T : Nat → Prop}
end
end Go.Proofs.Ytnnblklbjbkikaa
namespace Go.Proofs.Ytnnblklbjbkikaa
open Go.ChangeShapes Go.WideShapes Go.ChangeAt Go.RowKit Go.Deep
set_option linter.unusedVariables false
theorem exprOk (w : World) (Q : Nat → Prop) (x : E) (cs : List Value) (h : ExprI w Q x cs) : CellsOk 4 cs := by cases h; exact ⟨rfl, by simp [Value.oneCell']⟩
theorem ExprI.of_slice {V : World} {Q : Nat → Prop} {op n : Int} {nm : ByteArray} {ks : List E} {v : Value} (h : SliceI V Q 4 (ExprI V Q) ks v) (hop : i64 op) (hn : i64 n) (hnm : nm.size ≤ 9223372036854775807) : ExprI V Q (.mk op n nm ks) [.int .i64 op, .int .i64 n, .string nm, v] := by
  obtain ⟨A, cap, css, rfl, h2, h3, h4⟩ := h
  exact .mk hop hn hnm h2 h3 h4
mutual
/-- how much an expression is: each node, each byte of a name -/
def wE : E → Nat
  | .mk _ _ nm ks => wL ks + nm.size + 1
def wL : List E → Nat
  | [] => 0
  | k :: ks => wE k + wL ks
end
theorem wL_mem {ks : List E} {k : E} (h : k ∈ ks) : wE k ≤ wL ks := by
  induction ks with
  | nil => simp at h
  | cons x ks ih =>
    rw [wL]
    rcases List.mem_cons.1 h with rfl | h
    · omega
    · have := ih h; omega
theorem wL_len (ks : List E) : ks.length ≤ wL ks := by
  induction ks with
  | nil => exact Nat.zero_le _
  | cons x ks ih => rw [wL, List.length_cons]; cases x; rw [wE]; omega
mutual
theorem sizE_w : ∀ e : E, sizE e ≤ wE e
  | .mk _ _ nm ks => by rw [sizE, wE]; have := sizL_w ks; omega
theorem sizL_w : ∀ ks : List E, sizL ks ≤ wL ks
  | [] => by rw [sizL]; exact Nat.zero_le _
  | k :: ks => by rw [sizL, wL]; have := sizE_w k; have := sizL_w ks; omega
end
theorem cell_set_ne {w : World} {p q : Addr} (u : Value) (h : q ≠ p) : (w.setCell p u).cell? q = w.cell? q := World.cell?_setCell_other _ _ _ _ (fun e => h e.symm)
end Go.Proofs.Ytnnblklbjbkikaa
namespace Go.Proofs.Ytnnblklbjbkikaa
open Go.ChangeShapes Go.WideShapes Go.ChangeAt Go.RowKit Go.Deep
set_option linter.unusedVariables false
theorem below_step {V U q : World} (h : Below V.heap.size V U) (hb : Below U.heap.size U q) : Below V.heap.size V q := h.trans (hb.mono h.size)
theorem below_stepA {V U : World} (h : Below V.heap.size V U) (o : Obj) : Below V.heap.size V (U.alloc o) := below_step h (below_box o)
theorem below_set4 {V U : World} (h : Below V.heap.size V U) {b : Nat} (hb : V.heap.size ≤ b) (v0 v1 v2 v3 : Value) : Below V.heap.size V ((((U.setCell ⟨b, 0, none⟩ v0).setCell ⟨b, 1, none⟩ v1).setCell ⟨b, 2, none⟩ v2).setCell ⟨b, 3, none⟩ v3) := below_setc (below_setc (below_setc (below_setc h hb _) hb _) hb _) hb _
section
variable {α : Type} {C : Nat} {R : World → (Nat → Prop) → α → List Value → Prop} {w W W' : World} {Q : Nat → Prop} {base : Nat} {G : World → Prop} {hs : List (Hole α)} {T : Nat → Prop}
end
end Go.Proofs.Ytnnblklbjbkikaa
namespace Go.Proofs.Ytnnblklbjbkikaa
open Go.ChangeShapes Go.WideShapes Go.ChangeAt Go.RowKit Go.Deep
set_option linter.unusedVariables false
set_option linter.unusedSimpArgs false
def idxL {α : Type} (f : α → Bool) : List α → Nat → Int
 | [], _ => -1
 | x :: l, k => if f x = true then (k : Int) else idxL f l (k + 1)
theorem idxL_drop {α : Type} {f : α → Bool} {l : List α} {k : Nat} (h : k < l.length) : idxL f (l.drop k) k = if f l[k] = true then (k : Int) else idxL f (l.drop (k + 1)) (k + 1) := by
 rw [List.drop_eq_getElem_cons h, idxL]
theorem idxL_get {α : Type} (f : α → Bool) : ∀ (l : List α) (k : Nat), idxL f l k = -1 ∧ l.find? f = none ∨ ∃ j, ∃ h : j < l.length, idxL f l k = ((k + j : Nat) : Int) ∧ f l[j] = true ∧ l.find? f = some l[j]
 | [], k => .inl ⟨rfl, rfl⟩
 | x :: l, k => by
  rw [idxL, List.find?_cons]
  by_cases hf : f x = true
  ·rw [if_pos hf, hf]
   exact .inr ⟨0, by simp, rfl, by simpa using hf, rfl⟩
  ·rw [if_neg hf, Bool.eq_false_iff.2 hf]
   rcases idxL_get f l (k + 1) with ⟨h1, h2⟩ | ⟨j, hj, h1, h2, h3⟩
   ·exact .inl ⟨h1, h2⟩
   ·exact .inr ⟨j + 1, by simpa using hj, by rw [h1]; congr 1; omega, by simpa using h2, by simpa using h3⟩
def isT (s : ByteArray) : ByteArray → Bool := fun t => decide (s = t)
set_option maxHeartbeats 1000000 in
theorem Index_any {w W : World} {Q : Nat → Prop} {l : List ByteArray} {v : Value} (h : TextsI w Q l v) (hI : In Q w W) (s : ByteArray) :
  Calls Try.prog 74 #[v, .string s] W fun e w' => e = .returned (.int .i64 (idxL (isT s) l 0)) ∧ W = w' := by
 obtain ⟨A, cap, rfl, hl1, hl2⟩ := h.shape
 have H := Lib.hid h
 have HI := Lib.hid hI
 clear h hI
 go_enter Try.func74, Try.ntmps74
 go_wp2_with fail
 go_loopg [8] l.length (fun kk i wr => ∃ k : Nat, k + kk = l.length ∧ i = .int .i64 k ∧ Hid (idxL (isT s) (l.drop k) k = idxL (isT s) l 0) ∧ wr = W)
 case atStart => exact ⟨0, by omega, rfl, Lib.hid (by rw [List.drop_zero]), rfl⟩
 case round =>
  obtain ⟨k, hk, rfl, HW, rfl⟩ := hrel
  by_cases hlt : k < l.length
  ·obtain ⟨a, rfl, _, p1, hs⟩ := text_at H.out HI.out hlt
   have HD := Lib.hid (idxL_drop (f := isT s) hlt)
   rw [HW.out] at HD
   have hv : isT s l[k] = (s.toList == l[k].toList) := (dec_bytes s l[k]).symm
   generalize l[k] = t at p1 hs HD hv
   cases hb : isT s t with
   | true =>
    rw [hb, if_pos rfl] at HD
    have hv2 : (s.toList == t.toList) = true := by rw [← hv]; exact hb
    clear hv hb
    go_wp2_with fail
    go_ret
    exact ⟨ret_int HD.out.symm, rfl⟩
   | false =>
    rw [hb, if_neg (by simp)] at HD
    have hv2 : (s.toList == t.toList) = false := by rw [← hv]; exact hb
    clear hv hb
    go_wp2_with fail
    go_roundg (l.length - k - 1)
    case measure => omega
    case rel => exact ⟨k + 1, by omega, by go_num, Lib.hid HD.out.symm, rfl⟩
  ·have HD : Hid (idxL (isT s) l 0 = -1) := Lib.hid (by rw [← HW.out, List.drop_of_length_le (by omega), idxL])
   go_wp2_with fail
   go_ret
   exact ⟨ret_int HD.out.symm, rfl⟩
theorem idx_has (s : ByteArray) (l : List ByteArray) : decide (0 ≤ idxL (isT s) l 0) = l.any (isT s) := by
 rcases idxL_get (isT s) l 0 with ⟨h1, h2⟩ | ⟨j, hj, h1, h2, _⟩
 ·rw [h1]
  have : l.any (isT s) = false := by
   rw [List.any_eq_false]
   intro x hx
   have := List.find?_eq_none.1 h2 x hx
   simpa using this
  rw [this]; rfl
 ·rw [h1, List.any_eq_true.2 ⟨_, List.getElem_mem hj, h2⟩]
  simp
theorem Contains_any {w W : World} {Q : Nat → Prop} {l : List ByteArray} {v : Value} (h : TextsI w Q l v) (hI : In Q w W) (s : ByteArray) :
  Calls Try.prog 94 #[v, .string s] W fun e w' => e = .returned (.bool (l.any (isT s))) ∧ W = w' := by
 have HC := Lib.hid (Index_any h hI s)
 have HE := Lib.hid (idx_has s l)
 obtain ⟨A, cap, rfl, _⟩ := h.shape
 clear h hI
 generalize idxL (isT s) l 0 = z at HC HE
 go_enter Try.func94, Try.ntmps94
 go_wp2_with (go_at_call 74; refine HC.out.mono ?_; rintro e w' ⟨rfl, rfl⟩)
 go_ret
 exact ⟨ret_bool HE.out, rfl⟩
def isQ (s : ByteArray) : Pr → Bool := fun q => decide (q.nm = s)
def isPa (s : ByteArray) : Pa → Bool := fun q => decide (q.nm = s)
set_option maxHeartbeats 1000000 in
theorem IndexQ_any {w W : World} {Q : Nat → Prop} {l : List Pr} {v : Value} (h : SliceI w Q 5 (ProcI w Q) l v) (hI : In Q w W) (s : ByteArray) (b : Nat) (hb : W.cell? ⟨b, 0, none⟩ = some (.string s)) :
  Calls Try.prog 117 #[v, .func (.func 118) #[] #[.pointer (some ⟨b, 0, none⟩)]] W fun e w' => e = .returned (.int .i64 (idxL (isQ s) l 0)) ∧ Below W.heap.size W w' := by
 obtain ⟨A, cap, rfl, hl1, hl2⟩ := h.shape
 have H := Lib.hid h
 have HI := Lib.hid hI
 have HB := Lib.hid hb
 clear h hI hb
 go_enter Try.func117, Try.ntmps117
 go_wp2_with fail
 go_loopg [8] l.length (fun kk i wr => ∃ k : Nat, k + kk = l.length ∧ i = .int .i64 k ∧ Hid (idxL (isQ s) (l.drop k) k = idxL (isQ s) l 0) ∧ Hid (Below W.heap.size W wr))
 case atStart => exact ⟨0, by omega, rfl, Lib.hid (by rw [List.drop_zero]), Lib.hid (Below.refl _ _)⟩
 case round =>
  obtain ⟨k, hk, rfl, HW, HR⟩ := hrel
  by_cases hlt : k < l.length
  ·obtain ⟨a, Cp, kp, Cv, kv, Cb, kb, Ce, ke, rfl, _, ⟨p0, p1, p2, p3, p4, _⟩, _⟩ := proc_at H.out (HI.out.on HR.out) hlt
   have HD := Lib.hid (idxL_drop (f := isQ s) hlt)
   rw [HW.out] at HD
   have hv : isQ s l[k] = (l[k].nm.toList == s.toList) := (dec_bytes _ _).symm
   generalize l[k] = y at p0 p1 p2 p3 p4 HD hv
   obtain ⟨yn, yp, yv, yb, ye⟩ := y
   simp only at p0 p1 p2 p3 p4 hv
   have q0 : wr.cell? ⟨b, 0, none⟩ = some (.string s) := (HR.out.cell (p := ⟨b, 0, none⟩) (World.block_lt_of_cell? W _ HB.out)).trans HB.out
   have hbl := World.block_lt_of_cell? wr _ q0
   cases hb : isQ s ⟨yn, yp, yv, yb, ye⟩ with
   | true =>
    rw [hb, if_pos rfl] at HD
    have hv2 : (yn.toList == s.toList) = true := by rw [← hv]; exact hb
    clear hv hb
    go_wp2_with (go_at_call 118; go_in)
    go_ret
    exact ⟨ret_int HD.out.symm, below_step HR.out (below_box _)⟩
   | false =>
    rw [hb, if_neg (by simp)] at HD
    have hv2 : (yn.toList == s.toList) = false := by rw [← hv]; exact hb
    clear hv hb
    go_wp2_with (go_at_call 118; go_in)
    go_roundg (l.length - k - 1)
    case measure => omega
    case rel => exact ⟨k + 1, by omega, by go_num, Lib.hid HD.out.symm, Lib.hid (below_step HR.out (below_box _))⟩
  ·have HD : Hid (idxL (isQ s) l 0 = -1) := Lib.hid (by rw [← HW.out, List.drop_of_length_le (by omega), idxL])
   go_wp2_with fail
   go_ret
   exact ⟨ret_int HD.out.symm, HR.out⟩
set_option maxHeartbeats 1000000 in
theorem IndexPa_any {w W : World} {Q : Nat → Prop} {l : List Pa} {v : Value} (h : SliceI w Q 2 ParI l v) (hI : In Q w W) (s : ByteArray) (b : Nat) (hb : W.cell? ⟨b, 0, none⟩ = some (.string s)) :
  Calls Try.prog 120 #[v, .func (.func 121) #[] #[.pointer (some ⟨b, 0, none⟩)]] W fun e w' => e = .returned (.int .i64 (idxL (isPa s) l 0)) ∧ Below W.heap.size W w' := by
 obtain ⟨A, cap, rfl, hl1, hl2⟩ := h.shape
 have H := Lib.hid h
 have HI := Lib.hid hI
 have HB := Lib.hid hb
 clear h hI hb
 go_enter Try.func120, Try.ntmps120
 go_wp2_with fail
 go_loopg [8] l.length (fun kk i wr => ∃ k : Nat, k + kk = l.length ∧ i = .int .i64 k ∧ Hid (idxL (isPa s) (l.drop k) k = idxL (isPa s) l 0) ∧ Hid (Below W.heap.size W wr))
 case atStart => exact ⟨0, by omega, rfl, Lib.hid (by rw [List.drop_zero]), Lib.hid (Below.refl _ _)⟩
 case round =>
  obtain ⟨k, hk, rfl, HW, HR⟩ := hrel
  by_cases hlt : k < l.length
  ·obtain ⟨a, rfl, _, ⟨p0, p1, _⟩, hs⟩ := par_at H.out (HI.out.on HR.out) hlt
   have HD := Lib.hid (idxL_drop (f := isPa s) hlt)
   rw [HW.out] at HD
   have hv : isPa s l[k] = (l[k].nm.toList == s.toList) := (dec_bytes _ _).symm
   generalize l[k] = y at p0 p1 hs HD hv
   obtain ⟨yn, yr⟩ := y
   simp only at p0 p1 hs hv
   have q0 : wr.cell? ⟨b, 0, none⟩ = some (.string s) := (HR.out.cell (p := ⟨b, 0, none⟩) (World.block_lt_of_cell? W _ HB.out)).trans HB.out
   have hbl := World.block_lt_of_cell? wr _ q0
   cases hb : isPa s ⟨yn, yr⟩ with
   | true =>
    rw [hb, if_pos rfl] at HD
    have hv2 : (yn.toList == s.toList) = true := by rw [← hv]; exact hb
    clear hv hb
    go_wp2_with (go_at_call 121; go_in)
    go_ret
    exact ⟨ret_int HD.out.symm, below_step HR.out (below_box _)⟩
   | false =>
    rw [hb, if_neg (by simp)] at HD
    have hv2 : (yn.toList == s.toList) = false := by rw [← hv]; exact hb
    clear hv hb
    go_wp2_with (go_at_call 121; go_in)
    go_roundg (l.length - k - 1)
    case measure => omega
    case rel => exact ⟨k + 1, by omega, by go_num, Lib.hid HD.out.symm, Lib.hid (below_step HR.out (below_box _))⟩
  ·have HD : Hid (idxL (isPa s) l 0 = -1) := Lib.hid (by rw [← HW.out, List.drop_of_length_le (by omega), idxL])
   go_wp2_with fail
   go_ret
   exact ⟨ret_int HD.out.symm, HR.out⟩
def fndP (p : Pg) (s : ByteArray) : Int := if mayP p = true then idxL (isQ s) p.procs 0 else -1
theorem find_any {w : World} {Q : Nat → Prop} {p : Pg} {c0 c1 : Value} (h : ProgI w Q p [c0, c1]) (s : ByteArray) (W : World) (hI : In Q w W) :
  Calls Try.prog 85 #[.agg #[c0, c1], .string s] W fun e w' => e = .returned (.int .i64 (fndP p s)) ∧ Below W.heap.size W w' := by
 have HM := Lib.hid (fun V hV => May_any h V hV)
 obtain ⟨Ag, cg, Ap, cp, rfl, rfl, _, _, _, _, _, hpr⟩ := prog_open h
 have HX := Lib.hid (fun V hV b hb => IndexQ_any (W := V) hpr hV s b hb)
 have HI := Lib.hid hI
 have HF : Hid (fndP p s = if mayP p = true then idxL (isQ s) p.procs 0 else -1) := Lib.hid rfl
 clear h hI hpr
 generalize idxL (isQ s) p.procs 0 = z at HX HF
 go_enter Try.func85, Try.ntmps85
 go_upto_region 1 with fail
 have HBp : Hid (Blk ((W.alloc (.cells #[.slice Ag p.globals.length cg, .slice Ap p.procs.length cp] 25)).alloc (.cells #[.string s] 9)) W.heap.size 25 #[.slice Ag p.globals.length cg, .slice Ap p.procs.length cp]) := Lib.hid ((Blk.new _ _ _).alloc _)
 have HBr : Hid (Blk ((W.alloc (.cells #[.slice Ag p.globals.length cg, .slice Ap p.procs.length cp] 25)).alloc (.cells #[.string s] 9)) (W.heap.size + 1) 9 #[.string s]) := Lib.hid (by have := Blk.new (W.alloc (.cells #[.slice Ag p.globals.length cg, .slice Ap p.procs.length cp] 25)) 9 #[.string s]; rw [World.size_alloc] at this; exact this)
 have HB0 : Hid (Below W.heap.size W ((W.alloc (.cells #[.slice Ag p.globals.length cg, .slice Ap p.procs.length cp] 25)).alloc (.cells #[.string s] 9))) := Lib.hid (below_stepA (below_box _) _)
 generalize World.alloc _ _ = V at HBp HBr HB0 ⊢
 have q0 : V.cell? ⟨W.heap.size, 0, none⟩ = some (.slice Ag p.globals.length cg) := by rw [HBp.out.cell]; rfl
 have q1 : V.cell? ⟨W.heap.size, 1, none⟩ = some (.slice Ap p.procs.length cp) := by rw [HBp.out.cell]; rfl
 have hbl := HBp.out.lt
 have hbr := HBr.out.lt
 cases hm : mayP p with
 | false =>
  rw [hm] at HM HF
  clear hm
  go_wp2_with (go_at_call 14; refine (HM.out V (HI.out.on HB0.out)).mono ?_; rintro e w1 ⟨rfl, hb1⟩)
  go_ret
  exact ⟨ret_int (by rw [HF.out]; rfl), below_step HB0.out hb1⟩
 | true =>
  rw [hm] at HM HF
  clear hm
  go_wp2_with (first
   | (go_at_call 14; refine (HM.out V (HI.out.on HB0.out)).mono ?_; rintro e w1 ⟨rfl, hb1⟩; have HI1 := Lib.hid ((HI.out.on HB0.out).on hb1); have q0' : w1.cell? ⟨W.heap.size, 0, none⟩ = some (.slice Ag p.globals.length cg) := (hb1.cell (p := ⟨W.heap.size, 0, none⟩) hbl).trans q0; have q1' : w1.cell? ⟨W.heap.size, 1, none⟩ = some (.slice Ap p.procs.length cp) := (hb1.cell (p := ⟨W.heap.size, 1, none⟩) hbl).trans q1; have r0' : w1.cell? ⟨W.heap.size + 1, 0, none⟩ = some (.string s) := (by rw [(HBr.out.below hb1 hbr).cell]; rfl))
   | (go_at_call 117; refine (HX.out w1 HI1.out _ r0').mono ?_; rintro e w2 ⟨rfl, hb2⟩))
  go_ret
  exact ⟨ret_int (by rw [HF.out]; rfl), below_step (below_step HB0.out hb1) hb2⟩
def knd (gl : List ByteArray) (q : Pr) (s : ByteArray) : Int := (q.params.find? (isPa s)).elim (if q.vars.any (isT s) = true then 4 else if gl.any (isT s) = true then 1 else 0) (fun x => if x.ref = true then 3 else 2)
set_option maxHeartbeats 2000000 in
theorem kindIn_any {w : World} {Q : Nat → Prop} {gl : List ByteArray} {vg : Value} {q : Pr} {c0 c1 c2 c3 c4 : Value} (hg : TextsI w Q gl vg) (h : ProcI w Q q [c0, c1, c2, c3, c4]) (s : ByteArray) (W : World) (hI : In Q w W) :
  Calls Try.prog 87 #[vg, .agg #[c0, c1, c2, c3, c4], .string s] W fun e w' => e = .returned (.int .i64 (knd gl q s)) ∧ Below W.heap.size W w' := by
 obtain ⟨vp, vv, vb, ve, hc, hnm, hpp, hvv, hbb, hee⟩ := h
 simp only [List.cons.injEq, and_true] at hc
 obtain ⟨rfl, rfl, rfl, rfl, rfl⟩ := hc
 obtain ⟨Ap, cp, rfl, _, _⟩ := hpp.shape
 obtain ⟨Av, cv, rfl, _, _⟩ := hvv.shape
 obtain ⟨Ab, cb, rfl, _⟩ := hbb.shape
 obtain ⟨Ae, ce, rfl, _⟩ := hee.shape
 obtain ⟨Ag, cg, rfl, _⟩ := hg.shape
 have HG := Lib.hid (fun V hV => Contains_any (W := V) hg hV s)
 have HV := Lib.hid (fun V hV => Contains_any (W := V) hvv hV s)
 have HX := Lib.hid (fun V hV b hb => IndexPa_any (W := V) hpp hV s b hb)
 have HPp := Lib.hid hpp
 have HI := Lib.hid hI
 have HK : Hid (knd gl q s = (q.params.find? (isPa s)).elim (if q.vars.any (isT s) = true then 4 else if gl.any (isT s) = true then 1 else 0) (fun x => if x.ref = true then 3 else 2)) := Lib.hid rfl
 have hfd := idxL_get (isPa s) q.params 0
 clear hg hpp hvv hbb hee hI
 generalize idxL (isPa s) q.params 0 = z at HX hfd
 go_enter Try.func87, Try.ntmps87
 go_upto_region 1 with fail
 have HBp : Hid (Blk ((W.alloc (.cells #[.string q.nm, .slice Ap q.params.length cp, .slice Av q.vars.length cv, .slice Ab q.body.length cb, .slice Ae q.end_.length ce] 62)).alloc (.cells #[.string s] 9)) W.heap.size 62 #[.string q.nm, .slice Ap q.params.length cp, .slice Av q.vars.length cv, .slice Ab q.body.length cb, .slice Ae q.end_.length ce]) := Lib.hid ((Blk.new _ _ _).alloc _)
 have HBr : Hid (Blk ((W.alloc (.cells #[.string q.nm, .slice Ap q.params.length cp, .slice Av q.vars.length cv, .slice Ab q.body.length cb, .slice Ae q.end_.length ce] 62)).alloc (.cells #[.string s] 9)) (W.heap.size + 1) 9 #[.string s]) := Lib.hid (by have := Blk.new (W.alloc (.cells #[.string q.nm, .slice Ap q.params.length cp, .slice Av q.vars.length cv, .slice Ab q.body.length cb, .slice Ae q.end_.length ce] 62)) 9 #[.string s]; rw [World.size_alloc] at this; exact this)
 have HB0 : Hid (Below W.heap.size W ((W.alloc (.cells #[.string q.nm, .slice Ap q.params.length cp, .slice Av q.vars.length cv, .slice Ab q.body.length cb, .slice Ae q.end_.length ce] 62)).alloc (.cells #[.string s] 9))) := Lib.hid (below_stepA (below_box _) _)
 generalize World.alloc _ _ = V at HBp HBr HB0 ⊢
 have q1 : V.cell? ⟨W.heap.size, 1, none⟩ = some (.slice Ap q.params.length cp) := by rw [HBp.out.cell]; rfl
 have r0 : V.cell? ⟨W.heap.size + 1, 0, none⟩ = some (.string s) := by rw [HBr.out.cell]; rfl
 have hbl := HBp.out.lt
 have hbr := HBr.out.lt
 have HI0 := Lib.hid (HI.out.on HB0.out)
 go_upto_region 2 with (go_at_call 120; refine (HX.out V HI0.out _ r0).mono ?_; rintro e w1 ⟨rfl, hb1⟩)
 have HI1 := Lib.hid (HI0.out.on hb1)
 have HBp1 := Lib.hid (HBp.out.below hb1 hbl)
 have HBr1 := Lib.hid (HBr.out.below hb1 hbr)
 have HB1 := Lib.hid (below_step HB0.out hb1)
 clear q1 r0 hbl hbr hb1 HBp HBr HB0 HI0 HX
 have q1 : w1.cell? ⟨W.heap.size, 1, none⟩ = some (.slice Ap q.params.length cp) := by rw [HBp1.out.cell]; rfl
 have q2 : w1.cell? ⟨W.heap.size, 2, none⟩ = some (.slice Av q.vars.length cv) := by rw [HBp1.out.cell]; rfl
 have r0 : w1.cell? ⟨W.heap.size + 1, 0, none⟩ = some (.string s) := by rw [HBr1.out.cell]; rfl
 have hbl := HBp1.out.lt
 have hbr := HBr1.out.lt
 rcases hfd with ⟨rfl, hf⟩ | ⟨j, hj, rfl, _, hf⟩
 ·rw [hf, Option.elim_none] at HK
  clear hf
  generalize q.vars.any (isT s) = b1 at HV HK
  generalize gl.any (isT s) = b2 at HG HK
  cases b1
  ·cases b2
   ·go_wp2_with (first
     | (go_at_call 94; (with_reducible refine (HV.out w1 HI1.out).mono ?_); rintro e w' ⟨rfl, rfl⟩)
     | (go_at_call 94; (with_reducible refine (HG.out w1 HI1.out).mono ?_); rintro e w' ⟨rfl, rfl⟩))
    go_ret
    exact ⟨ret_int (by rw [HK.out]; rfl), HB1.out⟩
   ·go_wp2_with (first
     | (go_at_call 94; (with_reducible refine (HV.out w1 HI1.out).mono ?_); rintro e w' ⟨rfl, rfl⟩)
     | (go_at_call 94; (with_reducible refine (HG.out w1 HI1.out).mono ?_); rintro e w' ⟨rfl, rfl⟩))
    go_ret
    exact ⟨ret_int (by rw [HK.out]; rfl), HB1.out⟩
  ·go_wp2_with (go_at_call 94; (with_reducible refine (HV.out w1 HI1.out).mono ?_); rintro e w' ⟨rfl, rfl⟩)
   go_ret
   exact ⟨ret_int (by rw [HK.out]; rfl), HB1.out⟩
 ·rw [hf, Option.elim_some] at HK
  obtain ⟨a, rfl, _, ⟨p0, p1, _⟩, _⟩ := par_at HPp.out HI1.out hj
  rw [Nat.zero_add]
  cases hr : q.params[j].ref with
  | true =>
   rw [hr] at p1 HK
   clear hr hf
   go_wp2_with fail
   go_ret
   exact ⟨ret_int (by rw [HK.out]; rfl), HB1.out⟩
  | false =>
   rw [hr] at p1 HK
   clear hr hf
   go_wp2_with fail
   go_ret
   exact ⟨ret_int (by rw [HK.out]; rfl), HB1.out⟩
end Go.Proofs.Ytnnblklbjbkikaa
namespace Go.Proofs.Ytnnblklbjbkikaa
open Go.ChangeShapes Go.WideShapes Go.ChangeAt Go.RowKit Go.Deep
set_option linter.unusedVariables false
def wAr : List Ar → Nat
  | [] => 0
  | a :: l => wE a.x + (a.nm.size + 1) + wAr l
theorem wAr_mem {l : List Ar} {a : Ar} (h : a ∈ l) : wE a.x + (a.nm.size + 1) ≤ wAr l := by
  induction l with
  | nil => simp at h
  | cons x l ih =>
    rw [wAr]
    rcases List.mem_cons.1 h with rfl | h
    · omega
    · have := ih h; omega
theorem wAr_len (l : List Ar) : l.length ≤ wAr l := by
  induction l with
  | nil => exact Nat.zero_le _
  | cons x l ih => rw [wAr, List.length_cons]; omega
theorem argCk (w : World) (Q : Nat → Prop) (x : Ar) (cs : List Value) (h : ArgI w Q x cs) : CellsOk 6 cs := by
  obtain ⟨xcs, rfl, _, h⟩ := h
  obtain ⟨h1, h2⟩ := exprOk _ _ _ _ h
  exact ⟨by simp [h1], fun u hu => by rcases List.mem_cons.1 hu with rfl | hu; rfl; rcases List.mem_cons.1 hu with rfl | hu; rfl; exact h2 u hu⟩
theorem ArgI.keep {w w' : World} {Q Q' : Nat → Prop} {a : Ar} {cs : List Value} (h : ArgI w Q a cs) (hQ : ∀ b, Q b → Q' b) (hc : ∀ p : Addr, Q p.block → w'.cell? p = w.cell? p) : ArgI w' Q' a cs := by
  obtain ⟨xcs, h1, h2, h3⟩ := h
  exact ⟨xcs, h1, h2, h3.keep hQ hc⟩
end Go.Proofs.Ytnnblklbjbkikaa
namespace Go.Proofs.Ytnnblklbjbkikaa
open Go.ChangeShapes Go.WideShapes Go.ChangeAt Go.RowKit Go.Deep
set_option linter.unusedVariables false
def wT : List ByteArray → Nat
  | [] => 0
  | s :: l => s.size + 1 + wT l
theorem wT_mem {l : List ByteArray} {s : ByteArray} (h : s ∈ l) : s.size + 1 ≤ wT l := by
  induction l with
  | nil => simp at h
  | cons x l ih =>
    rw [wT]
    rcases List.mem_cons.1 h with rfl | h
    · omega
    · have := ih h; omega
theorem wT_len (l : List ByteArray) : l.length ≤ wT l := by
  induction l with
  | nil => exact Nat.zero_le _
  | cons x l ih => rw [wT, List.length_cons]; omega
theorem smT_of {l : List ByteArray} (h : wT l ≤ 1000000) : smT l := ⟨Nat.le_trans (wT_len l) h, fun s hs => by have := wT_mem hs; omega⟩
mutual
/-- how much a statement is -/
def wS : S → Nat
  | .mk _ _ labels nm proc x _ args th el => wE x + wT labels + (nm.size + 1) + (proc.size + 1) + wAr args + wSL th + wSL el
def wSL : List S → Nat
  | [] => 0
  | s :: l => wS s + wSL l
end
theorem wSL_mem {l : List S} {s : S} (h : s ∈ l) : wS s ≤ wSL l := by
  induction l with
  | nil => simp at h
  | cons x l ih =>
    rw [wSL]
    rcases List.mem_cons.1 h with rfl | h
    · omega
    · have := ih h; omega
theorem wS_pos (s : S) : 1 ≤ wS s := by cases s; rw [wS]; omega
theorem wSL_len (l : List S) : l.length ≤ wSL l := by
  induction l with
  | nil => exact Nat.zero_le _
  | cons x l ih => rw [wSL, List.length_cons]; have := wS_pos x; omega
theorem StmtI.of_slice {w : World} {Q : Nat → Prop} {id kind : Int} {labels : List ByteArray} {nm proc : ByteArray} {x : E} {has : Bool} {args : List Ar} {th el : List S} {vl va vt ve : Value} {x0 x1 x2 x3 : Value} (hid : i64 id) (hkind : i64 kind) (hnm : nm.size ≤ 9223372036854775807) (hproc : proc.size ≤ 9223372036854775807)
    (hl : TextsI w Q labels vl) (hx : ExprI w Q x [x0, x1, x2, x3]) (ha : SliceI w Q 6 (ArgI w Q) args va) (ht : StmtsI w Q th vt) (he : StmtsI w Q el ve) : StmtI w Q (.mk id kind labels nm proc x has args th el) [.int .i64 id, .int .i64 kind, vl, .string nm, .string proc, x0, x1, x2, x3, .bool has, va, vt, ve] := by
  obtain ⟨A1, cap1, css1, rfl, h1, h2, h3⟩ := ht
  obtain ⟨A2, cap2, css2, rfl, h4, h5, h6⟩ := he
  exact .mk hid hkind hnm hproc hl hx ha h1 h4 h2 h5 h3 h6
end Go.Proofs.Ytnnblklbjbkikaa
namespace Go.Proofs.Ytnnblklbjbkikaa
open Go.ChangeShapes Go.WideShapes Go.ChangeAt Go.RowKit Go.Deep
set_option linter.unusedVariables false
theorem size_set (q : World) (p : Addr) (u : Value) : (q.setCell p u).heap.size = q.heap.size := by simp [World.setCell]
end Go.Proofs.Ytnnblklbjbkikaa
namespace Go.Proofs.Ytnnblklbjbkikaa
open Go.ChangeShapes Go.WideShapes Go.ChangeAt Go.RowKit Go.Deep
set_option linter.unusedVariables false
/-- a new variable of the kind of statements -/
abbrev zS : Array Value := #[.int .i64 0, .int .i64 0, .slice none 0 0, .string ⟨#[]⟩, .string ⟨#[]⟩, .int .i64 0, .int .i64 0, .string ⟨#[]⟩, .slice none 0 0, .bool false, .slice none 0 0, .slice none 0 0, .slice none 0 0]
def S0 : S := .mk 0 0 [] ⟨#[]⟩ ⟨#[]⟩ (.mk 0 0 ⟨#[]⟩ []) false [] [] []
theorem i64_zero : i64 0 := ⟨by omega, by omega⟩
def NewS (w : World) (b : Nat) : Prop := (w.cell? ⟨b, 0, none⟩ = some (.int .i64 0) ∧ w.cell? ⟨b, 1, none⟩ = some (.int .i64 0) ∧ w.cell? ⟨b, 2, none⟩ = some (.slice none 0 0) ∧ w.cell? ⟨b, 3, none⟩ = some (.string ⟨#[]⟩) ∧ w.cell? ⟨b, 4, none⟩ = some (.string ⟨#[]⟩) ∧ w.cell? ⟨b, 5, none⟩ = some (.int .i64 0) ∧ w.cell? ⟨b, 6, none⟩ = some (.int .i64 0) ∧ w.cell? ⟨b, 7, none⟩ = some (.string ⟨#[]⟩) ∧ w.cell? ⟨b, 8, none⟩ = some (.slice none 0 0) ∧ w.cell? ⟨b, 9, none⟩ = some (.bool false) ∧ w.cell? ⟨b, 10, none⟩ = some (.slice none 0 0) ∧ w.cell? ⟨b, 11, none⟩ = some (.slice none 0 0) ∧ w.cell? ⟨b, 12, none⟩ = some (.slice none 0 0)) ∧ w.frozen? ⟨b, 0, none⟩ = false ∧ w.frozen? ⟨b, 1, none⟩ = false ∧ w.frozen? ⟨b, 2, none⟩ = false ∧ w.frozen? ⟨b, 3, none⟩ = false ∧ w.frozen? ⟨b, 4, none⟩ = false ∧ w.frozen? ⟨b, 5, none⟩ = false ∧ w.frozen? ⟨b, 6, none⟩ = false ∧ w.frozen? ⟨b, 7, none⟩ = false ∧ w.frozen? ⟨b, 8, none⟩ = false ∧ w.frozen? ⟨b, 9, none⟩ = false ∧ w.frozen? ⟨b, 10, none⟩ = false ∧ w.frozen? ⟨b, 11, none⟩ = false ∧ w.frozen? ⟨b, 12, none⟩ = false
theorem newS_of {w : World} {b : Nat} (h : Blk w b 55 zS) : NewS w b := ⟨⟨by rw [h.cell]; rfl, by rw [h.cell]; rfl, by rw [h.cell]; rfl, by rw [h.cell]; rfl, by rw [h.cell]; rfl, by rw [h.cell]; rfl, by rw [h.cell]; rfl, by rw [h.cell]; rfl, by rw [h.cell]; rfl, by rw [h.cell]; rfl, by rw [h.cell]; rfl, by rw [h.cell]; rfl, by rw [h.cell]; rfl⟩, h.frozen 0, h.frozen 1, h.frozen 2, h.frozen 3, h.frozen 4, h.frozen 5, h.frozen 6, h.frozen 7, h.frozen 8, h.frozen 9, h.frozen 10, h.frozen 11, h.frozen 12⟩
theorem set13_blk {w : World} {b : Nat} {d0 d1 d2 d3 d4 d5 d6 d7 d8 d9 d10 d11 d12 : Value} (h : Blk w b 55 zS) : Blk (World.setCell (World.setCell (World.setCell (World.setCell (World.setCell (World.setCell (World.setCell (World.setCell (World.setCell (World.setCell (World.setCell (World.setCell (World.setCell w ⟨b, 0, none⟩ d0) ⟨b, 1, none⟩ d1) ⟨b, 2, none⟩ d2) ⟨b, 3, none⟩ d3) ⟨b, 4, none⟩ d4) ⟨b, 5, none⟩ d5) ⟨b, 6, none⟩ d6) ⟨b, 7, none⟩ d7) ⟨b, 8, none⟩ d8) ⟨b, 9, none⟩ d9) ⟨b, 10, none⟩ d10) ⟨b, 11, none⟩ d11) ⟨b, 12, none⟩ d12) b 55 #[d0, d1, d2, d3, d4, d5, d6, d7, d8, d9, d10, d11, d12] := by
  have := (((((((((((((h.set_ 0 d0).set_ 1 d1).set_ 2 d2).set_ 3 d3).set_ 4 d4).set_ 5 d5).set_ 6 d6).set_ 7 d7).set_ 8 d8).set_ 9 d9).set_ 10 d10).set_ 11 d11).set_ 12 d12)
  simp only [List.setIfInBounds_toArray, List.set_cons_zero, List.set_cons_succ] at this
  exact this
theorem set13_cell {w : World} {b : Nat} {d0 d1 d2 d3 d4 d5 d6 d7 d8 d9 d10 d11 d12 : Value} {p : Addr} (h : p.block ≠ b) : (World.setCell (World.setCell (World.setCell (World.setCell (World.setCell (World.setCell (World.setCell (World.setCell (World.setCell (World.setCell (World.setCell (World.setCell (World.setCell w ⟨b, 0, none⟩ d0) ⟨b, 1, none⟩ d1) ⟨b, 2, none⟩ d2) ⟨b, 3, none⟩ d3) ⟨b, 4, none⟩ d4) ⟨b, 5, none⟩ d5) ⟨b, 6, none⟩ d6) ⟨b, 7, none⟩ d7) ⟨b, 8, none⟩ d8) ⟨b, 9, none⟩ d9) ⟨b, 10, none⟩ d10) ⟨b, 11, none⟩ d11) ⟨b, 12, none⟩ d12).cell? p = w.cell? p := by
  have hne : ∀ j, p ≠ ⟨b, j, none⟩ := fun j e => h (by rw [e])
  rw [cell_set_ne _ (hne _), cell_set_ne _ (hne _), cell_set_ne _ (hne _), cell_set_ne _ (hne _), cell_set_ne _ (hne _), cell_set_ne _ (hne _), cell_set_ne _ (hne _), cell_set_ne _ (hne _), cell_set_ne _ (hne _), cell_set_ne _ (hne _), cell_set_ne _ (hne _), cell_set_ne _ (hne _), cell_set_ne _ (hne _)]
theorem set13_size {w : World} {b : Nat} {d0 d1 d2 d3 d4 d5 d6 d7 d8 d9 d10 d11 d12 : Value} : (World.setCell (World.setCell (World.setCell (World.setCell (World.setCell (World.setCell (World.setCell (World.setCell (World.setCell (World.setCell (World.setCell (World.setCell (World.setCell w ⟨b, 0, none⟩ d0) ⟨b, 1, none⟩ d1) ⟨b, 2, none⟩ d2) ⟨b, 3, none⟩ d3) ⟨b, 4, none⟩ d4) ⟨b, 5, none⟩ d5) ⟨b, 6, none⟩ d6) ⟨b, 7, none⟩ d7) ⟨b, 8, none⟩ d8) ⟨b, 9, none⟩ d9) ⟨b, 10, none⟩ d10) ⟨b, 11, none⟩ d11) ⟨b, 12, none⟩ d12).heap.size = w.heap.size := by simp only [size_set]
theorem set13_below {B : Nat} {a w : World} {b : Nat} {d0 d1 d2 d3 d4 d5 d6 d7 d8 d9 d10 d11 d12 : Value} (h : Below B a w) (hb : B ≤ b) : Below B a (World.setCell (World.setCell (World.setCell (World.setCell (World.setCell (World.setCell (World.setCell (World.setCell (World.setCell (World.setCell (World.setCell (World.setCell (World.setCell w ⟨b, 0, none⟩ d0) ⟨b, 1, none⟩ d1) ⟨b, 2, none⟩ d2) ⟨b, 3, none⟩ d3) ⟨b, 4, none⟩ d4) ⟨b, 5, none⟩ d5) ⟨b, 6, none⟩ d6) ⟨b, 7, none⟩ d7) ⟨b, 8, none⟩ d8) ⟨b, 9, none⟩ d9) ⟨b, 10, none⟩ d10) ⟨b, 11, none⟩ d11) ⟨b, 12, none⟩ d12) := (below_setc (below_setc (below_setc (below_setc (below_setc (below_setc (below_setc (below_setc (below_setc (below_setc (below_setc (below_setc (below_setc h hb _) hb _) hb _) hb _) hb _) hb _) hb _) hb _) hb _) hb _) hb _) hb _) hb _)
end Go.Proofs.Ytnnblklbjbkikaa
namespace Go.Proofs.Ytnnblklbjbkikaa
open Go.ChangeShapes Go.WideShapes Go.ChangeAt Go.RowKit Go.Deep
set_option linter.unusedVariables false
set_option linter.unusedSimpArgs false
def S.id : S → Int | .mk id _ _ _ _ _ _ _ _ _ => id
def S.kind : S → Int | .mk _ kind _ _ _ _ _ _ _ _ => kind
def S.nm : S → ByteArray | .mk _ _ _ nm _ _ _ _ _ _ => nm
def S.proc : S → ByteArray | .mk _ _ _ _ proc _ _ _ _ _ => proc
def S.x : S → E | .mk _ _ _ _ _ x _ _ _ _ => x
def S.args : S → List Ar | .mk _ _ _ _ _ _ _ args _ _ => args
def S.th : S → List S | .mk _ _ _ _ _ _ _ _ th _ => th
def S.el : S → List S | .mk _ _ _ _ _ _ _ _ _ el => el
theorem subS_eq (s : S) : subS s = preSL s.th ++ preSL s.el := by cases s; rfl
/-- a program that is not too great -/
structure SmG (p : Pg) : Prop where
  globals : wT p.globals ≤ 1000000
  procs : p.procs.length ≤ 1000000
  proc : ∀ q ∈ p.procs, wSL q.body ≤ 1000000 ∧ wT q.vars ≤ 1000000 ∧ wT q.end_ ≤ 1000000 ∧ q.params.length ≤ 1000000
/-- two procedures in blocks of their own -/
theorem blkR5 {w : World} {b : Nat} {e0 e1 e2 e3 e4 : Value} (h : Blk w b 62 #[e0, e1, e2, e3, e4]) : (w.cell? ⟨b, 0, none⟩ = some e0 ∧ w.cell? ⟨b, 1, none⟩ = some e1 ∧ w.cell? ⟨b, 2, none⟩ = some e2 ∧ w.cell? ⟨b, 3, none⟩ = some e3 ∧ w.cell? ⟨b, 4, none⟩ = some e4) ∧ w.frozen? ⟨b, 0, none⟩ = false ∧ w.frozen? ⟨b, 1, none⟩ = false ∧ w.frozen? ⟨b, 2, none⟩ = false ∧ w.frozen? ⟨b, 3, none⟩ = false ∧ w.frozen? ⟨b, 4, none⟩ = false := ⟨⟨by rw [h.cell]; rfl, by rw [h.cell]; rfl, by rw [h.cell]; rfl, by rw [h.cell]; rfl, by rw [h.cell]; rfl⟩, h.frozen 0, h.frozen 1, h.frozen 2, h.frozen 3, h.frozen 4⟩
end Go.Proofs.Ytnnblklbjbkikaa
namespace Go.Proofs.Ytnnblklbjbkikaa
open Go.ChangeShapes Go.WideShapes Go.ChangeAt Go.RowKit Go.Deep
set_option linter.unusedVariables false
/-- the first statement with that id, and its procedure -/
def findL : List Pr → Int → ByteArray × S × Bool
  | [], _ => (⟨#[]⟩, S0, false)
  | q :: l, id => ((preSL q.body).find? (fun s => s.id == id)).elim (findL l id) (fun s => (q.nm, s, true))
def findP (p : Pg) (id : Int) : ByteArray × S × Bool := findL p.procs id
mutual
theorem preS_w : ∀ (s : S) (x : S), x ∈ preS s → wS x ≤ wS s
  | .mk id kind labels nm proc e has args th el, x, h => by
    rw [preS] at h
    rcases List.mem_cons.1 h with rfl | h
    · exact Nat.le_refl _
    · rw [wS]
      rcases List.mem_append.1 h with h | h
      · have := preSL_w th x h; omega
      · have := preSL_w el x h; omega
theorem preSL_w : ∀ (l : List S) (x : S), x ∈ preSL l → wS x ≤ wSL l
  | [], x, h => by rw [preSL] at h; simp at h
  | s :: l, x, h => by
    rw [preSL] at h
    rw [wSL]
    rcases List.mem_append.1 h with h | h
    · have := preS_w s x h; omega
    · have := preSL_w l x h; omega
end
theorem blk13 {w : World} {b : Nat} {d0 d1 d2 d3 d4 d5 d6 d7 d8 d9 d10 d11 d12 : Value} (h : Blk w b 55 zS) : Blk (World.setCell (World.setCell (World.setCell (World.setCell (World.setCell (World.setCell (World.setCell (World.setCell (World.setCell (World.setCell (World.setCell (World.setCell (World.setCell w ⟨b, 0, none⟩ d0) ⟨b, 1, none⟩ d1) ⟨b, 2, none⟩ d2) ⟨b, 3, none⟩ d3) ⟨b, 4, none⟩ d4) ⟨b, 5, none⟩ d5) ⟨b, 6, none⟩ d6) ⟨b, 7, none⟩ d7) ⟨b, 8, none⟩ d8) ⟨b, 9, none⟩ d9) ⟨b, 10, none⟩ d10) ⟨b, 11, none⟩ d11) ⟨b, 12, none⟩ d12) b 55 #[d0, d1, d2, d3, d4, d5, d6, d7, d8, d9, d10, d11, d12] := set13_blk h
end Go.Proofs.Ytnnblklbjbkikaa
