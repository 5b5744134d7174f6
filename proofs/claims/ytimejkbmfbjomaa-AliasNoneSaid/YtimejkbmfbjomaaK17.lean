/- Texts, merged by a program; only what is used. -/
import Derived.Maps.AppendAt
import Derived.OrdersHeld
import Derived.Sort.MapsRangeIn
import Derived.Sort.KeysCollected
import Derived.Sort.OwnSorted
import Derived.Sort.EveryDepth
import Derived.Shelf.Sort.Plain
import Derived.Shelf.Lay
import Derived.Maps.Range
import Derived.Maps.RangeWalk
import Derived.Test.YtimejkbmfbjomaaK1
import Derived.Test.YtimejkbmfbjomaaK2
import Derived.Test.YtimejkbmfbjomaaK3
import Derived.Test.YtimejkbmfbjomaaK4
import Derived.Test.YtimejkbmfbjomaaK5
import Derived.Test.YtimejkbmfbjomaaK6
import Derived.Test.YtimejkbmfbjomaaK7
import Derived.Test.YtimejkbmfbjomaaK8
import Derived.Test.YtimejkbmfbjomaaK9
import Derived.Test.YtimejkbmfbjomaaK10
import Derived.Test.YtimejkbmfbjomaaK11
import Derived.Test.YtimejkbmfbjomaaK12
import Derived.Test.YtimejkbmfbjomaaK13
import Derived.Test.YtimejkbmfbjomaaK14
import Derived.Test.YtimejkbmfbjomaaK15
import Derived.Test.YtimejkbmfbjomaaK16
namespace Go.Proofs.Ytimejkbmfbjomaa
open Go.ChangeShapes Go.WideShapes Go.ChangeAt Go.RowKit Go.Deep
set_option linter.unusedVariables false
set_option linter.unusedSimpArgs false
theorem dupL_false : ∀ (l p : List ByteArray), dupL p l = false → (∀ x ∈ l, x ∉ p) ∧ l.Nodup
 | [], p, _ => ⟨fun x hx => absurd hx (by simp), List.nodup_nil⟩
 | x :: l, p, h => by
  rw [dupL, Bool.or_eq_false_iff] at h
  obtain ⟨h1, h2⟩ := h
  obtain ⟨h3, h4⟩ := dupL_false l (p ++ [x]) h2
  have hx : x ∉ p := fun hp => by
   rw [List.any_eq_false] at h1
   exact h1 x hp (by simp [isT])
  refine ⟨fun y hy => ?_, List.nodup_cons.2 ⟨fun hy => h3 x hy (by simp), h4⟩⟩
  rcases List.mem_cons.1 hy with rfl | hy
  ·exact hx
  ·exact fun hp => h3 y hy (by simp [hp])
theorem dup_nodup {l : List ByteArray} (h : dup l = false) : l.Nodup := (dupL_false l [] h).2
theorem dupL_true : ∀ (l p : List ByteArray), p.Nodup → dupL p l = true → ¬ (p ++ l).Nodup
 | [], p, _, h => by rw [dupL] at h; cases h
 | x :: l, p, hp, h => by
  rw [dupL, Bool.or_eq_true] at h
  intro hn
  rcases h with h | h
  ·rw [List.any_eq_true] at h
   obtain ⟨y, hy, hxy⟩ := h
   have : x = y := by simpa [isT] using hxy
   subst this
   exact (List.nodup_append.1 hn).2.2 x hy x (by simp) rfl
  ·have h2 : p ++ x :: l = (p ++ [x]) ++ l := by simp
   rw [h2] at hn
   exact dupL_true l (p ++ [x]) (List.nodup_append.1 hn).1 h hn
theorem dup_of {l : List ByteArray} (h : l.Nodup) : dup l = false := by
 cases hd : dup l with
 | false => rfl
 | true => exact absurd h (by simpa using dupL_true l [] List.nodup_nil hd)
theorem find_own : ∀ (l : List Pr), (l.map Pr.nm).Nodup → ∀ q ∈ l, l.find? (isQ q.nm) = some q
 | [], _, q, hq => by cases hq
 | x :: l, h, q, hq => by
  rw [List.map_cons, List.nodup_cons] at h
  rw [List.find?_cons]
  rcases List.mem_cons.1 hq with rfl | hq
  ·rw [show isQ q.nm q = true by simp [isQ]]
  ·have hne : isQ q.nm x = false := by
    unfold isQ
    exact decide_eq_false (fun e => h.1 (by rw [e]; exact List.mem_map_of_mem hq))
   rw [hne]
   exact find_own l h.2 q hq
theorem chkL_ok {gl ps : List ByteArray} : ∀ (l : List Pr), (∀ q ∈ l, ∀ s ∈ preSL q.body, s.id ≠ 0) → (chkL gl ps l).1 = 0 → ∀ q ∈ l, dup (namesP gl q) = false ∧ ∀ s ∈ preSL q.body, badS gl q ps s = false
 | [], _, _, q, hq => by cases hq
 | x :: l, hz, h, q, hq => by
  rw [chkL] at h
  split at h
  ·cases h
  ·rename_i hd
   split at h
   ·rename_i hf
    rcases List.mem_cons.1 hq with rfl | hq
    ·refine ⟨by simpa using hd, fun s hs => ?_⟩
     cases hb : badS gl q ps s with
     | false => rfl
     | true =>
      unfold fstB at hf
      cases hfd : (preSL q.body).find? (badS gl q ps) with
      | none =>
       have := List.find?_eq_none.1 hfd s hs
       rw [hb] at this; exact absurd rfl this
      | some y =>
       rw [hfd, Option.elim_some] at hf
       exact absurd hf (hz q (List.mem_cons_self ..) y (List.mem_of_find?_eq_some hfd))
    ·exact chkL_ok l (fun q hq => hz q (List.mem_cons_of_mem _ hq)) h q hq
   ·cases h
structure ChOk (p : Pg) : Prop where
 may : mayP p = true
 main : mainBad p = false
 glob : p.globals.Nodup
 procs : (p.procs.map Pr.nm).Nodup
 names : ∀ q ∈ p.procs, (namesP p.globals q).Nodup
 stm : ∀ q ∈ p.procs, ∀ s ∈ preSL q.body, badS p.globals q (p.procs.map Pr.nm) s = false
theorem chk_ok {p : Pg} (h : (chkP p).1 = 0) : ChOk p := by
 unfold chkP at h
 split at h
 ·rename_i hm
  split at h
  ·cases h
  ·rename_i hh
   unfold hdBad at hh
   simp only [Bool.or_eq_true, not_or, Bool.not_eq_true] at hh
   have h1 := chkL_ok p.procs (fun q hq s hs => by have := may_ids hm q hq s hs; omega) h
   exact ⟨hm, hh.1.1, dup_nodup hh.1.2, dup_nodup hh.2, fun q hq => dup_nodup (h1 q hq).1, fun q hq => (h1 q hq).2⟩
 ·cases h
theorem ChOk.chk {p : Pg} (h : ChOk p) : chkP p = (0, 0) := by
 unfold chkP
 rw [if_pos h.may]
 have hh : hdBad p = false := by unfold hdBad; rw [h.main, dup_of h.glob, dup_of h.procs]; rfl
 rw [if_neg (by rw [hh]; simp)]
 have : ∀ (l : List Pr), (∀ q ∈ l, q ∈ p.procs) → chkL p.globals (p.procs.map Pr.nm) l = (0, 0) := by
  intro l
  induction l with
  | nil => intro _; rfl
  | cons x l ih =>
   intro hl
   rw [chkL, if_neg (by rw [dup_of (h.names x (hl x (List.mem_cons_self ..)))]; simp)]
   have hf : fstB (badS p.globals x (p.procs.map Pr.nm)) (preSL x.body) = 0 := by
    unfold fstB
    rw [List.find?_eq_none.2 (fun s hs => by rw [h.stm x (hl x (List.mem_cons_self ..)) s hs]; simp)]
    rfl
   rw [if_pos hf]
   exact ih (fun q hq => hl q (List.mem_cons_of_mem _ hq))
 exact this p.procs (fun _ h => h)
end Go.Proofs.Ytimejkbmfbjomaa
namespace Go.Proofs.Ytimejkbmfbjomaa
open Go.ChangeShapes Go.WideShapes Go.ChangeAt Go.RowKit Go.Deep
set_option linter.unusedVariables false
set_option linter.unusedSimpArgs false
def chkOK (p : Pg) : Bool := decide ((chkP p).1 = 0)
def jfP (p : Pg) (s : ByteArray) : Int := if chkOK p = true then idxL (isQ s) p.procs 0 else -1
section
open Go.Shelf
attribute [local go_sem] Oper.semAt_some
end
end Go.Proofs.Ytimejkbmfbjomaa
namespace Go.Proofs.Ytimejkbmfbjomaa
open Go.ChangeShapes Go.WideShapes Go.ChangeAt Go.RowKit Go.Deep
set_option linter.unusedVariables false
set_option linter.unusedSimpArgs false
set_option maxHeartbeats 1000000 in
theorem TIndexQ_any {w W : World} {Q : Nat → Prop} {l : List Pr} {v : Value} (h : SliceI w Q 5 (ProcI w Q) l v) (hI : In Q w W) (s : ByteArray) (b : Nat) (hb : W.cell? ⟨b, 0, none⟩ = some (.string s)) :
  Calls Try.prog 84 #[v, .func (.func 131) #[] #[.pointer (some ⟨b, 0, none⟩)]] W fun e w' => e = .returned (.int .i64 (idxL (isQ s) l 0)) ∧ Below W.heap.size W w' := by
 obtain ⟨A, cap, rfl, hl1, hl2⟩ := h.shape
 have H := Lib.hid h
 have HI := Lib.hid hI
 have HB := Lib.hid hb
 clear h hI hb
 go_enter Try.func84, Try.ntmps84
 go_wp2_with fail
 go_loopg [8] l.length (fun kk i wr => ∃ k : Nat, k + kk = l.length ∧ i = .int .i64 k ∧ Hid (idxL (isQ s) (l.drop k) k = idxL (isQ s) l 0) ∧ Hid (Below W.heap.size W wr))
 case atStart => exact ⟨0, by omega, rfl, Lib.hid (by rw [List.drop_zero]), Lib.hid (Below.refl _ _)⟩
 case round =>
  obtain ⟨k, hk, rfl, HW, HR⟩ := hrel
  by_cases hlt : k < l.length
  ·obtain ⟨a, Cp, kp, Cv, kv, Cb, kb, Ce, ke, rfl, _, ⟨p0, p1, p2, p3, p4, _⟩, _⟩ := proc_at H.out (HI.out.on HR.out) hlt
   have HD := Lib.hid (idxL_drop (f := isQ s) hlt)
   rw [HW.out] at HD
   have hv : isQ s l[k] = (l[k].nm.toList == s.toList) := (dec_bytes _ _).symm
   generalize l[k] = y at p0 p1 p2 p3 p4 HD hv
   obtain ⟨yn, yp, yv, yb, ye⟩ := y
   simp only at p0 p1 p2 p3 p4 hv
   have q0 : wr.cell? ⟨b, 0, none⟩ = some (.string s) := (HR.out.cell (p := ⟨b, 0, none⟩) (World.block_lt_of_cell? W _ HB.out)).trans HB.out
   have hbl := World.block_lt_of_cell? wr _ q0
   cases hb : isQ s ⟨yn, yp, yv, yb, ye⟩ with
   | true =>
    rw [hb, if_pos rfl] at HD
    have hv2 : (yn.toList == s.toList) = true := by rw [← hv]; exact hb
    clear hv hb
    go_wp2_with (go_at_call 131; go_in)
    go_ret
    exact ⟨ret_int HD.out.symm, below_step HR.out (below_box _)⟩
   | false =>
    rw [hb, if_neg (by simp)] at HD
    have hv2 : (yn.toList == s.toList) = false := by rw [← hv]; exact hb
    clear hv hb
    go_wp2_with (go_at_call 131; go_in)
    go_roundg (l.length - k - 1)
    case measure => omega
    case rel => exact ⟨k + 1, by omega, by go_num, Lib.hid HD.out.symm, Lib.hid (below_step HR.out (below_box _))⟩
  ·have HD : Hid (idxL (isQ s) l 0 = -1) := Lib.hid (by rw [← HW.out, List.drop_of_length_le (by omega), idxL])
   go_wp2_with fail
   go_ret
   exact ⟨ret_int HD.out.symm, HR.out⟩
set_option maxHeartbeats 2000000 in
theorem tfind_any {w : World} {Q : Nat → Prop} {p : Pg} {c0 c1 : Value} (h : ProgI w Q p [c0, c1]) (hsm : SmG p) (s : ByteArray) (W : World) (hI : In Q w W) :
  Calls Try.prog 125 #[.agg #[c0, c1], .string s] W fun e w' => e = .returned (.int .i64 (jfP p s)) ∧ Below W.heap.size W w' := by
 have HC := Lib.hid (fun V hV => Check_any h hsm V hV)
 have hok : (chkP p).1 = 0 → chkP p = (0, 0) := fun h => (chk_ok h).chk
 have HOk := Lib.hid hok
 have HCk : Hid (chkOK p = decide ((chkP p).1 = 0)) := Lib.hid rfl
 clear hok
 obtain ⟨Ag, cg, Ap, cp, rfl, rfl, _, _, _, _, _, hpr⟩ := prog_open h
 have HX := Lib.hid (fun V hV b hb => TIndexQ_any (W := V) hpr hV s b hb)
 have HI := Lib.hid hI
 have HF : Hid (jfP p s = if chkOK p = true then idxL (isQ s) p.procs 0 else -1) := Lib.hid rfl
 clear h hI hpr
 generalize idxL (isQ s) p.procs 0 = z at HX HF
 go_enter Try.func125, Try.ntmps125
 go_upto_region 1 with fail
 have HBp : Hid (Blk ((W.alloc (.cells #[.slice Ag p.globals.length cg, .slice Ap p.procs.length cp] 25)).alloc (.cells #[.string s] 9)) W.heap.size 25 #[.slice Ag p.globals.length cg, .slice Ap p.procs.length cp]) := Lib.hid ((Blk.new _ _ _).alloc _)
 have HBr : Hid (Blk ((W.alloc (.cells #[.slice Ag p.globals.length cg, .slice Ap p.procs.length cp] 25)).alloc (.cells #[.string s] 9)) (W.heap.size + 1) 9 #[.string s]) := Lib.hid (by have := Blk.new (W.alloc (.cells #[.slice Ag p.globals.length cg, .slice Ap p.procs.length cp] 25)) 9 #[.string s]; rw [World.size_alloc] at this; exact this)
 have HB0 : Hid (Below W.heap.size W ((W.alloc (.cells #[.slice Ag p.globals.length cg, .slice Ap p.procs.length cp] 25)).alloc (.cells #[.string s] 9))) := Lib.hid (below_stepA (below_box _) _)
 generalize World.alloc _ _ = V at HBp HBr HB0 ⊢
 have q0 : V.cell? ⟨W.heap.size, 0, none⟩ = some (.slice Ag p.globals.length cg) := by rw [HBp.out.cell]; rfl
 have q1 : V.cell? ⟨W.heap.size, 1, none⟩ = some (.slice Ap p.procs.length cp) := by rw [HBp.out.cell]; rfl
 have hbl := HBp.out.lt
 have hbr := HBr.out.lt
 generalize chkP p = r at HC HOk HCk
 obtain ⟨rc, ri⟩ := r
 by_cases hr : rc = 0
 ·subst hr
  have hri : ri = 0 := congrArg Prod.snd (HOk.out rfl)
  subst hri
  have HF1 : Hid (jfP p s = z) := Lib.hid (by rw [HF.out, if_pos (by rw [HCk.out]; rfl)])
  clear HF HOk HCk
  go_wp2_with (first
   | (go_at_call 16; refine (HC.out V (HI.out.on HB0.out)).mono ?_; rintro e w1 ⟨rfl, hb1⟩; have HI1 := Lib.hid ((HI.out.on HB0.out).on hb1); have q0' : w1.cell? ⟨W.heap.size, 0, none⟩ = some (.slice Ag p.globals.length cg) := (hb1.cell (p := ⟨W.heap.size, 0, none⟩) hbl).trans q0; have q1' : w1.cell? ⟨W.heap.size, 1, none⟩ = some (.slice Ap p.procs.length cp) := (hb1.cell (p := ⟨W.heap.size, 1, none⟩) hbl).trans q1; have r0' : w1.cell? ⟨W.heap.size + 1, 0, none⟩ = some (.string s) := (by rw [(HBr.out.below hb1 hbr).cell]; rfl))
   | (go_at_call 84; refine (HX.out w1 HI1.out _ r0').mono ?_; rintro e w2 ⟨rfl, hb2⟩))
  go_ret
  exact ⟨ret_int (by rw [HF1.out]), below_step (below_step HB0.out hb1) hb2⟩
 ·have hr1 : (rc == 0) = false := beq_eq_false_iff_ne.2 hr
  have HF1 : Hid (jfP p s = -1) := Lib.hid (by rw [HF.out, if_neg (by rw [HCk.out]; simpa using hr)])
  clear hr HF HOk HCk HX
  go_wp2_with (go_at_call 16; refine (HC.out V (HI.out.on HB0.out)).mono ?_; rintro e w1 ⟨rfl, hb1⟩)
  go_ret
  exact ⟨ret_int (by rw [HF1.out]), below_step HB0.out hb1⟩
end Go.Proofs.Ytimejkbmfbjomaa
namespace Go.Proofs.Ytimejkbmfbjomaa
open Go.ChangeShapes Go.WideShapes Go.ChangeAt Go.RowKit Go.Deep Go.Shelf
set_option linter.unusedVariables false
set_option linter.unusedSimpArgs false
attribute [local go_sem] Oper.semAt_some
theorem jfP_case (p : Pg) (s : ByteArray) : jfP p s < 0 ∨ ∃ m : Nat, jfP p s = m ∧ m < p.procs.length := by
 unfold jfP
 split
 ·rcases idxL_get (isQ s) p.procs 0 with ⟨h, _⟩ | ⟨j, h, e, _⟩
  ·exact .inl (by rw [h]; decide)
  ·exact .inr ⟨j, by rw [e]; simp, h⟩
 ·exact .inl (by decide)
end Go.Proofs.Ytimejkbmfbjomaa
namespace Go.Proofs.Ytimejkbmfbjomaa
open Go.ChangeShapes Go.WideShapes Go.ChangeAt Go.RowKit Go.Deep Go.Shelf
set_option linter.unusedVariables false
set_option linter.unusedSimpArgs false
attribute [local go_sem] Oper.semAt_some
mutual
theorem preS_lw : ∀ s : S, (preS s).length ≤ wS s
 | .mk id kind labels nm proc x has args th el => by
  have h1 := preSL_lw th
  have h2 := preSL_lw el
  rw [preS, wS, List.length_cons, List.length_append]; omega
theorem preSL_lw : ∀ l : List S, (preSL l).length ≤ wSL l
 | [] => by simp [preSL]
 | s :: l => by
  have h1 := preS_lw s
  have h2 := preSL_lw l
  rw [preSL, wSL, List.length_append]; omega
end
end Go.Proofs.Ytimejkbmfbjomaa
namespace Go.Proofs.Ytimejkbmfbjomaa
open Go.ChangeShapes Go.WideShapes Go.ChangeAt Go.RowKit Go.Deep Go.Shelf
set_option linter.unusedVariables false
set_option linter.unusedSimpArgs false
attribute [local go_sem] Oper.semAt_some
def setF (l : List ByteArray) : ByteArray → Bool := fun y => l.any (isT y)
end Go.Proofs.Ytimejkbmfbjomaa
namespace Go.Proofs.Ytimejkbmfbjomaa
open Go.ChangeShapes Go.WideShapes Go.ChangeAt Go.RowKit Go.Deep
set_option linter.unusedVariables false
set_option linter.unusedSimpArgs false
theorem und_t : Try.prog.underlying 163 = some (.map 9 4) := by kernel_rfl
theorem preSL_app : ∀ a b : List S, preSL (a ++ b) = preSL a ++ preSL b
 | [], b => by rw [List.nil_append, preSL, List.nil_append]
 | s :: a, b => by rw [List.cons_append, preSL, preSL, preSL_app a b, List.append_assoc]
theorem preSL_take {l : List S} {k : Nat} (h : k < l.length) : preSL (l.take (k + 1)) = preSL (l.take k) ++ preS l[k] := by
 rw [List.take_succ_eq_append_getElem h, preSL_app, preSL, preSL, List.append_nil]
theorem preSL_take_le (l : List S) (k : Nat) : (preSL (l.take k)).length ≤ (preSL l).length := by
 conv => rhs; rw [← List.take_append_drop k l, preSL_app, List.length_append]
 omega
def callsOf (l : List S) : List ByteArray := (l.filter (fun s => s.kind == 4)).map S.proc
theorem callsOf_app (a b : List S) : callsOf (a ++ b) = callsOf a ++ callsOf b := by unfold callsOf; rw [List.filter_append, List.map_append]
theorem callsOf_len (l : List S) : (callsOf l).length ≤ l.length := by unfold callsOf; rw [List.length_map]; exact List.length_filter_le _ _
theorem setF_snoc (l : List ByteArray) (s : ByteArray) : setF (l ++ [s]) = fun y => setF l y || decide (y = s) := by funext y; simp [setF, isT]
theorem moves_map {A B : World} {b : Nat} (hg : A.grownBy B (some b)) : Moves (fun k => k = b) A B := ⟨hg.os, hg.tape, hg.output, hg.size, fun k hk ho => hg.block k hk (fun e => by injection e with e; exact ho e)⟩
/-- while the calls of a body are laid into the set at b, by way of the cell at c -/
structure CaI (W0 W : World) (c b : Nat) (pre : List S) : Prop where
 below : Below W0.heap.size W0 W
 set : SetI W b (callsOf pre).length (setF (callsOf pre))
 ptr : Blk W c 163 #[.map (some b)]
theorem CaI.on {W0 W W' : World} {c b : Nat} {pre : List S} (h : CaI W0 W c b pre) (hW : W0.heap.size ≤ W.heap.size) (hb : Below W.heap.size W W') : CaI W0 W' c b pre := ⟨h.below.trans (hb.mono hW), h.set.below hb h.set.lt, h.ptr.on_ hb⟩
theorem CaI.le {W0 W : World} {c b : Nat} {pre : List S} (h : CaI W0 W c b pre) : W0.heap.size ≤ W.heap.size := h.below.size
set_option maxHeartbeats 2000000 in
set_option maxRecDepth 100000 in
theorem callsDo_any {w W0 W : World} {Q : Nat → Prop} {s : S} {cs : List Value} {c b : Nat} {pre : List S} (hs : StmtI w Q s cs) (h : CaI W0 W c b pre) (hb : W0.heap.size ≤ b) (hcb : c ≠ b) (hn : pre.length ≤ 1000000000) :
 Calls Try.prog 137 #[.agg cs.toArray, .pointer (some ⟨c, 0, none⟩)] W fun e W' => e = .returned (.tuple #[]) ∧ CaI W0 W' c b (pre ++ [s]) ∧ Moves (fun k => k = b) W W' := by
 obtain ⟨id, kind, labels, nm, proc, x, has, args, th, el, L, lc, x0, x1, x2, X, xn, xc, R, rc, T, tc, U, uc, rfl, rfl, _, _, _, hproc, _⟩ := stmt_open hs
 have H := Lib.hid h
 have hnb : (callsOf pre).length < maxLen := by have := callsOf_len pre; unfold maxLen; omega
 have hpr : proc.size ≤ maxLen := hproc
 have HB := Lib.hid hb
 have HCB := Lib.hid hcb
 have HC1 : Hid (kind = 4 → callsOf (pre ++ [.mk id kind labels nm proc x has args th el]) = callsOf pre ++ [proc]) := Lib.hid (fun e => by rw [callsOf_app]; subst e; rfl)
 have HC2 : Hid (¬ kind = 4 → callsOf (pre ++ [.mk id kind labels nm proc x has args th el]) = callsOf pre) := Lib.hid (fun e => by rw [callsOf_app]; simp [callsOf, S.kind, e])
 clear h hs hb hcb hn
 go_enter Try.func137, Try.ntmps137
 go_upto_region 1 with fail
 have HBs : Hid (Blk (W.alloc (.cells #[.int .i64 id, .int .i64 kind, .slice L labels.length lc, .string nm, .string proc, .int .i64 x0, .int .i64 x1, .string x2, .slice X xn xc, .bool has, .slice R args.length rc, .slice T th.length tc, .slice U el.length uc] 55)) W.heap.size 55 #[.int .i64 id, .int .i64 kind, .slice L labels.length lc, .string nm, .string proc, .int .i64 x0, .int .i64 x1, .string x2, .slice X xn xc, .bool has, .slice R args.length rc, .slice T th.length tc, .slice U el.length uc]) := Lib.hid (Blk.new _ _ _)
 have HCa : Hid (CaI W0 (W.alloc (.cells #[.int .i64 id, .int .i64 kind, .slice L labels.length lc, .string nm, .string proc, .int .i64 x0, .int .i64 x1, .string x2, .slice X xn xc, .bool has, .slice R args.length rc, .slice T th.length tc, .slice U el.length uc] 55)) c b pre) := Lib.hid (H.out.on H.out.le (below_box _))
 have HMv : Hid (Moves (fun k => k = b) W (W.alloc (.cells #[.int .i64 id, .int .i64 kind, .slice L labels.length lc, .string nm, .string proc, .int .i64 x0, .int .i64 x1, .string x2, .slice X xn xc, .bool has, .slice R args.length rc, .slice T th.length tc, .slice U el.length uc] 55))) := Lib.hid ((Moves.refl _ _).alloc _)
 generalize World.alloc _ _ = V at HBs HCa HMv ⊢
 generalize hbse : W.heap.size = bs at HBs ⊢
 clear hbse
 have s1 : V.cell? ⟨bs, 1, none⟩ = some (.int .i64 kind) := by rw [HBs.out.cell]; rfl
 have s4 : V.cell? ⟨bs, 4, none⟩ = some (.string proc) := by rw [HBs.out.cell]; rfl
 have p0 : V.cell? ⟨c, 0, none⟩ = some (.map (some b)) := by rw [HCa.out.ptr.cell]; rfl
 by_cases hk : kind = 4
 ·subst hk
  have HCn := Lib.hid (HC1.out rfl)
  clear HC1 HC2
  go_wp2_with (at_mapUpdate; refine wpList_setPut rfl _ _ _ 163 rfl und_t b (callsOf pre).length (setF (callsOf pre)) rfl HCa.out.set hnb proc hpr rfl rfl ?_; intro w1 hs1 hg1; have HS1 := Lib.hid hs1; have HG1 := Lib.hid hg1; clear hs1 hg1)
  go_end0
  refine ⟨rfl, ⟨HCa.out.below.grown HG1.out HCa.out.le (fun j hj => by cases hj; exact HB.out), ?_, HCa.out.ptr.grown HG1.out (fun e => HCB.out (by injection e))⟩, HMv.out.trans (moves_map HG1.out) (fun j hj => .inr hj)⟩
  rw [HCn.out, setF_snoc, List.length_append]
  exact HS1.out
 ·have hk1 : (kind == 4) = false := beq_eq_false_iff_ne.2 hk
  have HCn := Lib.hid (HC2.out hk)
  clear HC1 HC2 hk
  go_wp2_with fail
  go_end0
  refine ⟨rfl, ⟨HCa.out.below, ?_, HCa.out.ptr⟩, HMv.out⟩
  rw [HCn.out]
  exact HCa.out.set
set_option maxHeartbeats 4000000 in
set_option maxRecDepth 100000 in
theorem eachC_any {w W0 : World} {Q : Nat → Prop} {c b : Nat} (hI : In Q w W0) (hb : W0.heap.size ≤ b) (hcb : c ≠ b) : ∀ (M : Nat) (blk : List S), (preSL blk).length < M → ∀ (v : Value) (pre : List S) (W : World), StmtsI w Q blk v → CaI W0 W c b pre → pre.length + (preSL blk).length ≤ 1000000000 →
 Calls Try.prog 133 #[v, .func (.func 137) #[] #[.pointer (some ⟨c, 0, none⟩)]] W fun e W' => e = .returned (.tuple #[]) ∧ CaI W0 W' c b (pre ++ preSL blk) ∧ Moves (fun k => k = b) W W' := by
 intro M
 induction M with
 | zero => intro blk h; omega
 | succ M ih =>
  intro blk hM v pre W hbl hca hN
  obtain ⟨A, cap, rfl, hlc, hcc⟩ := hbl.shape
  have HBl := Lib.hid hbl
  have HI := Lib.hid hI
  have HCa := Lib.hid hca
  have HN := Lib.hid hN
  have HIh := Lib.hid ih
  have HML := Lib.hid hM
  have HB := Lib.hid hb
  have HCB := Lib.hid hcb
  clear hbl hI hca hN ih hM hb hcb
  go_enter Try.func133, Try.ntmps133
  go_wp2_with fail
  go_loopg [8] blk.length (fun kk i wr => ∃ k : Nat, k + kk = blk.length ∧ i = .int .i64 k ∧ Hid (CaI W0 wr c b (pre ++ preSL (blk.take k))) ∧ Hid (Moves (fun j => j = b) W wr))
  case atStart => exact ⟨0, by omega, rfl, Lib.hid (by simpa [preSL] using HCa.out), Lib.hid (Moves.refl _ _)⟩
  case round =>
   obtain ⟨k, hk, rfl, HC, HMv⟩ := hrel
   by_cases hlt : k < blk.length
   ·have HIr := Lib.hid (HI.out.on HC.out.below)
    obtain ⟨a, id, kind, labels, nm, proc, x, has, args, th, el, L, lc, x0, x1, x2, X, xn, xc, R, rc, T, tc, U, uc, rfl, hqa, hmk, ⟨p0, p1, p2, p3, p4, p5, p6, p7, p8, p9, p10, p11, p12, _⟩, hid, hkind, hnm, hproc, hlab, hx, har, hth, hel, hst⟩ := stmt_at HBl.out HIr.out hlt
    have HPt : Hid (preSL (blk.take (k + 1)) = preSL (blk.take k) ++ (blk[k] :: (preSL th ++ preSL el))) := Lib.hid (by rw [preSL_take hlt, hmk, preS])
    have hle := preSL_take_le blk (k + 1)
    rw [HPt.out, List.length_append, List.length_cons, List.length_append] at hle
    have HLe : Hid ((preSL th).length < M ∧ (preSL el).length < M ∧ (pre ++ preSL (blk.take k)).length ≤ 1000000000 ∧ (pre ++ preSL (blk.take k) ++ [blk[k]]).length + (preSL th).length ≤ 1000000000 ∧ (pre ++ preSL (blk.take k) ++ [blk[k]] ++ preSL th).length + (preSL el).length ≤ 1000000000) := Lib.hid (by
     have h1 := HN.out
     have h2 := HML.out
     simp only [List.length_append, List.length_cons, List.length_nil]
     omega)
    have HTh := Lib.hid hth
    have HEl := Lib.hid hel
    have HSt := Lib.hid hst
    generalize preSL (blk.take k) = pk at HC HPt HLe
    generalize blk[k] = s at HPt HLe HSt
    clear hle hmk hid hkind hnm hproc hlab hx har hth hel hst hqa
    go_upto_region 3 with fail
    have HBi : Hid (Blk (wr.alloc (.cells #[.int .i64 id, .int .i64 kind, .slice L labels.length lc, .string nm, .string proc, .int .i64 x0, .int .i64 x1, .string x2, .slice X xn xc, .bool has, .slice R args.length rc, .slice T th.length tc, .slice U el.length uc] 55)) wr.heap.size 55 #[.int .i64 id, .int .i64 kind, .slice L labels.length lc, .string nm, .string proc, .int .i64 x0, .int .i64 x1, .string x2, .slice X xn xc, .bool has, .slice R args.length rc, .slice T th.length tc, .slice U el.length uc]) := Lib.hid (Blk.new _ _ _)
    have HC3 : Hid (CaI W0 (wr.alloc (.cells #[.int .i64 id, .int .i64 kind, .slice L labels.length lc, .string nm, .string proc, .int .i64 x0, .int .i64 x1, .string x2, .slice X xn xc, .bool has, .slice R args.length rc, .slice T th.length tc, .slice U el.length uc] 55)) c b (pre ++ pk)) := Lib.hid (HC.out.on HC.out.le (below_box _))
    have HM3 : Hid (Moves (fun j => j = b) W (wr.alloc (.cells #[.int .i64 id, .int .i64 kind, .slice L labels.length lc, .string nm, .string proc, .int .i64 x0, .int .i64 x1, .string x2, .slice X xn xc, .bool has, .slice R args.length rc, .slice T th.length tc, .slice U el.length uc] 55))) := Lib.hid (HMv.out.alloc _)
    have HNb : Hid (¬ wr.heap.size = b) := Lib.hid (fun e => by have := HC.out.set.lt; omega)
    clear p0 p1 p2 p3 p4 p5 p6 p7 p8 p9 p10 p11 p12 HC HMv HIr
    generalize World.alloc wr _ = V at HBi HC3 HM3 ⊢
    generalize wr.heap.size = bi at HBi HNb ⊢
    have s0 : V.cell? ⟨bi, 0, none⟩ = some (.int .i64 id) := by rw [HBi.out.cell]; rfl
    have s1 : V.cell? ⟨bi, 1, none⟩ = some (.int .i64 kind) := by rw [HBi.out.cell]; rfl
    have s2 : V.cell? ⟨bi, 2, none⟩ = some (.slice L labels.length lc) := by rw [HBi.out.cell]; rfl
    have s3 : V.cell? ⟨bi, 3, none⟩ = some (.string nm) := by rw [HBi.out.cell]; rfl
    have s4 : V.cell? ⟨bi, 4, none⟩ = some (.string proc) := by rw [HBi.out.cell]; rfl
    have s5 : V.cell? ⟨bi, 5, none⟩ = some (.int .i64 x0) := by rw [HBi.out.cell]; rfl
    have s6 : V.cell? ⟨bi, 6, none⟩ = some (.int .i64 x1) := by rw [HBi.out.cell]; rfl
    have s7 : V.cell? ⟨bi, 7, none⟩ = some (.string x2) := by rw [HBi.out.cell]; rfl
    have s8 : V.cell? ⟨bi, 8, none⟩ = some (.slice X xn xc) := by rw [HBi.out.cell]; rfl
    have s9 : V.cell? ⟨bi, 9, none⟩ = some (.bool has) := by rw [HBi.out.cell]; rfl
    have s10 : V.cell? ⟨bi, 10, none⟩ = some (.slice R args.length rc) := by rw [HBi.out.cell]; rfl
    have s11 : V.cell? ⟨bi, 11, none⟩ = some (.slice T th.length tc) := by rw [HBi.out.cell]; rfl
    have s12 : V.cell? ⟨bi, 12, none⟩ = some (.slice U el.length uc) := by rw [HBi.out.cell]; rfl
    have HDo := Lib.hid (callsDo_any HSt.out HC3.out HB.out HCB.out HLe.out.2.2.1)
    simp only [List.toArray] at HDo
    go_upto_region 4 with (go_at_call 137; refine HDo.out.mono ?_; rintro e W1 ⟨rfl, hc1, hm1⟩)
    have HC4 := Lib.hid hc1
    have HM4 := Lib.hid (HM3.out.trans hm1 (fun j hj => .inr hj))
    have HBi1 := Lib.hid (hm1.blk HBi.out HNb.out)
    clear hc1 hm1 s0 s1 s2 s3 s4 s5 s6 s7 s8 s9 s10 s11 s12 HC3 HM3 HBi HDo
    have s11 : W1.cell? ⟨bi, 11, none⟩ = some (.slice T th.length tc) := by rw [HBi1.out.cell]; rfl
    go_upto_region 5 with (go_at_call 133; refine (HIh.out th HLe.out.1 _ _ W1 HTh.out HC4.out HLe.out.2.2.2.1).mono ?_; rintro e W2 ⟨rfl, hc2, hm2⟩)
    have HC5 := Lib.hid hc2
    have HM5 := Lib.hid (HM4.out.trans hm2 (fun j hj => .inr hj))
    have HBi2 := Lib.hid (hm2.blk HBi1.out HNb.out)
    clear hc2 hm2 s11 HC4 HM4 HBi1
    have s12 : W2.cell? ⟨bi, 12, none⟩ = some (.slice U el.length uc) := by rw [HBi2.out.cell]; rfl
    go_wp2_with (go_at_call 133; refine (HIh.out el HLe.out.2.1 _ _ W2 HEl.out HC5.out HLe.out.2.2.2.2).mono ?_; rintro e W3 ⟨rfl, hc3, hm3⟩; have HC6 := Lib.hid hc3; have HM6 := Lib.hid (HM5.out.trans hm3 (fun j hj => .inr hj)); clear hc3 hm3)
    go_roundg (blk.length - k - 1)
    case measure => omega
    case rel => exact ⟨k + 1, by omega, by go_num, Lib.hid (by rw [HPt.out]; have h := HC6.out; simp only [List.append_assoc, List.cons_append, List.nil_append] at h ⊢; exact h), HM6⟩
   ·obtain rfl : k = blk.length := by omega
    rw [List.take_length] at HC
    go_wp2_with fail
    go_end0
    exact ⟨rfl, HC.out, HMv.out⟩
set_option maxHeartbeats 2000000 in
set_option maxRecDepth 100000 in
theorem calls_any {w W : World} {Q : Nat → Prop} {q : Pr} {c0 c1 c2 c3 c4 : Value} (h : ProcI w Q q [c0, c1, c2, c3, c4]) (hI : In Q w W) (hn : (preSL q.body).length ≤ 1000000000) :
 Calls Try.prog 132 #[.agg #[c0, c1, c2, c3, c4]] W fun e w' => ∃ b, e = .returned (.map (some b)) ∧ W.heap.size ≤ b ∧ SetI w' b (callsOf (preSL q.body)).length (setF (callsOf (preSL q.body))) ∧ Below W.heap.size W w' := by
 obtain ⟨vp, vv, vb, ve, hc, hqn, hpp, hvv, hbody, hee⟩ := h
 simp only [List.cons.injEq, and_true] at hc
 obtain ⟨rfl, rfl, rfl, rfl, rfl⟩ := hc
 obtain ⟨Bp, kp, rfl, _, _⟩ := hpp.shape
 obtain ⟨Bv, kv, rfl, _, _⟩ := hvv.shape
 obtain ⟨Bb, kb, rfl, _⟩ := hbody.shape
 obtain ⟨Be, ke, rfl, _⟩ := hee.shape
 have HBd := Lib.hid hbody
 have HI := Lib.hid hI
 have HN := Lib.hid hn
 clear hpp hvv hee hbody hI hqn hn
 go_enter Try.func132, Try.ntmps132
 have hmm := @run_makeMap Try.prog
 go_upto_region 2 with fail
 clear hmm
 have HBp : Hid (Blk (((W.alloc (.cells #[.string q.nm, .slice Bp q.params.length kp, .slice Bv q.vars.length kv, .slice Bb q.body.length kb, .slice Be q.end_.length ke] 45)).alloc (.map #[] 0)).alloc (.cells #[.map (some (W.heap.size + 1))] 163)) W.heap.size 45 #[.string q.nm, .slice Bp q.params.length kp, .slice Bv q.vars.length kv, .slice Bb q.body.length kb, .slice Be q.end_.length ke]) := Lib.hid (((Blk.new _ _ _).alloc _).alloc _)
 have HS0 : Hid (SetI (((W.alloc (.cells #[.string q.nm, .slice Bp q.params.length kp, .slice Bv q.vars.length kv, .slice Bb q.body.length kb, .slice Be q.end_.length ke] 45)).alloc (.map #[] 0)).alloc (.cells #[.map (some (W.heap.size + 1))] 163)) (W.heap.size + 1) 0 (setF [])) := Lib.hid (by have h := (SetI.made (W.alloc (.cells #[.string q.nm, .slice Bp q.params.length kp, .slice Bv q.vars.length kv, .slice Bb q.body.length kb, .slice Be q.end_.length ke] 45))).alloc (.cells #[.map (some (W.heap.size + 1))] 163); rw [World.size_alloc] at h; exact h)
 have HBc : Hid (Blk (((W.alloc (.cells #[.string q.nm, .slice Bp q.params.length kp, .slice Bv q.vars.length kv, .slice Bb q.body.length kb, .slice Be q.end_.length ke] 45)).alloc (.map #[] 0)).alloc (.cells #[.map (some (W.heap.size + 1))] 163)) (W.heap.size + 1 + 1) 163 #[.map (some (W.heap.size + 1))]) := Lib.hid (by have h := Blk.new ((W.alloc (.cells #[.string q.nm, .slice Bp q.params.length kp, .slice Bv q.vars.length kv, .slice Bb q.body.length kb, .slice Be q.end_.length ke] 45)).alloc (.map #[] 0)) 163 #[.map (some (W.heap.size + 1))]; rw [World.size_alloc, World.size_alloc] at h; exact h)
 have HB0 : Hid (Below W.heap.size W (((W.alloc (.cells #[.string q.nm, .slice Bp q.params.length kp, .slice Bv q.vars.length kv, .slice Bb q.body.length kb, .slice Be q.end_.length ke] 45)).alloc (.map #[] 0)).alloc (.cells #[.map (some (W.heap.size + 1))] 163))) := Lib.hid (below_stepA (below_stepA (below_box _) _) _)
 generalize World.alloc _ _ = V at HBp HS0 HBc HB0 ⊢
 have q3 : V.cell? ⟨W.heap.size, 3, none⟩ = some (.slice Bb q.body.length kb) := by rw [HBp.out.cell]; rfl
 have HCa : Hid (CaI W V (W.heap.size + 1 + 1) (W.heap.size + 1) []) := Lib.hid ⟨HB0.out, HS0.out, HBc.out⟩
 have hb1 : W.heap.size ≤ W.heap.size + 1 := by omega
 have hb2 : W.heap.size + 1 + 1 ≠ W.heap.size + 1 := by omega
 have HEa := Lib.hid (eachC_any HI.out hb1 hb2 ((preSL q.body).length + 1) q.body (by omega) _ [] V HBd.out HCa.out (by have := HN.out; simpa using this))
 clear HBp HS0 HBc HB0 HCa hb2
 go_upto_region 3 with (go_at_call 133; refine HEa.out.mono ?_; rintro e W1 ⟨rfl, hc1, hm1⟩)
 have HC := Lib.hid hc1
 clear hc1 hm1 q3 HEa
 have p0 : W1.cell? ⟨W.heap.size + 1 + 1, 0, none⟩ = some (.map (some (W.heap.size + 1))) := by rw [HC.out.ptr.cell]; rfl
 go_wp2_with fail
 go_ret
 exact ⟨W.heap.size + 1, rfl, hb1, HC.out.set, HC.out.below⟩
end Go.Proofs.Ytimejkbmfbjomaa
namespace Go.Proofs
open Go.Shelf
shelf_lay Lays.n190 Nm 190 at Try as Try.lays190
end Go.Proofs
namespace Go.Proofs.Ytimejkbmfbjomaa
open Go.ChangeShapes Go.WideShapes Go.ChangeAt Go.RowKit Go.Deep Go.Maps Go.Sort
set_option linter.unusedVariables false
set_option linter.unusedSimpArgs false
theorem sortS_any (blk off cap : Nat) (ss : List (List UInt8)) (w : World) (hH : Holds encStr w blk off ss.toArray) (hblk : blk < w.heap.size) (hsz : ss.length < 4611686018427387904) :
 Calls Try.prog 136 #[.slice (some ⟨blk, off, none⟩) ss.length cap] w fun e w' => e = .returned (.tuple #[]) ∧ ∃ n os, w' = grow (putRow encStr (Sort.ahead w n) blk off (ss.mergeSort fun x y => decide (x ≤ y)).toArray) os := Go.Proofs.Any.slices_Sort_string Try.lays190 blk off cap ss w hH hblk hsz
theorem lawS : Keyed Try.prog 9 := Maps.string_keyed und_s
def toBA (x : List UInt8) : ByteArray := ⟨x.toArray⟩
theorem kS_ba (x : List UInt8) : kS (toBA x) = .string x := by simp [kS, toBA]
theorem ba_size (x : List UInt8) : (toBA x).size = x.length := by simp [toBA, ByteArray.size]
theorem strs_ba (l : List (List UInt8)) : strs (l.map toBA) = l.map encStr := by simp [strs, encStr, toBA]
theorem plainB_is {v : Value} {y : DataW Unit × List MemPlace} (h : plainElem (H := Unit) Try.prog 4 v = some y) : ∃ c, v = .bool c := by
 unfold plainElem at h
 rw [und_b] at h
 cases v <;> simp at h
 exact ⟨_, rfl⟩
/-- the names of which f holds, in ascending order -/
structure InOrd (f : ByteArray → Bool) (l : List ByteArray) : Prop where
 out : ∃ ss : List (List UInt8), l = (ss.mergeSort (fun x y => decide (x ≤ y))).map toBA ∧ ss.Nodup ∧ ∀ x, x ∈ ss ↔ x.length ≤ maxLen ∧ f (toBA x) = true
set_option maxHeartbeats 4000000 in
set_option maxRecDepth 100000 in
theorem inOrder_any {w : World} {b n : Nat} {f : ByteArray → Bool} (h : SetI w b n f) (hn : n ≤ 1000000000) (hsm : ∀ s : ByteArray, s.size ≤ maxLen → f s = true → s.size ≤ 281474976710656) :
 Calls Try.prog 129 #[.map (some b)] w fun e w' => ∃ (l : List ByteArray) (v : Value), e = .returned v ∧ w'.ownsRow w.heap.size 9 1 v l.length (strs l) ∧ Below w.heap.size w w' ∧ InOrd f l := by
 obtain ⟨D0, hown, hf⟩ := h
 obtain ⟨i0, hi, hz0, hz1, hz2⟩ := info_parts string_info
 have hbl := hown.lt
 have hsn := hown.size_le
 have HCl := Lib.hid (fun (s : ByteArray) (V : World) => Clone_any s V)
 have HF := Lib.hid hf
 have HSm := Lib.hid hsm
 have HOwn := Lib.hid hown
 clear hf hsm
 go_enter Try.func129, Try.ntmps129
 go_wp2_with (first
  | (at_len; refine wpList_len_own _ rfl _ 163 rfl 9 4 und_t _ b n _ rfl hown ?_)
  | (at_make; refine wpList_make_own _ rfl _ _ 22 rfl w.heap.size 9 i0 (.string ⟨#[]⟩) 1 Try.underlying22 hi hz0 hz1 _ _ _ (Maps.size D0) rfl rfl rfl (by rw [hz2]; omega) (by unfold maxLen; omega) (Nat.le_refl _) ?_; intro w1 hrow1 hg1)
  | (at_range; refine wpList_range_own _ rfl _ 163 rfl 9 4 lawS und_t _ b n _ rfl (hown.kept hg1 (by simp)) ?_; intro w0 hrg0 hg0 hs0))
 go_frame
 go_loopg [3] (Maps.size D0) (fun kk v wr => ∃ (left : Lit → Bool) (ss : List (List UInt8)), wr.ranges Try.prog 9 (plainElem Try.prog 4) b w1.heap.size n D0 left kk ∧ ss.length + kk ≤ Maps.size D0 ∧
   wr.ownsRow w.heap.size 9 1 v ss.length (ss.map encStr) ∧ v ≠ .slice none 0 0 ∧ Collected D0 left ss ∧ Below w.heap.size w wr)
 case atStart =>
  exact ⟨_, [], hrg0, by simp, hrow1.kept hg0 (Or.inr (by simp [Value.ownBlock])), by simp, Collected.start D0, ((Below.refl _ _).grown hg1 (Nat.le_refl _) (fun j hj => by cases hj)).grown hg0 hg1.size (fun j hj => by cases hj)⟩
 case round =>
  obtain ⟨left, ss, hrg, hcs, hrow, hnn, hC, hnx⟩ := hrel
  go_wp2_with (at_next; refine wpList_next_ranges _ rfl _ rfl 9 lawS (plainElem Try.prog 4) encStr (Value.bool) (fun key kl hk => by obtain ⟨x, hx, _⟩ := Maps.keyOf_str und_s hk; exact ⟨x, hx⟩) (fun v y hv => plainB_is hv) b w1.heap.size n _ _ _ rfl hrg ?_ ?_)
  ·intro hc0 hl0
   rcases hrow.2 with ⟨hnil, _⟩ | ⟨g, cap, cur, rfl, hbase, hb, h1, h2, h3, h4⟩
   ·exact absurd hnil hnn
   have hH : Holds encStr wr g 0 ss.toArray := holds_of_block hb (by simpa using h4)
   have hgl : g < wr.heap.size := (Array.getElem?_eq_some_iff.1 hb).1
   have hc := Lib.hid (sortS_any g 0 cap ss wr hH hgl (by omega))
   have HL0 := Lib.hid hl0
   clear hl0
   go_wp2_with (go_at_call 136; refine hc.out.mono ?_; rintro e w' ⟨rfl, nn, os, rfl⟩)
   go_ret
   have hp := hC.perm HOwn.out lawS und_s HL0.out
   refine ⟨(ss.mergeSort (fun x y => decide (x ≤ y))).map toBA, _, rfl, ?_, hnx.grown (grownBy_sorted _) hnx.size (fun j hj => by cases hj; exact hbase), ⟨ss, rfl, hC.1, fun x => ?_⟩⟩
   ·rw [strs_ba, List.length_map, List.length_mergeSort]
    exact ownsRow_sorted (by simp) hbase hb h1 h2 h3
   ·rw [hC.2 x]
    constructor
    ·rintro ⟨hx, _⟩
     have hxl : x.length ≤ maxLen := strKeys_le HOwn.out und_s x (hp.mem_iff.1 ((hC.2 x).2 ⟨hx, HL0.out _⟩))
     refine ⟨hxl, ?_⟩
     rw [← (HF.out (toBA x) (by rw [ba_size]; exact hxl)).2, kS_ba]
     exact hx
    ·rintro ⟨hxl, hx⟩
     refine ⟨?_, HL0.out _⟩
     rw [← kS_ba x, (HF.out (toBA x) (by rw [ba_size]; exact hxl)).2]
     exact hx
  ·intro x
   refine ⟨?_, ?_⟩
   all_goals
    intro kl yd yp w2 cnt2 hkey hlk hv hat hrg2 hlt hg2 hs2 hen
    obtain ⟨x', ex, rfl, hxl⟩ := Maps.keyOf_str und_s hkey
    obtain rfl : x = x' := encStr_inj ex
    have hrow2 := hrow.kept hg2 (Or.inr (row_ne_iter hrow hrg).symm)
    have hfx : f (toBA x) = true := by
     have hx := ((hC.step hlk hat).2 x).1 (List.mem_append_right _ (List.mem_singleton.2 rfl))
     rw [← (HF.out (toBA x) (by rw [ba_size]; exact hxl)).2, kS_ba]
     exact hx.1
    have HC1 := Lib.hid (HCl.out (toBA x) w2 (HSm.out _ (by rw [ba_size]; exact hxl) hfx))
    have HC2 : Hid (Calls Try.prog 52 #[encStr x] w2 fun e w' => e = .returned (encStr x) ∧ RowKit.Below w2.heap.size w2 w') := HC1
    have HAt := Lib.hid hat
    have HFx := Lib.hid hfx
    clear hs2 hat hfx HC1
    go_wp2_with (first
     | (go_at_call 52; refine HC2.out.mono ?_; rintro e w3 ⟨rfl, hb3⟩; have HG3 : Hid (w2.grownBy w3 none) := Lib.hid ⟨hb3.os, hb3.tape, hb3.output, hb3.size, fun k hk _ => hb3.block k hk⟩; have HR3 := Lib.hid (((Below.moves hb3).row hrow2 (fun j hj e => Nat.not_lt.2 e (hrow2.lt j hj).2)).alloc (.cells #[encStr x] 9)); have HW := Lib.hid (cell_one_new w3 (encStr x) 9); have hz3 := hb3.size; have hz2' := hg2.size; have hz1' := hnx.size; clear hb3)
     | (at_builtin; refine wpList_append_own_at _ rfl (.tmp 14) (.tmp 17) 22 rfl w.heap.size 9 i0 _ 1 16 Try.underlying22 hi hz0 hz1 hz2 rfl (by decide) _ ss.length (ss.map encStr) rfl HR3.out ⟨w3.heap.size, 0, none⟩ 1 1 [encStr x] rfl rfl HW.out (by simp [Value.oneCell', encStr]) (by unfold maxLen; omega) (by omega) (by simp; omega) ?_; intro v' w4 hown' hg4 hnil4 hat4))
    have hrg3 := (((hrg2.kept HG3.out (by simp) (by simp)).alloc (.cells #[encStr x] 9))).kept hg4 (row_ne_low HR3.out hbl) (row_ne_iter hrow2 hrg2)
    go_roundg cnt2
    case measure => exact hlt
    case rel => exact ⟨_, ss ++ [x], hrg3, by simp; omega, by simpa using hown', fun hv' => by have := (hnil4.1 hv').2; omega, hC.step hlk HAt.out, (((hnx.grown hg2 hnx.size (fun j hj => by cases hj; exact hg1.size)).grown HG3.out (by omega) (fun j hj => by cases hj)).alloc (by omega) _).grown hg4 (by simp; omega) (fun j hj => (HR3.out.lt j hj).1)⟩
end Go.Proofs.Ytimejkbmfbjomaa
