/- Texts, merged by a program; only what is used. -/
import Derived.Maps.AppendAt
import Derived.OrdersHeld
import Derived.Test.YtehpinnmalpgpaaK1
import Derived.Test.YtehpinnmalpgpaaK2
import Derived.Test.YtehpinnmalpgpaaK3
import Derived.Test.YtehpinnmalpgpaaK4
import Derived.Test.YtehpinnmalpgpaaK5
import Derived.Test.YtehpinnmalpgpaaK6
import Derived.Test.YtehpinnmalpgpaaK7
import Derived.Test.YtehpinnmalpgpaaK8
import Derived.Test.YtehpinnmalpgpaaK9
import Derived.Test.YtehpinnmalpgpaaK10
import Derived.Test.YtehpinnmalpgpaaK11
import Derived.Test.YtehpinnmalpgpaaK12
import Derived.Test.YtehpinnmalpgpaaK13
import Derived.Test.YtehpinnmalpgpaaK14
import Derived.Test.YtehpinnmalpgpaaK15
import Derived.Test.YtehpinnmalpgpaaK16
namespace Go.Proofs.Ytehpinnmalpgpaa
open Go.ChangeShapes Go.WideShapes Go.ChangeAt Go.RowKit Go.Deep
set_option linter.unusedVariables false
set_option linter.unusedSimpArgs false
def chkOK (p : Pg) : Bool := decide ((chkP p).1 = 0)
theorem named_any {w : World} {Q : Nat → Prop} {p : Pg} {c0 c1 : Value} (h : ProgI w Q p [c0, c1]) (hsm : SmG p) (W : World) (hI : In Q w W) :
 Calls Try.prog 70 #[.agg #[c0, c1]] W (MayOk (chkOK p) W) := by
 have HC := Lib.hid (fun V hV => Check_any h hsm V hV)
 obtain ⟨Ag, cg, Ap, cp, rfl, rfl, _⟩ := prog_open h
 have HI := Lib.hid hI
 have hok : (chkP p).1 = 0 → chkP p = (0, 0) := fun h => (chk_ok h).chk
 have HOk := Lib.hid hok
 have HK : Hid (chkOK p = decide ((chkP p).1 = 0)) := Lib.hid rfl
 clear h hI hok
 generalize chkP p = r at HC HOk HK
 obtain ⟨rc, ri⟩ := r
 go_enter Try.func70, Try.ntmps70
 go_upto_region 1 with fail
 have HB0 : Hid (Below W.heap.size W (W.alloc (.cells #[.slice Ag p.globals.length cg, .slice Ap p.procs.length cp] 25))) := Lib.hid (below_box _)
 have HBp : Hid (Blk (W.alloc (.cells #[.slice Ag p.globals.length cg, .slice Ap p.procs.length cp] 25)) W.heap.size 25 #[.slice Ag p.globals.length cg, .slice Ap p.procs.length cp]) := Lib.hid (Blk.new _ _ _)
 generalize World.alloc _ _ = V at HBp HB0 ⊢
 have q0 : V.cell? ⟨W.heap.size, 0, none⟩ = some (.slice Ag p.globals.length cg) := by rw [HBp.out.cell]; rfl
 have q1 : V.cell? ⟨W.heap.size, 1, none⟩ = some (.slice Ap p.procs.length cp) := by rw [HBp.out.cell]; rfl
 have hbl := HBp.out.lt
 by_cases hr : rc = 0
 ·subst hr
  have hri : ri = 0 := congrArg Prod.snd (HOk.out rfl)
  subst hri
  go_wp2_with (go_at_call 19; refine (HC.out V (HI.out.on HB0.out)).mono ?_; rintro e w1 ⟨rfl, hb1⟩)
  go_ret
  exact ⟨by rw [HK.out]; rfl, below_step HB0.out hb1⟩
 ·have hr1 : (rc == 0) = false := beq_eq_false_iff_ne.2 hr
  have HR := Lib.hid hr
  clear hr
  go_wp2_with (go_at_call 19; refine (HC.out V (HI.out.on HB0.out)).mono ?_; rintro e w1 ⟨rfl, hb1⟩)
  go_ret
  exact ⟨by rw [HK.out, decide_eq_false (by exact HR.out)]; rfl, below_step HB0.out hb1⟩
set_option maxHeartbeats 1000000 in
theorem JIndexQ_any {w W : World} {Q : Nat → Prop} {l : List Pr} {v : Value} (h : SliceI w Q 5 (ProcI w Q) l v) (hI : In Q w W) (s : ByteArray) (b : Nat) (hb : W.cell? ⟨b, 0, none⟩ = some (.string s)) :
  Calls Try.prog 108 #[v, .func (.func 114) #[] #[.pointer (some ⟨b, 0, none⟩)]] W fun e w' => e = .returned (.int .i64 (idxL (isQ s) l 0)) ∧ Below W.heap.size W w' := by
 obtain ⟨A, cap, rfl, hl1, hl2⟩ := h.shape
 have H := Lib.hid h
 have HI := Lib.hid hI
 have HB := Lib.hid hb
 clear h hI hb
 go_enter Try.func108, Try.ntmps108
 go_wp2_with fail
 go_loopg [8] l.length (fun kk i wr => ∃ k : Nat, k + kk = l.length ∧ i = .int .i64 k ∧ Hid (idxL (isQ s) (l.drop k) k = idxL (isQ s) l 0) ∧ Hid (Below W.heap.size W wr))
 case atStart => exact ⟨0, by omega, rfl, Lib.hid (by rw [List.drop_zero]), Lib.hid (Below.refl _ _)⟩
 case round =>
  obtain ⟨k, hk, rfl, HW, HR⟩ := hrel
  by_cases hlt : k < l.length
  ·obtain ⟨a, Cp, kp, Cv, kv, Cb, kb, Ce, ke, rfl, _, ⟨p0, p1, p2, p3, p4, _⟩, _⟩ := proc_at H.out (HI.out.on HR.out) hlt
   have HD := Lib.hid (idxL_drop (f := isQ s) hlt)
   rw [HW.out] at HD
   have hv : isQ s l[k] = (l[k].nm.toList == s.toList) := (dec_bytes _ _).symm
   generalize l[k] = y at p0 p1 p2 p3 p4 HD hv
   obtain ⟨yn, yp, yv, yb, ye⟩ := y
   simp only at p0 p1 p2 p3 p4 hv
   have q0 : wr.cell? ⟨b, 0, none⟩ = some (.string s) := (HR.out.cell (p := ⟨b, 0, none⟩) (World.block_lt_of_cell? W _ HB.out)).trans HB.out
   have hbl := World.block_lt_of_cell? wr _ q0
   cases hb : isQ s ⟨yn, yp, yv, yb, ye⟩ with
   | true =>
    rw [hb, if_pos rfl] at HD
    have hv2 : (yn.toList == s.toList) = true := by rw [← hv]; exact hb
    clear hv hb
    go_wp2_with (go_at_call 114; go_in)
    go_ret
    exact ⟨ret_int HD.out.symm, below_step HR.out (below_box _)⟩
   | false =>
    rw [hb, if_neg (by simp)] at HD
    have hv2 : (yn.toList == s.toList) = false := by rw [← hv]; exact hb
    clear hv hb
    go_wp2_with (go_at_call 114; go_in)
    go_roundg (l.length - k - 1)
    case measure => omega
    case rel => exact ⟨k + 1, by omega, by go_num, Lib.hid HD.out.symm, Lib.hid (below_step HR.out (below_box _))⟩
  ·have HD : Hid (idxL (isQ s) l 0 = -1) := Lib.hid (by rw [← HW.out, List.drop_of_length_le (by omega), idxL])
   go_wp2_with fail
   go_ret
   exact ⟨ret_int HD.out.symm, HR.out⟩
def jfP (p : Pg) (s : ByteArray) : Int := if chkOK p = true then idxL (isQ s) p.procs 0 else -1
theorem jfind_any {w : World} {Q : Nat → Prop} {p : Pg} {c0 c1 : Value} (h : ProgI w Q p [c0, c1]) (hsm : SmG p) (s : ByteArray) (W : World) (hI : In Q w W) :
  Calls Try.prog 72 #[.agg #[c0, c1], .string s] W fun e w' => e = .returned (.int .i64 (jfP p s)) ∧ Below W.heap.size W w' := by
 have HM := Lib.hid (fun V hV => named_any h hsm V hV)
 obtain ⟨Ag, cg, Ap, cp, rfl, rfl, _, _, _, _, _, hpr⟩ := prog_open h
 have HX := Lib.hid (fun V hV b hb => JIndexQ_any (W := V) hpr hV s b hb)
 have HI := Lib.hid hI
 have HF : Hid (jfP p s = if chkOK p = true then idxL (isQ s) p.procs 0 else -1) := Lib.hid rfl
 clear h hI hpr
 generalize idxL (isQ s) p.procs 0 = z at HX HF
 go_enter Try.func72, Try.ntmps72
 go_upto_region 1 with fail
 have HBp : Hid (Blk ((W.alloc (.cells #[.slice Ag p.globals.length cg, .slice Ap p.procs.length cp] 25)).alloc (.cells #[.string s] 9)) W.heap.size 25 #[.slice Ag p.globals.length cg, .slice Ap p.procs.length cp]) := Lib.hid ((Blk.new _ _ _).alloc _)
 have HBr : Hid (Blk ((W.alloc (.cells #[.slice Ag p.globals.length cg, .slice Ap p.procs.length cp] 25)).alloc (.cells #[.string s] 9)) (W.heap.size + 1) 9 #[.string s]) := Lib.hid (by have := Blk.new (W.alloc (.cells #[.slice Ag p.globals.length cg, .slice Ap p.procs.length cp] 25)) 9 #[.string s]; rw [World.size_alloc] at this; exact this)
 have HB0 : Hid (Below W.heap.size W ((W.alloc (.cells #[.slice Ag p.globals.length cg, .slice Ap p.procs.length cp] 25)).alloc (.cells #[.string s] 9))) := Lib.hid (below_stepA (below_box _) _)
 generalize World.alloc _ _ = V at HBp HBr HB0 ⊢
 have q0 : V.cell? ⟨W.heap.size, 0, none⟩ = some (.slice Ag p.globals.length cg) := by rw [HBp.out.cell]; rfl
 have q1 : V.cell? ⟨W.heap.size, 1, none⟩ = some (.slice Ap p.procs.length cp) := by rw [HBp.out.cell]; rfl
 have hbl := HBp.out.lt
 have hbr := HBr.out.lt
 cases hm : chkOK p with
 | false =>
  rw [hm] at HM HF
  clear hm
  go_wp2_with (go_at_call 70; refine (HM.out V (HI.out.on HB0.out)).mono ?_; rintro e w1 ⟨rfl, hb1⟩)
  go_ret
  exact ⟨ret_int (by rw [HF.out]; rfl), below_step HB0.out hb1⟩
 | true =>
  rw [hm] at HM HF
  clear hm
  go_wp2_with (first
   | (go_at_call 70; refine (HM.out V (HI.out.on HB0.out)).mono ?_; rintro e w1 ⟨rfl, hb1⟩; have HI1 := Lib.hid ((HI.out.on HB0.out).on hb1); have q0' : w1.cell? ⟨W.heap.size, 0, none⟩ = some (.slice Ag p.globals.length cg) := (hb1.cell (p := ⟨W.heap.size, 0, none⟩) hbl).trans q0; have q1' : w1.cell? ⟨W.heap.size, 1, none⟩ = some (.slice Ap p.procs.length cp) := (hb1.cell (p := ⟨W.heap.size, 1, none⟩) hbl).trans q1; have r0' : w1.cell? ⟨W.heap.size + 1, 0, none⟩ = some (.string s) := (by rw [(HBr.out.below hb1 hbr).cell]; rfl))
   | (go_at_call 108; refine (HX.out w1 HI1.out _ r0').mono ?_; rintro e w2 ⟨rfl, hb2⟩))
  go_ret
  exact ⟨ret_int (by rw [HF.out]; rfl), below_step (below_step HB0.out hb1) hb2⟩
theorem statements_any (v : Value) (W : World) {l : List S} {w : World} {Q : Nat → Prop} (h : StmtsI w Q l v) : Calls Try.prog 73 #[v] W fun e w' => e = .returned (.func (.func 115) #[] #[.pointer (some ⟨W.heap.size, 0, none⟩)]) ∧ w' = W.alloc (.cells #[v] 43) := by
 obtain ⟨A, cap, rfl, _⟩ := h.shape
 clear h
 go_enter Try.func73, Try.ntmps73
 go_wp2_with fail
 go_ret
 exact ⟨rfl, rfl⟩
theorem room_any {F : Fence} (hd : F.depth = none) (k : Nat) : F.room k := fun d h => by rw [hd] at h; cases h
theorem yield_any {F : Fence} (hd : F.depth = none) {m : Nat} (m' : Nat) {P : Program} {l : Nat} {args : Array Value} {W : World} {R : Ending → World → Prop} (h : YieldAt F m P l args W R) : YieldAt F m' P l args W R := by
 obtain ⟨fn, tmps, assign, body, hy, hR⟩ := h
 exact ⟨fn, tmps, assign, body, hy, hR.1, fun c cs _ => hR.2 c cs (room_any hd _)⟩
section
open Go.Shelf
attribute [local go_sem] Oper.semAt_some
set_option maxHeartbeats 2000000 in
/-- the statements of a body, each with the loop around it: what the iterator gives, in whatever loop -/
theorem statements_stops {F : Fence} (hd : F.depth = none) (hf1 : F.fn 115) (hf : F.fn 116) (hro : F.round = none) {w : World} {Q : Nat → Prop} (n Bs n0 : Nat) (own : Nat → Prop) (hQ : ∀ b, Q b → b < n0 ∧ ¬ own b) (hBs : Bs < n0 ∧ ¬ own Bs) {body : List S} {A : Option Addr} {cap : Nat} (hb : StmtsI w Q body (.slice A body.length cap)) (hws : wSL body ≤ 1000000) (w0 : World) (hI : In Q w w0) (hn : n0 ≤ w0.heap.size) (hc : w0.cell? ⟨Bs, 0, none⟩ = some (.slice A body.length cap)) :
 SeqStopsK F n Try.prog 115 #[.pointer (some ⟨Bs, 0, none⟩)] (encY (w := w) (Q := Q)) (KpC n0 own) (fun ys => ys.map valY = lpSL body 0) (fun pre => pre.map valY <+: lpSL body 0) (preSL body).length w0 := by
 intro l J Jx W hW hJ hJx hY h0
 have hdd : ∀ k : Nat, (F.depth.isSome = true → 1 ≤ k) := fun k h => by rw [hd] at h; cases h
 have hn2 : n0 ≤ W.heap.size := Nat.le_trans hn hW.size
 have hc2 : W.cell? ⟨Bs, 0, none⟩ = some (.slice A body.length cap) := (hW.cell (p := ⟨Bs, 0, none⟩) (by show Bs < _; omega)).trans hc
 have hbW : Bs < W.heap.size := by omega
 have hp := walk_in hd hf hro l n0 (preSL body).length own hQ J Jx (fun pre V o hj => hJ _ _ _ none hj (World.grownBy_alloc V o none) (fun r e => by cases e)) (fun m pre x V hj hl => yield_any hd m (hY pre x V hj hl)) ((preSL body).length + 1) body (by omega) hws (n - 1) A cap 0 [] W hb (hI.on hW) ⟨by omega, by omega⟩ h0 hn2 (by simp)
 refine callsIn_of_wp Try.func115 rfl hf1 ?_ hro
 simp only [Try.ntmps115, List.size_toArray, List.length_cons, List.length_nil, Nat.reduceAdd, Nat.reduceSub, Array.replicate_succ, Array.replicate_zero, List.push_toArray, List.append_toArray, List.nil_append, List.cons_append]
 gi_wp2_with ((try refine ⟨hdd _, ?_⟩); gi_at_call 116; refine hp.mono ?_; clear hp; rintro e W1 (⟨rfl, ys, hys, hJ1, _⟩ | ⟨rfl, ys, hys, hx⟩))
 ·go_end0
  exact ⟨⟨_, rfl⟩, .inl ⟨ys, hys, by simpa using hJ1⟩⟩
 ·go_end0
  exact ⟨⟨_, rfl⟩, .inr ⟨ys, hys, by simpa using hx⟩⟩
end
end Go.Proofs.Ytehpinnmalpgpaa
namespace Go.Proofs.Ytehpinnmalpgpaa
open Go.ChangeShapes Go.WideShapes Go.ChangeAt Go.RowKit Go.Deep Go.Shelf
set_option linter.unusedVariables false
set_option linter.unusedSimpArgs false
attribute [local go_sem] Oper.semAt_some
theorem kpc_grown {n0 : Nat} {own : Nat → Prop} {A B : World} {row : Option Nat} (hn : n0 ≤ A.heap.size) (hg : A.grownBy B row) (hr : ∀ r, row = some r → n0 ≤ r ∧ ∃ o : Obj, A.heap[r]? = some o ∧ o.isCells = false) : KpC n0 own A B := by
 refine ⟨hg.os, hg.tape, hg.output, hg.size, fun k hk _ => ?_, fun k cs t fz hk _ hc => ?_⟩
 ·exact hg.block k (by omega) (fun e => by have := (hr k e.symm).1; omega)
 ·refine (hg.block k (Array.getElem?_eq_some_iff.1 hc).1 (fun e => ?_)).trans hc
  obtain ⟨_, o, ho, h2⟩ := hr k e.symm
  rw [hc] at ho
  injection ho with ho
  subst ho
  cases h2
theorem blk_grown {A B : World} {row : Option Nat} {b : Nat} {ty : TypeId} {cs : Array Value} (h : Blk A b ty cs) (hg : A.grownBy B row) (hr : ∀ r, row = some r → ∃ o : Obj, A.heap[r]? = some o ∧ o.isCells = false) : Blk B b ty cs := by
 refine (hg.block b h.lt (fun e => ?_)).trans h
 obtain ⟨o, ho, h2⟩ := hr b e.symm
 rw [show A.heap[b]? = _ from h] at ho
 injection ho with ho
 subst ho
 cases h2
theorem kf_below {B : Nat} {A C : World} (h : Below A.heap.size A C) : KeepsFrom B A C := ⟨h.size, fun k o _ hk _ => (h.block k (Array.getElem?_eq_some_iff.1 hk).1).trans hk⟩
theorem below_kpc {n0 B0 : Nat} {own : Nat → Prop} {A B : World} (h : KpC n0 own A B) (hb : B0 ≤ n0) (ho : ∀ j, own j → B0 ≤ j) : Below B0 A B := ⟨h.os, h.tape, h.output, h.size, fun k hk => h.low k (by omega) (fun e => by have := ho k e; omega)⟩
def hasL (label : ByteArray) (s : S) : Bool := s.labels.any (isT label)
def atQ (label : ByteArray) (q : Pr) : Int × Bool :=
 match (preSL q.body).find? (hasL label) with
 | some s => (s.id, true)
 | none => if q.end_.any (isT label) = true then (-1, true) else (0, false)
def atZ (p : Pg) (label : ByteArray) : Int → Int × Bool
 | .negSucc _ => (0, false)
 | .ofNat m => (p.procs[m]?).elim (0, false) (atQ label)
def jAt (p : Pg) (proc label : ByteArray) : Int × Bool := atZ p label (jfP p proc)
theorem atZ_at {p : Pg} {label : ByteArray} {m : Nat} (hm : m < p.procs.length) : atZ p label (m : Int) = atQ label p.procs[m] := by
 show (p.procs[m]?).elim _ _ = _
 rw [List.getElem?_eq_getElem hm]; rfl
theorem atZ_neg {p : Pg} {label : ByteArray} : ∀ {z : Int}, z < 0 → atZ p label z = (0, false)
 | .negSucc _, _ => rfl
 | .ofNat m, h => by exact absurd h (by simp)
theorem jfP_case (p : Pg) (s : ByteArray) : jfP p s < 0 ∨ ∃ m : Nat, jfP p s = m ∧ m < p.procs.length := by
 unfold jfP
 split
 ·rcases idxL_get (isQ s) p.procs 0 with ⟨h, _⟩ | ⟨j, h, e, _⟩
  ·exact .inl (by rw [h]; decide)
  ·exact .inr ⟨j, by rw [e]; simp, h⟩
 ·exact .inl (by decide)
theorem find_stop {w : World} {Q : Nat → Prop} {label : ByteArray} {L : List S} {ys : List (YE w Q)} {x : YE w Q} (h : (ys ++ [x]).map valY <+: lpSL L 0) (hn : ∀ y ∈ ys, (valY y).1.labels.any (isT label) = false) (hx : (valY x).1.labels.any (isT label) = true) : (preSL L).find? (hasL label) = some (valY x).1 := by
 obtain ⟨t, ht⟩ := h
 rw [← lpSL_fst L 0, ← ht, List.map_append, List.map_append, List.map_append, List.append_assoc, List.find?_append, List.find?_eq_none.2]
 ·show (List.find? _ ((valY x).1 :: _)) = _
  exact List.find?_cons_of_pos hx
 ·intro s hs
  simp only [List.mem_map] at hs
  obtain ⟨_, ⟨y, hy, rfl⟩, rfl⟩ := hs
  intro e
  rw [show hasL label (valY y).1 = false from hn y hy] at e
  cases e
theorem find_done {w : World} {Q : Nat → Prop} {label : ByteArray} {L : List S} {ys : List (YE w Q)} (h : ys.map valY = lpSL L 0) (hn : ∀ y ∈ ys, (valY y).1.labels.any (isT label) = false) : (preSL L).find? (hasL label) = none := by
 rw [← lpSL_fst L 0, ← h, List.find?_eq_none]
 intro s hs
 simp only [List.mem_map] at hs
 obtain ⟨_, ⟨y, hy, rfl⟩, rfl⟩ := hs
 intro e
 rw [show hasL label (valY y).1 = false from hn y hy] at e
 cases e
set_option maxRecDepth 100000 in
set_option maxHeartbeats 8000000 in
theorem jAt_any {w : World} {Q : Nat → Prop} {p : Pg} {c0 c1 : Value} (h : ProgI w Q p [c0, c1]) (hsm : SmG p) (proc label : ByteArray) (W : World) (hI : In Q w W) :
 Calls Try.prog 29 #[.agg #[c0, c1], .string proc, .string label] W fun e w' => e = .returned (.tuple #[.int .i64 (jAt p proc label).1, .bool (jAt p proc label).2]) ∧ Below W.heap.size W w' := by
 have HFd := Lib.hid (fun V hV => jfind_any h hsm proc V hV)
 obtain ⟨Ag, cg, Ap, cp, rfl, rfl, _, _, _, _, _, hpr⟩ := prog_open h
 have HP := Lib.hid hpr
 have HI := Lib.hid hI
 clear h hI hpr
 have HZ := Lib.hid (jfP_case p proc)
 obtain ⟨res, hres⟩ : ∃ res, res = jAt p proc label := ⟨_, rfl⟩
 rw [← hres]
 unfold jAt at hres
 have HRes := Lib.hid hres
 clear hres
 generalize jfP p proc = z at HFd HZ HRes
 refine (callsIn_wide (n := 6)).1 ?_
 have hro : Fence.wide.round = none := rfl
 refine callsIn_of_wp_marks Try.func29 rfl trivial ?_ hro
 simp only [Try.ntmps29, List.size_toArray, List.length_cons, List.length_nil, Nat.reduceAdd, Nat.reduceSub, Array.replicate_succ, Array.replicate_zero, List.push_toArray, List.append_toArray, List.nil_append, List.cons_append]
 obtain ⟨V0, hV0⟩ : ∃ V0, V0 = ((((W.alloc (.cells #[.slice Ag p.globals.length cg, .slice Ap p.procs.length cp] 25)).alloc (.cells #[.string label] 9)).alloc (.cells #[.int .i64 0] 3)).alloc (.cells #[.bool false] 4)) := ⟨_, rfl⟩
 have HV0 := Lib.hid hV0
 have hB0 : Below W.heap.size W V0 := by rw [hV0]; exact below_stepA (below_stepA (below_stepA (below_box _) _) _) _
 have hz0 : V0.heap.size = W.heap.size + 1 + 1 + 1 + 1 := by rw [hV0]; simp
 have HB3 : Hid (Blk V0 W.heap.size 25 #[.slice Ag p.globals.length cg, .slice Ap p.procs.length cp]) := Lib.hid (by rw [hV0]; exact (((Blk.new _ _ _).alloc _).alloc _).alloc _)
 have HB5 : Hid (Blk V0 (W.heap.size + 1) 9 #[.string label]) := Lib.hid (by rw [hV0]; have h := Blk.new (W.alloc (.cells #[.slice Ag p.globals.length cg, .slice Ap p.procs.length cp] 25)) 9 #[.string label]; rw [World.size_alloc] at h; exact (h.alloc _).alloc _)
 have HB6 : Hid (Blk V0 (W.heap.size + 1 + 1) 3 #[.int .i64 0]) := Lib.hid (by rw [hV0]; have h := Blk.new ((W.alloc (.cells #[.slice Ag p.globals.length cg, .slice Ap p.procs.length cp] 25)).alloc (.cells #[.string label] 9)) 3 #[.int .i64 0]; rw [World.size_alloc, World.size_alloc] at h; exact h.alloc _)
 have HB7 : Hid (Blk V0 (W.heap.size + 1 + 1 + 1) 4 #[.bool false]) := Lib.hid (by rw [hV0]; have h := Blk.new (((W.alloc (.cells #[.slice Ag p.globals.length cg, .slice Ap p.procs.length cp] 25)).alloc (.cells #[.string label] 9)).alloc (.cells #[.int .i64 0] 3)) 4 #[.bool false]; rw [World.size_alloc, World.size_alloc, World.size_alloc] at h; exact h)
 have HI0 := Lib.hid (HI.out.on hB0)
 have HF0 := Lib.hid (HFd.out _ HI0.out)
 rw [hV0] at HF0
 have HBW := Lib.hid hB0
 have HZ0 := Lib.hid hz0
 clear hV0 hB0 hz0
 rcases HZ.out with hz | ⟨m, rfl, hm⟩
 ·gi_wp2_with (refine ⟨trivial, ?_⟩; gi_at_call 72; refine (callsIn_wide.2 HF0.out).mono ?_; clear HF0; rintro e w1 ⟨rfl, hb1⟩; rw [← HV0.out] at hb1; have h6 := HB6.out.below hb1 HB6.out.lt; have h7 := HB7.out.below hb1 HB7.out.lt; have c6 : w1.cell? ⟨W.heap.size + 1 + 1, 0, none⟩ = some (.int .i64 0) := (by rw [h6.cell]; rfl); have c7 : w1.cell? ⟨W.heap.size + 1 + 1 + 1, 0, none⟩ = some (.bool false) := (by rw [h7.cell]; rfl); have f6 := h6.frozen 0; have f7 := h7.frozen 0; have l6 := h6.lt; have l7 := h7.lt; have HB1 := Lib.hid hb1; clear hb1)
  have h6' := (h6.set_ 0 (.int .i64 0)).far (p := ⟨W.heap.size + 1 + 1 + 1, 0, none⟩) (by show (W.heap.size + 1 + 1 : Nat) ≠ W.heap.size + 1 + 1 + 1; omega) (.bool false)
  have h7' := (h7.far (p := ⟨W.heap.size + 1 + 1, 0, none⟩) (by show (W.heap.size + 1 + 1 + 1 : Nat) ≠ W.heap.size + 1 + 1; omega) (.int .i64 0)).set_ 0 (.bool false)
  simp only [List.setIfInBounds_toArray, List.set_cons_zero] at h6' h7'
  have hc6 := h6'.cell 0
  have hc7 := h7'.cell 0
  have HRv : Hid (res = (0, false)) := Lib.hid (by rw [HRes.out, atZ_neg hz])
  refine ⟨_, ?_, by rw [HRv.out], ((below_step HBW.out HB1.out).setCell (p := ⟨W.heap.size + 1 + 1, 0, none⟩) (by show W.heap.size ≤ W.heap.size + 1 + 1; omega) _).setCell (p := ⟨W.heap.size + 1 + 1 + 1, 0, none⟩) (by show W.heap.size ≤ W.heap.size + 1 + 1 + 1; omega) _⟩
  simp [results, Try.f29, go_sem, hc6, hc7]
 ·have hz : ¬ ((m : Int) < 0) := by omega
  gi_wp2_with (first
   | (refine ⟨trivial, ?_⟩; gi_at_call 72; refine (callsIn_wide.2 HF0.out).mono ?_; clear HF0; rintro e w1 ⟨rfl, hb1⟩; rw [← HV0.out] at hb1; have HB1 := Lib.hid hb1; have HI1 := Lib.hid (HI0.out.on hb1); have d3 := HB3.out.below hb1 HB3.out.lt; have q1 : w1.cell? ⟨W.heap.size, 1, none⟩ = some (.slice Ap p.procs.length cp) := (by rw [d3.cell]; rfl); obtain ⟨a, Bp, kp, Bv, kv, Bb, kb, Be, ke, rfl, hqa, ⟨p0, p1, p2, p3, p4, _⟩, hnm, hpp, hvv, hbody, hee⟩ := proc_at HP.out HI1.out hm; clear p0 p1 p2 p4 hnm hpp hvv hb1 d3)
   | (refine ⟨trivial, ?_⟩; gi_at_call 73; refine (callsIn_wide.2 (statements_any _ _ hbody)).mono ?_; rintro e w2 ⟨rfl, hw2⟩; have HW2 := Lib.hid hw2; clear hw2))
  have HBo := Lib.hid hbody
  have hnz : W.heap.size + 1 + 1 + 1 + 1 ≤ w1.heap.size := by rw [← HZ0.out]; exact HB1.out.size
  have hI2 : In Q w w2 := by rw [HW2.out]; exact HI1.out.alloc _
  have hQ2 : ∀ j, Q j → j < w2.heap.size ∧ ¬ (j = W.heap.size + 1 + 1 ∨ j = W.heap.size + 1 + 1 + 1) := fun j hj => ⟨hI2.1 j hj, by have := HI.out.1 j hj; omega⟩
  have hs2 : w2.heap.size = w1.heap.size + 1 := by rw [HW2.out]; simp
  have hc2 : w2.cell? ⟨w1.heap.size, 0, none⟩ = some (.slice Bb p.procs[m].body.length kb) := by rw [HW2.out, (Blk.new w1 _ _).cell]; rfl
  have hb12 : Below w1.heap.size w1 w2 := by rw [HW2.out]; exact below_box _
  have hb02 : Below V0.heap.size V0 w2 := below_step HB1.out hb12
  have HB02 := Lib.hid (below_step HBW.out hb02)
  have h3 := HB3.out.below hb02 HB3.out.lt
  have h5 := HB5.out.below hb02 HB5.out.lt
  have h6 := HB6.out.below hb02 HB6.out.lt
  have h7 := HB7.out.below hb02 HB7.out.lt
  have H3 := Lib.hid h3
  have H5 := Lib.hid h5
  have HI2 := Lib.hid hI2
  have HQ2 := Lib.hid hQ2
  have Hhr : Hid (∀ (A B : World) (row : Option Nat), (∀ r, row = some r → w2.heap.size ≤ r ∧ ∃ o : Obj, A.heap[r]? = some o ∧ o.isCells = false) → (∀ r, row = some r → ∃ o : Obj, A.heap[r]? = some o ∧ o.isCells = false)) := Lib.hid (fun A B row h r e => (h r e).2)
  refine wpIn_rangeFunc_ownH hro (by omega) (gf := 115) (lb := #[.pointer (some ⟨w1.heap.size, 0, none⟩)]) rfl trivial (enters_of Try.func115 (by kernel_rfl) rfl)
   (statements_stops rfl trivial trivial hro (6 - 1) w1.heap.size w2.heap.size (fun j => j = W.heap.size + 1 + 1 ∨ j = W.heap.size + 1 + 1 + 1) hQ2 ⟨by omega, by omega⟩ hbody (hsm.proc _ (List.getElem_mem hm)).1 w2 hI2 (Nat.le_refl _) hc2) (fun h k => KpC.trans h k) (KpC.put (Nat.le_refl _)) (Below.refl _ _) (fun _ => rfl)
   (fun pre V => KpC w2.heap.size (fun j => j = W.heap.size + 1 + 1 ∨ j = W.heap.size + 1 + 1 + 1) w2 V ∧ Blk V (W.heap.size + 1 + 1) 3 #[.int .i64 0] ∧ Blk V (W.heap.size + 1 + 1 + 1) 4 #[.bool false] ∧ ∀ x ∈ pre, (valY x).1.labels.any (isT label) = false)
   (fun c pre V => ∃ ys x, pre = ys ++ [x] ∧ c = .ret ∧ KpC w2.heap.size (fun j => j = W.heap.size + 1 + 1 ∨ j = W.heap.size + 1 + 1 + 1) w2 V ∧ Blk V (W.heap.size + 1 + 1) 3 #[.int .i64 (valY x).1.id] ∧ Blk V (W.heap.size + 1 + 1 + 1) 4 #[.bool true] ∧ (∀ y ∈ ys, (valY y).1.labels.any (isT label) = false) ∧ (valY x).1.labels.any (isT label) = true)
   (fun s A B row hs hg hr => ⟨hs.1.trans (kpc_grown hs.1.size hg hr), blk_grown hs.2.1 hg (Hhr.out A B row hr), blk_grown hs.2.2.1 hg (Hhr.out A B row hr), hs.2.2.2⟩)
   (fun c s A B row hs hg hr => by
    obtain ⟨ys, x, h1, h2, h3, h4, h5, h6⟩ := hs
    exact ⟨ys, x, h1, h2, h3.trans (kpc_grown h3.size hg hr), blk_grown h4 hg (Hhr.out A B row hr), blk_grown h5 hg (Hhr.out A B row hr), h6⟩)
   ⟨KpC.refl _, h6, h7, fun x hx => by cases hx⟩
   (fun x a' V => ∃ Bx, w2.heap.size ≤ Bx ∧ Blk V Bx 60 x.1.2.toArray ∧ a' = { tmps := #[.agg #[.slice Ag p.globals.length cg, .slice (some a) p.procs.length cp], .string proc, .string label, .pointer (some ⟨W.heap.size, 0, none⟩), undef, .pointer (some ⟨W.heap.size + 1, 0, none⟩), .pointer (some ⟨W.heap.size + 1 + 1, 0, none⟩), .pointer (some ⟨W.heap.size + 1 + 1 + 1, 0, none⟩), .int .i64 m, .pointer (some ⟨Bx, 0, none⟩), .agg #[.slice Ag p.globals.length cg, .slice (some a) p.procs.length cp], .string proc, .int .i64 m, .int .i64 m, .bool (decide ((m : Int) < 0)), .pointer (some ⟨W.heap.size, 1, none⟩), .slice (some a) p.procs.length cp, .int .i64 m, .pointer (some (a.add (m * 5))), .pointer (some ⟨(a.add (m * 5)).block, (a.add (m * 5)).off + 3, none⟩), .slice Bb p.procs[m].body.length kb, .func (.func 115) #[] #[.pointer (some ⟨w1.heap.size, 0, none⟩)], .agg x.1.2.toArray, .int .i64 x.1.1.2, undef, undef, undef, undef, undef, undef, undef, undef, undef, undef, undef, undef, undef, undef], defers := [] })
   (fun x a' s A B row hs hg hr => by
    obtain ⟨Bx, h1, h2, h3⟩ := hs
    exact ⟨Bx, h1, blk_grown h2 hg (Hhr.out A B row hr), h3⟩) ?assign ?body ?done ?stop
  case assign =>
   rintro l pre ⟨⟨⟨s, lp⟩, cs⟩, hst, hlp⟩ W3 K hi hK
   obtain ⟨sid, kind, labels, nm, proc, x, has, args, th, el, L, lc, y0, y1, y2, X, xn, xc, R, rc, T, tc, U, uc, hmk, hcs, _⟩ := stmt_open hst
   have hcs' : cs = [.int .i64 sid, .int .i64 kind, .slice L labels.length lc, .string nm, .string proc, .int .i64 y0, .int .i64 y1, .string y2, .slice X xn xc, .bool has, .slice R args.length rc, .slice T th.length tc, .slice U el.length uc] := hcs
   subst hcs'
   have HI3 := Lib.hid hi
   clear hi h3 h5 h6 h7 hmk hcs
   dsimp only [encY]
   gi_wp2
   exact hK _ _ (kf_below (below_box _)) (KpC.of_below HI3.out.1.size (below_box _)) ⟨HI3.out.1.trans (KpC.of_below HI3.out.1.size (below_box _)), HI3.out.2.1.alloc _, HI3.out.2.2.1.alloc _, HI3.out.2.2.2⟩ ⟨W3.heap.size, HI3.out.1.size, Blk.new _ _ _, rfl⟩
  case body =>
   rintro l pre ⟨⟨⟨s, lp⟩, cs⟩, hst, hlp⟩ a' W3 hl hrec hi ⟨Bx, hBx, hbx, rfl⟩ hlt
   obtain ⟨sid, kind, labels, nm, proc, x, has, args, th, el, L, lc, y0, y1, y2, X, xn, xc, R, rc, T, tc, U, uc, hmk, hcs, _, _, _, _, hlab, _⟩ := stmt_open hst
   have hcs' : cs = [.int .i64 sid, .int .i64 kind, .slice L labels.length lc, .string nm, .string proc, .int .i64 y0, .int .i64 y1, .string y2, .slice X xn xc, .bool has, .slice R args.length rc, .slice T th.length tc, .slice U el.length uc] := hcs
   subst hcs'
   have HI3 := Lib.hid hi
   have HL3 := Lib.hid (Contains_any hlab (HI3.out.1.inn HQ2.out HI2.out) label)
   have b5 : Blk W3 (W.heap.size + 1) 9 #[.string label] := (HI3.out.1.low _ (by omega) (by omega)).trans H5.out
   have bx : Blk W3 Bx 60 #[.int .i64 sid, .int .i64 kind, .slice L labels.length lc, .string nm, .string proc, .int .i64 y0, .int .i64 y1, .string y2, .slice X xn xc, .bool has, .slice R args.length rc, .slice T th.length tc, .slice U el.length uc] := hbx
   have c5 : W3.cell? ⟨W.heap.size + 1, 0, none⟩ = some (.string label) := by rw [b5.cell]; rfl
   have cx : W3.cell? ⟨Bx, 2, none⟩ = some (.slice L labels.length lc) := by rw [bx.cell]; rfl
   have cx0 : W3.cell? ⟨Bx, 0, none⟩ = some (.int .i64 sid) := by rw [bx.cell]; rfl
   have c6 : W3.cell? ⟨W.heap.size + 1 + 1, 0, none⟩ = some (.int .i64 0) := by rw [HI3.out.2.1.cell]; rfl
   have c7 : W3.cell? ⟨W.heap.size + 1 + 1 + 1, 0, none⟩ = some (.bool false) := by rw [HI3.out.2.2.1.cell]; rfl
   have f6 := HI3.out.2.1.frozen 0
   have f7 := HI3.out.2.2.1.frozen 0
   have HMk := Lib.hid hmk
   dsimp only at hmk
   have hbl6 := HI3.out.2.1.lt
   have hbl7 := HI3.out.2.2.1.lt
   clear hi h3 h5 h6 h7 hcs hmk hlab hbx
   cases hc : labels.any (isT label) with
   | true =>
    rw [hc] at HL3
    gi_wp2_with (refine ⟨trivial, ?_⟩; gi_at_call 74; refine (CallsIn.inRound l (callsIn_wide.2 HL3.out)).mono ?_; rintro e W4 ⟨rfl, rfl⟩)
    refine ⟨((KeepsOthers.setCell _ _ _).trans (KeepsOthers.setCell _ _ _)).from _, pre, ⟨((s, lp), _), hst, hlp⟩, rfl, rfl, HI3.out.1.trans ((KpC.set_ (.inl rfl) (by show W.heap.size + 1 + 1 < _; omega) _).trans (KpC.set_ (.inr rfl) (by show W.heap.size + 1 + 1 + 1 < _; omega) _)), ?_, ?_, HI3.out.2.2.2, ?_⟩
    ·have h := (HI3.out.2.1.set_ 0 (.int .i64 sid)).far (p := ⟨W.heap.size + 1 + 1 + 1, 0, none⟩) (by show (W.heap.size + 1 + 1 : Nat) ≠ W.heap.size + 1 + 1 + 1; omega) (.bool true)
     simp only [List.setIfInBounds_toArray, List.set_cons_zero] at h
     have e : (valY (⟨((s, lp), _), hst, hlp⟩ : YE w Q)).1.id = sid := by show s.id = sid; rw [show s = _ from HMk.out]; rfl
     rw [e]; exact h
    ·have h := (HI3.out.2.2.1.far (p := ⟨W.heap.size + 1 + 1, 0, none⟩) (by show (W.heap.size + 1 + 1 + 1 : Nat) ≠ W.heap.size + 1 + 1; omega) (.int .i64 sid)).set_ 0 (.bool true)
     simp only [List.setIfInBounds_toArray, List.set_cons_zero] at h
     exact h
    ·show s.labels.any (isT label) = true
     rw [show s = _ from HMk.out]; exact hc
   | false =>
    rw [hc] at HL3
    gi_wp2_with (refine ⟨trivial, ?_⟩; gi_at_call 74; refine (CallsIn.inRound l (callsIn_wide.2 HL3.out)).mono ?_; rintro e W4 ⟨rfl, rfl⟩)
    refine ⟨KeepsFrom.refl _ _, KpC.refl _, HI3.out.1, HI3.out.2.1, HI3.out.2.2.1, fun y hy => ?_⟩
    rcases List.mem_append.1 hy with hy | hy
    ·exact HI3.out.2.2.2 y hy
    ·rw [List.mem_singleton.1 hy]
     show s.labels.any (isT label) = false
     rw [show s = _ from HMk.out]; exact hc
  case done =>
   rintro D xs W3 hD hS ⟨hK, k6, k7, hno⟩ hKd
   have HKd := Lib.hid hKd
   have b3 : Blk W3 W.heap.size 25 #[.slice Ag p.globals.length cg, .slice (some a) p.procs.length cp] := (hK.low _ (by omega) (by omega)).trans H3.out
   have b5 : Blk W3 (W.heap.size + 1) 9 #[.string label] := (hK.low _ (by omega) (by omega)).trans H5.out
   have HI3 := Lib.hid (hK.inn HQ2.out HI2.out)
   obtain ⟨a', Cp, lp, Cv, lv, Cb, lb, Ce, le, ha', hqa', ⟨p0', p1', p2', p3', p4', _⟩, hnm', hpp', hvv', hbody', hee'⟩ := proc_at HP.out HI3.out hm
   injection ha' with ha'
   subst ha'
   have HE3 := Lib.hid (Contains_any (W := W3.drew) hee' (show In Q w W3.drew from HI3.out) label)
   have q1 : W3.cell? ⟨W.heap.size, 1, none⟩ = some (.slice (some a) p.procs.length cp) := by rw [b3.cell]; rfl
   have q5 : W3.cell? ⟨W.heap.size + 1, 0, none⟩ = some (.string label) := by rw [b5.cell]; rfl
   have c6 : W3.cell? ⟨W.heap.size + 1 + 1, 0, none⟩ = some (.int .i64 0) := by rw [k6.cell]; rfl
   have c7 : W3.cell? ⟨W.heap.size + 1 + 1 + 1, 0, none⟩ = some (.bool false) := by rw [k7.cell]; rfl
   have f6 := k6.frozen 0
   have f7 := k7.frozen 0
   have K6 := Lib.hid k6
   have K7 := Lib.hid k7
   have HK := Lib.hid hK
   have hbl6 := k6.lt
   have hbl7 := k7.lt
   clear h3 h5 h6 h7 p0' p1' p2' p3' hnm' hpp' hvv' hbody' hee' hK k6 k7 hKd
   have HS8 : Hid (∀ w' : World, Below W3.heap.size W3 w' → (w'.cell? ⟨W.heap.size, 1, none⟩ = some (.slice (some a) p.procs.length cp) ∧ w'.cell? ⟨W.heap.size + 1, 0, none⟩ = some (.string label) ∧ w'.cell? ⟨(a.add (m * 5)).block, (a.add (m * 5)).off + 4, none⟩ = some (.slice Ce p.procs[m].end_.length le))) := Lib.hid (fun w' hb => ⟨(hb.cell (p := ⟨W.heap.size, 1, none⟩) b3.lt).trans q1, (hb.cell (p := ⟨W.heap.size + 1, 0, none⟩) b5.lt).trans q5, (hb.cell (p := ⟨(a.add (m * 5)).block, (a.add (m * 5)).off + 4, none⟩) (World.block_lt_of_cell? W3 _ p4')).trans p4'⟩)
   have hBD : Below W3.heap.size W3 W3.drew := (Below.refl _ _).drew
   gi_wp2
   refine wpIn_wide.2 ?_
   cases he : p.procs[m].end_.any (isT label) with
   | true =>
    rw [he] at HE3
    go_region_held3 (fun w' => w'.cell? ⟨W.heap.size, 1, none⟩ = some (.slice (some a) p.procs.length cp) ∧ w'.cell? ⟨W.heap.size + 1, 0, none⟩ = some (.string label) ∧ w'.cell? ⟨(a.add (m * 5)).block, (a.add (m * 5)).off + 4, none⟩ = some (.slice Ce p.procs[m].end_.length le))
     ((refine HS8.out _ ?_; with_reducible assumption))
     ((go_at_call 74; (with_reducible refine HE3.out.mono ?_); rintro e' W4 ⟨rfl, rfl⟩))
    gi_wp2
    have HRv : Hid (res = (-1, true)) := Lib.hid (by rw [HRes.out, atZ_at hm, atQ, find_done hS hno]; simp only [he, if_true])
    have b6 : Blk ((W3.setCell ⟨W.heap.size + 1 + 1, 0, none⟩ (.int .i64 (-1))).setCell ⟨W.heap.size + 1 + 1 + 1, 0, none⟩ (.bool true)).drew (W.heap.size + 1 + 1) 3 #[.int .i64 (-1)] := by
     have h := (K6.out.set_ 0 (.int .i64 (-1))).far (p := ⟨W.heap.size + 1 + 1 + 1, 0, none⟩) (by show (W.heap.size + 1 + 1 : Nat) ≠ W.heap.size + 1 + 1 + 1; omega) (.bool true)
     simp only [List.setIfInBounds_toArray, List.set_cons_zero] at h
     exact h
    have b7 : Blk ((W3.setCell ⟨W.heap.size + 1 + 1, 0, none⟩ (.int .i64 (-1))).setCell ⟨W.heap.size + 1 + 1 + 1, 0, none⟩ (.bool true)).drew (W.heap.size + 1 + 1 + 1) 4 #[.bool true] := by
     have h := (K7.out.far (p := ⟨W.heap.size + 1 + 1, 0, none⟩) (by show (W.heap.size + 1 + 1 + 1 : Nat) ≠ W.heap.size + 1 + 1; omega) (.int .i64 (-1))).set_ 0 (.bool true)
     simp only [List.setIfInBounds_toArray, List.set_cons_zero] at h
     exact h
    have hD2 : ((W3.setCell ⟨W.heap.size + 1 + 1, 0, none⟩ (.int .i64 (-1))).setCell ⟨W.heap.size + 1 + 1 + 1, 0, none⟩ (.bool true)).drew.heap[D]? = some (.deferred (some [])) := by
     show ((W3.setCell ⟨W.heap.size + 1 + 1, 0, none⟩ (.int .i64 (-1))).setCell ⟨W.heap.size + 1 + 1 + 1, 0, none⟩ (.bool true)).heap[D]? = _
     rw [Below.heap_setCell _ _ _ _ (by show (D : Nat) ≠ W.heap.size + 1 + 1 + 1; omega), Below.heap_setCell _ _ _ _ (by show (D : Nat) ≠ W.heap.size + 1 + 1; omega)]
     exact HKd.out
    have hc6 := cell_kept (show ((W3.setCell ⟨W.heap.size + 1 + 1, 0, none⟩ (.int .i64 (-1))).setCell ⟨W.heap.size + 1 + 1 + 1, 0, none⟩ (.bool true)).drew.cell? ⟨W.heap.size + 1 + 1, 0, none⟩ = some (.int .i64 (-1)) by rw [b6.cell]; rfl) (grownBy_putObj' _ D (.deferred none)) (fun r e => by cases e; exact ⟨_, hD2, rfl⟩)
    have hc7 := cell_kept (show ((W3.setCell ⟨W.heap.size + 1 + 1, 0, none⟩ (.int .i64 (-1))).setCell ⟨W.heap.size + 1 + 1 + 1, 0, none⟩ (.bool true)).drew.cell? ⟨W.heap.size + 1 + 1 + 1, 0, none⟩ = some (.bool true) by rw [b7.cell]; rfl) (grownBy_putObj' _ D (.deferred none)) (fun r e => by cases e; exact ⟨_, hD2, rfl⟩)
    have hB3 : Below W.heap.size W ((W3.setCell ⟨W.heap.size + 1 + 1, 0, none⟩ (.int .i64 (-1))).setCell ⟨W.heap.size + 1 + 1 + 1, 0, none⟩ (.bool true)).drew := (((HB02.out.trans (below_kpc HK.out (by omega) (fun j hj => by omega))).setCell (p := ⟨W.heap.size + 1 + 1, 0, none⟩) (by show W.heap.size ≤ W.heap.size + 1 + 1; omega) _).setCell (p := ⟨W.heap.size + 1 + 1 + 1, 0, none⟩) (by show W.heap.size ≤ W.heap.size + 1 + 1 + 1; omega) _).drew
    refine ⟨by simp, .inl ⟨_, _, rfl, run_takeDeferred hD2, ?_⟩⟩
    refine ⟨_, ?_, by rw [HRv.out], hB3.trans (belowK_b (w := W) (Nat.le_refl _) _ D _ _ (by omega) hD2 rfl rfl)⟩
    simp [results, Try.f29, go_sem, hc6, hc7]
   | false =>
    rw [he] at HE3
    go_region_held3 (fun w' => w'.cell? ⟨W.heap.size, 1, none⟩ = some (.slice (some a) p.procs.length cp) ∧ w'.cell? ⟨W.heap.size + 1, 0, none⟩ = some (.string label) ∧ w'.cell? ⟨(a.add (m * 5)).block, (a.add (m * 5)).off + 4, none⟩ = some (.slice Ce p.procs[m].end_.length le))
     ((refine HS8.out _ ?_; with_reducible assumption))
     ((go_at_call 74; (with_reducible refine HE3.out.mono ?_); rintro e' W4 ⟨rfl, rfl⟩))
    gi_wp2
    have HRv : Hid (res = (0, false)) := Lib.hid (by rw [HRes.out, atZ_at hm, atQ, find_done hS hno]; simp only [he, Bool.false_eq_true, if_false])
    have b6 : Blk ((W3.setCell ⟨W.heap.size + 1 + 1, 0, none⟩ (.int .i64 0)).setCell ⟨W.heap.size + 1 + 1 + 1, 0, none⟩ (.bool false)).drew (W.heap.size + 1 + 1) 3 #[.int .i64 0] := by
     have h := (K6.out.set_ 0 (.int .i64 0)).far (p := ⟨W.heap.size + 1 + 1 + 1, 0, none⟩) (by show (W.heap.size + 1 + 1 : Nat) ≠ W.heap.size + 1 + 1 + 1; omega) (.bool false)
     simp only [List.setIfInBounds_toArray, List.set_cons_zero] at h
     exact h
    have b7 : Blk ((W3.setCell ⟨W.heap.size + 1 + 1, 0, none⟩ (.int .i64 0)).setCell ⟨W.heap.size + 1 + 1 + 1, 0, none⟩ (.bool false)).drew (W.heap.size + 1 + 1 + 1) 4 #[.bool false] := by
     have h := (K7.out.far (p := ⟨W.heap.size + 1 + 1, 0, none⟩) (by show (W.heap.size + 1 + 1 + 1 : Nat) ≠ W.heap.size + 1 + 1; omega) (.int .i64 0)).set_ 0 (.bool false)
     simp only [List.setIfInBounds_toArray, List.set_cons_zero] at h
     exact h
    have hD2 : ((W3.setCell ⟨W.heap.size + 1 + 1, 0, none⟩ (.int .i64 0)).setCell ⟨W.heap.size + 1 + 1 + 1, 0, none⟩ (.bool false)).drew.heap[D]? = some (.deferred (some [])) := by
     show ((W3.setCell ⟨W.heap.size + 1 + 1, 0, none⟩ (.int .i64 0)).setCell ⟨W.heap.size + 1 + 1 + 1, 0, none⟩ (.bool false)).heap[D]? = _
     rw [Below.heap_setCell _ _ _ _ (by show (D : Nat) ≠ W.heap.size + 1 + 1 + 1; omega), Below.heap_setCell _ _ _ _ (by show (D : Nat) ≠ W.heap.size + 1 + 1; omega)]
     exact HKd.out
    have hc6 := cell_kept (show ((W3.setCell ⟨W.heap.size + 1 + 1, 0, none⟩ (.int .i64 0)).setCell ⟨W.heap.size + 1 + 1 + 1, 0, none⟩ (.bool false)).drew.cell? ⟨W.heap.size + 1 + 1, 0, none⟩ = some (.int .i64 0) by rw [b6.cell]; rfl) (grownBy_putObj' _ D (.deferred none)) (fun r e => by cases e; exact ⟨_, hD2, rfl⟩)
    have hc7 := cell_kept (show ((W3.setCell ⟨W.heap.size + 1 + 1, 0, none⟩ (.int .i64 0)).setCell ⟨W.heap.size + 1 + 1 + 1, 0, none⟩ (.bool false)).drew.cell? ⟨W.heap.size + 1 + 1 + 1, 0, none⟩ = some (.bool false) by rw [b7.cell]; rfl) (grownBy_putObj' _ D (.deferred none)) (fun r e => by cases e; exact ⟨_, hD2, rfl⟩)
    have hB3 : Below W.heap.size W ((W3.setCell ⟨W.heap.size + 1 + 1, 0, none⟩ (.int .i64 0)).setCell ⟨W.heap.size + 1 + 1 + 1, 0, none⟩ (.bool false)).drew := (((HB02.out.trans (below_kpc HK.out (by omega) (fun j hj => by omega))).setCell (p := ⟨W.heap.size + 1 + 1, 0, none⟩) (by show W.heap.size ≤ W.heap.size + 1 + 1; omega) _).setCell (p := ⟨W.heap.size + 1 + 1 + 1, 0, none⟩) (by show W.heap.size ≤ W.heap.size + 1 + 1 + 1; omega) _).drew
    refine ⟨by simp, .inl ⟨_, _, rfl, run_takeDeferred hD2, ?_⟩⟩
    refine ⟨_, ?_, by rw [HRv.out], hB3.trans (belowK_b (w := W) (Nat.le_refl _) _ D _ _ (by omega) hD2 rfl rfl)⟩
    simp [results, Try.f29, go_sem, hc6, hc7]
  case stop =>
   rintro D c pre W3 hD hS ⟨ys, x, rfl, rfl, hK, k6, k7, hno, hyes⟩ hKd
   have HKd := Lib.hid hKd
   have HK := Lib.hid hK
   have HRv : Hid (res = ((valY x).1.id, true)) := Lib.hid (by rw [HRes.out, atZ_at hm, atQ, find_stop hS hno hyes])
   have hc6 := cell_kept (show W3.cell? ⟨W.heap.size + 1 + 1, 0, none⟩ = some (.int .i64 (valY x).1.id) by rw [k6.cell]; rfl) (grownBy_putObj' _ D (.deferred none)) (fun r e => by cases e; exact ⟨_, hKd, rfl⟩)
   have hc7 := cell_kept (show W3.cell? ⟨W.heap.size + 1 + 1 + 1, 0, none⟩ = some (.bool true) by rw [k7.cell]; rfl) (grownBy_putObj' _ D (.deferred none)) (fun r e => by cases e; exact ⟨_, hKd, rfl⟩)
   gi_wp2
   refine ⟨by simp, .inl ⟨_, _, rfl, run_takeDeferred HKd.out, ?_⟩⟩
   refine ⟨_, ?_, by rw [HRv.out], (HB02.out.trans (below_kpc HK.out (by omega) (fun j hj => by omega))).trans (belowK_b (w := W) (Nat.le_refl _) W3 D _ _ (by omega) HKd.out rfl rfl)⟩
   simp [results, Try.f29, go_sem, hc6, hc7]
end Go.Proofs.Ytehpinnmalpgpaa
