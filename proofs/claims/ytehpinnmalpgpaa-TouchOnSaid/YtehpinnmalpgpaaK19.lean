/- Texts, merged by a program; only what is used. -/
import Derived.Test.YtehpinnmalpgpaaK1
import Derived.Test.YtehpinnmalpgpaaK2
import Derived.Test.YtehpinnmalpgpaaK3
import Derived.Test.YtehpinnmalpgpaaK4
import Derived.Test.YtehpinnmalpgpaaK5
import Derived.Test.YtehpinnmalpgpaaK6
import Derived.Test.YtehpinnmalpgpaaK7
import Derived.Test.YtehpinnmalpgpaaK8
import Derived.Test.YtehpinnmalpgpaaK9
import Derived.Test.YtehpinnmalpgpaaK10
import Derived.Test.YtehpinnmalpgpaaK11
import Derived.Test.YtehpinnmalpgpaaK12
import Derived.Test.YtehpinnmalpgpaaK13
import Derived.Test.YtehpinnmalpgpaaK14
import Derived.Test.YtehpinnmalpgpaaK15
import Derived.Test.YtehpinnmalpgpaaK16
import Derived.Test.YtehpinnmalpgpaaK17
import Derived.Test.YtehpinnmalpgpaaK18
namespace Go.Proofs.Ytehpinnmalpgpaa
open Go.ChangeShapes Go.WideShapes Go.ChangeAt Go.RowKit Go.Deep
set_option linter.unusedVariables false
set_option linter.unusedSimpArgs false
/-- is a text there already, of those of which f holds and those ahead of it? -/
def dupF : (ByteArray → Bool) → List ByteArray → Bool
 | _, [] => false
 | f, x :: l => f x || dupF (fun y => f y || decide (y = x)) l
def addF (f : ByteArray → Bool) (l : List ByteArray) : ByteArray → Bool := fun y => f y || l.any (isT y)
theorem addF_nil (f : ByteArray → Bool) : addF f [] = f := by funext y; simp [addF]
theorem addF_take {f : ByteArray → Bool} {l : List ByteArray} {k : Nat} (h : k < l.length) : addF f (l.take (k + 1)) = fun y => addF f (l.take k) y || decide (y = l[k]) := by
 funext y
 unfold addF
 rw [List.take_succ_eq_append_getElem h, List.any_append, List.any_cons, List.any_nil, Bool.or_false, Bool.or_assoc]
 rfl
theorem dupF_drop {g : ByteArray → Bool} {l : List ByteArray} {k : Nat} (h : k < l.length) : dupF g (l.drop k) = (g l[k] || dupF (fun y => g y || decide (y = l[k])) (l.drop (k + 1))) := by rw [List.drop_eq_getElem_cons h, dupF]
set_option maxHeartbeats 2000000 in
theorem again_any {w W : World} {Q : Nat → Prop} {l : List ByteArray} {v : Value} (h : TextsI w Q l v) (hI : In Q w W) {b n : Nat} {f : ByteArray → Bool} (hS : SetI W b n f) (hb : ¬ Q b) (hn : n + l.length ≤ 1000000000000000) (hl : ∀ s ∈ l, s.size ≤ maxLen) :
 Calls Try.prog 112 #[.map (some b), v] W fun e w' => e = .returned (.bool (dupF f l)) ∧ SetI w' b (n + l.length) (addF f l) ∧ W.grownBy w' (some b) := by
 obtain ⟨A, cap, rfl, hl1, hl2⟩ := h.shape
 have H := Lib.hid h
 have HI := Lib.hid hI
 have HS := Lib.hid hS
 have HL := Lib.hid hl
 have HN := Lib.hid hn
 clear h hI hS hl hn
 go_enter Try.func112, Try.ntmps112
 go_wp2_with fail
 go_loopg [5, 10] l.length (fun kk t5 i wr => ∃ (k : Nat) (tw : Bool), k + kk = l.length ∧ i = .int .i64 k ∧ t5 = .bool tw ∧ Hid (dupF f l = (tw || dupF (addF f (l.take k)) (l.drop k))) ∧ Hid (SetI wr b (n + k) (addF f (l.take k))) ∧ Hid (W.grownBy wr (some b)))
 case atStart => exact ⟨0, false, by omega, rfl, rfl, Lib.hid (by rw [List.take_zero, List.drop_zero, addF_nil]; rfl), Lib.hid (by rw [List.take_zero, addF_nil]; exact HS.out), Lib.hid (World.grownBy.refl _ _)⟩
 case round =>
  obtain ⟨k, tw, hk, rfl, rfl, HD, HSr, HGr⟩ := hrel
  by_cases hlt : k < l.length
  ·have HIr := Lib.hid (HI.out.grown HGr.out (fun j e => by injection e with e; exact e ▸ hb))
   obtain ⟨a, rfl, _, p1, hs⟩ := text_at H.out HIr.out hlt
   have hsz : l[k].size ≤ maxLen := hs
   have HD2 : Hid (dupF f l = (tw || (addF f (l.take k) l[k] || dupF (addF f (l.take (k + 1))) (l.drop (k + 1))))) := Lib.hid (by rw [HD.out, dupF_drop hlt, addF_take hlt])
   have HT : Hid (addF f (l.take (k + 1)) = fun y => addF f (l.take k) y || decide (y = l[k])) := Lib.hid (addF_take hlt)
   have hnk : n + k < maxLen := by have := HN.out; unfold maxLen; omega
   generalize hg2 : addF f (l.take (k + 1)) = g2 at HD2 HT
   have HG2 := Lib.hid hg2
   clear hg2
   generalize addF f (l.take k) = g at HD2 HT HSr HD
   generalize l[k] = t at p1 hs HD2 HT hsz
   have hlk := HSr.out.look und_m t hsz
   clear HD
   cases tw with
   | true =>
    go_wp2_with (at_mapUpdate; refine wpList_setPut rfl _ _ _ 110 rfl und_m b (n + k) g rfl HSr.out hnk t hsz rfl rfl ?_; intro w1 hs1 hg1; have HS1 := Lib.hid hs1; have HG1 := Lib.hid hg1; clear hs1 hg1)
    go_roundg (l.length - k - 1)
    case measure => omega
    case rel => exact ⟨k + 1, true, by omega, by go_num, rfl, Lib.hid (by rw [HG2.out, HD2.out]; simp), Lib.hid (by rw [HG2.out, HT.out]; exact HS1.out), Lib.hid (HGr.out.trans HG1.out)⟩
   | false =>
    generalize g t = gt at hlk HD2
    go_wp2_with (at_mapUpdate; refine wpList_setPut rfl _ _ _ 110 rfl und_m b (n + k) g rfl HSr.out hnk t hsz rfl rfl ?_; intro w1 hs1 hg1; have HS1 := Lib.hid hs1; have HG1 := Lib.hid hg1; clear hs1 hg1)
    go_roundg (l.length - k - 1)
    case measure => omega
    case rel => exact ⟨k + 1, gt, by omega, by go_num, rfl, Lib.hid (by rw [HG2.out, HD2.out]; simp), Lib.hid (by rw [HG2.out, HT.out]; exact HS1.out), Lib.hid (HGr.out.trans HG1.out)⟩
  ·obtain rfl : k = l.length := by omega
   have HR : Hid (dupF f l = tw) := Lib.hid (by rw [HD.out, List.drop_length, dupF, Bool.or_false])
   have HF : Hid (SetI wr b (n + l.length) (addF f l)) := Lib.hid (by have := HSr.out; rwa [List.take_length] at this)
   clear HD HSr
   go_wp2_with fail
   go_ret
   exact ⟨ret_bool HR.out.symm, HF.out, HGr.out⟩
end Go.Proofs.Ytehpinnmalpgpaa
namespace Go.Proofs.Ytehpinnmalpgpaa
open Go.ChangeShapes Go.WideShapes Go.ChangeAt Go.RowKit Go.Deep
set_option linter.unusedVariables false
set_option linter.unusedSimpArgs false
def landsB (f : ByteArray → Bool) (kind : Int) (nm : ByteArray) (lp : Int) : Bool := if kind = 7 ∨ kind = 8 then lp != 0 else if kind = 10 then f nm else true
set_option maxHeartbeats 1000000 in
theorem lands_any {W : World} {b n : Nat} {f : ByteArray → Bool} (hS : SetI W b n f) {sid kind lp y0 y1 : Int} {nm proc y2 : ByteArray} {has : Bool} {L X R T U : Option Addr} {l1 l2 l3 l4 l5 lc xc rc tc uc : Nat} (hnm : nm.size ≤ maxLen) :
 Calls Try.prog 113 #[.agg #[.int .i64 sid, .int .i64 kind, .slice L l1 lc, .string nm, .string proc, .int .i64 y0, .int .i64 y1, .string y2, .slice X l2 xc, .bool has, .slice R l3 rc, .slice T l4 tc, .slice U l5 uc], .int .i64 lp, .map (some b)] W fun e w' => e = .returned (.bool (landsB f kind nm lp)) ∧ Below W.heap.size W w' := by
 have HB := Lib.hid (fun o : Obj => below_box (W := W) o)
 have hlk := fun o : Obj => (hS.alloc o).look und_m nm hnm
 clear hS
 by_cases h7 : kind = 7
 ·subst h7
  go_enter Try.func113, Try.ntmps113
  go_wp2_with fail
  go_ret
  exact ⟨rfl, HB.out _⟩
 ·by_cases h8 : kind = 8
  ·subst h8
   go_enter Try.func113, Try.ntmps113
   go_wp2_with fail
   go_ret
   exact ⟨rfl, HB.out _⟩
  ·have k7 : (kind == 7) = false := beq_eq_false_iff_ne.2 h7
   have k8 : (kind == 8) = false := beq_eq_false_iff_ne.2 h8
   by_cases h10 : kind = 10
   ·subst h10
    go_enter Try.func113, Try.ntmps113
    go_wp2_with fail
    go_ret
    exact ⟨rfl, HB.out _⟩
   ·have k10 : (kind == 10) = false := beq_eq_false_iff_ne.2 h10
    have HR : Hid (landsB f kind nm lp = true) := Lib.hid (by unfold landsB; rw [if_neg (by omega), if_neg h10])
    clear h7 h8 h10
    go_enter Try.func113, Try.ntmps113
    go_wp2_with fail
    go_ret
    exact ⟨ret_bool HR.out.symm, HB.out _⟩
end Go.Proofs.Ytehpinnmalpgpaa
namespace Go.Proofs.Ytehpinnmalpgpaa
open Go.ChangeShapes Go.WideShapes Go.ChangeAt Go.RowKit Go.Deep Go.Shelf
set_option linter.unusedVariables false
set_option linter.unusedSimpArgs false
attribute [local go_sem] Oper.semAt_some
def setF (l : List ByteArray) : ByteArray → Bool := fun y => l.any (isT y)
theorem addF_set (a b : List ByteArray) : addF (setF a) b = setF (a ++ b) := by funext y; simp [addF, setF]
theorem setI_grown {A B : World} {row : Option Nat} {b n : Nat} {f : ByteArray → Bool} (h : SetI A b n f) (hg : A.grownBy B row) (hr : ∀ r, row = some r → b < r) : SetI B b n f := h.kept hg (fun e => by have := hr b e.symm; omega)
theorem kpc_map {n0 b : Nat} {own : Nat → Prop} {A B : World} (hg : A.grownBy B (some b)) (hb : own b) (hl : b < n0) (hn : n0 ≤ A.heap.size) : KpC n0 own A B :=
 ⟨hg.os, hg.tape, hg.output, hg.size, fun k hk ho => hg.block k (by omega) (fun e => by injection e with e; exact ho (e ▸ hb)), fun k cs t fz hk _ hc => (hg.block k (Array.getElem?_eq_some_iff.1 hc).1 (fun e => by injection e with e; omega)).trans hc⟩
theorem kf_map {B0 b : Nat} {A B : World} (hg : A.grownBy B (some b)) (hb : b < B0) : KeepsFrom B0 A B := KeepsFrom.of_grownBy hg (fun j e => by cases e; omega)
theorem setY_step {w V : World} {Q : Nat → Prop} {b : Nat} (pre : List (YE w Q)) (x : YE w Q) {labels : List ByteArray} (hx : (valY x).1.labels = labels) (h : SetI V b ((labsY pre).length + labels.length) (addF (setF (labsY pre)) labels)) : SetI V b (labsY (pre ++ [x])).length (setF (labsY (pre ++ [x]))) := by
 rw [labsY_app, hx, List.length_append, ← addF_set]
 exact h
set_option maxRecDepth 100000 in
set_option maxHeartbeats 8000000 in
theorem jlabels_any {w : World} {Q : Nat → Prop} {q : Pr} {c0 c1 c2 c3 c4 : Value} (h : ProcI w Q q [c0, c1, c2, c3, c4]) (hw : wSL q.body ≤ 1000000) (he : wT q.end_ ≤ 1000000) (W : World) (hI : In Q w W) :
 Calls Try.prog 111 #[.agg #[c0, c1, c2, c3, c4]] W fun e w' => e = .returned (.map (some (W.heap.size + 1))) ∧ (∃ n, n ≤ 4000000000000 ∧ SetI w' (W.heap.size + 1) n (setF (labsOf (preSL q.body) ++ q.end_))) ∧ Below W.heap.size W w' := by
 obtain ⟨vp, vv, vb, ve, hc, hqn, hpp, hvv, hbody, hee⟩ := h
 simp only [List.cons.injEq, and_true] at hc
 obtain ⟨rfl, rfl, rfl, rfl, rfl⟩ := hc
 obtain ⟨Bp, kp, rfl, _, _⟩ := hpp.shape
 obtain ⟨Bv, kv, rfl, _, _⟩ := hvv.shape
 obtain ⟨Bb, kb, rfl, _⟩ := hbody.shape
 obtain ⟨Be, ke, rfl, _⟩ := hee.shape
 have HBo := Lib.hid hbody
 have HEe := Lib.hid hee
 have HI := Lib.hid hI
 have HWs := Lib.hid hw
 have HWe := Lib.hid he
 clear hpp hvv hee hI hqn hw he
 refine (callsIn_wide (n := 6)).1 ?_
 have hro : Fence.wide.round = none := rfl
 refine callsIn_of_wp_marks Try.func111 rfl trivial ?_ hro
 simp only [Try.ntmps111, List.size_toArray, List.length_cons, List.length_nil, Nat.reduceAdd, Nat.reduceSub, Array.replicate_succ, Array.replicate_zero, List.push_toArray, List.append_toArray, List.nil_append, List.cons_append]
 obtain ⟨V0, hV0⟩ : ∃ V0, V0 = (((W.alloc (.cells #[.string q.nm, .slice Bp q.params.length kp, .slice Bv q.vars.length kv, .slice Bb q.body.length kb, .slice Be q.end_.length ke] 45)).alloc (.map #[] 0)).alloc (.cells #[.map (some (W.heap.size + 1))] 110)) := ⟨_, rfl⟩
 have HV0 := Lib.hid hV0
 have hB0 : Below W.heap.size W V0 := by rw [hV0]; exact below_stepA (below_stepA (below_box _) _) _
 have hz0 : V0.heap.size = W.heap.size + 1 + 1 + 1 := by rw [hV0]; simp
 have HB3 : Hid (Blk V0 W.heap.size 45 #[.string q.nm, .slice Bp q.params.length kp, .slice Bv q.vars.length kv, .slice Bb q.body.length kb, .slice Be q.end_.length ke]) := Lib.hid (by rw [hV0]; exact ((Blk.new _ _ _).alloc _).alloc _)
 have HS0 : Hid (SetI V0 (W.heap.size + 1) 0 (setF [])) := Lib.hid (by rw [hV0]; have h := (SetI.made (W.alloc (.cells #[.string q.nm, .slice Bp q.params.length kp, .slice Bv q.vars.length kv, .slice Bb q.body.length kb, .slice Be q.end_.length ke] 45))).alloc (.cells #[.map (some (W.heap.size + 1))] 110); rw [World.size_alloc] at h; exact h)
 have HB5 : Hid (Blk V0 (W.heap.size + 1 + 1) 110 #[.map (some (W.heap.size + 1))]) := Lib.hid (by rw [hV0]; have h := Blk.new ((W.alloc (.cells #[.string q.nm, .slice Bp q.params.length kp, .slice Bv q.vars.length kv, .slice Bb q.body.length kb, .slice Be q.end_.length ke] 45)).alloc (.map #[] 0)) 110 #[.map (some (W.heap.size + 1))]; rw [World.size_alloc, World.size_alloc] at h; exact h)
 have HI0 := Lib.hid (HI.out.on hB0)
 have q3 : V0.cell? ⟨W.heap.size, 3, none⟩ = some (.slice Bb q.body.length kb) := by rw [HB3.out.cell]; rfl
 rw [hV0] at q3
 have HBW := Lib.hid hB0
 have HZ0 := Lib.hid hz0
 clear hV0 hB0 hz0
 have hmm := @run_makeMap Try.prog
 gi_wp2_with (refine ⟨trivial, ?_⟩; gi_at_call 73; refine (callsIn_wide.2 (statements_any _ _ HBo.out)).mono ?_; rintro e w2 ⟨rfl, hw2⟩; have HW2 := Lib.hid hw2; clear hw2)
 clear hmm q3
 have hw2 : w2 = V0.alloc (.cells #[.slice Bb q.body.length kb] 43) := by rw [HW2.out, HV0.out]
 have hI2 : In Q w w2 := by rw [hw2]; exact HI0.out.alloc _
 have hQ2 : ∀ j, Q j → j < w2.heap.size ∧ ¬ (j = W.heap.size + 1) := fun j hj => ⟨hI2.1 j hj, by have := HI.out.1 j hj; omega⟩
 have hs2 : w2.heap.size = W.heap.size + 1 + 1 + 1 + 1 := by rw [hw2, World.size_alloc, HZ0.out]
 have hc2 : w2.cell? ⟨W.heap.size + 1 + 1 + 1, 0, none⟩ = some (.slice Bb q.body.length kb) := by rw [hw2, ← HZ0.out, (Blk.new V0 _ _).cell]; rfl
 have hb02 : Below V0.heap.size V0 w2 := by rw [hw2]; exact below_box _
 have HB02 := Lib.hid (below_step HBW.out hb02)
 have h3 := HB3.out.below hb02 HB3.out.lt
 have h5 := HB5.out.below hb02 HB5.out.lt
 have hS2 : SetI w2 (W.heap.size + 1) 0 (setF []) := HS0.out.below hb02 HS0.out.lt
 have H3 := Lib.hid h3
 have H5 := Lib.hid h5
 have HI2 := Lib.hid hI2
 have HQ2 := Lib.hid hQ2
 have Hhr : Hid (∀ (A B : World) (row : Option Nat), (∀ r, row = some r → w2.heap.size ≤ r ∧ ∃ o : Obj, A.heap[r]? = some o ∧ o.isCells = false) → (∀ r, row = some r → W.heap.size + 1 < r)) := Lib.hid (fun A B row h r e => by have := (h r e).1; omega)
 refine wpIn_rangeFunc_ownH hro (by omega) (gf := 115) (lb := #[.pointer (some ⟨W.heap.size + 1 + 1 + 1, 0, none⟩)]) rfl trivial (enters_of Try.func115 (by kernel_rfl) rfl)
   (statements_stops rfl trivial trivial hro (6 - 1) (W.heap.size + 1 + 1 + 1) w2.heap.size (fun j => j = W.heap.size + 1) hQ2 ⟨by omega, by omega⟩ HBo.out HWs.out w2 hI2 (Nat.le_refl _) hc2) (fun h k => KpC.trans h k) (KpC.put (Nat.le_refl _)) (Below.refl _ _) (fun _ => rfl)
   (fun pre V => KpC w2.heap.size (fun j => j = W.heap.size + 1) w2 V ∧ SetI V (W.heap.size + 1) (labsY pre).length (setF (labsY pre)))
   (fun c pre V => False)
   (fun s A B row hs hg hr => ⟨hs.1.trans (kpc_grown hs.1.size hg hr), setI_grown hs.2 hg (Hhr.out A B row hr)⟩)
   (fun c s A B row hs hg hr => hs.elim)
   ⟨KpC.refl _, hS2⟩
   (fun x a' V => ∃ Bx, w2.heap.size ≤ Bx ∧ Blk V Bx 60 x.1.2.toArray ∧ a' = { tmps := #[.agg #[.string q.nm, .slice Bp q.params.length kp, .slice Bv q.vars.length kv, .slice Bb q.body.length kb, .slice Be q.end_.length ke], .pointer (some ⟨W.heap.size, 0, none⟩), .map none, .pointer (some ⟨W.heap.size + 1 + 1, 0, none⟩), .pointer (some ⟨Bx, 0, none⟩), .map (some (W.heap.size + 1)), .pointer (some ⟨W.heap.size, 3, none⟩), .slice Bb q.body.length kb, .func (.func 115) #[] #[.pointer (some ⟨W.heap.size + 1 + 1 + 1, 0, none⟩)], .agg x.1.2.toArray, .int .i64 x.1.1.2, undef, undef, undef, undef, undef, undef, undef, undef, undef], defers := [] })
   (fun x a' s A B row hs hg hr => by
    obtain ⟨Bx, h1, h2, h3⟩ := hs
    exact ⟨Bx, h1, blk_grown h2 hg (fun r e => (hr r e).2), h3⟩) ?assign ?body ?done ?stop
 case assign =>
  rintro l pre ⟨⟨⟨s, lp⟩, cs⟩, hst, hlp⟩ W3 K hi hK
  obtain ⟨sid, kind, labels, nm, proc, x, has, args, th, el, L, lc, y0, y1, y2, X, xn, xc, R, rc, T, tc, U, uc, hmk, hcs, _⟩ := stmt_open hst
  have hcs' : cs = [.int .i64 sid, .int .i64 kind, .slice L labels.length lc, .string nm, .string proc, .int .i64 y0, .int .i64 y1, .string y2, .slice X xn xc, .bool has, .slice R args.length rc, .slice T th.length tc, .slice U el.length uc] := hcs
  subst hcs'
  have HI3 := Lib.hid hi
  clear hi h3 h5 hS2 hmk hcs
  dsimp only [encY]
  gi_wp2
  exact hK _ _ (kf_below (below_box _)) (KpC.of_below HI3.out.1.size (below_box _)) ⟨HI3.out.1.trans (KpC.of_below HI3.out.1.size (below_box _)), HI3.out.2.alloc _⟩ ⟨W3.heap.size, HI3.out.1.size, Blk.new _ _ _, rfl⟩
 case body =>
  rintro l pre ⟨⟨⟨s, lp⟩, cs⟩, hst, hlp⟩ a' W3 hl hrec hi ⟨Bx, hBx, hbx, rfl⟩ hlt
  obtain ⟨sid, kind, labels, nm, proc, x, has, args, th, el, L, lc, y0, y1, y2, X, xn, xc, R, rc, T, tc, U, uc, hmk, hcs, _, _, _, _, hlab, _⟩ := stmt_open hst
  have hcs' : cs = [.int .i64 sid, .int .i64 kind, .slice L labels.length lc, .string nm, .string proc, .int .i64 y0, .int .i64 y1, .string y2, .slice X xn xc, .bool has, .slice R args.length rc, .slice T th.length tc, .slice U el.length uc] := hcs
  subst hcs'
  have HI3 := Lib.hid hi
  have HLs : Hid ((valY (⟨((s, lp), _), hst, hlp⟩ : YE w Q)).1.labels = labels) := Lib.hid (by show s.labels = labels; rw [show s = _ from hmk]; rfl)
  have hNl : (labsY pre).length + labels.length ≤ 1000000000000000 := by
   have h1 := labsY_len pre
   have h2 := Nat.le_trans (preSL_lw q.body) HWs.out
   have h4 := labs_len (⟨((s, lp), _), hst, hlp⟩ : YE w Q)
   rw [HLs.out] at h4
   omega
  have hSz : ∀ t ∈ labels, t.size ≤ maxLen := fun t ht => Nat.le_trans (labs_sz (⟨((s, lp), _), hst, hlp⟩ : YE w Q) t (by rw [HLs.out]; exact ht)) (by unfold maxLen; omega)
  have HL3 := Lib.hid (again_any hlab (HI3.out.1.inn HQ2.out HI2.out) HI3.out.2 (fun hq => (HQ2.out _ hq).2 rfl) hNl hSz)
  have b5 : Blk W3 (W.heap.size + 1 + 1) 110 #[.map (some (W.heap.size + 1))] := (HI3.out.1.low _ (by omega) (by omega)).trans H5.out
  have bx : Blk W3 Bx 60 #[.int .i64 sid, .int .i64 kind, .slice L labels.length lc, .string nm, .string proc, .int .i64 y0, .int .i64 y1, .string y2, .slice X xn xc, .bool has, .slice R args.length rc, .slice T th.length tc, .slice U el.length uc] := hbx
  have c5 : W3.cell? ⟨W.heap.size + 1 + 1, 0, none⟩ = some (.map (some (W.heap.size + 1))) := by rw [b5.cell]; rfl
  have cx : W3.cell? ⟨Bx, 2, none⟩ = some (.slice L labels.length lc) := by rw [bx.cell]; rfl
  dsimp only at hmk
  clear hi h3 h5 hS2 hcs hmk hlab hbx hNl hSz
  gi_wp2_with (refine ⟨trivial, ?_⟩; gi_at_call 112; refine (CallsIn.inRound l (callsIn_wide.2 HL3.out)).mono ?_; rintro e W4 ⟨rfl, hs4, hg4⟩)
  exact ⟨kf_map hg4 (by omega), kpc_map hg4 rfl (by omega) HI3.out.1.size, HI3.out.1.trans (kpc_map hg4 rfl (by omega) HI3.out.1.size), setY_step _ _ HLs.out hs4⟩
 case done =>
  rintro D xs W3 hD hS ⟨hK, hs3⟩ hKd
  have HKd := Lib.hid hKd
  have HK := Lib.hid hK
  have b3 : Blk W3 W.heap.size 45 #[.string q.nm, .slice Bp q.params.length kp, .slice Bv q.vars.length kv, .slice Bb q.body.length kb, .slice Be q.end_.length ke] := (hK.low _ (by omega) (by omega)).trans H3.out
  have b5 : Blk W3 (W.heap.size + 1 + 1) 110 #[.map (some (W.heap.size + 1))] := (hK.low _ (by omega) (by omega)).trans H5.out
  have HB5' := Lib.hid b5
  have hNl : (labsY xs).length + q.end_.length ≤ 4000000000000 := by
   have h1 := labsY_len xs
   have h2 := Nat.le_trans (preSL_lw q.body) HWs.out
   have h4 := Nat.le_trans (wT_len q.end_) HWe.out
   have h5 := congrArg List.length hS
   have h7 := congrArg List.length (lpSL_fst q.body 0)
   rw [List.length_map] at h5 h7
   omega
  have hSz : ∀ t ∈ q.end_, t.size ≤ maxLen := fun t ht => by
   have h1 := wT_mem ht
   have h2 := HWe.out
   unfold maxLen
   omega
  have HL3 := Lib.hid (again_any HEe.out (HK.out.inn HQ2.out HI2.out) hs3 (fun hq => (HQ2.out _ hq).2 rfl) (Nat.le_trans hNl (by omega)) hSz)
  have HNl := Lib.hid hNl
  have q1 : W3.cell? ⟨W.heap.size, 4, none⟩ = some (.slice Be q.end_.length ke) := by rw [b3.cell]; rfl
  have q5 : W3.cell? ⟨W.heap.size + 1 + 1, 0, none⟩ = some (.map (some (W.heap.size + 1))) := by rw [b5.cell]; rfl
  have HLb : Hid (labsY xs = labsOf (preSL q.body)) := Lib.hid (by
   rw [← lpSL_fst q.body 0, ← hS, labsY, List.map_map]; rfl)
  clear h3 h5 hS2 hK hKd hNl hSz hS hs3 b3 b5
  gi_wp2_with (refine ⟨trivial, ?_⟩; gi_at_call 112; refine (callsIn_wide.2 HL3.out).mono ?_; rintro e W4 ⟨rfl, hs4, hg4⟩; have b5' : Blk W4 (W.heap.size + 1 + 1) 110 #[.map (some (W.heap.size + 1))] := (hg4.block (W.heap.size + 1 + 1) HB5'.out.lt (fun e => by injection e with e; omega)).trans HB5'.out; have q5' : W4.cell? ⟨W.heap.size + 1 + 1, 0, none⟩ = some (.map (some (W.heap.size + 1))) := (by rw [b5'.cell]; rfl))
  have hKd4 : W4.heap[D]? = some (.deferred (some [])) := (hg4.block D (Array.getElem?_eq_some_iff.1 HKd.out).1 (fun e => by injection e with e; omega)).trans HKd.out
  refine ⟨by simp, .inl ⟨_, _, rfl, run_takeDeferred hKd4, ?_⟩⟩
  have hB4 : Below W.heap.size W W4 := (HB02.out.trans (below_kpc HK.out (by omega) (fun j hj => by omega))).trans ⟨hg4.os, hg4.tape, hg4.output, hg4.size, fun k hk => hg4.block k (Nat.lt_of_lt_of_le hk (Nat.le_trans HB02.out.size HK.out.size)) (fun e => by injection e with e; omega)⟩
  refine ⟨_, results_tmp rfl _ _ _, rfl, ⟨(labsY xs).length + q.end_.length, ?_, ?_⟩, hB4.trans (belowK_b (w := W) (Nat.le_refl _) _ D _ _ (by omega) hKd4 rfl rfl)⟩
  ·exact HNl.out
  ·rw [← HLb.out, ← addF_set]
   exact hs4.kept (grownBy_putObj' W4 D (.deferred none)) (fun e => by injection e with e; omega)
 case stop =>
  rintro D c pre W3 hD hS h _
  exact h.elim
end Go.Proofs.Ytehpinnmalpgpaa
