/- Texts, merged by a program; only what is used. -/
import Derived.Test.YtehpinnmalpgpaaK1
import Derived.Test.YtehpinnmalpgpaaK2
import Derived.Test.YtehpinnmalpgpaaK3
import Derived.Test.YtehpinnmalpgpaaK4
import Derived.Test.YtehpinnmalpgpaaK5
import Derived.Test.YtehpinnmalpgpaaK6
import Derived.Test.YtehpinnmalpgpaaK7
import Derived.Test.YtehpinnmalpgpaaK8
import Derived.Test.YtehpinnmalpgpaaK9
import Derived.Test.YtehpinnmalpgpaaK10
import Derived.Test.YtehpinnmalpgpaaK11
import Derived.Test.YtehpinnmalpgpaaK12
import Derived.Test.YtehpinnmalpgpaaK13
import Derived.Test.YtehpinnmalpgpaaK14
import Derived.Test.YtehpinnmalpgpaaK15
import Derived.Test.YtehpinnmalpgpaaK16
import Derived.Test.YtehpinnmalpgpaaK17
import Derived.Test.YtehpinnmalpgpaaK18
import Derived.Test.YtehpinnmalpgpaaK19
namespace Go.Proofs.Ytehpinnmalpgpaa
open Go.ChangeShapes Go.WideShapes Go.ChangeAt Go.RowKit Go.Deep Go.Shelf
set_option linter.unusedVariables false
set_option linter.unusedSimpArgs false
attribute [local go_sem] Oper.semAt_some
/-- is a statement wrong, with the labels ahead of it? -/
def wrS (f : ByteArray → Bool) (acc : List ByteArray) (x : S × Int) : Bool := dupF (setF acc) x.1.labels || !landsB f x.1.kind x.1.nm x.2
def wrL (f : ByteArray → Bool) : List ByteArray → List (S × Int) → Option Int
 | _, [] => none
 | acc, x :: l => if wrS f acc x = true then some x.1.id else wrL f (acc ++ x.1.labels) l
def allLb (q : Pr) : List ByteArray := labsOf (preSL q.body) ++ q.end_
def wrQ (q : Pr) : Int × Bool := (wrL (setF (allLb q)) [] (lpSL q.body 0)).elim (0, dupF (setF (labsOf (preSL q.body))) q.end_) (fun i => (i, true))
def GoodY {w : World} {Q : Nat → Prop} (f : ByteArray → Bool) (pre : List (YE w Q)) : Prop := ∀ rest, wrL f [] (pre.map valY ++ rest) = wrL f (labsY pre) rest
theorem GoodY.nil {w : World} {Q : Nat → Prop} (f : ByteArray → Bool) : GoodY f ([] : List (YE w Q)) := fun rest => rfl
theorem GoodY.step {w : World} {Q : Nat → Prop} {f : ByteArray → Bool} {pre : List (YE w Q)} {x : YE w Q} (h : GoodY f pre) (hx : wrS f (labsY pre) (valY x) = false) : GoodY f (pre ++ [x]) := fun rest => by
 rw [List.map_append, List.append_assoc, h, labsY_app, List.map_cons, List.map_nil, List.cons_append, List.nil_append, wrL, hx, if_neg (by simp)]
theorem GoodY.stop {w : World} {Q : Nat → Prop} {f : ByteArray → Bool} {pre : List (YE w Q)} {x : YE w Q} {L : List (S × Int)} (h : GoodY f pre) (hx : wrS f (labsY pre) (valY x) = true) (hp : (pre ++ [x]).map valY <+: L) : wrL f [] L = some (valY x).1.id := by
 obtain ⟨r, rfl⟩ := hp
 rw [List.map_append, List.append_assoc, h, List.map_cons, List.map_nil, List.cons_append, List.nil_append, wrL, hx, if_pos rfl]
theorem GoodY.done {w : World} {Q : Nat → Prop} {f : ByteArray → Bool} {pre : List (YE w Q)} {L : List (S × Int)} (h : GoodY f pre) (hp : pre.map valY = L) : wrL f [] L = none := by
 have := h []
 rw [List.append_nil, hp] at this
 rw [this, wrL]
set_option maxRecDepth 100000 in
set_option maxHeartbeats 16000000 in
theorem jwrong_any {w : World} {Q : Nat → Prop} {q : Pr} {c0 c1 c2 c3 c4 : Value} (h : ProcI w Q q [c0, c1, c2, c3, c4]) (hw : wSL q.body ≤ 1000000) (he : wT q.end_ ≤ 1000000) (W : World) (hI : In Q w W) :
 Calls Try.prog 71 #[.agg #[c0, c1, c2, c3, c4]] W fun e w' => e = .returned (.tuple #[.int .i64 (wrQ q).1, .bool (wrQ q).2]) ∧ Below W.heap.size W w' := by
 have HLb := Lib.hid (fun V hV => jlabels_any h hw he V hV)
 obtain ⟨vp, vv, vb, ve, hc, hqn, hpp, hvv, hbody, hee⟩ := h
 simp only [List.cons.injEq, and_true] at hc
 obtain ⟨rfl, rfl, rfl, rfl, rfl⟩ := hc
 obtain ⟨Bp, kp, rfl, _, _⟩ := hpp.shape
 obtain ⟨Bv, kv, rfl, _, _⟩ := hvv.shape
 obtain ⟨Bb, kb, rfl, _⟩ := hbody.shape
 obtain ⟨Be, ke, rfl, _⟩ := hee.shape
 have HBo := Lib.hid hbody
 have HEe := Lib.hid hee
 have HI := Lib.hid hI
 have HWs := Lib.hid hw
 have HWe := Lib.hid he
 clear hpp hvv hee hI hqn hw he
 obtain ⟨res, hres⟩ : ∃ res, res = wrQ q := ⟨_, rfl⟩
 rw [← hres]
 unfold wrQ at hres
 have HRes := Lib.hid hres
 clear hres
 obtain ⟨f, hf⟩ : ∃ f, f = setF (allLb q) := ⟨_, rfl⟩
 have HRes := Lib.hid (by have h := HRes.out; rw [← hf] at h; exact h)
 have HFq := Lib.hid hf
 clear hf
 refine (callsIn_wide (n := 6)).1 ?_
 have hro : Fence.wide.round = none := rfl
 refine callsIn_of_wp_marks Try.func71 rfl trivial ?_ hro
 simp only [Try.ntmps71, List.size_toArray, List.length_cons, List.length_nil, Nat.reduceAdd, Nat.reduceSub, Array.replicate_succ, Array.replicate_zero, List.push_toArray, List.append_toArray, List.nil_append, List.cons_append]
 obtain ⟨V0, hV0⟩ : ∃ V0, V0 = (((W.alloc (.cells #[.string q.nm, .slice Bp q.params.length kp, .slice Bv q.vars.length kv, .slice Bb q.body.length kb, .slice Be q.end_.length ke] 45)).alloc (.cells #[.int .i64 0] 3)).alloc (.cells #[.bool false] 4)) := ⟨_, rfl⟩
 have HV0 := Lib.hid hV0
 have hB0 : Below W.heap.size W V0 := by rw [hV0]; exact below_stepA (below_stepA (below_box _) _) _
 have hz0 : V0.heap.size = W.heap.size + 1 + 1 + 1 := by rw [hV0]; simp
 have HB3 : Hid (Blk V0 W.heap.size 45 #[.string q.nm, .slice Bp q.params.length kp, .slice Bv q.vars.length kv, .slice Bb q.body.length kb, .slice Be q.end_.length ke]) := Lib.hid (by rw [hV0]; exact ((Blk.new _ _ _).alloc _).alloc _)
 have HB6 : Hid (Blk V0 (W.heap.size + 1) 3 #[.int .i64 0]) := Lib.hid (by rw [hV0]; have h := Blk.new (W.alloc (.cells #[.string q.nm, .slice Bp q.params.length kp, .slice Bv q.vars.length kv, .slice Bb q.body.length kb, .slice Be q.end_.length ke] 45)) 3 #[.int .i64 0]; rw [World.size_alloc] at h; exact h.alloc _)
 have HB7 : Hid (Blk V0 (W.heap.size + 1 + 1) 4 #[.bool false]) := Lib.hid (by rw [hV0]; have h := Blk.new ((W.alloc (.cells #[.string q.nm, .slice Bp q.params.length kp, .slice Bv q.vars.length kv, .slice Bb q.body.length kb, .slice Be q.end_.length ke] 45)).alloc (.cells #[.int .i64 0] 3)) 4 #[.bool false]; rw [World.size_alloc, World.size_alloc] at h; exact h)
 have HI0 := Lib.hid (HI.out.on hB0)
 have q0 : V0.cell? ⟨W.heap.size, 0, none⟩ = some (.string q.nm) := by rw [HB3.out.cell]; rfl
 have q1 : V0.cell? ⟨W.heap.size, 1, none⟩ = some (.slice Bp q.params.length kp) := by rw [HB3.out.cell]; rfl
 have q2 : V0.cell? ⟨W.heap.size, 2, none⟩ = some (.slice Bv q.vars.length kv) := by rw [HB3.out.cell]; rfl
 have q3 : V0.cell? ⟨W.heap.size, 3, none⟩ = some (.slice Bb q.body.length kb) := by rw [HB3.out.cell]; rfl
 have q4 : V0.cell? ⟨W.heap.size, 4, none⟩ = some (.slice Be q.end_.length ke) := by rw [HB3.out.cell]; rfl
 have HF0 := Lib.hid (HLb.out V0 HI0.out)
 rw [hV0] at q0 q1 q2 q3 q4 HF0
 have HBW := Lib.hid hB0
 have HZ0 := Lib.hid hz0
 clear hV0 hB0 hz0
 have hmm := @run_makeMap Try.prog
 gi_wp2_with (first
  | (refine ⟨trivial, ?_⟩; gi_at_call 111; refine (callsIn_wide.2 HF0.out).mono ?_; clear HF0 q0 q1 q2 q3 q4; rintro e w1 ⟨rfl, ⟨nT, hnT, hsT⟩, hb1⟩; rw [← HV0.out] at hb1 hsT ⊢; generalize hbt : V0.heap.size + 1 = bt at hsT ⊢; have HBt := Lib.hid hbt; clear hbt; have HB1 := Lib.hid hb1; have HST := Lib.hid hsT; have d3 := HB3.out.below hb1 HB3.out.lt; have HD3 := Lib.hid d3; have q3' : (((w1.alloc (.map #[] 0)).alloc (.cells #[.map (some bt)] 110)).alloc (.cells #[.map (some w1.heap.size)] 110)).cell? ⟨W.heap.size, 3, none⟩ = some (.slice Bb q.body.length kb) := cell_al _ (cell_al _ (cell_al _ (by rw [d3.cell]; rfl))); clear d3 hb1 hsT)
  | (refine ⟨trivial, ?_⟩; gi_at_call 73; refine (callsIn_wide.2 (statements_any _ _ HBo.out)).mono ?_; rintro e w2 ⟨rfl, hw2⟩; have HW2 := Lib.hid hw2; clear hw2))
 clear hmm q3'
 obtain ⟨V2, hV2⟩ : ∃ V2, V2 = (((w1.alloc (.map #[] 0)).alloc (.cells #[.map (some bt)] 110)).alloc (.cells #[.map (some w1.heap.size)] 110)) := ⟨_, rfl⟩
 have hw2 : w2 = V2.alloc (.cells #[.slice Bb q.body.length kb] 43) := by rw [HW2.out, hV2]
 have hb12 : Below w1.heap.size w1 V2 := by rw [hV2]; exact below_stepA (below_stepA (below_box _) _) _
 have hzV2 : V2.heap.size = w1.heap.size + 1 + 1 + 1 := by rw [hV2]; simp
 have hSb : SetI V2 w1.heap.size 0 (setF []) := by rw [hV2]; exact ((SetI.made w1).alloc _).alloc _
 have hb4 : Blk V2 (w1.heap.size + 1) 110 #[.map (some bt)] := by
  have h := Blk.new (w1.alloc (.map #[] 0)) 110 #[.map (some bt)]
  rw [World.size_alloc] at h
  rw [hV2]; exact h.alloc _
 have hb5 : Blk V2 (w1.heap.size + 1 + 1) 110 #[.map (some w1.heap.size)] := by
  have h := Blk.new ((w1.alloc (.map #[] 0)).alloc (.cells #[.map (some bt)] 110)) 110 #[.map (some w1.heap.size)]
  rw [World.size_alloc, World.size_alloc] at h
  rw [hV2]; exact h
 have hb22 : Below V2.heap.size V2 w2 := by rw [hw2]; exact below_box _
 have hs2 : w2.heap.size = w1.heap.size + 1 + 1 + 1 + 1 := by rw [hw2, World.size_alloc, hzV2]
 have hc2 : w2.cell? ⟨w1.heap.size + 1 + 1 + 1, 0, none⟩ = some (.slice Bb q.body.length kb) := by rw [hw2, ← hzV2, (Blk.new V2 _ _).cell]; rfl
 have hb02 : Below V0.heap.size V0 w2 := (HB1.out.trans (hb12.mono HB1.out.size)).trans (hb22.mono (Nat.le_trans HB1.out.size (by omega)))
 have hb1w2 : Below w1.heap.size w1 w2 := hb12.trans (hb22.mono (by omega))
 have hI2 : In Q w w2 := HI0.out.on hb02
 have hVz : W.heap.size + 1 + 1 + 1 ≤ w1.heap.size := by rw [← HZ0.out]; exact HB1.out.size
 have hbtl : bt < w1.heap.size := HST.out.lt
 have hbtg : W.heap.size + 1 + 1 + 1 < bt := by have := HBt.out; have := HZ0.out; omega
 have hQ2 : ∀ j, Q j → j < w2.heap.size ∧ ¬ (j = W.heap.size + 1 ∨ j = W.heap.size + 1 + 1 ∨ j = w1.heap.size) := fun j hj => ⟨hI2.1 j hj, by have := HI.out.1 j hj; omega⟩
 have HB02 := Lib.hid (below_step HBW.out hb02)
 have h3 := HB3.out.below hb02 HB3.out.lt
 have h6 := HB6.out.below hb02 HB6.out.lt
 have h7 := HB7.out.below hb02 HB7.out.lt
 have h4 := hb4.below hb22 hb4.lt
 have h5 := hb5.below hb22 hb5.lt
 have hS2 : SetI w2 w1.heap.size 0 (setF []) := hSb.below hb22 hSb.lt
 have hT2 : SetI w2 bt nT f := by rw [HFq.out]; exact HST.out.below hb1w2 hbtl
 have H3 := Lib.hid h3
 have H4 := Lib.hid h4
 have H5 := Lib.hid h5
 have HT2 := Lib.hid hT2
 have HI2 := Lib.hid hI2
 have HQ2 := Lib.hid hQ2
 clear hw2 hV2 hSb hb4 hb5 hb12 hb22 hb02 hb1w2 hI2 hzV2
 have Hhr : Hid (∀ (A B : World) (row : Option Nat), (∀ r, row = some r → w2.heap.size ≤ r ∧ ∃ o : Obj, A.heap[r]? = some o ∧ o.isCells = false) → (∀ r, row = some r → w1.heap.size < r)) := Lib.hid (fun A B row h r e => by have := (h r e).1; omega)
 refine wpIn_rangeFunc_ownH hro (by omega) (gf := 115) (lb := #[.pointer (some ⟨w1.heap.size + 1 + 1 + 1, 0, none⟩)]) rfl trivial (enters_of Try.func115 (by kernel_rfl) rfl)
   (statements_stops rfl trivial trivial hro (6 - 1) (w1.heap.size + 1 + 1 + 1) w2.heap.size (fun j => j = W.heap.size + 1 ∨ j = W.heap.size + 1 + 1 ∨ j = w1.heap.size) HQ2.out ⟨by omega, by omega⟩ HBo.out HWs.out w2 HI2.out (Nat.le_refl _) hc2) (fun h k => KpC.trans h k) (KpC.put (Nat.le_refl _)) (Below.refl _ _) (fun _ => rfl)
   (fun pre V => KpC w2.heap.size (fun j => j = W.heap.size + 1 ∨ j = W.heap.size + 1 + 1 ∨ j = w1.heap.size) w2 V ∧ SetI V w1.heap.size (labsY pre).length (setF (labsY pre)) ∧ Blk V (W.heap.size + 1) 3 #[.int .i64 0] ∧ Blk V (W.heap.size + 1 + 1) 4 #[.bool false] ∧ GoodY f pre)
   (fun c pre V => ∃ ys x, pre = ys ++ [x] ∧ c = .ret ∧ KpC w2.heap.size (fun j => j = W.heap.size + 1 ∨ j = W.heap.size + 1 + 1 ∨ j = w1.heap.size) w2 V ∧ Blk V (W.heap.size + 1) 3 #[.int .i64 (valY x).1.id] ∧ Blk V (W.heap.size + 1 + 1) 4 #[.bool true] ∧ GoodY f ys ∧ wrS f (labsY ys) (valY x) = true)
   (fun s A B row hs hg hr => ⟨hs.1.trans (kpc_grown hs.1.size hg hr), setI_grown hs.2.1 hg (Hhr.out A B row hr), blk_grown hs.2.2.1 hg (fun r e => (hr r e).2), blk_grown hs.2.2.2.1 hg (fun r e => (hr r e).2), hs.2.2.2.2⟩)
   (fun c s A B row hs hg hr => by
    obtain ⟨ys, x, h1, h2, h3, h4, h5, h6⟩ := hs
    exact ⟨ys, x, h1, h2, h3.trans (kpc_grown h3.size hg hr), blk_grown h4 hg (fun r e => (hr r e).2), blk_grown h5 hg (fun r e => (hr r e).2), h6⟩)
   ⟨KpC.refl _, hS2, h6, h7, GoodY.nil f⟩
   (fun x a' V => ∃ Bx, w2.heap.size ≤ Bx ∧ Blk V Bx 60 x.1.2.toArray ∧ a' = { tmps := #[.agg #[.string q.nm, .slice Bp q.params.length kp, .slice Bv q.vars.length kv, .slice Bb q.body.length kb, .slice Be q.end_.length ke], .pointer (some ⟨W.heap.size, 0, none⟩), .pointer (some ⟨W.heap.size + 1, 0, none⟩), .pointer (some ⟨W.heap.size + 1 + 1, 0, none⟩), .pointer (some ⟨w1.heap.size + 1, 0, none⟩), .pointer (some ⟨w1.heap.size + 1 + 1, 0, none⟩), .pointer (some ⟨Bx, 0, none⟩), .int .i64 x.1.1.2, .agg #[.string q.nm, .slice Bp q.params.length kp, .slice Bv q.vars.length kv, .slice Bb q.body.length kb, .slice Be q.end_.length ke], .map (some bt), .map (some w1.heap.size), .pointer (some ⟨W.heap.size, 3, none⟩), .slice Bb q.body.length kb, .func (.func 115) #[] #[.pointer (some ⟨w1.heap.size + 1 + 1 + 1, 0, none⟩)], .agg x.1.2.toArray, .int .i64 x.1.1.2, undef, undef, undef, undef, undef, undef, undef, undef, undef, undef, undef, undef, undef, undef, undef, undef, undef], defers := [] })
   (fun x a' s A B row hs hg hr => by
    obtain ⟨Bx, h1, h2, h3⟩ := hs
    exact ⟨Bx, h1, blk_grown h2 hg (fun r e => (hr r e).2), h3⟩) ?assign ?body ?done ?stop
 case assign =>
  rintro l pre ⟨⟨⟨s, lp⟩, cs⟩, hst, hlp⟩ W3 K hi hK
  obtain ⟨sid, kind, labels, nm, proc, x, has, args, th, el, L, lc, y0, y1, y2, X, xn, xc, R, rc, T, tc, U, uc, hmk, hcs, _⟩ := stmt_open hst
  have hcs' : cs = [.int .i64 sid, .int .i64 kind, .slice L labels.length lc, .string nm, .string proc, .int .i64 y0, .int .i64 y1, .string y2, .slice X xn xc, .bool has, .slice R args.length rc, .slice T th.length tc, .slice U el.length uc] := hcs
  subst hcs'
  have HI3 := Lib.hid hi
  clear hi h3 h4 h5 h6 h7 hS2 hT2 hmk hcs
  dsimp only [encY]
  gi_wp2
  exact hK _ _ (kf_below (below_box _)) (KpC.of_below HI3.out.1.size (below_box _)) ⟨HI3.out.1.trans (KpC.of_below HI3.out.1.size (below_box _)), HI3.out.2.1.alloc _, HI3.out.2.2.1.alloc _, HI3.out.2.2.2.1.alloc _, HI3.out.2.2.2.2⟩ ⟨W3.heap.size, HI3.out.1.size, Blk.new _ _ _, rfl⟩
 case body =>
  rintro l pre ⟨⟨⟨s, lp⟩, cs⟩, hst, hlp⟩ a' W3 hl hrec hi ⟨Bx, hBx, hbx, rfl⟩ hlt
  obtain ⟨sid, kind, labels, nm, proc, x, has, args, th, el, L, lc, y0, y1, y2, X, xn, xc, R, rc, T, tc, U, uc, hmk, hcs, _, _, _, _, hlab, _⟩ := stmt_open hst
  have hcs' : cs = [.int .i64 sid, .int .i64 kind, .slice L labels.length lc, .string nm, .string proc, .int .i64 y0, .int .i64 y1, .string y2, .slice X xn xc, .bool has, .slice R args.length rc, .slice T th.length tc, .slice U el.length uc] := hcs
  subst hcs'
  have HI3 := Lib.hid hi
  have HYl : Hid ((valY (⟨((s, lp), _), hst, hlp⟩ : YE w Q)).1.labels = labels) := Lib.hid (by show s.labels = labels; rw [show s = _ from hmk]; rfl)
  have HYi : Hid ((valY (⟨((s, lp), _), hst, hlp⟩ : YE w Q)).1.id = sid) := Lib.hid (by show s.id = sid; rw [show s = _ from hmk]; rfl)
  have HYw : Hid (wrS f (labsY pre) (valY (⟨((s, lp), _), hst, hlp⟩ : YE w Q)) = (dupF (setF (labsY pre)) labels || !landsB f kind nm lp)) := Lib.hid (by show wrS f (labsY pre) (s, lp) = _; rw [show s = _ from hmk]; rfl)
  have hNl : (labsY pre).length + labels.length ≤ 1000000000000000 := by
   have h1 := labsY_len pre
   have h2 := Nat.le_trans (preSL_lw q.body) HWs.out
   have h4 := labs_len (⟨((s, lp), _), hst, hlp⟩ : YE w Q)
   rw [HYl.out] at h4
   omega
  have hSz : ∀ t ∈ labels, t.size ≤ maxLen := fun t ht => Nat.le_trans (labs_sz (⟨((s, lp), _), hst, hlp⟩ : YE w Q) t (by rw [HYl.out]; exact ht)) (by unfold maxLen; omega)
  have hnm : nm.size ≤ maxLen := by
   have h1 : wS s ≤ 1000000 := hlp.2
   rw [show s = _ from hmk, wS] at h1
   unfold maxLen
   omega
  have HL3 := Lib.hid (again_any hlab (HI3.out.1.inn HQ2.out HI2.out) HI3.out.2.1 (fun hq => (HQ2.out _ hq).2 (.inr (.inr rfl))) hNl hSz)
  have b4 : Blk W3 (w1.heap.size + 1) 110 #[.map (some bt)] := (HI3.out.1.low _ (by omega) (by omega)).trans H4.out
  have b5 : Blk W3 (w1.heap.size + 1 + 1) 110 #[.map (some w1.heap.size)] := (HI3.out.1.low _ (by omega) (by omega)).trans H5.out
  have bx : Blk W3 Bx 60 #[.int .i64 sid, .int .i64 kind, .slice L labels.length lc, .string nm, .string proc, .int .i64 y0, .int .i64 y1, .string y2, .slice X xn xc, .bool has, .slice R args.length rc, .slice T th.length tc, .slice U el.length uc] := hbx
  have HB4x := Lib.hid b4
  have HBX := Lib.hid bx
  have HT3 : Hid (SetI W3 bt nT f) := Lib.hid (HT2.out.same (HI3.out.1.low _ (by omega) (by omega)))
  have c5 : W3.cell? ⟨w1.heap.size + 1 + 1, 0, none⟩ = some (.map (some w1.heap.size)) := by rw [b5.cell]; rfl
  have cx : W3.cell? ⟨Bx, 2, none⟩ = some (.slice L labels.length lc) := by rw [bx.cell]; rfl
  dsimp only at hmk
  clear hi h3 h4 h5 h6 h7 hS2 hT2 hcs hmk hlab hbx hNl hSz b4 b5 bx
  generalize hdd : dupF (setF (labsY pre)) labels = d at HL3 HYw
  clear hdd
  have HG := Lib.hid (fun (W4 : World) (hg4 : W3.grownBy W4 (some w1.heap.size)) (j : Nat) (hj : j < W3.heap.size) (hne : j ≠ w1.heap.size) => hg4.block j hj (fun e => hne (by injection e)))
  cases d with
  | true =>
   gi_wp2_with (refine ⟨trivial, ?_⟩; gi_at_call 112; refine (CallsIn.inRound l (callsIn_wide.2 HL3.out)).mono ?_; rintro e W4 ⟨rfl, hs4, hg4⟩; have HG4 := Lib.hid hg4; have bx4 : Blk W4 Bx 60 #[.int .i64 sid, .int .i64 kind, .slice L labels.length lc, .string nm, .string proc, .int .i64 y0, .int .i64 y1, .string y2, .slice X xn xc, .bool has, .slice R args.length rc, .slice T th.length tc, .slice U el.length uc] := (HG.out W4 hg4 Bx HBX.out.lt (by omega)).trans HBX.out; have x0 : W4.cell? ⟨Bx, 0, none⟩ = some (.int .i64 sid) := (by rw [bx4.cell]; rfl); have b6 : Blk W4 (W.heap.size + 1) 3 #[.int .i64 0] := (HG.out W4 hg4 _ HI3.out.2.2.1.lt (by omega)).trans HI3.out.2.2.1; have b7 : Blk W4 (W.heap.size + 1 + 1) 4 #[.bool false] := (HG.out W4 hg4 _ HI3.out.2.2.2.1.lt (by omega)).trans HI3.out.2.2.2.1; have c6 : W4.cell? ⟨W.heap.size + 1, 0, none⟩ = some (.int .i64 0) := (by rw [b6.cell]; rfl); have c7 : W4.cell? ⟨W.heap.size + 1 + 1, 0, none⟩ = some (.bool false) := (by rw [b7.cell]; rfl); have f6 := b6.frozen 0; have f7 := b7.frozen 0; have l6 := b6.lt; have l7 := b7.lt; have HB6' := Lib.hid b6; have HB7' := Lib.hid b7; clear bx4 hs4 hg4)
   refine ⟨trivial, ?_⟩
   gi_wp2
   refine ⟨(kf_map HG4.out (by omega)).trans (((KeepsOthers.setCell _ _ _).trans (KeepsOthers.setCell _ _ _)).from _), pre, ⟨((s, lp), _), hst, hlp⟩, rfl, rfl, (HI3.out.1.trans (kpc_map HG4.out (.inr (.inr rfl)) (by omega) HI3.out.1.size)).trans ((KpC.set_ (.inl rfl) (by show W.heap.size + 1 < _; omega) _).trans (KpC.set_ (.inr (.inl rfl)) (by show W.heap.size + 1 + 1 < _; omega) _)), ?_, ?_, HI3.out.2.2.2.2, by rw [HYw.out]; rfl⟩
   ·have h := (HB6'.out.set_ 0 (.int .i64 sid)).far (p := ⟨W.heap.size + 1 + 1, 0, none⟩) (by show (W.heap.size + 1 : Nat) ≠ W.heap.size + 1 + 1; omega) (.bool true)
    simp only [List.setIfInBounds_toArray, List.set_cons_zero] at h
    rw [HYi.out]; exact h
   ·have h := (HB7'.out.far (p := ⟨W.heap.size + 1, 0, none⟩) (by show (W.heap.size + 1 + 1 : Nat) ≠ W.heap.size + 1; omega) (.int .i64 sid)).set_ 0 (.bool true)
    simp only [List.setIfInBounds_toArray, List.set_cons_zero] at h
    exact h
  | false =>
   generalize hld : landsB f kind nm lp = d at HYw
   have HLd := Lib.hid hld
   clear hld
   have HLn := Lib.hid (fun (W4 : World) (hT : SetI W4 bt nT f) => lands_any hT (sid := sid) (kind := kind) (lp := lp) (y0 := y0) (y1 := y1) (nm := nm) (proc := proc) (y2 := y2) (has := has) (L := L) (X := X) (R := R) (T := T) (U := U) (l1 := labels.length) (l2 := xn) (l3 := args.length) (l4 := th.length) (l5 := el.length) (lc := lc) (xc := xc) (rc := rc) (tc := tc) (uc := uc) hnm)
   rw [HLd.out] at HLn
   cases d with
   | true =>
    gi_wp2_with (first
     | (refine ⟨trivial, ?_⟩; gi_at_call 112; refine (CallsIn.inRound l (callsIn_wide.2 HL3.out)).mono ?_; rintro e W4 ⟨rfl, hs4, hg4⟩; have HG4 := Lib.hid hg4; have HS4 := Lib.hid hs4; have bx4 : Blk W4 Bx 60 #[.int .i64 sid, .int .i64 kind, .slice L labels.length lc, .string nm, .string proc, .int .i64 y0, .int .i64 y1, .string y2, .slice X xn xc, .bool has, .slice R args.length rc, .slice T th.length tc, .slice U el.length uc] := (HG.out W4 hg4 Bx HBX.out.lt (by omega)).trans HBX.out; have x0 : W4.cell? ⟨Bx, 0, none⟩ = some (.int .i64 sid) := (by rw [bx4.cell]; rfl); have x1 : W4.cell? ⟨Bx, 1, none⟩ = some (.int .i64 kind) := (by rw [bx4.cell]; rfl); have x2 : W4.cell? ⟨Bx, 2, none⟩ = some (.slice L labels.length lc) := (by rw [bx4.cell]; rfl); have x3 : W4.cell? ⟨Bx, 3, none⟩ = some (.string nm) := (by rw [bx4.cell]; rfl); have x4 : W4.cell? ⟨Bx, 4, none⟩ = some (.string proc) := (by rw [bx4.cell]; rfl); have x5 : W4.cell? ⟨Bx, 5, none⟩ = some (.int .i64 y0) := (by rw [bx4.cell]; rfl); have x6 : W4.cell? ⟨Bx, 6, none⟩ = some (.int .i64 y1) := (by rw [bx4.cell]; rfl); have x7 : W4.cell? ⟨Bx, 7, none⟩ = some (.string y2) := (by rw [bx4.cell]; rfl); have x8 : W4.cell? ⟨Bx, 8, none⟩ = some (.slice X xn xc) := (by rw [bx4.cell]; rfl); have x9 : W4.cell? ⟨Bx, 9, none⟩ = some (.bool has) := (by rw [bx4.cell]; rfl); have x10 : W4.cell? ⟨Bx, 10, none⟩ = some (.slice R args.length rc) := (by rw [bx4.cell]; rfl); have x11 : W4.cell? ⟨Bx, 11, none⟩ = some (.slice T th.length tc) := (by rw [bx4.cell]; rfl); have x12 : W4.cell? ⟨Bx, 12, none⟩ = some (.slice U el.length uc) := (by rw [bx4.cell]; rfl); have b44 : Blk W4 (w1.heap.size + 1) 110 #[.map (some bt)] := (HG.out W4 hg4 _ HB4x.out.lt (by omega)).trans HB4x.out; have c44 : W4.cell? ⟨w1.heap.size + 1, 0, none⟩ = some (.map (some bt)) := (by rw [b44.cell]; rfl); have HT4 := Lib.hid (HT3.out.same (HG.out W4 hg4 bt HT3.out.lt (by omega))); clear bx4 b44 hs4 hg4)
     | (refine ⟨trivial, ?_⟩; gi_at_call 113; refine (CallsIn.inRound l (callsIn_wide.2 (HLn.out W4 HT4.out))).mono ?_; rintro e W5 ⟨rfl, hb5⟩; have HB5 := Lib.hid hb5; clear hb5))
    refine ⟨(kf_map HG4.out (by omega)).trans (kf_below HB5.out), ?_, (HI3.out.1.trans (kpc_map HG4.out (.inr (.inr rfl)) (by omega) HI3.out.1.size)).trans (KpC.of_below (Nat.le_trans HI3.out.1.size HG4.out.size) HB5.out), ?_, ?_, ?_, HI3.out.2.2.2.2.step (by rw [HYw.out]; rfl)⟩
    ·exact (kpc_map HG4.out (.inr (.inr rfl)) (by omega) HI3.out.1.size).trans (KpC.of_below (Nat.le_trans HI3.out.1.size HG4.out.size) HB5.out)
    ·exact (setY_step _ _ HYl.out HS4.out).below HB5.out HS4.out.lt
    ·have b := (HG.out W4 HG4.out _ HI3.out.2.2.1.lt (by omega)).trans HI3.out.2.2.1
     exact Blk.below b HB5.out (Blk.lt b)
    ·have b := (HG.out W4 HG4.out _ HI3.out.2.2.2.1.lt (by omega)).trans HI3.out.2.2.2.1
     exact Blk.below b HB5.out (Blk.lt b)
   | false =>
    gi_wp2_with (first
     | (refine ⟨trivial, ?_⟩; gi_at_call 112; refine (CallsIn.inRound l (callsIn_wide.2 HL3.out)).mono ?_; rintro e W4 ⟨rfl, hs4, hg4⟩; have HG4 := Lib.hid hg4; have bx4 : Blk W4 Bx 60 #[.int .i64 sid, .int .i64 kind, .slice L labels.length lc, .string nm, .string proc, .int .i64 y0, .int .i64 y1, .string y2, .slice X xn xc, .bool has, .slice R args.length rc, .slice T th.length tc, .slice U el.length uc] := (HG.out W4 hg4 Bx HBX.out.lt (by omega)).trans HBX.out; have HBX4 := Lib.hid bx4; have x0 : W4.cell? ⟨Bx, 0, none⟩ = some (.int .i64 sid) := (by rw [bx4.cell]; rfl); have x1 : W4.cell? ⟨Bx, 1, none⟩ = some (.int .i64 kind) := (by rw [bx4.cell]; rfl); have x2 : W4.cell? ⟨Bx, 2, none⟩ = some (.slice L labels.length lc) := (by rw [bx4.cell]; rfl); have x3 : W4.cell? ⟨Bx, 3, none⟩ = some (.string nm) := (by rw [bx4.cell]; rfl); have x4 : W4.cell? ⟨Bx, 4, none⟩ = some (.string proc) := (by rw [bx4.cell]; rfl); have x5 : W4.cell? ⟨Bx, 5, none⟩ = some (.int .i64 y0) := (by rw [bx4.cell]; rfl); have x6 : W4.cell? ⟨Bx, 6, none⟩ = some (.int .i64 y1) := (by rw [bx4.cell]; rfl); have x7 : W4.cell? ⟨Bx, 7, none⟩ = some (.string y2) := (by rw [bx4.cell]; rfl); have x8 : W4.cell? ⟨Bx, 8, none⟩ = some (.slice X xn xc) := (by rw [bx4.cell]; rfl); have x9 : W4.cell? ⟨Bx, 9, none⟩ = some (.bool has) := (by rw [bx4.cell]; rfl); have x10 : W4.cell? ⟨Bx, 10, none⟩ = some (.slice R args.length rc) := (by rw [bx4.cell]; rfl); have x11 : W4.cell? ⟨Bx, 11, none⟩ = some (.slice T th.length tc) := (by rw [bx4.cell]; rfl); have x12 : W4.cell? ⟨Bx, 12, none⟩ = some (.slice U el.length uc) := (by rw [bx4.cell]; rfl); have b44 : Blk W4 (w1.heap.size + 1) 110 #[.map (some bt)] := (HG.out W4 hg4 _ HB4x.out.lt (by omega)).trans HB4x.out; have c44 : W4.cell? ⟨w1.heap.size + 1, 0, none⟩ = some (.map (some bt)) := (by rw [b44.cell]; rfl); have HT4 := Lib.hid (HT3.out.same (HG.out W4 hg4 bt HT3.out.lt (by omega))); clear bx4 b44 hs4 hg4)
     | (refine ⟨trivial, ?_⟩; gi_at_call 113; refine (CallsIn.inRound l (callsIn_wide.2 (HLn.out W4 HT4.out))).mono ?_; rintro e W5 ⟨rfl, hb5⟩; have HB5 := Lib.hid hb5; clear x0 x1 x2 x3 x4 x5 x6 x7 x8 x9 x10 x11 x12; have bx5 : Blk W5 Bx 60 #[.int .i64 sid, .int .i64 kind, .slice L labels.length lc, .string nm, .string proc, .int .i64 y0, .int .i64 y1, .string y2, .slice X xn xc, .bool has, .slice R args.length rc, .slice T th.length tc, .slice U el.length uc] := HBX4.out.below hb5 HBX4.out.lt; have x0 : W5.cell? ⟨Bx, 0, none⟩ = some (.int .i64 sid) := (by rw [bx5.cell]; rfl); have a6 : Blk W4 (W.heap.size + 1) 3 #[.int .i64 0] := (HG.out W4 HG4.out _ HI3.out.2.2.1.lt (by omega)).trans HI3.out.2.2.1; have a7 : Blk W4 (W.heap.size + 1 + 1) 4 #[.bool false] := (HG.out W4 HG4.out _ HI3.out.2.2.2.1.lt (by omega)).trans HI3.out.2.2.2.1; have b6 := a6.below hb5 a6.lt; have b7 := a7.below hb5 a7.lt; have c6 : W5.cell? ⟨W.heap.size + 1, 0, none⟩ = some (.int .i64 0) := (by rw [b6.cell]; rfl); have c7 : W5.cell? ⟨W.heap.size + 1 + 1, 0, none⟩ = some (.bool false) := (by rw [b7.cell]; rfl); have f6 := b6.frozen 0; have f7 := b7.frozen 0; have l6 := b6.lt; have l7 := b7.lt; have HB6' := Lib.hid b6; have HB7' := Lib.hid b7; clear bx5 a6 a7 hb5))
    refine ⟨((kf_map HG4.out (by omega)).trans (kf_below HB5.out)).trans (((KeepsOthers.setCell _ _ _).trans (KeepsOthers.setCell _ _ _)).from _), pre, ⟨((s, lp), _), hst, hlp⟩, rfl, rfl, ((HI3.out.1.trans (kpc_map HG4.out (.inr (.inr rfl)) (by omega) HI3.out.1.size)).trans (KpC.of_below (Nat.le_trans HI3.out.1.size HG4.out.size) HB5.out)).trans ((KpC.set_ (.inl rfl) (by show W.heap.size + 1 < _; omega) _).trans (KpC.set_ (.inr (.inl rfl)) (by show W.heap.size + 1 + 1 < _; omega) _)), ?_, ?_, HI3.out.2.2.2.2, by rw [HYw.out]; rfl⟩
    ·have h := (HB6'.out.set_ 0 (.int .i64 sid)).far (p := ⟨W.heap.size + 1 + 1, 0, none⟩) (by show (W.heap.size + 1 : Nat) ≠ W.heap.size + 1 + 1; omega) (.bool true)
     simp only [List.setIfInBounds_toArray, List.set_cons_zero] at h
     rw [HYi.out]; exact h
    ·have h := (HB7'.out.far (p := ⟨W.heap.size + 1, 0, none⟩) (by show (W.heap.size + 1 + 1 : Nat) ≠ W.heap.size + 1; omega) (.int .i64 sid)).set_ 0 (.bool true)
     simp only [List.setIfInBounds_toArray, List.set_cons_zero] at h
     exact h
 case done =>
  rintro D xs W3 hD hS ⟨hK, hs3, k6, k7, hno⟩ hKd
  have HKd := Lib.hid hKd
  have HK := Lib.hid hK
  have b3 : Blk W3 W.heap.size 45 #[.string q.nm, .slice Bp q.params.length kp, .slice Bv q.vars.length kv, .slice Bb q.body.length kb, .slice Be q.end_.length ke] := (hK.low _ (by omega) (by omega)).trans H3.out
  have b5 : Blk W3 (w1.heap.size + 1 + 1) 110 #[.map (some w1.heap.size)] := (hK.low _ (by omega) (by omega)).trans H5.out
  have K6 := Lib.hid k6
  have K7 := Lib.hid k7
  have hNl : (labsY xs).length + q.end_.length ≤ 4000000000000 := by
   have h1 := labsY_len xs
   have h2 := Nat.le_trans (preSL_lw q.body) HWs.out
   have h4 := Nat.le_trans (wT_len q.end_) HWe.out
   have h5 := congrArg List.length hS
   have h7 := congrArg List.length (lpSL_fst q.body 0)
   rw [List.length_map] at h5 h7
   omega
  have hSz : ∀ t ∈ q.end_, t.size ≤ maxLen := fun t ht => by
   have h1 := wT_mem ht
   have h2 := HWe.out
   unfold maxLen
   omega
  have HL3 := Lib.hid (again_any HEe.out (HK.out.inn HQ2.out HI2.out) hs3 (fun hq => (HQ2.out _ hq).2 (.inr (.inr rfl))) (Nat.le_trans hNl (by omega)) hSz)
  have q1 : W3.cell? ⟨W.heap.size, 4, none⟩ = some (.slice Be q.end_.length ke) := by rw [b3.cell]; rfl
  have q5 : W3.cell? ⟨w1.heap.size + 1 + 1, 0, none⟩ = some (.map (some w1.heap.size)) := by rw [b5.cell]; rfl
  have hLb : labsY xs = labsOf (preSL q.body) := by rw [← lpSL_fst q.body 0, ← hS, labsY, List.map_map]; rfl
  have HRv : Hid (res = (0, dupF (setF (labsY xs)) q.end_)) := Lib.hid (by rw [HRes.out, hno.done hS, hLb]; rfl)
  clear h3 h4 h5 h6 h7 hS2 hT2 hK hKd k6 k7 hNl hSz hS hs3 hno b3 b5 hLb
  generalize hdd : dupF (setF (labsY xs)) q.end_ = d at HL3 HRv
  clear hdd
  gi_wp2_with (refine ⟨trivial, ?_⟩; gi_at_call 112; refine (callsIn_wide.2 HL3.out).mono ?_; rintro e W4 ⟨rfl, hs4, hg4⟩; have HG4 := Lib.hid hg4; have b6 : Blk W4 (W.heap.size + 1) 3 #[.int .i64 0] := (hg4.block _ K6.out.lt (fun e => by injection e with e; omega)).trans K6.out; have b7 : Blk W4 (W.heap.size + 1 + 1) 4 #[.bool false] := (hg4.block _ K7.out.lt (fun e => by injection e with e; omega)).trans K7.out; have c6 : W4.cell? ⟨W.heap.size + 1, 0, none⟩ = some (.int .i64 0) := (by rw [b6.cell]; rfl); have c7 : W4.cell? ⟨W.heap.size + 1 + 1, 0, none⟩ = some (.bool false) := (by rw [b7.cell]; rfl); have f6 := b6.frozen 0; have f7 := b7.frozen 0; have l6 := b6.lt; have l7 := b7.lt; have HB6' := Lib.hid b6; have HB7' := Lib.hid b7; clear hs4 hg4)
  have hKd4 : W4.heap[D]? = some (.deferred (some [])) := (HG4.out.block D (Array.getElem?_eq_some_iff.1 HKd.out).1 (fun e => by injection e with e; omega)).trans HKd.out
  have b6 : Blk ((W4.setCell ⟨W.heap.size + 1, 0, none⟩ (.int .i64 0)).setCell ⟨W.heap.size + 1 + 1, 0, none⟩ (.bool d)) (W.heap.size + 1) 3 #[.int .i64 0] := by
   have h := (HB6'.out.set_ 0 (.int .i64 0)).far (p := ⟨W.heap.size + 1 + 1, 0, none⟩) (by show (W.heap.size + 1 : Nat) ≠ W.heap.size + 1 + 1; omega) (.bool d)
   simp only [List.setIfInBounds_toArray, List.set_cons_zero] at h
   exact h
  have b7 : Blk ((W4.setCell ⟨W.heap.size + 1, 0, none⟩ (.int .i64 0)).setCell ⟨W.heap.size + 1 + 1, 0, none⟩ (.bool d)) (W.heap.size + 1 + 1) 4 #[.bool d] := by
   have h := (HB7'.out.far (p := ⟨W.heap.size + 1, 0, none⟩) (by show (W.heap.size + 1 + 1 : Nat) ≠ W.heap.size + 1; omega) (.int .i64 0)).set_ 0 (.bool d)
   simp only [List.setIfInBounds_toArray, List.set_cons_zero] at h
   exact h
  have hD2 : ((W4.setCell ⟨W.heap.size + 1, 0, none⟩ (.int .i64 0)).setCell ⟨W.heap.size + 1 + 1, 0, none⟩ (.bool d)).heap[D]? = some (.deferred (some [])) := by
   rw [Below.heap_setCell _ _ _ _ (by show (D : Nat) ≠ W.heap.size + 1 + 1; omega), Below.heap_setCell _ _ _ _ (by show (D : Nat) ≠ W.heap.size + 1; omega)]
   exact hKd4
  have hc6 := cell_kept (show ((W4.setCell ⟨W.heap.size + 1, 0, none⟩ (.int .i64 0)).setCell ⟨W.heap.size + 1 + 1, 0, none⟩ (.bool d)).cell? ⟨W.heap.size + 1, 0, none⟩ = some (.int .i64 0) by rw [b6.cell]; rfl) (grownBy_putObj' _ D (.deferred none)) (fun r e => by cases e; exact ⟨_, hD2, rfl⟩)
  have hc7 := cell_kept (show ((W4.setCell ⟨W.heap.size + 1, 0, none⟩ (.int .i64 0)).setCell ⟨W.heap.size + 1 + 1, 0, none⟩ (.bool d)).cell? ⟨W.heap.size + 1 + 1, 0, none⟩ = some (.bool d) by rw [b7.cell]; rfl) (grownBy_putObj' _ D (.deferred none)) (fun r e => by cases e; exact ⟨_, hD2, rfl⟩)
  have hB4 : Below W.heap.size W W4 := (HB02.out.trans (below_kpc HK.out (by omega) (fun j hj => by omega))).trans ⟨HG4.out.os, HG4.out.tape, HG4.out.output, HG4.out.size, fun k hk => HG4.out.block k (Nat.lt_of_lt_of_le hk (Nat.le_trans HB02.out.size HK.out.size)) (fun e => by injection e with e; omega)⟩
  refine ⟨by simp, .inl ⟨_, _, rfl, run_takeDeferred hD2, ?_⟩⟩
  refine ⟨_, ?_, by rw [HRv.out], (((hB4.setCell (p := ⟨W.heap.size + 1, 0, none⟩) (by show W.heap.size ≤ W.heap.size + 1; omega) _).setCell (p := ⟨W.heap.size + 1 + 1, 0, none⟩) (by show W.heap.size ≤ W.heap.size + 1 + 1; omega) _)).trans (belowK_b (w := W) (Nat.le_refl _) _ D _ _ (by omega) hD2 rfl rfl)⟩
  simp [results, Try.f71, go_sem, hc6, hc7]
 case stop =>
  rintro D c pre W3 hD hS ⟨ys, x, rfl, rfl, hK, k6, k7, hno, hyes⟩ hKd
  have HKd := Lib.hid hKd
  have HK := Lib.hid hK
  have HRv : Hid (res = ((valY x).1.id, true)) := Lib.hid (by rw [HRes.out, hno.stop hyes hS]; rfl)
  have hc6 := cell_kept (show W3.cell? ⟨W.heap.size + 1, 0, none⟩ = some (.int .i64 (valY x).1.id) by rw [k6.cell]; rfl) (grownBy_putObj' _ D (.deferred none)) (fun r e => by cases e; exact ⟨_, hKd, rfl⟩)
  have hc7 := cell_kept (show W3.cell? ⟨W.heap.size + 1 + 1, 0, none⟩ = some (.bool true) by rw [k7.cell]; rfl) (grownBy_putObj' _ D (.deferred none)) (fun r e => by cases e; exact ⟨_, hKd, rfl⟩)
  gi_wp2
  refine ⟨by simp, .inl ⟨_, _, rfl, run_takeDeferred HKd.out, ?_⟩⟩
  refine ⟨_, ?_, by rw [HRv.out], (HB02.out.trans (below_kpc HK.out (by omega) (fun j hj => by omega))).trans (belowK_b (w := W) (Nat.le_refl _) W3 D _ _ (by omega) HKd.out rfl rfl)⟩
  simp [results, Try.f71, go_sem, hc6, hc7]
end Go.Proofs.Ytehpinnmalpgpaa
