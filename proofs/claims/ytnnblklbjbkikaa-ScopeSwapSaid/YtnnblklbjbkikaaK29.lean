/- Texts, merged by a program; only what is used. -/
import Derived.Test.YtnnblklbjbkikaaK1
import Derived.Test.YtnnblklbjbkikaaK2
import Derived.Test.YtnnblklbjbkikaaK3
import Derived.Test.YtnnblklbjbkikaaK4
import Derived.Test.YtnnblklbjbkikaaK5
import Derived.Test.YtnnblklbjbkikaaK6
import Derived.Test.YtnnblklbjbkikaaK7
import Derived.Test.YtnnblklbjbkikaaK8
import Derived.Test.YtnnblklbjbkikaaK9
import Derived.Test.YtnnblklbjbkikaaK10
import Derived.Test.YtnnblklbjbkikaaK11
import Derived.Test.YtnnblklbjbkikaaK12
import Derived.Test.YtnnblklbjbkikaaK13
import Derived.Test.YtnnblklbjbkikaaK14
import Derived.Test.YtnnblklbjbkikaaK15
import Derived.Test.YtnnblklbjbkikaaK16
import Derived.Test.YtnnblklbjbkikaaK17
import Derived.Test.YtnnblklbjbkikaaK18
import Derived.Test.YtnnblklbjbkikaaK19
import Derived.Test.YtnnblklbjbkikaaK20
import Derived.Test.YtnnblklbjbkikaaK21
import Derived.Test.YtnnblklbjbkikaaK22
import Derived.Test.YtnnblklbjbkikaaK23
import Derived.Test.YtnnblklbjbkikaaK24
import Derived.Test.YtnnblklbjbkikaaK25
import Derived.Test.YtnnblklbjbkikaaK26
import Derived.Test.YtnnblklbjbkikaaK27
import Derived.Test.YtnnblklbjbkikaaK28
namespace Go.Proofs.Ytnnblklbjbkikaa
open Go.ChangeShapes Go.WideShapes Go.ChangeAt Go.RowKit Go.Deep
set_option linter.unusedVariables false
set_option linter.unusedSimpArgs false
set_option linter.unusedSectionVars false
theorem oth_iff (a b s t : ByteArray) : oth a b s = oth a b t ↔ s = t :=
  ⟨fun h => by have := congrArg (oth a b) h; rwa [oth_oth, oth_oth] at this, fun h => by rw [h]⟩
theorem isT_oth (a b s t : ByteArray) : isT (oth a b s) (oth a b t) = isT s t := by
  unfold isT; rw [Bool.eq_iff_iff, decide_eq_true_eq, decide_eq_true_eq]; exact oth_iff a b s t
theorem any_oth (a b s : ByteArray) (l : List ByteArray) : (l.map (oth a b)).any (isT (oth a b s)) = l.any (isT s) := by
  rw [List.any_map]; congr 1; funext t; exact isT_oth a b s t
theorem dupL_oth (a b : ByteArray) : ∀ (r p : List ByteArray), dupL (p.map (oth a b)) (r.map (oth a b)) = dupL p r
  | [], p => rfl
  | x :: r, p => by
    have h := dupL_oth a b r (p ++ [x])
    rw [List.map_append, List.map_cons, List.map_nil] at h
    rw [List.map_cons, dupL, dupL, any_oth, h]
theorem dup_oth (a b : ByteArray) (l : List ByteArray) : dup (l.map (oth a b)) = dup l := dupL_oth a b l []
theorem isQ_oth (a b s : ByteArray) (q : Pr) : isQ (oth a b s) (swQ a b q) = isQ s q := by
  unfold isQ; rw [Bool.eq_iff_iff, decide_eq_true_eq, decide_eq_true_eq]; exact oth_iff a b q.nm s
theorem findQ_oth (a b s : ByteArray) (l : List Pr) : (l.map (swQ a b)).find? (isQ (oth a b s)) = (l.find? (isQ s)).map (swQ a b) := by
  rw [List.find?_map]; congr 2; funext q; exact isQ_oth a b s q
theorem findPa_oth (a b s : ByteArray) (l : List Pa) : (l.map (swPa a b)).find? (isPa (oth a b s)) = (l.find? (isPa s)).map (swPa a b) := by
  rw [List.find?_map]; congr 2; funext q
  show decide (oth a b q.nm = oth a b s) = decide (q.nm = s)
  rw [Bool.eq_iff_iff, decide_eq_true_eq, decide_eq_true_eq]; exact oth_iff a b q.nm s
theorem knd_oth (a b : ByteArray) (gl : List ByteArray) (q : Pr) (s : ByteArray) : knd (gl.map (oth a b)) (swQ a b q) (oth a b s) = knd gl q s := by
  unfold knd
  show ((q.params.map (swPa a b)).find? (isPa (oth a b s))).elim (if (q.vars.map (oth a b)).any (isT (oth a b s)) = true then (4 : Int) else if (gl.map (oth a b)).any (isT (oth a b s)) = true then 1 else 0) (fun x => if x.ref = true then 3 else 2) = _
  rw [findPa_oth, any_oth, any_oth]
  cases q.params.find? (isPa s) <;> rfl
mutual
theorem preS_map (a b : ByteArray) : ∀ s : S, preS (swS a b s) = (preS s).map (swS a b)
  | .mk id kind labels nm proc x has args th el => by
    rw [preS, List.map_cons, List.map_append, ← preSL_map a b th, ← preSL_map a b el, swS, preS]
theorem preSL_map (a b : ByteArray) : ∀ l : List S, preSL (swSL a b l) = (preSL l).map (swS a b)
  | [] => by rw [swSL, preSL]; rfl
  | s :: l => by rw [swSL, preSL, preSL, List.map_append, preS_map a b s, preSL_map a b l]
end
theorem spoke_oth (a b : ByteArray) (l : List ByteArray) (s : ByteArray) : spoke (l.map (oth a b)) (oth a b s) = (spoke l s).map (oth a b) := by
  have h : hasB (l.map (oth a b)) (oth a b s) = hasB l s := by
    unfold hasB
    rw [List.any_map]; congr 1; funext t
    show decide (oth a b t = oth a b s) = decide (t = s)
    rw [Bool.eq_iff_iff, decide_eq_true_eq, decide_eq_true_eq]; exact oth_iff a b t s
  unfold spoke
  rw [h]
  split
  · rfl
  · rw [List.map_append]; rfl
mutual
theorem walkE_oth (a b : ByteArray) : ∀ (e : E) (l : List ByteArray), walkE (swE a b e) (l.map (oth a b)) = (walkE e l).map (oth a b)
  | .mk op n nm ks, l => by
    rw [swE, walkE, walkE]
    split
    · rw [spoke_oth]; exact walkL_oth a b ks _
    · exact walkL_oth a b ks _
theorem walkL_oth (a b : ByteArray) : ∀ (ks : List E) (l : List ByteArray), walkL (swL a b ks) (l.map (oth a b)) = (walkL ks l).map (oth a b)
  | [], l => by rw [swL, walkL, walkL]
  | k :: ks, l => by rw [swL, walkL, walkL, walkE_oth a b k]; exact walkL_oth a b ks _
end
theorem swS_id (a b : ByteArray) (s : S) : (swS a b s).id = s.id := by cases s; rw [swS]; rfl
theorem fstB_oth (a b : ByteArray) (f g : S → Bool) (h : ∀ s, f (swS a b s) = g s) (L : List S) : fstB f (L.map (swS a b)) = fstB g L := by
  unfold fstB
  rw [List.find?_map, show f ∘ swS a b = g from funext h]
  cases L.find? g with
  | none => rfl
  | some s => exact swS_id a b s
section
variable {a b : ByteArray} (ha : isNm (bl a) = true) (hb : isNm (bl b) = true)
include ha hb
/-- the kind of a name stays -/
theorem kindP_sw (p : Pg) (proc s : ByteArray) : kindP (swP a b p) (oth a b proc) (oth a b s) = kindP p proc s := by
  unfold kindP
  rw [mayP_sw ha hb]
  split
  · show ((p.procs.map (swQ a b)).find? (isQ (oth a b proc))).elim 0 (fun q => knd (p.globals.map (oth a b)) q (oth a b s)) = _
    rw [findQ_oth]
    cases p.procs.find? (isQ proc) with
    | none => rfl
    | some q => exact knd_oth a b p.globals q s
  · rfl
theorem namesE_sw (e : E) : namesE (swE a b e) = (namesE e).map (oth a b) := by
  unfold namesE
  rw [mayE_sw ha hb]
  split
  · exact walkE_oth a b e []
  · rfl
theorem argV_sw (r : Ar) : argV (swA a b r) = (argV r).map (oth a b) := by
  unfold argV
  show (if r.ref = true then [oth a b r.nm] else namesE (swE a b r.x)) = _
  split
  · rfl
  · exact namesE_sw ha hb r.x
theorem ownV_sw (kind : Int) (nm : ByteArray) : ownV kind (oth a b nm) = (ownV kind nm).map (oth a b) := by
  unfold ownV
  rw [oth_emp ha hb]
  split <;> rfl
theorem varsS_sw : ∀ s : S, varsS (swS a b s) = (varsS s).map (oth a b)
  | .mk id kind labels nm proc x has args th el => by
    rw [swS]
    show namesE (swE a b x) ++ ownV kind (oth a b nm) ++ (args.map (swA a b)).flatMap argV = (namesE x ++ ownV kind nm ++ args.flatMap argV).map (oth a b)
    rw [namesE_sw ha hb, ownV_sw ha hb, List.map_append, List.map_append]
    congr 1
    induction args with
    | nil => rfl
    | cons r l ih => rw [List.map_cons, List.flatMap_cons, List.flatMap_cons, List.map_append, ih, argV_sw ha hb]
variable (hma : a ≠ mainB) (hmb : b ≠ mainB)
include hma hmb
theorem oth_main : oth a b mainB = mainB := by
  unfold oth; rw [if_neg (fun h => hma h.symm), if_neg (fun h => hmb h.symm)]
theorem isMain_oth (s : ByteArray) : ((oth a b s).toList == [109, 97, 105, 110]) = (s.toList == [109, 97, 105, 110]) := by
  have h : ∀ t : ByteArray, (t.toList == [109, 97, 105, 110]) = decide (t = mainB) := fun t => by
    have := dec_bytes t mainB
    rw [bl_toList mainB] at this
    exact this
  rw [h, h, Bool.eq_iff_iff, decide_eq_true_eq, decide_eq_true_eq]
  have := oth_iff a b s mainB
  rwa [oth_main ha hb hma hmb] at this
theorem rightS_sw (gl : List ByteArray) (q : Pr) (ps : List ByteArray) : ∀ s : S, rightS (gl.map (oth a b)) (swQ a b q) (ps.map (oth a b)) (swS a b s) = rightS gl q ps s
  | .mk id kind labels nm proc x has args th el => by
    unfold rightS
    rw [varsS_sw ha hb, List.all_map]
    have h1 : ((fun v => knd (gl.map (oth a b)) (swQ a b q) v != 0) ∘ oth a b) = (fun v => knd gl q v != 0) := by
      funext v
      show (knd (gl.map (oth a b)) (swQ a b q) (oth a b v) != 0) = _
      rw [knd_oth]
    rw [h1, swS]
    show (_ && (kind != 4 || (!((oth a b proc).toList == [109, 97, 105, 110]) && (ps.map (oth a b)).any (isT (oth a b proc))))) = (_ && (kind != 4 || (!(proc.toList == [109, 97, 105, 110]) && ps.any (isT proc))))
    rw [isMain_oth ha hb hma hmb, any_oth]
theorem namesP_sw (gl : List ByteArray) (q : Pr) : namesP (gl.map (oth a b)) (swQ a b q) = (namesP gl q).map (oth a b) := by
  unfold namesP
  show gl.map (oth a b) ++ (q.params.map (swPa a b)).map Pa.nm ++ q.vars.map (oth a b) = _
  rw [List.map_append, List.map_append, List.map_map, List.map_map]
  rfl
theorem chkL_sw (gl ps : List ByteArray) : ∀ l : List Pr, chkL (gl.map (oth a b)) (ps.map (oth a b)) (l.map (swQ a b)) = chkL gl ps l
  | [] => rfl
  | q :: l => by
    have h : fstB (badS (gl.map (oth a b)) (swQ a b q) (ps.map (oth a b))) (preSL (swQ a b q).body) = fstB (badS gl q ps) (preSL q.body) := by
      show fstB _ (preSL (swSL a b q.body)) = _
      rw [preSL_map]
      exact fstB_oth a b _ _ (fun s => by unfold badS; rw [rightS_sw ha hb hma hmb]) _
    rw [List.map_cons, chkL, chkL, namesP_sw ha hb hma hmb, dup_oth, h, chkL_sw gl ps l]
/-- what scope.Check answers stays -/
theorem chkP_sw (p : Pg) : chkP (swP a b p) = chkP p := by
  obtain ⟨gl, l⟩ := p
  have hps : ((l.map (swQ a b)).map Pr.nm) = (l.map Pr.nm).map (oth a b) := by rw [List.map_map, List.map_map]; rfl
  have hmn : mainBad ⟨gl.map (oth a b), l.map (swQ a b)⟩ = mainBad ⟨gl, l⟩ := by
    unfold mainBad
    show ((l.map (swQ a b)).find? (isQ mainB)).elim true _ = (l.find? (isQ mainB)).elim true _
    have h := findQ_oth a b mainB l
    rw [oth_main ha hb hma hmb] at h
    rw [h]
    cases l.find? (isQ mainB) with
    | none => rfl
    | some q => show decide (0 < (q.params.map (swPa a b)).length) = _; rw [List.length_map]; rfl
  have hhd : hdBad ⟨gl.map (oth a b), l.map (swQ a b)⟩ = hdBad ⟨gl, l⟩ := by
    unfold hdBad
    rw [hmn]
    show (mainBad ⟨gl, l⟩ || dup (gl.map (oth a b)) || dup ((l.map (swQ a b)).map Pr.nm)) = _
    rw [hps, dup_oth, dup_oth]
  have hm := mayP_sw ha hb ⟨gl, l⟩
  unfold chkP
  rw [hm]
  show (if mayP ⟨gl, l⟩ = true then (if hdBad ⟨gl.map (oth a b), l.map (swQ a b)⟩ = true then ((5, 0) : Int × Int) else chkL (gl.map (oth a b)) ((l.map (swQ a b)).map Pr.nm) (l.map (swQ a b))) else (1, 0)) = _
  rw [hhd, hps, chkL_sw ha hb hma hmb]
end
end Go.Proofs.Ytnnblklbjbkikaa
namespace Go.Proofs.Ytnnblklbjbkikaa
open Go.ChangeShapes Go.WideShapes Go.ChangeAt Go.RowKit Go.Deep
set_option linter.unusedVariables false
set_option linter.unusedSimpArgs false
set_option linter.unusedSectionVars false
section
variable {a b : ByteArray} (ha : a.size ≤ 8) (hb : b.size ≤ 8)
include ha hb
theorem oth_s8 (s : ByteArray) : (oth a b s).size ≤ s.size + 8 := by
  unfold oth
  split
  · omega
  · split
    · omega
    · omega
theorem wT_sw : ∀ l : List ByteArray, wT (l.map (oth a b)) ≤ 9 * wT l
  | [] => by rw [List.map_nil, wT]; omega
  | s :: l => by
    rw [List.map_cons, wT, wT]
    have h1 := oth_s8 ha hb s
    have h2 := wT_sw l
    omega
mutual
theorem wE_sw : ∀ e : E, wE (swE a b e) ≤ 9 * wE e
  | .mk op n nm ks => by
    rw [swE, wE, wE]
    have h1 := oth_s8 ha hb nm
    have h2 := wL_sw ks
    omega
theorem wL_sw : ∀ l : List E, wL (swL a b l) ≤ 9 * wL l
  | [] => by rw [swL, wL]; omega
  | k :: l => by
    rw [swL, wL, wL]
    have h1 := wE_sw k
    have h2 := wL_sw l
    omega
end
theorem wAr_sw : ∀ l : List Ar, wAr (l.map (swA a b)) ≤ 9 * wAr l
  | [] => by rw [List.map_nil, wAr]; omega
  | r :: l => by
    rw [List.map_cons, wAr, wAr]
    have h1 := oth_s8 ha hb r.nm
    have h2 := wE_sw ha hb r.x
    have h3 := wAr_sw l
    simp only [swA]
    omega
mutual
theorem wS_sw : ∀ s : S, wS (swS a b s) ≤ 9 * wS s
  | .mk id kind labels nm proc x has args th el => by
    rw [swS, wS, wS]
    have h1 := oth_s8 ha hb nm
    have h2 := oth_s8 ha hb proc
    have h3 := wE_sw ha hb x
    have h4 := wT_sw ha hb labels
    have h5 := wAr_sw ha hb args
    have h6 := wSL_sw th
    have h7 := wSL_sw el
    omega
theorem wSL_sw : ∀ l : List S, wSL (swSL a b l) ≤ 9 * wSL l
  | [] => by rw [swSL, wSL]; omega
  | s :: l => by
    rw [swSL, wSL, wSL]
    have h1 := wS_sw s
    have h2 := wSL_sw l
    omega
end
/-- what fits is not too great with names changed for each other -/
theorem fits_sw {p : Pg} (h : fitsP p = true) : SmG (swP a b p) := by
  unfold fitsP weighP at h
  have h0 := of_decide_eq_true h
  obtain ⟨h1, h2⟩ := weighQs_full p.procs _ h0
  have h3 := weighTs_eq p.globals 0 (by omega)
  have h4 := wT_sw ha hb p.globals
  refine ⟨by show wT (p.globals.map (oth a b)) ≤ _; omega, by show (p.procs.map (swQ a b)).length ≤ _; rw [List.length_map]; omega, fun q hq => ?_⟩
  obtain ⟨q0, hq0, rfl⟩ := List.mem_map.1 hq
  obtain ⟨k1, k2, k3, k4⟩ := h2 q0 hq0
  have l1 := wSL_sw ha hb q0.body
  have l2 := wT_sw ha hb q0.vars
  have l3 := wT_sw ha hb q0.end_
  exact ⟨by show wSL (swSL a b q0.body) ≤ _; omega, by show wT (q0.vars.map _) ≤ _; omega, by show wT (q0.end_.map _) ≤ _; omega, by show (q0.params.map _).length ≤ _; rw [List.length_map]; omega⟩
end
end Go.Proofs.Ytnnblklbjbkikaa
namespace Go.Proofs.Ytnnblklbjbkikaa
open Go.ChangeShapes Go.WideShapes Go.ChangeAt Go.RowKit Go.Deep
set_option linter.unusedVariables false
set_option linter.unusedSimpArgs false
/-- what holds of a row of statements that is built by append -/
structure RoI (w : World) (Q : Nat → Prop) (W wr : World) (base : Nat) (outs : List S) (X : Option Addr) (n c : Nat) : Prop where
  row : BuildI wr base 55 13 (fun w Q => StmtI w Q) outs (.slice X n c)
  inn : In Q w wr
  size : base ≤ wr.heap.size
  below : Below W.heap.size W wr
section
variable {w W wr : World} {Q : Nat → Prop} {base : Nat} {outs : List S} {X : Option Addr} {n c : Nat}
theorem RoI.on (h : RoI w Q W wr base outs X n c) {w3 : World} (hb : Below wr.heap.size wr w3) : RoI w Q W w3 base outs X n c :=
  ⟨BuildI.below (R := fun w Q => StmtI w Q) stayS h.row hb, h.inn.on hb, Nat.le_trans h.size hb.size, h.below.trans (hb.mono h.below.size)⟩
theorem ro_step {w3 w4 : World} (h : RoI w Q W w3 base outs X n c) (hn : n = outs.length) (hW : W.heap.size ≤ base) (hQ : ∀ j, Q j → j < base) {B : Nat} (hB : base ≤ B) (hrB : ∀ j, (Value.slice X n c).ownBlock = some j → j < B)
    {x : S} {cs : List Value} (he : StmtI w3 (fun j => B ≤ j ∧ j < w3.heap.size) x cs) {rows : List (List Value)} (h1 : w3.ownsRow base 55 13 (.slice X n c) outs.length rows.flatten) (h2 : All2 (StmtI w3 (fun j => (base ≤ j ∧ j < w3.heap.size) ∧ (Value.slice X n c).ownBlock ≠ some j)) outs rows) {o : Obj} {v' : Value} (hown4 : w4.ownsRow base 55 13 v' (n + 1) (rows.flatten ++ cs)) (hgrow : (w3.alloc o).grownBy w4 (Value.slice X n c).ownBlock) (hat : (Value.slice X n c).ownBlock = v'.ownBlock ∨ v'.ownBlock = some (w3.alloc o).heap.size) :
    ∃ X' c', v' = .slice X' (n + 1) c' ∧ RoI w Q W w4 base (outs ++ [x]) X' (n + 1) c' := by
  have hm4 : Moves (fun j => (Value.slice X n c).ownBlock = some j) w3 w4 := ((Moves.refl _ w3).alloc o).trans (moves_grown hgrow) (fun j hj => .inr hj)
  have hno : ∀ j, j < base → ¬ (Value.slice X n c).ownBlock = some j := fun j hj e => by have := (h1.lt j e).1; omega
  have hbu : BuildI w4 base 55 13 (fun w Q => StmtI w Q) (outs ++ [x]) v' :=
    BuildI.push (R := fun w Q => StmtI w Q) stayS h1 h2 (x := x) (B := B) he hB hrB (n := n + 1) (by omega) rfl hown4 hgrow hat
  obtain ⟨X', c', rfl, _, _⟩ := own_form hown4
  exact ⟨X', c', rfl, hbu, h.inn.moves hm4 (fun j hj hq => hno j (hQ j hq) hj), Nat.le_trans h.size hm4.size, h.below.trans (hm4.below (by have := h.below.size; omega) (fun j hj => by have := (h1.lt j hj).1; omega))⟩
end
end Go.Proofs.Ytnnblklbjbkikaa
namespace Go.Proofs.Ytnnblklbjbkikaa
open Go.ChangeShapes Go.WideShapes Go.ChangeAt Go.RowKit Go.Deep
set_option linter.unusedVariables false
set_option linter.unusedSimpArgs false
/-- what holds of the copy of k arguments -/
structure CwI (w : World) (Q : Nat → Prop) (W V W1 wr : World) (b yb : Nat) (cx : Array Value) (id kind : Int) (labels : List ByteArray) (nm proc : ByteArray) (x : E) (has : Bool) (vl y0 y1 y2 y3 : Value) (args : List Ar) (k : Nat) (X : Option Addr) (c : Nat) : Prop where
  bx : Blk wr b 55 cx
  by_ : Blk wr yb 55 #[.int .i64 id, .int .i64 kind, vl, .string nm, .string proc, y0, y1, y2, y3, .bool has, .slice X k c, .slice none 0 0, .slice none 0 0]
  row : BuildI wr W1.heap.size 72 6 (fun w Q => ArgI w Q) (args.take k) (.slice X k c)
  inn : In Q w wr
  size : W1.heap.size ≤ wr.heap.size
  below : Below W.heap.size W wr
  lab : TextsI wr (NV V W1 yb) labels vl
  ex : ExprI wr (NV V W1 yb) x [y0, y1, y2, y3]
section
variable {w : World} {Q : Nat → Prop} {W V W1 wr : World} {b yb : Nat} {cx : Array Value} {id kind : Int} {labels : List ByteArray} {nm proc : ByteArray} {x : E} {has : Bool} {vl y0 y1 y2 y3 : Value} {args : List Ar} {k : Nat} {X : Option Addr} {c : Nat}
theorem CwI.on (h : CwI w Q W V W1 wr b yb cx id kind labels nm proc x has vl y0 y1 y2 y3 args k X c) {w3 : World} (hb : Below wr.heap.size wr w3) : CwI w Q W V W1 w3 b yb cx id kind labels nm proc x has vl y0 y1 y2 y3 args k X c :=
  ⟨h.bx.below hb h.bx.lt, h.by_.below hb h.by_.lt, BuildI.below (R := fun w Q => ArgI w Q) stayA h.row hb, h.inn.on hb, Nat.le_trans h.size hb.size, h.below.trans (hb.mono h.below.size),
    SliceI.keep h.lab (fun _ h => h) (fun p hp => hb.cell (Nat.lt_of_lt_of_le hp.1.2 h.size)) (fun _ _ _ h => h), h.ex.keep (fun _ h => h) (fun p hp => hb.cell (Nat.lt_of_lt_of_le hp.1.2 h.size))⟩
theorem cw_step {w3 w4 : World} (h : CwI w Q W V W1 w3 b yb cx id kind labels nm proc x has vl y0 y1 y2 y3 args k X c) (hk : k < args.length) (hyl : yb < W1.heap.size) (hby : b < yb) (hbW : W.heap.size ≤ b) (hQ : ∀ j, Q j → j < b) {B : Nat} (hB : W1.heap.size ≤ B) (hrB : ∀ j, (Value.slice X k c).ownBlock = some j → j < B)
    {cs : List Value} (he : ArgI w3 (fun j => B ≤ j ∧ j < w3.heap.size) args[k] cs) {rows : List (List Value)} (h1 : w3.ownsRow W1.heap.size 72 6 (.slice X k c) (args.take k).length rows.flatten) (h2 : All2 (ArgI w3 (fun j => (W1.heap.size ≤ j ∧ j < w3.heap.size) ∧ (Value.slice X k c).ownBlock ≠ some j)) (args.take k) rows) {o : Obj} {g cap5 : Nat} (hown4 : w4.ownsRow W1.heap.size 72 6 (.slice (some ⟨g, 0, none⟩) (k + 1) cap5) (k + 1) (rows.flatten ++ cs)) (hgrow : (w3.alloc o).grownBy w4 (Value.slice X k c).ownBlock) (hat : (Value.slice X k c).ownBlock = some g ∨ g = w3.heap.size + 1) :
    CwI w Q W V W1 (w4.setCell ⟨yb, 10, none⟩ (.slice (some ⟨g, 0, none⟩) (k + 1) cap5)) b yb cx id kind labels nm proc x has vl y0 y1 y2 y3 args (k + 1) (some ⟨g, 0, none⟩) cap5 := by
  have htk : (args.take k).length = k := by rw [List.length_take]; omega
  have hm4 : Moves (fun j => (Value.slice X k c).ownBlock = some j) w3 w4 := ((Moves.refl _ w3).alloc o).trans (moves_grown hgrow) (fun j hj => .inr hj)
  have hno : ∀ j, j < W1.heap.size → ¬ (Value.slice X k c).ownBlock = some j := fun j hj e => by have := (h1.lt j e).1; omega
  have k1 : Blk w4 b _ _ := hm4.blk h.bx (hno b (by omega))
  have k3 : Blk w4 yb _ _ := hm4.blk h.by_ (hno yb hyl)
  have hbu : BuildI w4 W1.heap.size 72 6 (fun w Q => ArgI w Q) (args.take k ++ [args[k]]) (.slice (some ⟨g, 0, none⟩) (k + 1) cap5) :=
    BuildI.push (R := fun w Q => ArgI w Q) stayA h1 h2 (x := args[k]) (B := B) he hB hrB (n := k + 1) (by omega) rfl hown4 hgrow (by rcases hat with h | h; exact .inl h; right; rw [h]; simp [Value.ownBlock])
  rw [← List.take_succ_eq_append_getElem hk] at hbu
  have hsz : w4.heap.size ≥ w3.heap.size := hm4.size
  refine ⟨k1.far (p := ⟨yb, 10, none⟩) (by show b ≠ yb; omega) _, k3.set_ 10 _, BuildI.set (R := fun w Q => ArgI w Q) stayA hbu (p := ⟨yb, 10, none⟩) hyl _, ?_, by simp only [size_set]; have := h.size; omega, ?_, ?_, ?_⟩
  · exact (h.inn.moves hm4 (fun j hj hq => by have := hQ j hq; exact hno j (by omega) hj)).setCell (fun hq => by have := hQ _ hq; simp only at this; omega) _
  · exact below_setc (h.below.trans (hm4.below (by have := h.below.size; omega) (fun j hj => by have := (h1.lt j hj).1; have := h.bx.lt; omega))) (by show W.heap.size ≤ yb; omega) _
  · exact SliceI.keep h.lab (fun _ h => h) (fun p hp => (cell_set_ne _ (fun e => hp.2 (by rw [e]))).trans (hm4.cell (Nat.lt_of_lt_of_le hp.1.2 h.size) (hno _ hp.1.2))) (fun _ _ _ h => h)
  · exact h.ex.keep (fun _ h => h) (fun p hp => (cell_set_ne _ (fun e => hp.2 (by rw [e]))).trans (hm4.cell (Nat.lt_of_lt_of_le hp.1.2 h.size) (hno _ hp.1.2)))
end
theorem oth_le {a b s : ByteArray} (ha : a.size ≤ 9223372036854775807) (hb : b.size ≤ 9223372036854775807) (hs : s.size ≤ 9223372036854775807) : (oth a b s).size ≤ 9223372036854775807 := by
  unfold oth; split; exact hb; split; exact ha; exact hs
theorem oths_le {a b : ByteArray} {l : List ByteArray} (ha : a.size ≤ 9223372036854775807) (hb : b.size ≤ 9223372036854775807) (hs : ∀ s ∈ l, s.size ≤ 9223372036854775807) : ∀ s ∈ l.map (oth a b), s.size ≤ 9223372036854775807 := by
  intro s h
  obtain ⟨t, ht, rfl⟩ := List.mem_map.1 h
  exact oth_le ha hb (hs t ht)
theorem SwapTexts_at {w W : World} {Q : Nat → Prop} {l : List ByteArray} {v : Value} (h : TextsI w Q l v) (hl : l.length ≤ 1000000) {a b : ByteArray} (ha : a.size ≤ 9223372036854775807) (hb : b.size ≤ 9223372036854775807) (hI : In Q w W) :
    Calls Try.prog 36 #[v, .string a, .string b] W fun e w' => ∃ v', e = .returned v' ∧ Below W.heap.size W w' ∧ TextsI w' (nw W w') (l.map (oth a b)) v' := by
  refine (SwapTexts_any h hl a b hI).mono ?_
  rintro e w' ⟨v', rfl, ho, hb1⟩
  exact ⟨v', rfl, hb1, (texts_of_own (oths_le ha hb (texts_small h)) ho).2⟩
end Go.Proofs.Ytnnblklbjbkikaa
