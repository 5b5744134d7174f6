/- Texts, merged by a program; only what is used. -/
import Derived.Maps.Own
import Derived.Maps.OwnOps
import Derived.Maps.OwnSet
import Derived.Maps.OwnIn
import Derived.Maps.Views
import Derived.Test.YtehpinnmalpgpaaK1
import Derived.Test.YtehpinnmalpgpaaK2
import Derived.Test.YtehpinnmalpgpaaK3
import Derived.Test.YtehpinnmalpgpaaK4
import Derived.Test.YtehpinnmalpgpaaK5
import Derived.Test.YtehpinnmalpgpaaK6
import Derived.Test.YtehpinnmalpgpaaK7
import Derived.Test.YtehpinnmalpgpaaK8
import Derived.Test.YtehpinnmalpgpaaK9
import Derived.Test.YtehpinnmalpgpaaK10
import Derived.Test.YtehpinnmalpgpaaK11
import Derived.Test.YtehpinnmalpgpaaK12
import Derived.Test.YtehpinnmalpgpaaK13
import Derived.Test.YtehpinnmalpgpaaK14
import Derived.Test.YtehpinnmalpgpaaK15
import Derived.Test.YtehpinnmalpgpaaK16
import Derived.Test.YtehpinnmalpgpaaK17
namespace Go.Proofs.Ytehpinnmalpgpaa
open Go.ChangeShapes Go.WideShapes Go.ChangeAt Go.RowKit Go.Deep Go.Shelf
set_option linter.unusedVariables false
set_option linter.unusedSimpArgs false
attribute [local go_sem] Oper.semAt_some
theorem own_grown {A B : World} {row : Option Nat} {base n : Nat} {e : TypeId} {size : Nat} {v : Value} {xs : List Value} (h : A.ownsRow base e size v n xs) (hg : A.grownBy B row) (hr : ∀ r, row = some r → ∃ o : Obj, A.heap[r]? = some o ∧ o.isCells = false) : B.ownsRow base e size v n xs := by
 obtain ⟨hl, h'⟩ := h
 refine ⟨hl, ?_⟩
 rcases h' with h1 | ⟨g, cap, cur, h1, hb, h2, h3⟩
 ·exact .inl h1
 ·exact .inr ⟨g, cap, cur, h1, hb, blk_grown (show Blk A g e cur from h2) hg hr, h3⟩
theorem kpc_append {n0 : Nat} {own : Nat → Prop} {A B : World} {base n : Nat} {v : Value} {xs : List Value} (h : A.ownsRow base 9 1 v n xs) (hb : n0 ≤ base) (hn : n0 ≤ A.heap.size) (hg : A.grownBy B v.ownBlock) : KpC n0 own A B := by
 refine ⟨hg.os, hg.tape, hg.output, hg.size, fun k hk _ => hg.block k (by omega) (fun e => ?_), fun k cs t fz hk ht hc => (hg.block k (Array.getElem?_eq_some_iff.1 hc).1 (fun e => ?_)).trans hc⟩
 ·have := own_ge h e.symm
  omega
 ·obtain ⟨hl, h'⟩ := h
  rcases h' with ⟨h1, _⟩ | ⟨g, cap, cur, h1, hb, h2, h3⟩
  ·rw [h1] at e; cases e
  ·rw [h1] at e
   injection e with e
   subst e
   rw [show A.heap[k]? = some _ from h2] at hc
   injection hc with hc
   injection hc with _ hc
   exact ht hc.symm
theorem cell_al {W : World} {a : Addr} {v : Value} (o : Obj) (h : W.cell? a = some v) : (W.alloc o).cell? a = some v := cell_kept h (World.grownBy_alloc W o none) (fun r e => by cases e)
def labsOf (l : List S) : List ByteArray := l.flatMap S.labels
def labZ (p : Pg) : Int → List ByteArray
 | .negSucc _ => []
 | .ofNat m => (p.procs[m]?).elim [] (fun q => labsOf (preSL q.body) ++ q.end_)
def jLabels (p : Pg) (proc : ByteArray) : List ByteArray := labZ p (jfP p proc)
theorem labZ_at {p : Pg} {m : Nat} (hm : m < p.procs.length) : labZ p (m : Int) = labsOf (preSL p.procs[m].body) ++ p.procs[m].end_ := by
 show (p.procs[m]?).elim _ _ = _
 rw [List.getElem?_eq_getElem hm]; rfl
theorem labZ_neg {p : Pg} : ∀ {z : Int}, z < 0 → labZ p z = []
 | .negSucc _, _ => rfl
 | .ofNat m, h => by exact absurd h (by simp)
theorem run_append_textsB {P : Program} {w : World} (base : Nat) (t ty e : TypeId) (i : TypeInfo) (z : Value) (ht : P.underlying t = some (.slice e)) (hi : P.info? e = some i) (hz : i.zero = some z)
  (hsize : i.size = 1) (hby : i.bytes = 16) (hzs : z.cells.size = 1)
  (v : Value) (n : Nat) (xs : List Value) (hown : w.ownsRow base e 1 v n xs)
  (w0 : World) (Q0 : Nat → Prop) (X : Option Addr) (l : List ByteArray) (m c : Nat) (hm : m = l.length) (hT : TextsI w0 Q0 l (.slice X m c)) (hI : In Q0 w0 w)
  (h63 : n + m ≤ 4000000000000) (hbase : base ≤ w.heap.size) :
  ∃ v' w', (Builtin.append_ #[t, t] ty #[v, .slice X m c]).run P w = .ok v' w' ∧ w'.ownsRow base e 1 v' (n + m) (xs ++ strs l) ∧ w.grownBy w' v.ownBlock := by
 cases X with
 | some ad =>
  obtain ⟨v', w', hr, h2, h3, _, _⟩ := run_append_own_at (P := P) w base t ty e i z 1 16 ht hi hz hsize hby hzs (by decide) v n xs hown ad m c (strs l) (by simp [strs, hm]) (texts_cells hT hI) (by simp [strs, Value.oneCell']) (by unfold maxLen; omega) (by omega) hbase
  exact ⟨v', w', hr, h2, h3⟩
 | none =>
  obtain ⟨rfl, rfl⟩ := texts_none hT
  obtain ⟨Xf, cf, rfl, hoc, hcx⟩ := own_form hown
  have hXn : Xf = none → n = 0 ∧ cf = 0 := fun e' => by
   subst e'
   rcases hown.2 with ⟨h1, h2⟩ | ⟨g, cap', cur, h1, _⟩
   ·injection h1 with _ h3 h4; exact ⟨h3, h4⟩
   ·cases h1
  refine ⟨_, _, run_append_nil (P := P) (w := w) t ty e i ht hi Xf n cf c hoc hXn, ?_, World.grownBy.refl _ _⟩
  rw [Nat.add_zero]
  simpa [strs] using hown
theorem wpListIn_append_texts {F : Fence} {nF : Nat} {P : Program} {w : World} {ops : Array Oper} {rest : List Oper} {o : Oper} {a : Act} {Q : Exit → Act → World → Prop} (hgd : o.guard = none) (s x : Operand) (t : TypeId)
  (ho : o.op = .call { callee := .builtin .append, args := #[s, x], argTypes := #[t, t] })
  (base : Nat) (e : TypeId) (i : TypeInfo) (z : Value) (ht : P.underlying t = some (.slice e)) (hi : P.info? e = some i) (hz : i.zero = some z)
  (hsize : i.size = 1) (hby : i.bytes = 16) (hzs : z.cells.size = 1)
  (v : Value) (n : Nat) (xs : List Value) (hs : a.eval s = v) (hown : w.ownsRow base e 1 v n xs)
  (w0 : World) (Q0 : Nat → Prop) (X : Option Addr) (l : List ByteArray) (m c : Nat) (hx : a.eval x = .slice X m c) (hm : m = l.length) (hT : TextsI w0 Q0 l (.slice X m c)) (hI : In Q0 w0 w)
  (h63 : n + m ≤ 4000000000000) (hbase : base ≤ w.heap.size)
  (h : ∀ v' w', w'.ownsRow base e 1 v' (n + m) (xs ++ strs l) → w.grownBy w' v.ownBlock → wpListIn F nF P ops Q rest (a.put o.dst v') w') :
  wpListIn F nF P ops Q (o :: rest) a w := by
 refine wpListIn_plain hgd fun K hK => ?_
 obtain ⟨v', w', hr, h2, h3⟩ := run_append_textsB (P := P) (w := w) base t o.type e i z ht hi hz hsize hby hzs v n xs hown w0 Q0 X l m c hm hT hI h63 hbase
 unfold Oper.wpIn
 refine ⟨by simp [Oper.about, ho, resolve, Target.leads, Sem.run_pure], ?_⟩
 rw [Oper.semAt_plain F _ _ (by rw [ho]; intro c hc'; cases hc')]
 simp [execOp, ho, resolve, invoke, builtin, hs, hx, hr, Result.andThen]
 exact hK _ _ (h v' w' h2 h3)
theorem step_append_textsB {P : Program} {w : World} {ops : Array Oper} {o : Oper} {a : Act} {K : Act → World → Prop} {Q : Exit → Act → World → Prop} {E : Prop} (hgd : o.guard = none) (s x : Operand) (t : TypeId)
  (ho : o.op = .call { callee := .builtin .append, args := #[s, x], argTypes := #[t, t] })
  (base : Nat) (e : TypeId) (i : TypeInfo) (z : Value) (ht : P.underlying t = some (.slice e)) (hi : P.info? e = some i) (hz : i.zero = some z)
  (hsize : i.size = 1) (hby : i.bytes = 16) (hzs : z.cells.size = 1)
  (v : Value) (n : Nat) (xs : List Value) (hs : a.eval s = v) (hown : w.ownsRow base e 1 v n xs)
  (w0 : World) (Q0 : Nat → Prop) (X : Option Addr) (l : List ByteArray) (m c : Nat) (hx : a.eval x = .slice X m c) (hm : m = l.length) (hT : TextsI w0 Q0 l (.slice X m c)) (hI : In Q0 w0 w)
  (h63 : n + m ≤ 4000000000000) (hbase : base ≤ w.heap.size)
  (h : ∀ v' w', w'.ownsRow base e 1 v' (n + m) (xs ++ strs l) → w.grownBy w' v.ownBlock → K (a.put o.dst v') w') :
  if Region.wanted o (yielded ops a.tmps) = true then Oper.wp P o a w K Q else E := by
 have hw : Region.wanted o (yielded ops a.tmps) = true := by simp [Region.wanted, hgd]
 rw [if_pos hw]
 obtain ⟨v', w', hr, h2, h3⟩ := run_append_textsB (P := P) (w := w) base t o.type e i z ht hi hz hsize hby hzs v n xs hown w0 Q0 X l m c hm hT hI h63 hbase
 unfold Oper.wp execOp
 simp only [ho, resolve, invoke, builtin, Sem.run_bind, Sem.run_pure, Result.andThen_ok, List.map_toArray, List.map_cons, List.map_nil, hs, hx, hr]
 exact h v' w' h2 h3
theorem kf_append {B0 : Nat} {A B : World} {base n : Nat} {e : TypeId} {v : Value} {xs : List Value} (h : A.ownsRow base e 1 v n xs) (hg : A.grownBy B v.ownBlock) : KeepsFrom B0 A B := by
 refine ⟨hg.size, fun k o _ hk ho => (hg.block k (Array.getElem?_eq_some_iff.1 hk).1 (fun e => ?_)).trans hk⟩
 obtain ⟨hl, h'⟩ := h
 rcases h' with ⟨h1, _⟩ | ⟨g, cap, cur, h1, hb, h2, h3⟩
 ·rw [h1] at e; cases e
 ·rw [h1] at e
  injection e with e
  subst e
  rw [show A.heap[k]? = some _ from h2] at hk
  injection hk with hk
  subst hk
  cases ho
mutual
theorem preS_lw : ∀ s : S, (preS s).length ≤ wS s
 | .mk id kind labels nm proc x has args th el => by
  have h1 := preSL_lw th
  have h2 := preSL_lw el
  rw [preS, wS, List.length_cons, List.length_append]; omega
theorem preSL_lw : ∀ l : List S, (preSL l).length ≤ wSL l
 | [] => by simp [preSL]
 | s :: l => by
  have h1 := preS_lw s
  have h2 := preSL_lw l
  rw [preSL, wSL, List.length_append]; omega
end
def labsY {w : World} {Q : Nat → Prop} (l : List (YE w Q)) : List ByteArray := labsOf (l.map (fun x => (valY x).1))
theorem labs_len {w : World} {Q : Nat → Prop} (x : YE w Q) : (valY x).1.labels.length ≤ 1000000 := by
 have h := x.2.2.2
 generalize hy : x.1.1.1 = s at h
 rw [show (valY x).1 = s from hy]
 cases s with
 | mk id kind labels nm proc x has args th el =>
  rw [wS] at h
  have h2 := wT_len labels
  show labels.length ≤ _
  omega
theorem labsY_len {w : World} {Q : Nat → Prop} : ∀ l : List (YE w Q), (labsY l).length ≤ l.length * 1000000
 | [] => by simp [labsY, labsOf]
 | x :: l => by
  have h1 := labsY_len l
  have h2 := labs_len x
  simp only [labsY, labsOf, List.map_cons, List.flatMap_cons, List.length_append, List.length_cons] at h1 ⊢
  omega
theorem labs_sz {w : World} {Q : Nat → Prop} (x : YE w Q) : ∀ s ∈ (valY x).1.labels, s.size ≤ 1000000 := by
 have h := x.2.2.2
 generalize hy : x.1.1.1 = t at h
 rw [show (valY x).1 = t from hy]
 intro s hs
 cases t with
 | mk id kind labels nm proc x has args th el =>
  rw [wS] at h
  have h2 := wT_mem (show s ∈ labels from hs)
  omega
theorem labsY_size {w : World} {Q : Nat → Prop} (l : List (YE w Q)) : ∀ s ∈ labsY l, s.size ≤ 1000000 := by
 intro s hs
 simp only [labsY, labsOf, List.mem_flatMap, List.mem_map] at hs
 obtain ⟨t, ⟨x, _, rfl⟩, hs⟩ := hs
 exact labs_sz x s hs
theorem labsY_app {w : World} {Q : Nat → Prop} (l : List (YE w Q)) (x : YE w Q) : labsY (l ++ [x]) = labsY l ++ (valY x).1.labels := by
 simp [labsY, labsOf]
theorem labs_step {w V : World} {Q : Nat → Prop} {base : Nat} {e : TypeId} {v : Value} (pre : List (YE w Q)) (x : YE w Q) {labels : List ByteArray} (hx : (valY x).1.labels = labels) (h : V.ownsRow base e 1 v ((labsY pre).length + labels.length) (strs (labsY pre) ++ strs labels)) : V.ownsRow base e 1 v (labsY (pre ++ [x])).length (strs (labsY (pre ++ [x]))) := by
 rw [labsY_app, hx, List.length_append, show strs (labsY pre ++ labels) = strs (labsY pre) ++ strs labels by simp [strs]]
 exact h
set_option maxRecDepth 100000 in
set_option maxHeartbeats 8000000 in
theorem jLabels_any {w : World} {Q : Nat → Prop} {p : Pg} {c0 c1 : Value} (h : ProgI w Q p [c0, c1]) (hsm : SmG p) (proc : ByteArray) (W : World) (hI : In Q w W) :
 Calls Try.prog 28 #[.agg #[c0, c1], .string proc] W (NewRow (jLabels p proc) W) := by
 have HFd := Lib.hid (fun V hV => jfind_any h hsm proc V hV)
 obtain ⟨Ag, cg, Ap, cp, rfl, rfl, _, _, _, _, _, hpr⟩ := prog_open h
 have HP := Lib.hid hpr
 have HI := Lib.hid hI
 clear h hI hpr
 have HZ := Lib.hid (jfP_case p proc)
 obtain ⟨res, hres⟩ : ∃ res, res = jLabels p proc := ⟨_, rfl⟩
 rw [← hres]
 unfold jLabels at hres
 have HRes := Lib.hid hres
 clear hres
 generalize jfP p proc = z at HFd HZ HRes
 refine (callsIn_wide (n := 6)).1 ?_
 have hro : Fence.wide.round = none := rfl
 refine callsIn_of_wp_marks Try.func28 rfl trivial ?_ hro
 simp only [Try.ntmps28, List.size_toArray, List.length_cons, List.length_nil, Nat.reduceAdd, Nat.reduceSub, Array.replicate_succ, Array.replicate_zero, List.push_toArray, List.append_toArray, List.nil_append, List.cons_append]
 obtain ⟨V0, hV0⟩ : ∃ V0, V0 = (W.alloc (.cells #[.slice Ag p.globals.length cg, .slice Ap p.procs.length cp] 25)) := ⟨_, rfl⟩
 have HV0 := Lib.hid hV0
 have hB0 : Below W.heap.size W V0 := by rw [hV0]; exact below_box _
 have hz0 : V0.heap.size = W.heap.size + 1 := by rw [hV0]; simp
 have HB3 : Hid (Blk V0 W.heap.size 25 #[.slice Ag p.globals.length cg, .slice Ap p.procs.length cp]) := Lib.hid (by rw [hV0]; exact Blk.new _ _ _)
 have HI0 := Lib.hid (HI.out.on hB0)
 have HF0 := Lib.hid (HFd.out _ HI0.out)
 rw [hV0] at HF0
 have HBW := Lib.hid hB0
 have HZ0 := Lib.hid hz0
 clear hV0 hB0 hz0
 rcases HZ.out with hz | ⟨m, rfl, hm⟩
 ·gi_wp2_with (refine ⟨trivial, ?_⟩; gi_at_call 72; refine (callsIn_wide.2 HF0.out).mono ?_; clear HF0; rintro e w1 ⟨rfl, hb1⟩; rw [← HV0.out] at hb1; have HB1 := Lib.hid hb1; clear hb1)
  have HRv : Hid (res = []) := Lib.hid (by rw [HRes.out, labZ_neg hz])
  exact ⟨_, results_tmp rfl _ _ _, _, rfl, by rw [HRv.out]; exact World.ownsRow_nil _ _ _ _, below_step HBW.out HB1.out⟩
 ·have hz : ¬ ((m : Int) < 0) := by omega
  gi_wp2_with (first
   | (refine ⟨trivial, ?_⟩; gi_at_call 72; refine (callsIn_wide.2 HF0.out).mono ?_; clear HF0; rintro e w1 ⟨rfl, hb1⟩; rw [← HV0.out] at hb1; have HB1 := Lib.hid hb1; have HI1 := Lib.hid (HI0.out.on hb1); have d3 := HB3.out.below hb1 HB3.out.lt; have q1 : w1.cell? ⟨W.heap.size, 1, none⟩ = some (.slice Ap p.procs.length cp) := (by rw [d3.cell]; rfl); obtain ⟨a, Bp, kp, Bv, kv, Bb, kb, Be, ke, rfl, hqa, ⟨p0, p1, p2, p3, p4, _⟩, hnm, hpp, hvv, hbody, hee⟩ := proc_at HP.out HI1.out hm; have q1a : (w1.alloc (.cells #[.slice none 0 0] 22)).cell? ⟨W.heap.size, 1, none⟩ = some (.slice (some a) p.procs.length cp) := cell_al _ q1; have p3a : (w1.alloc (.cells #[.slice none 0 0] 22)).cell? ⟨(a.add (m * 5)).block, (a.add (m * 5)).off + 3, none⟩ = some (.slice Bb p.procs[m].body.length kb) := cell_al _ p3; clear p0 p1 p2 p3 p4 q1 hnm hpp hvv hb1 d3)
   | (refine ⟨trivial, ?_⟩; gi_at_call 73; refine (callsIn_wide.2 (statements_any _ _ hbody)).mono ?_; rintro e w2 ⟨rfl, hw2⟩; have HW2 := Lib.hid hw2; clear hw2))
  obtain ⟨i0, hi0, hz0, hz1, hz2⟩ := info_parts string_info
  have HBo := Lib.hid hbody
  have hnz : W.heap.size + 1 ≤ w1.heap.size := by rw [← HZ0.out]; exact HB1.out.size
  have hb12 : Below w1.heap.size w1 w2 := by rw [HW2.out]; exact below_stepA (below_box _) _
  have hI2 : In Q w w2 := HI1.out.on hb12
  have hQ2 : ∀ j, Q j → j < w2.heap.size ∧ ¬ (j = w1.heap.size) := fun j hj => ⟨hI2.1 j hj, by have := HI1.out.1 j hj; omega⟩
  have hs2 : w2.heap.size = w1.heap.size + 1 + 1 := by rw [HW2.out]; simp
  have hc2 : w2.cell? ⟨w1.heap.size + 1, 0, none⟩ = some (.slice Bb p.procs[m].body.length kb) := by
   have h := Blk.new (w1.alloc (.cells #[.slice none 0 0] 22)) 43 #[.slice Bb p.procs[m].body.length kb]
   rw [World.size_alloc] at h
   rw [HW2.out, h.cell]; rfl
  have h6 : Blk w2 w1.heap.size 22 #[.slice none 0 0] := by rw [HW2.out]; exact (Blk.new w1 _ _).alloc _
  have h3 := HB3.out.below (below_step HB1.out hb12) HB3.out.lt
  have H3 := Lib.hid h3
  have HB02 := Lib.hid (below_step (below_step HBW.out HB1.out) hb12)
  have HI2 := Lib.hid hI2
  have HQ2 := Lib.hid hQ2
  have Hhr : Hid (∀ (A B : World) (row : Option Nat), (∀ r, row = some r → w2.heap.size ≤ r ∧ ∃ o : Obj, A.heap[r]? = some o ∧ o.isCells = false) → (∀ r, row = some r → ∃ o : Obj, A.heap[r]? = some o ∧ o.isCells = false)) := Lib.hid (fun A B row h r e => (h r e).2)
  refine wpIn_rangeFunc_ownH hro (by omega) (gf := 115) (lb := #[.pointer (some ⟨w1.heap.size + 1, 0, none⟩)]) rfl trivial (enters_of Try.func115 (by kernel_rfl) rfl)
   (statements_stops rfl trivial trivial hro (6 - 1) (w1.heap.size + 1) w2.heap.size (fun j => j = w1.heap.size) hQ2 ⟨by omega, by omega⟩ hbody (hsm.proc _ (List.getElem_mem hm)).1 w2 hI2 (Nat.le_refl _) hc2) (fun h k => KpC.trans h k) (KpC.put (Nat.le_refl _)) (Below.refl _ _) (fun _ => rfl)
   (fun pre V => KpC w2.heap.size (fun j => j = w1.heap.size) w2 V ∧ ∃ v, Blk V w1.heap.size 22 #[v] ∧ V.ownsRow w2.heap.size 9 1 v (labsY pre).length (strs (labsY pre)))
   (fun c pre V => False)
   (fun s A B row hs hg hr => by
    obtain ⟨h1, v, h2, h3⟩ := hs
    exact ⟨h1.trans (kpc_grown h1.size hg hr), v, blk_grown h2 hg (Hhr.out A B row hr), own_grown h3 hg (Hhr.out A B row hr)⟩)
   (fun c s A B row hs hg hr => hs.elim)
   ⟨KpC.refl _, _, h6, World.ownsRow_nil _ _ _ _⟩
   (fun x a' V => ∃ Bx, w2.heap.size ≤ Bx ∧ Blk V Bx 60 x.1.2.toArray ∧ a' = { tmps := #[.agg #[.slice Ag p.globals.length cg, .slice (some a) p.procs.length cp], .string proc, .pointer (some ⟨W.heap.size, 0, none⟩), undef, .slice none 0 0, .int .i64 m, .pointer (some ⟨w1.heap.size, 0, none⟩), .pointer (some ⟨Bx, 0, none⟩), undef, undef, .agg #[.slice Ag p.globals.length cg, .slice (some a) p.procs.length cp], .string proc, .int .i64 m, .int .i64 m, .bool (decide ((m : Int) < 0)), .pointer (some ⟨W.heap.size, 1, none⟩), .slice (some a) p.procs.length cp, .int .i64 m, .pointer (some (a.add (m * 5))), .pointer (some ⟨(a.add (m * 5)).block, (a.add (m * 5)).off + 3, none⟩), .slice Bb p.procs[m].body.length kb, .func (.func 115) #[] #[.pointer (some ⟨w1.heap.size + 1, 0, none⟩)], .agg x.1.2.toArray, .int .i64 x.1.1.2, undef, undef, undef, undef, undef, undef, undef, undef, undef, undef, undef, undef, undef, undef, undef, undef, undef, undef, undef, undef, undef, undef, undef, undef, undef, undef], defers := [] })
   (fun x a' s A B row hs hg hr => by
    obtain ⟨Bx, h1, h2, h3⟩ := hs
    exact ⟨Bx, h1, blk_grown h2 hg (Hhr.out A B row hr), h3⟩) ?assign ?body ?done ?stop
  case assign =>
   rintro l pre ⟨⟨⟨s, lp⟩, cs⟩, hst, hlp⟩ W3 K hi hK
   obtain ⟨sid, kind, labels, nm, proc, x, has, args, th, el, L, lc, y0, y1, y2, X, xn, xc, R, rc, T, tc, U, uc, hmk, hcs, _⟩ := stmt_open hst
   have hcs' : cs = [.int .i64 sid, .int .i64 kind, .slice L labels.length lc, .string nm, .string proc, .int .i64 y0, .int .i64 y1, .string y2, .slice X xn xc, .bool has, .slice R args.length rc, .slice T th.length tc, .slice U el.length uc] := hcs
   subst hcs'
   obtain ⟨hi1, v, hi2, hi3⟩ := hi
   have HI3 := Lib.hid hi1
   have HI4 := Lib.hid hi2
   have HI5 := Lib.hid hi3
   clear hi1 hi2 hi3 h3 h6 hmk hcs
   dsimp only [encY]
   gi_wp2
   exact hK _ _ (kf_below (below_box _)) (KpC.of_below HI3.out.size (below_box _)) ⟨HI3.out.trans (KpC.of_below HI3.out.size (below_box _)), v, HI4.out.alloc _, HI5.out.alloc _⟩ ⟨W3.heap.size, HI3.out.size, Blk.new _ _ _, rfl⟩
  case body =>
   rintro l pre ⟨⟨⟨s, lp⟩, cs⟩, hst, hlp⟩ a' W3 hl hrec hi ⟨Bx, hBx, hbx, rfl⟩ hlt
   obtain ⟨sid, kind, labels, nm, proc, x, has, args, th, el, L, lc, y0, y1, y2, X, xn, xc, R, rc, T, tc, U, uc, hmk, hcs, _, _, _, _, hlab, _⟩ := stmt_open hst
   have hcs' : cs = [.int .i64 sid, .int .i64 kind, .slice L labels.length lc, .string nm, .string proc, .int .i64 y0, .int .i64 y1, .string y2, .slice X xn xc, .bool has, .slice R args.length rc, .slice T th.length tc, .slice U el.length uc] := hcs
   subst hcs'
   obtain ⟨hi1, v, hi2, hi3⟩ := hi
   have HI3 := Lib.hid hi1
   have HI4 := Lib.hid hi2
   have HI5 := Lib.hid hi3
   have HIn := Lib.hid (hi1.inn HQ2.out HI2.out)
   have HLb := Lib.hid hlab
   have bx : Blk W3 Bx 60 #[.int .i64 sid, .int .i64 kind, .slice L labels.length lc, .string nm, .string proc, .int .i64 y0, .int .i64 y1, .string y2, .slice X xn xc, .bool has, .slice R args.length rc, .slice T th.length tc, .slice U el.length uc] := hbx
   have cx : W3.cell? ⟨Bx, 2, none⟩ = some (.slice L labels.length lc) := by rw [bx.cell]; rfl
   have c6 : W3.cell? ⟨w1.heap.size, 0, none⟩ = some v := by rw [hi2.cell]; rfl
   have HNl : Hid ((labsY pre).length + labels.length ≤ 4000000000000) := Lib.hid (by
    have h1 := labsY_len pre
    have h2 := Nat.le_trans (preSL_lw p.procs[m].body) (hsm.proc _ (List.getElem_mem hm)).1
    have h4 := labs_len (⟨((s, lp), _), hst, hlp⟩ : YE w Q)
    have e : (valY (⟨((s, lp), _), hst, hlp⟩ : YE w Q)).1.labels = labels := by show s.labels = labels; rw [show s = _ from hmk]; rfl
    rw [e] at h4
    omega)
   have HLs : Hid (s.labels = labels) := Lib.hid (by rw [show s = _ from hmk]; rfl)
   dsimp only at hmk
   clear hi1 hi2 hi3 h3 h6 hmk hcs hlab hbx bx
   as_aux_lemma =>
    gi_wp2_with (gi_at_builtin; refine wpListIn_append_texts rfl (.tmp 24) (.tmp 26) 22 rfl w2.heap.size 9 i0 _ Try.underlying22 hi0 hz0 hz1 hz2 rfl _ (labsY pre).length (strs (labsY pre)) rfl HI5.out w Q L labels labels.length lc rfl rfl HLb.out HIn.out HNl.out HI3.out.size ?_; intro v' w' hown' hg'; obtain ⟨X6, k6, rfl, _, _⟩ := own_shape hown'; have b6 : Blk w' w1.heap.size 22 #[v] := (hg'.block _ HI4.out.lt (fun e => own_blk_ne HI5.out HI4.out (by decide) e.symm)).trans HI4.out; have c6' : w'.cell? ⟨w1.heap.size, 0, none⟩ = some v := (by rw [b6.cell]; rfl); have f6' := b6.frozen 0; have l6' := b6.lt; have B6 := Lib.hid b6; have HG := Lib.hid hg'; have HO := Lib.hid hown'; clear b6 hg' hown')
    have hl6 : w1.heap.size < w2.heap.size := by omega
    refine ⟨(kf_append HI5.out HG.out).trans ((KeepsOthers.setCell _ _ _).from _), (kpc_append HI5.out (Nat.le_refl _) HI3.out.size HG.out).trans (KpC.set_ (own := (fun j => j = w1.heap.size)) (a := ⟨w1.heap.size, 0, none⟩) rfl hl6 _), HI3.out.trans ((kpc_append HI5.out (Nat.le_refl _) HI3.out.size HG.out).trans (KpC.set_ (own := (fun j => j = w1.heap.size)) (a := ⟨w1.heap.size, 0, none⟩) rfl hl6 _)), .slice X6 ((labsY pre).length + labels.length) k6, ?_, ?_⟩
    ·have h := B6.out.set_ 0 (.slice X6 ((labsY pre).length + labels.length) k6)
     simp only [List.setIfInBounds_toArray, List.set_cons_zero] at h
     exact h
    ·exact labs_step _ _ HLs.out (ownsRow_setCell_below HO.out (by show w1.heap.size < _; omega) _)
  case done =>
   rintro D xs W3 hD hS ⟨hK, v, k6, ho⟩ hKd
   obtain ⟨X3, k3, rfl, _, _⟩ := own_shape ho
   have HKd := Lib.hid hKd
   have b3 : Blk W3 W.heap.size 25 #[.slice Ag p.globals.length cg, .slice (some a) p.procs.length cp] := (hK.low _ (by omega) (by omega)).trans H3.out
   have HI3 := Lib.hid (hK.inn HQ2.out HI2.out)
   obtain ⟨a', Cp, lp, Cv, lv, Cb, lb, Ce, le, ha', hqa', ⟨p0', p1', p2', p3', p4', _⟩, hnm', hpp', hvv', hbody', hee'⟩ := proc_at HP.out HI3.out hm
   injection ha' with ha'
   subst ha'
   have HE3 := Lib.hid hee'
   have HQa := Lib.hid hqa'
   have q1 : W3.cell? ⟨W.heap.size, 1, none⟩ = some (.slice (some a) p.procs.length cp) := by rw [b3.cell]; rfl
   have c6 : W3.cell? ⟨w1.heap.size, 0, none⟩ = some (.slice X3 (labsY xs).length k3) := by rw [k6.cell]; rfl
   have f6 := k6.frozen 0
   have K6 := Lib.hid k6
   have HK := Lib.hid hK
   have HO := Lib.hid ho
   have hbl6 := k6.lt
   clear h3 h6 p0' p1' p2' p3' hnm' hpp' hvv' hbody' hee' hK k6 hKd ho
   gi_wp2
   have HNl : Hid ((labsY xs).length + p.procs[m].end_.length ≤ 4000000000000) := Lib.hid (by
    have h1 := labsY_len xs
    have h2 := Nat.le_trans (preSL_lw p.procs[m].body) (hsm.proc _ (List.getElem_mem hm)).1
    have h4 := Nat.le_trans (wT_len p.procs[m].end_) (hsm.proc _ (List.getElem_mem hm)).2.2.1
    have h5 := congrArg List.length hS
    have h7 := congrArg List.length (lpSL_fst p.procs[m].body 0)
    rw [List.length_map] at h5 h7
    omega)
   refine wpIn_wide.2 ?_
   refine wp_region_noPanic ?_
   refine wp_region_last (fun w' : World => w'.cell? ⟨w1.heap.size, 0, none⟩ = some (.slice X3 (labsY xs).length k3) ∧ w'.cell? ⟨W.heap.size, 1, none⟩ = some (.slice (some a) p.procs.length cp) ∧ w'.cell? ⟨(a.add (m * 5)).block, (a.add (m * 5)).off + 4, none⟩ = some (.slice Ce p.procs[m].end_.length le)) 8 (by kernel_rfl) ?_
   have hS0 : (fun w' : World => w'.cell? ⟨w1.heap.size, 0, none⟩ = some (.slice X3 (labsY xs).length k3) ∧ w'.cell? ⟨W.heap.size, 1, none⟩ = some (.slice (some a) p.procs.length cp) ∧ w'.cell? ⟨(a.add (m * 5)).block, (a.add (m * 5)).off + 4, none⟩ = some (.slice Ce p.procs[m].end_.length le)) W3.drew := ⟨c6, q1, p4'⟩
   change wpAnyL _ _ _ _ _ _ 9 _ _ W3.drew
   refine wpAnyL_take (i := 0) (v := ?_) rfl (by kernel_rfl) (by decide) (by kernel_rfl) (by kernel_rfl) (by kernel_rfl) (fun _ _ _ h => h) (Or.inl ⟨by rfl, ?_⟩) (by assumption) ?_
   rotate_left
   · intro w hSw
     (try dsimp only at hSw)
     go_split_ands
     go_simp
     (try (with_reducible rfl))
   (try simp only [Act.put, List.setIfInBounds_toArray, List.set_cons_zero, List.set_cons_succ])
   refine wpAnyL_take (i := 1) (v := ?_) rfl (by kernel_rfl) (by decide) (by kernel_rfl) (by kernel_rfl) (by kernel_rfl) (fun _ _ _ h => h) (Or.inl ⟨by rfl, ?_⟩) (by assumption) ?_
   rotate_left
   · intro w hSw
     (try dsimp only at hSw)
     go_split_ands
     go_simp
     (try (with_reducible rfl))
   (try simp only [Act.put, List.setIfInBounds_toArray, List.set_cons_zero, List.set_cons_succ])
   refine wpAnyL_take (i := 2) (v := ?_) rfl (by kernel_rfl) (by decide) (by kernel_rfl) (by kernel_rfl) (by kernel_rfl) (fun _ _ _ h => h) (Or.inl ⟨by rfl, ?_⟩) (by assumption) ?_
   rotate_left
   · intro w hSw
     (try dsimp only at hSw)
     go_split_ands
     go_simp
     (try (with_reducible rfl))
   (try simp only [Act.put, List.setIfInBounds_toArray, List.set_cons_zero, List.set_cons_succ])
   refine wpAnyL_take (i := 3) (v := ?_) rfl (by kernel_rfl) (by decide) (by kernel_rfl) (by kernel_rfl) (by kernel_rfl) (fun _ _ _ h => h) (Or.inl ⟨by rfl, ?_⟩) (by assumption) ?_
   rotate_left
   · intro w hSw
     (try dsimp only at hSw)
     go_split_ands
     go_simp
     (try (with_reducible rfl))
   (try simp only [Act.put, List.setIfInBounds_toArray, List.set_cons_zero, List.set_cons_succ])
   refine wpAnyL_take (i := 4) (v := ?_) rfl (by kernel_rfl) (by decide) (by kernel_rfl) (by kernel_rfl) (by kernel_rfl) (fun _ _ _ h => h) (Or.inl ⟨by rfl, ?_⟩) (by assumption) ?_
   rotate_left
   · intro w hSw
     (try dsimp only at hSw)
     go_split_ands
     go_simp
     (try (with_reducible rfl))
   (try simp only [Act.put, List.setIfInBounds_toArray, List.set_cons_zero, List.set_cons_succ])
   refine wpAnyL_take (i := 5) (v := ?_) rfl (by kernel_rfl) (by decide) (by kernel_rfl) (by kernel_rfl) (by kernel_rfl) (fun _ _ _ h => h) (Or.inl ⟨by rfl, ?_⟩) (by assumption) ?_
   rotate_left
   · intro w hSw
     (try dsimp only at hSw)
     go_split_ands
     go_simp
     (try (with_reducible rfl))
   (try simp only [Act.put, List.setIfInBounds_toArray, List.set_cons_zero, List.set_cons_succ])
   refine wpAnyL_take (i := 6) (v := ?_) rfl (by kernel_rfl) (by decide) (by kernel_rfl) (by kernel_rfl) (by kernel_rfl) (fun _ _ _ h => h) (Or.inl ⟨by rfl, ?_⟩) (by assumption) ?_
   rotate_left
   · intro w hSw
     (try dsimp only at hSw)
     go_split_ands
     go_simp
     (try (with_reducible rfl))
   (try simp only [Act.put, List.setIfInBounds_toArray, List.set_cons_zero, List.set_cons_succ])
   refine wpAnyL_step (i := 7) (by kernel_rfl) rfl (fun K hK => ?_)
   refine step_append_textsB (by rfl) (.tmp 28) (.tmp 34) 22 (by rfl) w2.heap.size 9 i0 _ Try.underlying22 hi0 hz0 hz1 hz2 rfl _ (labsY xs).length (strs (labsY xs)) (by rfl) HO.out.drew w Q Ce p.procs[m].end_ p.procs[m].end_.length le (by rfl) rfl HE3.out HI3.out HNl.out HK.out.size ?_
   intro v4 w4 hown4 hg4
   obtain ⟨X4, k4, rfl, _, _⟩ := own_shape hown4
   have B6 : Hid (Blk w4 w1.heap.size 22 #[.slice X3 (labsY xs).length k3]) := Lib.hid ((hg4.block _ K6.out.lt (fun e => own_blk_ne HO.out K6.out (by decide) e.symm)).trans K6.out)
   have HO4 := Lib.hid hown4
   have HG4 := Lib.hid hg4
   clear hown4 hg4
   have c64 : w4.cell? ⟨w1.heap.size, 0, none⟩ = some (.slice X3 (labsY xs).length k3) := by rw [B6.out.cell]; rfl
   have f64 := B6.out.frozen 0
   have l64 := B6.out.lt
   have hb34 : Below w2.heap.size W3.drew w4 := (Below.refl _ _).grown HG4.out HK.out.size (fun j hj => own_ge HO.out hj)
   have HB34 := Lib.hid hb34
   have d1 : w4.cell? ⟨W.heap.size, 1, none⟩ = some (.slice (some a) p.procs.length cp) := (hb34.cell (p := ⟨W.heap.size, 1, none⟩) (by show W.heap.size < _; omega)).trans q1
   have d2 : w4.cell? ⟨(a.add (m * 5)).block, (a.add (m * 5)).off + 4, none⟩ = some (.slice Ce p.procs[m].end_.length le) := (hb34.cell (p := ⟨(a.add (m * 5)).block, (a.add (m * 5)).off + 4, none⟩) (by show (a.add (m * 5)).block < _; rw [block_add]; exact (HQ2.out _ HQa.out).1)).trans p4'
   clear hb34
   refine hK.out _ _ (fun _ => ⟨c64, d1, d2⟩) ?_
   clear hK K
   (try simp only [Act.put, List.setIfInBounds_toArray, List.set_cons_zero, List.set_cons_succ])
   refine wpAnyL_step (i := 8) (by kernel_rfl) rfl (fun K hK => ?_)
   go_simp
   refine hK.out _ _ (fun h => absurd rfl h) ?_
   clear hK K
   (try simp only [Act.put, List.setIfInBounds_toArray, List.set_cons_zero, List.set_cons_succ])
   refine wpAnyL_done (by kernel_rfl) ?_ 0
   refine NoPanic.normal ?_
   obtain ⟨lab, hlab⟩ : ∃ lab, lab = labsY xs ++ p.procs[m].end_ := ⟨_, rfl⟩
   have hln : (labsY xs).length + p.procs[m].end_.length = lab.length := by rw [hlab, List.length_append]
   have HRv : Hid (res = lab) := Lib.hid (by
    rw [HRes.out, labZ_at hm, hlab]
    show _ = labsOf (xs.map (fun x => (valY x).1)) ++ _
    have h : xs.map (fun x => (valY x).1) = preSL p.procs[m].body := by
     rw [← lpSL_fst p.procs[m].body 0, ← show xs.map valY = lpSL p.procs[m].body 0 from hS, List.map_map]; rfl
    rw [h])
   rw [hln]
   rw [hln, show strs (labsY xs) ++ strs p.procs[m].end_ = strs lab by rw [hlab]; simp [strs]] at HO4
   have HBf : Hid (Blk (w4.setCell ⟨w1.heap.size, 0, none⟩ (.slice X4 lab.length k4)) w1.heap.size 22 #[.slice X4 lab.length k4]) := Lib.hid (by
    have h := B6.out.set_ 0 (.slice X4 lab.length k4)
    simp only [List.setIfInBounds_toArray, List.set_cons_zero] at h
    exact h)
   have HOf := Lib.hid (ownsRow_setCell_below HO4.out (a := ⟨w1.heap.size, 0, none⟩) (by show w1.heap.size < _; omega) (.slice X4 lab.length k4))
   have HDf : Hid ((w4.setCell ⟨w1.heap.size, 0, none⟩ (.slice X4 lab.length k4)).heap[D]? = some (.deferred (some []))) := Lib.hid (by
    rw [Below.heap_setCell _ _ _ _ (by show (D : Nat) ≠ w1.heap.size; omega)]
    exact (kf_append (B0 := 0) HO.out.drew HG4.out).same D _ (Nat.zero_le _) HKd.out rfl)
   have HBn : Hid (Below W.heap.size W (w4.setCell ⟨w1.heap.size, 0, none⟩ (.slice X4 lab.length k4))) := Lib.hid (((HB02.out.trans (below_kpc HK.out (by omega) (fun j hj => by omega))).trans ((show Below w2.heap.size W3 w4 from ⟨HB34.out.os, HB34.out.tape, HB34.out.output, HB34.out.size, HB34.out.block⟩).mono (by omega))).setCell (p := ⟨w1.heap.size, 0, none⟩) (by show W.heap.size ≤ w1.heap.size; omega) _)
   have HDz : Hid (w2.heap.size ≤ D) := Lib.hid hD
   have hsw : w2.heap.size ≤ (w4.setCell ⟨w1.heap.size, 0, none⟩ (.slice X4 lab.length k4)).heap.size := by rw [show (w4.setCell ⟨w1.heap.size, 0, none⟩ (.slice X4 lab.length k4)).heap.size = w4.heap.size by simp [World.setCell]]; exact Nat.le_trans HK.out.size HB34.out.size
   have HSz := Lib.hid hsw
   have HLl : Hid (∀ s ∈ lab, s.size ≤ 281474976710656) := Lib.hid (by
    intro s hs
    rw [hlab] at hs
    rcases List.mem_append.1 hs with hs | hs
    ·exact Nat.le_trans (labsY_size xs s hs) (by decide)
    ·have h1 := wT_mem hs
     have h2 := (hsm.proc _ (List.getElem_mem hm)).2.2.1
     omega)
   have HWD : Hid (W.heap.size ≤ D ∧ W.heap.size ≤ w2.heap.size) := Lib.hid ⟨by omega, by omega⟩
   have HNn : Hid (lab.length ≤ 4000000000000) := Lib.hid (by rw [← hln]; exact HNl.out)
   generalize w4.setCell ⟨w1.heap.size, 0, none⟩ (.slice X4 lab.length k4) = VF at HBf HOf HDf HBn HSz ⊢
   have q6 : VF.cell? ⟨w1.heap.size, 0, none⟩ = some (.slice X4 lab.length k4) := by rw [HBf.out.cell]; rfl
   have HHs : Hid (w1.heap.size + 1 + 1 = w2.heap.size) := Lib.hid hs2.symm
   clear c64 f64 l64 d1 d2 hS0 HB34 HG4 HO4 B6 hln hlab hS hsw q1 c6 f6 p4' hD hbl6 HO K6 HK
   as_aux_lemma =>
    gi_wp2
    gi_loopw [38] (fun iv wr => ∃ k : Nat, k ≤ lab.length ∧ iv = .int .i64 k ∧ Hid (Below VF.heap.size VF wr) ∧ Hid (wr.ownsRow w2.heap.size 9 1 (.slice X4 lab.length k4) lab.length (strs lab))) (fun iv _ => lab.length - (intOf iv).toNat)
    case atStart => exact ⟨0, Nat.zero_le _, rfl, Lib.hid (Below.refl _ _), HOf⟩
    case round =>
     obtain ⟨k, hk, rfl, HBr, HOr⟩ := hrel
     have q6r : wr.cell? ⟨w1.heap.size, 0, none⟩ = some (.slice X4 lab.length k4) := (HBr.out.cell (p := ⟨w1.heap.size, 0, none⟩) HBf.out.lt).trans q6
     have hD5 : wr.heap[D]? = some (.deferred (some [])) := (HBr.out.block D (Array.getElem?_eq_some_iff.1 HDf.out).1).trans HDf.out
     have HD5 := Lib.hid hD5
     clear q6 HOf hD5
     have hnn := HNn.out
     by_cases hlt : k < lab.length
     ·obtain ⟨g, cap, he, hc, hf, hb⟩ := own_at HOr.out hlt
      injection he with h1 _ h3
      subst h1 h3
      have hsz : lab[k].size ≤ 281474976710656 := HLl.out _ (List.getElem_mem hlt)
      have HCl := Lib.hid (fun V => Clone_any lab[k] V hsz)
      have p := hc (.string lab[k]) (by simp [strs, List.getElem?_map, List.getElem?_eq_getElem hlt])
      have HC : Hid (∀ w2' : World, w2'.ownsRow w2.heap.size 9 1 (.slice (some g) lab.length k4) lab.length (strs lab) → w2'.cell? (g.add k) = some (.string lab[k]) ∧ w2'.frozen? (g.add k) = false) := Lib.hid (fun w2' h2 => by
       obtain ⟨g', cap', he', hc', hf', _⟩ := own_at h2 hlt
       injection he' with h1' _ h3'
       injection h1' with h1'
       subst h1'
       exact ⟨hc' _ (by simp [strs, List.getElem?_map, List.getElem?_eq_getElem hlt]), hf'⟩)
      generalize lab[k] = s at HCl p HC
      have HSr : Hid (∀ w' : World, Below wr.heap.size wr w' → w'.cell? ⟨w1.heap.size, 0, none⟩ = some (.slice (some g) lab.length k4)) := Lib.hid (fun w' hb => (hb.cell (p := ⟨w1.heap.size, 0, none⟩) (World.block_lt_of_cell? wr _ q6r)).trans q6r)
      have hBD : Below wr.heap.size wr wr.drew := (Below.refl _ _).drew
      clear hc hf hb hsz
      gi_wp2
      refine wpIn_wide.2 ?_
      go_region_held3 (fun w' => w'.cell? ⟨w1.heap.size, 0, none⟩ = some (.slice (some g) lab.length k4))
       ((first | (refine HSr.out _ ?_; with_reducible assumption) | (rw [U.setCell_same p3]; refine HSr.out _ ?_; with_reducible assumption)))
       ((go_at_call 69; refine (HCl.out _).mono ?_; rintro e w3 ⟨rfl, hb3⟩; have hb3' : Below wr.heap.size wr w3 := hBD.trans hb3; have HO3 := Lib.hid ((Below.moves hb3').row HOr.out (fun j hj e => Nat.not_lt.2 e (HOr.out.lt j hj).2)); obtain ⟨p3, f3⟩ := HC.out _ HO3.out; have HB3' := Lib.hid hb3'; clear hb3))
      rw [U.setCell_same p3]
      clear p3 f3 hb3' hBD
      gi_wp2
      exact ⟨⟨k + 1, by omega, by go_num, Lib.hid (below_step HBr.out HB3'.out), HO3⟩, by simp [intOf]; omega⟩
     ·gi_wp2
      refine ⟨by simp, .inl ⟨_, _, rfl, run_takeDeferred HD5.out, ?_⟩⟩
      exact ⟨_, results_tmp rfl _ _ _, _, rfl, by rw [HRv.out]; exact own_lower (own_grown HOr.out (grownBy_putObj' _ D (.deferred none)) (fun r e => by cases e; exact ⟨_, HD5.out, rfl⟩)) HWD.out.2, (below_step HBn.out HBr.out).trans (belowK_b (w := W) (Nat.le_refl _) _ D _ _ HWD.out.1 HD5.out rfl rfl)⟩
  case stop =>
   rintro D c pre W3 hD hS hi hKd
   exact hi.elim
end Go.Proofs.Ytehpinnmalpgpaa
namespace Go.Proofs.Ytehpinnmalpgpaa
open Go.ChangeShapes Go.WideShapes Go.ChangeAt Go.RowKit Go.Deep
open Go.Maps (Keyed has IsMap)
set_option linter.unusedVariables false
set_option linter.unusedSimpArgs false
theorem und_s : Try.prog.underlying 9 = some .string := by kernel_rfl
theorem und_b : Try.prog.underlying 4 = some .bool := by kernel_rfl
theorem und_m : Try.prog.underlying 110 = some (.map 9 4) := by kernel_rfl
theorem zero_b (w : World) : (zeroValue 4).run Try.prog w = .ok (.bool false) w := by kernel_rfl
def kS (s : ByteArray) : Lit := .string s.data.toList
theorem kS_ne {s t : ByteArray} (h : s ≠ t) : kS s ≠ kS t := by
 intro e
 apply h
 unfold kS at e
 injection e with e
 have : s.data = t.data := Array.toList_inj.1 e
 cases s; cases t; simpa using this
theorem kS_key (s : ByteArray) (hs : s.size ≤ maxLen) : keyOf Try.prog 9 (.string s) = some (kS s) := WideMaps.keyOf_string_mk und_s hs
/-- block b is a set of at most n texts: those of which f holds -/
def SetI (W : World) (b n : Nat) (f : ByteArray → Bool) : Prop := ∃ D : DataW Unit, W.ownsMap Try.prog 9 (plainElem Try.prog 4) b n D ∧ ∀ s : ByteArray, s.size ≤ maxLen → D.atKey (kS s) (.lit (.bool false)) = .lit (.bool (f s)) ∧ has D (kS s) = f s
theorem SetI.lt {W : World} {b n : Nat} {f : ByteArray → Bool} (h : SetI W b n f) : b < W.heap.size := by obtain ⟨D, h1, _⟩ := h; exact h1.lt
theorem SetI.made (W : World) : SetI (W.alloc (.map #[] 0)) W.heap.size 0 (fun _ => false) := ⟨.map [], World.ownsMap_made _ _ _ _, fun s _ => ⟨rfl, rfl⟩⟩
theorem SetI.kept {W W' : World} {b n : Nat} {f : ByteArray → Bool} {row : Option Nat} (h : SetI W b n f) (hg : W.grownBy W' row) (hne : some b ≠ row) : SetI W' b n f := by
 obtain ⟨D, h1, h2⟩ := h
 exact ⟨D, h1.kept hg hne, h2⟩
theorem SetI.same {W W' : World} {b n : Nat} {f : ByteArray → Bool} (h : SetI W b n f) (hb : W'.heap[b]? = W.heap[b]?) : SetI W' b n f := by
 obtain ⟨D, ⟨es, clock, h1, h3⟩, h2⟩ := h
 exact ⟨D, ⟨es, clock, hb.trans h1, h3⟩, h2⟩
theorem SetI.below {W W' : World} {b n B : Nat} {f : ByteArray → Bool} (h : SetI W b n f) (hb : Below B W W') (hB : b < B) : SetI W' b n f := h.same (hb.block b hB)
theorem SetI.alloc {W : World} {b n : Nat} {f : ByteArray → Bool} (h : SetI W b n f) (o : Obj) : SetI (W.alloc o) b n f := h.kept (World.grownBy_alloc W o none) (by simp)
theorem plainB_inv {v : Value} {d : Bool} {ps : List MemPlace} (h : plainElem (H := Unit) Try.prog 4 v = some (.lit (.bool d), ps)) : v = .bool d := by
 unfold plainElem at h
 rw [und_b] at h
 cases v <;> simp at h
 rw [h.1]
theorem SetI.look {W : World} {b n : Nat} {f : ByteArray → Bool} (h : SetI W b n f) {t : TypeId} (ht : Try.prog.underlying t = some (.map 9 4)) (s : ByteArray) (hs : s.size ≤ maxLen) : (Instr.lookup t (.map (some b)) (.string s) false).run Try.prog W = .ok (.bool (f s)) W := by
 obtain ⟨D, h1, h2⟩ := h
 obtain ⟨v, ps, h3, h4⟩ := h1.lookup (Maps.string_keyed und_s) ht (zero_b W) (plainElem_bool und_b false) (kS_key s hs)
 rw [(h2 s hs).1] at h4
 rw [plainB_inv h4] at h3
 exact h3
theorem SetI.put {W : World} {b n : Nat} {f : ByteArray → Bool} (h : SetI W b n f) {t : TypeId} (ht : Try.prog.underlying t = some (.map 9 4)) (hn : n < maxLen) (s : ByteArray) (hs : s.size ≤ maxLen) : ∃ W', (Instr.mapUpdate t (.map (some b)) (.string s) (.bool true)).run Try.prog W = .ok () W' ∧ SetI W' b (n + 1) (fun x => f x || decide (x = s)) ∧ W.grownBy W' (some b) := by
 obtain ⟨D, h1, h2⟩ := h
 have him : IsMap D := by obtain ⟨es, clock, _, _, _, rfl⟩ := h1; exact ⟨_, rfl⟩
 obtain ⟨W', h3, h4, h5⟩ := h1.update (Maps.string_keyed und_s) ht hn (kS_key s hs) (plainElem_bool und_b true)
 refine ⟨W', h3, ⟨_, h4, fun x hx => ?_⟩, h5⟩
 by_cases hxs : x = s
 ·subst hxs
  rw [Maps.atKey_put_same him (show WideAt.IsKeyLit (kS x) from trivial), Maps.has_put_same him (show WideAt.IsKeyLit (kS x) from trivial)]
  simp
 ·rw [Maps.atKey_put_other (kS_ne hxs), Maps.has_put_other (kS_ne hxs), (h2 x hx).1, (h2 x hx).2]
  simp [hxs]
/-- 'm[k] = true' at the operation -/
theorem wpList_setPut {W : World} {ops : Array Oper} {rest : List Oper} {o : Oper} {a : Act} {R : Exit → Act → World → Prop}
 (hg : o.guard = none) (m x v : Operand) (t : TypeId) (hop : o.op = Op.mapUpdate t m x v) (ht : Try.prog.underlying t = some (.map 9 4)) (b n : Nat) (f : ByteArray → Bool)
 (hm : a.eval m = .map (some b)) (hown : SetI W b n f) (hn : n < maxLen) (s : ByteArray) (hs : s.size ≤ maxLen) (hx : a.eval x = .string s) (hv : a.eval v = .bool true)
 (hK : ∀ W', SetI W' b (n + 1) (fun x => f x || decide (x = s)) → W.grownBy W' (some b) → wpList Try.prog ops R rest (a.put o.dst undef) W') :
 wpList Try.prog ops R (o :: rest) a W := by
 refine wpList_plain hg fun K' hK' => ?_
 obtain ⟨W', hrun, r1, r2⟩ := hown.put ht hn s hs
 unfold Oper.wp
 simp [execOp, hop, hm, hx, hv, hrun, Result.andThen]
 exact hK' _ _ (hK W' r1 r2)
end Go.Proofs.Ytehpinnmalpgpaa
