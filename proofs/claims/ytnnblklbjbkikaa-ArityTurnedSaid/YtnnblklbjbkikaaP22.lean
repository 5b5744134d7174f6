/- Texts, merged by a program; only what is used. -/
import Derived.Maps.AppendAt
import Derived.OrdersHeld
import Derived.Test.YtnnblklbjbkikaaP1
import Derived.Test.YtnnblklbjbkikaaP2
import Derived.Test.YtnnblklbjbkikaaP3
import Derived.Test.YtnnblklbjbkikaaP4
import Derived.Test.YtnnblklbjbkikaaP5
import Derived.Test.YtnnblklbjbkikaaP6
import Derived.Test.YtnnblklbjbkikaaP7
import Derived.Test.YtnnblklbjbkikaaP8
import Derived.Test.YtnnblklbjbkikaaP9
import Derived.Test.YtnnblklbjbkikaaP10
import Derived.Test.YtnnblklbjbkikaaP11
import Derived.Test.YtnnblklbjbkikaaP12
import Derived.Test.YtnnblklbjbkikaaP13
import Derived.Test.YtnnblklbjbkikaaP14
import Derived.Test.YtnnblklbjbkikaaP15
import Derived.Test.YtnnblklbjbkikaaP16
import Derived.Test.YtnnblklbjbkikaaP17
import Derived.Test.YtnnblklbjbkikaaP18
import Derived.Test.YtnnblklbjbkikaaP19
import Derived.Test.YtnnblklbjbkikaaP20
import Derived.Test.YtnnblklbjbkikaaP21
namespace Go.Proofs.Ytnnblklbjbkikaa
open Go.ChangeShapes Go.WideShapes Go.ChangeAt Go.RowKit Go.Deep
set_option linter.unusedVariables false
set_option linter.unusedSimpArgs false
def aNew (n : ByteArray) : Ar := ⟨true, n, eZ⟩
def aVal (n : ByteArray) : Ar := ⟨false, b0, eName n⟩
def argT (l : List Ar) : S → S
 | .mk id kind labels nm proc x has _ th el => .mk id kind labels nm proc x has l th el
/-- how a row of arguments may be turned -/
structure TurnA (ns : List ByteArray) (l l' : List Ar) : Prop where
 refs : l.map Ar.ref ≠ l'.map Ar.ref
 mem : ∀ a ∈ l', a ∈ l ∨ (∃ n ∈ ns, a = aNew n) ∨ ∃ r ∈ l, r.ref = true ∧ a = aVal r.nm
theorem argT_id (l : List Ar) (s : S) : (argT l s).id = s.id := by cases s; rfl
theorem argT_hd (l : List Ar) (s : S) : hdT (argT l s) s.th s.el = argT l s := by cases s; rfl
theorem namesP_nm {p : Pg} (hm : mayP p = true) {q : Pr} (hq : q ∈ p.procs) : ∀ v ∈ namesP p.globals q, isNm (bl v) = true := by
 have hg : allN p.globals = true := by
  unfold mayP at hm
  simp only [Bool.and_eq_true] at hm
  exact hm.1.2
 have hh : headOk q = true := by
  rw [← rMayP_eq] at hm
  unfold rMayP at hm
  simp only [Bool.and_eq_true] at hm
  exact List.all_eq_true.1 hm.1.1.2 q hq
 unfold headOk at hh
 simp only [Bool.and_eq_true] at hh
 intro v hv
 unfold namesP at hv
 simp only [List.mem_append, List.mem_map] at hv
 rcases hv with (hv | ⟨x, hx, rfl⟩) | hv
 ·exact List.all_eq_true.1 hg v hv
 ·exact List.all_eq_true.1 hh.1.1.1.2 x hx
 ·exact List.all_eq_true.1 hh.1.2 v hv
theorem knd_mem {gl : List ByteArray} {q : Pr} {v : ByteArray} (h : v ∈ namesP gl q) : knd gl q v ≠ 0 := by
 unfold knd
 cases hf : q.params.find? (isPa v) with
 | some x => rw [Option.elim_some]; split <;> decide
 | none =>
  rw [Option.elim_none]
  split
  ·decide
  ·rename_i h1
   split
   ·decide
   ·rename_i h2
    exfalso
    unfold namesP at h
    simp only [List.mem_append, List.mem_map] at h
    rcases h with (h | ⟨x, hx, rfl⟩) | h
    ·exact h2 (List.any_eq_true.2 ⟨v, h, by simp [isT]⟩)
    ·exact (List.find?_eq_none.1 hf x hx) (by simp [isPa])
    ·exact h1 (List.any_eq_true.2 ⟨v, h, by simp [isT]⟩)
theorem aNew_ok {n : ByteArray} (h : isNm (bl n) = true) : argOk (aNew n) = true := by
 simp [argOk, aNew, nmOk, h, xOk, noneE, eZ, b0]
theorem aVal_ok {n : ByteArray} (h : isNm (bl n) = true) : argOk (aVal n) = true := by
 simp [argOk, aVal, nmOk, xOk, eName, mayE, h]
theorem arg_nm {a : Ar} (h : argOk a = true) (hr : a.ref = true) : isNm (bl a.nm) = true := by
 unfold argOk at h
 rw [hr, Bool.and_eq_true] at h
 exact h.1
theorem stmt_args {s : S} (h : stmtOk s = true) : ∀ a ∈ s.args, argOk a = true := by
 obtain ⟨id, kind, labels, nm, proc, x, has, args, th, el⟩ := s
 rw [stmtOk_eq] at h
 simp only [Bool.and_eq_true] at h
 exact List.all_eq_true.1 h.2
theorem turn_ok {ns : List ByteArray} {s : S} {l : List Ar} (h : stmtOk s = true) (hk : s.kind = 4) (ht : TurnA ns s.args l) (hn : ∀ n ∈ ns, isNm (bl n) = true) : stmtOk (argT l s) = true := by
 have ha := stmt_args h
 have hl : argsOk l = true := by
  unfold argsOk
  rw [List.all_eq_true]
  intro a hal
  rcases ht.mem a hal with h1 | ⟨n, h1, rfl⟩ | ⟨r, h1, h2, rfl⟩
  ·exact ha a h1
  ·exact aNew_ok (hn n h1)
  ·exact aVal_ok (arg_nm (ha r h1) h2)
 obtain ⟨id, kind, labels, nm, proc, x, has, args, th, el⟩ := s
 have hk' : kind = 4 := hk
 subst hk'
 rw [argT, stmtOk_eq]
 rw [stmtOk_eq] at h
 simp [shp] at h ⊢
 exact ⟨⟨h.1.1, h.1.2⟩, hl⟩
theorem names_one {n : ByteArray} (h : isNm (bl n) = true) : namesE (eName n) = [n] := by
 simp [namesE, eName, mayE, mayL, opN, h, walkE, walkL, spoke, hasB]
theorem turn_right {gl ps : List ByteArray} {q : Pr} {s : S} {l : List Ar} (hb : badS gl q ps s = false) (h : stmtOk s = true) (ht : TurnA (namesP gl q) s.args l) : badS gl q ps (argT l s) = false := by
 have ha := stmt_args h
 obtain ⟨id, kind, labels, nm, proc, x, has, args, th, el⟩ := s
 unfold badS rightS varsS at hb ⊢
 rw [Bool.not_eq_false'] at hb ⊢
 rw [Bool.and_eq_true] at hb ⊢
 refine ⟨?_, hb.2⟩
 have h1 := List.all_eq_true.1 hb.1
 rw [List.all_eq_true]
 intro v hv
 simp only [argT, S.x, S.kind, S.nm, S.args, List.mem_append, List.mem_flatMap] at hv h1
 rcases hv with hv | ⟨a, hal, hv⟩
 ·exact h1 v (.inl hv)
 ·rcases ht.mem a hal with h2 | ⟨n, h2, rfl⟩ | ⟨r, h2, h3, rfl⟩
  ·exact h1 v (.inr ⟨a, h2, hv⟩)
  ·have hvn : v = n := by
    have : argV (aNew n) = [n] := rfl
    rw [this] at hv
    exact List.mem_singleton.1 hv
   subst hvn
   have := knd_mem h2
   simp only [bne_iff_ne, ne_eq]
   exact this
  ·have hvn : v = r.nm := by
    have : argV (aVal r.nm) = [r.nm] := by
     show namesE (eName r.nm) = _
     exact names_one (arg_nm (ha r h2) h3)
    rw [this] at hv
    exact List.mem_singleton.1 hv
   subst hvn
   refine h1 r.nm (.inr ⟨r, h2, ?_⟩)
   unfold argV
   rw [if_pos h3]
   exact List.mem_singleton.2 rfl
theorem fitsB_put (t : S) (l : List Pr) (s : S) : fitsB (l.map (putPr t)) s = fitsB l s := by
 unfold fitsB
 rw [List.find?_map, show (isQ s.proc ∘ putPr t) = isQ s.proc from rfl]
 cases l.find? (isQ s.proc) <;> rfl
theorem misB_put (l : List Pr) (t s : S) : misB (l.map (putPr t)) (putS t s) = if s.id = t.id then misB l t else misB l s := by
 unfold misB
 rw [fitsB_put]
 obtain ⟨id, kind, labels, nm, proc, x, has, args, th, el⟩ := s
 rw [putS_eq]
 show _ = if id = t.id then _ else _
 split
 ·cases t; rfl
 ·rfl
theorem arL_ok {ps : List Pr} : ∀ (l : List Pr), (∀ q ∈ l, ∀ s ∈ preSL q.body, s.id ≠ 0) → (arL ps l).1 = 0 → ∀ q ∈ l, ∀ s ∈ preSL q.body, misB ps s = false
 | [], _, _, q, hq => by cases hq
 | x :: l, hz, h, q, hq => by
  rw [arL] at h
  split at h
  ·rename_i hf
   rcases List.mem_cons.1 hq with rfl | hq
   ·intro s hs
    cases hb : misB ps s with
    | false => rfl
    | true =>
     unfold fstB at hf
     cases hfd : (preSL q.body).find? (misB ps) with
     | none =>
      have := List.find?_eq_none.1 hfd s hs
      rw [hb] at this; exact absurd rfl this
     | some y =>
      rw [hfd, Option.elim_some] at hf
      exact absurd hf (hz q (List.mem_cons_self ..) y (List.mem_of_find?_eq_some hfd))
   ·exact arL_ok l (fun q hq => hz q (List.mem_cons_of_mem _ hq)) h q hq
  ·cases h
theorem arL_put {ps : List Pr} {t : S} {b : Bool} (h0 : t.id ≠ 0) : ∀ l : List Pr, (∀ q ∈ l, ∀ s ∈ preSL q.body, misB ps s = false) → (∀ q ∈ l, ∀ s ∈ preSL q.body, s.id = t.id → misB ps t = b) → arL (ps.map (putPr t)) (l.map (putPr t)) = if b = true ∧ ∃ q ∈ l, ∃ s ∈ preSL q.body, s.id = t.id then (6, t.id) else (0, 0)
 | [], _, _ => by simp [arL]
 | q :: l, h2, h3 => by
  have ih := arL_put h0 l (fun q hq => h2 q (List.mem_cons_of_mem _ hq)) (fun q hq => h3 q (List.mem_cons_of_mem _ hq))
  have h5 : fstB (misB (ps.map (putPr t))) (preSL (putPr t q).body) = if b = true ∧ ∃ s ∈ preSL q.body, s.id = t.id then t.id else 0 := by
   show fstB _ (preSL (putSL t q.body)) = _
   rw [preSL_put]
   refine fstB_put _ (fun s hs hne => ?_) (fun s hs he => ?_)
   ·rw [misB_put, if_neg hne]; exact h2 q (List.mem_cons_self ..) s hs
   ·rw [misB_put, if_pos he]; exact h3 q (List.mem_cons_self ..) s hs he
  rw [List.map_cons, arL, h5, ih]
  by_cases hb : b = true
  ·by_cases he : ∃ s ∈ preSL q.body, s.id = t.id
   ·rw [if_pos (show b = true ∧ _ from ⟨hb, he⟩), if_neg h0, if_pos ⟨hb, q, List.mem_cons_self .., he⟩]
   ·rw [if_neg (show ¬(b = true ∧ ∃ s ∈ preSL q.body, s.id = t.id) from fun h => he h.2), if_pos rfl]
    congr 1
    simp [he]
  ·have e1 : (if b = true ∧ ∃ s ∈ preSL q.body, s.id = t.id then t.id else 0) = 0 := if_neg (fun h => hb h.1)
   rw [e1, if_pos rfl, if_neg (fun h => hb h.1), if_neg (fun h => hb h.1)]
/-- what holds if the check of calls tells nothing -/
structure ArOk (p : Pg) : Prop where
 chk : ChOk p
 fit : ∀ q ∈ p.procs, ∀ s ∈ preSL q.body, misB p.procs s = false
theorem ar_ok {p : Pg} (h : (arP p).1 = 0) : ArOk p := by
 unfold arP at h
 split at h
 ·rename_i h1
  have h2 := chk_ok h1
  exact ⟨h2, arL_ok p.procs (fun q hq s hs => by have := may_ids h2.may q hq s hs; omega) h⟩
 ·cases h
/-- arguments turned: that call is told -/
theorem turn_ar {p : Pg} {id : Int} {q : Pr} {s : S} {l : List Ar} (h : ArOk p) (ha : AtId p id q s) (hk : s.kind = 4) (ht : TurnA (namesP p.globals q) s.args l) : arP (putP (argT l s) p) = (6, s.id) ∧ fitsA p (argT l s) = false ∧ (chkP (putP (argT l s) p)).1 = 0 := by
 have hso := may_stm h.chk.may q ha.mem s ha.stm
 have hid : s.id ≠ 0 := by have := may_ids h.chk.may q ha.mem s ha.stm; omega
 have hbad : badS p.globals q (p.procs.map Pr.nm) (argT l s) = false := turn_right (h.chk.stm q ha.mem s ha.stm) hso ht
 have hq1 : ∀ q' ∈ p.procs, ∀ y ∈ preSL q'.body, y.id = (argT l s).id → y = s ∧ q' = q := fun q' hq' y hy he => by
  obtain ⟨h1, h2⟩ := ha.only q' hq' y hy (he.trans ((argT_id l s).trans ha.eid))
  have h3 := find_own p.procs h.chk.procs q' hq'
  rw [h2, find_own p.procs h.chk.procs q ha.mem] at h3
  exact ⟨h1, (Option.some.inj h3).symm⟩
 have hc := chkP_put (p := p) (t := argT l s) (b := false) h.chk (fun q' hq' y hy he => by
   obtain ⟨rfl, rfl⟩ := hq1 q' hq' y hy he
   rw [argT_hd]
   exact turn_ok hso hk ht (namesP_nm h.chk.may hq')) (by rw [argT_id]; exact hid) (fun q' hq' y hy he => by
   obtain ⟨rfl, rfl⟩ := hq1 q' hq' y hy he
   exact hbad)
 rw [if_neg (fun h => by cases h.1)] at hc
 have hf := h.fit q ha.mem s ha.stm
 have hfit : fitsB p.procs (argT l s) = false := by
  obtain ⟨id', kind, labels, nm, proc, x, has, args, th, el⟩ := s
  have hk' : kind = 4 := hk
  subst hk'
  unfold misB fitsB at hf
  unfold fitsB
  simp only [S.kind, S.proc, S.args, argT, beq_self_eq_true, Bool.true_and, Bool.not_eq_false'] at hf ⊢
  cases hfi : p.procs.find? (isQ proc) with
  | none => rfl
  | some x =>
   rw [hfi, Option.elim_some] at hf
   rw [Option.elim_some]
   unfold tks at hf ⊢
   have h1 := of_decide_eq_true hf
   exact decide_eq_false (fun e => ht.refs (h1.symm.trans e))
 have hmis : misB p.procs (argT l s) = true := by
  unfold misB
  rw [hfit]
  obtain ⟨id', kind, labels, nm, proc, x, has, args, th, el⟩ := s
  have hk' : kind = 4 := hk
  subst hk'
  rfl
 refine ⟨?_, ?_, by rw [hc]⟩
 ·unfold arP
  rw [if_pos (by rw [hc])]
  show arL (p.procs.map (putPr (argT l s))) (p.procs.map (putPr (argT l s))) = _
  rw [arL_put (b := true) (by rw [argT_id]; exact hid) p.procs h.fit (fun _ _ _ _ _ => hmis), if_pos ⟨rfl, q, ha.mem, s, ha.stm, (argT_id l s).symm⟩, argT_id]
 ·unfold fitsA
  rw [hfit, Bool.and_false]
end Go.Proofs.Ytnnblklbjbkikaa
namespace Go.Proofs.Ytnnblklbjbkikaa
open Go.ChangeShapes Go.WideShapes Go.ChangeAt Go.RowKit Go.Deep
set_option linter.unusedVariables false
set_option linter.unusedSimpArgs false
theorem flatN_range (css : Nat → List Value) : ∀ n, ((List.range n).map css).flatten = flatN css n
 | 0 => rfl
 | n + 1 => by rw [List.range_succ, List.map_append, List.flatten_append, flatN_range css n, flatN]; simp
theorem all2_range {α : Type} {R : α → List Value → Prop} {l : List α} {css : Nat → List Value} (h : ∀ i (hi : i < l.length), R l[i] (css i)) : ∀ n, n ≤ l.length → All2 R (l.take n) ((List.range n).map css)
 | 0, _ => trivial
 | n + 1, hn => by
  rw [List.take_succ_eq_append_getElem (by omega), List.range_succ, List.map_append]
  exact All2.snoc (h n (by omega)) (all2_range h n (by omega))
/-- the rows of a slice that is read -/
theorem sl_rows {α : Type} {w W : World} {Q : Nat → Prop} {C : Nat} {R : α → List Value → Prop} {l : List α} {A : Option Addr} {n cap : Nat} (h : SliceI w Q C R l (.slice A n cap)) (hI : In Q w W) (hC : ∀ x cs, R x cs → CellsOk C cs) :
  n = l.length ∧ ∃ rows, All2 R l rows ∧ rows.flatten.length = n * C ∧ (∀ ad, A = some ad → ∀ j u, rows.flatten[j]? = some u → W.cell? (ad.add j) = some u) ∧ (A = none → n = 0) ∧ ∀ u ∈ rows.flatten, u.oneCell' = true := by
 obtain ⟨A', cap', css, e, h2, h3, h4⟩ := h
 injection e with e1 e2 e3
 subst e1 e2 e3
 refine ⟨rfl, (List.range l.length).map css, ?_, ?_, ?_, ?_, ?_⟩
 ·have := all2_range h4 l.length (Nat.le_refl _)
  rwa [List.take_length] at this
 ·rw [flatN_range]
  exact flatN_len (fun i hi => (hC _ _ (h4 i hi)).1)
 ·intro ad e j u hu
  subst e
  rw [flatN_range] at hu
  obtain ⟨i, k, hi, rfl, hk⟩ := flatN_of (fun i hi => (hC _ _ (h4 i hi)).1) hu
  obtain ⟨a, ha, hq, hc⟩ := h3 (by omega)
  injection ha with ha
  subst ha
  exact (hI.2 _ (by rw [block_add]; exact hq)).trans (hc i hi k u hk)
 ·intro e
  rcases Nat.eq_zero_or_pos l.length with h | h
  ·exact h
  ·obtain ⟨a, ha, _⟩ := h3 h
   rw [e] at ha; cases ha
 ·rw [flatN_range]
  exact flatN_one (fun i hi => hC _ _ (h4 i hi))
/-- a row of arguments of the call's own -/
def AO (w : World) (Q : Nat → Prop) (B : Nat) (wr : World) (l : List Ar) (v : Value) : Prop := ∃ rows, wr.ownsRow B 72 6 v l.length rows.flatten ∧ All2 (ArgI w Q) l rows
theorem AO.shape {w wr : World} {Q : Nat → Prop} {B : Nat} {l : List Ar} {v : Value} (h : AO w Q B wr l v) : ∃ X c, v = .slice X l.length c ∧ l.length ≤ c ∧ c ≤ 9223372036854775807 ∧ (0 < l.length → ∃ g, X = some ⟨g, 0, none⟩ ∧ B ≤ g ∧ g < wr.heap.size) := by
 obtain ⟨rows, h1, _⟩ := h
 have hlt := fun j e => h1.lt j e
 rcases h1.2 with ⟨rfl, e⟩ | ⟨g, cap, cur, rfl, hb, hg, hnc, hm, hs, ht⟩
 ·exact ⟨none, 0, by rw [e], by omega, by omega, fun h => by omega⟩
 ·exact ⟨_, cap, rfl, hnc, by unfold maxLen at hm; omega, fun _ => ⟨g, rfl, hlt g rfl⟩⟩
theorem AO.alloc {w wr : World} {Q : Nat → Prop} {B : Nat} {l : List Ar} {v : Value} (h : AO w Q B wr l v) (o : Obj) : AO w Q B (wr.alloc o) l v := by
 obtain ⟨rows, h1, h2⟩ := h
 exact ⟨rows, h1.alloc _, h2⟩
theorem AO.read {w wr : World} {Q : Nat → Prop} {B : Nat} {l : List Ar} {v : Value} (h : AO w Q B wr l v) : SliceI wr (fun b => B ≤ b ∧ b < wr.heap.size) 6 (ArgI w Q) l v := by
 obtain ⟨rows, h1, h2⟩ := h
 exact slice_of_own h1 h2 (fun x cs h => (argCk w Q x cs h).1)
theorem own_set_in {w : World} {B n k : Nat} {e : TypeId} {size g cap : Nat} {xs : List Value} (h : w.ownsRow B e size (.slice (some ⟨g, 0, none⟩) n cap) n xs) (u : Value) : (w.setCell ⟨g, k, none⟩ u).ownsRow B e size (.slice (some ⟨g, 0, none⟩) n cap) n (xs.set k u) := by
 obtain ⟨hl, h'⟩ := h
 refine ⟨by rw [List.length_set]; exact hl, ?_⟩
 rcases h' with ⟨h1, _⟩ | ⟨g', cap', cur, h1, hb, hg, hnc, hm, hs, ht⟩
 ·cases h1
 ·injection h1 with e1 e2 e3
  injection e1 with e1
  injection e1 with e1
  subst e1 e3
  refine .inr ⟨g, cap, cur.setIfInBounds k u, rfl, hb, (show Blk _ g e _ from (show Blk w g e cur from hg).set_ k u), hnc, hm, by rw [Array.size_setIfInBounds]; exact hs, ?_⟩
  rw [Array.toList_setIfInBounds, List.take_set, ht]
theorem flat_set6 {c0 c1 c2 c3 c4 c5 : Value} : ∀ (rows : List (List Value)) (i : Nat), (∀ r ∈ rows, r.length = 6) → i < rows.length → ((((((rows.flatten.set (i * 6) c0).set (i * 6 + 1) c1).set (i * 6 + 2) c2).set (i * 6 + 3) c3).set (i * 6 + 4) c4).set (i * 6 + 5) c5) = (rows.set i [c0, c1, c2, c3, c4, c5]).flatten
 | [], i, _, h => by cases h
 | r :: rows, 0, h, _ => by
  have hr := h r (List.mem_cons_self ..)
  match r, hr with
  | [x0, x1, x2, x3, x4, x5], _ => simp
 | r :: rows, i + 1, h, hi => by
  have hr := h r (List.mem_cons_self ..)
  have ih := flat_set6 (c0 := c0) (c1 := c1) (c2 := c2) (c3 := c3) (c4 := c4) (c5 := c5) rows i (fun r hr => h r (List.mem_cons_of_mem _ hr)) (by simpa using hi)
  have hs : ∀ (F : List Value) (k : Nat) (u : Value), (r ++ F).set ((i + 1) * 6 + k) u = r ++ F.set (i * 6 + k) u := fun F k u => by
   rw [List.set_append, if_neg (by omega), hr, show (i + 1) * 6 + k - 6 = i * 6 + k by omega]
  have hs0 : ∀ (F : List Value) (u : Value), (r ++ F).set ((i + 1) * 6) u = r ++ F.set (i * 6) u := fun F u => hs F 0 u
  rw [List.flatten_cons, hs0, hs, hs, hs, hs, hs, ih, List.set_cons_succ, List.flatten_cons]
theorem all2_set {α : Type} {R : α → List Value → Prop} {x' : α} {cs' : List Value} (hn : R x' cs') : ∀ {l : List α} {rows : List (List Value)}, All2 R l rows → ∀ k, All2 R (l.set k x') (rows.set k cs')
 | [], [], h, k => by cases k <;> exact trivial
 | x :: l, c :: r, h, 0 => ⟨hn, h.2⟩
 | x :: l, c :: r, h, k + 1 => ⟨h.1, all2_set hn h.2 k⟩
 | [], _ :: _, h, _ => h.elim
 | _ :: _, [], h, _ => h.elim
theorem AO.set6 {w wr : World} {Q : Nat → Prop} {B g cap n i : Nat} {l : List Ar} {x : Ar} {c0 c1 c2 c3 c4 c5 : Value} (h : AO w Q B wr l (.slice (some ⟨g, 0, none⟩) n cap)) (hn : n = l.length) (hi : i < l.length) (hx : ArgI w Q x [c0, c1, c2, c3, c4, c5]) :
  AO w Q B ((((((wr.setCell ⟨g, i * 6, none⟩ c0).setCell ⟨g, i * 6 + 1, none⟩ c1).setCell ⟨g, i * 6 + 2, none⟩ c2).setCell ⟨g, i * 6 + 3, none⟩ c3).setCell ⟨g, i * 6 + 4, none⟩ c4).setCell ⟨g, i * 6 + 5, none⟩ c5) (l.set i x) (.slice (some ⟨g, 0, none⟩) n cap) := by
 subst hn
 obtain ⟨rows, h1, h2⟩ := h
 refine ⟨rows.set i [c0, c1, c2, c3, c4, c5], ?_, all2_set hx h2 i⟩
 rw [← flat_set6 rows i (All2.mem_len (fun x cs h => (argCk w Q x cs h).1) h2) (by rw [All2.len h2]; exact hi), List.length_set]
 exact own_set_in (own_set_in (own_set_in (own_set_in (own_set_in (own_set_in h1 c0) c1) c2) c3) c4) c5
theorem AO.nil {w wr : World} {Q : Nat → Prop} {B : Nat} (hB : B ≤ wr.heap.size) : AO w Q B (wr.alloc (.cells #[] 72)) [] (.slice (some ⟨wr.heap.size, 0, none⟩) 0 0) :=
 ⟨[], ⟨rfl, .inr ⟨wr.heap.size, 0, #[], rfl, hB, Blk.new _ _ _, Nat.le_refl _, by unfold maxLen; omega, rfl, rfl⟩⟩, trivial⟩
theorem new_arg (w : World) (Q : Nat → Prop) {n : ByteArray} (h : n.size ≤ 9223372036854775807) : ArgI w Q (aNew n) [.bool true, .string n, .int .i64 0, .int .i64 0, .string ⟨#[]⟩, .slice none 0 0] :=
 ⟨_, rfl, h, ExprI.of_slice nil_slice i64_zero i64_zero (by decide)⟩
theorem val_arg (w : World) (Q : Nat → Prop) {n : ByteArray} (h : n.size ≤ 9223372036854775807) : ArgI w Q (aVal n) [.bool false, .string ⟨#[]⟩, .int .i64 2, .int .i64 0, .string n, .slice none 0 0] :=
 ⟨_, rfl, by show b0.size ≤ _; decide, ExprI.of_slice nil_slice ⟨by omega, by omega⟩ i64_zero h⟩
/-- a slice of arguments that is read, behind a row of the call's own -/
theorem run_append_args {w W : World} {Q Q0 : Nat → Prop} {B : Nat} {l l2 : List Ar} {v : Value} {X : Option Addr} {m c : Nat} {W0 : World} (t ty : TypeId) (i : TypeInfo) (ht : Try.prog.underlying t = some (.slice 72)) (hi : Try.prog.info? 72 = some i) {z : Value} (hz : i.zero = some z)
  (hsize : i.size = 6) (hby : i.bytes = 80) (hzs : z.cells.size = 6) (h : AO w Q B W l v) (h2 : SliceI W0 Q0 6 (ArgI w Q) l2 (.slice X m c)) (hI : In Q0 W0 W) (hl : l.length + l2.length ≤ 1000000) (hB : B ≤ W.heap.size) :
  ∃ v' w', (Builtin.append_ #[t, t] ty #[v, .slice X m c]).run Try.prog W = .ok v' w' ∧ AO w Q B w' (l ++ l2) v' ∧ W.grownBy w' v.ownBlock ∧ ∀ j, v.ownBlock = some j → B ≤ j := by
 obtain ⟨rows, h3, h4⟩ := h
 obtain ⟨hm, rows2, h5, h6, h7, h8, h9⟩ := sl_rows h2 hI (fun x cs h => argCk w Q x cs h)
 subst hm
 have hBj : ∀ j, v.ownBlock = some j → B ≤ j := fun j hj => (h3.lt j hj).1
 cases X with
 | some ad =>
  obtain ⟨v', w', hr, k2, k3, _, _⟩ := run_append_own_at (P := Try.prog) W B t ty 72 i z 6 80 ht hi hz hsize hby hzs (by decide) v l.length rows.flatten h3 ad l2.length c rows2.flatten h6 (h7 ad rfl) h9 (by unfold maxLen; omega) (by omega) hB
  exact ⟨v', w', hr, ⟨rows ++ rows2, by rw [List.length_append, List.flatten_append]; exact k2, All2.append h4 h5⟩, k3, hBj⟩
 | none =>
  have hl0 : l2 = [] := List.eq_nil_of_length_eq_zero (h8 rfl)
  subst hl0
  obtain ⟨Xf, cf, rfl, hoc, hcx⟩ := own_form h3
  have hXn : Xf = none → l.length = 0 ∧ cf = 0 := fun e' => by
   subst e'
   rcases h3.2 with ⟨h1, h2⟩ | ⟨g, cap', cur, h1, _⟩
   ·injection h1 with _ h3 h4; exact ⟨h3, h4⟩
   ·cases h1
  refine ⟨_, _, run_append_nil (P := Try.prog) (w := W) t ty 72 i ht hi Xf l.length cf c hoc hXn, ?_, World.grownBy.refl _ _, hBj⟩
  rw [List.append_nil]
  exact ⟨rows, h3, h4⟩
theorem wpList_append_args {ops : Array Oper} {rest : List Oper} {o : Oper} {a : Act} {QQ : Exit → Act → World → Prop} {w W : World} {Q Q0 : Nat → Prop} {B : Nat} {l l2 : List Ar} {v : Value} {X : Option Addr} {m c : Nat} {W0 : World} (hgd : o.guard = none) (s x : Operand) (t : TypeId)
  (ho : o.op = .call { callee := .builtin .append, args := #[s, x], argTypes := #[t, t] }) (i : TypeInfo) (ht : Try.prog.underlying t = some (.slice 72)) (hi : Try.prog.info? 72 = some i) {z : Value} (hz : i.zero = some z)
  (hsize : i.size = 6) (hby : i.bytes = 80) (hzs : z.cells.size = 6) (hs : a.eval s = v) (h : AO w Q B W l v) (hx : a.eval x = .slice X m c) (h2 : SliceI W0 Q0 6 (ArgI w Q) l2 (.slice X m c)) (hI : In Q0 W0 W) (hl : l.length + l2.length ≤ 1000000) (hB : B ≤ W.heap.size)
  (hk : ∀ v' w', AO w Q B w' (l ++ l2) v' → Below B W w' → wpList Try.prog ops QQ rest (a.put o.dst v') w') : wpList Try.prog ops QQ (o :: rest) a W := by
 obtain ⟨v', w', hr, k2, k3, k4⟩ := run_append_args t o.type i ht hi hz hsize hby hzs h h2 hI hl hB
 refine wpList_plain hgd fun K hK => ?_
 unfold Oper.wp execOp
 simp only [ho, resolve, invoke, builtin, Sem.run_bind, Sem.run_pure, Result.andThen_ok, List.map_toArray, List.map_cons, List.map_nil, hs, hx, hr]
 exact hK _ _ (hk v' w' k2 ((Below.refl _ _).grown k3 hB k4))
theorem step_append_args {ops : Array Oper} {o : Oper} {a : Act} {K : Act → World → Prop} {QQ : Exit → Act → World → Prop} {E : Prop} {w W : World} {Q Q0 : Nat → Prop} {B : Nat} {l l2 : List Ar} {v : Value} {X : Option Addr} {m c : Nat} {W0 : World} (hgd : o.guard = none) (s x : Operand) (t : TypeId)
  (ho : o.op = .call { callee := .builtin .append, args := #[s, x], argTypes := #[t, t] }) (i : TypeInfo) (ht : Try.prog.underlying t = some (.slice 72)) (hi : Try.prog.info? 72 = some i) {z : Value} (hz : i.zero = some z)
  (hsize : i.size = 6) (hby : i.bytes = 80) (hzs : z.cells.size = 6) (hs : a.eval s = v) (h : AO w Q B W l v) (hx : a.eval x = .slice X m c) (h2 : SliceI W0 Q0 6 (ArgI w Q) l2 (.slice X m c)) (hI : In Q0 W0 W) (hl : l.length + l2.length ≤ 1000000) (hB : B ≤ W.heap.size)
  (hk : ∀ v' w', AO w Q B w' (l ++ l2) v' → Below B W w' → K (a.put o.dst v') w') : if Region.wanted o (yielded ops a.tmps) = true then Oper.wp Try.prog o a W K QQ else E := by
 have hw : Region.wanted o (yielded ops a.tmps) = true := by simp [Region.wanted, hgd]
 rw [if_pos hw]
 obtain ⟨v', w', hr, k2, k3, k4⟩ := run_append_args t o.type i ht hi hz hsize hby hzs h h2 hI hl hB
 unfold Oper.wp execOp
 simp only [ho, resolve, invoke, builtin, Sem.run_bind, Sem.run_pure, Result.andThen_ok, List.map_toArray, List.map_cons, List.map_nil, hs, hx, hr]
 exact hk v' w' k2 ((Below.refl _ _).grown k3 hB k4)
set_option maxHeartbeats 4000000 in
set_option maxRecDepth 100000 in
theorem rProcOf_any {w : World} {Q : Nat → Prop} {p : Pg} {c0 c1 : Value} (h : ProgI w Q p [c0, c1]) (id0 : Int) (W : World) (hI : In Q w W) :
 Calls Try.prog 40 #[.agg #[c0, c1], .int .i64 id0] W fun e w' => e = .returned (.string (pfP p id0)) ∧ Below W.heap.size W w' := by
 have HFd := Lib.hid (fun V hV => rFind_any h id0 V hV)
 obtain ⟨Ag, cg, Ap, cp, rfl, rfl, _⟩ := prog_open h
 have HI := Lib.hid hI
 have HK : Hid (pfP p id0 = (rfL p.procs id0).elim ⟨#[]⟩ Prod.snd) := Lib.hid rfl
 clear h hI
 generalize rfL p.procs id0 = r at HFd HK
 go_enter Try.func40, Try.ntmps40
 go_upto_region 1 with fail
 have HB0 : Hid (Below W.heap.size W (W.alloc (.cells #[.slice Ag p.globals.length cg, .slice Ap p.procs.length cp] 25))) := Lib.hid (below_box _)
 have HBp : Hid (Blk (W.alloc (.cells #[.slice Ag p.globals.length cg, .slice Ap p.procs.length cp] 25)) W.heap.size 25 #[.slice Ag p.globals.length cg, .slice Ap p.procs.length cp]) := Lib.hid (Blk.new _ _ _)
 generalize World.alloc _ _ = V at HB0 HBp ⊢
 have HI0 := Lib.hid (HI.out.on HB0.out)
 generalize hbe : W.heap.size = b at HBp ⊢
 clear hbe
 have q0 : V.cell? ⟨b, 0, none⟩ = some (.slice Ag p.globals.length cg) := by rw [HBp.out.cell]; rfl
 have q1 : V.cell? ⟨b, 1, none⟩ = some (.slice Ap p.procs.length cp) := by rw [HBp.out.cell]; rfl
 have hIt : ∀ cs : Array Value, ItemI w Q (r.elim It0 Prod.fst) cs.toList → ∃ (id kind : Int) (labels : List ByteArray) (nm proc : ByteArray) (has : Bool) (args : List Ar) (th el : List S) (L : Option Addr) (lc : Nat) (y0 y1 : Int) (y2 : ByteArray) (X : Option Addr) (xn xc : Nat) (R : Option Addr) (rc : Nat) (T : Option Addr) (tc : Nat) (U : Option Addr) (uc : Nat) (dp inn : Int) (els : Bool), cs = #[.int .i64 id, .int .i64 kind, .slice L labels.length lc, .string nm, .string proc, .int .i64 y0, .int .i64 y1, .string y2, .slice X xn xc, .bool has, .slice R args.length rc, .slice T th.length tc, .slice U el.length uc, .int .i64 dp, .int .i64 inn, .bool els] := by
  rintro cs ⟨c, hc, hst⟩
  obtain ⟨id, kind, labels, nm, proc, x, has, args, th, el, L, lc, y0, y1, y2, X, xn, xc, R, rc, T, tc, U, uc, hmk, rfl, _⟩ := stmt_open hst
  refine ⟨id, kind, labels, nm, proc, has, args, th, el, L, lc, y0, y1, y2, X, xn, xc, R, rc, T, tc, U, uc, (r.elim It0 Prod.fst).deep, (r.elim It0 Prod.fst).inn, (r.elim It0 Prod.fst).els, ?_⟩
  rw [← Array.toArray_toList (xs := cs), hc]
  rfl
 have HIt := Lib.hid hIt
 clear hIt
 go_upto_region 2 with (go_at_call 50; refine (HFd.out V HI0.out).mono ?_; rintro e' w1 ⟨cs, rfl, hit, hb1⟩; obtain ⟨id, kind, labels, nm, proc, has, args, th, el, L, lc, y0, y1, y2, X, xn, xc, R, rc, T, tc, U, uc, dp, inn, els, rfl⟩ := HIt.out _ hit; clear hit)
 go_wp2_with fail
 go_ret
 exact ⟨by rw [HK.out]; rfl, below_step HB0.out (below_stepA hb1 _)⟩
end Go.Proofs.Ytnnblklbjbkikaa
