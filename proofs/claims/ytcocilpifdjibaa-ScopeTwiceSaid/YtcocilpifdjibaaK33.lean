/- Texts, merged by a program; only what is used. -/
import Derived.OrdersHeld
import Derived.Test.YtcocilpifdjibaaK1
import Derived.Test.YtcocilpifdjibaaK2
import Derived.Test.YtcocilpifdjibaaK3
import Derived.Test.YtcocilpifdjibaaK4
import Derived.Test.YtcocilpifdjibaaK5
import Derived.Test.YtcocilpifdjibaaK6
import Derived.Test.YtcocilpifdjibaaK7
import Derived.Test.YtcocilpifdjibaaK8
import Derived.Test.YtcocilpifdjibaaK9
import Derived.Test.YtcocilpifdjibaaK10
import Derived.Test.YtcocilpifdjibaaK11
import Derived.Test.YtcocilpifdjibaaK12
import Derived.Test.YtcocilpifdjibaaK13
import Derived.Test.YtcocilpifdjibaaK14
import Derived.Test.YtcocilpifdjibaaK15
import Derived.Test.YtcocilpifdjibaaK16
import Derived.Test.YtcocilpifdjibaaK17
import Derived.Test.YtcocilpifdjibaaK18
import Derived.Test.YtcocilpifdjibaaK19
import Derived.Test.YtcocilpifdjibaaK20
import Derived.Test.YtcocilpifdjibaaK21
import Derived.Test.YtcocilpifdjibaaK22
import Derived.Test.YtcocilpifdjibaaK23
import Derived.Test.YtcocilpifdjibaaK24
import Derived.Test.YtcocilpifdjibaaK25
import Derived.Test.YtcocilpifdjibaaK26
import Derived.Test.YtcocilpifdjibaaK27
import Derived.Test.YtcocilpifdjibaaK28
import Derived.Test.YtcocilpifdjibaaK29
import Derived.Test.YtcocilpifdjibaaK30
import Derived.Test.YtcocilpifdjibaaK31
import Derived.Test.YtcocilpifdjibaaK32
namespace Go.Proofs.Ytcocilpifdjibaa
open Go.ChangeShapes Go.WideShapes Go.ChangeAt Go.RowKit Go.Deep
set_option linter.unusedVariables false
set_option linter.unusedSimpArgs false
section
variable {P : Program} {md : Region.Mode} {ops : Array Oper} {Q : Exit → Act → World → Prop} {S : World → Prop}
theorem wpAnyH_step {i : Nat} {o : Oper} {fuel : Nat} {listed : Array Bool} {a : Act} {w : World} (hr : Region.ready md ops listed = [i]) (ho : ops[i]? = some o)
 (h : ∀ K' : Act → World → Prop, Shut (∀ a w, S w → wpAnyH P md ops Q S fuel (listed.setIfInBounds i true) a w → K' a w) → if Region.wanted o (yielded ops a.tmps) = true then Oper.wp P o a w K' Q else K' (a.put o.dst undef) w) : wpAnyH P md ops Q S (fuel + 1) listed a w :=
 wpAnyH_all hr (by simp) (fun j hj => by rw [List.mem_singleton.1 hj]; exact wpOp_step ho (fun K' hK => h K' (fun a w h1 h2 => hK a w ⟨h1, h2⟩)))
end
end Go.Proofs.Ytcocilpifdjibaa
namespace Go.Proofs.Ytcocilpifdjibaa
open Go.ChangeShapes Go.WideShapes Go.ChangeAt Go.RowKit Go.Deep
set_option linter.unusedVariables false
set_option linter.unusedSimpArgs false
theorem dupL_false : ∀ (l p : List ByteArray), dupL p l = false → (∀ x ∈ l, x ∉ p) ∧ l.Nodup
 | [], p, _ => ⟨fun x hx => absurd hx (by simp), List.nodup_nil⟩
 | x :: l, p, h => by
  rw [dupL, Bool.or_eq_false_iff] at h
  obtain ⟨h1, h2⟩ := h
  obtain ⟨h3, h4⟩ := dupL_false l (p ++ [x]) h2
  have hx : x ∉ p := fun hp => by
   rw [List.any_eq_false] at h1
   exact h1 x hp (by simp [isT])
  refine ⟨fun y hy => ?_, List.nodup_cons.2 ⟨fun hy => h3 x hy (by simp), h4⟩⟩
  rcases List.mem_cons.1 hy with rfl | hy
  ·exact hx
  ·exact fun hp => h3 y hy (by simp [hp])
theorem dup_nodup {l : List ByteArray} (h : dup l = false) : l.Nodup := (dupL_false l [] h).2
theorem dupL_true : ∀ (l p : List ByteArray), p.Nodup → dupL p l = true → ¬ (p ++ l).Nodup
 | [], p, _, h => by rw [dupL] at h; cases h
 | x :: l, p, hp, h => by
  rw [dupL, Bool.or_eq_true] at h
  intro hn
  rcases h with h | h
  ·rw [List.any_eq_true] at h
   obtain ⟨y, hy, hxy⟩ := h
   have : x = y := by simpa [isT] using hxy
   subst this
   exact (List.nodup_append.1 hn).2.2 x hy x (by simp) rfl
  ·have h2 : p ++ x :: l = (p ++ [x]) ++ l := by simp
   rw [h2] at hn
   exact dupL_true l (p ++ [x]) (List.nodup_append.1 hn).1 h hn
theorem dup_of {l : List ByteArray} (h : l.Nodup) : dup l = false := by
 cases hd : dup l with
 | false => rfl
 | true => exact absurd h (by simpa using dupL_true l [] List.nodup_nil hd)
theorem find_own : ∀ (l : List Pr), (l.map Pr.nm).Nodup → ∀ q ∈ l, l.find? (isQ q.nm) = some q
 | [], _, q, hq => by cases hq
 | x :: l, h, q, hq => by
  rw [List.map_cons, List.nodup_cons] at h
  rw [List.find?_cons]
  rcases List.mem_cons.1 hq with rfl | hq
  ·rw [show isQ q.nm q = true by simp [isQ]]
  ·have hne : isQ q.nm x = false := by
    unfold isQ
    exact decide_eq_false (fun e => h.1 (by rw [e]; exact List.mem_map_of_mem hq))
   rw [hne]
   exact find_own l h.2 q hq
theorem chkL_ok {gl ps : List ByteArray} : ∀ (l : List Pr), (∀ q ∈ l, ∀ s ∈ preSL q.body, s.id ≠ 0) → (chkL gl ps l).1 = 0 → ∀ q ∈ l, dup (namesP gl q) = false ∧ ∀ s ∈ preSL q.body, badS gl q ps s = false
 | [], _, _, q, hq => by cases hq
 | x :: l, hz, h, q, hq => by
  rw [chkL] at h
  split at h
  ·cases h
  ·rename_i hd
   split at h
   ·rename_i hf
    rcases List.mem_cons.1 hq with rfl | hq
    ·refine ⟨by simpa using hd, fun s hs => ?_⟩
     cases hb : badS gl q ps s with
     | false => rfl
     | true =>
      unfold fstB at hf
      cases hfd : (preSL q.body).find? (badS gl q ps) with
      | none =>
       have := List.find?_eq_none.1 hfd s hs
       rw [hb] at this; exact absurd rfl this
      | some y =>
       rw [hfd, Option.elim_some] at hf
       exact absurd hf (hz q (List.mem_cons_self ..) y (List.mem_of_find?_eq_some hfd))
    ·exact chkL_ok l (fun q hq => hz q (List.mem_cons_of_mem _ hq)) h q hq
   ·cases h
structure ChOk (p : Pg) : Prop where
 may : mayP p = true
 main : mainBad p = false
 glob : p.globals.Nodup
 procs : (p.procs.map Pr.nm).Nodup
 names : ∀ q ∈ p.procs, (namesP p.globals q).Nodup
 stm : ∀ q ∈ p.procs, ∀ s ∈ preSL q.body, badS p.globals q (p.procs.map Pr.nm) s = false
theorem chk_ok {p : Pg} (h : (chkP p).1 = 0) : ChOk p := by
 unfold chkP at h
 split at h
 ·rename_i hm
  split at h
  ·cases h
  ·rename_i hh
   unfold hdBad at hh
   simp only [Bool.or_eq_true, not_or, Bool.not_eq_true] at hh
   have h1 := chkL_ok p.procs (fun q hq s hs => by have := may_ids hm q hq s hs; omega) h
   exact ⟨hm, hh.1.1, dup_nodup hh.1.2, dup_nodup hh.2, fun q hq => dup_nodup (h1 q hq).1, fun q hq => (h1 q hq).2⟩
 ·cases h
end Go.Proofs.Ytcocilpifdjibaa
namespace Go.Proofs.Ytcocilpifdjibaa
open Go.ChangeShapes Go.WideShapes Go.ChangeAt Go.RowKit Go.Deep
set_option linter.unusedVariables false
set_option linter.unusedSimpArgs false
theorem dup_true {l : List ByteArray} (h : ¬ l.Nodup) : dup l = true := by
 cases hd : dup l with
 | true => rfl
 | false => exact absurd (dup_nodup hd) h
/-- where no statement is wrong, the rest of Check asks for names alone -/
theorem chkL_names {gl ps : List ByteArray} : ∀ (l : List Pr), (∀ q ∈ l, ∀ s ∈ preSL q.body, badS gl q ps s = false) → chkL gl ps l = if l.any (fun q => dup (namesP gl q)) = true then (5, 0) else (0, 0)
 | [], _ => rfl
 | x :: l, h => by
  have hf : fstB (badS gl x ps) (preSL x.body) = 0 := by
   unfold fstB
   rw [List.find?_eq_none.2 (fun s hs => by rw [h x (List.mem_cons_self ..) s hs]; simp)]
   rfl
  rw [chkL, hf, if_pos rfl, chkL_names l (fun q hq => h q (List.mem_cons_of_mem _ hq)), List.any_cons]
  cases dup (namesP gl x) <;> simp
theorem chk_names {p : Pg} (hm : mayP p = true) (hs : ∀ q ∈ p.procs, ∀ s ∈ preSL q.body, badS p.globals q (p.procs.map Pr.nm) s = false) : chkP p = if (hdBad p || p.procs.any (fun q => dup (namesP p.globals q))) = true then (5, 0) else (0, 0) := by
 unfold chkP
 rw [if_pos hm, chkL_names _ hs]
 cases hdBad p <;> simp
theorem bad_more {gl gl' : List ByteArray} {q q' : Pr} {ps : List ByteArray} {s : S} (hk : ∀ v, knd gl q v ≠ 0 → knd gl' q' v ≠ 0) (h : badS gl q ps s = false) : badS gl' q' ps s = false := by
 unfold badS rightS at h ⊢
 simp only [Bool.not_eq_false', Bool.and_eq_true, List.all_eq_true] at h ⊢
 exact ⟨fun v hv => by have := h.1 v hv; simp only [bne_iff_ne] at this ⊢; exact hk v this, h.2⟩
def adV (nm : ByteArray) (q : Pr) : Pr := ⟨q.nm, q.params, q.vars ++ [nm], q.body, q.end_⟩
def adP (nm : ByteArray) (q : Pr) : Pr := ⟨q.nm, q.params ++ [⟨nm, false⟩], q.vars, q.body, q.end_⟩
theorem knd_adV {gl : List ByteArray} {q : Pr} {nm v : ByteArray} (h : knd gl q v ≠ 0) : knd gl (adV nm q) v ≠ 0 := by
 unfold knd adV at *
 simp only at *
 cases hf : q.params.find? (isPa v) with
 | some x => rw [hf] at h; exact h
 | none =>
  rw [hf] at h
  simp only [Option.elim_none] at h ⊢
  rw [List.any_append]
  cases hv : q.vars.any (isT v) with
  | true => simp
  | false =>
   rw [hv] at h
   cases hg : gl.any (isT v) with
   | true => cases [nm].any (isT v) <;> simp
   | false => rw [hg] at h; simp at h
theorem knd_adP {gl : List ByteArray} {q : Pr} {nm v : ByteArray} (h : knd gl q v ≠ 0) : knd gl (adP nm q) v ≠ 0 := by
 unfold knd adP at *
 simp only at *
 rw [List.find?_append]
 cases hf : q.params.find? (isPa v) with
 | some x => rw [hf] at h; exact h
 | none =>
  rw [hf] at h
  simp only [Option.elim_none, Option.none_or] at h ⊢
  cases hx : [(⟨nm, false⟩ : Pa)].find? (isPa v) with
  | none => exact h
  | some x => simp only [Option.elim_some]; split <;> decide
theorem knd_glob {gl : List ByteArray} {q : Pr} {nm v : ByteArray} (h : knd gl q v ≠ 0) : knd (gl ++ [nm]) q v ≠ 0 := by
 unfold knd at *
 cases hf : q.params.find? (isPa v) with
 | some x => rw [hf] at h; exact h
 | none =>
  rw [hf] at h
  simp only [Option.elim_none] at h ⊢
  rw [List.any_append]
  cases hv : q.vars.any (isT v) with
  | true => simp
  | false =>
   rw [hv] at h
   cases hg : gl.any (isT v) with
   | true => simp
   | false => rw [hg] at h; simp at h
theorem map_nm_set {f : Pr → Pr} (hf : ∀ q, (f q).nm = q.nm) {l : List Pr} {k : Nat} (hk : k < l.length) : (l.set k (f l[k])).map Pr.nm = l.map Pr.nm := by
 apply List.ext_getElem (by simp)
 intro i h1 h2
 simp only [List.getElem_map, List.getElem_set]
 split
 ·rename_i h; subst h; exact hf _
 ·rfl
theorem isT_any {l : List ByteArray} {v : ByteArray} : l.any (isT v) = true ↔ v ∈ l := by
 rw [List.any_eq_true]
 exact ⟨fun ⟨x, hx, h⟩ => by have : v = x := by simpa [isT] using h
                             rw [this]; exact hx, fun h => ⟨v, h, by simp [isT]⟩⟩
theorem varsP_own {p : Pg} (h : ChOk p) {q : Pr} (hq : q ∈ p.procs) : varsP p q.nm = namesP p.globals q := by
 unfold varsP
 rw [if_pos h.may, find_own _ h.procs q hq]
 rfl
/-- one procedure has a name more: a variable or a parameter -/
theorem chk_set {p : Pg} (h : ChOk p) {k : Nat} (hk : k < p.procs.length) {f : Pr → Pr} (hfn : ∀ q, (f q).nm = q.nm) (hfb : ∀ q, (f q).body = q.body) {nm : ByteArray} (hkn : ∀ q v, knd p.globals q v ≠ 0 → knd p.globals (f q) v ≠ 0)
  (hd : ∀ q, (namesP p.globals q).Nodup → ((namesP p.globals (f q)).Nodup ↔ nm ∉ namesP p.globals q)) (hm : mayP ⟨p.globals, p.procs.set k (f p.procs[k])⟩ = true) :
  chkP ⟨p.globals, p.procs.set k (f p.procs[k])⟩ = if (mainBad ⟨p.globals, p.procs.set k (f p.procs[k])⟩ || (varsP p p.procs[k].nm).any (isT nm)) = true then (5, 0) else (0, 0) := by
 have hmap : (p.procs.set k (f p.procs[k])).map Pr.nm = p.procs.map Pr.nm := map_nm_set hfn hk
 have hmem : ∀ q ∈ p.procs.set k (f p.procs[k]), q ∈ p.procs ∨ q = f p.procs[k] := fun q hq => List.mem_or_eq_of_mem_set hq
 rw [chk_names hm (by
  show ∀ q ∈ p.procs.set k (f p.procs[k]), ∀ s ∈ preSL q.body, badS p.globals q ((p.procs.set k (f p.procs[k])).map Pr.nm) s = false
  intro q hq s hs
  rw [hmap]
  rcases hmem q hq with hq | rfl
  ·exact h.stm q hq s hs
  ·rw [hfb] at hs
   exact bad_more (hkn _) (h.stm _ (List.getElem_mem hk) s hs))]
 unfold hdBad
 show (if (mainBad ⟨p.globals, p.procs.set k (f p.procs[k])⟩ || dup p.globals || dup ((p.procs.set k (f p.procs[k])).map Pr.nm) || (p.procs.set k (f p.procs[k])).any (fun q => dup (namesP p.globals q))) = true then _ else _) = _
 rw [hmap, dup_of h.glob, dup_of h.procs, varsP_own h (List.getElem_mem hk), Bool.or_false, Bool.or_false]
 have hany : (p.procs.set k (f p.procs[k])).any (fun q => dup (namesP p.globals q)) = (namesP p.globals p.procs[k]).any (isT nm) := by
  rw [Bool.eq_iff_iff, List.any_eq_true, isT_any]
  have hh := hd _ (h.names _ (List.getElem_mem hk))
  constructor
  ·rintro ⟨q, hq, hdq⟩
   rcases hmem q hq with hq | rfl
   ·rw [dup_of (h.names q hq)] at hdq; cases hdq
   ·refine Classical.byContradiction fun hn => ?_
    rw [dup_of (hh.2 hn)] at hdq; cases hdq
  ·intro hn
   exact ⟨f p.procs[k], List.mem_iff_getElem.2 ⟨k, by simpa using hk, by simp⟩, dup_true (fun hx => hh.1 hx hn)⟩
 rw [hany]
theorem nodup_snoc {A B : List ByteArray} {nm : ByteArray} (h : (A ++ B).Nodup) : (A ++ [nm] ++ B).Nodup ↔ nm ∉ A ++ B := by
 have hp : List.Perm (A ++ [nm] ++ B) (nm :: (A ++ B)) := by
  rw [List.append_assoc]
  exact List.perm_middle
 rw [hp.nodup_iff, List.nodup_cons]
 exact ⟨fun h => h.1, fun hn => ⟨hn, h⟩⟩
theorem main_set {p : Pg} {k : Nat} (hk : k < p.procs.length) {f : Pr → Pr} (hfn : ∀ q, (f q).nm = q.nm) (hp : (p.procs.map Pr.nm).Nodup) (hmn : mainBad p = false) : mainBad ⟨p.globals, p.procs.set k (f p.procs[k])⟩ = (isQ mainB p.procs[k] && decide (0 < (f p.procs[k]).params.length)) := by
 have key : ∀ (l : List Pr) (k : Nat) (hk : k < l.length), (l.map Pr.nm).Nodup → (l.find? (isQ mainB)).elim true (fun q => decide (0 < q.params.length)) = false → ((l.set k (f l[k])).find? (isQ mainB)).elim true (fun q => decide (0 < q.params.length)) = (isQ mainB l[k] && decide (0 < (f l[k]).params.length)) := by
  intro l
  induction l with
  | nil => intro k hk; cases hk
  | cons x l ih =>
   intro k hk hp hmn
   rw [List.map_cons, List.nodup_cons] at hp
   rw [List.find?_cons] at hmn
   cases k with
   | zero =>
    simp only [List.set_cons_zero, List.getElem_cons_zero]
    rw [List.find?_cons]
    have : isQ mainB (f x) = isQ mainB x := by unfold isQ; rw [hfn]
    rw [this]
    cases hx : isQ mainB x with
    | true => simp
    | false =>
     rw [hx] at hmn
     simpa using hmn
   | succ k =>
    simp only [List.set_cons_succ, List.getElem_cons_succ]
    rw [List.find?_cons]
    have hk' : k < l.length := by simpa using hk
    cases hx : isQ mainB x with
    | true =>
     rw [hx] at hmn
     have hne : isQ mainB l[k] = false := by
      unfold isQ at hx ⊢
      refine decide_eq_false (fun e => hp.1 ?_)
      rw [of_decide_eq_true hx, ← e]
      exact List.mem_map_of_mem (List.getElem_mem hk')
     rw [hne]
     simpa using hmn
    | false =>
     rw [hx] at hmn
     exact ih k hk' hp.2 hmn
 exact key p.procs k hk hp hmn
/-- a variable more -/
theorem chk_adV {p : Pg} (h : ChOk p) {k : Nat} (hk : k < p.procs.length) {nm : ByteArray} (hm : mayP ⟨p.globals, p.procs.set k (adV nm p.procs[k])⟩ = true) :
  chkP ⟨p.globals, p.procs.set k (adV nm p.procs[k])⟩ = if (varsP p p.procs[k].nm).any (isT nm) = true then (5, 0) else (0, 0) := by
 rw [chk_set h hk (f := adV nm) (nm := nm) (fun _ => rfl) (fun _ => rfl) (fun q v => knd_adV) (fun q hq => by
  unfold namesP at hq ⊢
  have := nodup_snoc (A := p.globals ++ q.params.map Pa.nm ++ q.vars) (B := []) (nm := nm) (by simpa using hq)
  simpa [adV, List.append_assoc] using this) hm, main_set hk (f := adV nm) (fun _ => rfl) h.procs h.main]
 have : (isQ mainB p.procs[k] && decide (0 < (adV nm p.procs[k]).params.length)) = false := by
  cases hq : isQ mainB p.procs[k] with
  | false => rfl
  | true =>
   have hmn := h.main
   unfold mainBad at hmn
   have hnm : p.procs[k].nm = mainB := of_decide_eq_true hq
   have hf := find_own _ h.procs p.procs[k] (List.getElem_mem hk)
   rw [hnm] at hf
   rw [hf] at hmn
   exact hmn
 rw [this, Bool.false_or]
/-- a parameter more -/
theorem chk_adP {p : Pg} (h : ChOk p) {k : Nat} (hk : k < p.procs.length) {nm : ByteArray} (hm : mayP ⟨p.globals, p.procs.set k (adP nm p.procs[k])⟩ = true) :
  chkP ⟨p.globals, p.procs.set k (adP nm p.procs[k])⟩ = if ((varsP p p.procs[k].nm).any (isT nm) || isQ mainB p.procs[k]) = true then (5, 0) else (0, 0) := by
 rw [chk_set h hk (f := adP nm) (nm := nm) (fun _ => rfl) (fun _ => rfl) (fun q v => knd_adP) (fun q hq => by
  unfold namesP at hq ⊢
  have := nodup_snoc (A := p.globals ++ q.params.map Pa.nm) (B := q.vars) (nm := nm) (by simpa using hq)
  simpa [adP, List.append_assoc] using this) hm, main_set hk (f := adP nm) (fun _ => rfl) h.procs h.main]
 have : decide (0 < (adP nm p.procs[k]).params.length) = true := by simp [adP]
 rw [this, Bool.and_true, Bool.or_comm]
/-- a global more -/
theorem chk_glob {p : Pg} (h : ChOk p) {k : Nat} (hk : k < p.procs.length) {nm : ByteArray} (hm : mayP ⟨p.globals ++ [nm], p.procs⟩ = true) :
  chkP ⟨p.globals ++ [nm], p.procs⟩ = if ((varsP p p.procs[k].nm).any (isT nm) || p.procs.any (fun q => (varsP p q.nm).any (isT nm))) = true then (5, 0) else (0, 0) := by
 rw [chk_names hm (fun q hq s hs => bad_more (fun v => knd_glob) (h.stm q hq s hs))]
 congr 1
 rw [eq_iff_iff]
 have hmb : mainBad ⟨p.globals ++ [nm], p.procs⟩ = false := h.main
 have hpn := dup_of h.procs
 have hone : ∀ q ∈ p.procs, ((varsP p q.nm).any (isT nm) = true ↔ dup (namesP (p.globals ++ [nm]) q) = true) := by
  intro q hq
  rw [varsP_own h hq, isT_any]
  have := nodup_snoc (A := p.globals) (B := q.params.map Pa.nm ++ q.vars) (nm := nm) (by have := h.names q hq; unfold namesP at this; simpa [List.append_assoc] using this)
  constructor
  ·intro hn
   refine dup_true fun hx => ?_
   unfold namesP at hx hn
   exact this.1 (by simpa [List.append_assoc] using hx) (by simpa [List.append_assoc] using hn)
  ·intro hd
   refine Classical.byContradiction fun hn => ?_
   unfold namesP at hn hd
   rw [dup_of (by have h2 := this.2 (by simpa [List.append_assoc] using hn); simpa [List.append_assoc] using h2)] at hd
   cases hd
 have hgl : dup (p.globals ++ [nm]) = true → (varsP p p.procs[k].nm).any (isT nm) = true := by
  intro hd
  rw [varsP_own h (List.getElem_mem hk), isT_any]
  refine Classical.byContradiction fun hn => ?_
  have h2 := (nodup_snoc (A := p.globals) (B := []) (nm := nm) (by simpa using h.glob)).2 (fun hx => hn (by unfold namesP; simp only [List.append_nil] at hx; simp [hx]))
  rw [dup_of (by simpa using h2)] at hd
  cases hd
 unfold hdBad
 simp only [hmb, hpn, Bool.or_eq_true, Bool.false_or, Bool.or_false, List.any_eq_true]
 constructor
 ·rintro (hd | ⟨q, hq, hd⟩)
  ·exact .inl (by have := hgl hd; rwa [List.any_eq_true] at this)
  ·exact .inr ⟨q, hq, by have := (hone q hq).2 hd; rwa [List.any_eq_true] at this⟩
 ·rintro (hd | ⟨q, hq, hd⟩)
  ·exact .inr ⟨p.procs[k], List.getElem_mem hk, (hone _ (List.getElem_mem hk)).1 (by rwa [List.any_eq_true])⟩
  ·exact .inr ⟨q, hq, (hone q hq).1 (by rwa [List.any_eq_true])⟩
end Go.Proofs.Ytcocilpifdjibaa
namespace Go.Proofs.Ytcocilpifdjibaa
open Go.ChangeShapes Go.WideShapes Go.ChangeAt Go.RowKit Go.Deep
set_option linter.unusedVariables false
set_option linter.unusedSimpArgs false
theorem flat_turn {C : Nat} : ∀ {rows : List (List Value)}, (∀ r ∈ rows, r.length = C) → ∀ (k j : Nat) (u : Value), k < rows.length → j < C → (rows.set k ((rows.getD k []).set j u)).flatten = rows.flatten.set (k * C + j) u
  | [], _, k, j, u, hk, _ => absurd hk (by simp)
  | r :: rows, h, 0, j, u, hk, hj => by
    have hr := h r (List.mem_cons_self ..)
    simp only [List.set_cons_zero, List.getD_cons_zero, List.flatten_cons, Nat.zero_mul, Nat.zero_add]
    rw [List.set_append_left _ _ (by omega)]
  | r :: rows, h, k + 1, j, u, hk, hj => by
    have hr := h r (List.mem_cons_self ..)
    have ih := flat_turn (fun r hr => h r (List.mem_cons_of_mem _ hr)) k j u (by simpa using hk) hj
    simp only [List.set_cons_succ, List.getD_cons_succ, List.flatten_cons]
    rw [ih, List.set_append_right _ _ (by rw [Nat.succ_mul]; omega)]
    congr 2
    rw [Nat.succ_mul]
    omega
theorem flat_cell {C : Nat} : ∀ {rows : List (List Value)}, (∀ r ∈ rows, r.length = C) → ∀ (k j : Nat), k < rows.length → j < C → rows.flatten[k * C + j]? = (rows.getD k [])[j]?
  | [], _, k, j, hk, _ => absurd hk (by simp)
  | r :: rows, h, 0, j, hk, hj => by
    have hr := h r (List.mem_cons_self ..)
    simp only [List.getD_cons_zero, List.flatten_cons, Nat.zero_mul, Nat.zero_add]
    rw [List.getElem?_append_left (by omega)]
  | r :: rows, h, k + 1, j, hk, hj => by
    have hr := h r (List.mem_cons_self ..)
    have ih := flat_cell (fun r hr => h r (List.mem_cons_of_mem _ hr)) k j (by simpa using hk) hj
    simp only [List.getD_cons_succ, List.flatten_cons]
    rw [List.getElem?_append_right (by rw [Nat.succ_mul]; omega), ← ih]
    congr 1
    rw [Nat.succ_mul]
    omega
theorem all2_at {α : Type} {R : α → List Value → Prop} : ∀ {l : List α} {rows : List (List Value)}, rows.length = l.length → (∀ i (h : i < l.length), R l[i] (rows.getD i [])) → All2 R l rows
  | [], [], _, _ => trivial
  | x :: l, c :: r, hl, h => ⟨h 0 (by simp), all2_at (by simpa using hl) (fun i hi => by have := h (i + 1) (by simpa using hi); simpa using this)⟩
  | [], _ :: _, hl, _ => by simp at hl
  | _ :: _, [], hl, _ => by simp at hl
theorem prk_len {w : World} {Q : Nat → Prop} {x : Pr × Nat × Nat} {cs : List Value} (h : PrK w Q x cs) : cs.length = 5 := by
  obtain ⟨vp, vv, vb, ve, m1, m2, rfl, _⟩ := h
  rfl
/-- the cells of one element -/
theorem prk_row {w : World} {base g n cap : Nat} {outs : List (Pr × Nat × Nat)} (h : BuildI w base 59 5 PrK outs (.slice (some ⟨g, 0, none⟩) n cap)) {k : Nat} (hk : k < outs.length) :
    ∃ cs, PrK w (fun b => (base ≤ b ∧ b < w.heap.size) ∧ b ≠ g) outs[k] cs ∧ (∀ i u, cs[i]? = some u → w.cell? ⟨g, k * 5 + i, none⟩ = some u) ∧ (∀ i, w.frozen? ⟨g, i, none⟩ = false) ∧ g < w.heap.size ∧ base ≤ g ∧ n = outs.length := by
  obtain ⟨rows, ho, ha⟩ := h
  have hlen : ∀ r ∈ rows, r.length = 5 := ha.mem_len (fun x cs h => prk_len h)
  have hrl := ha.len
  have hp := ha.at_ k hk
  refine ⟨rows.getD k [], stayK hp (fun b hb => ⟨hb.1, fun e => hb.2 (by rw [e]; rfl)⟩) (fun _ _ => rfl), ?_, ?_⟩
  · intro i u hu
    have hi : i < 5 := by rw [← prk_len hp]; exact (List.getElem?_eq_some_iff.1 hu).1
    obtain ⟨_, _, hcc, _⟩ := own_form ho
    injection hcc with _ e2 _
    subst e2
    have hc := World.ownsRow.cellAt ho (k * 5 + i) (by omega)
    rw [hc, flat_cell hlen k i (by omega) hi]
    exact hu
  · obtain ⟨_, _, hcc, _⟩ := own_form ho
    injection hcc with _ e2 _
    subst e2
    exact ⟨fun i => World.ownsRow.frozenAt ho i, (ho.lt g rfl).2, (ho.lt g rfl).1, rfl⟩
/-- one cell of one element is turned, behind a step that moved nothing but a block of that element -/
theorem build_turn {w w' : World} {base g n cap : Nat} {outs : List (Pr × Nat × Nat)} (h : BuildI w base 59 5 PrK outs (.slice (some ⟨g, 0, none⟩) n cap)) (hap : Apart base w.heap.size outs) {k : Nat} (hk : k < outs.length) {vb : Option Nat} (hm : Moves (fun b => vb = some b) w w') (hin : ∀ b, vb = some b → (outs[k].2.1 ≤ b ∧ b < outs[k].2.2) ∧ b ≠ g) {j : Nat} (hj : j < 5) (u : Value) {x' : Pr}
    (hnew : ∀ cs, (∀ i u, cs[i]? = some u → w.cell? ⟨g, k * 5 + i, none⟩ = some u) → PrK w (fun b => (base ≤ b ∧ b < w.heap.size) ∧ b ≠ g) outs[k] cs → ProcI w' (fun b => (base ≤ b ∧ b < w'.heap.size) ∧ b ≠ g) x' (cs.set j u)) :
    BuildI (w'.setCell ⟨g, k * 5 + j, none⟩ u) base 59 5 (fun w Q => ProcI w Q) ((outs.map Prod.fst).set k x') (.slice (some ⟨g, 0, none⟩) n cap) := by
  obtain ⟨cs0, hc0, hcell0, _, hgl, hbg, hn⟩ := prk_row h hk
  obtain ⟨rows, ho, ha⟩ := h
  have hlen : ∀ r ∈ rows, r.length = 5 := ha.mem_len (fun x cs h => prk_len h)
  have hrl := ha.len
  have hz := hm.size
  have ho' : w'.ownsRow base 59 5 (.slice (some ⟨g, 0, none⟩) n cap) outs.length rows.flatten := own_stay ho (fun b hb => hm.block b (ho.lt b hb).2 (fun e => (hin b e).2 (Option.some.inj hb).symm))
  have hcs : ∀ i (hi : i < outs.length), PrK w (fun b => (base ≤ b ∧ b < w.heap.size) ∧ b ≠ g) outs[i] (rows.getD i []) := fun i hi => stayK (ha.at_ i hi) (fun b hb => ⟨hb.1, fun e => hb.2 (by rw [e]; rfl)⟩) (fun _ _ => rfl)
  refine ⟨rows.set k ((rows.getD k []).set j u), ?_, ?_⟩
  · obtain ⟨hl, h⟩ := ho'
    rcases h with ⟨h, _⟩ | ⟨g', cap', cur, he, hb, hg, h1, h2, h3, h4⟩
    · cases h
    · injection he with e1 e2 e3
      injection e1 with e1
      injection e1 with e1 _ _
      subst e1 e2 e3
      rw [flat_turn hlen k j u (by omega) hj]
      refine ⟨by rw [List.length_set, List.length_set, List.length_map]; exact hl, .inr ⟨g, cap, cur.setIfInBounds (k * 5 + j) u, by rw [List.length_set, List.length_map], hb, Blk.set_ (w := w') (t := 59) (cs := cur) hg _ _, by rw [List.length_set, List.length_map]; exact h1, h2, by rw [Array.size_setIfInBounds]; exact h3, ?_⟩⟩
      rw [List.length_set, List.length_map, Array.toList_setIfInBounds, List.take_set, h4]
  · refine all2_at (by simp [hrl]) (fun i hi => ?_)
    have hi' : i < outs.length := by simpa using hi
    have fin : ∀ (y : Pr) (cy : List Value), ProcI w' (fun b => (base ≤ b ∧ b < w'.heap.size) ∧ b ≠ g) y cy → ProcI (w'.setCell ⟨g, k * 5 + j, none⟩ u) (fun b => (base ≤ b ∧ b < (w'.setCell ⟨g, k * 5 + j, none⟩ u).heap.size) ∧ (Value.slice (some ⟨g, 0, none⟩) n cap).ownBlock ≠ some b) y cy := fun y cy hy =>
      hy.keep (fun b hb => ⟨⟨hb.1.1, by simp only [size_set]; exact hb.1.2⟩, fun e => hb.2 (Option.some.inj e).symm⟩) (fun p hp => cell_set_ne _ (fun e => hp.2 (by rw [e])))
    by_cases hik : i = k
    · subst hik
      have e1 : ((outs.map Prod.fst).set i x')[i] = x' := by simp
      have e2 : (rows.set i ((rows.getD i []).set j u)).getD i [] = (rows.getD i []).set j u := by
        rw [List.getD_eq_getElem?_getD, List.getElem?_set_self (by omega)]; rfl
      rw [e1, e2]
      refine fin _ _ (hnew _ (fun m v hv => ?_) (hcs i hi'))
      have hm5 : m < 5 := by rw [← prk_len (hcs i hi')]; exact (List.getElem?_eq_some_iff.1 hv).1
      subst hn
      rw [World.ownsRow.cellAt ho (i * 5 + m) (by omega), flat_cell hlen i m (by omega) hm5]
      exact hv
    · have e1 : ((outs.map Prod.fst).set k x')[i] = outs[i].1 := by rw [List.getElem_set_ne (fun e => hik e.symm), List.getElem_map]
      have e2 : (rows.set k ((rows.getD k []).set j u)).getD i [] = rows.getD i [] := by
        rw [List.getD_eq_getElem?_getD, List.getElem?_set_ne (fun e => hik e.symm), ← List.getD_eq_getElem?_getD]
      rw [e1, e2]
      have hd : ∀ b, (outs[i].2.1 ≤ b ∧ b < outs[i].2.2) → ¬ vb = some b := by
        intro b hb e
        have hk2 := (hin b e).1
        have hpw := List.pairwise_iff_getElem.1 hap.1
        rcases Nat.lt_or_gt_of_ne hik with hlt | hgt
        · have := hpw i k hi' hk hlt; omega
        · have := hpw k i hk hi' hgt; omega
      exact fin _ _ ((hcs i hi').proc.keep (fun b hb => ⟨⟨hb.2.1.1, by have := hb.2.1.2; omega⟩, hb.2.2⟩) (fun p hp => hm.cell hp.2.1.2 (hd _ hp.1)))
end Go.Proofs.Ytcocilpifdjibaa
