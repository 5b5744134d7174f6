/- Texts, merged by a program; only what is used. -/
import Derived.ArgAppend
import Derived.Test.YtimejkbmfbjomaaK1
import Derived.Test.YtimejkbmfbjomaaK2
import Derived.Test.YtimejkbmfbjomaaK3
import Derived.Test.YtimejkbmfbjomaaK4
import Derived.Test.YtimejkbmfbjomaaK5
import Derived.Test.YtimejkbmfbjomaaK6
import Derived.Test.YtimejkbmfbjomaaK7
import Derived.Test.YtimejkbmfbjomaaK8
import Derived.Test.YtimejkbmfbjomaaK9
import Derived.Test.YtimejkbmfbjomaaK10
import Derived.Test.YtimejkbmfbjomaaK11
import Derived.Test.YtimejkbmfbjomaaK12
import Derived.Test.YtimejkbmfbjomaaK13
import Derived.Test.YtimejkbmfbjomaaK14
import Derived.Test.YtimejkbmfbjomaaK15
import Derived.Test.YtimejkbmfbjomaaK16
import Derived.Test.YtimejkbmfbjomaaK17
import Derived.Test.YtimejkbmfbjomaaK18
namespace Go.Proofs.Ytimejkbmfbjomaa
open Go.ChangeShapes Go.WideShapes Go.ChangeAt Go.RowKit Go.Deep
set_option linter.unusedVariables false
set_option linter.unusedSimpArgs false
structure AhI (w : World) (Q : Nat → Prop) (B : Nat) (W : World) (v : Value) (l : List Pr) : Prop where
 ex : ∃ (g o cap : Nat) (rows : List (List Value)), v = .slice (some ⟨g, o, none⟩) l.length cap ∧ l.length ≤ cap ∧ cap ≤ 9223372036854775807 ∧ B ≤ g ∧ (∃ t cs, Blk W g t cs) ∧ All2 (ProcI w Q) l rows ∧ (∀ j u, rows.flatten[j]? = some u → W.cell? ⟨g, o + j, none⟩ = some u) ∧ (∀ j, j < cap * 5 → (W.cell? ⟨g, o + j, none⟩).isSome = true)
section
variable {w W W' : World} {Q : Nat → Prop} {B b n : Nat} {f : ByteArray → Bool} {v : Value} {l r : List Pr} {q : Pr}
theorem AhI.keep (h : AhI w Q B W v l) (hb : ∀ g, B ≤ g → (∃ t cs, Blk W g t cs) → W'.heap[g]? = W.heap[g]?) : AhI w Q B W' v l := by
 obtain ⟨g, o, cap, rows, h1, h2, h3, h4, h5, h6, h7, h8⟩ := h.ex
 have hg := hb g h4 h5
 have hc : ∀ j, W'.cell? ⟨g, j, none⟩ = W.cell? ⟨g, j, none⟩ := fun j => World.cell?_of_block (a := ⟨g, j, none⟩) hg
 obtain ⟨t, cs, h5⟩ := h5
 exact ⟨g, o, cap, rows, h1, h2, h3, h4, ⟨t, cs, hg.trans h5⟩, h6, fun j u hu => (hc _).trans (h7 j u hu), fun j hj => by rw [hc]; exact h8 j hj⟩
theorem AhI.below (h : AhI w Q B W v l) (hb : Below W.heap.size W W') : AhI w Q B W' v l := h.keep (fun g _ ⟨t, cs, h⟩ => hb.block g h.lt)
theorem blk_not_map {g : Nat} {t : TypeId} {cs : Array Value} (hB : Blk W g t cs) (hS : SetI W b n f) : g ≠ b := by
 rintro rfl
 obtain ⟨D, ⟨es, clock, h1, _⟩, _⟩ := hS
 have h2 : W.heap[g]? = some (.cells cs t (0, 0)) := hB
 rw [h1] at h2
 cases h2
theorem AhI.moves (h : AhI w Q B W v l) (hS : SetI W b n f) (hm : Moves (fun j => j = b) W W') : AhI w Q B W' v l := h.keep (fun g _ ⟨t, cs, hB⟩ => hm.block g hB.lt (fun e => blk_not_map hB hS e))
theorem proc_len {cs : List Value} (h : ProcI w Q q cs) : cs.length = 5 := by
 obtain ⟨vp, vv, vb, ve, rfl, _⟩ := h
 rfl
theorem procs_len : ∀ {l : List Pr} {rows : List (List Value)}, All2 (ProcI w Q) l rows → rows.flatten.length = l.length * 5
 | [], [], _ => rfl
 | x :: l, c :: rows, h => by
  rw [List.flatten_cons, List.length_append, proc_len h.1, procs_len h.2, List.length_cons]
  omega
theorem AhI.head (h : AhI w Q B W v (q :: r)) : ∃ (g o cap : Nat) (Bp : Option Addr) (kp : Nat) (Bv : Option Addr) (kv : Nat) (Bb : Option Addr) (kb : Nat) (Be : Option Addr) (ke : Nat), v = .slice (some ⟨g, o, none⟩) (r.length + 1) cap ∧ r.length + 1 ≤ cap ∧ cap ≤ 9223372036854775807 ∧ RowAt W ⟨g, o, none⟩ (.string q.nm) [.slice Bp q.params.length kp, .slice Bv q.vars.length kv, .slice Bb q.body.length kb, .slice Be q.end_.length ke] ∧ ProcI w Q q [.string q.nm, .slice Bp q.params.length kp, .slice Bv q.vars.length kv, .slice Bb q.body.length kb, .slice Be q.end_.length ke] ∧
  AhI w Q B W (.slice (some ⟨g, o, none⟩) (r.length + 1) cap) (q :: r) ∧ (cap = 1 → AhI w Q B W (.slice (some ⟨g, o, none⟩) r.length (cap - 1)) r) ∧ (cap ≠ 1 → AhI w Q B W (.slice (some ⟨g, o + 5, none⟩) r.length (cap - 1)) r) := by
 have h0 := h
 obtain ⟨g, o, cap, rows, h1, h2, h3, h4, h5, h6, h7, h8⟩ := h.ex
 cases rows with
 | nil => exact h6.elim
 | cons c rows =>
  obtain ⟨h9, h10⟩ := h6
  have h9' := h9
  obtain ⟨vp, vv, vb, ve, rfl, hn, hpp, hvv, hbb, hee⟩ := h9'
  obtain ⟨Bp, kp, rfl, _⟩ := hpp.shape
  obtain ⟨Bv, kv, rfl, _⟩ := hvv.shape
  obtain ⟨Bb, kb, rfl, _⟩ := hbb.shape
  obtain ⟨Be, ke, rfl, _⟩ := hee.shape
  rw [List.length_cons] at h1 h2
  have hr := procs_len h10
  refine ⟨g, o, cap, Bp, kp, Bv, kv, Bb, kb, Be, ke, h1, h2, h3, ?_, h9, h1 ▸ h0, ?_, ?_⟩
  ·refine rowAt_of (fun j u hu => ?_)
   have := h7 j u (by rw [List.flatten_cons, List.getElem?_append_left (by have := (List.getElem?_eq_some_iff.1 hu).1; simpa using this)]; exact hu)
   rw [Addr.add_lit]
   exact this
  ·intro hc
   have hr0 : r.length = 0 := by omega
   obtain rfl : r = [] := List.eq_nil_of_length_eq_zero hr0
   have hrw : rows = [] := by cases rows with | nil => rfl | cons c rows => exact h10.elim
   subst hrw
   exact ⟨g, o, cap - 1, [], rfl, by simp, by omega, h4, h5, h10, fun j u hu => by simp at hu, fun j hj => by omega⟩
  ·intro hc
   refine ⟨g, o + 5, cap - 1, rows, rfl, by omega, by omega, h4, h5, h10, fun j u hu => ?_, fun j hj => ?_⟩
   ·have := h7 (5 + j) u (by rw [List.flatten_cons, List.getElem?_append_right (by simp)]; simpa using hu)
    rw [← Nat.add_assoc] at this
    exact this
   ·have := h8 (5 + j) (by omega)
    rw [← Nat.add_assoc] at this
    exact this
theorem AhI.one {g : Nat} {cs : Array Value} (hB : Blk W g 45 cs) (hg : B ≤ g) (hp : ProcI w Q q cs.toList) : AhI w Q B W (.slice (some ⟨g, 0, none⟩) 1 1) [q] := by
 have hl := proc_len hp
 refine ⟨g, 0, 1, [cs.toList], rfl, by simp, by omega, hg, ⟨_, _, hB⟩, ⟨hp, trivial⟩, fun j u hu => ?_, fun j hj => ?_⟩
 ·rw [Nat.zero_add, hB.cell]
  simpa using hu
 ·rw [Nat.zero_add, hB.cell]
  have : j < cs.size := by rw [← Array.length_toList]; omega
  simp [this]
end
end Go.Proofs.Ytimejkbmfbjomaa
namespace Go.Proofs.Ytimejkbmfbjomaa
open Go.ChangeShapes Go.WideShapes Go.ChangeAt Go.RowKit Go.Deep
set_option linter.unusedVariables false
set_option linter.unusedSimpArgs false
/-- below B all is as it was, and so are all sets -/
structure Mv (B : Nat) (W W' : World) : Prop where
 below : Below B W W'
 maps : ∀ b n f, SetI W b n f → SetI W' b n f
theorem heap_setCells {g k : Nat} (hk : k ≠ g) : ∀ (vs : List Value) (o : Nat) (W : World), (W.setCells g o vs).heap[k]? = W.heap[k]?
 | [], _, _ => rfl
 | v :: r, o, W => by rw [World.setCells, heap_setCells hk r (o + 1) _]; exact Below.heap_setCell _ _ _ _ hk
theorem blk_setCells {g : Nat} : ∀ (vs : List Value) (o : Nat) (W : World), (∃ t cs, Blk W g t cs) → ∃ t cs, Blk (W.setCells g o vs) g t cs
 | [], _, _, h => h
 | v :: r, o, W, ⟨t, cs, h⟩ => by rw [World.setCells]; exact blk_setCells r (o + 1) _ ⟨t, _, h.set_ o v⟩
theorem below_setCells {B g : Nat} (hg : B ≤ g) {A : World} : ∀ (vs : List Value) (o : Nat) (W : World), Below B A W → Below B A (W.setCells g o vs)
 | [], _, _, h => h
 | v :: r, o, W, h => by rw [World.setCells]; exact below_setCells hg r (o + 1) _ (below_setc (p := ⟨g, o, none⟩) h hg v)
theorem ah_grown {w W W' : World} {Q : Nat → Prop} {B : Nat} {v' : Value} {l : List Pr} {q : Pr} {rows : List (List Value)} {c : List Value} (hB : B ≤ W.heap.size) (hr : All2 (ProcI w Q) l rows) (hc : ProcI w Q q c) (h : W'.ownsRow W.heap.size 45 5 v' (l.length + 1) (rows.flatten ++ c)) : AhI w Q B W' v' (l ++ [q]) := by
 obtain ⟨h0, h⟩ := h
 have hfl := procs_len hr
 have hcl := proc_len hc
 rcases h with ⟨_, h1⟩ | ⟨g, cap, cur, rfl, hb, hg, hnc, hcm, hsz, htk⟩
 ·omega
 ·have hcm' : cap ≤ 9223372036854775807 := hcm
  have hcell : ∀ j, W'.cell? ⟨g, j, none⟩ = cur[j]? := fun j => cell_of_row W' g j cur _ (0, 0) hg
  refine ⟨g, 0, cap, rows ++ [c], by rw [List.length_append]; rfl, by simpa using hnc, hcm', by omega, ⟨_, _, hg⟩, All2.append hr ⟨hc, trivial⟩, fun j u hu => ?_, fun j hj => ?_⟩
  ·rw [Nat.zero_add, hcell, ← Array.getElem?_toList]
   have hj : j < (l.length + 1) * 5 := by
    have := (List.getElem?_eq_some_iff.1 hu).1
    simp only [List.flatten_append, List.length_append, List.flatten_cons, List.flatten_nil, List.append_nil] at this
    omega
   have h3 : (cur.toList.take ((l.length + 1) * 5))[j]? = some u := by
    rw [htk]
    simpa using hu
   rw [List.getElem?_take_of_lt hj] at h3
   exact h3
  ·rw [Nat.zero_add, hcell]
   have : j < cur.size := by omega
   simp [this]
theorem wpList_append_ah {ops : Array Oper} {rest : List Oper} {o : Oper} {a : Act} {QQ : Exit → Act → World → Prop} {w W : World} {Q : Nat → Prop} {B : Nat} {l : List Pr} {v : Value} {q : Pr} {g2 c2 : Nat} {cs : Array Value} (hgd : o.guard = none) (s x : Operand)
 (ho : o.op = .call { callee := .builtin .append, args := #[s, x], argTypes := #[23, 23] }) (hs : a.eval s = v) (h : AhI w Q B W v l) (hx : a.eval x = .slice (some ⟨g2, 0, none⟩) 1 c2) (h2 : Blk W g2 45 cs) (hq : ProcI w Q q cs.toList) (hl : l.length + 1 ≤ 1000000) (hB : B ≤ W.heap.size)
 (hk : ∀ v' w', AhI w Q B w' v' (l ++ [q]) → Mv B W w' → wpList Try.prog ops QQ rest (a.put o.dst v') w') : wpList Try.prog ops QQ (o :: rest) a W := by
 obtain ⟨i0, hi, hz0, hz1, hz2⟩ := info_parts proc_info
 obtain ⟨g, of, cap, rows, rfl, h3, h4, h5, h6, h7, h8, h9⟩ := h.ex
 have hfl := procs_len h7
 have hcl := proc_len hq
 obtain ⟨t6, cs6, hB6⟩ := h6
 have hone : ∀ u ∈ cs.toList, u.oneCell' = true := by
  obtain ⟨vp, vv, vb, ve, hc, _, hpp, hvv, hbb, hee⟩ := hq
  obtain ⟨_, _, rfl, _⟩ := hpp.shape
  obtain ⟨_, _, rfl, _⟩ := hvv.shape
  obtain ⟨_, _, rfl, _⟩ := hbb.shape
  obtain ⟨_, _, rfl, _⟩ := hee.shape
  rw [hc]
  intro u hu
  simp only [List.mem_cons, List.not_mem_nil, or_false] at hu
  rcases hu with rfl | rfl | rfl | rfl | rfl <;> rfl
 refine wpList_append_arg W hgd s x 23 ho 45 i0 _ 5 112 Try.underlying23 hi hz0 hz1 hz2 rfl (by decide) g of l.length cap rows.flatten hs hfl h8 ⟨g2, 0, none⟩ 1 c2 cs.toList hx (by omega) (fun j u hu => by rw [Addr.add_lit, Nat.zero_add, h2.cell]; simpa using hu) hone ?_ (by unfold maxLen; omega) (by omega) ?_ ?_
 ·intro hr j hj
  have := h9 (l.length * 5 + j) (by omega)
  rw [← Nat.add_assoc] at this
  exact ⟨this, hB6.frozen _⟩
 ·intro hr
  have hin : ∀ j, j < cs.toList.length → (W.cell? ⟨g, of + l.length * 5 + j, none⟩).isSome = true := fun j hj => by
   have := h9 (l.length * 5 + j) (by omega)
   rw [← Nat.add_assoc] at this
   exact this
  refine hk _ _ ⟨g, of, cap, rows ++ [cs.toList], by rw [List.length_append]; rfl, by simpa using hr, h4, h5, blk_setCells _ _ _ ⟨_, _, hB6⟩, All2.append h7 ⟨hq, trivial⟩, fun j u hu => ?_, fun j hj => ?_⟩ ⟨below_setCells h5 _ _ _ (Below.refl _ _), fun b n f hS => hS.same (heap_setCells (fun e => blk_not_map hB6 hS e.symm) _ _ _)⟩
  ·rw [List.flatten_append, List.flatten_cons, List.flatten_nil, List.append_nil] at hu
   by_cases hj : j < rows.flatten.length
   ·rw [List.getElem?_append_left hj] at hu
    rw [World.cell?_setCells_out g _ _ _ _ (fun _ _ => .inl (by show of + j < _; omega))]
    exact h8 j u hu
   ·rw [List.getElem?_append_right (by omega)] at hu
    have hj2 := (List.getElem?_eq_some_iff.1 hu).1
    have := World.cell?_setCells_in g cs.toList (of + l.length * 5) W hin (j - rows.flatten.length) hj2
    rw [show of + j = of + l.length * 5 + (j - rows.flatten.length) by omega, this]
    rw [List.getElem?_eq_getElem hj2] at hu
    exact hu
  ·by_cases hj2 : l.length * 5 ≤ j ∧ j < l.length * 5 + cs.toList.length
   ·have := World.cell?_setCells_in g cs.toList (of + l.length * 5) W hin (j - l.length * 5) (by omega)
    rw [show of + j = of + l.length * 5 + (j - l.length * 5) by omega, this]
    rfl
   ·rw [World.cell?_setCells_out g _ _ _ _ (fun _ _ => by show of + j < _ ∨ _ ≤ of + j; omega)]
    exact h9 j hj
 ·intro hr v' w' hown hg
  exact hk v' w' (ah_grown hB h7 hq hown) ⟨(Below.refl _ _).grown hg hB (fun j hj => by cases hj), fun b n f hS => hS.kept hg (by simp)⟩
end Go.Proofs.Ytimejkbmfbjomaa
namespace Go.Proofs.Ytimejkbmfbjomaa
open Go.ChangeShapes Go.WideShapes Go.ChangeAt Go.RowKit Go.Deep
set_option linter.unusedVariables false
set_option linter.unusedSimpArgs false
/-- a procedure and all that it calls, by others too -/
inductive RchP (procs : List Pr) (fr : Pr) : Pr → Prop
 | refl : RchP procs fr fr
 | step {q f : Pr} : RchP procs fr q → f ∈ procs → f.nm ∈ callsOf (preSL q.body) → RchP procs fr f
structure BfsI (procs : List Pr) (fr : Pr) (vis ah : List Pr) : Prop where
 sub : ∀ q ∈ vis ++ ah, q ∈ procs ∧ RchP procs fr q
 nd : ((vis ++ ah).map Pr.nm).Nodup
 frm : fr ∈ vis ++ ah
 cl : ∀ q ∈ vis, ∀ f ∈ procs, f.nm ∈ callsOf (preSL q.body) → f.nm ∈ (vis ++ ah).map Pr.nm
/-- within a round: the one at the front is off, procs up to k are looked at -/
structure BfsK (procs : List Pr) (fr : Pr) (vis : List Pr) (q : Pr) (ah : List Pr) (k : Nat) : Prop where
 sub : ∀ x ∈ vis ++ [q] ++ ah, x ∈ procs ∧ RchP procs fr x
 nd : ((vis ++ [q] ++ ah).map Pr.nm).Nodup
 frm : fr ∈ vis ++ [q] ++ ah
 cl : ∀ x ∈ vis, ∀ f ∈ procs, f.nm ∈ callsOf (preSL x.body) → f.nm ∈ (vis ++ [q] ++ ah).map Pr.nm
 clq : ∀ f ∈ procs.take k, f.nm ∈ callsOf (preSL q.body) → f.nm ∈ (vis ++ [q] ++ ah).map Pr.nm
theorem nodup_le : ∀ (a b : List ByteArray), a.Nodup → (∀ x ∈ a, x ∈ b) → a.length ≤ b.length
 | [], b, _, _ => Nat.zero_le _
 | x :: a, b, h, hs => by
  rw [List.nodup_cons] at h
  have h1 := nodup_le a (b.eraseP (fun y => decide (y = x))) h.2 (fun y hy => (List.mem_eraseP_of_neg (by simpa using fun e : y = x => h.1 (e ▸ hy))).2 (hs y (List.mem_cons_of_mem _ hy)))
  have h2 := List.length_eraseP_of_mem (p := fun y => decide (y = x)) (hs x (List.mem_cons_self ..)) (by simp)
  have h3 : 0 < b.length := List.length_pos_of_mem (hs x (List.mem_cons_self ..))
  rw [List.length_cons]; omega
theorem all_le {procs all : List Pr} (hn : (all.map Pr.nm).Nodup) (hs : ∀ q ∈ all, q ∈ procs) : all.length ≤ procs.length := by
 have := nodup_le (all.map Pr.nm) (procs.map Pr.nm) hn (fun x hx => by obtain ⟨q, hq, rfl⟩ := List.mem_map.1 hx; exact List.mem_map_of_mem (hs q hq))
 rwa [List.length_map, List.length_map] at this
theorem BfsI.start {procs : List Pr} {fr : Pr} (h : fr ∈ procs) : BfsI procs fr [] [fr] := ⟨fun q hq => by rw [List.nil_append, List.mem_singleton] at hq; subst hq; exact ⟨h, .refl⟩, by simp, by simp, fun q hq => by cases hq⟩
theorem BfsI.pop {procs : List Pr} {fr : Pr} {vis : List Pr} {q : Pr} {r : List Pr} (h : BfsI procs fr vis (q :: r)) : BfsK procs fr vis q r 0 := by
 have e : vis ++ [q] ++ r = vis ++ q :: r := by simp
 exact ⟨by rw [e]; exact h.sub, by rw [e]; exact h.nd, by rw [e]; exact h.frm, by rw [e]; exact h.cl, fun f hf => by simp at hf⟩
theorem BfsK.done {procs : List Pr} {fr : Pr} {vis : List Pr} {q : Pr} {ah : List Pr} (h : BfsK procs fr vis q ah procs.length) : BfsI procs fr (vis ++ [q]) ah := by
 refine ⟨h.sub, h.nd, h.frm, fun x hx f hf hc => ?_⟩
 rcases List.mem_append.1 hx with hx | hx
 ·exact h.cl x hx f hf hc
 ·rw [List.mem_singleton] at hx
  subst hx
  exact h.clq f (by rw [List.take_length]; exact hf) hc
theorem BfsK.skip {procs : List Pr} {fr : Pr} {vis : List Pr} {q : Pr} {ah : List Pr} {k : Nat} (h : BfsK procs fr vis q ah k) (hk : k < procs.length) (hn : procs[k].nm ∈ callsOf (preSL q.body) → procs[k].nm ∈ (vis ++ [q] ++ ah).map Pr.nm) : BfsK procs fr vis q ah (k + 1) := by
 refine ⟨h.sub, h.nd, h.frm, h.cl, fun f hf hc => ?_⟩
 rw [List.take_succ_eq_append_getElem hk] at hf
 rcases List.mem_append.1 hf with hf | hf
 ·exact h.clq f hf hc
 ·rw [List.mem_singleton] at hf
  subst hf
  exact hn hc
theorem BfsK.add {procs : List Pr} {fr : Pr} {vis : List Pr} {q : Pr} {ah : List Pr} {k : Nat} (h : BfsK procs fr vis q ah k) (hk : k < procs.length) (hc : procs[k].nm ∈ callsOf (preSL q.body)) (hn : procs[k].nm ∉ (vis ++ [q] ++ ah).map Pr.nm) : BfsK procs fr vis q (ah ++ [procs[k]]) (k + 1) := by
 have e : vis ++ [q] ++ (ah ++ [procs[k]]) = (vis ++ [q] ++ ah) ++ [procs[k]] := by simp
 refine ⟨?_, ?_, ?_, ?_, ?_⟩
 ·rw [e]
  intro x hx
  rcases List.mem_append.1 hx with hx | hx
  ·exact h.sub x hx
  ·rw [List.mem_singleton] at hx
   subst hx
   exact ⟨List.getElem_mem hk, .step (h.sub q (by simp)).2 (List.getElem_mem hk) hc⟩
 ·rw [e, List.map_append]
  exact List.nodup_append.2 ⟨h.nd, by simp, fun a ha b hb e => by simp at hb; subst hb; subst e; exact hn ha⟩
 ·rw [e]; exact List.mem_append_left _ h.frm
 ·rw [e, List.map_append]; exact fun x hx f hf hc => List.mem_append_left _ (h.cl x hx f hf hc)
 ·rw [e, List.map_append]
  intro f hf hc2
  rw [List.take_succ_eq_append_getElem hk] at hf
  rcases List.mem_append.1 hf with hf | hf
  ·exact List.mem_append_left _ (h.clq f hf hc2)
  ·rw [List.mem_singleton] at hf
   subst hf
   exact List.mem_append_right _ (by simp)
theorem nm_inj {procs : List Pr} (hn : (procs.map Pr.nm).Nodup) {a b : Pr} (ha : a ∈ procs) (hb : b ∈ procs) (e : a.nm = b.nm) : a = b := by
 have h1 := find_own procs hn a ha
 have h2 := find_own procs hn b hb
 rw [e, h2] at h1
 injection h1 with h1
 exact h1.symm
/-- in the end: the names of all that are reached -/
theorem BfsI.end_ {procs : List Pr} {fr : Pr} {vis : List Pr} (h : BfsI procs fr vis []) (hn : (procs.map Pr.nm).Nodup) (s : ByteArray) : s ∈ vis.map Pr.nm ↔ ∃ f, f ∈ procs ∧ RchP procs fr f ∧ f.nm = s := by
 obtain ⟨hs, hd, hf, hc⟩ := h
 rw [List.append_nil] at hs hd hf hc
 constructor
 ·intro h1
  obtain ⟨q, hq, rfl⟩ := List.mem_map.1 h1
  exact ⟨q, (hs q hq).1, (hs q hq).2, rfl⟩
 ·rintro ⟨f, hfp, hr, rfl⟩
  have key : ∀ x, RchP procs fr x → x ∈ procs → x ∈ vis := by
   intro x hx
   induction hx with
   | refl => exact fun _ => hf
   | @step q f hq hfp hfc ih =>
    intro _
    have hqp : q ∈ procs := by
     cases hq with
     | refl => exact (hs fr hf).1
     | step _ h2 _ => exact h2
    have := hc q (ih hqp) f hfp hfc
    obtain ⟨y, hy, he⟩ := List.mem_map.1 this
    exact nm_inj hn (hs y hy).1 hfp he ▸ hy
  exact List.mem_map_of_mem (key f hr hfp)
end Go.Proofs.Ytimejkbmfbjomaa
namespace Go.Proofs.Ytimejkbmfbjomaa
open Go.ChangeShapes Go.WideShapes Go.ChangeAt Go.RowKit Go.Deep
set_option linter.unusedVariables false
set_option linter.unusedSimpArgs false
set_option maxRecDepth 100000 in
theorem upon_put {X : World} {b n : Nat} {f : ByteArray → Bool} {s : ByteArray} {o : Oper} {a : Act} {K : Act → World → Prop} {Q : Exit → Act → World → Prop} {ff : Unit → World → Result Next} (h : SetI X b n f) (hn : n < maxLen) (hs : s.size ≤ maxLen) (hk : ∀ X', SetI X' b (n + 1) (fun x => f x || decide (x = s)) → X.grownBy X' (some b) → Oper.upon Try.prog o a K Q ((Result.ok () X').andThen ff)) : Oper.upon Try.prog o a K Q ((Sem.run Try.prog (Instr.mapUpdate 163 (.map (some b)) (.string s) (.bool true)) X).andThen ff) := by
 obtain ⟨X', hr, h1, h2⟩ := h.put und_t hn s hs
 rw [hr]
 exact hk X' h1 h2
theorem made1 (V : World) (o : Obj) : SetI ((V.alloc o).alloc (.map #[] 0)) (V.heap.size + 1) 0 (fun _ => false) := by
 have h := SetI.made (V.alloc o)
 rw [World.size_alloc] at h
 exact h
theorem setone {X : World} {b : Nat} {s : ByteArray} (h : SetI X b (0 + 1) (fun x => false || decide (x = s))) : SetI X b 1 (setF [s]) := h.eq (fun y _ => by simp [setF, isT])
theorem below_from (V X : World) (h : Below V.heap.size V X) : Below V.heap.size V X := h
set_option maxHeartbeats 4000000 in
set_option maxRecDepth 100000 in
theorem reached_any {w W : World} {Q : Nat → Prop} {procs : List Pr} {fr : Pr} {vp : Value} {c0 c1 c2 c3 c4 : Value} (hp : SliceI w Q 5 (ProcI w Q) procs vp) (hfr : ProcI w Q fr [c0, c1, c2, c3, c4]) (hI : In Q w W) (hn : procs.length ≤ 1000000) (hmem : fr ∈ procs) (hnd : (procs.map Pr.nm).Nodup) (hl : ∀ q ∈ procs, (preSL q.body).length ≤ 1000000000) :
 Calls Try.prog 126 #[vp, .agg #[c0, c1, c2, c3, c4]] W fun e w' => ∃ b vis, e = .returned (.map (some b)) ∧ W.heap.size ≤ b ∧ SetI w' b vis.length (setF (vis.map Pr.nm)) ∧ BfsI procs fr vis [] ∧ Below W.heap.size W w' := by
 obtain ⟨A0, cp, rfl, hc1, hc2⟩ := hp.shape
 have hfr2 := hfr
 obtain ⟨_, _, _, _, hc, hqn, hpp, hvv, hbody, hee⟩ := hfr2
 simp only [List.cons.injEq, and_true] at hc
 obtain ⟨rfl, rfl, rfl, rfl, rfl⟩ := hc
 obtain ⟨Bp, kp, rfl, _, _⟩ := hpp.shape
 obtain ⟨Bv, kv, rfl, _, _⟩ := hvv.shape
 obtain ⟨Bb, kb, rfl, _⟩ := hbody.shape
 obtain ⟨Be, ke, rfl, _⟩ := hee.shape
 have HP := Lib.hid hp
 have HFr := Lib.hid hfr
 have HI := Lib.hid hI
 have HMem := Lib.hid hmem
 have HNd := Lib.hid hnd
 have HL := Lib.hid hl
 have hxs : fr.nm.size ≤ maxLen := hqn
 clear hp hfr hI hmem hnd hl hpp hvv hbody hee hqn
 go_enter Try.func126, Try.ntmps126
 go_upto_region 1 with fail
 have HBx : Hid (Blk (W.alloc (.cells #[.string fr.nm, .slice Bp fr.params.length kp, .slice Bv fr.vars.length kv, .slice Bb fr.body.length kb, .slice Be fr.end_.length ke] 45)) W.heap.size 45 #[.string fr.nm, .slice Bp fr.params.length kp, .slice Bv fr.vars.length kv, .slice Bb fr.body.length kb, .slice Be fr.end_.length ke]) := Lib.hid (Blk.new _ _ _)
 have HB0 : Hid (Below W.heap.size W (W.alloc (.cells #[.string fr.nm, .slice Bp fr.params.length kp, .slice Bv fr.vars.length kv, .slice Bb fr.body.length kb, .slice Be fr.end_.length ke] 45))) := Lib.hid (below_box _)
 generalize World.alloc _ _ = V at HBx HB0 ⊢
 have hbx := HBx.out.lt
 have hVW := HB0.out.size
 generalize hbxe : W.heap.size = bx at HBx hbx ⊢
 have HBe := Lib.hid hbxe
 clear hbxe
 have z0 : V.cell? ⟨bx, 0, none⟩ = some (.string fr.nm) := by rw [HBx.out.cell]; rfl
 have z1 : V.cell? ⟨bx, 1, none⟩ = some (.slice Bp fr.params.length kp) := by rw [HBx.out.cell]; rfl
 have z2 : V.cell? ⟨bx, 2, none⟩ = some (.slice Bv fr.vars.length kv) := by rw [HBx.out.cell]; rfl
 have z3 : V.cell? ⟨bx, 3, none⟩ = some (.slice Bb fr.body.length kb) := by rw [HBx.out.cell]; rfl
 have z4 : V.cell? ⟨bx, 4, none⟩ = some (.slice Be fr.end_.length ke) := by rw [HBx.out.cell]; rfl
 go_cut [5, 6] from 10 to 15 (fun s5 s6 wx => ∃ b, s5 = .map (some b) ∧ V.heap.size ≤ b ∧ Hid (SetI wx b 1 (setF [fr.nm])) ∧ Hid (AhI w Q V.heap.size wx s6 [fr]) ∧ Hid (Below V.heap.size V wx))
 case first =>
  have HSk : Hid (∀ w' : World, Below V.heap.size V w' → (Below V.heap.size V w' ∧ w'.cell? ⟨bx, 0, none⟩ = some (.string fr.nm) ∧ w'.cell? ⟨bx, 1, none⟩ = some (.slice Bp fr.params.length kp) ∧ w'.cell? ⟨bx, 2, none⟩ = some (.slice Bv fr.vars.length kv) ∧ w'.cell? ⟨bx, 3, none⟩ = some (.slice Bb fr.body.length kb) ∧ w'.cell? ⟨bx, 4, none⟩ = some (.slice Be fr.end_.length ke))) := Lib.hid (fun w' hb => ⟨hb, (hb.cell (p := ⟨bx, 0, none⟩) hbx).trans z0, (hb.cell (p := ⟨bx, 1, none⟩) hbx).trans z1, (hb.cell (p := ⟨bx, 2, none⟩) hbx).trans z2, (hb.cell (p := ⟨bx, 3, none⟩) hbx).trans z3, (hb.cell (p := ⟨bx, 4, none⟩) hbx).trans z4⟩)
  have hmm := @run_makeMap Try.prog
  go_region_held3 (fun w' => Below V.heap.size V w' ∧ w'.cell? ⟨bx, 0, none⟩ = some (.string fr.nm) ∧ w'.cell? ⟨bx, 1, none⟩ = some (.slice Bp fr.params.length kp) ∧ w'.cell? ⟨bx, 2, none⟩ = some (.slice Bv fr.vars.length kv) ∧ w'.cell? ⟨bx, 3, none⟩ = some (.slice Bb fr.body.length kb) ∧ w'.cell? ⟨bx, 4, none⟩ = some (.slice Be fr.end_.length ke))
   ((refine HSk.out _ ?_; repeat (first | (with_reducible assumption) | (with_reducible refine below_stepA ?_ _) | (with_reducible refine Below.drew ?_) | (with_reducible exact Below.refl _ _))))
   ((refine upon_put (n := 0) (f := fun _ => false) ?_ (by unfold maxLen; omega) hxs ?_; (first | exact SetI.same (SetI.made V) rfl | exact SetI.same ((SetI.made V).alloc _) rfl | exact SetI.same (made1 V _) rfl); intro X' hs' hg'; have kx : Below V.heap.size V X' := (below_from V _ (by repeat (first | (with_reducible assumption) | (with_reducible refine below_stepA ?_ _) | (with_reducible refine Below.drew ?_) | (with_reducible exact Below.refl _ _)))).grown hg' (by simp <;> omega) (fun j hj => by cases hj; simp)))
  all_goals
   go_wp2_with fail
   go_meet
  ·exact ⟨_, rfl, Nat.le_refl _, Lib.hid ((setone hs').alloc _), Lib.hid (AhI.one (Blk.new X' _ _) kx.size HFr.out), Lib.hid (below_stepA kx _)⟩
  ·have h := Blk.new (V.alloc (.map #[] 0)) 45 #[.string fr.nm, .slice Bp fr.params.length kp, .slice Bv fr.vars.length kv, .slice Bb fr.body.length kb, .slice Be fr.end_.length ke]
   rw [World.size_alloc] at h
   have hB : Blk X' (V.heap.size + 1) 45 #[.string fr.nm, .slice Bp fr.params.length kp, .slice Bv fr.vars.length kv, .slice Bb fr.body.length kb, .slice Be fr.end_.length ke] := Blk.grown (w := ((V.alloc (.map #[] 0)).alloc (.cells #[.string fr.nm, .slice Bp fr.params.length kp, .slice Bv fr.vars.length kv, .slice Bb fr.body.length kb, .slice Be fr.end_.length ke] 45)).drew) h hg' (fun e => by injection e with e; omega)
   exact ⟨_, rfl, Nat.le_refl _, Lib.hid (setone hs'), Lib.hid (AhI.one hB (by omega) HFr.out), Lib.hid kx⟩
  ·have h := (Blk.new V 45 #[.string fr.nm, .slice Bp fr.params.length kp, .slice Bv fr.vars.length kv, .slice Bb fr.body.length kb, .slice Be fr.end_.length ke]).alloc (.map #[] 0)
   have hB : Blk X' V.heap.size 45 #[.string fr.nm, .slice Bp fr.params.length kp, .slice Bv fr.vars.length kv, .slice Bb fr.body.length kb, .slice Be fr.end_.length ke] := Blk.grown (w := ((V.alloc (.cells #[.string fr.nm, .slice Bp fr.params.length kp, .slice Bv fr.vars.length kv, .slice Bb fr.body.length kb, .slice Be fr.end_.length ke] 45)).alloc (.map #[] 0)).drew) h hg' (fun e => by injection e with e; omega)
   exact ⟨_, rfl, by omega, Lib.hid (setone hs'), Lib.hid (AhI.one hB (Nat.le_refl _) HFr.out), Lib.hid kx⟩
 case rest =>
  obtain ⟨b, rfl, hbV, HS, HA, HBc⟩ := hcut
  have HIc := Lib.hid (HI.out.on (below_step HB0.out HBc.out))
  clear z0 z1 z2 z3 z4 HBx
  have HW0 := Lib.hid (below_step HB0.out HBc.out)
  have hVc := HBc.out.size
  have hcw := HB0.out.size
  generalize wc = v0 at *
  go_wp2_with fail
  go_loopg [6] (2 * procs.length) (fun kk s6 wr => ∃ (vis ah : List Pr), Hid (BfsI procs fr vis ah) ∧ kk + 2 * (vis ++ ah).length = 2 * procs.length + ah.length + 1 ∧ Hid (SetI wr b (vis ++ ah).length (setF ((vis ++ ah).map Pr.nm))) ∧ Hid (AhI w Q V.heap.size wr s6 ah) ∧ Hid (Below V.heap.size V wr))
  case atStart => exact ⟨[], [fr], Lib.hid (BfsI.start HMem.out), by simp, HS, HA, HBc⟩
  case round =>
   obtain ⟨vis, ah, HBf, hkk, HSr, HAr, HBr⟩ := hrel
   cases ah with
   | nil =>
    obtain ⟨g, o, cap, rows, hv6, _⟩ := HAr.out.ex
    simp only [List.length_nil] at hv6
    subst hv6
    go_wp2_with fail
    go_ret
    exact ⟨b, vis, rfl, by have h := HBe.out; omega, by have h := HSr.out; rwa [List.append_nil] at h, HBf.out, below_step HB0.out HBr.out⟩
   | cons q r =>
    obtain ⟨g, o, cap, Cp, jp, Cv, jv, Cb, jb, Ce, je, hv6, hcl, hc63, ⟨p0, p1, p2, p3, p4, _⟩, hpi, hA2, hT1, hT2⟩ := HAr.out.head
    subst hv6
    have HPI := Lib.hid hpi
    have HT1 := Lib.hid hT1
    have HT2 := Lib.hid hT2
    have hqp := (HBf.out.sub q (by simp)).1
    have HK := Lib.hid HBf.out.pop
    have HIr := Lib.hid (HI.out.on (below_step HB0.out HBr.out))
    have HCa := Lib.hid (calls_any HPI.out HIr.out (HL.out q hqp))
    have hcap0 : 0 < cap := by omega
    have hr1 : 1 ≤ r.length + 1 := by omega
    clear hpi hA2 hT1 hT2 HBf HAr hqp
    go_upto_region 4 with (go_at_call 132; refine HCa.out.mono ?_; rintro e W1 ⟨b7, rfl, hb7, hs7, hbl7⟩; have HS7 := Lib.hid hs7; have HB7 := Lib.hid hbl7; clear hs7 hbl7)
    clear p0 p1 p2 p3 p4 HCa
    have HSr1 := Lib.hid (HSr.out.below HB7.out HSr.out.lt)
    have HBr1 := Lib.hid (below_step HBr.out HB7.out)
    have HI1 := Lib.hid (HIr.out.on HB7.out)
    go_upto_region 5 with fail
    have HA1 : Hid (AhI w Q V.heap.size W1 (.slice (if cap = 1 then some ⟨g, o, none⟩ else some ⟨g, o + 5, none⟩) r.length (cap - 1)) r) := Lib.hid (by
     by_cases h1 : cap = 1
     ·rw [if_pos h1]; exact (HT1.out h1).below HB7.out
     ·rw [if_neg h1]; exact (HT2.out h1).below HB7.out)
    generalize Value.slice (if cap = 1 then some (⟨g, o, none⟩ : Addr) else some ⟨g, o + 5, none⟩) r.length (cap - 1) = v6 at HA1 ⊢
    have HN7 : Hid (b ≠ b7 ∧ V.heap.size ≤ b7) := Lib.hid ⟨fun e => by have := HSr.out.lt; omega, by have := HBr.out.size; omega⟩
    obtain ⟨cl, hcl2⟩ : ∃ cl, cl = callsOf (preSL q.body) := ⟨_, rfl⟩
    have HCl := Lib.hid hcl2
    rw [← hcl2] at HS7
    clear hcl2 HT1 HT2 HSr HIr HBr HB7 HI1 HPI
    generalize cl.length = n7 at HS7
    have HS1 : Hid (SetI W1 b (vis ++ [q] ++ r).length (setF ((vis ++ [q] ++ r).map Pr.nm))) := Lib.hid (by have h := HSr1.out; rw [show vis ++ q :: r = vis ++ [q] ++ r by simp] at h; exact h)
    have HKk : Hid (gk + 2 * (vis.length + 1 + r.length) = 2 * procs.length + r.length + 2) := Lib.hid (by simp only [List.length_append, List.length_cons] at hkk; omega)
    clear HSr1 hkk
    go_upto_region 6 with fail
    go_loopg [6, 27] procs.length (fun kk v6 i wr2 => ∃ (k : Nat) (ah : List Pr), k + kk = procs.length ∧ i = .int .i64 k ∧ r.length ≤ ah.length ∧ Hid (BfsK procs fr vis q ah k) ∧ Hid (SetI wr2 b (vis ++ [q] ++ ah).length (setF ((vis ++ [q] ++ ah).map Pr.nm))) ∧ Hid (AhI w Q V.heap.size wr2 v6 ah) ∧ Hid (SetI wr2 b7 n7 (setF cl)) ∧ Hid (Below V.heap.size V wr2))
    case atStart => exact ⟨0, r, by omega, rfl, Nat.le_refl _, HK, HS1, HA1, HS7, HBr1⟩
    case round =>
     clear HK HS1 HA1 HS7 HBr1
     obtain ⟨k, ah, hk, rfl, hrl, HK, HS, HA, HS7, HB⟩ := hrel
     have HIr := Lib.hid (HI.out.on (below_step HB0.out HB.out))
     by_cases hlt : k < procs.length
     ·obtain ⟨a, Cp2, jp2, Cv2, jv2, Cb2, jb2, Ce2, je2, rfl, hqa, hrow, hnm, hpp, hvv, hbody, hee⟩ := proc_at HP.out HIr.out hlt
      have HPk : Hid (ProcI w Q procs[k] [.string procs[k].nm, .slice Cp2 procs[k].params.length jp2, .slice Cv2 procs[k].vars.length jv2, .slice Cb2 procs[k].body.length jb2, .slice Ce2 procs[k].end_.length je2]) := Lib.hid ⟨_, _, _, _, rfl, hnm, hpp, hvv, hbody, hee⟩
      have hsz : procs[k].nm.size ≤ maxLen := hnm
      have HSk := Lib.hid (fun h => HK.out.skip hlt h)
      have HAd := Lib.hid (fun h1 h2 => HK.out.add hlt h1 h2)
      have HLe := Lib.hid (all_le HK.out.nd (fun x hx => (HK.out.sub x hx).1))
      rw [← HCl.out] at HSk HAd
      generalize procs[k] = kq at hrow HPk hsz HSk HAd
      clear hnm hpp hvv hbody hee hqa HK
      obtain ⟨p0, p1, p2, p3, p4, _⟩ := hrow
      go_upto_region 8 with fail
      have HBi : Hid (Blk (wr.alloc (.cells #[.string kq.nm, .slice Cp2 kq.params.length jp2, .slice Cv2 kq.vars.length jv2, .slice Cb2 kq.body.length jb2, .slice Ce2 kq.end_.length je2] 45)) wr.heap.size 45 #[.string kq.nm, .slice Cp2 kq.params.length jp2, .slice Cv2 kq.vars.length jv2, .slice Cb2 kq.body.length jb2, .slice Ce2 kq.end_.length je2]) := Lib.hid (Blk.new _ _ _)
      have HSn : Hid (SetI (wr.alloc (.cells #[.string kq.nm, .slice Cp2 kq.params.length jp2, .slice Cv2 kq.vars.length jv2, .slice Cb2 kq.body.length jb2, .slice Ce2 kq.end_.length je2] 45)) b (vis ++ [q] ++ ah).length (setF ((vis ++ [q] ++ ah).map Pr.nm))) := Lib.hid (HS.out.alloc _)
      have HS7n : Hid (SetI (wr.alloc (.cells #[.string kq.nm, .slice Cp2 kq.params.length jp2, .slice Cv2 kq.vars.length jv2, .slice Cb2 kq.body.length jb2, .slice Ce2 kq.end_.length je2] 45)) b7 n7 (setF cl)) := Lib.hid (HS7.out.alloc _)
      have HAn : Hid (AhI w Q V.heap.size (wr.alloc (.cells #[.string kq.nm, .slice Cp2 kq.params.length jp2, .slice Cv2 kq.vars.length jv2, .slice Cb2 kq.body.length jb2, .slice Ce2 kq.end_.length je2] 45)) _ ah) := Lib.hid (HA.out.below (below_box _))
      have HBn : Hid (Below V.heap.size V (wr.alloc (.cells #[.string kq.nm, .slice Cp2 kq.params.length jp2, .slice Cv2 kq.vars.length jv2, .slice Cb2 kq.body.length jb2, .slice Ce2 kq.end_.length je2] 45))) := Lib.hid (below_stepA HB.out _)
      have HNi : Hid (wr.heap.size ≠ b) := Lib.hid (fun e => by have := HS.out.lt; omega)
      clear p0 p1 p2 p3 p4 HS HS7 HA HB HIr
      generalize World.alloc wr _ = U at HBi HSn HS7n HAn HBn ⊢
      generalize wr.heap.size = bi at HBi HNi ⊢
      have y0 : U.cell? ⟨bi, 0, none⟩ = some (.string kq.nm) := by rw [HBi.out.cell]; rfl
      have y1 : U.cell? ⟨bi, 1, none⟩ = some (.slice Cp2 kq.params.length jp2) := by rw [HBi.out.cell]; rfl
      have y2 : U.cell? ⟨bi, 2, none⟩ = some (.slice Cv2 kq.vars.length jv2) := by rw [HBi.out.cell]; rfl
      have y3 : U.cell? ⟨bi, 3, none⟩ = some (.slice Cb2 kq.body.length jb2) := by rw [HBi.out.cell]; rfl
      have y4 : U.cell? ⟨bi, 4, none⟩ = some (.slice Ce2 kq.end_.length je2) := by rw [HBi.out.cell]; rfl
      have hlk1 := HS7n.out.look und_t kq.nm hsz
      have hlk2 := HSn.out.look und_t kq.nm hsz
      cases e1 : setF cl kq.nm with
      | false =>
       rw [e1] at hlk1
       have HE1 : Hid (kq.nm ∈ cl → False) := Lib.hid (fun h => by rw [setF_mem.2 h] at e1; cases e1)
       clear e1
       go_wp2_with fail
       go_roundg (procs.length - k - 1)
       case measure => omega
       case rel => exact ⟨k + 1, ah, by omega, by go_num, hrl, Lib.hid (HSk.out (fun h => (HE1.out h).elim)), HSn, HAn, HS7n, HBn⟩
      | true =>
       rw [e1] at hlk1
       have HE1 : Hid (kq.nm ∈ cl) := Lib.hid (setF_mem.1 e1)
       clear e1
       cases e2 : setF ((vis ++ [q] ++ ah).map Pr.nm) kq.nm with
       | true =>
        rw [e2] at hlk2
        have HE2 : Hid (kq.nm ∈ (vis ++ [q] ++ ah).map Pr.nm) := Lib.hid (setF_mem.1 e2)
        clear e2
        go_wp2_with fail
        go_roundg (procs.length - k - 1)
        case measure => omega
        case rel => exact ⟨k + 1, ah, by omega, by go_num, hrl, Lib.hid (HSk.out (fun _ => HE2.out)), HSn, HAn, HS7n, HBn⟩
       | false =>
        rw [e2] at hlk2
        have HE2 : Hid (kq.nm ∉ (vis ++ [q] ++ ah).map Pr.nm) := Lib.hid (fun h => by rw [setF_mem.2 h] at e2; cases e2)
        have HKa := Lib.hid (HAd.out HE1.out HE2.out)
        have HLa := Lib.hid (all_le HKa.out.nd (fun x hx => (HKa.out.sub x hx).1))
        have hnk : (vis ++ [q] ++ ah).length < maxLen := by have := HLe.out; unfold maxLen; omega
        have hal : ah.length + 1 ≤ 1000000 := by have := HLa.out; simp only [List.length_append, List.length_cons, List.length_nil] at this; omega
        have HMa : Hid (vis ++ [q] ++ (ah ++ [kq]) = (vis ++ [q] ++ ah) ++ [kq]) := Lib.hid (by simp)
        clear e2
        go_upto_region 10 with (at_mapUpdate; refine wpList_setPut rfl _ _ _ 163 rfl und_t b (vis ++ [q] ++ ah).length (setF ((vis ++ [q] ++ ah).map Pr.nm)) rfl HSn.out hnk kq.nm hsz rfl rfl ?_; intro w1 hs1 hg1)
        have HS9 : Hid (SetI w1 b (vis ++ [q] ++ (ah ++ [kq])).length (setF ((vis ++ [q] ++ (ah ++ [kq])).map Pr.nm))) := Lib.hid (by rw [HMa.out, List.map_append, List.length_append]; show SetI w1 b _ (setF (_ ++ [kq.nm])); rw [setF_snoc]; exact hs1)
        have HM9 := Lib.hid (moves_map hg1)
        have HA9 := Lib.hid (HAn.out.moves HSn.out HM9.out)
        have HS79 := Lib.hid (HS7n.out.kept hg1 (fun e => by injection e with e; exact HN7.out.1 e.symm))
        have HB9 := Lib.hid (HBn.out.grown hg1 HBn.out.size (fun j hj => by cases hj; exact hbV))
        have HBi9 := Lib.hid (HM9.out.blk HBi.out HNi.out)
        have hV9 := HB9.out.size
        clear hs1 hg1 y0 y1 y2 y3 y4 HSn HM9 HAn HS7n HBn HBi hlk1 hlk2
        have y0 : w1.cell? ⟨bi, 0, none⟩ = some (.string kq.nm) := by rw [HBi9.out.cell]; rfl
        have y1 : w1.cell? ⟨bi, 1, none⟩ = some (.slice Cp2 kq.params.length jp2) := by rw [HBi9.out.cell]; rfl
        have y2 : w1.cell? ⟨bi, 2, none⟩ = some (.slice Cv2 kq.vars.length jv2) := by rw [HBi9.out.cell]; rfl
        have y3 : w1.cell? ⟨bi, 3, none⟩ = some (.slice Cb2 kq.body.length jb2) := by rw [HBi9.out.cell]; rfl
        have y4 : w1.cell? ⟨bi, 4, none⟩ = some (.slice Ce2 kq.end_.length je2) := by rw [HBi9.out.cell]; rfl
        go_wp2_with (at_builtin; refine wpList_append_ah rfl (.tmp 45) (.tmp 47) rfl rfl (HA9.out.below (below_box _)) rfl (Blk.new w1 _ _) HPk.out hal (by simp; omega) ?_; intro v8 w8 ha8 hm8)
        go_roundg (procs.length - k - 1)
        case measure => omega
        case rel => exact ⟨k + 1, ah ++ [kq], by omega, by go_num, by rw [List.length_append]; omega, HKa, Lib.hid (hm8.maps _ _ _ (HS9.out.alloc _)), Lib.hid ha8, Lib.hid (hm8.maps _ _ _ (HS79.out.alloc _)), Lib.hid ((below_stepA HB9.out _).trans hm8.below)⟩
     ·obtain rfl : k = procs.length := by omega
      have HKd := Lib.hid HK.out.done
      have HLe := Lib.hid (all_le HK.out.nd (fun x hx => (HK.out.sub x hx).1))
      have HM2 := HKk.out
      have HM3 : 2 * (vis.length + 1 + ah.length) ≤ 2 * procs.length := by have := HLe.out; simp only [List.length_append, List.length_cons, List.length_nil] at this; omega
      go_wp2_with fail
      go_roundg (2 * procs.length + ah.length + 1 - 2 * (vis.length + 1 + ah.length))
      case measure => omega
      case rel => exact ⟨vis ++ [q], ah, HKd, by simp only [List.length_append, List.length_cons, List.length_nil]; omega, HS, HA, HB⟩
end Go.Proofs.Ytimejkbmfbjomaa
namespace Go.Proofs.Ytimejkbmfbjomaa
open Go.ChangeShapes Go.WideShapes Go.ChangeAt Go.RowKit Go.Deep
set_option linter.unusedVariables false
set_option linter.unusedSimpArgs false
theorem setF_mem2 {l : List ByteArray} {s : ByteArray} : setF l s = true ↔ s ∈ l := by simp [setF, isT]
theorem vis_le {procs : List Pr} {fr : Pr} {vis : List Pr} (h : BfsI procs fr vis []) (hn : procs.length ≤ 1000000) : vis.length ≤ 1000000000 := by
 have h1 := h.nd
 have h2 := h.sub
 rw [List.append_nil] at h1 h2
 have := all_le h1 (fun q hq => (h2 q hq).1)
 omega
end Go.Proofs.Ytimejkbmfbjomaa
