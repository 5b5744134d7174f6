/- Texts, merged by a program; only what is used. -/
import Derived.ArgAppend
import Derived.Test.YtehpinnmalpgpaaK1
import Derived.Test.YtehpinnmalpgpaaK2
import Derived.Test.YtehpinnmalpgpaaK3
import Derived.Test.YtehpinnmalpgpaaK4
import Derived.Test.YtehpinnmalpgpaaK5
import Derived.Test.YtehpinnmalpgpaaK6
import Derived.Test.YtehpinnmalpgpaaK7
import Derived.Test.YtehpinnmalpgpaaK8
import Derived.Test.YtehpinnmalpgpaaK9
import Derived.Test.YtehpinnmalpgpaaK10
import Derived.Test.YtehpinnmalpgpaaK11
import Derived.Test.YtehpinnmalpgpaaK12
import Derived.Test.YtehpinnmalpgpaaK13
import Derived.Test.YtehpinnmalpgpaaK14
import Derived.Test.YtehpinnmalpgpaaK15
import Derived.Test.YtehpinnmalpgpaaK16
import Derived.Test.YtehpinnmalpgpaaK17
import Derived.Test.YtehpinnmalpgpaaK18
import Derived.Test.YtehpinnmalpgpaaK19
import Derived.Test.YtehpinnmalpgpaaK20
import Derived.Test.YtehpinnmalpgpaaK21
import Derived.Test.YtehpinnmalpgpaaK22
import Derived.Test.YtehpinnmalpgpaaK23
import Derived.Test.YtehpinnmalpgpaaK24
import Derived.Test.YtehpinnmalpgpaaKM1
import Derived.Test.YtehpinnmalpgpaaKM2
import Derived.Test.YtehpinnmalpgpaaKM3
import Derived.Test.YtehpinnmalpgpaaKM4
import Derived.Test.YtehpinnmalpgpaaKM5
import Derived.Test.YtehpinnmalpgpaaKM6
import Derived.Test.YtehpinnmalpgpaaKM7
import Derived.Test.YtehpinnmalpgpaaKM8
import Derived.Test.YtehpinnmalpgpaaKM9
import Derived.Test.YtehpinnmalpgpaaKM10
import Derived.Test.YtehpinnmalpgpaaKP1
import Derived.Test.YtehpinnmalpgpaaKP2
namespace Go.Proofs.Ytehpinnmalpgpaa
open Go.ChangeShapes Go.WideShapes Go.ChangeAt Go.RowKit Go.Deep
set_option linter.unusedVariables false
set_option linter.unusedSimpArgs false
theorem callsOf_sm {body : List S} (h : wSL body ≤ 1000000) : ∀ s ∈ callsOf (preSL body), s.size ≤ 1000000 := by
 intro s hs
 unfold callsOf at hs
 obtain ⟨x, hx, rfl⟩ := List.mem_map.1 hs
 have h2 := preSL_w _ _ (List.mem_filter.1 hx).1
 obtain ⟨id, kind, labels, nm, proc, y, has, args, th, el⟩ := x
 rw [wS] at h2
 show proc.size ≤ _
 omega
theorem setF_mem {l : List ByteArray} {s : ByteArray} : setF l s = true ↔ s ∈ l := by simp [setF, isT]
/-- of the procedure at a place: what F tells of it, in order; nothing where there is none -/
def OrdOf (p : Pg) (z : Int) (F : Pr → ByteArray → Bool) (l : List ByteArray) : Prop := (z < 0 ∧ l = []) ∨ ∃ m, ∃ hm : m < p.procs.length, z = (m : Int) ∧ InOrd (F p.procs[m]) l
def OrdRow (R : List ByteArray → Prop) (W : World) (e : Ending) (w' : World) : Prop := ∃ l v, e = .returned v ∧ w'.ownsRow W.heap.size 9 1 v l.length (strs l) ∧ Below W.heap.size W w' ∧ R l
def callF (q : Pr) : ByteArray → Bool := setF (callsOf (preSL q.body))
set_option maxHeartbeats 4000000 in
set_option maxRecDepth 100000 in
theorem tCalls_any {w : World} {Q : Nat → Prop} {p : Pg} {c0 c1 : Value} (h : ProgI w Q p [c0, c1]) (hsm : SmG p) (proc : ByteArray) (W : World) (hI : In Q w W) :
 Calls Try.prog 41 #[.agg #[c0, c1], .string proc] W (OrdRow (OrdOf p (jfP p proc) callF) W) := by
 have HFd := Lib.hid (fun V hV => tfind_any h hsm proc V hV)
 have HSm := Lib.hid (fun q hq => (hsm.proc q hq).1)
 obtain ⟨Ag, cg, Ap, cp, rfl, rfl, _, _, _, _, _, hpr⟩ := prog_open h
 have HP := Lib.hid hpr
 have HI := Lib.hid hI
 clear h hI hpr hsm
 have HZ := Lib.hid (jfP_case p proc)
 generalize jfP p proc = z at HFd HZ ⊢
 go_enter Try.func41, Try.ntmps41
 go_upto_region 1 with fail
 have HBp0 : Hid (Blk (W.alloc (.cells #[.slice Ag p.globals.length cg, .slice Ap p.procs.length cp] 25)) W.heap.size 25 #[.slice Ag p.globals.length cg, .slice Ap p.procs.length cp]) := Lib.hid (Blk.new _ _ _)
 have HB0 : Hid (Below W.heap.size W (W.alloc (.cells #[.slice Ag p.globals.length cg, .slice Ap p.procs.length cp] 25))) := Lib.hid (below_box _)
 generalize World.alloc _ _ = V at HBp0 HB0 ⊢
 have HI0 := Lib.hid (HI.out.on HB0.out)
 have HF0 := Lib.hid (HFd.out V HI0.out)
 have hbl := HBp0.out.lt
 generalize hbe : W.heap.size = b at HBp0 hbl ⊢
 have HBe := Lib.hid hbe
 clear hbe
 have q0 : V.cell? ⟨b, 0, none⟩ = some (.slice Ag p.globals.length cg) := by rw [HBp0.out.cell]; rfl
 have q1 : V.cell? ⟨b, 1, none⟩ = some (.slice Ap p.procs.length cp) := by rw [HBp0.out.cell]; rfl
 go_upto_region 2 with (go_at_call 79; refine HF0.out.mono ?_; rintro e W1 ⟨rfl, hb1⟩)
 have HB1 := Lib.hid (below_step HB0.out hb1)
 have HI1 := Lib.hid (HI0.out.on hb1)
 have HBp1 := Lib.hid (HBp0.out.below hb1 hbl)
 clear q0 q1 hb1 HB0 HI0 HBp0 hbl HF0 HFd
 rcases HZ.out with hz | ⟨m, rfl, hm⟩
 ·have HZn := Lib.hid hz
  go_wp2_with fail
  go_ret
  exact ⟨[], _, rfl, World.ownsRow_nil _ _ _ _, HB1.out, .inl ⟨HZn.out, rfl⟩⟩
 ·have hz : ¬ ((m : Int) < 0) := by omega
  obtain ⟨a, Bp, kp, Bv, kv, Bb, kb, Be, ke, rfl, hqa, hrow, hnm, hpp, hvv, hbody, hee⟩ := proc_at HP.out HI1.out hm
  have HPI : Hid (ProcI w Q p.procs[m] [.string p.procs[m].nm, .slice Bp p.procs[m].params.length kp, .slice Bv p.procs[m].vars.length kv, .slice Bb p.procs[m].body.length kb, .slice Be p.procs[m].end_.length ke]) := Lib.hid ⟨_, _, _, _, rfl, hnm, hpp, hvv, hbody, hee⟩
  have hw := HSm.out _ (List.getElem_mem hm)
  have hlen : (preSL p.procs[m].body).length ≤ 1000000000 := by have := preSL_lw p.procs[m].body; omega
  have HCa := Lib.hid (fun V hV => calls_any (W := V) HPI.out hV hlen)
  have HSz := Lib.hid (callsOf_sm hw)
  have HLn : Hid ((callsOf (preSL p.procs[m].body)).length ≤ 1000000000) := Lib.hid (Nat.le_trans (callsOf_len _) hlen)
  have HQF : Hid (callF p.procs[m] = setF (callsOf (preSL p.procs[m].body))) := Lib.hid rfl
  clear hnm hpp hvv hbody hee hqa hw hlen HPI
  generalize callsOf (preSL p.procs[m].body) = cl at HCa HSz HLn HQF
  generalize p.procs[m].nm = x0 at hrow HCa
  generalize p.procs[m].params.length = x1 at hrow HCa
  generalize p.procs[m].vars.length = x2 at hrow HCa
  generalize p.procs[m].body.length = x3 at hrow HCa
  generalize p.procs[m].end_.length = x4 at hrow HCa
  obtain ⟨p0, p1, p2, p3, p4, _⟩ := hrow
  have q1 : W1.cell? ⟨b, 1, none⟩ = some (.slice (some a) p.procs.length cp) := by rw [HBp1.out.cell]; rfl
  have HSm2 : Hid (∀ s : ByteArray, s.size ≤ maxLen → setF cl s = true → s.size ≤ 281474976710656) := Lib.hid (fun s _ hs => by have := HSz.out s (setF_mem.1 hs); omega)
  go_wp2_with (first
   | (go_at_call 82; refine (HCa.out W1 HI1.out).mono ?_; rintro e W2 ⟨b2, rfl, hb2, hs2, hbl2⟩; have HS2 := Lib.hid hs2; have HB2 := Lib.hid hbl2; clear hs2 hbl2)
   | (go_at_call 80; refine (inOrder_any HS2.out HLn.out HSm2.out).mono ?_; rintro e W3 ⟨l, v, rfl, ho3, hb3, hio⟩; have HO3 := Lib.hid ho3; have HB3 := Lib.hid hb3; have HIo := Lib.hid hio; clear ho3 hb3 hio))
  go_ret
  exact ⟨l, v, rfl, own_lower HO3.out (by have h1 := HB1.out.size; have h2 := HB2.out.size; omega), below_step HB1.out (below_step HB2.out HB3.out), .inr ⟨m, hm, rfl, by rw [HQF.out]; exact HIo.out⟩⟩
end Go.Proofs.Ytehpinnmalpgpaa
namespace Go.Proofs.Ytehpinnmalpgpaa
open Go.ChangeShapes Go.WideShapes Go.ChangeAt Go.RowKit Go.Deep
set_option linter.unusedVariables false
set_option linter.unusedSimpArgs false
structure AhI (w : World) (Q : Nat → Prop) (B : Nat) (W : World) (v : Value) (l : List Pr) : Prop where
 ex : ∃ (g o cap : Nat) (rows : List (List Value)), v = .slice (some ⟨g, o, none⟩) l.length cap ∧ l.length ≤ cap ∧ cap ≤ 9223372036854775807 ∧ B ≤ g ∧ (∃ t cs, Blk W g t cs) ∧ All2 (ProcI w Q) l rows ∧ (∀ j u, rows.flatten[j]? = some u → W.cell? ⟨g, o + j, none⟩ = some u) ∧ (∀ j, j < cap * 5 → (W.cell? ⟨g, o + j, none⟩).isSome = true)
section
variable {w W W' : World} {Q : Nat → Prop} {B b n : Nat} {f : ByteArray → Bool} {v : Value} {l r : List Pr} {q : Pr}
theorem AhI.keep (h : AhI w Q B W v l) (hb : ∀ g, B ≤ g → (∃ t cs, Blk W g t cs) → W'.heap[g]? = W.heap[g]?) : AhI w Q B W' v l := by
 obtain ⟨g, o, cap, rows, h1, h2, h3, h4, h5, h6, h7, h8⟩ := h.ex
 have hg := hb g h4 h5
 have hc : ∀ j, W'.cell? ⟨g, j, none⟩ = W.cell? ⟨g, j, none⟩ := fun j => World.cell?_of_block (a := ⟨g, j, none⟩) hg
 obtain ⟨t, cs, h5⟩ := h5
 exact ⟨g, o, cap, rows, h1, h2, h3, h4, ⟨t, cs, hg.trans h5⟩, h6, fun j u hu => (hc _).trans (h7 j u hu), fun j hj => by rw [hc]; exact h8 j hj⟩
theorem AhI.below (h : AhI w Q B W v l) (hb : Below W.heap.size W W') : AhI w Q B W' v l := h.keep (fun g _ ⟨t, cs, h⟩ => hb.block g h.lt)
theorem blk_not_map {g : Nat} {t : TypeId} {cs : Array Value} (hB : Blk W g t cs) (hS : SetI W b n f) : g ≠ b := by
 rintro rfl
 obtain ⟨D, ⟨es, clock, h1, _⟩, _⟩ := hS
 have h2 : W.heap[g]? = some (.cells cs t (0, 0)) := hB
 rw [h1] at h2
 cases h2
theorem AhI.moves (h : AhI w Q B W v l) (hS : SetI W b n f) (hm : Moves (fun j => j = b) W W') : AhI w Q B W' v l := h.keep (fun g _ ⟨t, cs, hB⟩ => hm.block g hB.lt (fun e => blk_not_map hB hS e))
theorem proc_len {cs : List Value} (h : ProcI w Q q cs) : cs.length = 5 := by
 obtain ⟨vp, vv, vb, ve, rfl, _⟩ := h
 rfl
theorem procs_len : ∀ {l : List Pr} {rows : List (List Value)}, All2 (ProcI w Q) l rows → rows.flatten.length = l.length * 5
 | [], [], _ => rfl
 | x :: l, c :: rows, h => by
  rw [List.flatten_cons, List.length_append, proc_len h.1, procs_len h.2, List.length_cons]
  omega
theorem AhI.head (h : AhI w Q B W v (q :: r)) : ∃ (g o cap : Nat) (Bp : Option Addr) (kp : Nat) (Bv : Option Addr) (kv : Nat) (Bb : Option Addr) (kb : Nat) (Be : Option Addr) (ke : Nat), v = .slice (some ⟨g, o, none⟩) (r.length + 1) cap ∧ r.length + 1 ≤ cap ∧ cap ≤ 9223372036854775807 ∧ RowAt W ⟨g, o, none⟩ (.string q.nm) [.slice Bp q.params.length kp, .slice Bv q.vars.length kv, .slice Bb q.body.length kb, .slice Be q.end_.length ke] ∧ ProcI w Q q [.string q.nm, .slice Bp q.params.length kp, .slice Bv q.vars.length kv, .slice Bb q.body.length kb, .slice Be q.end_.length ke] ∧
  AhI w Q B W (.slice (some ⟨g, o, none⟩) (r.length + 1) cap) (q :: r) ∧ (cap = 1 → AhI w Q B W (.slice (some ⟨g, o, none⟩) r.length (cap - 1)) r) ∧ (cap ≠ 1 → AhI w Q B W (.slice (some ⟨g, o + 5, none⟩) r.length (cap - 1)) r) := by
 have h0 := h
 obtain ⟨g, o, cap, rows, h1, h2, h3, h4, h5, h6, h7, h8⟩ := h.ex
 cases rows with
 | nil => exact h6.elim
 | cons c rows =>
  obtain ⟨h9, h10⟩ := h6
  have h9' := h9
  obtain ⟨vp, vv, vb, ve, rfl, hn, hpp, hvv, hbb, hee⟩ := h9'
  obtain ⟨Bp, kp, rfl, _⟩ := hpp.shape
  obtain ⟨Bv, kv, rfl, _⟩ := hvv.shape
  obtain ⟨Bb, kb, rfl, _⟩ := hbb.shape
  obtain ⟨Be, ke, rfl, _⟩ := hee.shape
  rw [List.length_cons] at h1 h2
  have hr := procs_len h10
  refine ⟨g, o, cap, Bp, kp, Bv, kv, Bb, kb, Be, ke, h1, h2, h3, ?_, h9, h1 ▸ h0, ?_, ?_⟩
  ·refine rowAt_of (fun j u hu => ?_)
   have := h7 j u (by rw [List.flatten_cons, List.getElem?_append_left (by have := (List.getElem?_eq_some_iff.1 hu).1; simpa using this)]; exact hu)
   rw [Addr.add_lit]
   exact this
  ·intro hc
   have hr0 : r.length = 0 := by omega
   obtain rfl : r = [] := List.eq_nil_of_length_eq_zero hr0
   have hrw : rows = [] := by cases rows with | nil => rfl | cons c rows => exact h10.elim
   subst hrw
   exact ⟨g, o, cap - 1, [], rfl, by simp, by omega, h4, h5, h10, fun j u hu => by simp at hu, fun j hj => by omega⟩
  ·intro hc
   refine ⟨g, o + 5, cap - 1, rows, rfl, by omega, by omega, h4, h5, h10, fun j u hu => ?_, fun j hj => ?_⟩
   ·have := h7 (5 + j) u (by rw [List.flatten_cons, List.getElem?_append_right (by simp)]; simpa using hu)
    rw [← Nat.add_assoc] at this
    exact this
   ·have := h8 (5 + j) (by omega)
    rw [← Nat.add_assoc] at this
    exact this
theorem AhI.one {g : Nat} {cs : Array Value} (hB : Blk W g 45 cs) (hg : B ≤ g) (hp : ProcI w Q q cs.toList) : AhI w Q B W (.slice (some ⟨g, 0, none⟩) 1 1) [q] := by
 have hl := proc_len hp
 refine ⟨g, 0, 1, [cs.toList], rfl, by simp, by omega, hg, ⟨_, _, hB⟩, ⟨hp, trivial⟩, fun j u hu => ?_, fun j hj => ?_⟩
 ·rw [Nat.zero_add, hB.cell]
  simpa using hu
 ·rw [Nat.zero_add, hB.cell]
  have : j < cs.size := by rw [← Array.length_toList]; omega
  simp [this]
end
end Go.Proofs.Ytehpinnmalpgpaa
namespace Go.Proofs.Ytehpinnmalpgpaa
open Go.ChangeShapes Go.WideShapes Go.ChangeAt Go.RowKit Go.Deep
set_option linter.unusedVariables false
set_option linter.unusedSimpArgs false
/-- below B all is as it was, and so are all sets -/
structure Mv (B : Nat) (W W' : World) : Prop where
 below : Below B W W'
 maps : ∀ b n f, SetI W b n f → SetI W' b n f
theorem heap_setCells {g k : Nat} (hk : k ≠ g) : ∀ (vs : List Value) (o : Nat) (W : World), (W.setCells g o vs).heap[k]? = W.heap[k]?
 | [], _, _ => rfl
 | v :: r, o, W => by rw [World.setCells, heap_setCells hk r (o + 1) _]; exact Below.heap_setCell _ _ _ _ hk
theorem blk_setCells {g : Nat} : ∀ (vs : List Value) (o : Nat) (W : World), (∃ t cs, Blk W g t cs) → ∃ t cs, Blk (W.setCells g o vs) g t cs
 | [], _, _, h => h
 | v :: r, o, W, ⟨t, cs, h⟩ => by rw [World.setCells]; exact blk_setCells r (o + 1) _ ⟨t, _, h.set_ o v⟩
theorem below_setCells {B g : Nat} (hg : B ≤ g) {A : World} : ∀ (vs : List Value) (o : Nat) (W : World), Below B A W → Below B A (W.setCells g o vs)
 | [], _, _, h => h
 | v :: r, o, W, h => by rw [World.setCells]; exact below_setCells hg r (o + 1) _ (below_setc (p := ⟨g, o, none⟩) h hg v)
theorem ah_grown {w W W' : World} {Q : Nat → Prop} {B : Nat} {v' : Value} {l : List Pr} {q : Pr} {rows : List (List Value)} {c : List Value} (hB : B ≤ W.heap.size) (hr : All2 (ProcI w Q) l rows) (hc : ProcI w Q q c) (h : W'.ownsRow W.heap.size 45 5 v' (l.length + 1) (rows.flatten ++ c)) : AhI w Q B W' v' (l ++ [q]) := by
 obtain ⟨h0, h⟩ := h
 have hfl := procs_len hr
 have hcl := proc_len hc
 rcases h with ⟨_, h1⟩ | ⟨g, cap, cur, rfl, hb, hg, hnc, hcm, hsz, htk⟩
 ·omega
 ·have hcm' : cap ≤ 9223372036854775807 := hcm
  have hcell : ∀ j, W'.cell? ⟨g, j, none⟩ = cur[j]? := fun j => cell_of_row W' g j cur _ (0, 0) hg
  refine ⟨g, 0, cap, rows ++ [c], by rw [List.length_append]; rfl, by simpa using hnc, hcm', by omega, ⟨_, _, hg⟩, All2.append hr ⟨hc, trivial⟩, fun j u hu => ?_, fun j hj => ?_⟩
  ·rw [Nat.zero_add, hcell, ← Array.getElem?_toList]
   have hj : j < (l.length + 1) * 5 := by
    have := (List.getElem?_eq_some_iff.1 hu).1
    simp only [List.flatten_append, List.length_append, List.flatten_cons, List.flatten_nil, List.append_nil] at this
    omega
   have h3 : (cur.toList.take ((l.length + 1) * 5))[j]? = some u := by
    rw [htk]
    simpa using hu
   rw [List.getElem?_take_of_lt hj] at h3
   exact h3
  ·rw [Nat.zero_add, hcell]
   have : j < cur.size := by omega
   simp [this]
theorem wpList_append_ah {ops : Array Oper} {rest : List Oper} {o : Oper} {a : Act} {QQ : Exit → Act → World → Prop} {w W : World} {Q : Nat → Prop} {B : Nat} {l : List Pr} {v : Value} {q : Pr} {g2 c2 : Nat} {cs : Array Value} (hgd : o.guard = none) (s x : Operand)
 (ho : o.op = .call { callee := .builtin .append, args := #[s, x], argTypes := #[23, 23] }) (hs : a.eval s = v) (h : AhI w Q B W v l) (hx : a.eval x = .slice (some ⟨g2, 0, none⟩) 1 c2) (h2 : Blk W g2 45 cs) (hq : ProcI w Q q cs.toList) (hl : l.length + 1 ≤ 1000000) (hB : B ≤ W.heap.size)
 (hk : ∀ v' w', AhI w Q B w' v' (l ++ [q]) → Mv B W w' → wpList Try.prog ops QQ rest (a.put o.dst v') w') : wpList Try.prog ops QQ (o :: rest) a W := by
 obtain ⟨i0, hi, hz0, hz1, hz2⟩ := info_parts proc_info
 obtain ⟨g, of, cap, rows, rfl, h3, h4, h5, h6, h7, h8, h9⟩ := h.ex
 have hfl := procs_len h7
 have hcl := proc_len hq
 obtain ⟨t6, cs6, hB6⟩ := h6
 have hone : ∀ u ∈ cs.toList, u.oneCell' = true := by
  obtain ⟨vp, vv, vb, ve, hc, _, hpp, hvv, hbb, hee⟩ := hq
  obtain ⟨_, _, rfl, _⟩ := hpp.shape
  obtain ⟨_, _, rfl, _⟩ := hvv.shape
  obtain ⟨_, _, rfl, _⟩ := hbb.shape
  obtain ⟨_, _, rfl, _⟩ := hee.shape
  rw [hc]
  intro u hu
  simp only [List.mem_cons, List.not_mem_nil, or_false] at hu
  rcases hu with rfl | rfl | rfl | rfl | rfl <;> rfl
 refine wpList_append_arg W hgd s x 23 ho 45 i0 _ 5 112 Try.underlying23 hi hz0 hz1 hz2 rfl (by decide) g of l.length cap rows.flatten hs hfl h8 ⟨g2, 0, none⟩ 1 c2 cs.toList hx (by omega) (fun j u hu => by rw [Addr.add_lit, Nat.zero_add, h2.cell]; simpa using hu) hone ?_ (by unfold maxLen; omega) (by omega) ?_ ?_
 ·intro hr j hj
  have := h9 (l.length * 5 + j) (by omega)
  rw [← Nat.add_assoc] at this
  exact ⟨this, hB6.frozen _⟩
 ·intro hr
  have hin : ∀ j, j < cs.toList.length → (W.cell? ⟨g, of + l.length * 5 + j, none⟩).isSome = true := fun j hj => by
   have := h9 (l.length * 5 + j) (by omega)
   rw [← Nat.add_assoc] at this
   exact this
  refine hk _ _ ⟨g, of, cap, rows ++ [cs.toList], by rw [List.length_append]; rfl, by simpa using hr, h4, h5, blk_setCells _ _ _ ⟨_, _, hB6⟩, All2.append h7 ⟨hq, trivial⟩, fun j u hu => ?_, fun j hj => ?_⟩ ⟨below_setCells h5 _ _ _ (Below.refl _ _), fun b n f hS => hS.same (heap_setCells (fun e => blk_not_map hB6 hS e.symm) _ _ _)⟩
  ·rw [List.flatten_append, List.flatten_cons, List.flatten_nil, List.append_nil] at hu
   by_cases hj : j < rows.flatten.length
   ·rw [List.getElem?_append_left hj] at hu
    rw [World.cell?_setCells_out g _ _ _ _ (fun _ _ => .inl (by show of + j < _; omega))]
    exact h8 j u hu
   ·rw [List.getElem?_append_right (by omega)] at hu
    have hj2 := (List.getElem?_eq_some_iff.1 hu).1
    have := World.cell?_setCells_in g cs.toList (of + l.length * 5) W hin (j - rows.flatten.length) hj2
    rw [show of + j = of + l.length * 5 + (j - rows.flatten.length) by omega, this]
    rw [List.getElem?_eq_getElem hj2] at hu
    exact hu
  ·by_cases hj2 : l.length * 5 ≤ j ∧ j < l.length * 5 + cs.toList.length
   ·have := World.cell?_setCells_in g cs.toList (of + l.length * 5) W hin (j - l.length * 5) (by omega)
    rw [show of + j = of + l.length * 5 + (j - l.length * 5) by omega, this]
    rfl
   ·rw [World.cell?_setCells_out g _ _ _ _ (fun _ _ => by show of + j < _ ∨ _ ≤ of + j; omega)]
    exact h9 j hj
 ·intro hr v' w' hown hg
  exact hk v' w' (ah_grown hB h7 hq hown) ⟨(Below.refl _ _).grown hg hB (fun j hj => by cases hj), fun b n f hS => hS.kept hg (by simp)⟩
end Go.Proofs.Ytehpinnmalpgpaa
namespace Go.Proofs.Ytehpinnmalpgpaa
open Go.ChangeShapes Go.WideShapes Go.ChangeAt Go.RowKit Go.Deep
set_option linter.unusedVariables false
set_option linter.unusedSimpArgs false
/-- a procedure and all that it calls, by others too -/
inductive RchP (procs : List Pr) (fr : Pr) : Pr → Prop
 | refl : RchP procs fr fr
 | step {q f : Pr} : RchP procs fr q → f ∈ procs → f.nm ∈ callsOf (preSL q.body) → RchP procs fr f
structure BfsI (procs : List Pr) (fr : Pr) (vis ah : List Pr) : Prop where
 sub : ∀ q ∈ vis ++ ah, q ∈ procs ∧ RchP procs fr q
 nd : ((vis ++ ah).map Pr.nm).Nodup
 frm : fr ∈ vis ++ ah
 cl : ∀ q ∈ vis, ∀ f ∈ procs, f.nm ∈ callsOf (preSL q.body) → f.nm ∈ (vis ++ ah).map Pr.nm
/-- within a round: the one at the front is off, procs up to k are looked at -/
structure BfsK (procs : List Pr) (fr : Pr) (vis : List Pr) (q : Pr) (ah : List Pr) (k : Nat) : Prop where
 sub : ∀ x ∈ vis ++ [q] ++ ah, x ∈ procs ∧ RchP procs fr x
 nd : ((vis ++ [q] ++ ah).map Pr.nm).Nodup
 frm : fr ∈ vis ++ [q] ++ ah
 cl : ∀ x ∈ vis, ∀ f ∈ procs, f.nm ∈ callsOf (preSL x.body) → f.nm ∈ (vis ++ [q] ++ ah).map Pr.nm
 clq : ∀ f ∈ procs.take k, f.nm ∈ callsOf (preSL q.body) → f.nm ∈ (vis ++ [q] ++ ah).map Pr.nm
theorem nodup_le : ∀ (a b : List ByteArray), a.Nodup → (∀ x ∈ a, x ∈ b) → a.length ≤ b.length
 | [], b, _, _ => Nat.zero_le _
 | x :: a, b, h, hs => by
  rw [List.nodup_cons] at h
  have h1 := nodup_le a (b.eraseP (fun y => decide (y = x))) h.2 (fun y hy => (List.mem_eraseP_of_neg (by simpa using fun e : y = x => h.1 (e ▸ hy))).2 (hs y (List.mem_cons_of_mem _ hy)))
  have h2 := List.length_eraseP_of_mem (p := fun y => decide (y = x)) (hs x (List.mem_cons_self ..)) (by simp)
  have h3 : 0 < b.length := List.length_pos_of_mem (hs x (List.mem_cons_self ..))
  rw [List.length_cons]; omega
theorem all_le {procs all : List Pr} (hn : (all.map Pr.nm).Nodup) (hs : ∀ q ∈ all, q ∈ procs) : all.length ≤ procs.length := by
 have := nodup_le (all.map Pr.nm) (procs.map Pr.nm) hn (fun x hx => by obtain ⟨q, hq, rfl⟩ := List.mem_map.1 hx; exact List.mem_map_of_mem (hs q hq))
 rwa [List.length_map, List.length_map] at this
theorem BfsI.start {procs : List Pr} {fr : Pr} (h : fr ∈ procs) : BfsI procs fr [] [fr] := ⟨fun q hq => by rw [List.nil_append, List.mem_singleton] at hq; subst hq; exact ⟨h, .refl⟩, by simp, by simp, fun q hq => by cases hq⟩
theorem BfsI.pop {procs : List Pr} {fr : Pr} {vis : List Pr} {q : Pr} {r : List Pr} (h : BfsI procs fr vis (q :: r)) : BfsK procs fr vis q r 0 := by
 have e : vis ++ [q] ++ r = vis ++ q :: r := by simp
 exact ⟨by rw [e]; exact h.sub, by rw [e]; exact h.nd, by rw [e]; exact h.frm, by rw [e]; exact h.cl, fun f hf => by simp at hf⟩
theorem BfsK.done {procs : List Pr} {fr : Pr} {vis : List Pr} {q : Pr} {ah : List Pr} (h : BfsK procs fr vis q ah procs.length) : BfsI procs fr (vis ++ [q]) ah := by
 refine ⟨h.sub, h.nd, h.frm, fun x hx f hf hc => ?_⟩
 rcases List.mem_append.1 hx with hx | hx
 ·exact h.cl x hx f hf hc
 ·rw [List.mem_singleton] at hx
  subst hx
  exact h.clq f (by rw [List.take_length]; exact hf) hc
theorem BfsK.skip {procs : List Pr} {fr : Pr} {vis : List Pr} {q : Pr} {ah : List Pr} {k : Nat} (h : BfsK procs fr vis q ah k) (hk : k < procs.length) (hn : procs[k].nm ∈ callsOf (preSL q.body) → procs[k].nm ∈ (vis ++ [q] ++ ah).map Pr.nm) : BfsK procs fr vis q ah (k + 1) := by
 refine ⟨h.sub, h.nd, h.frm, h.cl, fun f hf hc => ?_⟩
 rw [List.take_succ_eq_append_getElem hk] at hf
 rcases List.mem_append.1 hf with hf | hf
 ·exact h.clq f hf hc
 ·rw [List.mem_singleton] at hf
  subst hf
  exact hn hc
theorem BfsK.add {procs : List Pr} {fr : Pr} {vis : List Pr} {q : Pr} {ah : List Pr} {k : Nat} (h : BfsK procs fr vis q ah k) (hk : k < procs.length) (hc : procs[k].nm ∈ callsOf (preSL q.body)) (hn : procs[k].nm ∉ (vis ++ [q] ++ ah).map Pr.nm) : BfsK procs fr vis q (ah ++ [procs[k]]) (k + 1) := by
 have e : vis ++ [q] ++ (ah ++ [procs[k]]) = (vis ++ [q] ++ ah) ++ [procs[k]] := by simp
 refine ⟨?_, ?_, ?_, ?_, ?_⟩
 ·rw [e]
  intro x hx
  rcases List.mem_append.1 hx with hx | hx
  ·exact h.sub x hx
  ·rw [List.mem_singleton] at hx
   subst hx
   exact ⟨List.getElem_mem hk, .step (h.sub q (by simp)).2 (List.getElem_mem hk) hc⟩
 ·rw [e, List.map_append]
  exact List.nodup_append.2 ⟨h.nd, by simp, fun a ha b hb e => by simp at hb; subst hb; subst e; exact hn ha⟩
 ·rw [e]; exact List.mem_append_left _ h.frm
 ·rw [e, List.map_append]; exact fun x hx f hf hc => List.mem_append_left _ (h.cl x hx f hf hc)
 ·rw [e, List.map_append]
  intro f hf hc2
  rw [List.take_succ_eq_append_getElem hk] at hf
  rcases List.mem_append.1 hf with hf | hf
  ·exact List.mem_append_left _ (h.clq f hf hc2)
  ·rw [List.mem_singleton] at hf
   subst hf
   exact List.mem_append_right _ (by simp)
theorem nm_inj {procs : List Pr} (hn : (procs.map Pr.nm).Nodup) {a b : Pr} (ha : a ∈ procs) (hb : b ∈ procs) (e : a.nm = b.nm) : a = b := by
 have h1 := find_own procs hn a ha
 have h2 := find_own procs hn b hb
 rw [e, h2] at h1
 injection h1 with h1
 exact h1.symm
/-- in the end: the names of all that are reached -/
theorem BfsI.end_ {procs : List Pr} {fr : Pr} {vis : List Pr} (h : BfsI procs fr vis []) (hn : (procs.map Pr.nm).Nodup) (s : ByteArray) : s ∈ vis.map Pr.nm ↔ ∃ f, f ∈ procs ∧ RchP procs fr f ∧ f.nm = s := by
 obtain ⟨hs, hd, hf, hc⟩ := h
 rw [List.append_nil] at hs hd hf hc
 constructor
 ·intro h1
  obtain ⟨q, hq, rfl⟩ := List.mem_map.1 h1
  exact ⟨q, (hs q hq).1, (hs q hq).2, rfl⟩
 ·rintro ⟨f, hfp, hr, rfl⟩
  have key : ∀ x, RchP procs fr x → x ∈ procs → x ∈ vis := by
   intro x hx
   induction hx with
   | refl => exact fun _ => hf
   | @step q f hq hfp hfc ih =>
    intro _
    have hqp : q ∈ procs := by
     cases hq with
     | refl => exact (hs fr hf).1
     | step _ h2 _ => exact h2
    have := hc q (ih hqp) f hfp hfc
    obtain ⟨y, hy, he⟩ := List.mem_map.1 this
    exact nm_inj hn (hs y hy).1 hfp he ▸ hy
  exact List.mem_map_of_mem (key f hr hfp)
end Go.Proofs.Ytehpinnmalpgpaa
