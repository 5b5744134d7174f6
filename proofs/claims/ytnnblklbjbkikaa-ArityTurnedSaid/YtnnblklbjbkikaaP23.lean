/- Texts, merged by a program; only what is used. -/
import Derived.Deep.CutBlock
import Derived.OrdersHeld
import Derived.Test.YtnnblklbjbkikaaP1
import Derived.Test.YtnnblklbjbkikaaP2
import Derived.Test.YtnnblklbjbkikaaP3
import Derived.Test.YtnnblklbjbkikaaP4
import Derived.Test.YtnnblklbjbkikaaP5
import Derived.Test.YtnnblklbjbkikaaP6
import Derived.Test.YtnnblklbjbkikaaP7
import Derived.Test.YtnnblklbjbkikaaP8
import Derived.Test.YtnnblklbjbkikaaP9
import Derived.Test.YtnnblklbjbkikaaP10
import Derived.Test.YtnnblklbjbkikaaP11
import Derived.Test.YtnnblklbjbkikaaP12
import Derived.Test.YtnnblklbjbkikaaP13
import Derived.Test.YtnnblklbjbkikaaP14
import Derived.Test.YtnnblklbjbkikaaP15
import Derived.Test.YtnnblklbjbkikaaP16
import Derived.Test.YtnnblklbjbkikaaP17
import Derived.Test.YtnnblklbjbkikaaP18
import Derived.Test.YtnnblklbjbkikaaP19
import Derived.Test.YtnnblklbjbkikaaP20
import Derived.Test.YtnnblklbjbkikaaP21
import Derived.Test.YtnnblklbjbkikaaP22
namespace Go.Proofs.Ytnnblklbjbkikaa
open Go.ChangeShapes Go.WideShapes Go.ChangeAt Go.RowKit Go.Deep
set_option linter.unusedVariables false
set_option linter.unusedSimpArgs false
theorem add_zero_one (a : Addr) : a.add 0 = a := by cases a; rfl
theorem st_args {w : World} {Q : Nat → Prop} {id kind : Int} {labels : List ByteArray} {nm proc : ByteArray} {x : E} {has : Bool} {args : List Ar} {th el : List S} {c0 c1 vl c3 c4 x0 x1 x2 x3 c9 va vt ve : Value} (h : StmtI w Q (.mk id kind labels nm proc x has args th el) [c0, c1, vl, c3, c4, x0, x1, x2, x3, c9, va, vt, ve]) : SliceI w Q 6 (ArgI w Q) args va := by
 cases h with
 | mk hid hkind hnm hproc hl hx ha hc1 hc2 hA1 hA2 hk1 hk2 => exact ha
theorem in_eq (w : World) (o : Obj) : In (fun j => j = w.heap.size) (w.alloc o) (w.alloc o) := ⟨fun j h => by subst h; simp, fun _ _ => rfl⟩
theorem one_arg {w : World} {Q : Nat → Prop} (W : World) {x : Ar} {c0 c1 c2 c3 c4 c5 : Value} (h : ArgI w Q x [c0, c1, c2, c3, c4, c5]) : SliceI (W.alloc (.cells #[c0, c1, c2, c3, c4, c5] 72)) (fun j => j = W.heap.size) 6 (ArgI w Q) [x] (.slice (some ⟨W.heap.size, 0, none⟩) 1 1) :=
 rows_slice (Q := fun j => j = W.heap.size) (l := [x]) [[c0, c1, c2, c3, c4, c5]] (Blk.new _ _ _) rfl ⟨h, trivial⟩ (fun x cs h => argCk w Q x cs h) rfl (by simp) rfl
theorem wAr_app : ∀ l l' : List Ar, wAr (l ++ l') = wAr l + wAr l'
 | [], l' => by rw [List.nil_append, wAr]; omega
 | a :: l, l' => by rw [List.cons_append, wAr, wAr, wAr_app l l']; omega
theorem wNew {n : ByteArray} (h : n.size ≤ 8) : wAr [aNew n] ≤ 20 := by
 rw [wAr, wAr]
 show wE eZ + (n.size + 1) + 0 ≤ 20
 have : wE eZ = 1 := rfl
 omega
theorem turnA_app {ns : List ByteArray} {l : List Ar} {n : ByteArray} (h : n ∈ ns) (hn : n.size ≤ 8) (hl : l.length ≤ 20000) : TurnA ns l (l ++ [aNew n]) ∧ (l ++ [aNew n]).length ≤ 30000 ∧ wAr (l ++ [aNew n]) ≤ wAr l + 20 := by
 refine ⟨⟨fun e => ?_, fun a ha => ?_⟩, by simp; omega, by rw [wAr_app]; have := wNew hn; omega⟩
 ·have := congrArg List.length e
  simp at this
 ·rcases List.mem_append.1 ha with h1 | h1
  ·exact .inl h1
  ·exact .inr (.inl ⟨n, h, List.mem_singleton.1 h1⟩)
theorem in_new (W w : World) : In (nw W w) w w := ⟨fun b h => h.2, fun _ _ => rfl⟩
theorem own_frz {w wr : World} {Q : Nat → Prop} {B : Nat} {l : List Ar} {X : Option Addr} {n c : Nat} (h : AO w Q B wr l (.slice X n c)) : ∀ a, X = some a → ∀ k, wr.frozen? ⟨a.block, k, none⟩ = false := by
 obtain ⟨rows, h1, _⟩ := h
 intro a ha k
 rcases h1.2 with ⟨e, _⟩ | ⟨g, cap, cur, e, hb, hg, hnc, hm, hs, ht⟩
 ·injection e with e1; rw [ha] at e1; cases e1
 ·injection e with e1
  rw [ha] at e1
  injection e1 with e1
  subst e1
  exact (show Blk wr g _ cur from hg).frozen k
theorem turned_stmt {w W : World} {Q : Nat → Prop} {id kind : Int} {labels : List ByteArray} {nm proc : ByteArray} {x : E} {has : Bool} {args : List Ar} {th el : List S} {c0 c1 vl c3 c4 x0 x1 x2 x3 c9 va vt ve : Value} (h : StmtI w Q (.mk id kind labels nm proc x has args th el) [c0, c1, vl, c3, c4, x0, x1, x2, x3, c9, va, vt, ve]) (hI : In Q w W) {B : Nat} {l : List Ar} {v : Value} (ha : AO w Q B W l v) : StmtI W (fun j => Q j ∨ (B ≤ j ∧ j < W.heap.size)) (.mk id kind labels nm proc x has l th el) [c0, c1, vl, c3, c4, x0, x1, x2, x3, c9, v, vt, ve] := by
 have h' := h.keep (w' := W) (Q' := fun j => Q j ∨ (B ≤ j ∧ j < W.heap.size)) (fun b h => .inl h) hI.2
 cases h' with
 | mk hid hkind hnm hproc hl hx ha' hc1 hc2 hA1 hA2 hk1 hk2 => exact .mk hid hkind hnm hproc hl hx (ha.read.keep (fun b hb => .inr hb) (fun _ _ => rfl) (fun a cs _ h => ArgI.keep h (fun b h => .inl h) hI.2)) hc1 hc2 hA1 hA2 hk1 hk2
theorem AO.far {w wr : World} {Q : Nat → Prop} {B : Nat} {l : List Ar} {v : Value} (h : AO w Q B wr l v) {p : Addr} (hp : p.block < B) (u : Value) : AO w Q B (wr.setCell p u) l v := by
 obtain ⟨rows, h1, h2⟩ := h
 exact ⟨rows, ownsRow_setCell_below h1 hp u, h2⟩
theorem wAr_set : ∀ (l : List Ar) (i : Nat) (x : Ar), wAr (l.set i x) ≤ wAr l + wAr [x]
 | [], i, x => by rw [List.set_nil]; omega
 | a :: l, 0, x => by rw [List.set_cons_zero, wAr, wAr, wAr, wAr]; omega
 | a :: l, i + 1, x => by rw [List.set_cons_succ, wAr, wAr]; have := wAr_set l i x; omega
theorem refs_set {l : List Ar} {i : Nat} {x : Ar} (hi : i < l.length) (h : l[i].ref ≠ x.ref) : l.map Ar.ref ≠ (l.set i x).map Ar.ref := by
 intro e
 have h1 : (l.map Ar.ref)[i]? = ((l.set i x).map Ar.ref)[i]? := by rw [e]
 rw [List.getElem?_map, List.getElem?_map, List.getElem?_eq_getElem hi, List.getElem?_set_self hi] at h1
 simp only [Option.map_some, Option.some.injEq] at h1
 exact h h1
theorem wVal {n : ByteArray} (h : n.size ≤ 8) : wAr [aVal n] ≤ 20 := by
 rw [wAr, wAr]
 show wE (eName n) + (b0.size + 1) + 0 ≤ 20
 have h1 : wE (eName n) = n.size + 1 := by rw [eName, wE, wL]; omega
 have h2 : b0.size = 0 := rfl
 omega
theorem turnA_val {ns : List ByteArray} {l : List Ar} {i : Nat} {hi : i < l.length} (hr : l[i].ref = true) (hn : l[i].nm.size ≤ 8) (hl : l.length ≤ 20000) : TurnA ns l (l.set i (aVal l[i].nm)) ∧ (l.set i (aVal l[i].nm)).length ≤ 30000 ∧ wAr (l.set i (aVal l[i].nm)) ≤ wAr l + 20 := by
 refine ⟨⟨refs_set hi (by rw [hr]; show true ≠ false; decide), fun a ha => ?_⟩, by simp; omega, by have := wAr_set l i (aVal l[i].nm); have := wVal hn; omega⟩
 rcases List.mem_or_eq_of_mem_set ha with h1 | h1
 ·exact .inl h1
 ·exact .inr (.inr ⟨l[i], List.getElem_mem hi, hr, h1⟩)
theorem turnA_new {ns : List ByteArray} {l : List Ar} {i : Nat} {hi : i < l.length} {n : ByteArray} (hr : l[i].ref = false) (h : n ∈ ns) (hn : n.size ≤ 8) (hl : l.length ≤ 20000) : TurnA ns l (l.set i (aNew n)) ∧ (l.set i (aNew n)).length ≤ 30000 ∧ wAr (l.set i (aNew n)) ≤ wAr l + 20 := by
 refine ⟨⟨refs_set hi (by rw [hr]; show false ≠ true; decide), fun a ha => ?_⟩, by simp; omega, by have := wAr_set l i (aNew n); have := wNew hn; omega⟩
 rcases List.mem_or_eq_of_mem_set ha with h1 | h1
 ·exact .inl h1
 ·exact .inr (.inl ⟨n, h, h1⟩)
theorem addr0' (g a b : Nat) : (⟨g, a, none⟩ : Addr).add b = ⟨g, a + b, none⟩ := by
 by_cases h : b = 0
 ·subst h
  exact add_zero_ _
 ·exact add_ne _ h
theorem AO.lower {w wr : World} {Q : Nat → Prop} {B B' : Nat} {l : List Ar} {v : Value} (h : AO w Q B wr l v) (hb : B' ≤ B) : AO w Q B' wr l v := by
 obtain ⟨rows, h1, h2⟩ := h
 exact ⟨rows, own_lower h1 hb, h2⟩
theorem sl_take {α : Type} {w : World} {Q : Nat → Prop} {R : α → List Value → Prop} {l : List α} {A : Option Addr} {n cap k : Nat} (h : SliceI w Q 6 R l (.slice A n cap)) (hk : k ≤ l.length) : SliceI w Q 6 R (l.take k) (.slice A k cap) := by
 obtain ⟨A', cap', css, e, h2, h3, h4⟩ := h
 injection e with e1 e2 e3
 subst e1 e3
 have hl : (l.take k).length = k := by rw [List.length_take]; omega
 refine ⟨A, cap, css, by rw [hl], ⟨by omega, h2.2⟩, fun h0 => ?_, fun i hi => ?_⟩
 ·obtain ⟨a, ha, hq, hc⟩ := h3 (by omega)
  exact ⟨a, ha, hq, fun i hi => hc i (by omega)⟩
 ·rw [List.getElem_take]
  exact h4 i (by omega)
theorem sl_drop {α : Type} {w : World} {Q : Nat → Prop} {R : α → List Value → Prop} {l : List α} {g n cap k : Nat} {z : Addr} (h : SliceI w Q 6 R l (.slice (some ⟨g, 0, none⟩) n cap)) (hk : k ≤ l.length) (hz : k < l.length → z = ⟨g, k * 6, none⟩) : SliceI w Q 6 R (l.drop k) (.slice (some z) (n - k) (cap - k)) := by
 obtain ⟨A', cap', css, e, h2, h3, h4⟩ := h
 injection e with e1 e2 e3
 subst e1 e2 e3
 have hl : (l.drop k).length = l.length - k := List.length_drop
 refine ⟨some z, cap - k, fun i => css (k + i), by rw [hl], ⟨by rw [hl]; omega, by omega⟩, fun h0 => ?_, fun i hi => ?_⟩
 ·obtain ⟨a, ha, hq, hc⟩ := h3 (by omega)
  injection ha with ha
  subst ha
  rw [hz (by omega)]
  refine ⟨_, rfl, hq, fun i hi j u hu => ?_⟩
  have := hc (k + i) (by rw [hl] at hi; omega) j u hu
  rw [addr0] at this
  have e : (⟨g, k * 6, none⟩ : Addr).add (i * 6 + j) = ⟨g, (k + i) * 6 + j, none⟩ := by rw [addr0', show (k + i) * 6 + j = k * 6 + (i * 6 + j) by omega]
  rw [e]; exact this
 ·rw [List.getElem_drop]
  exact h4 (k + i) (by omega)
theorem wAr_del : ∀ (l : List Ar) (m : Nat), wAr (l.take m) + wAr (l.drop (m + 1)) ≤ wAr l
 | [], m => by simp [wAr]
 | a :: l, 0 => by rw [List.take_zero, List.drop_succ_cons, List.drop_zero, wAr, wAr]; omega
 | a :: l, m + 1 => by rw [List.take_succ_cons, List.drop_succ_cons, wAr, wAr]; have := wAr_del l m; omega
theorem turnA_del {ns : List ByteArray} {l : List Ar} {m : Nat} (hm : m < l.length) (hl : l.length ≤ 20000) : TurnA ns l (l.take m ++ l.drop (m + 1)) ∧ (l.take m ++ l.drop (m + 1)).length ≤ 30000 ∧ wAr (l.take m ++ l.drop (m + 1)) ≤ wAr l + 20 := by
 have hlen : (l.take m ++ l.drop (m + 1)).length = l.length - 1 := by rw [List.length_append, List.length_take, List.length_drop]; omega
 refine ⟨⟨fun e => ?_, fun a ha => ?_⟩, by omega, by rw [wAr_app]; have := wAr_del l m; omega⟩
 ·have := congrArg List.length e
  rw [List.length_map, List.length_map, hlen] at this
  omega
 ·rcases List.mem_append.1 ha with h1 | h1
  ·exact .inl (List.mem_of_mem_take h1)
  ·exact .inl (List.mem_of_mem_drop h1)
theorem at_w2 {p : Pg} {id : Int} {q : Pr} {s : S} (hf : fitsP p = true) (h : AtId p id q s) : wS s ≤ 20000 := by
 unfold fitsP weighP at hf
 have h0 := of_decide_eq_true hf
 obtain ⟨h1, h2⟩ := weighQs_full p.procs _ h0
 exact Nat.le_trans (preSL_w _ _ h.stm) (h2 q h.mem).1
set_option maxHeartbeats 8000000 in
set_option maxRecDepth 100000 in
theorem arityTurned_walk {w : World} {Q : Nat → Prop} {p : Pg} {c0 c1 : Value} (h : ProgI w Q p [c0, c1]) (n : Int) (wn : (Lit.int .i64 n).wf = true) (kk : Int) (wkk : (Lit.int .i64 kk).wf = true) (ii : Int) (wii : (Lit.int .i64 ii).wf = true) (W : World) (hI : In Q w W) :
 Calls Try.prog 8 #[.agg #[c0, c1], .int .i64 n, .int .i64 kk, .int .i64 ii] W fun e w' => e = .returned (.bool true) ∧ Below W.heap.size W w' := by
 have HP := Lib.hid h
 have HF := Lib.hid (fun V h1 => Fits_any h V h1)
 have HI := Lib.hid hI
 obtain ⟨Ag, cg, Ap, cp, rfl, rfl, _⟩ := prog_open h
 clear h hI
 go_enter Try.func8, Try.ntmps8
 go_upto_region 1 with fail
 have HB0 : Hid (Below W.heap.size W (W.alloc (.cells #[.slice Ag p.globals.length cg, .slice Ap p.procs.length cp] 25))) := Lib.hid (below_box _)
 have HBp0 : Hid (Blk (W.alloc (.cells #[.slice Ag p.globals.length cg, .slice Ap p.procs.length cp] 25)) W.heap.size 25 #[.slice Ag p.globals.length cg, .slice Ap p.procs.length cp]) := Lib.hid (Blk.new _ _ _)
 generalize World.alloc _ _ = W0 at HB0 HBp0 ⊢
 have HI0 := Lib.hid (HI.out.on HB0.out)
 generalize hbe : W.heap.size = b at HBp0 ⊢
 clear hbe
 go_upto_region 3 with (go_at_call 38; refine (fitting_any W0).mono ?_; rintro e' W1 ⟨rfl, hb1⟩)
 have HB1 : Hid (Below W.heap.size W W1) := Lib.hid (below_step HB0.out hb1)
 have HI1 := Lib.hid (HI0.out.on hb1)
 have HBp1 := Lib.hid (HBp0.out.below hb1 HBp0.out.lt)
 clear hb1 HB0 HBp0 HI0
 have q0 : W1.cell? ⟨b, 0, none⟩ = some (.slice Ag p.globals.length cg) := by rw [HBp1.out.cell]; rfl
 have q1 : W1.cell? ⟨b, 1, none⟩ = some (.slice Ap p.procs.length cp) := by rw [HBp1.out.cell]; rfl
 have hbl := HBp1.out.lt
 cases hf : fitsP p with
 | false =>
  rw [hf] at HF
  clear hf
  go_wp2_with (go_at_call 13; refine (HF.out _ HI1.out).mono ?_; rintro e' W2 ⟨rfl, hb2⟩)
  go_ret
  exact ⟨rfl, below_step HB1.out hb2⟩
 | true =>
  have HSg := Lib.hid (fits_smG hf)
  have HC := Lib.hid (fun V hV => aCheck_any HP.out (fits_smG hf) V hV)
  have HIs := Lib.hid (fun V hV => Ids_any HP.out 4 (by simp [i64]) V hV)
  have HSt := Lib.hid (fun id V hV => rStmt_any HP.out id V hV)
  have HPf := Lib.hid (fun id V hV => rProcOf_any HP.out id V hV)
  have HVr := Lib.hid (fun nm V hV => Vars_any HP.out (fits_smG hf) nm V hV)
  have HFt := Lib.hid hf
  rw [hf] at HF
  clear hf
  go_upto_region 5 with (go_at_call 13; refine (HF.out _ HI1.out).mono ?_; rintro e' W2 ⟨rfl, hb2⟩)
  have HB2 : Hid (Below W.heap.size W W2) := Lib.hid (below_step HB1.out hb2)
  have HI2 := Lib.hid (HI1.out.on hb2)
  have HBp2 := Lib.hid (HBp1.out.below hb2 hbl)
  clear hb2 HB1 HI1 HBp1 q0 q1 hbl HF
  have q0 : W2.cell? ⟨b, 0, none⟩ = some (.slice Ag p.globals.length cg) := by rw [HBp2.out.cell]; rfl
  have q1 : W2.cell? ⟨b, 1, none⟩ = some (.slice Ap p.procs.length cp) := by rw [HBp2.out.cell]; rfl
  have hbl := HBp2.out.lt
  have hff : ∀ (a c : Int) (w : World), (Instr.field 45 (.agg #[.int .i64 a, .int .i64 c]) 0).run Try.prog w = .ok (.int .i64 a) w := fun _ _ _ => by kernel_rfl
  have hok : (arP p).1 = 0 → ArOk p := ar_ok
  have HOk0 := Lib.hid hok
  clear hok
  generalize arP p = r at HC HOk0
  obtain ⟨rc, ri⟩ := r
  simp only at HOk0
  by_cases hr : rc = 0
  ·subst hr
   have HOk := Lib.hid (HOk0.out rfl)
   clear HOk0
   go_upto_region 7 with (go_at_call 39; refine (HC.out W2 HI2.out).mono ?_; rintro e' W3 ⟨rfl, hb3⟩)
   have HB3 : Hid (Below W.heap.size W W3) := Lib.hid (below_step HB2.out hb3)
   have HI3 := Lib.hid (HI2.out.on hb3)
   have HBp3 := Lib.hid (HBp2.out.below hb3 hbl)
   clear hb3 HB2 HI2 HBp2 q0 q1 hbl HC hff
   have q0 : W3.cell? ⟨b, 0, none⟩ = some (.slice Ag p.globals.length cg) := by rw [HBp3.out.cell]; rfl
   have q1 : W3.cell? ⟨b, 1, none⟩ = some (.slice Ap p.procs.length cp) := by rw [HBp3.out.cell]; rfl
   have hbl := HBp3.out.lt
   have HIm : Hid (∀ i, i ∈ idsOf 4 (allOf p) → (1 ≤ i ∧ i ≤ 200) ∧ ∃ q s, AtId p i q s ∧ s.kind = 4) := Lib.hid (fun i hi => by
    obtain ⟨q, s, h1, h2, h3⟩ := ids_at HOk.out.chk.may hi
    exact ⟨h3, q, s, h1, by rcases h2 with h2 | h2; cases h2; exact h2⟩)
   have HLn : Hid ((idsOf 4 (allOf p)).length ≤ 1000) := Lib.hid (by
    have h1 := allL_len p.procs [] (by simp)
    have h2 := idsOf_len (kind := 4) (l := allOf p) (k := (allOf p).length)
    rw [List.take_length] at h2
    have h3 : (allOf p).length ≤ 401 := h1
    omega)
   generalize idsOf 4 (allOf p) = il at HIs HLn HIm
   go_upto_region 8 with (first
    | (go_at_call 29; refine (HIs.out W3 HI3.out).mono ?_; rintro e' W4 ⟨v4, rfl, ho4, hb4⟩; obtain ⟨X4, k4, rfl, _, _⟩ := own_shape ho4; have HPk := Lib.hid (Pick_any ho4 HLn.out (fun i hi => by have := (HIm.out i hi).1; unfold i64; omega) n (Below.refl _ _)); have HB4 := Lib.hid hb4; clear ho4 hb4)
    | (go_at_call 30; refine HPk.out.mono ?_; rintro e' W5 ⟨id, hidm, rfl, rfl⟩))
   have HI4 := Lib.hid (HI3.out.on HB4.out)
   have HBp4 := Lib.hid (HBp3.out.below HB4.out hbl)
   have HB4W := Lib.hid (below_step HB3.out HB4.out)
   have HDm := Lib.hid hidm
   clear q0 q1 hbl hidm HPk HIs HLn HB3 HI3 HBp3 HB4
   have hbl := HBp4.out.lt
   have q0 : W4.cell? ⟨b, 0, none⟩ = some (.slice Ag p.globals.length cg) := by rw [HBp4.out.cell]; rfl
   have q1 : W4.cell? ⟨b, 1, none⟩ = some (.slice Ap p.procs.length cp) := by rw [HBp4.out.cell]; rfl
   have HS8 : Hid (∀ w' : World, Below W4.heap.size W4 w' → (w'.cell? ⟨b, 0, none⟩ = some (.slice Ag p.globals.length cg) ∧ w'.cell? ⟨b, 1, none⟩ = some (.slice Ap p.procs.length cp))) := Lib.hid (fun w' hb => ⟨(hb.cell (p := ⟨b, 0, none⟩) hbl).trans q0, (hb.cell (p := ⟨b, 1, none⟩) hbl).trans q1⟩)
   have hBD : Below W4.heap.size W4 W4.drew := (Below.refl _ _).drew
   have hdr : ∀ V : World, In Q w V → In Q w V.drew := fun V h => h
   obtain ⟨pn, hpn⟩ : ∃ pn, pn = pfP p id := ⟨_, rfl⟩
   have HPf1 := Lib.hid (fun V hV => HPf.out id V hV)
   rw [← hpn] at HPf1
   have HPn := Lib.hid hpn
   have HVr1 := Lib.hid (fun V hV => HVr.out pn V hV)
   obtain ⟨ns, hns⟩ : ∃ ns, ns = varsP p pn := ⟨_, rfl⟩
   rw [← hns] at HVr1
   have HNs := Lib.hid hns
   clear hpn hns HPf HVr
   go_region_held3 (fun w' => w'.cell? ⟨b, 0, none⟩ = some (.slice Ag p.globals.length cg) ∧ w'.cell? ⟨b, 1, none⟩ = some (.slice Ap p.procs.length cp))
    ((refine HS8.out _ ?_; with_reducible assumption))
    (first
     | (go_at_call 40; (with_reducible refine (HPf1.out W4.drew (hdr W4 HI4.out)).mono ?_); rintro e' W5 ⟨rfl, hb5⟩; have k5 : Below W4.heap.size W4 W5 := hBD.trans hb5; have HI5 := Lib.hid (HI4.out.on k5))
     | (go_at_call 34; (with_reducible refine (HVr1.out W5 HI5.out).mono ?_); rintro e' W6 ⟨v6, rfl, ho6, hb6⟩; obtain ⟨X6, c6, rfl, _, _⟩ := own_shape ho6; have HO6 := Lib.hid ho6; have k6 : Below W4.heap.size W4 W6 := below_step k5 hb6; clear ho6))
   have HB6W := Lib.hid (below_step HB4W.out k6)
   have HI6 := Lib.hid (HI4.out.on k6)
   have HBp6 := Lib.hid (HBp4.out.below k6 hbl)
   have h56 : W5.heap.size ≤ W6.heap.size := hb6.size
   clear k5 k6 hb5 hb6 q0 q1 hbl HS8 hBD HPf1 HVr1 HI4 HI5 HBp4 HB4W
   have hbl := HBp6.out.lt
   have q0 : W6.cell? ⟨b, 0, none⟩ = some (.slice Ag p.globals.length cg) := by rw [HBp6.out.cell]; rfl
   have q1 : W6.cell? ⟨b, 1, none⟩ = some (.slice Ap p.procs.length cp) := by rw [HBp6.out.cell]; rfl
   by_cases h0 : id = 0
   ·subst h0
    go_wp2_with fail
    go_ret
    exact ⟨rfl, HB6W.out⟩
   ·have h1 : (id == 0) = false := beq_eq_false_iff_ne.2 h0
    by_cases hn0 : ns.length = 0
    ·rw [hn0] at HO6
     generalize ns.length = nl at hn0 ⊢
     subst hn0
     go_wp2_with fail
     go_ret
     exact ⟨rfl, HB6W.out⟩
    ·obtain ⟨⟨hi1, hi2⟩, q, s, hat, hki⟩ := HIm.out id (by rcases HDm.out with ⟨_, h⟩ | h; exact absurd h h0; exact h)
     have HS0 := Lib.hid (fun V hV => HSt.out id V hV)
     rw [hat.st] at HS0
     have HAt := Lib.hid hat
     have HKi := Lib.hid hki
     have HNq : Hid (ns = namesP p.globals q) := Lib.hid (by
      rw [HNs.out, HPn.out, hat.pf]
      unfold varsP
      rw [if_pos HOk.out.chk.may, find_own p.procs HOk.out.chk.procs q hat.mem]
      rfl)
     have hnp : 0 < ns.length := by omega
     obtain ⟨g6, cap6, he6, hcl6, _, _⟩ := own_at HO6.out hnp
     injection he6 with e1 _ e3
     subst e1 e3
     have x0 := hcl6 (.string ns[0]) (by simp [strs, List.getElem?_map, List.getElem?_eq_getElem hnp])
     have HL0 : Hid (ns[0] ∈ namesP p.globals q) := Lib.hid (by rw [← HNq.out]; exact List.getElem_mem hnp)
     have hg6 : g6.block < W6.heap.size := (HO6.out.lt g6.block rfl).2
     have hln0 : (ns.length == 0) = false := beq_eq_false_iff_ne.2 (by omega)
     generalize ns[0] = l0 at x0 HL0
     have hnl : (ns.length : Int) ≠ 0 := by omega
     rw [show g6.add 0 = g6 from add_zero_one g6] at x0
     generalize ns.length = nl at *
     clear HIm HDm hat hki HSt HPn HNs HO6 hcl6 h0 HNq hn0
     go_upto_region 12 with (go_at_call 31; refine (HS0.out W6 HI6.out).mono ?_; rintro e' W7 ⟨cs, rfl, hst, hb7⟩; obtain ⟨sid, kind, labels, nm, proc, x, has, args, th, el, L, lc, y0, y1, y2, X, xn, xc, R, rc, T, tc, U, uc, rfl, rfl, _, hkb, _⟩ := stmt_open hst; have HSi := Lib.hid hst; clear hst)
     have hk4 : kind = 4 := HKi.out
     have heid : sid = id := HAt.out.eid
     subst hk4 heid
     have HB9 : Hid (Below W6.heap.size W6 (W7.alloc (.cells #[.int .i64 sid, .int .i64 4, .slice L labels.length lc, .string nm, .string proc, .int .i64 y0, .int .i64 y1, .string y2, .slice X xn xc, .bool has, .slice R args.length rc, .slice T th.length tc, .slice U el.length uc] 55))) := Lib.hid (below_stepA hb7 _)
     have HBs9 : Hid (Blk (W7.alloc (.cells #[.int .i64 sid, .int .i64 4, .slice L labels.length lc, .string nm, .string proc, .int .i64 y0, .int .i64 y1, .string y2, .slice X xn xc, .bool has, .slice R args.length rc, .slice T th.length tc, .slice U el.length uc] 55)) W7.heap.size 55 #[.int .i64 sid, .int .i64 4, .slice L labels.length lc, .string nm, .string proc, .int .i64 y0, .int .i64 y1, .string y2, .slice X xn xc, .bool has, .slice R args.length rc, .slice T th.length tc, .slice U el.length uc]) := Lib.hid (Blk.new _ _ _)
     have hbsW : W.heap.size ≤ W7.heap.size := (below_step HB6W.out hb7).size
     have hbs8 : b < W7.heap.size := Nat.lt_of_lt_of_le hbl hb7.size
     have x0 : (W7.alloc (.cells #[.int .i64 sid, .int .i64 4, .slice L labels.length lc, .string nm, .string proc, .int .i64 y0, .int .i64 y1, .string y2, .slice X xn xc, .bool has, .slice R args.length rc, .slice T th.length tc, .slice U el.length uc] 55)).cell? g6 = some (.string l0) := (HB9.out.cell (p := g6) hg6).trans x0
     have hg6 : g6.block < (W7.alloc (.cells #[.int .i64 sid, .int .i64 4, .slice L labels.length lc, .string nm, .string proc, .int .i64 y0, .int .i64 y1, .string y2, .slice X xn xc, .bool has, .slice R args.length rc, .slice T th.length tc, .slice U el.length uc] 55)).heap.size := Nat.lt_of_lt_of_le hg6 HB9.out.size
     clear hb7 q0 q1 hbl HS0 h56
     generalize World.alloc W7 _ = W9 at HB9 HBs9 x0 hg6 ⊢
     generalize W7.heap.size = bs at HBs9 hbsW hbs8 ⊢
     have HB9W := Lib.hid (below_step HB6W.out HB9.out)
     have HI9 := Lib.hid (HI6.out.on HB9.out)
     have HBp9 := Lib.hid (HBp6.out.below HB9.out HBp6.out.lt)
     clear HB6W HI6 HBp6 HB9
     have hsl := HBs9.out.lt
     have s7 : W9.cell? ⟨bs, 10, none⟩ = some (.slice R args.length rc) := by rw [HBs9.out.cell]; rfl
     obtain ⟨i0, hi0, hz0, hz1, hz2⟩ := info_parts arg_info
     have HAr := Lib.hid (st_args HSi.out)
     have hal : args.length ≤ 20000 := by
      have h1 := at_w2 HFt.out HAt.out
      rw [wS] at h1
      have h2 := wAr_len args
      omega
     go_upto_region 13 with (at_builtin; refine wpList_append_args rfl (.tmp 41) (.tmp 43) 52 rfl i0 Try.underlying52 hi0 hz0 hz1 hz2 rfl rfl (AO.nil (w := w) (Q := Q) (B := W9.heap.size) (Nat.le_refl _)) rfl HAr.out (HI9.out.alloc _) (by simp; omega) (by simp) ?_; intro v12 W12 hao hb12; rw [List.nil_append] at hao; obtain ⟨X12, c12, rfl, hc121, hc122, hx12⟩ := hao.shape)
     have HAO := Lib.hid hao
     have HB12 : Hid (Below W9.heap.size W9 W12) := Lib.hid (((Below.refl _ _).alloc (Nat.le_refl _) _).trans hb12)
     clear hao hb12 s7
     obtain ⟨m, hm, hM⟩ := Mod_fix ii (max 1 args.length) (by omega) (by omega)
     obtain ⟨m3, hm3, hM3⟩ := Mod_fix kk 3 (by omega) (by omega)
     have HM : Hid (∀ w : World, Calls Try.prog 16 #[.int .i64 ii, .int .i64 (max 1 ((args.length : Nat) : Int))] w fun e w' => e = .returned (.int .i64 m) ∧ w = w') := Lib.hid (by
      have hmx : (max 1 ((args.length : Nat) : Int)) = ((max 1 args.length : Nat) : Int) := by omega
      rw [hmx]; exact hM)
     have HM3 : Hid (∀ w : World, Calls Try.prog 16 #[.int .i64 kk, .int .i64 3] w fun e w' => e = .returned (.int .i64 m3) ∧ w = w') := Lib.hid hM3
     clear hM hM3
     go_upto_block 0 with (go_at_call 16; (with_reducible refine (HM.out _).mono ?_); rintro e' w' ⟨rfl, rfl⟩)
     have HL0s : Hid (l0.size ≤ 9223372036854775807) := Lib.hid (by have := (nm_short (namesP_nm HOk.out.chk.may HAt.out.mem l0 HL0.out)).2; omega)
     have x1 : W12.cell? g6 = some (.string l0) := (HB12.out.cell (p := g6) hg6).trans x0
     have hg12 : g6.block < W12.heap.size := Nat.lt_of_lt_of_le hg6 HB12.out.size
     go_cut [12] from 50 to 102 (fun s wx => ∃ (args' : List Ar) (Xx : Option Addr) (nn cx : Nat), s = .slice Xx nn cx ∧ Hid (nn = args'.length) ∧ Hid (TurnA (namesP p.globals q) args args' ∧ args'.length ≤ 30000 ∧ wAr args' ≤ wAr args + 20) ∧ Hid (AO w Q W9.heap.size wx args' (.slice Xx args'.length cx)) ∧ Hid (Below W9.heap.size W9 wx))
     case first =>
      have HTA : Hid (TurnA (namesP p.globals q) args (args ++ [aNew l0]) ∧ (args ++ [aNew l0]).length ≤ 30000 ∧ wAr (args ++ [aNew l0]) ≤ wAr args + 20) := Lib.hid (turnA_app HL0.out (nm_short (namesP_nm HOk.out.chk.may HAt.out.mem l0 HL0.out)).2 hal)
      by_cases hA : args.length = 0 ∨ m3 = 0
      ·have hA2 : args.length = 0 ∨ (args.length ≠ 0 ∧ m3 = 0) := by omega
       have HNw := Lib.hid (one_arg (w := w) (Q := Q) W12 (new_arg w Q HL0s.out))
       have HAp : Hid (∀ v' w', AO w Q W9.heap.size w' (args ++ [aNew l0]) v' → Below W9.heap.size (W12.alloc (.cells #[.bool true, .string l0, .int .i64 0, .int .i64 0, .string ⟨#[]⟩, .slice none 0 0] 72)) w' → ∃ (Xx : Option Addr) (nn cx : Nat), v' = .slice Xx nn cx ∧ Hid (nn = (args ++ [aNew l0]).length) ∧ Hid (AO w Q W9.heap.size w' (args ++ [aNew l0]) (.slice Xx (args ++ [aNew l0]).length cx)) ∧ Hid (Below W9.heap.size W9 w')) := Lib.hid (fun v' w' h1 h2 => by
        obtain ⟨Xx, cx, rfl, _⟩ := h1.shape
        exact ⟨Xx, _, cx, rfl, Lib.hid rfl, Lib.hid h1, Lib.hid ((HB12.out.alloc HB12.out.size _).trans h2)⟩)
       rcases hA2 with hA2 | ⟨hA2, rfl⟩
       ·have hB2 : (((args.length : Nat) : Int) == 0) = true := by rw [hA2]; rfl
        clear hA2 hA
        go_wp2_with (at_builtin; refine wpList_append_args rfl (.tmp 66) (.tmp 71) 52 rfl i0 Try.underlying52 hi0 hz0 hz1 hz2 rfl rfl (HAO.out.alloc _) rfl HNw.out (in_eq _ _) (by simp; omega) (by simp; exact Nat.le_succ_of_le HB12.out.size) ?_; intro v13 W13 hao13 hb13; obtain ⟨X13, n13, c13, rfl, HN13, HAO13, HB13⟩ := HAp.out v13 W13 hao13 hb13)
        go_meet
        exact ⟨args ++ [aNew l0], X13, n13, c13, rfl, HN13, HTA, HAO13, HB13⟩
       ·have hB2 : (((args.length : Nat) : Int) == 0) = false := beq_eq_false_iff_ne.2 (by omega)
        clear hA
        go_wp2_with (first
         | (go_at_call 16; (with_reducible refine (HM3.out _).mono ?_); rintro e' w' ⟨rfl, rfl⟩)
         | (at_builtin; refine wpList_append_args rfl (.tmp 66) (.tmp 71) 52 rfl i0 Try.underlying52 hi0 hz0 hz1 hz2 rfl rfl (HAO.out.alloc _) rfl HNw.out (in_eq _ _) (by simp; omega) (by simp; exact Nat.le_succ_of_le HB12.out.size) ?_; intro v13 W13 hao13 hb13; obtain ⟨X13, n13, c13, rfl, HN13, HAO13, HB13⟩ := HAp.out v13 W13 hao13 hb13))
        go_meet
        exact ⟨args ++ [aNew l0], X13, n13, c13, rfl, HN13, HTA, HAO13, HB13⟩
      ·have hne : args.length ≠ 0 := by omega
       have hB2 : (((args.length : Nat) : Int) == 0) = false := beq_eq_false_iff_ne.2 (by omega)
       have hml : m < args.length := by omega
       obtain ⟨g12, hg, hgB, hgl⟩ := hx12 (by omega)
       by_cases hm1 : m3 = 1
       ·subst hm1
        subst hg
        clear hA hm3
        have HI12 := Lib.hid (HI9.out.on HB12.out)
        have hm64 : (m : Int) < 9223372036854775807 := by omega
        go_upto_region 18 with (go_at_call 16; (with_reducible refine (HM3.out _).mono ?_); rintro e' w' ⟨rfl, rfl⟩)
        refine wp_region_held (S := fun _ : World => True) (by kernel_rfl) ?_
        have hS0 : (fun _ : World => True) W12.drew := trivial
        change wpAnyH _ _ _ _ _ 11 _ _ W12.drew
        refine wpAnyH_take (i := 1) (v := ?_) rfl (by kernel_rfl) (by kernel_rfl) (by kernel_rfl) (fun _ _ _ h => h) (Or.inl ⟨by rfl, ?_⟩) (by assumption) ?_
        rotate_left
        ·intro w hSw
         (try dsimp only at hSw)
         go_split_ands
         go_simp
         (try (with_reducible rfl))
        (try simp only [Act.put, List.setIfInBounds_toArray, List.set_cons_zero, List.set_cons_succ])
        refine wpAnyH_take (i := 2) (v := ?_) rfl (by kernel_rfl) (by kernel_rfl) (by kernel_rfl) (fun _ _ _ h => h) (Or.inl ⟨by rfl, ?_⟩) (by assumption) ?_
        rotate_left
        ·intro w hSw
         (try dsimp only at hSw)
         go_split_ands
         go_simp
         (try (with_reducible rfl))
        (try simp only [Act.put, List.setIfInBounds_toArray, List.set_cons_zero, List.set_cons_succ])
        refine wpAnyH_take (i := 3) (v := .slice (some ⟨g12, 0, none⟩) m c12) rfl (by kernel_rfl) (by kernel_rfl) (by kernel_rfl) (fun _ _ _ h => h) (Or.inl ⟨by rfl, ?_⟩) (by assumption) ?_
        ·intro w hSw
         clear hSw
         go_simp
         first | (intro h; exact absurd h (by omega)) | rw [if_pos (by omega)]
        (try simp only [Act.put, List.setIfInBounds_toArray, List.set_cons_zero, List.set_cons_succ])
        refine wpAnyH_take (i := 5) (v := ?_) rfl (by kernel_rfl) (by kernel_rfl) (by kernel_rfl) (fun _ _ _ h => h) (Or.inl ⟨by rfl, ?_⟩) (by assumption) ?_
        rotate_left
        ·intro w hSw
         (try dsimp only at hSw)
         go_split_ands
         go_simp
         (try (with_reducible rfl))
        (try simp only [Act.put, List.setIfInBounds_toArray, List.set_cons_zero, List.set_cons_succ])
        refine wpAnyH_take (i := 6) (v := ?_) rfl (by kernel_rfl) (by kernel_rfl) (by kernel_rfl) (fun _ _ _ h => h) (Or.inl ⟨by rfl, ?_⟩) (by assumption) ?_
        rotate_left
        ·intro w hSw
         (try dsimp only at hSw)
         go_split_ands
         go_simp
         (try (with_reducible rfl))
        (try simp only [Act.put, List.setIfInBounds_toArray, List.set_cons_zero, List.set_cons_succ])
        refine wpAnyH_take (i := 7) (v := ?_) rfl (by kernel_rfl) (by kernel_rfl) (by kernel_rfl) (fun _ _ _ h => h) (Or.inl ⟨by rfl, ?_⟩) (by assumption) ?_
        rotate_left
        ·intro w hSw
         (try dsimp only at hSw)
         go_split_ands
         go_simp
         (try (with_reducible rfl))
        (try simp only [Act.put, List.setIfInBounds_toArray, List.set_cons_zero, List.set_cons_succ])
        have hwr : IntKind.i64.wrap ((m : Int) + 1) = ((m + 1 : Nat) : Int) := by rw [IntKind.wrap_i64]; omega
        obtain ⟨z, hz⟩ : ∃ z : Addr, z = if c12 = m + 1 then ⟨g12, 0, none⟩ else ⟨g12, (m + 1) * 6, none⟩ := ⟨_, rfl⟩
        have HzE := Lib.hid hz
        have HzA : Hid (m + 1 < args.length → z = ⟨g12, (m + 1) * 6, none⟩) := Lib.hid (fun h => by rw [hz, if_neg (by omega)])
        clear hz
        refine wpAnyH_take (i := 8) (v := .slice (some z) (args.length - (m + 1)) (c12 - (m + 1))) rfl (by kernel_rfl) (by kernel_rfl) (by kernel_rfl) (fun _ _ _ h => h) (Or.inl ⟨by rfl, ?_⟩) (by assumption) ?_
        ·intro w hSw
         clear hSw
         go_simp
         (try rw [hwr])
         rw [if_pos ⟨by omega, by omega⟩]
         (try simp only [Int.toNat_natCast])
         rw [HzE.out]
         split <;> rfl
        (try simp only [Act.put, List.setIfInBounds_toArray, List.set_cons_zero, List.set_cons_succ])
        clear hS0
        have HSl := Lib.hid HAO.out.read
        have HS1 := Lib.hid (sl_take HSl.out (k := m) (by omega))
        have HS2 := Lib.hid (sl_drop HSl.out (k := m + 1) (by omega) HzA.out)
        have HTB := Lib.hid (turnA_del (ns := namesP p.globals q) hml hal)
        have hB12 : W9.heap.size ≤ W12.heap.size := HB12.out.size
        refine wpAnyH_step (i := 0) (by kernel_rfl) rfl (fun K hK => ?_)
        go_simp
        have HO3 : Hid (AO w Q W12.heap.size (W12.alloc (.cells #[] 72)).drew [] (.slice (some ⟨W12.heap.size, 0, none⟩) 0 0)) := Lib.hid (AO.nil (Nat.le_refl _))
        have HB3 : Hid (Below W12.heap.size W12 (W12.alloc (.cells #[] 72)).drew) := Lib.hid (below_box _).drew
        have HIo : Hid (In (fun b => W9.heap.size ≤ b ∧ b < W12.heap.size) W12 W12) := Lib.hid ⟨fun b h => h.2, fun _ _ => rfl⟩
        refine hK.out _ _ trivial ?_
        clear hK K
        (try simp only [Act.put, List.setIfInBounds_toArray, List.set_cons_zero, List.set_cons_succ])
        generalize World.drew (World.alloc W12 _) = w3 at HO3 HB3 ⊢
        refine wpAnyH_step (i := 4) (by kernel_rfl) rfl (fun K hK => ?_)
        refine step_append_args (by rfl) (.tmp 77) (.tmp 80) 52 (by rfl) i0 Try.underlying52 hi0 hz0 hz1 hz2 rfl (by rfl) HO3.out (by rfl) HS1.out (HIo.out.on HB3.out) (by simp; omega) HB3.out.size ?_
        intro v4 w4 hao4 hb4
        rw [List.nil_append] at hao4
        obtain ⟨X4', c4', rfl, _⟩ := hao4.shape
        have HO4 := Lib.hid hao4
        have HB4' : Hid (Below W12.heap.size W12 w4) := Lib.hid (HB3.out.trans hb4)
        clear hao4 hb4 HO3 HB3
        refine hK.out _ _ trivial ?_
        clear hK K
        (try simp only [Act.put, List.setIfInBounds_toArray, List.set_cons_zero, List.set_cons_succ])
        refine wpAnyH_step (i := 9) (by kernel_rfl) rfl (fun K hK => ?_)
        refine step_append_args (by rfl) (.tmp 81) (.tmp 85) 52 (by rfl) i0 Try.underlying52 hi0 hz0 hz1 hz2 rfl (by rfl) HO4.out (by rfl) HS2.out (HIo.out.on HB4'.out) (by simp; omega) HB4'.out.size ?_
        intro v5 w5 hao5 hb5
        obtain ⟨X5', c5', hv5, _⟩ := hao5.shape
        obtain ⟨n5, hn5⟩ : ∃ n5, n5 = (args.take m ++ args.drop (m + 1)).length := ⟨_, rfl⟩
        rw [← hn5] at hv5
        subst hv5
        have HN5 := Lib.hid hn5
        have HO5 := Lib.hid hao5
        have HB5' : Hid (Below W12.heap.size W12 w5) := Lib.hid (HB4'.out.trans hb5)
        clear hao5 hb5 HO4 HB4' hn5
        refine hK.out _ _ trivial ?_
        clear hK K
        (try simp only [Act.put, List.setIfInBounds_toArray, List.set_cons_zero, List.set_cons_succ])
        refine wpAnyH_step (i := 10) (by kernel_rfl) rfl (fun K hK => ?_)
        go_simp
        refine hK.out _ _ trivial ?_
        clear hK K
        (try simp only [Act.put, List.setIfInBounds_toArray, List.set_cons_zero, List.set_cons_succ])
        refine wpAnyH_done (by kernel_rfl) ?_ 0
        go_wp2_with fail
        go_meet
        exact ⟨args.take m ++ args.drop (m + 1), X5', n5, c5', rfl, HN5, HTB, Lib.hid (by rw [← HN5.out]; exact HO5.out.lower hB12), Lib.hid (HB12.out.trans (HB5'.out.mono hB12))⟩
       ·have hm2 : m3 = 2 := by omega
        subst hm2
        clear hA hm1 hm3
        have HI12 := Lib.hid (HI9.out.on HB12.out)
        obtain ⟨a, o1, n1, s1, A1, l1, c1, hXa0, hqa, ⟨p0, p1, p2, p3, p4, p5, _⟩, hnms, hxe⟩ := arg_at (HAO.out.read.keep (Q' := fun j => Q j ∨ (W9.heap.size ≤ j ∧ j < W12.heap.size)) (w' := W12) (R' := ArgI W12 (fun j => Q j ∨ (W9.heap.size ≤ j ∧ j < W12.heap.size))) (fun b h => .inr h) (fun _ _ => rfl) (fun a cs _ h => ArgI.keep h (fun b h => .inl h) HI12.out.2)) (W := W12) ⟨fun j h => by rcases h with h | h; exact HI12.out.1 j h; exact h.2, fun _ _ => rfl⟩ hml
        have hag : a = ⟨g12, 0, none⟩ := by rw [hg] at hXa0; exact (Option.some.inj hXa0).symm
        subst hg
        clear hXa0
        subst hag
        rw [addr0] at p0 p1 p2 p3 p4 p5
        dsimp only at p0 p1 p2 p3 p4 p5
        have f0 : W12.frozen? ⟨g12, m * 6, none⟩ = false := own_frz HAO.out _ rfl _
        have f1 : W12.frozen? ⟨g12, m * 6 + 1, none⟩ = false := own_frz HAO.out _ rfl _
        have f2 : W12.frozen? ⟨g12, m * 6 + 2, none⟩ = false := own_frz HAO.out _ rfl _
        have f3 : W12.frozen? ⟨g12, m * 6 + 3, none⟩ = false := own_frz HAO.out _ rfl _
        have f4 : W12.frozen? ⟨g12, m * 6 + 4, none⟩ = false := own_frz HAO.out _ rfl _
        have f5 : W12.frozen? ⟨g12, m * 6 + 5, none⟩ = false := own_frz HAO.out _ rfl _
        have HNn : Hid (args.length = (args.set m (aVal args[m].nm)).length ∧ args.length = (args.set m (aNew l0)).length) := Lib.hid (by simp)
        cases hrf : args[m].ref with
        | true =>
         have hnv : isNm (bl args[m].nm) = true := arg_nm (stmt_args (may_stm HOk.out.chk.may q HAt.out.mem _ HAt.out.stm) _ (List.getElem_mem _)) hrf
         have HTB := Lib.hid (turnA_val (ns := namesP p.globals q) hrf (nm_short hnv).2 hal)
         have HV := Lib.hid (val_arg w Q hnms)
         rw [hrf] at p0
         clear hnv hrf hxe
         generalize args[m].nm = an at p1 HTB HV HNn
         go_wp2_with (go_at_call 16; (with_reducible refine (HM3.out _).mono ?_); rintro e' w' ⟨rfl, rfl⟩)
         go_meet
         refine ⟨args.set m (aVal an), some ⟨g12, 0, none⟩, args.length, c12, rfl, Lib.hid HNn.out.1, HTB, Lib.hid ?_, Lib.hid ?_⟩
         ·rw [← HNn.out.1]
          exact HAO.out.set6 rfl (by omega) HV.out
         ·exact below_setc (below_setc (below_setc (below_setc (below_setc (below_setc HB12.out hgB _) hgB _) hgB _) hgB _) hgB _) hgB _
        | false =>
         have HTB := Lib.hid (turnA_new (ns := namesP p.globals q) hrf HL0.out (nm_short (namesP_nm HOk.out.chk.may HAt.out.mem l0 HL0.out)).2 hal)
         have HV := Lib.hid (new_arg w Q HL0s.out)
         rw [hrf] at p0
         clear hrf hxe
         generalize args[m].nm = an at p1 HNn hnms
         go_wp2_with (go_at_call 16; (with_reducible refine (HM3.out _).mono ?_); rintro e' w' ⟨rfl, rfl⟩)
         go_meet
         refine ⟨args.set m (aNew l0), some ⟨g12, 0, none⟩, args.length, c12, rfl, Lib.hid HNn.out.2, HTB, Lib.hid ?_, Lib.hid ?_⟩
         ·rw [← HNn.out.2]
          exact HAO.out.set6 rfl (by omega) HV.out
         ·exact below_setc (below_setc (below_setc (below_setc (below_setc (below_setc HB12.out hgB _) hgB _) hgB _) hgB _) hgB _) hgB _
     case rest =>
      obtain ⟨args', Xx, nn, cx, rfl, HNn, HTA, HAO', HBw⟩ := hcut
      have hnn := HNn.out
      subst hnn
      have HBc : Hid (Below W.heap.size W wc) := Lib.hid (below_step HB9W.out HBw.out)
      have HBsc := Lib.hid (HBs9.out.below HBw.out hsl)
      have HBpc := Lib.hid (HBp9.out.below HBw.out HBp9.out.lt)
      have hslc := HBsc.out.lt
      have sc10 : wc.cell? ⟨bs, 10, none⟩ = some (.slice R args.length rc) := by rw [HBsc.out.cell]; rfl
      have fc10 := HBsc.out.frozen 10
      generalize args'.length = nn at *
      go_upto_region 22 with fail
      have HBs13 : Hid (Blk (wc.setCell ⟨bs, 10, none⟩ (.slice Xx nn cx)) bs 55 #[.int .i64 sid, .int .i64 4, .slice L labels.length lc, .string nm, .string proc, .int .i64 y0, .int .i64 y1, .string y2, .slice X xn xc, .bool has, .slice Xx nn cx, .slice T th.length tc, .slice U el.length uc]) := Lib.hid (by
       have h := HBsc.out.set_ 10 (.slice Xx nn cx)
       simp only [List.setIfInBounds_toArray, List.set_cons_zero, List.set_cons_succ] at h
       exact h)
      have HB13W : Hid (Below W.heap.size W (wc.setCell ⟨bs, 10, none⟩ (.slice Xx nn cx))) := Lib.hid (below_setc HBc.out hbsW _)
      have HBp13 : Hid (Blk (wc.setCell ⟨bs, 10, none⟩ (.slice Xx nn cx)) b 25 #[.slice Ag p.globals.length cg, .slice Ap p.procs.length cp]) := Lib.hid (HBpc.out.far (p := ⟨bs, 10, none⟩) (by show b ≠ bs; omega) _)
      have HAO13 : Hid (AO w Q W9.heap.size (wc.setCell ⟨bs, 10, none⟩ (.slice Xx nn cx)) args' (.slice Xx nn cx)) := Lib.hid (HAO'.out.far (by exact hsl) _)
      clear sc10 fc10 hslc HBsc HBpc HBc HAO' HBw HBs9 HBp9 HB9W HM HM3 x0 x1 hg6 hg12 HL0 HL0s HAO HB12 hx12 HAr
      generalize World.setCell wc _ _ = W14 at HBs13 HB13W HBp13 HAO13 ⊢
      have HI14 := Lib.hid (HI.out.on HB13W.out)
      have HTi := Lib.hid (turned_stmt HSi.out HI14.out HAO13.out)
      have HI2 : Hid (In (fun j => Q j ∨ (W9.heap.size ≤ j ∧ j < W14.heap.size)) W14 W14) := Lib.hid ⟨fun j h => by rcases h with h | h; exact HI14.out.1 j h; exact h.2, fun _ _ => rfl⟩
      have HP2 : Hid (ProgI W14 (fun j => Q j ∨ (W9.heap.size ≤ j ∧ j < W14.heap.size)) p [.slice Ag p.globals.length cg, .slice Ap p.procs.length cp]) := Lib.hid (HP.out.keep (fun b h => .inl h) HI14.out.2)
      have HTr := Lib.hid (turn_ar HOk.out HAt.out rfl HTA.out.1)
      rw [show argT args' (.mk sid 4 labels nm proc x has args th el) = .mk sid 4 labels nm proc x has args' th el from rfl] at HTr
      have hws := at_w2 HFt.out HAt.out
      rw [wS] at hws
      have hokd : okC (.mk sid 4 labels nm proc x has args' th el) := ⟨by omega, by have := wT_len labels; omega, by have := HTA.out.2.2; omega⟩
      have HSmP : Hid (SmG (putP (.mk sid 4 labels nm proc x has args' th el) p)) := Lib.hid (fits_put (c := 20) HFt.out HOk.out.chk.may (by omega) (fun q' hq' y hy he => by
       have hy2 := (HAt.out.only q' hq' y hy (he.trans HAt.out.eid)).1
       subst hy2
       have h8 := HTA.out.2.2
       simp only [hw]
       omega))
      have HPu := Lib.hid (fun V h1 => Put_any (W := V) HP2.out HTi.out h1 h1 HSg.out hokd)
      have HFi := Lib.hid (fun V h1 => aFits_any HP2.out HSg.out HTi.out V h1)
      rw [HTr.out.2.1] at HFi
      generalize putP (.mk sid 4 labels nm proc x has args' th el) p = pp at HTr HSmP HPu
      have HCk : Hid (∀ (w1 W1 : World) (Q1 : Nat → Prop) (a0 a1 : Value), ProgI w1 Q1 pp [a0, a1] → In Q1 w1 W1 → Calls Try.prog 39 #[.agg #[a0, a1]] W1 fun e w' => e = .returned (.agg #[.int .i64 6, .int .i64 sid]) ∧ Below W1.heap.size W1 w') := Lib.hid (fun w1 W1 Q1 a0 a1 h1 h2 => by
       have h3 := aCheck_any h1 HSmP.out W1 h2
       rw [HTr.out.1] at h3
       exact h3)
      generalize (fun j => Q j ∨ (W9.heap.size ≤ j ∧ j < W14.heap.size)) = Q2 at HI2 HPu HFi
      have hbl := HBp13.out.lt
      have hsl := HBs13.out.lt
      clear HTr HSmP hws hokd HTi HP2 HSi HTA HAO13 HFt hbsW HI14
      have q0 : W14.cell? ⟨b, 0, none⟩ = some (.slice Ag p.globals.length cg) := by rw [HBp13.out.cell]; rfl
      have q1 : W14.cell? ⟨b, 1, none⟩ = some (.slice Ap p.procs.length cp) := by rw [HBp13.out.cell]; rfl
      have s0 : W14.cell? ⟨bs, 0, none⟩ = some (.int .i64 sid) := by rw [HBs13.out.cell]; rfl
      have s1 : W14.cell? ⟨bs, 1, none⟩ = some (.int .i64 4) := by rw [HBs13.out.cell]; rfl
      have s2 : W14.cell? ⟨bs, 2, none⟩ = some (.slice L labels.length lc) := by rw [HBs13.out.cell]; rfl
      have s3 : W14.cell? ⟨bs, 3, none⟩ = some (.string nm) := by rw [HBs13.out.cell]; rfl
      have s4 : W14.cell? ⟨bs, 4, none⟩ = some (.string proc) := by rw [HBs13.out.cell]; rfl
      have s5 : W14.cell? ⟨bs, 5, none⟩ = some (.int .i64 y0) := by rw [HBs13.out.cell]; rfl
      have s6 : W14.cell? ⟨bs, 6, none⟩ = some (.int .i64 y1) := by rw [HBs13.out.cell]; rfl
      have s7 : W14.cell? ⟨bs, 7, none⟩ = some (.string y2) := by rw [HBs13.out.cell]; rfl
      have s8 : W14.cell? ⟨bs, 8, none⟩ = some (.slice X xn xc) := by rw [HBs13.out.cell]; rfl
      have s9 : W14.cell? ⟨bs, 9, none⟩ = some (.bool has) := by rw [HBs13.out.cell]; rfl
      have s10 : W14.cell? ⟨bs, 10, none⟩ = some (.slice Xx nn cx) := by rw [HBs13.out.cell]; rfl
      have s11 : W14.cell? ⟨bs, 11, none⟩ = some (.slice T th.length tc) := by rw [HBs13.out.cell]; rfl
      have s12 : W14.cell? ⟨bs, 12, none⟩ = some (.slice U el.length uc) := by rw [HBs13.out.cell]; rfl
      go_wp2_with (first
       | (go_at_call 32; (with_reducible refine (HPu.out W14 HI2.out).mono ?_); rintro e' W15 ⟨d0, d1, rfl, hb15, hp15⟩; have HPp := Lib.hid hp15; clear hp15; have HI15 := Lib.hid (HI2.out.on hb15))
       | (go_at_call 39; (with_reducible refine (HCk.out _ W15 _ _ _ HPp.out (in_new W14 W15)).mono ?_); rintro e' W16 ⟨rfl, hb16⟩; have HI16 := Lib.hid (HI15.out.on hb16); have k16 := below_step hb15 hb16; have q0 : W16.cell? ⟨b, 0, none⟩ = some (.slice Ag p.globals.length cg) := (k16.cell (p := ⟨b, 0, none⟩) hbl).trans q0; have q1 : W16.cell? ⟨b, 1, none⟩ = some (.slice Ap p.procs.length cp) := (k16.cell (p := ⟨b, 1, none⟩) hbl).trans q1; have s0 : W16.cell? ⟨bs, 0, none⟩ = some (.int .i64 sid) := (k16.cell (p := ⟨bs, 0, none⟩) hsl).trans s0; have s1 : W16.cell? ⟨bs, 1, none⟩ = some (.int .i64 4) := (k16.cell (p := ⟨bs, 1, none⟩) hsl).trans s1; have s2 : W16.cell? ⟨bs, 2, none⟩ = some (.slice L labels.length lc) := (k16.cell (p := ⟨bs, 2, none⟩) hsl).trans s2; have s3 : W16.cell? ⟨bs, 3, none⟩ = some (.string nm) := (k16.cell (p := ⟨bs, 3, none⟩) hsl).trans s3; have s4 : W16.cell? ⟨bs, 4, none⟩ = some (.string proc) := (k16.cell (p := ⟨bs, 4, none⟩) hsl).trans s4; have s5 : W16.cell? ⟨bs, 5, none⟩ = some (.int .i64 y0) := (k16.cell (p := ⟨bs, 5, none⟩) hsl).trans s5; have s6 : W16.cell? ⟨bs, 6, none⟩ = some (.int .i64 y1) := (k16.cell (p := ⟨bs, 6, none⟩) hsl).trans s6; have s7 : W16.cell? ⟨bs, 7, none⟩ = some (.string y2) := (k16.cell (p := ⟨bs, 7, none⟩) hsl).trans s7; have s8 : W16.cell? ⟨bs, 8, none⟩ = some (.slice X xn xc) := (k16.cell (p := ⟨bs, 8, none⟩) hsl).trans s8; have s9 : W16.cell? ⟨bs, 9, none⟩ = some (.bool has) := (k16.cell (p := ⟨bs, 9, none⟩) hsl).trans s9; have s10 : W16.cell? ⟨bs, 10, none⟩ = some (.slice Xx nn cx) := (k16.cell (p := ⟨bs, 10, none⟩) hsl).trans s10; have s11 : W16.cell? ⟨bs, 11, none⟩ = some (.slice T th.length tc) := (k16.cell (p := ⟨bs, 11, none⟩) hsl).trans s11; have s12 : W16.cell? ⟨bs, 12, none⟩ = some (.slice U el.length uc) := (k16.cell (p := ⟨bs, 12, none⟩) hsl).trans s12; have hbl_ := Nat.lt_of_lt_of_le hbl k16.size; have hsl_ := Nat.lt_of_lt_of_le hsl k16.size)
       | (go_at_call 41; (with_reducible refine (HFi.out W16 HI16.out).mono ?_); rintro e' W17 ⟨rfl, hb17⟩))
      go_ret
      exact ⟨rfl, below_step HB13W.out (below_step k16 hb17)⟩
  ·have hr1 : (rc == 0) = false := beq_eq_false_iff_ne.2 hr
   have hr2 : (rc != 0) = true := by simp [bne, hr1]
   clear hr HOk0
   go_wp2_with (go_at_call 39; refine (HC.out W2 HI2.out).mono ?_; rintro e' W3 ⟨rfl, hb3⟩)
   go_ret
   exact ⟨rfl, below_step HB2.out hb3⟩
end Go.Proofs.Ytnnblklbjbkikaa
