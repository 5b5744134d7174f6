/- Texts, merged by a program; only what is used. -/
import Derived.Deep.CutBlock
import Derived.OrdersHeld
import Derived.Test.YtehpinnmalpgpaaK1
import Derived.Test.YtehpinnmalpgpaaK2
import Derived.Test.YtehpinnmalpgpaaK3
import Derived.Test.YtehpinnmalpgpaaK4
import Derived.Test.YtehpinnmalpgpaaK5
import Derived.Test.YtehpinnmalpgpaaK6
import Derived.Test.YtehpinnmalpgpaaK7
import Derived.Test.YtehpinnmalpgpaaK8
import Derived.Test.YtehpinnmalpgpaaK9
import Derived.Test.YtehpinnmalpgpaaK10
import Derived.Test.YtehpinnmalpgpaaK11
import Derived.Test.YtehpinnmalpgpaaK12
import Derived.Test.YtehpinnmalpgpaaK13
import Derived.Test.YtehpinnmalpgpaaK14
import Derived.Test.YtehpinnmalpgpaaK15
import Derived.Test.YtehpinnmalpgpaaK16
import Derived.Test.YtehpinnmalpgpaaK17
import Derived.Test.YtehpinnmalpgpaaK18
import Derived.Test.YtehpinnmalpgpaaK19
import Derived.Test.YtehpinnmalpgpaaK20
import Derived.Test.YtehpinnmalpgpaaK21
import Derived.Test.YtehpinnmalpgpaaK22
import Derived.Test.YtehpinnmalpgpaaK23
import Derived.Test.YtehpinnmalpgpaaK24
import Derived.Test.YtehpinnmalpgpaaKM1
import Derived.Test.YtehpinnmalpgpaaKM2
import Derived.Test.YtehpinnmalpgpaaKM3
import Derived.Test.YtehpinnmalpgpaaKM4
import Derived.Test.YtehpinnmalpgpaaKM5
import Derived.Test.YtehpinnmalpgpaaKM6
import Derived.Test.YtehpinnmalpgpaaKM7
import Derived.Test.YtehpinnmalpgpaaKM8
import Derived.Test.YtehpinnmalpgpaaKM9
import Derived.Test.YtehpinnmalpgpaaKM10
import Derived.Test.YtehpinnmalpgpaaKT1
import Derived.Test.YtehpinnmalpgpaaKT2
import Derived.Test.YtehpinnmalpgpaaKT3
import Derived.Test.YtehpinnmalpgpaaKT4
namespace Go.Proofs.Ytehpinnmalpgpaa
open Go.ChangeShapes Go.WideShapes Go.ChangeAt Go.RowKit Go.Deep
set_option linter.unusedVariables false
set_option linter.unusedSimpArgs false
theorem name_expr (w : World) (Q : Nat → Prop) {s : ByteArray} (hs : s.size ≤ 9223372036854775807) : ExprI w Q (eName s) [.int .i64 2, .int .i64 0, .string s, .slice none 0 0] := ExprI.of_slice nil_slice ⟨by omega, by omega⟩ i64_zero hs
theorem below13 {B : Nat} {a w : World} {f : Nat} {d0 d1 d2 d3 d4 d5 d6 d7 d8 d9 d10 d11 d12 : Value} (h : Below B a w) (hf : B ≤ f) : Below B a (World.setCell (World.setCell (World.setCell (World.setCell (World.setCell (World.setCell (World.setCell (World.setCell (World.setCell (World.setCell (World.setCell (World.setCell (World.setCell w ⟨f, 0, none⟩ d0) ⟨f, 1, none⟩ d1) ⟨f, 2, none⟩ d2) ⟨f, 3, none⟩ d3) ⟨f, 4, none⟩ d4) ⟨f, 5, none⟩ d5) ⟨f, 6, none⟩ d6) ⟨f, 7, none⟩ d7) ⟨f, 8, none⟩ d8) ⟨f, 9, none⟩ d9) ⟨f, 10, none⟩ d10) ⟨f, 11, none⟩ d11) ⟨f, 12, none⟩ d12) := by
 iterate 13 (refine below_setc ?_ hf _)
 exact h
theorem blk13t {w : World} {f : Nat} {ty : TypeId} {e0 e1 e2 e3 e4 e5 e6 e7 e8 e9 e10 e11 e12 d0 d1 d2 d3 d4 d5 d6 d7 d8 d9 d10 d11 d12 : Value} (h : Blk w f ty #[e0, e1, e2, e3, e4, e5, e6, e7, e8, e9, e10, e11, e12]) : Blk (World.setCell (World.setCell (World.setCell (World.setCell (World.setCell (World.setCell (World.setCell (World.setCell (World.setCell (World.setCell (World.setCell (World.setCell (World.setCell w ⟨f, 0, none⟩ d0) ⟨f, 1, none⟩ d1) ⟨f, 2, none⟩ d2) ⟨f, 3, none⟩ d3) ⟨f, 4, none⟩ d4) ⟨f, 5, none⟩ d5) ⟨f, 6, none⟩ d6) ⟨f, 7, none⟩ d7) ⟨f, 8, none⟩ d8) ⟨f, 9, none⟩ d9) ⟨f, 10, none⟩ d10) ⟨f, 11, none⟩ d11) ⟨f, 12, none⟩ d12) f ty #[d0, d1, d2, d3, d4, d5, d6, d7, d8, d9, d10, d11, d12] := by
 have := (((((((((((((h.set_ 0 d0).set_ 1 d1).set_ 2 d2).set_ 3 d3).set_ 4 d4).set_ 5 d5).set_ 6 d6).set_ 7 d7).set_ 8 d8).set_ 9 d9).set_ 10 d10).set_ 11 d11).set_ 12 d12)
 simp only [List.setIfInBounds_toArray, List.set_cons_zero, List.set_cons_succ] at this
 exact this
theorem blk_drew2 {w : World} {g : Nat} {ty : TypeId} {cs : Array Value} (h : Blk w g ty cs) : Blk w.drew g ty cs := h
theorem wT_append : ∀ a b : List ByteArray, wT (a ++ b) = wT a + wT b
 | [], b => by rw [List.nil_append, wT]; omega
 | x :: a, b => by rw [List.cons_append, wT, wT, wT_append a b]; omega
theorem turned_lab {w W : World} {Q : Nat → Prop} {id kind : Int} {labels : List ByteArray} {nm proc : ByteArray} {x : E} {has : Bool} {args : List Ar} {th el : List S} {c0 c1 vl c3 c4 x0 x1 x2 x3 c9 va vt ve : Value} (h : StmtI w Q (.mk id kind labels nm proc x has args th el) [c0, c1, vl, c3, c4, x0, x1, x2, x3, c9, va, vt, ve]) (hI : In Q w W) {B : Nat} {l : List ByteArray} {v : Value} (ha : TextsI W (fun j => B ≤ j ∧ j < W.heap.size) l v) : StmtI W (fun j => Q j ∨ (B ≤ j ∧ j < W.heap.size)) (.mk id kind l nm proc x has args th el) [c0, c1, v, c3, c4, x0, x1, x2, x3, c9, va, vt, ve] := by
 have h' := h.keep (w' := W) (Q' := fun j => Q j ∨ (B ≤ j ∧ j < W.heap.size)) (fun b h => .inl h) hI.2
 cases h' with
 | mk hid hkind hnm hproc hl hx ha' hc1 hc2 hA1 hA2 hk1 hk2 => exact .mk hid hkind hnm hproc (ha.keep (fun b hb => .inr hb) (fun _ _ => rfl) (fun a cs _ h => h)) hx ha' hc1 hc2 hA1 hA2 hk1 hk2
theorem in_news (W w : World) : In (nw W w) w w := ⟨fun b h => h.2, fun _ _ => rfl⟩
theorem st_labs {w : World} {Q : Nat → Prop} {id kind : Int} {labels : List ByteArray} {nm proc : ByteArray} {x : E} {has : Bool} {args : List Ar} {th el : List S} {c0 c1 vl c3 c4 x0 x1 x2 x3 c9 va vt ve : Value} (h : StmtI w Q (.mk id kind labels nm proc x has args th el) [c0, c1, vl, c3, c4, x0, x1, x2, x3, c9, va, vt, ve]) : TextsI w Q labels vl := by
 cases h with
 | mk hid hkind hnm hproc hl hx ha hc1 hc2 hA1 hA2 hk1 hk2 => exact hl
theorem st_i64 {w : World} {Q : Nat → Prop} {id kind : Int} {labels : List ByteArray} {nm proc : ByteArray} {x : E} {has : Bool} {args : List Ar} {th el : List S} {cs : List Value} (h : StmtI w Q (.mk id kind labels nm proc x has args th el) cs) : i64 id ∧ i64 kind := by
 cases h with
 | mk hid hkind hnm hproc hl hx ha hc1 hc2 hA1 hA2 hk1 hk2 => exact ⟨hid, hkind⟩
theorem at_w3 {p : Pg} {id : Int} {q : Pr} {s : S} (hf : fitsP p = true) (h : AtId p id q s) : wS s ≤ 20000 := by
 unfold fitsP weighP at hf
 have h0 := of_decide_eq_true hf
 obtain ⟨h1, h2⟩ := weighQs_full p.procs _ h0
 exact Nat.le_trans (preSL_w _ _ h.stm) (h2 q h.mem).1
theorem loop_of {p : Pg} (hm : mayP p = true) (hc : chkOK p = true) {id : Int} {q : Pr} {s : S} (h : AtId p id q s) : ∃ lp, (s, lp) ∈ lpSL q.body 0 ∧ jLoop p id = (lp, lp != 0) := by
 obtain ⟨h1, h2⟩ := may_it hm h.mem
 have hs : s ∈ (itQ q).map (fun x => x.1.s) := by
  have h3 := itL_lp q.body 1 0 false 0
  rw [show (itQ q).map (fun x => x.1.s) = preSL q.body by rw [← lpSL_fst q.body 0, ← h3, List.map_map]; rfl]
  exact h.stm
 obtain ⟨x, hx, rfl⟩ := List.mem_map.1 hs
 obtain ⟨⟨h3, h4⟩, _⟩ := h2 x hx
 rw [h.eid] at h4
 refine ⟨x.2, ?_, by unfold jLoop; rw [if_pos hc]; exact h4⟩
 rw [← itL_lp q.body 1 0 false 0]
 exact List.mem_map_of_mem (f := sndI) hx
theorem at_there (t : ByteArray) (q : Pr) : (atQ t q).2 = setF (allLb q) t := by
 unfold atQ
 cases hf : (preSL q.body).find? (hasL t) with
 | some s =>
  have h1 := List.mem_of_find?_eq_some hf
  have h2 := hasL_iff.1 (List.find?_some hf)
  refine Eq.symm (List.any_eq_true.2 ⟨t, List.mem_append_left _ (List.mem_flatMap.2 ⟨s, h1, h2⟩), by simp [isT]⟩)
 | none =>
  have h1 : (labsOf (preSL q.body)).any (isT t) = false := by
   rw [List.any_eq_false]
   intro x hx e
   have hx2 : t = x := by simpa [isT] using e
   subst hx2
   obtain ⟨s, hs, hst⟩ := List.mem_flatMap.1 hx
   exact absurd (hasL_iff.2 hst) (List.find?_eq_none.1 hf s hs)
  show (if q.end_.any (isT t) = true then ((-1 : Int), true) else (0, false)).2 = _
  unfold setF allLb
  rw [List.any_append, h1, Bool.false_or]
  cases q.end_.any (isT t) <;> rfl
set_option maxHeartbeats 8000000 in
set_option maxRecDepth 100000 in
theorem jumpTurned_walk {w : World} {Q : Nat → Prop} {p : Pg} {c0 c1 : Value} (h : ProgI w Q p [c0, c1]) (n : Int) (wn : (Lit.int .i64 n).wf = true) (kk : Int) (wkk : (Lit.int .i64 kk).wf = true) (name : ByteArray) (hname : name.size ≤ maxLen) (W : World) (hI : In Q w W) :
 Calls Try.prog 7 #[.agg #[c0, c1], .int .i64 n, .int .i64 kk, .string name] W fun e w' => e = .returned (.bool true) ∧ Below W.heap.size W w' := by
 have HP := Lib.hid h
 have HF := Lib.hid (fun V h1 => Fits_any h V h1)
 have HI := Lib.hid hI
 obtain ⟨Ag, cg, Ap, cp, rfl, rfl, _⟩ := prog_open h
 clear h hI
 go_enter Try.func7, Try.ntmps7
 go_upto_region 1 with fail
 have HB0 : Hid (Below W.heap.size W (W.alloc (.cells #[.slice Ag p.globals.length cg, .slice Ap p.procs.length cp] 25))) := Lib.hid (below_box _)
 have HBp0 : Hid (Blk (W.alloc (.cells #[.slice Ag p.globals.length cg, .slice Ap p.procs.length cp] 25)) W.heap.size 25 #[.slice Ag p.globals.length cg, .slice Ap p.procs.length cp]) := Lib.hid (Blk.new _ _ _)
 generalize World.alloc _ _ = W0 at HB0 HBp0 ⊢
 have HI0 := Lib.hid (HI.out.on HB0.out)
 generalize hbe : W.heap.size = b at HBp0 ⊢
 clear hbe
 go_upto_region 3 with (go_at_call 24; refine (jumping_any W0).mono ?_; rintro e' W1 ⟨rfl, hb1⟩)
 have HB1 : Hid (Below W.heap.size W W1) := Lib.hid (below_step HB0.out hb1)
 have HI1 := Lib.hid (HI0.out.on hb1)
 have HBp1 := Lib.hid (HBp0.out.below hb1 HBp0.out.lt)
 clear hb1 HB0 HBp0 HI0
 have q0 : W1.cell? ⟨b, 0, none⟩ = some (.slice Ag p.globals.length cg) := by rw [HBp1.out.cell]; rfl
 have q1 : W1.cell? ⟨b, 1, none⟩ = some (.slice Ap p.procs.length cp) := by rw [HBp1.out.cell]; rfl
 have hbl := HBp1.out.lt
 cases hf : fitsP p with
 | false =>
  rw [hf] at HF
  clear hf
  go_wp2_with (go_at_call 10; refine (HF.out _ HI1.out).mono ?_; rintro e' W2 ⟨rfl, hb2⟩)
  go_ret
  exact ⟨rfl, below_step HB1.out hb2⟩
 | true =>
  have HSg := Lib.hid (fits_smG hf)
  have HC := Lib.hid (fun V hV => Check_any HP.out (fits_smG hf) V hV)
  have HJ := Lib.hid (fun V hV => jCheck_any HP.out (fits_smG hf) V hV)
  have HIs := Lib.hid (fun V hV => Ids_any HP.out 0 (by simp [i64]) V hV)
  have HSt := Lib.hid (fun id V hV => rStmt_any HP.out id V hV)
  have HPf := Lib.hid (fun id V hV => rProcOf_any HP.out id V hV)
  have HAj := Lib.hid (fun nm lab V hV => jAt_any HP.out (fits_smG hf) nm lab V hV)
  have HLj := Lib.hid (fun id V hV => jLoop_any HP.out (fits_smG hf) id V hV)
  have HFt := Lib.hid hf
  rw [hf] at HF
  clear hf
  go_upto_region 5 with (go_at_call 10; refine (HF.out _ HI1.out).mono ?_; rintro e' W2 ⟨rfl, hb2⟩)
  have HB2 : Hid (Below W.heap.size W W2) := Lib.hid (below_step HB1.out hb2)
  have HI2 := Lib.hid (HI1.out.on hb2)
  have HBp2 := Lib.hid (HBp1.out.below hb2 hbl)
  clear hb2 HB1 HI1 HBp1 q0 q1 hbl HF
  have q0 : W2.cell? ⟨b, 0, none⟩ = some (.slice Ag p.globals.length cg) := by rw [HBp2.out.cell]; rfl
  have q1 : W2.cell? ⟨b, 1, none⟩ = some (.slice Ap p.procs.length cp) := by rw [HBp2.out.cell]; rfl
  have hbl := HBp2.out.lt
  have hff : ∀ (a c : Int) (w : World), (Instr.field 38 (.agg #[.int .i64 a, .int .i64 c]) 0).run Try.prog w = .ok (.int .i64 a) w := fun _ _ _ => by kernel_rfl
  have hok : (chkP p).1 = 0 → ChOk p := chk_ok
  have HOk0 := Lib.hid hok
  have HJo0 := Lib.hid (jck_ok (p := p))
  have HJk0 : Hid (∀ r : Int × Int, jCheck p = r → r.1 = 0 → (jCheck p).1 = 0) := Lib.hid (fun r h1 h2 => by rw [h1]; exact h2)
  clear hok
  generalize chkP p = r at HC HOk0
  obtain ⟨rc, ri⟩ := r
  simp only at HOk0
  by_cases hr : rc = 0
  ·subst hr
   have HOk := Lib.hid (HOk0.out rfl)
   clear HOk0
   generalize hrj : jCheck p = rj at HJ
   obtain ⟨jc, ji⟩ := rj
   by_cases hj : jc = 0
   ·subst hj
    have HJk := Lib.hid (HJk0.out _ hrj rfl)
    have HJo := Lib.hid (HJo0.out HJk.out)
    clear HJo0 HJk0 hrj
    have HME := Lib.hid (fun V : World => MayExpr_any (name_expr W (fun _ => False) (show name.size ≤ 9223372036854775807 from hname)) V ⟨fun _ h => h.elim, fun _ h => h.elim⟩)
    rw [show mayE 20 (eName name) = isNm (bl name) by simp [eName, mayE]] at HME
    cases hnm : isNm (bl name) with
    | false =>
     rw [hnm] at HME
     clear hnm
     go_wp2_with (first
      | (go_at_call 19; refine (HC.out W2 HI2.out).mono ?_; rintro e' W3 ⟨rfl, hb3⟩; have HB3 : Hid (Below W.heap.size W W3) := Lib.hid (below_step HB2.out hb3); have HI3 := Lib.hid (HI2.out.on hb3); have HBp3 := Lib.hid (HBp2.out.below hb3 hbl); clear hb3 q0 q1; have q0 : W3.cell? ⟨b, 0, none⟩ = some (.slice Ag p.globals.length cg) := (by rw [HBp3.out.cell]; rfl); have q1 : W3.cell? ⟨b, 1, none⟩ = some (.slice Ap p.procs.length cp) := (by rw [HBp3.out.cell]; rfl))
      | (go_at_call 25; refine (HJ.out W3 HI3.out).mono ?_; rintro e' W4 ⟨rfl, hb4⟩; have HB4 : Hid (Below W.heap.size W W4) := Lib.hid (below_step HB3.out hb4); have HI4 := Lib.hid (HI3.out.on hb4); have HBp4 := Lib.hid (HBp3.out.below hb4 HBp3.out.lt); clear hb4)
      | (go_at_call 36; refine (HME.out W4).mono ?_; rintro e' W5 ⟨rfl, hb5⟩))
     go_ret
     exact ⟨rfl, below_step HB4.out hb5⟩
    | true =>
     rw [hnm] at HME
     have HNm := Lib.hid hnm
     clear hnm
     go_upto_region 7 with (first
      | (go_at_call 19; refine (HC.out W2 HI2.out).mono ?_; rintro e' W3 ⟨rfl, hb3⟩; have HB3 : Hid (Below W.heap.size W W3) := Lib.hid (below_step HB2.out hb3); have HI3 := Lib.hid (HI2.out.on hb3); have HBp3 := Lib.hid (HBp2.out.below hb3 hbl); clear hb3 q0 q1; have q0 : W3.cell? ⟨b, 0, none⟩ = some (.slice Ag p.globals.length cg) := (by rw [HBp3.out.cell]; rfl); have q1 : W3.cell? ⟨b, 1, none⟩ = some (.slice Ap p.procs.length cp) := (by rw [HBp3.out.cell]; rfl))
      | (go_at_call 25; refine (HJ.out W3 HI3.out).mono ?_; rintro e' W4 ⟨rfl, hb4⟩; have HB4 : Hid (Below W.heap.size W W4) := Lib.hid (below_step HB3.out hb4); have HI4 := Lib.hid (HI3.out.on hb4); have HBp4 := Lib.hid (HBp3.out.below hb4 HBp3.out.lt); clear hb4)
      | (go_at_call 36; refine (HME.out W4).mono ?_; rintro e' W5 ⟨rfl, hb5⟩))
     have HB5 : Hid (Below W.heap.size W W5) := Lib.hid (below_step HB4.out hb5)
     have HI5 := Lib.hid (HI4.out.on hb5)
     have HBp5 := Lib.hid (HBp4.out.below hb5 HBp4.out.lt)
     clear hb5 HB4 HI4 HBp4 HB3 HI3 HBp3 HB2 HI2 HBp2 q0 q1 hbl HC HJ hff HME
     have q0 : W5.cell? ⟨b, 0, none⟩ = some (.slice Ag p.globals.length cg) := by rw [HBp5.out.cell]; rfl
     have q1 : W5.cell? ⟨b, 1, none⟩ = some (.slice Ap p.procs.length cp) := by rw [HBp5.out.cell]; rfl
     have hbl := HBp5.out.lt
     have HIm : Hid (∀ i, i ∈ idsOf 0 (allOf p) → (1 ≤ i ∧ i ≤ 200) ∧ ∃ q s, AtId p i q s) := Lib.hid (fun i hi => by
      obtain ⟨q, s, h1, h2, h3⟩ := ids_at HOk.out.may hi
      exact ⟨h3, q, s, h1⟩)
     have HLn : Hid ((idsOf 0 (allOf p)).length ≤ 1000) := Lib.hid (by
      have h1 := allL_len p.procs [] (by simp)
      have h2 := idsOf_len (kind := 0) (l := allOf p) (k := (allOf p).length)
      rw [List.take_length] at h2
      have h3 : (allOf p).length ≤ 401 := h1
      omega)
     generalize idsOf 0 (allOf p) = il at HIs HLn HIm
     go_upto_region 8 with (first
      | (go_at_call 33; refine (HIs.out W5 HI5.out).mono ?_; rintro e' W6 ⟨v6, rfl, ho6, hb6⟩; obtain ⟨X6, k6, rfl, _, _⟩ := own_shape ho6; have HPk := Lib.hid (Pick_any ho6 HLn.out (fun i hi => by have := (HIm.out i hi).1; unfold i64; omega) n (Below.refl _ _)); have HB6 := Lib.hid hb6; clear ho6 hb6)
      | (go_at_call 32; refine HPk.out.mono ?_; rintro e' W7 ⟨id, hidm, rfl, rfl⟩))
     have HI6 := Lib.hid (HI5.out.on HB6.out)
     have HBp6 := Lib.hid (HBp5.out.below HB6.out hbl)
     have HB6W := Lib.hid (below_step HB5.out HB6.out)
     have HDm := Lib.hid hidm
     clear q0 q1 hbl hidm HPk HIs HLn HB5 HI5 HBp5 HB6
     have hbl := HBp6.out.lt
     have q0 : W6.cell? ⟨b, 0, none⟩ = some (.slice Ag p.globals.length cg) := by rw [HBp6.out.cell]; rfl
     have q1 : W6.cell? ⟨b, 1, none⟩ = some (.slice Ap p.procs.length cp) := by rw [HBp6.out.cell]; rfl
     by_cases h0 : id = 0
     ·subst h0
      go_wp2_with fail
      go_ret
      exact ⟨rfl, HB6W.out⟩
     ·have h1 : (id == 0) = false := beq_eq_false_iff_ne.2 h0
      obtain ⟨⟨hi1, hi2⟩, q, s, hat⟩ := HIm.out id (by rcases HDm.out with ⟨_, h⟩ | h; exact absurd h h0; exact h)
      have HAt := Lib.hid hat
      have HCk := Lib.hid HJo.out.1
      have HS0 := Lib.hid (fun V hV => HSt.out id V hV)
      rw [hat.st] at HS0
      have HP0 := Lib.hid (fun V hV => HPf.out id V hV)
      rw [hat.pf] at HP0
      have HA0 := Lib.hid (fun V hV => HAj.out q.nm name V hV)
      rw [jAt_q HCk.out HOk.out.procs hat.mem] at HA0
      have HL0 := Lib.hid (fun V hV => HLj.out id V hV)
      obtain ⟨lp, hlp1, hlp2⟩ := loop_of HOk.out.may HCk.out hat
      rw [hlp2] at HL0
      have HLp := Lib.hid hlp1
      have HIt : Hid ((atQ name q).2 = (setF (allLb q) name)) := Lib.hid (at_there name q)
      generalize hatv : atQ name q = av at HA0 HIt
      clear hatv
      obtain ⟨atv, thr⟩ := av
      simp only at HIt
      clear HIm HDm hat hlp1 hlp2 HSt HPf HAj HLj h0
      go_upto_region 11 with (go_at_call 30; refine (HS0.out W6 HI6.out).mono ?_; rintro e' W7 ⟨cs, rfl, hst, hb7⟩; obtain ⟨sid, kind, labels, nm, proc, x, has, args, th, el, L, lc, y0, y1, y2, X, xn, xc, R, rc, T, tc, U, uc, rfl, rfl, _, hkb, _⟩ := stmt_open hst; have HSi := Lib.hid hst; clear hst)
      have heid : sid = id := HAt.out.eid
      subst heid
      have HB9 : Hid (Below W6.heap.size W6 (W7.alloc (.cells #[.int .i64 sid, .int .i64 kind, .slice L labels.length lc, .string nm, .string proc, .int .i64 y0, .int .i64 y1, .string y2, .slice X xn xc, .bool has, .slice R args.length rc, .slice T th.length tc, .slice U el.length uc] 60))) := Lib.hid (below_stepA hb7 _)
      have HBs9 : Hid (Blk (W7.alloc (.cells #[.int .i64 sid, .int .i64 kind, .slice L labels.length lc, .string nm, .string proc, .int .i64 y0, .int .i64 y1, .string y2, .slice X xn xc, .bool has, .slice R args.length rc, .slice T th.length tc, .slice U el.length uc] 60)) W7.heap.size 60 #[.int .i64 sid, .int .i64 kind, .slice L labels.length lc, .string nm, .string proc, .int .i64 y0, .int .i64 y1, .string y2, .slice X xn xc, .bool has, .slice R args.length rc, .slice T th.length tc, .slice U el.length uc]) := Lib.hid (Blk.new _ _ _)
      have hbs8 : b < W7.heap.size := Nat.lt_of_lt_of_le hbl hb7.size
      have hbsW : W.heap.size ≤ W7.heap.size := (below_step HB6W.out hb7).size
      clear hb7 q0 q1 hbl HS0
      generalize World.alloc W7 _ = W9 at HB9 HBs9 ⊢
      generalize W7.heap.size = bs at HBs9 hbs8 hbsW ⊢
      have HB9W := Lib.hid (below_step HB6W.out HB9.out)
      have HI9 := Lib.hid (HI6.out.on HB9.out)
      have HBp9 := Lib.hid (HBp6.out.below HB9.out HBp6.out.lt)
      clear HB6W HI6 HBp6 HB9
      have q0 : W9.cell? ⟨b, 0, none⟩ = some (.slice Ag p.globals.length cg) := by rw [HBp9.out.cell]; rfl
      have q1 : W9.cell? ⟨b, 1, none⟩ = some (.slice Ap p.procs.length cp) := by rw [HBp9.out.cell]; rfl
      go_upto_region 12 with (go_at_call 37; refine (HP0.out W9 HI9.out).mono ?_; rintro e' W10 ⟨rfl, hb10⟩)
      have HB10W := Lib.hid (below_step HB9W.out hb10)
      have HI10 := Lib.hid (HI9.out.on hb10)
      have HBp10 := Lib.hid (HBp9.out.below hb10 HBp9.out.lt)
      have HBs10 := Lib.hid (HBs9.out.below hb10 HBs9.out.lt)
      clear q0 q1 hb10 HP0 HB9W HI9 HBp9 HBs9
      have q0 : W10.cell? ⟨b, 0, none⟩ = some (.slice Ag p.globals.length cg) := by rw [HBp10.out.cell]; rfl
      have q1 : W10.cell? ⟨b, 1, none⟩ = some (.slice Ap p.procs.length cp) := by rw [HBp10.out.cell]; rfl
      go_upto_region 13 with (go_at_call 29; refine (HA0.out W10 HI10.out).mono ?_; rintro e' W11 ⟨rfl, hb11⟩)
      have HB11W := Lib.hid (below_step HB10W.out hb11)
      have HI11 := Lib.hid (HI10.out.on hb11)
      have HBp11 := Lib.hid (HBp10.out.below hb11 HBp10.out.lt)
      have HBs11 := Lib.hid (HBs10.out.below hb11 HBs10.out.lt)
      clear q0 q1 hb11 HA0 HB10W HI10 HBp10 HBs10
      have q0 : W11.cell? ⟨b, 0, none⟩ = some (.slice Ag p.globals.length cg) := by rw [HBp11.out.cell]; rfl
      have q1 : W11.cell? ⟨b, 1, none⟩ = some (.slice Ap p.procs.length cp) := by rw [HBp11.out.cell]; rfl
      go_upto_region 14 with (go_at_call 34; refine (HL0.out W11 HI11.out).mono ?_; rintro e' W12 ⟨rfl, hb12⟩)
      have HB12W := Lib.hid (below_step HB11W.out hb12)
      have HI12 := Lib.hid (HI11.out.on hb12)
      have HBp12 := Lib.hid (HBp11.out.below hb12 HBp11.out.lt)
      have HBs12 := Lib.hid (HBs11.out.below hb12 HBs11.out.lt)
      clear q0 q1 hb12 HL0 HB11W HI11 HBp11 HBs11
      have s2 : W12.cell? ⟨bs, 2, none⟩ = some (.slice L labels.length lc) := by rw [HBs12.out.cell]; rfl
      have hbl := HBp12.out.lt
      have hsl := HBs12.out.lt
      go_upto_region 15 with fail
      have HBt : Hid (Blk (W12.alloc (.cells #[.int .i64 sid, .int .i64 10, .slice L labels.length lc, .string name, .string ⟨#[]⟩, .int .i64 0, .int .i64 0, .string ⟨#[]⟩, .slice none 0 0, .bool false, .slice none 0 0, .slice none 0 0, .slice none 0 0] 60)) W12.heap.size 60 #[.int .i64 sid, .int .i64 10, .slice L labels.length lc, .string name, .string ⟨#[]⟩, .int .i64 0, .int .i64 0, .string ⟨#[]⟩, .slice none 0 0, .bool false, .slice none 0 0, .slice none 0 0, .slice none 0 0]) := Lib.hid (Blk.new _ _ _)
      have HB13 : Hid (Below W12.heap.size W12 (W12.alloc (.cells #[.int .i64 sid, .int .i64 10, .slice L labels.length lc, .string name, .string ⟨#[]⟩, .int .i64 0, .int .i64 0, .string ⟨#[]⟩, .slice none 0 0, .bool false, .slice none 0 0, .slice none 0 0, .slice none 0 0] 60))) := Lib.hid (below_box _)
      clear s2
      generalize World.alloc W12 _ = W13 at HBt HB13 ⊢
      obtain ⟨bt, hbt⟩ : ∃ bt, bt = W12.heap.size := ⟨_, rfl⟩
      rw [← hbt] at HBt hbl hsl ⊢
      rw [← hbt] at HB13
      have HBtE := Lib.hid hbt
      clear hbt
      have HBp13 := Lib.hid (HBp12.out.below HB13.out hbl)
      have HBs13 := Lib.hid (HBs12.out.below HB13.out hsl)
      have HB13W : Hid (Below W.heap.size W W13) := Lib.hid (HB12W.out.trans (HB13.out.mono (by rw [HBtE.out]; exact HB12W.out.size)))
      have hbtW : W.heap.size ≤ bt := by rw [HBtE.out]; exact HB12W.out.size
      have HI13 := Lib.hid (HI.out.on HB13W.out)
      obtain ⟨m3, hm3, hM3⟩ := Mod_fix kk 3 (by omega) (by omega)
      have HM3 : Hid (∀ w : World, Calls Try.prog 13 #[.int .i64 kk, .int .i64 3] w fun e w' => e = .returned (.int .i64 m3) ∧ w = w') := Lib.hid hM3
      clear hM3 HB12W HI12 HBp12 HBs12
      obtain ⟨hid64, _⟩ := st_i64 HSi.out
      rcases (show m3 = 0 ∨ m3 = 1 ∨ m3 = 2 by omega) with rfl | rfl | rfl
      ·have HBtX := HBt
       have HBsX := HBs13
       have HBpX := HBp13
       have HBXW := HB13W
       have HIX := HI13
       have HI2 := HI13
       have hsz := nm_short HNm.out
       have HTi : Hid (StmtI w Q (.mk sid 10 labels name b0 eZ false [] [] []) [.int .i64 sid, .int .i64 10, .slice L labels.length lc, .string name, .string ⟨#[]⟩, .int .i64 0, .int .i64 0, .string ⟨#[]⟩, .slice none 0 0, .bool false, .slice none 0 0, .slice none 0 0, .slice none 0 0]) := Lib.hid (StmtI.of_slice hid64 ⟨by omega, by omega⟩ (by omega) (by decide) (st_labs HSi.out) (ExprI.of_slice nil_slice ⟨by omega, by omega⟩ ⟨by omega, by omega⟩ (by decide)) nil_slice nil_slice nil_slice)
       have HTr : Hid (th = [] → el = [] → jCheck (putP (.mk sid 10 labels name b0 eZ false [] [] []) p) = if thr = true then (0, 0) else (7, sid)) := Lib.hid (fun h1 h2 => by
        subst h1 h2
        have hs := may_stm HOk.out.may q HAt.out.mem _ HAt.out.stm
        obtain ⟨k1, k2⟩ := jck_turn (t := (.mk sid 10 labels name b0 eZ false [] [] [])) HOk.out HJk.out HAt.out HLp.out ⟨rfl, rfl⟩ (fun y => Iff.rfl) (tGo_ok (s := .mk sid kind labels nm proc x has args [] []) hs HNm.out) (tGo_bad _ _ _ (.mk sid kind labels nm proc x has args [] []) _)
        have hlb : landsB (setF (allLb q)) 10 name lp = thr := by rw [HIt.out]; rfl
        cases hthr : thr with
        | true => exact k1 rfl (hlb.trans hthr)
        | false => exact k2 (.inl (hlb.trans hthr)))
       have hws := at_w3 HFt.out HAt.out
       rw [wS] at hws
       have hokd : okC (.mk sid 10 labels name b0 eZ false [] [] []) := ⟨by decide, by have := wT_len labels; omega, by decide⟩
       have HSmP : Hid (SmG (putP (.mk sid 10 labels name b0 eZ false [] [] []) p)) := Lib.hid (fits_put (c := 20) HFt.out HOk.out.may (by omega) (fun q' hq' y hy he => by
        have hy2 := (HAt.out.only q' hq' y hy (he.trans HAt.out.eid)).1
        subst hy2
        simp only [hw]
        have h1 : wE eZ = 1 := rfl
        have h2 : wAr [] = 0 := rfl
        have h3 : b0.size = 0 := rfl
        omega))
       clear hws
       have s11 : W13.cell? ⟨bs, 11, none⟩ = some (.slice T th.length tc) := by rw [HBsX.out.cell]; rfl
       have s12 : W13.cell? ⟨bs, 12, none⟩ = some (.slice U el.length uc) := by rw [HBsX.out.cell]; rfl
       by_cases hth : th.length = 0
       ·rw [hth] at s11
        by_cases hel : el.length = 0
        ·rw [hel] at s12
         have HR := Lib.hid (HTr.out (List.eq_nil_of_length_eq_zero hth) (List.eq_nil_of_length_eq_zero hel))
         have HPu := Lib.hid (fun V h1 h2 => Put_any (W := V) HP.out HTi.out h1 h2 HSg.out hokd)
         clear hth hel
         generalize putP (.mk sid 10 labels name b0 eZ false [] [] []) p = pp at HR HSmP HPu
         have HCk2 : Hid (∀ (w1 W1 : World) (Q1 : Nat → Prop) (a0 a1 : Value), ProgI w1 Q1 pp [a0, a1] → In Q1 w1 W1 → Calls Try.prog 25 #[.agg #[a0, a1]] W1 fun e w' => e = .returned (.agg #[.int .i64 (if thr = true then ((0 : Int), (0 : Int)) else (7, sid)).1, .int .i64 (if thr = true then ((0 : Int), (0 : Int)) else (7, sid)).2]) ∧ Below W1.heap.size W1 w') := Lib.hid (fun w1 W1 Q1 a0 a1 h1 h2 => by
          have h3 := jCheck_any h1 HSmP.out W1 h2
          rw [HR.out] at h3
          exact h3)
         clear HR HSmP HTi HTr hokd
         generalize thr = d at HCk2 ⊢
         have q0 : W13.cell? ⟨b, 0, none⟩ = some (.slice Ag p.globals.length cg) := by rw [HBpX.out.cell]; rfl
         have q1 : W13.cell? ⟨b, 1, none⟩ = some (.slice Ap p.procs.length cp) := by rw [HBpX.out.cell]; rfl
         have t0 : W13.cell? ⟨bt, 0, none⟩ = some (.int .i64 sid) := by rw [HBtX.out.cell]; rfl
         have t1 : W13.cell? ⟨bt, 1, none⟩ = some (.int .i64 10) := by rw [HBtX.out.cell]; rfl
         have t2 : W13.cell? ⟨bt, 2, none⟩ = some (.slice L labels.length lc) := by rw [HBtX.out.cell]; rfl
         have t3 : W13.cell? ⟨bt, 3, none⟩ = some (.string name) := by rw [HBtX.out.cell]; rfl
         have t4 : W13.cell? ⟨bt, 4, none⟩ = some (.string ⟨#[]⟩) := by rw [HBtX.out.cell]; rfl
         have t5 : W13.cell? ⟨bt, 5, none⟩ = some (.int .i64 0) := by rw [HBtX.out.cell]; rfl
         have t6 : W13.cell? ⟨bt, 6, none⟩ = some (.int .i64 0) := by rw [HBtX.out.cell]; rfl
         have t7 : W13.cell? ⟨bt, 7, none⟩ = some (.string ⟨#[]⟩) := by rw [HBtX.out.cell]; rfl
         have t8 : W13.cell? ⟨bt, 8, none⟩ = some (.slice none 0 0) := by rw [HBtX.out.cell]; rfl
         have t9 : W13.cell? ⟨bt, 9, none⟩ = some (.bool false) := by rw [HBtX.out.cell]; rfl
         have t10 : W13.cell? ⟨bt, 10, none⟩ = some (.slice none 0 0) := by rw [HBtX.out.cell]; rfl
         have t11 : W13.cell? ⟨bt, 11, none⟩ = some (.slice none 0 0) := by rw [HBtX.out.cell]; rfl
         have t12 : W13.cell? ⟨bt, 12, none⟩ = some (.slice none 0 0) := by rw [HBtX.out.cell]; rfl
         cases d with
         | true =>
          have HCk3 := Lib.hid HCk2.out
          simp only [if_true] at HCk3
          go_wp2_with (first
           | (go_at_call 38; (with_reducible refine (HPu.out W13 HIX.out HI2.out).mono ?_); rintro e' W15 ⟨d0, d1, rfl, hb15, hp15⟩; have HPp := Lib.hid hp15; clear hp15; obtain ⟨Ag', cg', Ap', cp', rfl, rfl, _⟩ := prog_open HPp.out)
           | (go_at_call 25; (with_reducible refine (HCk3.out _ W15 _ _ _ HPp.out (in_news W13 W15)).mono ?_); rintro e' W16 ⟨rfl, hb16⟩) | (go_at_call 13; (with_reducible refine (HM3.out _).mono ?_); rintro e' w' ⟨rfl, rfl⟩))
          go_ret
          exact ⟨rfl, below_stepA (below_step HBXW.out (below_step hb15 hb16)) _⟩
         | false =>
          have HCk3 := Lib.hid HCk2.out
          simp only [Bool.false_eq_true, if_false] at HCk3
          go_wp2_with (first
           | (go_at_call 38; (with_reducible refine (HPu.out W13 HIX.out HI2.out).mono ?_); rintro e' W15 ⟨d0, d1, rfl, hb15, hp15⟩; have HPp := Lib.hid hp15; clear hp15; obtain ⟨Ag', cg', Ap', cp', rfl, rfl, _⟩ := prog_open HPp.out)
           | (go_at_call 25; (with_reducible refine (HCk3.out _ W15 _ _ _ HPp.out (in_news W13 W15)).mono ?_); rintro e' W16 ⟨rfl, hb16⟩) | (go_at_call 13; (with_reducible refine (HM3.out _).mono ?_); rintro e' w' ⟨rfl, rfl⟩))
          go_ret
          exact ⟨by first | rfl | simp, below_stepA (below_step HBXW.out (below_step hb15 hb16)) _⟩
        ·obtain ⟨z1, hz1⟩ : ∃ z1, z1 = el.length := ⟨_, rfl⟩
         rw [← hz1] at s12 hel
         have he2 : 0 < z1 := by omega
         have he0 : (0 : Int) < (z1 : Int) := by omega
         have he1 : decide ((0 : Int) < (z1 : Int)) = true := decide_eq_true he0
         clear hel hz1
         go_wp2_with (first  | (go_at_call 13; (with_reducible refine (HM3.out _).mono ?_); rintro e' w' ⟨rfl, rfl⟩))
         go_ret
         exact ⟨rfl, HBXW.out⟩
       ·obtain ⟨z1, hz1⟩ : ∃ z1, z1 = th.length := ⟨_, rfl⟩
        rw [← hz1] at s11 hth
        have he2 : 0 < z1 := by omega
        have he0 : (0 : Int) < (z1 : Int) := by omega
        have he1 : decide ((0 : Int) < (z1 : Int)) = true := decide_eq_true he0
        clear hth hz1
        go_wp2_with (first  | (go_at_call 13; (with_reducible refine (HM3.out _).mono ?_); rintro e' w' ⟨rfl, rfl⟩))
        go_ret
        exact ⟨rfl, HBXW.out⟩
      ·obtain ⟨m2, hm2, hM2⟩ := Mod_fix kind 2 (by omega) (by omega)
       have HM2 : Hid (∀ w : World, Calls Try.prog 13 #[.int .i64 kind, .int .i64 2] w fun e w' => e = .returned (.int .i64 m2) ∧ w = w') := Lib.hid hM2
       clear hM2
       go_upto_region 17 with (go_at_call 13; (with_reducible refine (HM3.out _).mono ?_); rintro e' w' ⟨rfl, rfl⟩)
       have s1 : W13.cell? ⟨bs, 1, none⟩ = some (.int .i64 kind) := by rw [HBs13.out.cell]; rfl
       have s2 : W13.cell? ⟨bs, 2, none⟩ = some (.slice L labels.length lc) := by rw [HBs13.out.cell]; rfl
       have t0 : W13.cell? ⟨bt, 0, none⟩ = some (.int .i64 sid) := by rw [HBt.out.cell]; rfl
       have t1 : W13.cell? ⟨bt, 1, none⟩ = some (.int .i64 10) := by rw [HBt.out.cell]; rfl
       have t2 : W13.cell? ⟨bt, 2, none⟩ = some (.slice L labels.length lc) := by rw [HBt.out.cell]; rfl
       have t3 : W13.cell? ⟨bt, 3, none⟩ = some (.string name) := by rw [HBt.out.cell]; rfl
       have t4 : W13.cell? ⟨bt, 4, none⟩ = some (.string ⟨#[]⟩) := by rw [HBt.out.cell]; rfl
       have t5 : W13.cell? ⟨bt, 5, none⟩ = some (.int .i64 0) := by rw [HBt.out.cell]; rfl
       have t6 : W13.cell? ⟨bt, 6, none⟩ = some (.int .i64 0) := by rw [HBt.out.cell]; rfl
       have t7 : W13.cell? ⟨bt, 7, none⟩ = some (.string ⟨#[]⟩) := by rw [HBt.out.cell]; rfl
       have t8 : W13.cell? ⟨bt, 8, none⟩ = some (.slice none 0 0) := by rw [HBt.out.cell]; rfl
       have t9 : W13.cell? ⟨bt, 9, none⟩ = some (.bool false) := by rw [HBt.out.cell]; rfl
       have t10 : W13.cell? ⟨bt, 10, none⟩ = some (.slice none 0 0) := by rw [HBt.out.cell]; rfl
       have t11 : W13.cell? ⟨bt, 11, none⟩ = some (.slice none 0 0) := by rw [HBt.out.cell]; rfl
       have t12 : W13.cell? ⟨bt, 12, none⟩ = some (.slice none 0 0) := by rw [HBt.out.cell]; rfl
       have f0 := HBt.out.frozen 0
       have f1 := HBt.out.frozen 1
       have f2 := HBt.out.frozen 2
       have f3 := HBt.out.frozen 3
       have f4 := HBt.out.frozen 4
       have f5 := HBt.out.frozen 5
       have f6 := HBt.out.frozen 6
       have f7 := HBt.out.frozen 7
       have f8 := HBt.out.frozen 8
       have f9 := HBt.out.frozen 9
       have f10 := HBt.out.frozen 10
       have f11 := HBt.out.frozen 11
       have f12 := HBt.out.frozen 12
       have hbtl := HBt.out.lt
       have HS13 : Hid (∀ w' : World, Below bt W13 w' → (w'.cell? ⟨bs, 1, none⟩ = some (.int .i64 kind) ∧ w'.cell? ⟨bs, 2, none⟩ = some (.slice L labels.length lc))) := Lib.hid (fun w' hb => ⟨(hb.cell (p := ⟨bs, 1, none⟩) hsl).trans s1, (hb.cell (p := ⟨bs, 2, none⟩) hsl).trans s2⟩)
       have hBD : Below bt W13 W13.drew := (Below.refl _ _).drew
       have hBE : Below bt W13 (World.drew (World.setCell (World.setCell (World.setCell (World.setCell (World.setCell (World.setCell (World.setCell (World.setCell (World.setCell (World.setCell (World.setCell (World.setCell (World.setCell W13 ⟨bt, 0, none⟩ (.int .i64 sid)) ⟨bt, 1, none⟩ (.int .i64 (IntKind.i64.wrap (7 + (m2 : Int))))) ⟨bt, 2, none⟩ (.slice L labels.length lc)) ⟨bt, 3, none⟩ (.string ⟨#[]⟩)) ⟨bt, 4, none⟩ (.string ⟨#[]⟩)) ⟨bt, 5, none⟩ (.int .i64 0)) ⟨bt, 6, none⟩ (.int .i64 0)) ⟨bt, 7, none⟩ (.string ⟨#[]⟩)) ⟨bt, 8, none⟩ (.slice none 0 0)) ⟨bt, 9, none⟩ (.bool false)) ⟨bt, 10, none⟩ (.slice none 0 0)) ⟨bt, 11, none⟩ (.slice none 0 0)) ⟨bt, 12, none⟩ (.slice none 0 0))) := (below13 (Below.refl _ _) (Nat.le_refl _)).drew
       have HBE := Lib.hid hBE
       have HBtE2 : Hid (Blk (World.drew (World.setCell (World.setCell (World.setCell (World.setCell (World.setCell (World.setCell (World.setCell (World.setCell (World.setCell (World.setCell (World.setCell (World.setCell (World.setCell W13 ⟨bt, 0, none⟩ (.int .i64 sid)) ⟨bt, 1, none⟩ (.int .i64 (IntKind.i64.wrap (7 + (m2 : Int))))) ⟨bt, 2, none⟩ (.slice L labels.length lc)) ⟨bt, 3, none⟩ (.string ⟨#[]⟩)) ⟨bt, 4, none⟩ (.string ⟨#[]⟩)) ⟨bt, 5, none⟩ (.int .i64 0)) ⟨bt, 6, none⟩ (.int .i64 0)) ⟨bt, 7, none⟩ (.string ⟨#[]⟩)) ⟨bt, 8, none⟩ (.slice none 0 0)) ⟨bt, 9, none⟩ (.bool false)) ⟨bt, 10, none⟩ (.slice none 0 0)) ⟨bt, 11, none⟩ (.slice none 0 0)) ⟨bt, 12, none⟩ (.slice none 0 0))) bt 60 #[.int .i64 sid, .int .i64 (IntKind.i64.wrap (7 + (m2 : Int))), .slice L labels.length lc, .string ⟨#[]⟩, .string ⟨#[]⟩, .int .i64 0, .int .i64 0, .string ⟨#[]⟩, .slice none 0 0, .bool false, .slice none 0 0, .slice none 0 0, .slice none 0 0]) := Lib.hid (blk_drew2 (blk13t HBt.out))
       have hwr : (m2 = 0 ∧ IntKind.i64.wrap (7 + (m2 : Int)) = 7) ∨ (m2 = 1 ∧ IntKind.i64.wrap (7 + (m2 : Int)) = 8) := by rw [IntKind.wrap_i64]; omega
       have HWr := Lib.hid hwr
       clear hwr
       go_region_held3 (fun w' => w'.cell? ⟨bs, 1, none⟩ = some (.int .i64 kind) ∧ w'.cell? ⟨bs, 2, none⟩ = some (.slice L labels.length lc))
        ((refine HS13.out _ ?_; with_reducible assumption))
        ((go_at_call 13; (with_reducible refine (HM2.out _).mono ?_); rintro e' w' ⟨rfl, rfl⟩))
       clear t0 f0 t1 f1 t2 f2 t3 f3 t4 f4 t5 f5 t6 f6 t7 f7 t8 f8 t9 f9 t10 f10 t11 f11 t12 f12 s1 s2 hBD hBE HS13
       generalize IntKind.i64.wrap (7 + (m2 : Int)) = k7 at HWr HBtE2 HBE ⊢
       have HK7 : Hid (k7 = 7 ∨ k7 = 8) := Lib.hid (by have := HWr.out; omega)
       clear HWr HM2 hm2
       generalize World.drew _ = WX at HBtE2 HBE ⊢
       have HBtX := HBtE2
       have HBsX := Lib.hid (HBs13.out.below HBE.out hsl)
       have HBpX := Lib.hid (HBp13.out.below HBE.out hbl)
       have HBXW : Hid (Below W.heap.size W WX) := Lib.hid (HB13W.out.trans (HBE.out.mono hbtW))
       have HIX := Lib.hid (HI.out.on HBXW.out)
       have HI2 := HIX
       have HTi : Hid (StmtI w Q (.mk sid k7 labels b0 b0 eZ false [] [] []) [.int .i64 sid, .int .i64 k7, .slice L labels.length lc, .string ⟨#[]⟩, .string ⟨#[]⟩, .int .i64 0, .int .i64 0, .string ⟨#[]⟩, .slice none 0 0, .bool false, .slice none 0 0, .slice none 0 0, .slice none 0 0]) := Lib.hid (StmtI.of_slice hid64 ⟨by have := HK7.out; omega, by have := HK7.out; omega⟩ (by decide) (by decide) (st_labs HSi.out) (ExprI.of_slice nil_slice ⟨by omega, by omega⟩ ⟨by omega, by omega⟩ (by decide)) nil_slice nil_slice nil_slice)
       have HTr : Hid (th = [] → el = [] → jCheck (putP (.mk sid k7 labels b0 b0 eZ false [] [] []) p) = if (lp != 0) = true then (0, 0) else (7, sid)) := Lib.hid (fun h1 h2 => by
        subst h1 h2
        have hs := may_stm HOk.out.may q HAt.out.mem _ HAt.out.stm
        obtain ⟨k1, k2⟩ := jck_turn (t := (.mk sid k7 labels b0 b0 eZ false [] [] [])) HOk.out HJk.out HAt.out HLp.out ⟨rfl, rfl⟩ (fun y => Iff.rfl) (tBr_ok (s := .mk sid kind labels nm proc x has args [] []) hs HK7.out) (tBr_bad _ _ _ (.mk sid kind labels nm proc x has args [] []) _ HK7.out)
        have hlb : landsB (setF (allLb q)) k7 b0 lp = (lp != 0) := by unfold landsB; rw [if_pos HK7.out]
        cases hthr : lp != 0 with
        | true => exact k1 rfl (hlb.trans hthr)
        | false => exact k2 (.inl (hlb.trans hthr)))
       have hws := at_w3 HFt.out HAt.out
       rw [wS] at hws
       have hokd : okC (.mk sid k7 labels b0 b0 eZ false [] [] []) := ⟨by decide, by have := wT_len labels; omega, by decide⟩
       have HSmP : Hid (SmG (putP (.mk sid k7 labels b0 b0 eZ false [] [] []) p)) := Lib.hid (fits_put (c := 20) HFt.out HOk.out.may (by omega) (fun q' hq' y hy he => by
        have hy2 := (HAt.out.only q' hq' y hy (he.trans HAt.out.eid)).1
        subst hy2
        simp only [hw]
        have h1 : wE eZ = 1 := rfl
        have h2 : wAr [] = 0 := rfl
        have h3 : b0.size = 0 := rfl
        omega))
       clear hws
       have s11 : WX.cell? ⟨bs, 11, none⟩ = some (.slice T th.length tc) := by rw [HBsX.out.cell]; rfl
       have s12 : WX.cell? ⟨bs, 12, none⟩ = some (.slice U el.length uc) := by rw [HBsX.out.cell]; rfl
       by_cases hth : th.length = 0
       ·rw [hth] at s11
        by_cases hel : el.length = 0
        ·rw [hel] at s12
         have HR := Lib.hid (HTr.out (List.eq_nil_of_length_eq_zero hth) (List.eq_nil_of_length_eq_zero hel))
         have HPu := Lib.hid (fun V h1 h2 => Put_any (W := V) HP.out HTi.out h1 h2 HSg.out hokd)
         clear hth hel
         generalize putP (.mk sid k7 labels b0 b0 eZ false [] [] []) p = pp at HR HSmP HPu
         have HCk2 : Hid (∀ (w1 W1 : World) (Q1 : Nat → Prop) (a0 a1 : Value), ProgI w1 Q1 pp [a0, a1] → In Q1 w1 W1 → Calls Try.prog 25 #[.agg #[a0, a1]] W1 fun e w' => e = .returned (.agg #[.int .i64 (if (lp != 0) = true then ((0 : Int), (0 : Int)) else (7, sid)).1, .int .i64 (if (lp != 0) = true then ((0 : Int), (0 : Int)) else (7, sid)).2]) ∧ Below W1.heap.size W1 w') := Lib.hid (fun w1 W1 Q1 a0 a1 h1 h2 => by
          have h3 := jCheck_any h1 HSmP.out W1 h2
          rw [HR.out] at h3
          exact h3)
         clear HR HSmP HTi HTr hokd
         generalize (lp != 0) = d at HCk2 ⊢
         have q0 : WX.cell? ⟨b, 0, none⟩ = some (.slice Ag p.globals.length cg) := by rw [HBpX.out.cell]; rfl
         have q1 : WX.cell? ⟨b, 1, none⟩ = some (.slice Ap p.procs.length cp) := by rw [HBpX.out.cell]; rfl
         have t0 : WX.cell? ⟨bt, 0, none⟩ = some (.int .i64 sid) := by rw [HBtX.out.cell]; rfl
         have t1 : WX.cell? ⟨bt, 1, none⟩ = some (.int .i64 k7) := by rw [HBtX.out.cell]; rfl
         have t2 : WX.cell? ⟨bt, 2, none⟩ = some (.slice L labels.length lc) := by rw [HBtX.out.cell]; rfl
         have t3 : WX.cell? ⟨bt, 3, none⟩ = some (.string ⟨#[]⟩) := by rw [HBtX.out.cell]; rfl
         have t4 : WX.cell? ⟨bt, 4, none⟩ = some (.string ⟨#[]⟩) := by rw [HBtX.out.cell]; rfl
         have t5 : WX.cell? ⟨bt, 5, none⟩ = some (.int .i64 0) := by rw [HBtX.out.cell]; rfl
         have t6 : WX.cell? ⟨bt, 6, none⟩ = some (.int .i64 0) := by rw [HBtX.out.cell]; rfl
         have t7 : WX.cell? ⟨bt, 7, none⟩ = some (.string ⟨#[]⟩) := by rw [HBtX.out.cell]; rfl
         have t8 : WX.cell? ⟨bt, 8, none⟩ = some (.slice none 0 0) := by rw [HBtX.out.cell]; rfl
         have t9 : WX.cell? ⟨bt, 9, none⟩ = some (.bool false) := by rw [HBtX.out.cell]; rfl
         have t10 : WX.cell? ⟨bt, 10, none⟩ = some (.slice none 0 0) := by rw [HBtX.out.cell]; rfl
         have t11 : WX.cell? ⟨bt, 11, none⟩ = some (.slice none 0 0) := by rw [HBtX.out.cell]; rfl
         have t12 : WX.cell? ⟨bt, 12, none⟩ = some (.slice none 0 0) := by rw [HBtX.out.cell]; rfl
         cases d with
         | true =>
          have HCk3 := Lib.hid HCk2.out
          simp only [if_true] at HCk3
          go_wp2_with (first
           | (go_at_call 38; (with_reducible refine (HPu.out WX HIX.out HI2.out).mono ?_); rintro e' W15 ⟨d0, d1, rfl, hb15, hp15⟩; have HPp := Lib.hid hp15; clear hp15; obtain ⟨Ag', cg', Ap', cp', rfl, rfl, _⟩ := prog_open HPp.out)
           | (go_at_call 25; (with_reducible refine (HCk3.out _ W15 _ _ _ HPp.out (in_news WX W15)).mono ?_); rintro e' W16 ⟨rfl, hb16⟩))
          go_ret
          exact ⟨rfl, below_stepA (below_step HBXW.out (below_step hb15 hb16)) _⟩
         | false =>
          have HCk3 := Lib.hid HCk2.out
          simp only [Bool.false_eq_true, if_false] at HCk3
          go_wp2_with (first
           | (go_at_call 38; (with_reducible refine (HPu.out WX HIX.out HI2.out).mono ?_); rintro e' W15 ⟨d0, d1, rfl, hb15, hp15⟩; have HPp := Lib.hid hp15; clear hp15; obtain ⟨Ag', cg', Ap', cp', rfl, rfl, _⟩ := prog_open HPp.out)
           | (go_at_call 25; (with_reducible refine (HCk3.out _ W15 _ _ _ HPp.out (in_news WX W15)).mono ?_); rintro e' W16 ⟨rfl, hb16⟩))
          go_ret
          exact ⟨by first | rfl | simp, below_stepA (below_step HBXW.out (below_step hb15 hb16)) _⟩
        ·obtain ⟨z1, hz1⟩ : ∃ z1, z1 = el.length := ⟨_, rfl⟩
         rw [← hz1] at s12 hel
         have he2 : 0 < z1 := by omega
         have he0 : (0 : Int) < (z1 : Int) := by omega
         have he1 : decide ((0 : Int) < (z1 : Int)) = true := decide_eq_true he0
         clear hel hz1
         go_wp2_with fail
         go_ret
         exact ⟨rfl, HBXW.out⟩
       ·obtain ⟨z1, hz1⟩ : ∃ z1, z1 = th.length := ⟨_, rfl⟩
        rw [← hz1] at s11 hth
        have he2 : 0 < z1 := by omega
        have he0 : (0 : Int) < (z1 : Int) := by omega
        have he1 : decide ((0 : Int) < (z1 : Int)) = true := decide_eq_true he0
        clear hth hz1
        go_wp2_with fail
        go_ret
        exact ⟨rfl, HBXW.out⟩
      ·obtain ⟨zl, hzl⟩ : ∃ zl, zl = labels.length := ⟨_, rfl⟩
       have HZl := Lib.hid hzl
       have hws := at_w3 HFt.out HAt.out
       rw [wS] at hws
       have HWs := Lib.hid hws
       have hzl2 : zl ≤ 20000 := by have := wT_len labels; omega
       have HLb : Hid (TextsI w Q labels (.slice L zl lc)) := Lib.hid (by rw [hzl]; exact st_labs HSi.out)
       rw [← hzl] at HBs13 HBt ⊢
       clear hzl hws
       go_upto_region 19 with (go_at_call 13; (with_reducible refine (HM3.out _).mono ?_); rintro e' w' ⟨rfl, rfl⟩)
       have s0 : W13.cell? ⟨bs, 0, none⟩ = some (.int .i64 sid) := by rw [HBs13.out.cell]; rfl
       have s1 : W13.cell? ⟨bs, 1, none⟩ = some (.int .i64 kind) := by rw [HBs13.out.cell]; rfl
       have s2 : W13.cell? ⟨bs, 2, none⟩ = some (.slice L zl lc) := by rw [HBs13.out.cell]; rfl
       have s3 : W13.cell? ⟨bs, 3, none⟩ = some (.string nm) := by rw [HBs13.out.cell]; rfl
       have s4 : W13.cell? ⟨bs, 4, none⟩ = some (.string proc) := by rw [HBs13.out.cell]; rfl
       have s5 : W13.cell? ⟨bs, 5, none⟩ = some (.int .i64 y0) := by rw [HBs13.out.cell]; rfl
       have s6 : W13.cell? ⟨bs, 6, none⟩ = some (.int .i64 y1) := by rw [HBs13.out.cell]; rfl
       have s7 : W13.cell? ⟨bs, 7, none⟩ = some (.string y2) := by rw [HBs13.out.cell]; rfl
       have s8 : W13.cell? ⟨bs, 8, none⟩ = some (.slice X xn xc) := by rw [HBs13.out.cell]; rfl
       have s9 : W13.cell? ⟨bs, 9, none⟩ = some (.bool has) := by rw [HBs13.out.cell]; rfl
       have s10 : W13.cell? ⟨bs, 10, none⟩ = some (.slice R args.length rc) := by rw [HBs13.out.cell]; rfl
       have s11 : W13.cell? ⟨bs, 11, none⟩ = some (.slice T th.length tc) := by rw [HBs13.out.cell]; rfl
       have s12 : W13.cell? ⟨bs, 12, none⟩ = some (.slice U el.length uc) := by rw [HBs13.out.cell]; rfl
       have t0 : W13.cell? ⟨bt, 0, none⟩ = some (.int .i64 sid) := by rw [HBt.out.cell]; rfl
       have t1 : W13.cell? ⟨bt, 1, none⟩ = some (.int .i64 10) := by rw [HBt.out.cell]; rfl
       have t2 : W13.cell? ⟨bt, 2, none⟩ = some (.slice L zl lc) := by rw [HBt.out.cell]; rfl
       have t3 : W13.cell? ⟨bt, 3, none⟩ = some (.string name) := by rw [HBt.out.cell]; rfl
       have t4 : W13.cell? ⟨bt, 4, none⟩ = some (.string ⟨#[]⟩) := by rw [HBt.out.cell]; rfl
       have t5 : W13.cell? ⟨bt, 5, none⟩ = some (.int .i64 0) := by rw [HBt.out.cell]; rfl
       have t6 : W13.cell? ⟨bt, 6, none⟩ = some (.int .i64 0) := by rw [HBt.out.cell]; rfl
       have t7 : W13.cell? ⟨bt, 7, none⟩ = some (.string ⟨#[]⟩) := by rw [HBt.out.cell]; rfl
       have t8 : W13.cell? ⟨bt, 8, none⟩ = some (.slice none 0 0) := by rw [HBt.out.cell]; rfl
       have t9 : W13.cell? ⟨bt, 9, none⟩ = some (.bool false) := by rw [HBt.out.cell]; rfl
       have t10 : W13.cell? ⟨bt, 10, none⟩ = some (.slice none 0 0) := by rw [HBt.out.cell]; rfl
       have t11 : W13.cell? ⟨bt, 11, none⟩ = some (.slice none 0 0) := by rw [HBt.out.cell]; rfl
       have t12 : W13.cell? ⟨bt, 12, none⟩ = some (.slice none 0 0) := by rw [HBt.out.cell]; rfl
       have f0 := HBt.out.frozen 0
       have f1 := HBt.out.frozen 1
       have f2 := HBt.out.frozen 2
       have f3 := HBt.out.frozen 3
       have f4 := HBt.out.frozen 4
       have f5 := HBt.out.frozen 5
       have f6 := HBt.out.frozen 6
       have f7 := HBt.out.frozen 7
       have f8 := HBt.out.frozen 8
       have f9 := HBt.out.frozen 9
       have f10 := HBt.out.frozen 10
       have f11 := HBt.out.frozen 11
       have f12 := HBt.out.frozen 12
       have hbtl := HBt.out.lt
       have HS13 : Hid (∀ w' : World, Below bt W13 w' → (w'.cell? ⟨bs, 0, none⟩ = some (.int .i64 sid) ∧ w'.cell? ⟨bs, 1, none⟩ = some (.int .i64 kind) ∧ w'.cell? ⟨bs, 2, none⟩ = some (.slice L zl lc) ∧ w'.cell? ⟨bs, 3, none⟩ = some (.string nm) ∧ w'.cell? ⟨bs, 4, none⟩ = some (.string proc) ∧ w'.cell? ⟨bs, 5, none⟩ = some (.int .i64 y0) ∧ w'.cell? ⟨bs, 6, none⟩ = some (.int .i64 y1) ∧ w'.cell? ⟨bs, 7, none⟩ = some (.string y2) ∧ w'.cell? ⟨bs, 8, none⟩ = some (.slice X xn xc) ∧ w'.cell? ⟨bs, 9, none⟩ = some (.bool has) ∧ w'.cell? ⟨bs, 10, none⟩ = some (.slice R args.length rc) ∧ w'.cell? ⟨bs, 11, none⟩ = some (.slice T th.length tc) ∧ w'.cell? ⟨bs, 12, none⟩ = some (.slice U el.length uc))) := Lib.hid (fun w' hb => ⟨(hb.cell (p := ⟨bs, 0, none⟩) hsl).trans s0, (hb.cell (p := ⟨bs, 1, none⟩) hsl).trans s1, (hb.cell (p := ⟨bs, 2, none⟩) hsl).trans s2, (hb.cell (p := ⟨bs, 3, none⟩) hsl).trans s3, (hb.cell (p := ⟨bs, 4, none⟩) hsl).trans s4, (hb.cell (p := ⟨bs, 5, none⟩) hsl).trans s5, (hb.cell (p := ⟨bs, 6, none⟩) hsl).trans s6, (hb.cell (p := ⟨bs, 7, none⟩) hsl).trans s7, (hb.cell (p := ⟨bs, 8, none⟩) hsl).trans s8, (hb.cell (p := ⟨bs, 9, none⟩) hsl).trans s9, (hb.cell (p := ⟨bs, 10, none⟩) hsl).trans s10, (hb.cell (p := ⟨bs, 11, none⟩) hsl).trans s11, (hb.cell (p := ⟨bs, 12, none⟩) hsl).trans s12⟩)
       have hBD : Below bt W13 W13.drew := (Below.refl _ _).drew
       have hBE : Below bt W13 (World.drew (World.setCell (World.setCell (World.setCell (World.setCell (World.setCell (World.setCell (World.setCell (World.setCell (World.setCell (World.setCell (World.setCell (World.setCell (World.setCell W13 ⟨bt, 0, none⟩ (.int .i64 sid)) ⟨bt, 1, none⟩ (.int .i64 kind)) ⟨bt, 2, none⟩ (.slice L zl lc)) ⟨bt, 3, none⟩ (.string nm)) ⟨bt, 4, none⟩ (.string proc)) ⟨bt, 5, none⟩ (.int .i64 y0)) ⟨bt, 6, none⟩ (.int .i64 y1)) ⟨bt, 7, none⟩ (.string y2)) ⟨bt, 8, none⟩ (.slice X xn xc)) ⟨bt, 9, none⟩ (.bool has)) ⟨bt, 10, none⟩ (.slice R args.length rc)) ⟨bt, 11, none⟩ (.slice T th.length tc)) ⟨bt, 12, none⟩ (.slice U el.length uc))) := (below13 (Below.refl _ _) (Nat.le_refl _)).drew
       have HBE := Lib.hid hBE
       have HBtE2 : Hid (Blk (World.drew (World.setCell (World.setCell (World.setCell (World.setCell (World.setCell (World.setCell (World.setCell (World.setCell (World.setCell (World.setCell (World.setCell (World.setCell (World.setCell W13 ⟨bt, 0, none⟩ (.int .i64 sid)) ⟨bt, 1, none⟩ (.int .i64 kind)) ⟨bt, 2, none⟩ (.slice L zl lc)) ⟨bt, 3, none⟩ (.string nm)) ⟨bt, 4, none⟩ (.string proc)) ⟨bt, 5, none⟩ (.int .i64 y0)) ⟨bt, 6, none⟩ (.int .i64 y1)) ⟨bt, 7, none⟩ (.string y2)) ⟨bt, 8, none⟩ (.slice X xn xc)) ⟨bt, 9, none⟩ (.bool has)) ⟨bt, 10, none⟩ (.slice R args.length rc)) ⟨bt, 11, none⟩ (.slice T th.length tc)) ⟨bt, 12, none⟩ (.slice U el.length uc))) bt 60 #[.int .i64 sid, .int .i64 kind, .slice L zl lc, .string nm, .string proc, .int .i64 y0, .int .i64 y1, .string y2, .slice X xn xc, .bool has, .slice R args.length rc, .slice T th.length tc, .slice U el.length uc]) := Lib.hid (blk_drew2 (blk13t HBt.out))
       go_region_held3 (fun w' => w'.cell? ⟨bs, 0, none⟩ = some (.int .i64 sid) ∧ w'.cell? ⟨bs, 1, none⟩ = some (.int .i64 kind) ∧ w'.cell? ⟨bs, 2, none⟩ = some (.slice L zl lc) ∧ w'.cell? ⟨bs, 3, none⟩ = some (.string nm) ∧ w'.cell? ⟨bs, 4, none⟩ = some (.string proc) ∧ w'.cell? ⟨bs, 5, none⟩ = some (.int .i64 y0) ∧ w'.cell? ⟨bs, 6, none⟩ = some (.int .i64 y1) ∧ w'.cell? ⟨bs, 7, none⟩ = some (.string y2) ∧ w'.cell? ⟨bs, 8, none⟩ = some (.slice X xn xc) ∧ w'.cell? ⟨bs, 9, none⟩ = some (.bool has) ∧ w'.cell? ⟨bs, 10, none⟩ = some (.slice R args.length rc) ∧ w'.cell? ⟨bs, 11, none⟩ = some (.slice T th.length tc) ∧ w'.cell? ⟨bs, 12, none⟩ = some (.slice U el.length uc))
        ((refine HS13.out _ ?_; with_reducible assumption))
        (fail)
       clear t0 f0 s0 t1 f1 s1 t2 f2 s2 t3 f3 s3 t4 f4 s4 t5 f5 s5 t6 f6 s6 t7 f7 s7 t8 f8 s8 t9 f9 s9 t10 f10 s10 t11 f11 s11 t12 f12 s12 hBD hBE HS13
       generalize World.drew _ = W14 at HBtE2 HBE ⊢
       have HBs14 := Lib.hid (HBs13.out.below HBE.out hsl)
       have HBp14 := Lib.hid (HBp13.out.below HBE.out hbl)
       have HB14W : Hid (Below W.heap.size W W14) := Lib.hid (HB13W.out.trans (HBE.out.mono hbtW))
       have HI14 := Lib.hid (HI.out.on HB14W.out)
       clear HBE HBs13 HBp13 HB13W HBt HI13
       go_upto_region 20 with fail
       have s2 : W14.cell? ⟨bs, 2, none⟩ = some (.slice L zl lc) := by rw [HBs14.out.cell]; rfl
       have hsl14 := HBs14.out.lt
       have hbl14 := HBp14.out.lt
       have htl14 := HBtE2.out.lt
       have hne : bs ≠ bt := by omega
       have HS14 : Hid (∀ w' : World, Below W14.heap.size W14 w' → (w'.cell? ⟨bs, 2, none⟩ = some (.slice L zl lc))) := Lib.hid (fun w' hb => (hb.cell (p := ⟨bs, 2, none⟩) hsl14).trans s2)
       obtain ⟨i0, hi0, hz0, hz1, hz2⟩ := info_parts string_info
       refine wp_region_held (S := fun w' : World => w'.cell? ⟨bs, 2, none⟩ = some (.slice L zl lc)) (by kernel_rfl) ?_
       have hS0 : (fun w' : World => w'.cell? ⟨bs, 2, none⟩ = some (.slice L zl lc)) W14.drew := s2
       change wpAnyH _ _ _ _ _ 9 _ _ W14.drew
       refine wpAnyH_take (i := 1) (v := ?_) rfl (by kernel_rfl) (by kernel_rfl) (by kernel_rfl) (fun _ _ _ h => h) (Or.inl ⟨by rfl, ?_⟩) (by assumption) ?_
       rotate_left
       ·intro w hSw
        (try dsimp only at hSw)
        go_simp
        (try (with_reducible rfl))
       (try simp only [Act.put, List.setIfInBounds_toArray, List.set_cons_zero, List.set_cons_succ])
       refine wpAnyH_take (i := 2) (v := ?_) rfl (by kernel_rfl) (by kernel_rfl) (by kernel_rfl) (fun _ _ _ h => h) (Or.inl ⟨by rfl, ?_⟩) (by assumption) ?_
       rotate_left
       ·intro w hSw
        (try dsimp only at hSw)
        go_simp
        (try (with_reducible rfl))
       (try simp only [Act.put, List.setIfInBounds_toArray, List.set_cons_zero, List.set_cons_succ])
       refine wpAnyH_take (i := 4) (v := ?_) rfl (by kernel_rfl) (by kernel_rfl) (by kernel_rfl) (fun _ _ _ h => h) (Or.inl ⟨by rfl, ?_⟩) (by assumption) ?_
       rotate_left
       ·intro w hSw
        (try dsimp only at hSw)
        go_simp
        (try (with_reducible rfl))
       (try simp only [Act.put, List.setIfInBounds_toArray, List.set_cons_zero, List.set_cons_succ])
       refine wpAnyH_take (i := 5) (v := ?_) rfl (by kernel_rfl) (by kernel_rfl) (by kernel_rfl) (fun _ _ _ h => h) (Or.inl ⟨by rfl, ?_⟩) (by assumption) ?_
       rotate_left
       ·intro w hSw
        (try dsimp only at hSw)
        go_simp
        (try (with_reducible rfl))
       (try simp only [Act.put, List.setIfInBounds_toArray, List.set_cons_zero, List.set_cons_succ])
       clear hS0
       refine wpAnyH_step (i := 0) (by kernel_rfl) rfl (fun K hK => ?_)
       go_simp
       have HO3 : Hid ((W14.alloc (.cells #[] 9)).drew.ownsRow W14.heap.size 9 1 (.slice (some ⟨W14.heap.size, 0, none⟩) 0 0) 0 []) := Lib.hid (World.ownsRow_made W14 #[] 0 (Nat.le_refl _) (by unfold maxLen; omega) rfl)
       have HB3 : Hid (Below W14.heap.size W14 (W14.alloc (.cells #[] 9)).drew) := Lib.hid (below_box _).drew
       refine hK.out _ _ (HS14.out _ HB3.out) ?_
       clear hK K
       (try simp only [Act.put, List.setIfInBounds_toArray, List.set_cons_zero, List.set_cons_succ])
       generalize World.drew (World.alloc _ _) = w3 at HO3 HB3 ⊢
       refine wpAnyH_step (i := 3) (by kernel_rfl) rfl (fun K hK => ?_)
       refine step_append_texts (by rfl) (.tmp 89) (.tmp 91) 22 (by rfl) W14.heap.size 9 i0 _ Try.underlying22 hi0 hz0 hz1 hz2 rfl _ 0 [] (by rfl) HO3.out w Q L labels zl lc (by rfl) HZl.out HLb.out (HI14.out.on HB3.out) (by omega) HB3.out.size ?_
       intro v4 w4 hown4 hg4
       obtain ⟨X4, k4, rfl, _, _⟩ := own_shape hown4
       have HO4 := Lib.hid hown4
       have HG4 := Lib.hid hg4
       clear hown4 hg4
       rw [Nat.zero_add, List.nil_append] at HO4
       have HB4 := Lib.hid (HB3.out.grown HG4.out HB3.out.size (fun j hj => (HO3.out.lt j hj).1))
       refine hK.out _ _ (HS14.out _ HB4.out) ?_
       clear hK K
       (try simp only [Act.put, List.setIfInBounds_toArray, List.set_cons_zero, List.set_cons_succ])
       (try rw [Nat.zero_add])
       refine wpAnyH_step (i := 6) (by kernel_rfl) rfl (fun K hK => ?_)
       refine step_append_texts (by rfl) (.tmp 92) (.tmp 94) 22 (by rfl) W14.heap.size 9 i0 _ Try.underlying22 hi0 hz0 hz1 hz2 rfl _ zl (strs labels) (by rfl) HO4.out w Q L labels zl lc (by rfl) HZl.out HLb.out (HI14.out.on HB4.out) (by omega) HB4.out.size ?_
       intro v6 w6 hown6 hg6
       obtain ⟨X9, c9, hv9, _, _⟩ := own_shape hown6
       obtain ⟨n9, hn9⟩ : ∃ n9, n9 = zl + zl := ⟨_, rfl⟩
       rw [← hn9] at hown6 hv9
       subst hv9
       have HO6 := Lib.hid hown6
       have HG6 := Lib.hid hg6
       have HN9 := Lib.hid hn9
       clear hown6 hg6 hn9
       have HB6 := Lib.hid (HB4.out.grown HG6.out HB4.out.size (fun j hj => (HO4.out.lt j hj).1))
       have HBt6 := Lib.hid (HBtE2.out.below HB6.out htl14)
       have yc2 : w6.cell? ⟨bt, 2, none⟩ = some (.slice L zl lc) := by rw [HBt6.out.cell]; rfl
       have f2 := HBt6.out.frozen 2
       have l2 := HBt6.out.lt
       refine hK.out _ _ (HS14.out _ HB6.out) ?_
       clear hK K
       (try simp only [Act.put, List.setIfInBounds_toArray, List.set_cons_zero, List.set_cons_succ])
       have hS6 : (fun w' : World => w'.cell? ⟨bs, 2, none⟩ = some (.slice L zl lc)) w6 := HS14.out _ HB6.out
       refine wpAnyH_take (i := 7) (v := ?_) rfl (by kernel_rfl) (by kernel_rfl) (by kernel_rfl) (fun _ _ _ h => h) (Or.inl ⟨by rfl, ?_⟩) (by assumption) ?_
       rotate_left
       ·intro w hSw
        (try dsimp only at hSw)
        go_simp
        (try (with_reducible rfl))
       (try simp only [Act.put, List.setIfInBounds_toArray, List.set_cons_zero, List.set_cons_succ])
       clear hS6
       refine wpAnyH_step (i := 8) (by kernel_rfl) rfl (fun K hK => ?_)
       go_simp
       refine hK.out _ _ (show (World.setCell w6 ⟨bt, 2, none⟩ (.slice X9 n9 c9)).cell? ⟨bs, 2, none⟩ = some (.slice L zl lc) from (World.cell?_setCell_other w6 ⟨bt, 2, none⟩ ⟨bs, 2, none⟩ _ (fun e => by injection e with e; omega)).trans (HS14.out _ HB6.out)) ?_
       clear hK K
       (try simp only [Act.put, List.setIfInBounds_toArray, List.set_cons_zero, List.set_cons_succ])
       refine wpAnyH_done (by kernel_rfl) ?_ 0
       have HBtX : Hid (Blk (World.setCell w6 ⟨bt, 2, none⟩ (.slice X9 n9 c9)) bt 60 #[.int .i64 sid, .int .i64 kind, .slice X9 n9 c9, .string nm, .string proc, .int .i64 y0, .int .i64 y1, .string y2, .slice X xn xc, .bool has, .slice R args.length rc, .slice T th.length tc, .slice U el.length uc]) := Lib.hid (by
        have h := HBt6.out.set_ 2 (.slice X9 n9 c9)
        simp only [List.setIfInBounds_toArray, List.set_cons_zero, List.set_cons_succ] at h
        exact h)
       have HBsX := Lib.hid ((HBs14.out.below HB6.out hsl14).far (p := ⟨bt, 2, none⟩) (by show bs ≠ bt; omega) (.slice X9 n9 c9))
       have HBpX := Lib.hid ((HBp14.out.below HB6.out hbl14).far (p := ⟨bt, 2, none⟩) (by show b ≠ bt; omega) (.slice X9 n9 c9))
       have HBXW : Hid (Below W.heap.size W (World.setCell w6 ⟨bt, 2, none⟩ (.slice X9 n9 c9))) := Lib.hid (below_setc (below_step HB14W.out HB6.out) hbtW _)
       have HT6 : Hid (TextsI (World.setCell w6 ⟨bt, 2, none⟩ (.slice X9 n9 c9)) (fun j => W14.heap.size ≤ j ∧ j < (World.setCell w6 ⟨bt, 2, none⟩ (.slice X9 n9 c9)).heap.size) (labels ++ labels) (.slice X9 n9 c9)) := Lib.hid (by
        have h := ownsRow_setCell_below HO6.out (a := ⟨bt, 2, none⟩) (by show bt < W14.heap.size; omega) (.slice X9 n9 c9)
        rw [← strs_append] at h
        refine (texts_of_own (fun s hs => ?_) h).2
        have hs2 : s ∈ labels := by rcases List.mem_append.1 hs with h | h <;> exact h
        have h1 := wT_mem hs2
        have h2 := HWs.out
        omega)
       clear yc2 f2 l2 s2 HS14 HB6 HBt6 HO6 HO4 HG6 HB4 HG4 HB3 HO3 HBs14 HBp14 HB14W HBtE2
       generalize World.setCell w6 _ _ = WX at HBtX HBsX HBpX HBXW HT6 ⊢
       have HIX := Lib.hid (HI.out.on HBXW.out)
       have HI2 : Hid (In (fun j => Q j ∨ (W14.heap.size ≤ j ∧ j < WX.heap.size)) WX WX) := Lib.hid ⟨fun j h => by rcases h with h | h; exact HIX.out.1 j h; exact h.2, fun _ _ => rfl⟩
       have HTi : Hid (StmtI WX (fun j => Q j ∨ (W14.heap.size ≤ j ∧ j < WX.heap.size)) (.mk sid kind (labels ++ labels) nm proc x has args th el) [.int .i64 sid, .int .i64 kind, .slice X9 n9 c9, .string nm, .string proc, .int .i64 y0, .int .i64 y1, .string y2, .slice X xn xc, .bool has, .slice R args.length rc, .slice T th.length tc, .slice U el.length uc]) := Lib.hid (turned_lab HSi.out HIX.out HT6.out)
       have HTr : Hid (th = [] → el = [] → jCheck (putP (.mk sid kind (labels ++ labels) nm proc x has args th el) p) = if ((zl : Int) == 0) = true then (0, 0) else (7, sid)) := Lib.hid (fun h1 h2 => by
        subst h1 h2
        have hs := may_stm HOk.out.may q HAt.out.mem _ HAt.out.stm
        obtain ⟨k1, k2⟩ := jck_turn (t := .mk sid kind (labels ++ labels) nm proc x has args [] []) HOk.out HJk.out HAt.out HLp.out ⟨rfl, rfl⟩ (fun y => by show y ∈ labels ++ labels ↔ y ∈ labels; simp) (tTw_ok (s := .mk sid kind labels nm proc x has args [] []) hs ⟨rfl, rfl⟩) ((tTw_bad _ _ _ (.mk sid kind labels nm proc x has args [] [])).trans (HOk.out.stm q HAt.out.mem _ HAt.out.stm))
        have hlb : landsB (setF (allLb q)) kind nm lp = true := ((jck_ok HJk.out).2 q HAt.out.mem).2 _ HLp.out
        by_cases hz : zl = 0
        ·have hl0 : labels = [] := List.eq_nil_of_length_eq_zero (by have := HZl.out; omega)
         rw [show ((zl : Int) == 0) = true by rw [hz]; rfl, if_pos rfl]
         exact k1 (by show labels ++ labels = labels; rw [hl0]; rfl) hlb
        ·rw [show ((zl : Int) == 0) = false from beq_eq_false_iff_ne.2 (by omega), if_neg (by simp)]
         refine k2 (.inr ⟨fun e => hz ?_, rfl⟩)
         have e2 : labels = [] := e
         rw [HZl.out, e2]; rfl)
       have hws := HWs.out
       have hokd : okC (.mk sid kind (labels ++ labels) nm proc x has args th el) := ⟨by omega, by rw [List.length_append]; have := HZl.out; omega, by omega⟩
       have HSmP : Hid (SmG (putP (.mk sid kind (labels ++ labels) nm proc x has args th el) p)) := Lib.hid (fits_put (c := 20000) HFt.out HOk.out.may (by omega) (fun q' hq' y hy he => by
        have hy2 := (HAt.out.only q' hq' y hy (he.trans HAt.out.eid)).1
        subst hy2
        simp only [hw]
        rw [wT_append]
        omega))
       clear hws HT6
       have s11 : WX.cell? ⟨bs, 11, none⟩ = some (.slice T th.length tc) := by rw [HBsX.out.cell]; rfl
       have s12 : WX.cell? ⟨bs, 12, none⟩ = some (.slice U el.length uc) := by rw [HBsX.out.cell]; rfl
       by_cases hth : th.length = 0
       ·rw [hth] at s11
        by_cases hel : el.length = 0
        ·rw [hel] at s12
         have HR := Lib.hid (HTr.out (List.eq_nil_of_length_eq_zero hth) (List.eq_nil_of_length_eq_zero hel))
         have HPu := Lib.hid (fun V h1 h2 => Put_any (W := V) HP.out HTi.out h1 h2 HSg.out hokd)
         clear hth hel
         generalize putP (.mk sid kind (labels ++ labels) nm proc x has args th el) p = pp at HR HSmP HPu
         have HCk2 : Hid (∀ (w1 W1 : World) (Q1 : Nat → Prop) (a0 a1 : Value), ProgI w1 Q1 pp [a0, a1] → In Q1 w1 W1 → Calls Try.prog 25 #[.agg #[a0, a1]] W1 fun e w' => e = .returned (.agg #[.int .i64 (if ((zl : Int) == 0) = true then ((0 : Int), (0 : Int)) else (7, sid)).1, .int .i64 (if ((zl : Int) == 0) = true then ((0 : Int), (0 : Int)) else (7, sid)).2]) ∧ Below W1.heap.size W1 w') := Lib.hid (fun w1 W1 Q1 a0 a1 h1 h2 => by
          have h3 := jCheck_any h1 HSmP.out W1 h2
          rw [HR.out] at h3
          exact h3)
         clear HR HSmP HTi HTr hokd
         generalize ((zl : Int) == 0) = d at HCk2 ⊢
         have q0 : WX.cell? ⟨b, 0, none⟩ = some (.slice Ag p.globals.length cg) := by rw [HBpX.out.cell]; rfl
         have q1 : WX.cell? ⟨b, 1, none⟩ = some (.slice Ap p.procs.length cp) := by rw [HBpX.out.cell]; rfl
         have t0 : WX.cell? ⟨bt, 0, none⟩ = some (.int .i64 sid) := by rw [HBtX.out.cell]; rfl
         have t1 : WX.cell? ⟨bt, 1, none⟩ = some (.int .i64 kind) := by rw [HBtX.out.cell]; rfl
         have t2 : WX.cell? ⟨bt, 2, none⟩ = some (.slice X9 n9 c9) := by rw [HBtX.out.cell]; rfl
         have t3 : WX.cell? ⟨bt, 3, none⟩ = some (.string nm) := by rw [HBtX.out.cell]; rfl
         have t4 : WX.cell? ⟨bt, 4, none⟩ = some (.string proc) := by rw [HBtX.out.cell]; rfl
         have t5 : WX.cell? ⟨bt, 5, none⟩ = some (.int .i64 y0) := by rw [HBtX.out.cell]; rfl
         have t6 : WX.cell? ⟨bt, 6, none⟩ = some (.int .i64 y1) := by rw [HBtX.out.cell]; rfl
         have t7 : WX.cell? ⟨bt, 7, none⟩ = some (.string y2) := by rw [HBtX.out.cell]; rfl
         have t8 : WX.cell? ⟨bt, 8, none⟩ = some (.slice X xn xc) := by rw [HBtX.out.cell]; rfl
         have t9 : WX.cell? ⟨bt, 9, none⟩ = some (.bool has) := by rw [HBtX.out.cell]; rfl
         have t10 : WX.cell? ⟨bt, 10, none⟩ = some (.slice R args.length rc) := by rw [HBtX.out.cell]; rfl
         have t11 : WX.cell? ⟨bt, 11, none⟩ = some (.slice T th.length tc) := by rw [HBtX.out.cell]; rfl
         have t12 : WX.cell? ⟨bt, 12, none⟩ = some (.slice U el.length uc) := by rw [HBtX.out.cell]; rfl
         cases d with
         | true =>
          have HCk3 := Lib.hid HCk2.out
          simp only [if_true] at HCk3
          go_wp2_with (first
           | (go_at_call 38; (with_reducible refine (HPu.out WX HIX.out HI2.out).mono ?_); rintro e' W15 ⟨d0, d1, rfl, hb15, hp15⟩; have HPp := Lib.hid hp15; clear hp15; obtain ⟨Ag', cg', Ap', cp', rfl, rfl, _⟩ := prog_open HPp.out)
           | (go_at_call 25; (with_reducible refine (HCk3.out _ W15 _ _ _ HPp.out (in_news WX W15)).mono ?_); rintro e' W16 ⟨rfl, hb16⟩))
          go_ret
          exact ⟨rfl, below_stepA (below_step HBXW.out (below_step hb15 hb16)) _⟩
         | false =>
          have HCk3 := Lib.hid HCk2.out
          simp only [Bool.false_eq_true, if_false] at HCk3
          go_wp2_with (first
           | (go_at_call 38; (with_reducible refine (HPu.out WX HIX.out HI2.out).mono ?_); rintro e' W15 ⟨d0, d1, rfl, hb15, hp15⟩; have HPp := Lib.hid hp15; clear hp15; obtain ⟨Ag', cg', Ap', cp', rfl, rfl, _⟩ := prog_open HPp.out)
           | (go_at_call 25; (with_reducible refine (HCk3.out _ W15 _ _ _ HPp.out (in_news WX W15)).mono ?_); rintro e' W16 ⟨rfl, hb16⟩))
          go_ret
          exact ⟨by first | rfl | simp, below_stepA (below_step HBXW.out (below_step hb15 hb16)) _⟩
        ·obtain ⟨z1, hz1⟩ : ∃ z1, z1 = el.length := ⟨_, rfl⟩
         rw [← hz1] at s12 hel
         have he2 : 0 < z1 := by omega
         have he0 : (0 : Int) < (z1 : Int) := by omega
         have he1 : decide ((0 : Int) < (z1 : Int)) = true := decide_eq_true he0
         clear hel hz1
         go_wp2_with fail
         go_ret
         exact ⟨rfl, HBXW.out⟩
       ·obtain ⟨z1, hz1⟩ : ∃ z1, z1 = th.length := ⟨_, rfl⟩
        rw [← hz1] at s11 hth
        have he2 : 0 < z1 := by omega
        have he0 : (0 : Int) < (z1 : Int) := by omega
        have he1 : decide ((0 : Int) < (z1 : Int)) = true := decide_eq_true he0
        clear hth hz1
        go_wp2_with fail
        go_ret
        exact ⟨rfl, HBXW.out⟩
   ·have hj1 : (jc == 0) = false := beq_eq_false_iff_ne.2 hj
    have hj2 : (jc != 0) = true := by simp [bne, hj1]
    clear hj HJo0 HJk0 hrj
    go_wp2_with (first
     | (go_at_call 19; refine (HC.out W2 HI2.out).mono ?_; rintro e' W3 ⟨rfl, hb3⟩; have HB3 : Hid (Below W.heap.size W W3) := Lib.hid (below_step HB2.out hb3); have HI3 := Lib.hid (HI2.out.on hb3); have HBp3 := Lib.hid (HBp2.out.below hb3 hbl); clear hb3 q0 q1; have q0 : W3.cell? ⟨b, 0, none⟩ = some (.slice Ag p.globals.length cg) := (by rw [HBp3.out.cell]; rfl); have q1 : W3.cell? ⟨b, 1, none⟩ = some (.slice Ap p.procs.length cp) := (by rw [HBp3.out.cell]; rfl))
     | (go_at_call 25; refine (HJ.out W3 HI3.out).mono ?_; rintro e' W4 ⟨rfl, hb4⟩; have HB4 : Hid (Below W.heap.size W W4) := Lib.hid (below_step HB3.out hb4); have HI4 := Lib.hid (HI3.out.on hb4); have HBp4 := Lib.hid (HBp3.out.below hb4 HBp3.out.lt); clear hb4))
    go_ret
    exact ⟨rfl, HB4.out⟩
  ·have hr1 : (rc == 0) = false := beq_eq_false_iff_ne.2 hr
   have hr2 : (rc != 0) = true := by simp [bne, hr1]
   clear hr HOk0
   go_wp2_with (go_at_call 19; refine (HC.out W2 HI2.out).mono ?_; rintro e' W3 ⟨rfl, hb3⟩)
   go_ret
   exact ⟨rfl, below_step HB2.out hb3⟩
end Go.Proofs.Ytehpinnmalpgpaa
