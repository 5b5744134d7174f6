/- Texts, merged by a program; only what is used. -/
import Derived.Deep.Cut
import Derived.Test.YtnnblklbjbkikaaK1
import Derived.Test.YtnnblklbjbkikaaK2
import Derived.Test.YtnnblklbjbkikaaK3
import Derived.Test.YtnnblklbjbkikaaK4
import Derived.Test.YtnnblklbjbkikaaK5
import Derived.Test.YtnnblklbjbkikaaK6
import Derived.Test.YtnnblklbjbkikaaK7
import Derived.Test.YtnnblklbjbkikaaK8
import Derived.Test.YtnnblklbjbkikaaK9
import Derived.Test.YtnnblklbjbkikaaK10
import Derived.Test.YtnnblklbjbkikaaK11
import Derived.Test.YtnnblklbjbkikaaK12
import Derived.Test.YtnnblklbjbkikaaK13
import Derived.Test.YtnnblklbjbkikaaK14
import Derived.Test.YtnnblklbjbkikaaK15
import Derived.Test.YtnnblklbjbkikaaK16
import Derived.Test.YtnnblklbjbkikaaK17
import Derived.Test.YtnnblklbjbkikaaK18
import Derived.Test.YtnnblklbjbkikaaK19
import Derived.Test.YtnnblklbjbkikaaK20
import Derived.Test.YtnnblklbjbkikaaK21
import Derived.Test.YtnnblklbjbkikaaK22
import Derived.Test.YtnnblklbjbkikaaK23
import Derived.Test.YtnnblklbjbkikaaK24
import Derived.Test.YtnnblklbjbkikaaK25
import Derived.Test.YtnnblklbjbkikaaK26
import Derived.Test.YtnnblklbjbkikaaK27
import Derived.Test.YtnnblklbjbkikaaK28
import Derived.Test.YtnnblklbjbkikaaK33
import Derived.Test.YtnnblklbjbkikaaK34
import Derived.Test.YtnnblklbjbkikaaK35
import Derived.Test.YtnnblklbjbkikaaK36
import Derived.Test.YtnnblklbjbkikaaK37
namespace Go.Proofs.Ytnnblklbjbkikaa
open Go.ChangeShapes Go.WideShapes Go.ChangeAt Go.RowKit Go.Deep
set_option linter.unusedVariables false
set_option linter.unusedSimpArgs false
/-- a name that a statement says turned -/
def turnS (s' : ByteArray) : S → S
 | .mk id kind labels nm proc x has args th el => if kind = 4 then .mk id kind labels nm s' x has args th el else .mk id kind labels s' proc x has args th el
theorem turnS_eq (s' : ByteArray) (id kind : Int) (labels : List ByteArray) (nm proc : ByteArray) (x : E) (has : Bool) (args : List Ar) (th el : List S) : turnS s' (.mk id kind labels nm proc x has args th el) = if kind = 4 then .mk id kind labels nm s' x has args th el else .mk id kind labels s' proc x has args th el := rfl
theorem knd_not {gl : List ByteArray} {q : Pr} {s : ByteArray} (hg : gl.any (isT s) = false) (h : notQ q s) : knd gl q s = 0 := by
 obtain ⟨_, h2, h3⟩ := h
 unfold knd
 have h4 : q.params.find? (isPa s) = none := by
  rw [List.find?_eq_none]
  intro x hx
  have h5 := List.any_eq_false.1 h2 x.nm (List.mem_map_of_mem hx)
  unfold isT at h5
  unfold isPa
  simp only [decide_eq_true_eq] at h5 ⊢
  exact fun e => h5 e.symm
 rw [h4, Option.elim_none, h3, hg]
 rfl
theorem stmtOk_turn {s' : ByteArray} {s : S} (h : stmtOk s = true) (hs : isNm (bl s') = true) (hk : s.kind = 1 ∨ s.kind = 2 ∨ s.kind = 4) : stmtOk (turnS s' s) = true := by
 obtain ⟨id, kind, labels, nm, proc, x, has, args, th, el⟩ := s
 have he : s'.toList.isEmpty = false := by rw [toList_emp]; exact decide_eq_false (by have := (nm_short hs).1; omega)
 have hk' : kind = 1 ∨ kind = 2 ∨ kind = 4 := hk
 rw [turnS_eq]
 rcases hk' with rfl | rfl | rfl
 ·rw [if_neg (by decide)]
  rw [stmtOk_eq] at h ⊢
  simp [shp, nmOk, hs] at h ⊢
  simp only [h, and_self, true_and, and_true]
  try trivial
 ·rw [if_neg (by decide)]
  rw [stmtOk_eq] at h ⊢
  simp [shp, nmOk, hs] at h ⊢
  simp only [h, and_self, true_and, and_true]
  try trivial
 ·rw [if_pos rfl]
  rw [stmtOk_eq] at h ⊢
  simp [shp, nmOk, hs] at h ⊢
  simp only [h, and_self, true_and, and_true]
  try trivial
  exact h.1.1.1.1.2
theorem turnS_id (s' : ByteArray) (s : S) : (turnS s' s).id = s.id := by
 obtain ⟨id, kind, labels, nm, proc, x, has, args, th, el⟩ := s
 rw [turnS_eq]; split <;> rfl
theorem turnS_hd (s' : ByteArray) (s : S) : hdT (turnS s' s) s.th s.el = turnS s' s := by
 obtain ⟨id, kind, labels, nm, proc, x, has, args, th, el⟩ := s
 rw [turnS_eq]; split <;> rfl
theorem turn_bad {gl ps : List ByteArray} {q : Pr} {s' : ByteArray} {s : S} (hg : gl.any (isT s') = false) (hq : notQ q s') (hps : ps.any (isT s') = false) (hs : isNm (bl s') = true) (hk : s.kind = 1 ∨ s.kind = 2 ∨ s.kind = 4) : badS gl q ps (turnS s' s) = true := by
 obtain ⟨id, kind, labels, nm, proc, x, has, args, th, el⟩ := s
 have he : s'.toList.isEmpty = false := by rw [toList_emp]; exact decide_eq_false (by have := (nm_short hs).1; omega)
 have hkn := knd_not hg hq
 have hk' : kind = 1 ∨ kind = 2 ∨ kind = 4 := hk
 unfold badS
 rw [Bool.not_eq_true']
 rw [turnS_eq]
 by_cases h4 : kind = 4
 ·rw [if_pos h4]
  unfold rightS
  simp only [S.kind, S.proc, hps, h4]
  simp
 ·rw [if_neg h4]
  unfold rightS
  rw [Bool.and_eq_false_iff]
  left
  rw [List.all_eq_false]
  refine ⟨s', ?_, by simp [hkn]⟩
  unfold varsS ownV
  simp only [S.kind, S.nm, he, List.mem_append]
  left; right
  rw [if_pos (by rcases hk' with rfl | rfl | rfl <;> first | decide | exact absurd rfl h4)]
  exact List.mem_singleton.2 rfl
/-- the fault that is told then -/
theorem new_chk {p : Pg} {s' : ByteArray} {id : Int} {q : Pr} {s : S} (h : ChOk p) (hs : isNm (bl s') = true) (hn : notIn p s') (ha : AtId p id q s) (hk : s.kind = 1 ∨ s.kind = 2 ∨ s.kind = 4) : chkP (putP (turnS s' s) p) = (5, s.id) := by
 have hps : (p.procs.map Pr.nm).any (isT s') = false := by
  rw [List.any_map, List.any_eq_false]
  intro x hx
  have h1 := (hn.2 x hx).1
  rw [dec_bytes] at h1
  simp only [decide_eq_false_iff_not] at h1
  show ¬ decide (s' = x.nm) = true
  rw [decide_eq_true_eq]
  exact fun e => h1 e.symm
 have h1 := chkP_put (p := p) (t := turnS s' s) (b := true) h (fun q' hq' y hy he => by
   have hy2 := (ha.only q' hq' y hy (he.trans ((turnS_id s' s).trans ha.eid))).1
   subst hy2
   rw [turnS_hd]
   exact stmtOk_turn (may_stm h.may q' hq' _ hy) hs hk) (by rw [turnS_id]; have := may_ids h.may q ha.mem s ha.stm; omega) (fun q' hq' y hy he => turn_bad hn.1 (hn.2 q' hq') hps hs hk)
 rw [h1, if_pos ⟨rfl, q, ha.mem, s, ha.stm, (turnS_id s' s).symm⟩, turnS_id]
theorem st_proc {w : World} {Q : Nat → Prop} {id kind : Int} {labels : List ByteArray} {nm proc s' : ByteArray} {x : E} {has : Bool} {args : List Ar} {th el : List S} {c0 c1 vl c3 c4 x0 x1 x2 x3 c9 va vt ve : Value} (h : StmtI w Q (.mk id kind labels nm proc x has args th el) [c0, c1, vl, c3, c4, x0, x1, x2, x3, c9, va, vt, ve]) (hs : s'.size ≤ 9223372036854775807) : StmtI w Q (.mk id kind labels nm s' x has args th el) [c0, c1, vl, c3, .string s', x0, x1, x2, x3, c9, va, vt, ve] := by
 cases h with
 | mk hid hkind hnm hproc hl hx ha hc1 hc2 hA1 hA2 hk1 hk2 => exact .mk hid hkind hnm hs hl hx ha hc1 hc2 hA1 hA2 hk1 hk2
theorem st_nm {w : World} {Q : Nat → Prop} {id kind : Int} {labels : List ByteArray} {nm proc s' : ByteArray} {x : E} {has : Bool} {args : List Ar} {th el : List S} {c0 c1 vl c3 c4 x0 x1 x2 x3 c9 va vt ve : Value} (h : StmtI w Q (.mk id kind labels nm proc x has args th el) [c0, c1, vl, c3, c4, x0, x1, x2, x3, c9, va, vt, ve]) (hs : s'.size ≤ 9223372036854775807) : StmtI w Q (.mk id kind labels s' proc x has args th el) [c0, c1, vl, .string s', c4, x0, x1, x2, x3, c9, va, vt, ve] := by
 cases h with
 | mk hid hkind hnm hproc hl hx ha hc1 hc2 hA1 hA2 hk1 hk2 => exact .mk hid hkind hs hproc hl hx ha hc1 hc2 hA1 hA2 hk1 hk2
set_option maxHeartbeats 8000000 in
set_option maxRecDepth 100000 in
theorem scopeNew_walk {w : World} {Q : Nat → Prop} {p : Pg} {c0 c1 : Value} (h : ProgI w Q p [c0, c1]) (n : Int) (wn : (Lit.int .i64 n).wf = true) (name : ByteArray) (wname : name.size ≤ maxLen) (W : World) (hI : In Q w W) :
 Calls Try.prog 5 #[.agg #[c0, c1], .int .i64 n, .string name] W fun e w' => e = .returned (.bool true) ∧ Below W.heap.size W w' := by
 have HP := Lib.hid h
 have HF := Lib.hid (fun V h1 => Fits_any h V h1)
 have HI := Lib.hid hI
 obtain ⟨Ag, cg, Ap, cp, rfl, rfl, _⟩ := prog_open h
 clear h hI
 go_enter Try.func5, Try.ntmps5
 go_upto_region 1 with fail
 have HB0 : Hid (Below W.heap.size W (W.alloc (.cells #[.slice Ag p.globals.length cg, .slice Ap p.procs.length cp] 25))) := Lib.hid (below_box _)
 have HBp0 : Hid (Blk (W.alloc (.cells #[.slice Ag p.globals.length cg, .slice Ap p.procs.length cp] 25)) W.heap.size 25 #[.slice Ag p.globals.length cg, .slice Ap p.procs.length cp]) := Lib.hid (Blk.new _ _ _)
 generalize World.alloc _ _ = W0 at HB0 HBp0 ⊢
 have HI0 := Lib.hid (HI.out.on HB0.out)
 generalize hbe : W.heap.size = b at HBp0 ⊢
 clear hbe
 go_upto_region 3 with (go_at_call 25; refine (known_any W0).mono ?_; rintro e' W1 ⟨rfl, hb1⟩)
 have HB1 : Hid (Below W.heap.size W W1) := Lib.hid (below_step HB0.out hb1)
 have HI1 := Lib.hid (HI0.out.on hb1)
 have HBp1 := Lib.hid (HBp0.out.below hb1 HBp0.out.lt)
 clear hb1 HB0 HBp0 HI0
 have q0 : W1.cell? ⟨b, 0, none⟩ = some (.slice Ag p.globals.length cg) := by rw [HBp1.out.cell]; rfl
 have q1 : W1.cell? ⟨b, 1, none⟩ = some (.slice Ap p.procs.length cp) := by rw [HBp1.out.cell]; rfl
 have hbl := HBp1.out.lt
 cases hf : fitsP p with
 | false =>
  rw [hf] at HF
  clear hf
  go_wp2_with (go_at_call 13; refine (HF.out _ HI1.out).mono ?_; rintro e' W2 ⟨rfl, hb2⟩)
  go_ret
  exact ⟨rfl, below_step HB1.out hb2⟩
 | true =>
  have HSg := Lib.hid (fits_smG hf)
  have HC := Lib.hid (fun V hV => Check_any HP.out (fits_smG hf) V hV)
  have HIs := Lib.hid (fun kd (hk : i64 kd) V hV => Ids_any HP.out kd hk V hV)
  have HSt := Lib.hid (fun id V hV => rStmt_any HP.out id V hV)
  have HFt := Lib.hid hf
  have HUs := Lib.hid (fun (hm : mayP p = true) V hV => Used_any HP.out (fits_smG hf) hm name V hV)
  have HNm := Lib.hid (fun V => Name_any name V wname)
  have HNs : Hid (name.size ≤ 9223372036854775807) := Lib.hid wname
  clear wname
  rw [hf] at HF
  clear hf
  go_upto_region 5 with (go_at_call 13; refine (HF.out _ HI1.out).mono ?_; rintro e' W2 ⟨rfl, hb2⟩)
  have HB2 : Hid (Below W.heap.size W W2) := Lib.hid (below_step HB1.out hb2)
  have HI2 := Lib.hid (HI1.out.on hb2)
  have HBp2 := Lib.hid (HBp1.out.below hb2 hbl)
  clear hb2 HB1 HI1 HBp1 q0 q1 hbl HF
  have q0 : W2.cell? ⟨b, 0, none⟩ = some (.slice Ag p.globals.length cg) := by rw [HBp2.out.cell]; rfl
  have q1 : W2.cell? ⟨b, 1, none⟩ = some (.slice Ap p.procs.length cp) := by rw [HBp2.out.cell]; rfl
  have hbl := HBp2.out.lt
  have hff : ∀ (a c : Int) (w : World), (Instr.field 45 (.agg #[.int .i64 a, .int .i64 c]) 0).run Try.prog w = .ok (.int .i64 a) w := fun _ _ _ => by kernel_rfl
  have hok : (chkP p).1 = 0 → ChOk p := chk_ok
  have HOk0 := Lib.hid hok
  clear hok
  generalize chkP p = r at HC HOk0
  obtain ⟨rc, ri⟩ := r
  simp only at HOk0
  go_cut [28] from 15 to 27 (fun s wx => ∃ bb : Bool, s = .bool bb ∧ Hid (bb = false → ChOk p ∧ isNm (bl name) = true ∧ notIn p name) ∧ Hid (Below W2.heap.size W2 wx))
  case first =>
   by_cases hr : rc = 0
   ·subst hr
    have HOk := Lib.hid (HOk0.out rfl)
    clear HOk0
    cases hnm : isNm (bl name) with
    | false =>
     rw [hnm] at HNm
     go_wp2_with (first
      | (go_at_call 26; refine (HC.out W2 HI2.out).mono ?_; rintro e' W3 ⟨rfl, hb3⟩; have HI3 := Lib.hid (HI2.out.on hb3); have q0_ : W3.cell? ⟨b, 0, none⟩ = some (.slice Ag p.globals.length cg) := (hb3.cell (p := ⟨b, 0, none⟩) hbl).trans q0; have q1_ : W3.cell? ⟨b, 1, none⟩ = some (.slice Ap p.procs.length cp) := (hb3.cell (p := ⟨b, 1, none⟩) hbl).trans q1; have hbl_ := Nat.lt_of_lt_of_le hbl hb3.size)
      | (go_at_call 27; (with_reducible refine (HNm.out W3).mono ?_); rintro e' w' ⟨rfl, rfl⟩))
     go_meet
     exact ⟨true, rfl, Lib.hid (by simp), Lib.hid hb3⟩
    | true =>
     rw [hnm] at HNm
     go_wp2_with (first
      | (go_at_call 26; refine (HC.out W2 HI2.out).mono ?_; rintro e' W3 ⟨rfl, hb3⟩; have HI3 := Lib.hid (HI2.out.on hb3); have q0_ : W3.cell? ⟨b, 0, none⟩ = some (.slice Ag p.globals.length cg) := (hb3.cell (p := ⟨b, 0, none⟩) hbl).trans q0; have q1_ : W3.cell? ⟨b, 1, none⟩ = some (.slice Ap p.procs.length cp) := (hb3.cell (p := ⟨b, 1, none⟩) hbl).trans q1; have hbl_ := Nat.lt_of_lt_of_le hbl hb3.size)
      | (go_at_call 27; (with_reducible refine (HNm.out W3).mono ?_); rintro e' w' ⟨rfl, rfl⟩)
      | (go_at_call 28; refine (HUs.out HOk.out.may W3 HI3.out).mono ?_; rintro e' W4 ⟨ub, rfl, hb4, hno⟩))
     go_meet
     exact ⟨ub, rfl, Lib.hid (fun h => ⟨HOk.out, hnm, hno h⟩), Lib.hid (below_step hb3 hb4)⟩
   ·have hr1 : (rc == 0) = false := beq_eq_false_iff_ne.2 hr
    have hr2 : (rc != 0) = true := by simp [bne, hr1]
    clear hr HOk0
    go_wp2_with (go_at_call 26; refine (HC.out W2 HI2.out).mono ?_; rintro e' W3 ⟨rfl, hb3⟩; have HI3 := Lib.hid (HI2.out.on hb3); have q0_ : W3.cell? ⟨b, 0, none⟩ = some (.slice Ag p.globals.length cg) := (hb3.cell (p := ⟨b, 0, none⟩) hbl).trans q0; have q1_ : W3.cell? ⟨b, 1, none⟩ = some (.slice Ap p.procs.length cp) := (hb3.cell (p := ⟨b, 1, none⟩) hbl).trans q1; have hbl_ := Nat.lt_of_lt_of_le hbl hb3.size)
    go_meet
    exact ⟨true, rfl, Lib.hid (by simp), Lib.hid hb3⟩
  case rest =>
   obtain ⟨bb, rfl, HBb, HBc⟩ := hcut
   have HB4 := Lib.hid (below_step HB2.out HBc.out)
   have HI4 := Lib.hid (HI2.out.on HBc.out)
   have HBp4 := Lib.hid (HBp2.out.below HBc.out hbl)
   clear q0 q1 hbl HB2 HI2 HBp2 HC HOk0 hff HUs HNm HBc
   generalize wc = W4 at *
   cases bb with
   | true =>
    go_wp2_with fail
    go_ret
    exact ⟨rfl, HB4.out⟩
   | false =>
    obtain ⟨hok, hnm2, hno⟩ := HBb.out rfl
    have HOk := Lib.hid hok
    have HNm2 := Lib.hid hnm2
    have HNo := Lib.hid hno
    clear HBb hok hnm2 hno
    have hbl := HBp4.out.lt
    have q0 : W4.cell? ⟨b, 0, none⟩ = some (.slice Ag p.globals.length cg) := by rw [HBp4.out.cell]; rfl
    have q1 : W4.cell? ⟨b, 1, none⟩ = some (.slice Ap p.procs.length cp) := by rw [HBp4.out.cell]; rfl
    obtain ⟨i0, hi0, hz0, hz1, hz2⟩ := info_parts int_info
    have hall : (allOf p).length ≤ 200 := by
     have h1 := all_map HOk.out.may
     have h2 := (may_flat HOk.out.may).2.1
     have h3 : ((allOf p).map It.s).length = cntP p := by
      rw [h1]
      unfold cntP
      induction p.procs with
      | nil => rfl
      | cons q l ih => rw [List.flatMap_cons, List.length_append, cntL, ih]
     rw [List.length_map] at h3
     omega
    have hlen : ∀ kd, (idsOf kd (allOf p)).length ≤ 200 := fun kd => by
     have h := idsOf_len (kind := kd) (l := allOf p) (k := (allOf p).length)
     rw [List.take_length] at h
     omega
    have hn1 := hlen 1
    have hn2 := hlen 2
    have hn4 := hlen 4
    have HIm : Hid (∀ i, i ∈ idsOf 1 (allOf p) ++ idsOf 2 (allOf p) ++ idsOf 4 (allOf p) → (1 ≤ i ∧ i ≤ 200) ∧ ∃ q s, AtId p i q s ∧ (s.kind = 1 ∨ s.kind = 2 ∨ s.kind = 4)) := Lib.hid (fun i hi => by
     simp only [List.mem_append] at hi
     rcases hi with (hi | hi) | hi
     ·obtain ⟨q, s, h1, h2, h3⟩ := ids_at HOk.out.may hi
      exact ⟨h3, q, s, h1, by rcases h2 with h2 | h2; cases h2; exact .inl h2⟩
     ·obtain ⟨q, s, h1, h2, h3⟩ := ids_at HOk.out.may hi
      exact ⟨h3, q, s, h1, by rcases h2 with h2 | h2; cases h2; exact .inr (.inl h2)⟩
     ·obtain ⟨q, s, h1, h2, h3⟩ := ids_at HOk.out.may hi
      exact ⟨h3, q, s, h1, by rcases h2 with h2 | h2; cases h2; exact .inr (.inr h2)⟩)
    have HIs1 := Lib.hid (fun V hV => HIs.out 1 (by simp [i64]) V hV)
    clear hall hlen HIs1
    have HIds : Hid (∀ kd, i64 kd → ∀ V, In Q w V → Calls Try.prog 29 #[.agg #[.slice Ag p.globals.length cg, .slice Ap p.procs.length cp], .int .i64 kd] V (NewInts (idsOf kd (allOf p)) V)) := Lib.hid (fun kd hk V hV => HIs.out kd hk V hV)
    clear HIs
    obtain ⟨l1, hl1⟩ : ∃ l, l = idsOf 1 (allOf p) := ⟨_, rfl⟩
    obtain ⟨l2, hl2⟩ : ∃ l, l = idsOf 2 (allOf p) := ⟨_, rfl⟩
    obtain ⟨l4, hl4⟩ : ∃ l, l = idsOf 4 (allOf p) := ⟨_, rfl⟩
    have HI1 := Lib.hid (fun V hV => HIds.out 1 (by simp [i64]) V hV)
    have HI2 := Lib.hid (fun V hV => HIds.out 2 (by simp [i64]) V hV)
    have HI3 := Lib.hid (fun V hV => HIds.out 4 (by simp [i64]) V hV)
    rw [← hl1] at HI1 hn1 HIm
    rw [← hl2] at HI2 hn2 HIm
    rw [← hl4] at HI3 hn4 HIm
    clear hl1 hl2 hl4 HIds
    go_upto_region 7 with fail
    have HS : Hid (∀ w' : World, Below W4.heap.size W4 w' → (w'.cell? ⟨b, 0, none⟩ = some (.slice Ag p.globals.length cg) ∧ w'.cell? ⟨b, 1, none⟩ = some (.slice Ap p.procs.length cp))) := Lib.hid (fun w' hb => ⟨(hb.cell (p := ⟨b, 0, none⟩) hbl).trans q0, (hb.cell (p := ⟨b, 1, none⟩) hbl).trans q1⟩)
    have HBD : Hid (Below W4.heap.size W4 W4.drew) := Lib.hid (Below.refl _ _).drew
    have HID : Hid (In Q w W4.drew) := Lib.hid HI4.out
    clear q0 q1
    refine wp_region_held (S := fun w' : World => w'.cell? ⟨b, 0, none⟩ = some (.slice Ag p.globals.length cg) ∧ w'.cell? ⟨b, 1, none⟩ = some (.slice Ap p.procs.length cp)) (by kernel_rfl) ?_
    have hS0 : (fun w' : World => w'.cell? ⟨b, 0, none⟩ = some (.slice Ag p.globals.length cg) ∧ w'.cell? ⟨b, 1, none⟩ = some (.slice Ap p.procs.length cp)) W4.drew := HS.out _ HBD.out
    change wpAnyH _ _ _ _ _ 9 _ _ W4.drew
    refine wpAnyH_take (i := 0) (v := ?_) rfl (by kernel_rfl) (by kernel_rfl) (by kernel_rfl) (fun _ _ _ h => h) (Or.inl ⟨by rfl, ?_⟩) (by assumption) ?_
    rotate_left
    ·intro w hSw
     (try dsimp only at hSw)
     go_split_ands
     go_simp
     (try (with_reducible rfl))
    (try simp only [Act.put, List.setIfInBounds_toArray, List.set_cons_zero, List.set_cons_succ])
    refine wpAnyH_take (i := 2) (v := ?_) rfl (by kernel_rfl) (by kernel_rfl) (by kernel_rfl) (fun _ _ _ h => h) (Or.inl ⟨by rfl, ?_⟩) (by assumption) ?_
    rotate_left
    ·intro w hSw
     (try dsimp only at hSw)
     go_split_ands
     go_simp
     (try (with_reducible rfl))
    (try simp only [Act.put, List.setIfInBounds_toArray, List.set_cons_zero, List.set_cons_succ])
    refine wpAnyH_take (i := 5) (v := ?_) rfl (by kernel_rfl) (by kernel_rfl) (by kernel_rfl) (fun _ _ _ h => h) (Or.inl ⟨by rfl, ?_⟩) (by assumption) ?_
    rotate_left
    ·intro w hSw
     (try dsimp only at hSw)
     go_split_ands
     go_simp
     (try (with_reducible rfl))
    (try simp only [Act.put, List.setIfInBounds_toArray, List.set_cons_zero, List.set_cons_succ])
    clear hS0
    refine wpAnyH_step (i := 1) (by kernel_rfl) rfl (fun K hK => ?_)
    go_simp
    refine (HI1.out W4.drew HID.out).mono ?_
    rintro e' w5 ⟨v5, rfl, ho5, hb5⟩
    obtain ⟨X5, k5, rfl, _, _⟩ := own_shape ho5
    have HO5 := Lib.hid ho5
    have HB5 := Lib.hid (HBD.out.trans hb5)
    clear ho5 hb5
    refine hK.out _ _ (HS.out _ HB5.out) ?_
    clear hK K
    (try simp only [Act.put, List.setIfInBounds_toArray, List.set_cons_zero, List.set_cons_succ])
    refine wpAnyH_step (i := 3) (by kernel_rfl) rfl (fun K hK => ?_)
    go_simp
    refine (HI2.out w5 (HI4.out.on HB5.out)).mono ?_
    rintro e' w6 ⟨v6, rfl, ho6, hb6⟩
    obtain ⟨X6, k6, rfl, _, _⟩ := own_shape ho6
    have HO6 := Lib.hid ho6
    have HO5b := Lib.hid ((Below.moves hb6).row HO5.out (fun j hj e => Nat.not_lt.2 e (HO5.out.lt j hj).2))
    have HB6 := Lib.hid (below_step HB5.out hb6)
    clear ho6 hb6
    refine hK.out _ _ (HS.out _ HB6.out) ?_
    clear hK K
    (try simp only [Act.put, List.setIfInBounds_toArray, List.set_cons_zero, List.set_cons_succ])
    refine wpAnyH_step (i := 4) (by kernel_rfl) rfl (fun K hK => ?_)
    refine step_append_gen (by rfl) (.tmp 30) (.tmp 32) 49 (by rfl) W4.drew.heap.size 3 i0 _ 1 8 Try.underlying49 hi0 hz0 hz1 hz2 rfl (by decide) _ l1.length (intsV l1) (by rfl) HO5b.out X6 l2.length k6 (intsV l2) (by rfl) (by simp [intsV]) (fun ad e => by subst e; exact own_cells HO6.out) (own_none HO6.out) (by simp [intsV, Value.oneCell']) (by unfold maxLen; omega) (by omega) HB6.out.size ?_
    intro v7 w7 hown7 hg7 _
    obtain ⟨X7, k7, rfl, _, _⟩ := own_shape hown7
    have HO7 := Lib.hid hown7
    have HB7 := Lib.hid (HB6.out.grown hg7 HB6.out.size (fun j hj => (HO5b.out.lt j hj).1))
    clear hown7 hg7
    refine hK.out _ _ (HS.out _ HB7.out) ?_
    clear hK K
    (try simp only [Act.put, List.setIfInBounds_toArray, List.set_cons_zero, List.set_cons_succ])
    refine wpAnyH_step (i := 6) (by kernel_rfl) rfl (fun K hK => ?_)
    go_simp
    refine (HI3.out w7 (HI4.out.on HB7.out)).mono ?_
    rintro e' w8 ⟨v8, rfl, ho8, hb8⟩
    obtain ⟨X8, k8, rfl, _, _⟩ := own_shape ho8
    have HO8 := Lib.hid ho8
    have HO7b := Lib.hid ((Below.moves hb8).row HO7.out (fun j hj e => Nat.not_lt.2 e (HO7.out.lt j hj).2))
    have HB8 := Lib.hid (below_step HB7.out hb8)
    clear ho8 hb8
    refine hK.out _ _ (HS.out _ HB8.out) ?_
    clear hK K
    (try simp only [Act.put, List.setIfInBounds_toArray, List.set_cons_zero, List.set_cons_succ])
    refine wpAnyH_step (i := 7) (by kernel_rfl) rfl (fun K hK => ?_)
    refine step_append_gen (by rfl) (.tmp 33) (.tmp 35) 49 (by rfl) W4.drew.heap.size 3 i0 _ 1 8 Try.underlying49 hi0 hz0 hz1 hz2 rfl (by decide) _ (l1.length + l2.length) (intsV l1 ++ intsV l2) (by rfl) HO7b.out X8 l4.length k8 (intsV l4) (by rfl) (by simp [intsV]) (fun ad e => by subst e; exact own_cells HO8.out) (own_none HO8.out) (by simp [intsV, Value.oneCell']) (by unfold maxLen; omega) (by omega) HB8.out.size ?_
    intro v9 w9 hown9 hg9 _
    obtain ⟨X9, k9, rfl, _, _⟩ := own_shape hown9
    have HB9 := Lib.hid (HB8.out.grown hg9 HB8.out.size (fun j hj => (HO7b.out.lt j hj).1))
    have HO9 : Hid (w9.ownsRow W4.drew.heap.size 3 1 (.slice X9 (l1 ++ l2 ++ l4).length k9) (l1 ++ l2 ++ l4).length (intsV (l1 ++ l2 ++ l4))) := Lib.hid (by
     have h1 : (l1 ++ l2 ++ l4).length = l1.length + l2.length + l4.length := by simp only [List.length_append]
     have h2 : intsV (l1 ++ l2 ++ l4) = intsV l1 ++ intsV l2 ++ intsV l4 := by simp only [intsV, List.map_append]
     rw [h1, h2]; exact hown9)
    clear hown9 hg9
    refine hK.out _ _ (HS.out _ HB9.out) ?_
    clear hK K
    (try simp only [Act.put, List.setIfInBounds_toArray, List.set_cons_zero, List.set_cons_succ])
    refine wpAnyH_step (i := 8) (by kernel_rfl) rfl (fun K hK => ?_)
    go_simp
    refine hK.out _ _ (HS.out _ HB9.out) ?_
    clear hK K
    (try simp only [Act.put, List.setIfInBounds_toArray, List.set_cons_zero, List.set_cons_succ])
    refine wpAnyH_done (by kernel_rfl) ?_ 0
    obtain ⟨ll, hll⟩ : ∃ ll, ll = l1 ++ l2 ++ l4 := ⟨_, rfl⟩
    have hln : l1.length + l2.length + l4.length = ll.length := by rw [hll]; simp only [List.length_append]
    rw [← hll] at HO9 HIm
    rw [hln]
    have HPk := Lib.hid (Pick_any HO9.out (by omega) (fun i hi => by have := (HIm.out i hi).1; unfold i64; omega) n (Below.refl _ _))
    have HB9W0 := Lib.hid (below_step HB4.out HB9.out)
    have HI9 := Lib.hid (HI4.out.on HB9.out)
    have HBp9 := Lib.hid (HBp4.out.below HB9.out hbl)
    clear hll hln HO5 HO5b HO6 HO7 HO7b HO8 HB5 HB6 HB7 HB8 HI1 HI2 HI3 HS HBD HID hbl HB4 HI4 HBp4 hn1 hn2 hn4 HO9 HB9
    generalize w9 = w9 at *
    go_upto_region 9 with (go_at_call 30; refine HPk.out.mono ?_; rintro e' W10 ⟨id, hidm, rfl, rfl⟩)
    by_cases h0 : id = 0
    ·subst h0
     go_wp2_with fail
     go_ret
     exact ⟨rfl, HB9W0.out⟩
    ·have h1 : (id == 0) = false := beq_eq_false_iff_ne.2 h0
     obtain ⟨⟨hi1, hi2⟩, q, s, hat, hki⟩ := HIm.out id (by rcases hidm with ⟨_, h⟩ | h; exact absurd h h0; exact h)
     have HS0 := Lib.hid (fun V hV => HSt.out id V hV)
     rw [hat.st] at HS0
     have HAt := Lib.hid hat
     have HKi := Lib.hid hki
     clear HPk HIm hidm hat hki HSt h0
     have hbl := HBp9.out.lt
     have q0 : w9.cell? ⟨b, 0, none⟩ = some (.slice Ag p.globals.length cg) := by rw [HBp9.out.cell]; rfl
     have q1 : w9.cell? ⟨b, 1, none⟩ = some (.slice Ap p.procs.length cp) := by rw [HBp9.out.cell]; rfl
     go_upto_region 12 with (go_at_call 31; refine (HS0.out w9 HI9.out).mono ?_; rintro e' W11 ⟨cs, rfl, hst, hb11⟩; obtain ⟨sid, kind, labels, nm, proc, x, has, args, th, el, L, lc, y0, y1, y2, X, xn, xc, R, rc, T, tc, U, uc, rfl, rfl, _, hkb, _⟩ := stmt_open hst; have HSi := Lib.hid hst; clear hst)
     have HB8W : Hid (Below W.heap.size W (W11.alloc (.cells #[.int .i64 sid, .int .i64 kind, .slice L labels.length lc, .string nm, .string proc, .int .i64 y0, .int .i64 y1, .string y2, .slice X xn xc, .bool has, .slice R args.length rc, .slice T th.length tc, .slice U el.length uc] 55))) := Lib.hid (below_stepA (below_step HB9W0.out hb11) _)
     have HBs8 : Hid (Blk (W11.alloc (.cells #[.int .i64 sid, .int .i64 kind, .slice L labels.length lc, .string nm, .string proc, .int .i64 y0, .int .i64 y1, .string y2, .slice X xn xc, .bool has, .slice R args.length rc, .slice T th.length tc, .slice U el.length uc] 55)) W11.heap.size 55 #[.int .i64 sid, .int .i64 kind, .slice L labels.length lc, .string nm, .string proc, .int .i64 y0, .int .i64 y1, .string y2, .slice X xn xc, .bool has, .slice R args.length rc, .slice T th.length tc, .slice U el.length uc]) := Lib.hid (Blk.new _ _ _)
     have HBp8 : Hid (Blk (W11.alloc (.cells #[.int .i64 sid, .int .i64 kind, .slice L labels.length lc, .string nm, .string proc, .int .i64 y0, .int .i64 y1, .string y2, .slice X xn xc, .bool has, .slice R args.length rc, .slice T th.length tc, .slice U el.length uc] 55)) b 25 #[.slice Ag p.globals.length cg, .slice Ap p.procs.length cp]) := Lib.hid ((HBp9.out.below hb11 hbl).alloc _)
     have hbsW : W.heap.size ≤ W11.heap.size := (below_step HB9W0.out hb11).size
     have hbs8 : b < W11.heap.size := Nat.lt_of_lt_of_le hbl hb11.size
     clear hb11 q0 q1 hbl HB9W0 HI9 HBp9 HS0
     generalize World.alloc W11 _ = W12 at HB8W HBs8 HBp8 ⊢
     generalize W11.heap.size = bs at HBs8 hbsW hbs8 ⊢
     have heid : sid = id := HAt.out.eid
     subst heid
     unfold i64 at hkb
     have hsl := HBs8.out.lt
     have s1 : W12.cell? ⟨bs, 1, none⟩ = some (.int .i64 kind) := by rw [HBs8.out.cell]; rfl
     have s3 : W12.cell? ⟨bs, 3, none⟩ = some (.string nm) := by rw [HBs8.out.cell]; rfl
     have s4 : W12.cell? ⟨bs, 4, none⟩ = some (.string proc) := by rw [HBs8.out.cell]; rfl
     have f3 := HBs8.out.frozen 3
     have f4 := HBs8.out.frozen 4
     by_cases hk4 : kind = 4
     ·subst hk4
      clear hkb
      clear hsl
      have hsl := HBs8.out.lt
      go_upto_region 15 with fail
      have HBs9 : Hid (Blk (W12.setCell ⟨bs, 4, none⟩ (.string name)) bs 55 #[.int .i64 sid, .int .i64 4, .slice L labels.length lc, .string nm, .string name, .int .i64 y0, .int .i64 y1, .string y2, .slice X xn xc, .bool has, .slice R args.length rc, .slice T th.length tc, .slice U el.length uc]) := Lib.hid (by
       have h := HBs8.out.set_ 4 (.string name)
       simp only [List.setIfInBounds_toArray, List.set_cons_zero, List.set_cons_succ] at h
       exact h)
      have HB9W : Hid (Below W.heap.size W (W12.setCell ⟨bs, 4, none⟩ (.string name))) := Lib.hid (below_setc HB8W.out hbsW _)
      have HBp9 : Hid (Blk (W12.setCell ⟨bs, 4, none⟩ (.string name)) b 25 #[.slice Ag p.globals.length cg, .slice Ap p.procs.length cp]) := Lib.hid (HBp8.out.far (p := ⟨bs, 4, none⟩) (by show b ≠ bs; omega) _)
      generalize World.setCell W12 _ _ = W13 at HBs9 HB9W HBp9 ⊢
      have HI9 := Lib.hid (HI.out.on HB9W.out)
      have HTi := Lib.hid (st_proc HSi.out HNs.out)
      have HNc := Lib.hid (new_chk HOk.out HNm2.out HNo.out HAt.out HKi.out)
      rw [show turnS name (.mk sid 4 labels nm proc x has args th el) = .mk sid 4 labels nm name x has args th el by rw [turnS_eq]; exact if_pos rfl] at HNc
      have HSmP : Hid (SmG (putP (.mk sid 4 labels nm name x has args th el) p)) := Lib.hid (fits_put (c := 8) HFt.out HOk.out.may (by omega) (fun q' hq' y hy he => by
       have hy2 := (HAt.out.only q' hq' y hy (he.trans HAt.out.eid)).1
       subst hy2
       have h8 := (nm_short HNm2.out).2
       simp only [hw]
       omega))
      have hokc : okC (.mk sid 4 labels nm proc x has args th el) := okC_of (at_w HSg.out HAt.out)
      have hokd : okC (.mk sid 4 labels nm name x has args th el) := hokc
      have HPu := Lib.hid (fun V h1 => Put_any (W := V) HP.out HTi.out h1 h1 HSg.out hokd)
      clear hokc hokd
      have hbl := HBp9.out.lt
      clear hsl
      have hsl := HBs9.out.lt
      clear hbsW hbs8 HBs8 HB8W HBp8 HSi HFt s1 s3 s4 f3 f4
      generalize putP (.mk sid 4 labels nm name x has args th el) p = pp at HNc HSmP HPu
      have HCk : Hid (∀ (w1 W1 : World) (Q1 : Nat → Prop) (a0 a1 : Value), ProgI w1 Q1 pp [a0, a1] → In Q1 w1 W1 → Calls Try.prog 26 #[.agg #[a0, a1]] W1 fun e w' => e = .returned (.agg #[.int .i64 5, .int .i64 sid]) ∧ Below W1.heap.size W1 w') := Lib.hid (fun w1 W1 Q1 a0 a1 h1 h2 => by
       have h3 := Check_any h1 HSmP.out W1 h2
       rw [HNc.out] at h3
       exact h3)
      clear HNc HSmP
      generalize W13 = W14 at *
      have q0 : W14.cell? ⟨b, 0, none⟩ = some (.slice Ag p.globals.length cg) := by rw [HBp9.out.cell]; rfl
      have q1 : W14.cell? ⟨b, 1, none⟩ = some (.slice Ap p.procs.length cp) := by rw [HBp9.out.cell]; rfl
      have s0 : W14.cell? ⟨bs, 0, none⟩ = some (.int .i64 sid) := by rw [HBs9.out.cell]; rfl
      have s1 : W14.cell? ⟨bs, 1, none⟩ = some (.int .i64 4) := by rw [HBs9.out.cell]; rfl
      have s2 : W14.cell? ⟨bs, 2, none⟩ = some (.slice L labels.length lc) := by rw [HBs9.out.cell]; rfl
      have s3 : W14.cell? ⟨bs, 3, none⟩ = some (.string nm) := by rw [HBs9.out.cell]; rfl
      have s4 : W14.cell? ⟨bs, 4, none⟩ = some (.string name) := by rw [HBs9.out.cell]; rfl
      have s5 : W14.cell? ⟨bs, 5, none⟩ = some (.int .i64 y0) := by rw [HBs9.out.cell]; rfl
      have s6 : W14.cell? ⟨bs, 6, none⟩ = some (.int .i64 y1) := by rw [HBs9.out.cell]; rfl
      have s7 : W14.cell? ⟨bs, 7, none⟩ = some (.string y2) := by rw [HBs9.out.cell]; rfl
      have s8 : W14.cell? ⟨bs, 8, none⟩ = some (.slice X xn xc) := by rw [HBs9.out.cell]; rfl
      have s9 : W14.cell? ⟨bs, 9, none⟩ = some (.bool has) := by rw [HBs9.out.cell]; rfl
      have s10 : W14.cell? ⟨bs, 10, none⟩ = some (.slice R args.length rc) := by rw [HBs9.out.cell]; rfl
      have s11 : W14.cell? ⟨bs, 11, none⟩ = some (.slice T th.length tc) := by rw [HBs9.out.cell]; rfl
      have s12 : W14.cell? ⟨bs, 12, none⟩ = some (.slice U el.length uc) := by rw [HBs9.out.cell]; rfl
      go_wp2_with (first
       | (go_at_call 32; (with_reducible refine (HPu.out W14 HI9.out).mono ?_); rintro e' W15 ⟨d0, d1, rfl, hb15, hp15⟩; have HPp := Lib.hid hp15; clear hp15)
       | (go_at_call 26; (with_reducible refine (HCk.out _ W15 _ _ _ HPp.out (in_new W14 W15)).mono ?_); rintro e' W16 ⟨rfl, hb16⟩))
      go_ret
      exact ⟨rfl, below_step HB9W.out (below_step hb15 hb16)⟩
     ·have hk5 : (kind == 4) = false := beq_eq_false_iff_ne.2 hk4
      clear hsl
      have hsl := HBs8.out.lt
      go_upto_region 15 with fail
      have HBs9 : Hid (Blk (W12.setCell ⟨bs, 3, none⟩ (.string name)) bs 55 #[.int .i64 sid, .int .i64 kind, .slice L labels.length lc, .string name, .string proc, .int .i64 y0, .int .i64 y1, .string y2, .slice X xn xc, .bool has, .slice R args.length rc, .slice T th.length tc, .slice U el.length uc]) := Lib.hid (by
       have h := HBs8.out.set_ 3 (.string name)
       simp only [List.setIfInBounds_toArray, List.set_cons_zero, List.set_cons_succ] at h
       exact h)
      have HB9W : Hid (Below W.heap.size W (W12.setCell ⟨bs, 3, none⟩ (.string name))) := Lib.hid (below_setc HB8W.out hbsW _)
      have HBp9 : Hid (Blk (W12.setCell ⟨bs, 3, none⟩ (.string name)) b 25 #[.slice Ag p.globals.length cg, .slice Ap p.procs.length cp]) := Lib.hid (HBp8.out.far (p := ⟨bs, 3, none⟩) (by show b ≠ bs; omega) _)
      generalize World.setCell W12 _ _ = W13 at HBs9 HB9W HBp9 ⊢
      have HI9 := Lib.hid (HI.out.on HB9W.out)
      have HTi := Lib.hid (st_nm HSi.out HNs.out)
      have HNc := Lib.hid (new_chk HOk.out HNm2.out HNo.out HAt.out HKi.out)
      rw [show turnS name (.mk sid kind labels nm proc x has args th el) = .mk sid kind labels name proc x has args th el by rw [turnS_eq]; exact if_neg hk4] at HNc
      have HSmP : Hid (SmG (putP (.mk sid kind labels name proc x has args th el) p)) := Lib.hid (fits_put (c := 8) HFt.out HOk.out.may (by omega) (fun q' hq' y hy he => by
       have hy2 := (HAt.out.only q' hq' y hy (he.trans HAt.out.eid)).1
       subst hy2
       have h8 := (nm_short HNm2.out).2
       simp only [hw]
       omega))
      have hokc : okC (.mk sid kind labels nm proc x has args th el) := okC_of (at_w HSg.out HAt.out)
      have hokd : okC (.mk sid kind labels name proc x has args th el) := hokc
      have HPu := Lib.hid (fun V h1 => Put_any (W := V) HP.out HTi.out h1 h1 HSg.out hokd)
      clear hokc hokd
      have hbl := HBp9.out.lt
      clear hsl
      have hsl := HBs9.out.lt
      clear hbsW hbs8 HBs8 HB8W HBp8 HSi HFt s1 s3 s4 f3 f4
      generalize putP (.mk sid kind labels name proc x has args th el) p = pp at HNc HSmP HPu
      have HCk : Hid (∀ (w1 W1 : World) (Q1 : Nat → Prop) (a0 a1 : Value), ProgI w1 Q1 pp [a0, a1] → In Q1 w1 W1 → Calls Try.prog 26 #[.agg #[a0, a1]] W1 fun e w' => e = .returned (.agg #[.int .i64 5, .int .i64 sid]) ∧ Below W1.heap.size W1 w') := Lib.hid (fun w1 W1 Q1 a0 a1 h1 h2 => by
       have h3 := Check_any h1 HSmP.out W1 h2
       rw [HNc.out] at h3
       exact h3)
      clear HNc HSmP
      generalize W13 = W14 at *
      have q0 : W14.cell? ⟨b, 0, none⟩ = some (.slice Ag p.globals.length cg) := by rw [HBp9.out.cell]; rfl
      have q1 : W14.cell? ⟨b, 1, none⟩ = some (.slice Ap p.procs.length cp) := by rw [HBp9.out.cell]; rfl
      have s0 : W14.cell? ⟨bs, 0, none⟩ = some (.int .i64 sid) := by rw [HBs9.out.cell]; rfl
      have s1 : W14.cell? ⟨bs, 1, none⟩ = some (.int .i64 kind) := by rw [HBs9.out.cell]; rfl
      have s2 : W14.cell? ⟨bs, 2, none⟩ = some (.slice L labels.length lc) := by rw [HBs9.out.cell]; rfl
      have s3 : W14.cell? ⟨bs, 3, none⟩ = some (.string name) := by rw [HBs9.out.cell]; rfl
      have s4 : W14.cell? ⟨bs, 4, none⟩ = some (.string proc) := by rw [HBs9.out.cell]; rfl
      have s5 : W14.cell? ⟨bs, 5, none⟩ = some (.int .i64 y0) := by rw [HBs9.out.cell]; rfl
      have s6 : W14.cell? ⟨bs, 6, none⟩ = some (.int .i64 y1) := by rw [HBs9.out.cell]; rfl
      have s7 : W14.cell? ⟨bs, 7, none⟩ = some (.string y2) := by rw [HBs9.out.cell]; rfl
      have s8 : W14.cell? ⟨bs, 8, none⟩ = some (.slice X xn xc) := by rw [HBs9.out.cell]; rfl
      have s9 : W14.cell? ⟨bs, 9, none⟩ = some (.bool has) := by rw [HBs9.out.cell]; rfl
      have s10 : W14.cell? ⟨bs, 10, none⟩ = some (.slice R args.length rc) := by rw [HBs9.out.cell]; rfl
      have s11 : W14.cell? ⟨bs, 11, none⟩ = some (.slice T th.length tc) := by rw [HBs9.out.cell]; rfl
      have s12 : W14.cell? ⟨bs, 12, none⟩ = some (.slice U el.length uc) := by rw [HBs9.out.cell]; rfl
      go_wp2_with (first
       | (go_at_call 32; (with_reducible refine (HPu.out W14 HI9.out).mono ?_); rintro e' W15 ⟨d0, d1, rfl, hb15, hp15⟩; have HPp := Lib.hid hp15; clear hp15)
       | (go_at_call 26; (with_reducible refine (HCk.out _ W15 _ _ _ HPp.out (in_new W14 W15)).mono ?_); rintro e' W16 ⟨rfl, hb16⟩))
      go_ret
      exact ⟨rfl, below_step HB9W.out (below_step hb15 hb16)⟩
end Go.Proofs.Ytnnblklbjbkikaa
