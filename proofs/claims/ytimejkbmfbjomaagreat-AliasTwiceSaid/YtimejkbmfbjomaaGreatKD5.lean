/- Texts, merged by a program; only what is used. -/
import Derived.Test.YtimejkbmfbjomaaGreatK1
import Derived.Test.YtimejkbmfbjomaaGreatK2
import Derived.Test.YtimejkbmfbjomaaGreatK3
import Derived.Test.YtimejkbmfbjomaaGreatK4
import Derived.Test.YtimejkbmfbjomaaGreatK5
import Derived.Test.YtimejkbmfbjomaaGreatK6
import Derived.Test.YtimejkbmfbjomaaGreatK7
import Derived.Test.YtimejkbmfbjomaaGreatK8
import Derived.Test.YtimejkbmfbjomaaGreatK9
import Derived.Test.YtimejkbmfbjomaaGreatK10
import Derived.Test.YtimejkbmfbjomaaGreatK11
import Derived.Test.YtimejkbmfbjomaaGreatK12
import Derived.Test.YtimejkbmfbjomaaGreatK13
import Derived.Test.YtimejkbmfbjomaaGreatK14
import Derived.Test.YtimejkbmfbjomaaGreatK15
import Derived.Test.YtimejkbmfbjomaaGreatK16
import Derived.Test.YtimejkbmfbjomaaGreatK17
import Derived.Test.YtimejkbmfbjomaaGreatK18
import Derived.Test.YtimejkbmfbjomaaGreatK19
import Derived.Test.YtimejkbmfbjomaaGreatK20
import Derived.Test.YtimejkbmfbjomaaGreatK21
import Derived.Test.YtimejkbmfbjomaaGreatK22
import Derived.Test.YtimejkbmfbjomaaGreatK23
import Derived.Test.YtimejkbmfbjomaaGreatK24
import Derived.Test.YtimejkbmfbjomaaGreatK25
import Derived.Test.YtimejkbmfbjomaaGreatK26
import Derived.Test.YtimejkbmfbjomaaGreatK27
import Derived.Test.YtimejkbmfbjomaaGreatK28
import Derived.Test.YtimejkbmfbjomaaGreatK29
import Derived.Test.YtimejkbmfbjomaaGreatK30
import Derived.Test.YtimejkbmfbjomaaGreatKA1
import Derived.Test.YtimejkbmfbjomaaGreatKA2
import Derived.Test.YtimejkbmfbjomaaGreatKA3
import Derived.Test.YtimejkbmfbjomaaGreatKA4
import Derived.Test.YtimejkbmfbjomaaGreatKA5
import Derived.Test.YtimejkbmfbjomaaGreatKA6
import Derived.Test.YtimejkbmfbjomaaGreatKA7
import Derived.Test.YtimejkbmfbjomaaGreatKD1
import Derived.Test.YtimejkbmfbjomaaGreatKD2
import Derived.Test.YtimejkbmfbjomaaGreatKD3
import Derived.Test.YtimejkbmfbjomaaGreatKD4
namespace Go.Proofs.YtimejkbmfbjomaaGreat
open Go.ChangeShapes Go.WideShapes Go.ChangeAt Go.RowKit Go.Deep
set_option linter.unusedVariables false
set_option linter.unusedSimpArgs false
structure PkA (W wx : World) (ba : Nat) (xr : Bool) (xnm : ByteArray) : Prop where
 below : Below W.heap.size W wx
 ge : W.heap.size ≤ ba
 out : ∃ o1 n1 s1 A1 l1 k1, Blk wx ba 61 #[.bool xr, .string xnm, .int .i64 o1, .int .i64 n1, .string s1, .slice A1 l1 k1]
theorem pk_of {V U : World} {bs : Nat} {ad : Addr} {v w0 w1 w2 w3 w4 w5 : Value} (h : Below V.heap.size V U) (hk : (bs < V.heap.size ∧ ad.block < V.heap.size) ∧ V.cell? ⟨bs, 10, none⟩ = some v ∧ V.cell? ad = some w0 ∧ V.cell? ⟨ad.block, ad.off + 1, none⟩ = some w1 ∧ V.cell? ⟨ad.block, ad.off + 2, none⟩ = some w2 ∧ V.cell? ⟨ad.block, ad.off + 3, none⟩ = some w3 ∧ V.cell? ⟨ad.block, ad.off + 4, none⟩ = some w4 ∧ V.cell? ⟨ad.block, ad.off + 5, none⟩ = some w5) : U.cell? ⟨bs, 10, none⟩ = some v ∧ (U.cell? ad = some w0 ∧ U.cell? ⟨ad.block, ad.off + 1, none⟩ = some w1 ∧ U.cell? ⟨ad.block, ad.off + 2, none⟩ = some w2 ∧ U.cell? ⟨ad.block, ad.off + 3, none⟩ = some w3 ∧ U.cell? ⟨ad.block, ad.off + 4, none⟩ = some w4 ∧ U.cell? ⟨ad.block, ad.off + 5, none⟩ = some w5) ∧ Below V.heap.size V U := by
 obtain ⟨⟨h1, h2⟩, g0, g1, g2, g3, g4, g5, g6⟩ := hk
 exact ⟨(h.cell (p := ⟨bs, 10, none⟩) h1).trans g0, ⟨(h.cell h2).trans g1, (h.cell (p := ⟨ad.block, ad.off + 1, none⟩) h2).trans g2, (h.cell (p := ⟨ad.block, ad.off + 2, none⟩) h2).trans g3, (h.cell (p := ⟨ad.block, ad.off + 3, none⟩) h2).trans g4, (h.cell (p := ⟨ad.block, ad.off + 4, none⟩) h2).trans g5, (h.cell (p := ⟨ad.block, ad.off + 5, none⟩) h2).trans g6⟩, h⟩
theorem flat_bnd {α β : Type} {f : α → List β} {c : Nat} : ∀ l : List α, (∀ x ∈ l, (f x).length ≤ c) → (l.flatMap f).length ≤ l.length * c
 | [], _ => by simp
 | x :: l, h => by
  rw [List.flatMap_cons, List.length_append, List.length_cons, Nat.add_mul]
  have h1 := h x (List.mem_cons_self ..)
  have h2 := flat_bnd l (fun y hy => h y (List.mem_cons_of_mem _ hy))
  omega
theorem emp_nm : (⟨#[]⟩ : ByteArray).toList.isEmpty = true := by rw [toList_emp]; rfl
theorem tk_ex {w W : World} {Q : Nat → Prop} {p : Pg} {c0 c1 : Value} (h : ProgI w Q p [c0, c1]) (hsm : SmG p) (hck : chkOK p = true → p.procs.length ≤ 16 ∧ ∀ q ∈ p.procs, (saidOf (preSL q.body)).length ≤ 10000000) (hI : In Q w W) (proc : ByteArray) : ∃ l, GlobOf p (jfP p proc) l := by
 obtain ⟨e, w', fr, ⟨l2, v, _, _, _, hg⟩, _⟩ := (tGlobals_any h hsm hck proc W hI) []
 exact ⟨l2, hg⟩
theorem at_w2x {p : Pg} {id : Int} {q : Pr} {s : S} (hf : fitsP p = true) (h : AtId p id q s) : wS s ≤ 20000 := by
 unfold fitsP weighP at hf
 obtain ⟨_, h2⟩ := weighQs_full p.procs _ (of_decide_eq_true hf)
 exact Nat.le_trans (preSL_w _ _ h.stm) (h2 q h.mem).1
theorem NmOk.size {s : S} {n : ByteArray} (h : stmtOk s = true) (hn : NmOk s n) : n.size ≤ 8 := by
 rcases hn with hn | ⟨a, ha, hr, rfl⟩
 ·rw [toList_emp] at hn
  have := of_decide_eq_true hn
  omega
 ·exact (nm_short (args_nm h a ha hr)).2
theorem nm_smG {p : Pg} {q : Pr} {s : S} {n : ByteArray} (hf : fitsP p = true) (h : NmT p q s n) : SmG (putP (setNm s n) p) := by
 refine fits_put (c := 20) hf h.ok.may (by omega) (fun q' hq' y hy he => ?_)
 obtain ⟨rfl, rfl⟩ := h.only hq' hy he
 have := h.nm.size h.stm
 obtain ⟨id, kind, labels, nm, proc, x, has, args, th, el⟩ := y
 simp only [setNm, hw]
 omega
theorem said_nm {s : S} {n : ByteArray} : (saidS (setNm s n)).length ≤ (saidS s).length + 1 := by
 obtain ⟨id, kind, labels, nm, proc, x, has, args, th, el⟩ := s
 simp only [saidS, setNm, S.x, S.kind, S.nm, S.args, List.length_append]
 have h1 : (ownV kind n).length ≤ 1 := by unfold ownV; split <;> simp
 omega
theorem nm_hck {p : Pg} {q : Pr} {s : S} {n : ByteArray} (hf : fitsP p = true) (h : NmT p q s n) : chkOK (putP (setNm s n) p) = true → (putP (setNm s n) p).procs.length ≤ 16 ∧ ∀ f ∈ (putP (setNm s n) p).procs, (saidOf (preSL f.body)).length ≤ 10000000 := by
 intro _
 have h1 := fits_said hf h.ok.may
 refine ⟨by show (p.procs.map _).length ≤ 16; rw [List.length_map]; exact (may_lens h.ok.may).2.1, fun f hf2 => ?_⟩
 obtain ⟨g, hg, rfl⟩ := List.mem_map.1 (show f ∈ p.procs.map (putPr (setNm s n)) from hf2)
 show (saidOf (preSL (putSL (setNm s n) g.body))).length ≤ _
 rw [preSL_put]
 have h2 := flat_bnd (f := saidS) (c := 20001) ((preSL g.body).map (putS (setNm s n))) (fun x hx => by
  obtain ⟨y, hy, rfl⟩ := List.mem_map.1 hx
  rw [saidS_put]
  split
  ·rename_i he
   obtain ⟨rfl, rfl⟩ := h.only hg hy he
   have := h1 g hg y hy
   have := said_nm (s := y) (n := n)
   omega
  ·have := h1 g hg y hy
   omega)
 rw [List.length_map] at h2
 have h3 := ((may_flat h.ok.may).1 g hg).2
 have h4 : (preSL g.body).length * 20001 ≤ 200 * 20001 := Nat.mul_le_mul_right _ h3
 unfold saidOf
 omega
set_option maxHeartbeats 8000000 in
set_option maxRecDepth 100000 in
theorem aliasTwice_walk {w : World} {Q : Nat → Prop} {p : Pg} {c0 c1 : Value} (h : ProgI w Q p [c0, c1]) (n : Int) (wn : (Lit.int .i64 n).wf = true) (kk0 : Int) (wkk : (Lit.int .i64 kk0).wf = true) (W : World) (hI : In Q w W) :
 Calls Tryz.prog 6 #[.agg #[c0, c1], .int .i64 n, .int .i64 kk0] W fun e w' => e = .returned (.bool true) ∧ Below W.heap.size W w' := by
 have HP := Lib.hid h
 have HF := Lib.hid (fun V h1 => Fits_any h V h1)
 have HI := Lib.hid hI
 obtain ⟨Ag, cg, Ap, cp, rfl, rfl, _⟩ := prog_open h
 clear h hI
 go_enter Tryz.func6, Tryz.ntmps6
 go_upto_region 1 with fail
 have HB0 : Hid (Below W.heap.size W (W.alloc (.cells #[.slice Ag p.globals.length cg, .slice Ap p.procs.length cp] 25))) := Lib.hid (below_box _)
 have HBp0 : Hid (Blk (W.alloc (.cells #[.slice Ag p.globals.length cg, .slice Ap p.procs.length cp] 25)) W.heap.size 25 #[.slice Ag p.globals.length cg, .slice Ap p.procs.length cp]) := Lib.hid (Blk.new _ _ _)
 generalize World.alloc _ _ = W0 at HB0 HBp0 ⊢
 have HI0 := Lib.hid (HI.out.on HB0.out)
 generalize hbe : W.heap.size = b at HBp0 ⊢
 clear hbe
 go_upto_region 3 with (go_at_call 24; refine (apart_any W0).mono ?_; rintro e' W1 ⟨rfl, hb1⟩)
 have HB1 : Hid (Below W.heap.size W W1) := Lib.hid (below_step HB0.out hb1)
 have HI1 := Lib.hid (HI0.out.on hb1)
 have HBp1 := Lib.hid (HBp0.out.below hb1 HBp0.out.lt)
 clear hb1 HB0 HBp0 HI0
 have q0 : W1.cell? ⟨b, 0, none⟩ = some (.slice Ag p.globals.length cg) := by rw [HBp1.out.cell]; rfl
 have q1 : W1.cell? ⟨b, 1, none⟩ = some (.slice Ap p.procs.length cp) := by rw [HBp1.out.cell]; rfl
 have hbl := HBp1.out.lt
 cases hf : fitsP p with
 | false =>
  rw [hf] at HF
  clear hf
  go_wp2_with (go_at_call 9; refine (HF.out _ HI1.out).mono ?_; rintro e' W2 ⟨rfl, hb2⟩)
  go_ret
  exact ⟨rfl, below_step HB1.out hb2⟩
 | true =>
  have HSg := Lib.hid (fits_smG hf)
  have HCA := Lib.hid (fun V hV => aCheck_any HP.out (fits_smG hf) V hV)
  have HCL := Lib.hid (fun V hV => alCheck_any HP.out (fits_smG hf) (fun hc => fits_hck hf hc) V hV)
  have HIs := Lib.hid (fun V hV => Ids_any HP.out 4 (by simp [i64]) V hV)
  have HSt := Lib.hid (fun id V hV => rStmt_any HP.out id V hV)
  have HEx := Lib.hid (fun (V : World) (hV : In Q w V) proc => tk_ex HP.out (fits_smG hf) (fun hc => fits_hck hf hc) hV proc)
  have HFt := Lib.hid hf
  rw [hf] at HF
  clear hf
  go_upto_region 5 with (go_at_call 9; refine (HF.out _ HI1.out).mono ?_; rintro e' W2 ⟨rfl, hb2⟩)
  have HB2 : Hid (Below W.heap.size W W2) := Lib.hid (below_step HB1.out hb2)
  have HI2 := Lib.hid (HI1.out.on hb2)
  have HBp2 := Lib.hid (HBp1.out.below hb2 hbl)
  clear hb2 HB1 HI1 HBp1 q0 q1 hbl HF
  have q0 : W2.cell? ⟨b, 0, none⟩ = some (.slice Ag p.globals.length cg) := by rw [HBp2.out.cell]; rfl
  have q1 : W2.cell? ⟨b, 1, none⟩ = some (.slice Ap p.procs.length cp) := by rw [HBp2.out.cell]; rfl
  have hbl := HBp2.out.lt
  have hff : ∀ (a c : Int) (w : World), (Instr.field 34 (.agg #[.int .i64 a, .int .i64 c]) 0).run Tryz.prog w = .ok (.int .i64 a) w := fun _ _ _ => by kernel_rfl
  by_cases ha : (arP p).1 = 0
  ·by_cases hl : (alP p).1 = 0
   ·have HAr := Lib.hid ha
    have HAl := Lib.hid hl
    have hmay := (arP_ok ha).may
    have HMy := Lib.hid hmay
    have HLn : Hid ((idsOf 4 (allOf p)).length ≤ 1000) := Lib.hid (by
     have h1 := allL_len p.procs [] (by simp)
     have h2 := idsOf_len (kind := 4) (l := allOf p) (k := (allOf p).length)
     rw [List.take_length] at h2
     have h3 : (allOf p).length ≤ 401 := h1
     omega)
    have HIb : Hid (∀ i ∈ idsOf 4 (allOf p), i64 i) := Lib.hid (fun i hi => by
     obtain ⟨q, s, hat, _, h1, h2⟩ := ids_at hmay hi
     unfold i64
     omega)
    have HAt : Hid (∀ id, id ∈ idsOf 4 (allOf p) → ∃ q s, AtId p id q s ∧ s.kind = 4) := Lib.hid (fun id hi => by
     obtain ⟨q, s, hat, hk, _⟩ := ids_at hmay hi
     exact ⟨q, s, hat, by rcases hk with hk | hk; cases hk; exact hk⟩)
    have HNm : Hid (∀ q s m, AtId p s.id q s → s.kind = 4 → NmOk s m → NmT p q s m) := Lib.hid (fun q s m h1 h2 h3 => ⟨HAr.out, HAl.out, h1, h2, h3⟩)
    generalize arP p = r1 at HCA ha
    generalize alP p = r2 at HCL hl
    obtain ⟨a1, a2⟩ := r1
    obtain ⟨l1, l2⟩ := r2
    simp only at ha hl
    subst ha hl
    generalize idsOf 4 (allOf p) = il at HLn HIb HIs HAt
    clear hmay HAr HAl
    go_upto_region 7 with (first
     | (go_at_call 33; refine (HCA.out W2 HI2.out).mono ?_; rintro e' W3 ⟨rfl, hb3⟩; have HB3 : Hid (Below W.heap.size W W3) := Lib.hid (below_step HB2.out hb3); have HI3 := Lib.hid (HI2.out.on hb3); have HBp3 := Lib.hid (HBp2.out.below hb3 hbl); have r0 : W3.cell? ⟨b, 0, none⟩ = some (.slice Ag p.globals.length cg) := (by rw [HBp3.out.cell]; rfl); have r1 : W3.cell? ⟨b, 1, none⟩ = some (.slice Ap p.procs.length cp) := (by rw [HBp3.out.cell]; rfl); clear hb3)
     | (go_at_call 25; refine (HCL.out W3 HI3.out).mono ?_; rintro e' W5 ⟨rfl, hb4⟩; have HB5 : Hid (Below W.heap.size W W5) := Lib.hid (below_step HB3.out hb4); have HI5 := Lib.hid (HI3.out.on hb4); have HBp5 := Lib.hid (HBp3.out.below hb4 HBp3.out.lt); clear hb4))
    clear q0 q1 r0 r1 hbl HCA HCL HB2 HI2 HBp2 HB3 HI3 HBp3
    have hbl := HBp5.out.lt
    have q0 : W5.cell? ⟨b, 0, none⟩ = some (.slice Ag p.globals.length cg) := by rw [HBp5.out.cell]; rfl
    have q1 : W5.cell? ⟨b, 1, none⟩ = some (.slice Ap p.procs.length cp) := by rw [HBp5.out.cell]; rfl
    go_upto_region 8 with (first
     | (go_at_call 29; refine (HIs.out W5 HI5.out).mono ?_; rintro e' W6 ⟨v6, rfl, ho6, hb6⟩; obtain ⟨X6, k6, rfl, _, _⟩ := own_shape ho6; have HPk := Lib.hid (Pick_any ho6 HLn.out HIb.out n (Below.refl _ _)); have HB6 := Lib.hid hb6; clear ho6 hb6)
     | (go_at_call 28; refine HPk.out.mono ?_; rintro e' W7 ⟨id, hidm, rfl, rfl⟩))
    have hid : i64 id := by rcases hidm with ⟨_, rfl⟩ | h; simp [i64]; exact HIb.out _ h
    unfold i64 at hid
    have HIm : Hid (id ≠ 0 → id ∈ il) := Lib.hid (fun h => by rcases hidm with ⟨_, e⟩ | h2; exact absurd e h; exact h2)
    have HI6 := Lib.hid (HI5.out.on HB6.out)
    have HBp6 := Lib.hid (HBp5.out.below HB6.out hbl)
    have HB6W := Lib.hid (below_step HB5.out HB6.out)
    clear q0 q1 hbl hidm HPk HIs HLn HIb HB5 HI5 HBp5 HB6
    have hbl := HBp6.out.lt
    have q0 : W6.cell? ⟨b, 0, none⟩ = some (.slice Ag p.globals.length cg) := by rw [HBp6.out.cell]; rfl
    have q1 : W6.cell? ⟨b, 1, none⟩ = some (.slice Ap p.procs.length cp) := by rw [HBp6.out.cell]; rfl
    have HS0 := Lib.hid (fun V hV => HSt.out id V hV)
    have HAn : Hid (id ≠ 0 → ∃ q s, AtId p id q s ∧ s.kind = 4) := Lib.hid (fun h => HAt.out id (HIm.out h))
    have HSp : Hid (∀ q s, AtId p id q s → stP p id = s) := Lib.hid (fun q s h => h.st)
    generalize stP p id = s at HS0 HSp
    go_upto_region 9 with (go_at_call 30; refine (HS0.out W6 HI6.out).mono ?_; rintro e' W7 ⟨cs, rfl, hst, hb7⟩; obtain ⟨sid, kind, labels, nm, proc, x, has, args, th, el, L, lc, y0, y1, y2, X, xn, xc, R, rc, T, tc, U, uc, rfl, rfl, _, _, _, _, _, _, har, _⟩ := stmt_open hst; have HSi := Lib.hid hst; clear hst)
    have HAg := Lib.hid har
    obtain ⟨_, hrl, hrc, _⟩ := slice_len har
    have HB8 : Hid (Below W6.heap.size W6 (W7.alloc (.cells #[.int .i64 sid, .int .i64 kind, .slice L labels.length lc, .string nm, .string proc, .int .i64 y0, .int .i64 y1, .string y2, .slice X xn xc, .bool has, .slice R args.length rc, .slice T th.length tc, .slice U el.length uc] 49))) := Lib.hid (below_stepA hb7 _)
    have HBs8 : Hid (Blk (W7.alloc (.cells #[.int .i64 sid, .int .i64 kind, .slice L labels.length lc, .string nm, .string proc, .int .i64 y0, .int .i64 y1, .string y2, .slice X xn xc, .bool has, .slice R args.length rc, .slice T th.length tc, .slice U el.length uc] 49)) W7.heap.size 49 #[.int .i64 sid, .int .i64 kind, .slice L labels.length lc, .string nm, .string proc, .int .i64 y0, .int .i64 y1, .string y2, .slice X xn xc, .bool has, .slice R args.length rc, .slice T th.length tc, .slice U el.length uc]) := Lib.hid (Blk.new _ _ _)
    clear hb7 q0 q1 HS0 HSt har
    generalize World.alloc W7 _ = W8 at HB8 HBs8 ⊢
    generalize W7.heap.size = bs at HBs8 ⊢
    have HI8 := Lib.hid (HI6.out.on HB8.out)
    have HBp8 := Lib.hid (HBp6.out.below HB8.out hbl)
    have HB8W := Lib.hid (below_step HB6W.out HB8.out)
    clear hbl HB8 HI6 HBp6 HB6W
    have hsl := HBs8.out.lt
    have hbl := HBp8.out.lt
    have s0 : W8.cell? ⟨bs, 0, none⟩ = some (.int .i64 sid) := by rw [HBs8.out.cell]; rfl
    have s1 : W8.cell? ⟨bs, 1, none⟩ = some (.int .i64 kind) := by rw [HBs8.out.cell]; rfl
    have s2 : W8.cell? ⟨bs, 2, none⟩ = some (.slice L labels.length lc) := by rw [HBs8.out.cell]; rfl
    have s3 : W8.cell? ⟨bs, 3, none⟩ = some (.string nm) := by rw [HBs8.out.cell]; rfl
    have s4 : W8.cell? ⟨bs, 4, none⟩ = some (.string proc) := by rw [HBs8.out.cell]; rfl
    have s5 : W8.cell? ⟨bs, 5, none⟩ = some (.int .i64 y0) := by rw [HBs8.out.cell]; rfl
    have s6 : W8.cell? ⟨bs, 6, none⟩ = some (.int .i64 y1) := by rw [HBs8.out.cell]; rfl
    have s7 : W8.cell? ⟨bs, 7, none⟩ = some (.string y2) := by rw [HBs8.out.cell]; rfl
    have s8 : W8.cell? ⟨bs, 8, none⟩ = some (.slice X xn xc) := by rw [HBs8.out.cell]; rfl
    have s9 : W8.cell? ⟨bs, 9, none⟩ = some (.bool has) := by rw [HBs8.out.cell]; rfl
    have s10 : W8.cell? ⟨bs, 10, none⟩ = some (.slice R args.length rc) := by rw [HBs8.out.cell]; rfl
    have s11 : W8.cell? ⟨bs, 11, none⟩ = some (.slice T th.length tc) := by rw [HBs8.out.cell]; rfl
    have s12 : W8.cell? ⟨bs, 12, none⟩ = some (.slice U el.length uc) := by rw [HBs8.out.cell]; rfl
    go_upto_region 10 with fail
    have HBt : Hid (Blk (W8.alloc (.cells #[.int .i64 sid, .int .i64 kind, .slice L labels.length lc, .string nm, .string proc, .int .i64 y0, .int .i64 y1, .string y2, .slice X xn xc, .bool has, .slice R args.length rc, .slice T th.length tc, .slice U el.length uc] 49)) W8.heap.size 49 #[.int .i64 sid, .int .i64 kind, .slice L labels.length lc, .string nm, .string proc, .int .i64 y0, .int .i64 y1, .string y2, .slice X xn xc, .bool has, .slice R args.length rc, .slice T th.length tc, .slice U el.length uc]) := Lib.hid (Blk.new _ _ _)
    have HB9 : Hid (Below W8.heap.size W8 (W8.alloc (.cells #[.int .i64 sid, .int .i64 kind, .slice L labels.length lc, .string nm, .string proc, .int .i64 y0, .int .i64 y1, .string y2, .slice X xn xc, .bool has, .slice R args.length rc, .slice T th.length tc, .slice U el.length uc] 49))) := Lib.hid (below_box _)
    clear s0 s1 s2 s3 s4 s5 s6 s7 s8 s9 s10 s11 s12
    generalize World.alloc W8 _ = W9 at HBt HB9 ⊢
    have hW8 : W.heap.size ≤ W8.heap.size := HB8W.out.size
    have hQ8 := Lib.hid HI8.out.1
    generalize hbt : W8.heap.size = bt at HBt hsl hbl hW8 hQ8 ⊢
    have HI9 := Lib.hid (HI8.out.on HB9.out)
    have HBp9 := Lib.hid (HBp8.out.below HB9.out (by omega))
    have HBs9 := Lib.hid (HBs8.out.below HB9.out (by omega))
    have HB9W := Lib.hid (below_step HB8W.out HB9.out)
    clear hbt HB9 HI8 HBp8 HBs8 HB8W
    have f3_ := HBt.out.frozen 3
    have t3_ : W9.cell? ⟨bt, 3, none⟩ = some (.string nm) := by rw [HBt.out.cell]; rfl
    go_upto_region 11 with fail
    have HBt1 : Hid (Blk (W9.setCell ⟨bt, 3, none⟩ (.string ⟨#[]⟩)) bt 49 #[.int .i64 sid, .int .i64 kind, .slice L labels.length lc, .string ⟨#[]⟩, .string proc, .int .i64 y0, .int .i64 y1, .string y2, .slice X xn xc, .bool has, .slice R args.length rc, .slice T th.length tc, .slice U el.length uc]) := Lib.hid (by
     have h := HBt.out.set_ 3 (.string ⟨#[]⟩)
     simp only [List.setIfInBounds_toArray, List.set_cons_zero, List.set_cons_succ] at h
     exact h)
    have HMv : Hid (Moves (fun j => j = bt) W9 (W9.setCell ⟨bt, 3, none⟩ (.string ⟨#[]⟩))) := Lib.hid (setMoves W9 ⟨bt, 3, none⟩ (.string ⟨#[]⟩))
    have HB10W : Hid (Below W.heap.size W (W9.setCell ⟨bt, 3, none⟩ (.string ⟨#[]⟩))) := Lib.hid (below_setc HB9W.out hW8 _)
    clear f3_ t3_
    generalize World.setCell W9 _ _ = W10 at HBt1 HMv HB10W ⊢
    have HI10 := Lib.hid (HI9.out.moves HMv.out (fun j hj hq => by subst hj; exact Nat.lt_irrefl _ (hQ8.out _ hq)))
    have HBp10 := Lib.hid (HMv.out.blk HBp9.out (by omega))
    have HBs10 := Lib.hid (HMv.out.blk HBs9.out (by omega))
    have hbl' : b < bt := hbl
    have hsl' : bs < bt := hsl
    clear HMv HBt HI9 HBp9 HBs9 HB9W hbl hsl
    have hbl := HBp10.out.lt
    have hsl := HBs10.out.lt
    have htl := HBt1.out.lt
    have s10 : W10.cell? ⟨bs, 10, none⟩ = some (.slice R args.length rc) := by rw [HBs10.out.cell]; rfl
    by_cases h0 : id = 0
    ·subst h0
     have hz : ((0 : Int) == 0) = true := rfl
     go_wp2_with fail
     go_ret
     exact ⟨rfl, HB10W.out⟩
    ·have h1 : (id == 0) = false := beq_eq_false_iff_ne.2 h0
     obtain ⟨q, s2, hat, hk4⟩ := HAn.out h0
     have hse := HSp.out q s2 hat
     subst hse
     have hsid : sid = id := hat.eid
     subst hsid
     have hk4' : kind = 4 := hk4
     subst hk4'
     have HTn := Lib.hid (fun m (hm : NmOk (.mk sid 4 labels nm proc x has args th el) m) => HNm.out q (.mk sid 4 labels nm proc x has args th el) m hat rfl hm)
     have HW := Lib.hid (at_w (fits_smG HFt.out) hat)
     have HW2 := Lib.hid (at_w2x HFt.out hat)
     clear hat hk4 HAn HSp HNm HAt HIm h0
     by_cases hz0 : args.length = 0
     ·have hz : ((args.length : Int) == 0) = true := by rw [hz0]; rfl
      go_wp2_with fail
      go_ret
      exact ⟨rfl, HB10W.out⟩
     ·have hz : ((args.length : Int) == 0) = false := beq_eq_false_iff_ne.2 (by omega)
      have hpos : 1 ≤ args.length := by omega
      clear hz0
      have hokc : okC (.mk sid 4 labels nm proc x has args th el) := okC_of HW.out
      have HT0 := Lib.hid (HTn.out ⟨#[]⟩ (.inl emp_nm))
      have hst0 := stmt_nm (n := ⟨#[]⟩) HSi.out (by decide)
      have HEx1 := Lib.hid (fun proc => HEx.out W10 HI10.out proc)
      have HPu := Lib.hid (fun V h1 h2 => Put_any (W := V) HP.out hst0 h1 h2 (fits_smG HFt.out) (show okC (.mk sid 4 labels ⟨#[]⟩ proc x has args th el) from hokc))
      have HSm1 : Hid (SmG (putP (.mk sid 4 labels ⟨#[]⟩ proc x has args th el) p)) := Lib.hid (nm_smG HFt.out HT0.out)
      have HCk1 := Lib.hid (nm_hck HFt.out HT0.out)
      have HAl1 : Hid (alP (putP (.mk sid 4 labels ⟨#[]⟩ proc x has args th el) p) = (0, 0)) := Lib.hid (HT0.out.none_ HEx1.out emp_nm)
      have HIm2 := Lib.hid hpos
      clear hst0 hokc HT0
      have q0 : W10.cell? ⟨b, 0, none⟩ = some (.slice Ag p.globals.length cg) := by rw [HBp10.out.cell]; rfl
      have q1 : W10.cell? ⟨b, 1, none⟩ = some (.slice Ap p.procs.length cp) := by rw [HBp10.out.cell]; rfl
      have t0 : W10.cell? ⟨bt, 0, none⟩ = some (.int .i64 sid) := by rw [HBt1.out.cell]; rfl
      have t1 : W10.cell? ⟨bt, 1, none⟩ = some (.int .i64 4) := by rw [HBt1.out.cell]; rfl
      have t2 : W10.cell? ⟨bt, 2, none⟩ = some (.slice L labels.length lc) := by rw [HBt1.out.cell]; rfl
      have t3 : W10.cell? ⟨bt, 3, none⟩ = some (.string ⟨#[]⟩) := by rw [HBt1.out.cell]; rfl
      have t4 : W10.cell? ⟨bt, 4, none⟩ = some (.string proc) := by rw [HBt1.out.cell]; rfl
      have t5 : W10.cell? ⟨bt, 5, none⟩ = some (.int .i64 y0) := by rw [HBt1.out.cell]; rfl
      have t6 : W10.cell? ⟨bt, 6, none⟩ = some (.int .i64 y1) := by rw [HBt1.out.cell]; rfl
      have t7 : W10.cell? ⟨bt, 7, none⟩ = some (.string y2) := by rw [HBt1.out.cell]; rfl
      have t8 : W10.cell? ⟨bt, 8, none⟩ = some (.slice X xn xc) := by rw [HBt1.out.cell]; rfl
      have t9 : W10.cell? ⟨bt, 9, none⟩ = some (.bool has) := by rw [HBt1.out.cell]; rfl
      have t10 : W10.cell? ⟨bt, 10, none⟩ = some (.slice R args.length rc) := by rw [HBt1.out.cell]; rfl
      have t11 : W10.cell? ⟨bt, 11, none⟩ = some (.slice T th.length tc) := by rw [HBt1.out.cell]; rfl
      have t12 : W10.cell? ⟨bt, 12, none⟩ = some (.slice U el.length uc) := by rw [HBt1.out.cell]; rfl
      go_upto_region 15 with (first
       | (go_at_call 34; refine (HPu.out W10 HI10.out HI10.out).mono ?_; rintro e' W11 ⟨d0, d1, rfl, hb11, hp11⟩; have HC11 := Lib.hid (alCheck_any hp11 HSm1.out HCk1.out W11 (in_slf _ W11)); rw [HAl1.out] at HC11; have HB11 := Lib.hid hb11; clear hb11 hp11)
       | (go_at_call 25; refine HC11.out.mono ?_; rintro e' W12 ⟨rfl, hb12⟩))
      have HB12 := Lib.hid (below_step HB11.out hb12)
      have HI12 := Lib.hid (HI10.out.on HB12.out)
      have HBp12 := Lib.hid (HBp10.out.below HB12.out hbl)
      have HBs12 := Lib.hid (HBs10.out.below HB12.out hsl)
      have HBt12 := Lib.hid (HBt1.out.below HB12.out htl)
      have HB12W := Lib.hid (below_step HB10W.out HB12.out)
      clear hb12 HC11 HB11 HB12 HI10 HBp10 HBs10 HBt1 HB10W hbl hsl htl q0 q1 s10 t0 t1 t2 t3 t4 t5 t6 t7 t8 t9 t10 t11 t12 HPu HSm1 HCk1 HAl1 HEx1
      have hbl := HBp12.out.lt
      have hsl := HBs12.out.lt
      have htl := HBt12.out.lt
      have harl : args.length ≤ 1000000 := Nat.le_trans (args_w (.mk sid 4 labels nm proc x has args th el)) HW.out
      obtain ⟨m, hm, hMd⟩ := Mod_fix kk0 args.length HIm2.out harl
      have HMd := Lib.hid hMd
      obtain ⟨ab, o1, n1, s1, A1, l1, k1, rfl, hqa, ⟨p0, p1, p2, p3, p4, p5, _⟩, hs, hxa⟩ := arg_at HAg.out HI12.out hm
      have HTa : Hid (NmOk (.mk sid 4 labels nm proc x has args th el) args[m].nm ∨ args[m].ref = false) := Lib.hid (by
       cases hr : args[m].ref with
       | true => exact .inl (.inr ⟨args[m], List.getElem_mem hm, hr, rfl⟩)
       | false => exact .inr rfl)
      have HMm : Hid (∃ a ∈ args, a = args[m]) := Lib.hid ⟨_, List.getElem_mem hm, rfl⟩
      clear hxa hMd
      generalize args[m] = y at p0 p1 hs HTa HMm
      obtain ⟨xr, xnm, xx⟩ := y
      simp only at p0 p1 hs HTa
      have s10 : W12.cell? ⟨bs, 10, none⟩ = some (.slice (some ab) args.length rc) := by rw [HBs12.out.cell]; rfl
      have hal : (ab.add (m * 6)).block < W12.heap.size := by rw [block_add]; exact HI12.out.1 _ hqa
      have HK : Hid ((bs < W12.heap.size ∧ (ab.add (m * 6)).block < W12.heap.size) ∧ W12.cell? ⟨bs, 10, none⟩ = some (.slice (some ab) args.length rc) ∧ W12.cell? (ab.add (m * 6)) = some (.bool xr) ∧ W12.cell? ⟨(ab.add (m * 6)).block, (ab.add (m * 6)).off + 1, none⟩ = some (.string xnm) ∧ W12.cell? ⟨(ab.add (m * 6)).block, (ab.add (m * 6)).off + 2, none⟩ = some (.int .i64 o1) ∧ W12.cell? ⟨(ab.add (m * 6)).block, (ab.add (m * 6)).off + 3, none⟩ = some (.int .i64 n1) ∧ W12.cell? ⟨(ab.add (m * 6)).block, (ab.add (m * 6)).off + 4, none⟩ = some (.string s1) ∧ W12.cell? ⟨(ab.add (m * 6)).block, (ab.add (m * 6)).off + 5, none⟩ = some (.slice A1 l1 k1)) := Lib.hid ⟨⟨hsl, hal⟩, s10, p0, p1, p2, p3, p4, p5⟩
      have h0m : (0 : Int) ≤ (m : Int) := by omega
      have hdm : decide ((0 : Int) ≤ (m : Int)) = true := decide_eq_true h0m
      have hlm : (m : Int) < (args.length : Int) := by omega
      have hdl : decide ((m : Int) < (args.length : Int)) = true := decide_eq_true hlm
      have hBD : Below W12.heap.size W12 W12.drew := (Below.refl _ _).drew
      have hBA : Below W12.heap.size W12 (W12.alloc (.cells #[.bool false, .string ⟨#[]⟩, .int .i64 0, .int .i64 0, .string ⟨#[]⟩, .slice none 0 0] 61)).drew := (below_box _).drew
      have hwb : W.heap.size ≤ W12.heap.size := HB12W.out.size
      have hB00 : Below W12.heap.size W12 W12 := Below.refl _ _
      have hBC : Below W12.heap.size W12 (W12.alloc (.cells #[.bool xr, .string xnm, .int .i64 o1, .int .i64 n1, .string s1, .slice A1 l1 k1] 61)).drew := (below_box _).drew
      have hzB := Blk.new W12.drew 61 #[.bool false, .string ⟨#[]⟩, .int .i64 0, .int .i64 0, .string ⟨#[]⟩, .slice none 0 0]
      have hzs : (W12.drew).heap.size = W12.heap.size := rfl
      rw [hzs] at hzB
      have zf0_ := hzB.frozen 0
      have zc0_ : ((W12.drew).alloc (.cells #[.bool false, .string ⟨#[]⟩, .int .i64 0, .int .i64 0, .string ⟨#[]⟩, .slice none 0 0] 61)).cell? ⟨W12.heap.size, 0, none⟩ = some (.bool false) := by rw [hzB.cell]; rfl
      have zf1_ := hzB.frozen 1
      have zc1_ : ((W12.drew).alloc (.cells #[.bool false, .string ⟨#[]⟩, .int .i64 0, .int .i64 0, .string ⟨#[]⟩, .slice none 0 0] 61)).cell? ⟨W12.heap.size, 1, none⟩ = some (.string ⟨#[]⟩) := by rw [hzB.cell]; rfl
      have zf2_ := hzB.frozen 2
      have zc2_ : ((W12.drew).alloc (.cells #[.bool false, .string ⟨#[]⟩, .int .i64 0, .int .i64 0, .string ⟨#[]⟩, .slice none 0 0] 61)).cell? ⟨W12.heap.size, 2, none⟩ = some (.int .i64 0) := by rw [hzB.cell]; rfl
      have zf3_ := hzB.frozen 3
      have zc3_ : ((W12.drew).alloc (.cells #[.bool false, .string ⟨#[]⟩, .int .i64 0, .int .i64 0, .string ⟨#[]⟩, .slice none 0 0] 61)).cell? ⟨W12.heap.size, 3, none⟩ = some (.int .i64 0) := by rw [hzB.cell]; rfl
      have zf4_ := hzB.frozen 4
      have zc4_ : ((W12.drew).alloc (.cells #[.bool false, .string ⟨#[]⟩, .int .i64 0, .int .i64 0, .string ⟨#[]⟩, .slice none 0 0] 61)).cell? ⟨W12.heap.size, 4, none⟩ = some (.string ⟨#[]⟩) := by rw [hzB.cell]; rfl
      have zf5_ := hzB.frozen 5
      have zc5_ : ((W12.drew).alloc (.cells #[.bool false, .string ⟨#[]⟩, .int .i64 0, .int .i64 0, .string ⟨#[]⟩, .slice none 0 0] 61)).cell? ⟨W12.heap.size, 5, none⟩ = some (.slice none 0 0) := by rw [hzB.cell]; rfl
      have HZB := Lib.hid hzB
      clear hzB hzs
      go_cut [10] from 49 to 57 (fun s wx => ∃ ba, s = .pointer (some ⟨ba, 0, none⟩) ∧ Hid (PkA W12 wx ba xr xnm))
      case first =>
       go_region_held3 (fun w' => w'.cell? ⟨bs, 10, none⟩ = some (.slice (some ab) args.length rc) ∧ (w'.cell? (ab.add (m * 6)) = some (.bool xr) ∧ w'.cell? ⟨(ab.add (m * 6)).block, (ab.add (m * 6)).off + 1, none⟩ = some (.string xnm) ∧ w'.cell? ⟨(ab.add (m * 6)).block, (ab.add (m * 6)).off + 2, none⟩ = some (.int .i64 o1) ∧ w'.cell? ⟨(ab.add (m * 6)).block, (ab.add (m * 6)).off + 3, none⟩ = some (.int .i64 n1) ∧ w'.cell? ⟨(ab.add (m * 6)).block, (ab.add (m * 6)).off + 4, none⟩ = some (.string s1) ∧ w'.cell? ⟨(ab.add (m * 6)).block, (ab.add (m * 6)).off + 5, none⟩ = some (.slice A1 l1 k1)) ∧ Below W12.heap.size W12 w')
        ((refine pk_of ?_ HK.out; first | (with_reducible assumption) | (go_split_ands; with_reducible assumption) | (go_split_ands; (with_reducible refine below_stepA ?_ _); with_reducible assumption) | (go_split_ands; (iterate 6 (with_reducible refine below_setc ?_ (by exact Nat.le_refl _) _)); with_reducible assumption)))
        ((go_at_call 35; refine (HMd.out _).mono ?_; rintro e' Wm ⟨rfl, rfl⟩))
       all_goals (go_wp2_with fail; go_meet; exact ⟨_, rfl, Lib.hid ⟨hBC, Nat.le_refl _, o1, n1, s1, A1, l1, k1, Blk.new _ _ _⟩⟩)
      case rest =>
       obtain ⟨ba, rfl, HPa⟩ := hcut
       have HB13 := Lib.hid HPa.out.below
       have hba := HPa.out.ge
       obtain ⟨o1', n1', s1', A1', l1', k1', hab⟩ := HPa.out.out
       have HBa := Lib.hid hab
       have HI13 := Lib.hid (HI12.out.on HB13.out)
       have HBp13 := Lib.hid (HBp12.out.below HB13.out hbl)
       have HBt13 := Lib.hid (HBt12.out.below HB13.out htl)
       have HB13W := Lib.hid (below_step HB12W.out HB13.out)
       have hne : ba ≠ bt := by omega
       have hnb : b ≠ bt := by omega
       clear HPa hab HK h0m hdm hlm hdl hBD hBA hB00 hBC zf0_ zc0_ zf1_ zc1_ zf2_ zc2_ zf3_ zc3_ zf4_ zc4_ zf5_ zc5_ HZB HB13 HI12 HBp12 HBs12 HBt12 HB12W p0 p1 p2 p3 p4 p5 s10 hal HMd
       have hbl := HBp13.out.lt
       have z1 : wc.cell? ⟨ba, 1, none⟩ = some (.string xnm) := by rw [HBa.out.cell]; rfl
       have f3_ := HBt13.out.frozen 3
       have t3_ : wc.cell? ⟨bt, 3, none⟩ = some (.string ⟨#[]⟩) := by rw [HBt13.out.cell]; rfl
       go_upto_region 17 with fail
       have HBt14 : Hid (Blk (wc.setCell ⟨bt, 3, none⟩ (.string xnm)) bt 49 #[.int .i64 sid, .int .i64 4, .slice L labels.length lc, .string xnm, .string proc, .int .i64 y0, .int .i64 y1, .string y2, .slice X xn xc, .bool has, .slice (some ab) args.length rc, .slice T th.length tc, .slice U el.length uc]) := Lib.hid (by
        have h := HBt13.out.set_ 3 (.string xnm)
        simp only [List.setIfInBounds_toArray, List.set_cons_zero, List.set_cons_succ] at h
        exact h)
       have HMv : Hid (Moves (fun j => j = bt) wc (wc.setCell ⟨bt, 3, none⟩ (.string xnm))) := Lib.hid (setMoves wc ⟨bt, 3, none⟩ (.string xnm))
       have HB14W : Hid (Below W.heap.size W (wc.setCell ⟨bt, 3, none⟩ (.string xnm))) := Lib.hid (below_setc HB13W.out hW8 _)
       clear f3_ t3_ z1
       generalize World.setCell wc _ _ = W14 at HBt14 HMv HB14W ⊢
       have HI14 := Lib.hid (HI13.out.moves HMv.out (fun j hj hq => by subst hj; exact Nat.lt_irrefl _ (hQ8.out _ hq)))
       have HBp14 := Lib.hid (HMv.out.blk HBp13.out hnb)
       have HBa14 := Lib.hid (HMv.out.blk HBa.out hne)
       clear HMv HBt13 HI13 HBp13 HBa HB13W
       have z0 : W14.cell? ⟨ba, 0, none⟩ = some (.bool xr) := by rw [HBa14.out.cell]; rfl
       cases xr with
       | false =>
        go_wp2_with fail
        go_ret
        exact ⟨rfl, HB14W.out⟩
       | true =>
        have hnk : NmOk (.mk sid 4 labels nm proc x has args th el) xnm := by
         rcases HTa.out with h | h
         ·exact h
         ·cases h
        obtain ⟨a0, ha0, he0⟩ := HMm.out
        have HT0 := Lib.hid (HTn.out xnm hnk)
        have hst0 := stmt_nm (n := xnm) HSi.out hs
        have hokc : okC (.mk sid 4 labels nm proc x has args th el) := okC_of HW.out
        have HEx1 := Lib.hid (fun proc => HEx.out W14 HI14.out proc)
        have HPu := Lib.hid (fun V h1 h2 => Put_any (W := V) HP.out hst0 h1 h2 (fits_smG HFt.out) (show okC (.mk sid 4 labels xnm proc x has args th el) from hokc))
        have HSm1 : Hid (SmG (putP (.mk sid 4 labels xnm proc x has args th el) p)) := Lib.hid (nm_smG HFt.out HT0.out)
        have HCk1 := Lib.hid (nm_hck HFt.out HT0.out)
        have HAl1 : Hid (alP (putP (.mk sid 4 labels xnm proc x has args th el) p) = (8, sid)) := Lib.hid (HT0.out.two HEx1.out ha0 (by rw [he0]) (by rw [he0]))
        have hss : (sid == sid) = true := by simp
        clear hst0 hokc HT0 hnk ha0 he0
        have q0 : W14.cell? ⟨b, 0, none⟩ = some (.slice Ag p.globals.length cg) := by rw [HBp14.out.cell]; rfl
        have q1 : W14.cell? ⟨b, 1, none⟩ = some (.slice Ap p.procs.length cp) := by rw [HBp14.out.cell]; rfl
        have t0 : W14.cell? ⟨bt, 0, none⟩ = some (.int .i64 sid) := by rw [HBt14.out.cell]; rfl
        have t1 : W14.cell? ⟨bt, 1, none⟩ = some (.int .i64 4) := by rw [HBt14.out.cell]; rfl
        have t2 : W14.cell? ⟨bt, 2, none⟩ = some (.slice L labels.length lc) := by rw [HBt14.out.cell]; rfl
        have t3 : W14.cell? ⟨bt, 3, none⟩ = some (.string xnm) := by rw [HBt14.out.cell]; rfl
        have t4 : W14.cell? ⟨bt, 4, none⟩ = some (.string proc) := by rw [HBt14.out.cell]; rfl
        have t5 : W14.cell? ⟨bt, 5, none⟩ = some (.int .i64 y0) := by rw [HBt14.out.cell]; rfl
        have t6 : W14.cell? ⟨bt, 6, none⟩ = some (.int .i64 y1) := by rw [HBt14.out.cell]; rfl
        have t7 : W14.cell? ⟨bt, 7, none⟩ = some (.string y2) := by rw [HBt14.out.cell]; rfl
        have t8 : W14.cell? ⟨bt, 8, none⟩ = some (.slice X xn xc) := by rw [HBt14.out.cell]; rfl
        have t9 : W14.cell? ⟨bt, 9, none⟩ = some (.bool has) := by rw [HBt14.out.cell]; rfl
        have t10 : W14.cell? ⟨bt, 10, none⟩ = some (.slice (some ab) args.length rc) := by rw [HBt14.out.cell]; rfl
        have t11 : W14.cell? ⟨bt, 11, none⟩ = some (.slice T th.length tc) := by rw [HBt14.out.cell]; rfl
        have t12 : W14.cell? ⟨bt, 12, none⟩ = some (.slice U el.length uc) := by rw [HBt14.out.cell]; rfl
        go_wp2_with (first
         | (go_at_call 34; refine (HPu.out W14 HI14.out HI14.out).mono ?_; rintro e' W15 ⟨d0, d1, rfl, hb15, hp15⟩; have HC15 := Lib.hid (alCheck_any hp15 HSm1.out HCk1.out W15 (in_slf _ W15)); rw [HAl1.out] at HC15; have HB15 := Lib.hid hb15; clear hb15 hp15)
         | (go_at_call 25; refine HC15.out.mono ?_; rintro e' W16 ⟨rfl, hb16⟩))
        go_ret
        exact ⟨rfl, below_step HB14W.out (below_step HB15.out hb16)⟩
   ·generalize arP p = r1 at HCA ha
    generalize alP p = r2 at HCL hl
    obtain ⟨a1, a2⟩ := r1
    obtain ⟨l1, l2⟩ := r2
    simp only at ha hl
    subst ha
    have hr1 : (l1 == 0) = false := beq_eq_false_iff_ne.2 hl
    have hr2 : (l1 != 0) = true := by simp [bne, hr1]
    go_wp2_with (first
     | (go_at_call 33; refine (HCA.out W2 HI2.out).mono ?_; rintro e' W3 ⟨rfl, hb3⟩; have HB3 : Hid (Below W.heap.size W W3) := Lib.hid (below_step HB2.out hb3); have HI3 := Lib.hid (HI2.out.on hb3); have HBp3 := Lib.hid (HBp2.out.below hb3 hbl); have r0 : W3.cell? ⟨b, 0, none⟩ = some (.slice Ag p.globals.length cg) := (by rw [HBp3.out.cell]; rfl); have r1 : W3.cell? ⟨b, 1, none⟩ = some (.slice Ap p.procs.length cp) := (by rw [HBp3.out.cell]; rfl); clear hb3)
     | (go_at_call 25; refine (HCL.out W3 HI3.out).mono ?_; rintro e' W4 ⟨rfl, hb4⟩; have HB4 : Hid (Below W.heap.size W W4) := Lib.hid (below_step HB3.out hb4); clear hb4))
    go_ret
    exact ⟨rfl, HB4.out⟩
  ·generalize arP p = r1 at HCA ha
   obtain ⟨a1, a2⟩ := r1
   simp only at ha
   have hr1 : (a1 == 0) = false := beq_eq_false_iff_ne.2 ha
   have hr2 : (a1 != 0) = true := by simp [bne, hr1]
   go_wp2_with (go_at_call 33; refine (HCA.out W2 HI2.out).mono ?_; rintro e' W3 ⟨rfl, hb3⟩; have HB3 : Hid (Below W.heap.size W W3) := Lib.hid (below_step HB2.out hb3); clear hb3)
   go_ret
   exact ⟨rfl, HB3.out⟩
end Go.Proofs.YtimejkbmfbjomaaGreat
