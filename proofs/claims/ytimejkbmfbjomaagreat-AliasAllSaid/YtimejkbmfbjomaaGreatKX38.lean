/- Texts, merged by a program; only what is used. -/
import Derived.Test.YtimejkbmfbjomaaGreatKX1
import Derived.Test.YtimejkbmfbjomaaGreatKX2
import Derived.Test.YtimejkbmfbjomaaGreatKX3
import Derived.Test.YtimejkbmfbjomaaGreatKX4
import Derived.Test.YtimejkbmfbjomaaGreatKX5
import Derived.Test.YtimejkbmfbjomaaGreatKX6
import Derived.Test.YtimejkbmfbjomaaGreatKX7
import Derived.Test.YtimejkbmfbjomaaGreatKX8
import Derived.Test.YtimejkbmfbjomaaGreatKX9
import Derived.Test.YtimejkbmfbjomaaGreatKX10
import Derived.Test.YtimejkbmfbjomaaGreatKX11
import Derived.Test.YtimejkbmfbjomaaGreatKX12
import Derived.Test.YtimejkbmfbjomaaGreatKX13
import Derived.Test.YtimejkbmfbjomaaGreatKX14
import Derived.Test.YtimejkbmfbjomaaGreatKX15
import Derived.Test.YtimejkbmfbjomaaGreatKX16
import Derived.Test.YtimejkbmfbjomaaGreatKX17
import Derived.Test.YtimejkbmfbjomaaGreatKX18
import Derived.Test.YtimejkbmfbjomaaGreatKX19
import Derived.Test.YtimejkbmfbjomaaGreatKX20
import Derived.Test.YtimejkbmfbjomaaGreatKX21
import Derived.Test.YtimejkbmfbjomaaGreatKX22
import Derived.Test.YtimejkbmfbjomaaGreatKX23
import Derived.Test.YtimejkbmfbjomaaGreatKX24
import Derived.Test.YtimejkbmfbjomaaGreatKX25
import Derived.Test.YtimejkbmfbjomaaGreatKX26
import Derived.Test.YtimejkbmfbjomaaGreatKX27
import Derived.Test.YtimejkbmfbjomaaGreatKX28
import Derived.Test.YtimejkbmfbjomaaGreatKX29
import Derived.Test.YtimejkbmfbjomaaGreatKX30
import Derived.Test.YtimejkbmfbjomaaGreatKX31
import Derived.Test.YtimejkbmfbjomaaGreatKX32
import Derived.Test.YtimejkbmfbjomaaGreatKX33
import Derived.Test.YtimejkbmfbjomaaGreatKX34
import Derived.Test.YtimejkbmfbjomaaGreatKX35
import Derived.Test.YtimejkbmfbjomaaGreatKX36
import Derived.Test.YtimejkbmfbjomaaGreatKX37
namespace Go.Proofs.YtimejkbmfbjomaaGreat
open Go.ChangeShapes Go.WideShapes Go.ChangeAt Go.RowKit Go.Deep
set_option linter.unusedVariables false
set_option linter.unusedSimpArgs false
theorem alf_eq {p : Pg} {s : S} : alfB p s = apA p s := by
 unfold alfB apA raB fitsA
 by_cases h : (arP p).1 = 0
 ·rw [decide_eq_true h, decide_eq_true (arP_two h).2, Bool.true_and, Bool.true_and, Bool.true_and]
 ·rw [decide_eq_false h, Bool.false_and, Bool.false_and]
theorem pick_args {p : Pg} (hs : SmG p) (hm : mayP p = true) {id : Int} (hi : (idsOf 0 (allOf p) = [] ∧ id = 0) ∨ id ∈ idsOf 0 (allOf p)) : (stP p id).args.length ≤ 1000000 ∧ ∀ a ∈ (stP p id).args, a.ref = true → (a.nm.toList == []) = false := by
 rcases hi with ⟨_, rfl⟩ | hi
 ·have hn : rfL p.procs 0 = none := rfL_none p.procs 0 (fun q hq => ((may_flat hm).1 q hq).1) (fun q hq s hs => by have := may_ids hm q hq s hs; omega)
  have e : (stP p 0).args = [] := by unfold stP; rw [hn]; rfl
  rw [e]
  exact ⟨by simp, fun a ha => by cases ha⟩
 ·obtain ⟨q, s, hat, _, _⟩ := ids_at hm hi
  rw [hat.st]
  exact ⟨may_args hs q hat.mem s hat.stm, may_refs hm q hat.mem s hat.stm⟩
set_option maxHeartbeats 8000000 in
set_option maxRecDepth 100000 in
theorem aliasAll_walk {w : World} {Q : Nat → Prop} {p : Pg} {c0 c1 : Value} (h : ProgI w Q p [c0, c1]) (n : Int) (wn : (Lit.int .i64 n).wf = true) (W : World) (hI : In Q w W) :
 Calls Tryz.prog 5 #[.agg #[c0, c1], .int .i64 n] W fun e w' => e = .returned (.bool true) ∧ Below W.heap.size W w' := by
 have HP := Lib.hid h
 have HF := Lib.hid (fun V h1 => Fits_any h V h1)
 have HI := Lib.hid hI
 obtain ⟨Ag, cg, Ap, cp, rfl, rfl, _⟩ := prog_open h
 clear h hI
 go_enter Tryz.func5, Tryz.ntmps5
 go_upto_region 1 with fail
 have HB0 : Hid (Below W.heap.size W (W.alloc (.cells #[.slice Ag p.globals.length cg, .slice Ap p.procs.length cp] 25))) := Lib.hid (below_box _)
 have HBp0 : Hid (Blk (W.alloc (.cells #[.slice Ag p.globals.length cg, .slice Ap p.procs.length cp] 25)) W.heap.size 25 #[.slice Ag p.globals.length cg, .slice Ap p.procs.length cp]) := Lib.hid (Blk.new _ _ _)
 generalize World.alloc _ _ = W0 at HB0 HBp0 ⊢
 have HI0 := Lib.hid (HI.out.on HB0.out)
 generalize hbe : W.heap.size = b at HBp0 ⊢
 clear hbe
 go_upto_region 3 with (go_at_call 24; refine (apart_any W0).mono ?_; rintro e' W1 ⟨rfl, hb1⟩)
 have HB1 : Hid (Below W.heap.size W W1) := Lib.hid (below_step HB0.out hb1)
 have HI1 := Lib.hid (HI0.out.on hb1)
 have HBp1 := Lib.hid (HBp0.out.below hb1 HBp0.out.lt)
 clear hb1 HB0 HBp0 HI0
 have q0 : W1.cell? ⟨b, 0, none⟩ = some (.slice Ag p.globals.length cg) := by rw [HBp1.out.cell]; rfl
 have q1 : W1.cell? ⟨b, 1, none⟩ = some (.slice Ap p.procs.length cp) := by rw [HBp1.out.cell]; rfl
 have hbl := HBp1.out.lt
 cases hf : fitsP p with
 | false =>
  rw [hf] at HF
  clear hf
  go_wp2_with (go_at_call 9; refine (HF.out _ HI1.out).mono ?_; rintro e' W2 ⟨rfl, hb2⟩)
  go_ret
  exact ⟨rfl, below_step HB1.out hb2⟩
 | true =>
  have HSg := Lib.hid (fits_smG hf)
  have HC := Lib.hid (fun V hV => alCheck_any HP.out (fits_smG hf) (fun hc => fits_hck hf hc) V hV)
  have HR := Lib.hid (fun V hV => rAlias_any HP.out (fits_smG hf) (fun hc => fits_hck hf hc) (fun hc => fits_said hf (ck_ok9 hc).may) V hV)
  have HM := Lib.hid (fun V hV => May_any HP.out V hV)
  have HIs := Lib.hid (fun V hV => Ids_any HP.out 0 (by simp [i64]) V hV)
  have HSt := Lib.hid (fun id V hV => rStmt_any HP.out id V hV)
  have HFi := Lib.hid (fun s cs (hs : StmtI w Q s cs) (hna : s.args.length ≤ 1000000) V hV => by have h2 := alFits_all HP.out (fits_smG hf) (fun hc => fits_hck hf hc) hs hna V hV; rw [alf_eq] at h2; exact h2)
  have HCf := Lib.hid (fun s cs (hs : StmtI w Q s cs) (hna : s.args.length ≤ 1000000) (hra : ∀ a ∈ s.args, a.ref = true → (a.nm.toList == []) = false) V hV => rApart_any HP.out (fits_smG hf) (fun hc => fits_hck hf hc) (fun hc => fits_said hf (ck_ok9 hc).may) hs hna hra V hV)
  rw [hf] at HF
  clear hf
  go_upto_region 5 with (go_at_call 9; refine (HF.out _ HI1.out).mono ?_; rintro e' W2 ⟨rfl, hb2⟩)
  have HB2 : Hid (Below W.heap.size W W2) := Lib.hid (below_step HB1.out hb2)
  have HI2 := Lib.hid (HI1.out.on hb2)
  have HBp2 := Lib.hid (HBp1.out.below hb2 hbl)
  clear hb2 HB1 HI1 HBp1 q0 q1 hbl HF
  have q0 : W2.cell? ⟨b, 0, none⟩ = some (.slice Ag p.globals.length cg) := by rw [HBp2.out.cell]; rfl
  have q1 : W2.cell? ⟨b, 1, none⟩ = some (.slice Ap p.procs.length cp) := by rw [HBp2.out.cell]; rfl
  have hbl := HBp2.out.lt
  have HIds := Lib.hid (fun hm => all_ids (p := p) hm)
  generalize alP p = r at HC HR
  obtain ⟨qc, qi⟩ := r
  have HS1 : Hid (∀ w' : World, Below W2.heap.size W2 w' → (w'.cell? ⟨b, 0, none⟩ = some (.slice Ag p.globals.length cg) ∧ w'.cell? ⟨b, 1, none⟩ = some (.slice Ap p.procs.length cp))) := Lib.hid (fun w' hb => ⟨(hb.cell (p := ⟨b, 0, none⟩) hbl).trans q0, (hb.cell (p := ⟨b, 1, none⟩) hbl).trans q1⟩)
  have hBD : Below W2.heap.size W2 W2.drew := (Below.refl _ _).drew
  have hdr : ∀ V : World, In Q w V → In Q w V.drew := fun V h => h
  go_region_held3 (fun w' => w'.cell? ⟨b, 0, none⟩ = some (.slice Ag p.globals.length cg) ∧ w'.cell? ⟨b, 1, none⟩ = some (.slice Ap p.procs.length cp))
   ((refine HS1.out _ ?_; with_reducible assumption))
   (first
    | (go_at_call 25; (with_reducible refine (HC.out W2.drew (hdr W2 HI2.out)).mono ?_); rintro e' W3 ⟨rfl, hb3⟩; have g3 : Below W2.heap.size W2 W3 := hBD.trans hb3; have HI3 := Lib.hid (HI2.out.on g3))
    | (go_at_call 26; (with_reducible refine (HR.out W3 HI3.out).mono ?_); rintro e' W4 ⟨rfl, hb4⟩; have g4 : Below W2.heap.size W2 W4 := below_step g3 hb4))
  have HB4 := Lib.hid (below_step HB2.out g4)
  have HI4 := Lib.hid (HI2.out.on g4)
  have HBp4 := Lib.hid (HBp2.out.below g4 hbl)
  clear g3 hb3 g4 hb4 HI3 HS1 hBD q0 q1 hbl HC HR HB2 HI2 HBp2
  have hbl := HBp4.out.lt
  have q0 : W4.cell? ⟨b, 0, none⟩ = some (.slice Ag p.globals.length cg) := by rw [HBp4.out.cell]; rfl
  have q1 : W4.cell? ⟨b, 1, none⟩ = some (.slice Ap p.procs.length cp) := by rw [HBp4.out.cell]; rfl
  cases hm : mayP p with
  | false =>
   rw [hm] at HM
   clear hm
   go_wp2_with (go_at_call 27; refine (HM.out W4 HI4.out).mono ?_; rintro e' W5 ⟨rfl, hb5⟩)
   go_ret
   exact ⟨rfl, below_step HB4.out hb5⟩
  | true =>
   have HId2 := Lib.hid (HIds.out hm)
   have HPg := Lib.hid (fun id hi => pick_args HSg.out hm (id := id) hi)
   rw [hm] at HM
   clear hm HIds
   go_upto_region 9 with (go_at_call 27; refine (HM.out W4 HI4.out).mono ?_; rintro e' W5 ⟨rfl, hb5⟩)
   have HB5 := Lib.hid (below_step HB4.out hb5)
   have HI5 := Lib.hid (HI4.out.on hb5)
   have HBp5 := Lib.hid (HBp4.out.below hb5 hbl)
   clear hb5 q0 q1 hbl HB4 HI4 HBp4 HM
   have hbl := HBp5.out.lt
   have q0 : W5.cell? ⟨b, 0, none⟩ = some (.slice Ag p.globals.length cg) := by rw [HBp5.out.cell]; rfl
   have q1 : W5.cell? ⟨b, 1, none⟩ = some (.slice Ap p.procs.length cp) := by rw [HBp5.out.cell]; rfl
   have HLn : Hid ((idsOf 0 (allOf p)).length ≤ 1000) := Lib.hid (by
    have h1 := allL_len p.procs [] (by simp)
    have h2 := idsOf_len (kind := 0) (l := allOf p) (k := (allOf p).length)
    rw [List.take_length] at h2
    have h3 : (allOf p).length ≤ 401 := h1
    omega)
   have HIb : Hid (∀ i ∈ idsOf 0 (allOf p), i64 i) := Lib.hid (fun i hi => by
    unfold idsOf at hi
    rw [List.mem_map] at hi
    obtain ⟨x, hx, rfl⟩ := hi
    have := HId2.out x (List.mem_filter.1 hx).1
    unfold i64
    omega)
   generalize idsOf 0 (allOf p) = il at HIs HLn HIb HPg
   clear HId2
   go_upto_region 10 with (first
    | (go_at_call 29; refine (HIs.out W5 HI5.out).mono ?_; rintro e' W6 ⟨v6, rfl, ho6, hb6⟩; obtain ⟨X6, k6, rfl, _, _⟩ := own_shape ho6; have HPk := Lib.hid (Pick_any ho6 HLn.out HIb.out n (Below.refl _ _)); have HB6 := Lib.hid hb6; clear ho6 hb6)
    | (go_at_call 28; refine HPk.out.mono ?_; rintro e' W7 ⟨id, hidm, rfl, rfl⟩))
   have hid : i64 id := by rcases hidm with ⟨_, rfl⟩ | h; simp [i64]; exact HIb.out _ h
   unfold i64 at hid
   have HPa := Lib.hid (HPg.out id hidm)
   have HI6 := Lib.hid (HI5.out.on HB6.out)
   have HBp6 := Lib.hid (HBp5.out.below HB6.out hbl)
   have HB6W := Lib.hid (below_step HB5.out HB6.out)
   clear q0 q1 hbl hidm HPk HIs HLn HIb HB5 HI5 HBp5 HB6
   have hbl := HBp6.out.lt
   have q0 : W6.cell? ⟨b, 0, none⟩ = some (.slice Ag p.globals.length cg) := by rw [HBp6.out.cell]; rfl
   have q1 : W6.cell? ⟨b, 1, none⟩ = some (.slice Ap p.procs.length cp) := by rw [HBp6.out.cell]; rfl
   have HS0 := Lib.hid (fun V hV => HSt.out id V hV)
   generalize stP p id = s at HS0 HPa
   go_upto_region 11 with (go_at_call 30; refine (HS0.out W6 HI6.out).mono ?_; rintro e' W7 ⟨cs, rfl, hst, hb7⟩; obtain ⟨sid, kind, labels, nm, proc, x, has, args, th, el, L, lc, y0, y1, y2, X, xn, xc, R, rc, T, tc, U, uc, rfl, rfl, _⟩ := stmt_open hst; have HSi := Lib.hid hst; clear hst)
   have HFs := Lib.hid (fun V hV => HFi.out _ _ HSi.out HPa.out.1 V hV)
   have HCs := Lib.hid (fun V hV => HCf.out _ _ HSi.out HPa.out.1 HPa.out.2 V hV)
   have HB8 : Hid (Below W6.heap.size W6 (W7.alloc (.cells #[.int .i64 sid, .int .i64 kind, .slice L labels.length lc, .string nm, .string proc, .int .i64 y0, .int .i64 y1, .string y2, .slice X xn xc, .bool has, .slice R args.length rc, .slice T th.length tc, .slice U el.length uc] 49))) := Lib.hid (below_stepA hb7 _)
   have HBs8 : Hid (Blk (W7.alloc (.cells #[.int .i64 sid, .int .i64 kind, .slice L labels.length lc, .string nm, .string proc, .int .i64 y0, .int .i64 y1, .string y2, .slice X xn xc, .bool has, .slice R args.length rc, .slice T th.length tc, .slice U el.length uc] 49)) W7.heap.size 49 #[.int .i64 sid, .int .i64 kind, .slice L labels.length lc, .string nm, .string proc, .int .i64 y0, .int .i64 y1, .string y2, .slice X xn xc, .bool has, .slice R args.length rc, .slice T th.length tc, .slice U el.length uc]) := Lib.hid (Blk.new _ _ _)
   clear hb7 q0 q1 HSi HS0 HSt HFi HCf HPa HPg
   generalize apA p (.mk sid kind labels nm proc x has args th el) = fb at HFs HCs
   generalize World.alloc W7 _ = W8 at HB8 HBs8 ⊢
   generalize W7.heap.size = bs at HBs8 ⊢
   have HI8 := Lib.hid (HI6.out.on HB8.out)
   have HBp8 := Lib.hid (HBp6.out.below HB8.out hbl)
   have HB8W := Lib.hid (below_step HB6W.out HB8.out)
   clear hbl
   have hbl := HBp8.out.lt
   have hsl := HBs8.out.lt
   have q0 : W8.cell? ⟨b, 0, none⟩ = some (.slice Ag p.globals.length cg) := by rw [HBp8.out.cell]; rfl
   have q1 : W8.cell? ⟨b, 1, none⟩ = some (.slice Ap p.procs.length cp) := by rw [HBp8.out.cell]; rfl
   have s0 : W8.cell? ⟨bs, 0, none⟩ = some (.int .i64 sid) := by rw [HBs8.out.cell]; rfl
   have s1 : W8.cell? ⟨bs, 1, none⟩ = some (.int .i64 kind) := by rw [HBs8.out.cell]; rfl
   have s2 : W8.cell? ⟨bs, 2, none⟩ = some (.slice L labels.length lc) := by rw [HBs8.out.cell]; rfl
   have s3 : W8.cell? ⟨bs, 3, none⟩ = some (.string nm) := by rw [HBs8.out.cell]; rfl
   have s4 : W8.cell? ⟨bs, 4, none⟩ = some (.string proc) := by rw [HBs8.out.cell]; rfl
   have s5 : W8.cell? ⟨bs, 5, none⟩ = some (.int .i64 y0) := by rw [HBs8.out.cell]; rfl
   have s6 : W8.cell? ⟨bs, 6, none⟩ = some (.int .i64 y1) := by rw [HBs8.out.cell]; rfl
   have s7 : W8.cell? ⟨bs, 7, none⟩ = some (.string y2) := by rw [HBs8.out.cell]; rfl
   have s8 : W8.cell? ⟨bs, 8, none⟩ = some (.slice X xn xc) := by rw [HBs8.out.cell]; rfl
   have s9 : W8.cell? ⟨bs, 9, none⟩ = some (.bool has) := by rw [HBs8.out.cell]; rfl
   have s10 : W8.cell? ⟨bs, 10, none⟩ = some (.slice R args.length rc) := by rw [HBs8.out.cell]; rfl
   have s11 : W8.cell? ⟨bs, 11, none⟩ = some (.slice T th.length tc) := by rw [HBs8.out.cell]; rfl
   have s12 : W8.cell? ⟨bs, 12, none⟩ = some (.slice U el.length uc) := by rw [HBs8.out.cell]; rfl
   by_cases h0 : id = 0
   ·subst h0
    go_quiet (fail)
    go_wp2_with fail
    go_ret
    exact ⟨rfl, below_drewN HB8W.out _⟩
   ·have h1 : (id == 0) = false := beq_eq_false_iff_ne.2 h0
    have HS8 : Hid (∀ w' : World, Below W8.heap.size W8 w' → (w'.cell? ⟨b, 0, none⟩ = some (.slice Ag p.globals.length cg) ∧ w'.cell? ⟨b, 1, none⟩ = some (.slice Ap p.procs.length cp) ∧ w'.cell? ⟨bs, 0, none⟩ = some (.int .i64 sid) ∧ w'.cell? ⟨bs, 1, none⟩ = some (.int .i64 kind) ∧ w'.cell? ⟨bs, 2, none⟩ = some (.slice L labels.length lc) ∧ w'.cell? ⟨bs, 3, none⟩ = some (.string nm) ∧ w'.cell? ⟨bs, 4, none⟩ = some (.string proc) ∧ w'.cell? ⟨bs, 5, none⟩ = some (.int .i64 y0) ∧ w'.cell? ⟨bs, 6, none⟩ = some (.int .i64 y1) ∧ w'.cell? ⟨bs, 7, none⟩ = some (.string y2) ∧ w'.cell? ⟨bs, 8, none⟩ = some (.slice X xn xc) ∧ w'.cell? ⟨bs, 9, none⟩ = some (.bool has) ∧ w'.cell? ⟨bs, 10, none⟩ = some (.slice R args.length rc) ∧ w'.cell? ⟨bs, 11, none⟩ = some (.slice T th.length tc) ∧ w'.cell? ⟨bs, 12, none⟩ = some (.slice U el.length uc))) := Lib.hid (fun w' hb => ⟨(hb.cell (p := ⟨b, 0, none⟩) hbl).trans q0, (hb.cell (p := ⟨b, 1, none⟩) hbl).trans q1, (hb.cell (p := ⟨bs, 0, none⟩) hsl).trans s0, (hb.cell (p := ⟨bs, 1, none⟩) hsl).trans s1, (hb.cell (p := ⟨bs, 2, none⟩) hsl).trans s2, (hb.cell (p := ⟨bs, 3, none⟩) hsl).trans s3, (hb.cell (p := ⟨bs, 4, none⟩) hsl).trans s4, (hb.cell (p := ⟨bs, 5, none⟩) hsl).trans s5, (hb.cell (p := ⟨bs, 6, none⟩) hsl).trans s6, (hb.cell (p := ⟨bs, 7, none⟩) hsl).trans s7, (hb.cell (p := ⟨bs, 8, none⟩) hsl).trans s8, (hb.cell (p := ⟨bs, 9, none⟩) hsl).trans s9, (hb.cell (p := ⟨bs, 10, none⟩) hsl).trans s10, (hb.cell (p := ⟨bs, 11, none⟩) hsl).trans s11, (hb.cell (p := ⟨bs, 12, none⟩) hsl).trans s12⟩)
    have hBD : Below W8.heap.size W8 W8.drew := (Below.refl _ _).drew
    clear h0
    cases fb
    all_goals
     go_region_held3 (fun w' => w'.cell? ⟨b, 0, none⟩ = some (.slice Ag p.globals.length cg) ∧ w'.cell? ⟨b, 1, none⟩ = some (.slice Ap p.procs.length cp) ∧ w'.cell? ⟨bs, 0, none⟩ = some (.int .i64 sid) ∧ w'.cell? ⟨bs, 1, none⟩ = some (.int .i64 kind) ∧ w'.cell? ⟨bs, 2, none⟩ = some (.slice L labels.length lc) ∧ w'.cell? ⟨bs, 3, none⟩ = some (.string nm) ∧ w'.cell? ⟨bs, 4, none⟩ = some (.string proc) ∧ w'.cell? ⟨bs, 5, none⟩ = some (.int .i64 y0) ∧ w'.cell? ⟨bs, 6, none⟩ = some (.int .i64 y1) ∧ w'.cell? ⟨bs, 7, none⟩ = some (.string y2) ∧ w'.cell? ⟨bs, 8, none⟩ = some (.slice X xn xc) ∧ w'.cell? ⟨bs, 9, none⟩ = some (.bool has) ∧ w'.cell? ⟨bs, 10, none⟩ = some (.slice R args.length rc) ∧ w'.cell? ⟨bs, 11, none⟩ = some (.slice T th.length tc) ∧ w'.cell? ⟨bs, 12, none⟩ = some (.slice U el.length uc))
      ((refine HS8.out _ ?_; with_reducible assumption))
      (first
       | (go_at_call 31; (with_reducible refine (HFs.out W8.drew (hdr W8 HI8.out)).mono ?_); rintro e' W9 ⟨rfl, hb9⟩; have g9 : Below W8.heap.size W8 W9 := hBD.trans hb9; have HI9 := Lib.hid (HI8.out.on g9))
       | (go_at_call 32; (with_reducible refine (HCs.out W9 HI9.out).mono ?_); rintro e' W10 ⟨rfl, hb10⟩; have g10 : Below W8.heap.size W8 W10 := below_step g9 hb10))
     go_wp2_with fail
     go_ret
     exact ⟨rfl, below_step HB8W.out g10⟩
end Go.Proofs.YtimejkbmfbjomaaGreat
