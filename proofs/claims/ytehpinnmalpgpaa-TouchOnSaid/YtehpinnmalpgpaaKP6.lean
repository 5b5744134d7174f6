/- Texts, merged by a program; only what is used. -/
import Derived.Test.YtehpinnmalpgpaaK1
import Derived.Test.YtehpinnmalpgpaaK2
import Derived.Test.YtehpinnmalpgpaaK3
import Derived.Test.YtehpinnmalpgpaaK4
import Derived.Test.YtehpinnmalpgpaaK5
import Derived.Test.YtehpinnmalpgpaaK6
import Derived.Test.YtehpinnmalpgpaaK7
import Derived.Test.YtehpinnmalpgpaaK8
import Derived.Test.YtehpinnmalpgpaaK9
import Derived.Test.YtehpinnmalpgpaaK10
import Derived.Test.YtehpinnmalpgpaaK11
import Derived.Test.YtehpinnmalpgpaaK12
import Derived.Test.YtehpinnmalpgpaaK13
import Derived.Test.YtehpinnmalpgpaaK14
import Derived.Test.YtehpinnmalpgpaaK15
import Derived.Test.YtehpinnmalpgpaaK16
import Derived.Test.YtehpinnmalpgpaaK17
import Derived.Test.YtehpinnmalpgpaaK18
import Derived.Test.YtehpinnmalpgpaaK19
import Derived.Test.YtehpinnmalpgpaaK20
import Derived.Test.YtehpinnmalpgpaaK21
import Derived.Test.YtehpinnmalpgpaaK22
import Derived.Test.YtehpinnmalpgpaaK23
import Derived.Test.YtehpinnmalpgpaaK24
import Derived.Test.YtehpinnmalpgpaaKM1
import Derived.Test.YtehpinnmalpgpaaKM2
import Derived.Test.YtehpinnmalpgpaaKM3
import Derived.Test.YtehpinnmalpgpaaKM4
import Derived.Test.YtehpinnmalpgpaaKM5
import Derived.Test.YtehpinnmalpgpaaKM6
import Derived.Test.YtehpinnmalpgpaaKM7
import Derived.Test.YtehpinnmalpgpaaKM8
import Derived.Test.YtehpinnmalpgpaaKM9
import Derived.Test.YtehpinnmalpgpaaKM10
import Derived.Test.YtehpinnmalpgpaaKP1
import Derived.Test.YtehpinnmalpgpaaKP2
import Derived.Test.YtehpinnmalpgpaaKP3
import Derived.Test.YtehpinnmalpgpaaKP4
import Derived.Test.YtehpinnmalpgpaaKP5
namespace Go.Proofs.Ytehpinnmalpgpaa
open Go.ChangeShapes Go.WideShapes Go.ChangeAt Go.RowKit Go.Deep
set_option linter.unusedVariables false
set_option linter.unusedSimpArgs false
theorem sub_all {procs : List Pr} {q f : Pr} (h : RchP procs q f) {l2 l : List ByteArray} (h2 : ∀ s, s ∈ l2 ↔ s.size ≤ maxLen ∧ ∃ x ∈ procs, RchP procs f x ∧ x.nm = s) (h1 : ∀ s, s ∈ l ↔ s.size ≤ maxLen ∧ ∃ x ∈ procs, RchP procs q x ∧ x.nm = s) : ∀ s ∈ l2, s ∈ l := fun s hs => by
 obtain ⟨hz, x, hx, hr, e⟩ := (h2 s).1 hs
 exact (h1 s).2 ⟨hz, x, hx, h.trans hr, e⟩
theorem sub_glob {gl : List ByteArray} {procs : List Pr} {q f : Pr} (h : RchP procs q f) {l2 l : List ByteArray} (h2 : ∀ s, s ∈ l2 ↔ s.size ≤ maxLen ∧ s ∈ gl ∧ ∃ x ∈ procs, RchP procs f x ∧ s ∈ saidOf (preSL x.body)) (h1 : ∀ s, s ∈ l ↔ s.size ≤ maxLen ∧ s ∈ gl ∧ ∃ x ∈ procs, RchP procs q x ∧ s ∈ saidOf (preSL x.body)) : ∀ s ∈ l2, s ∈ l := fun s hs => by
 obtain ⟨hz, hg, x, hx, hr, e⟩ := (h2 s).1 hs
 exact (h1 s).2 ⟨hz, hg, x, hx, h.trans hr, e⟩
theorem fits_nm {p : Pg} (hf : fitsP p = true) : ∀ q ∈ p.procs, q.nm.size ≤ 281474976710656 := fun q hq => by
 unfold fitsP weighP at hf
 have h := (weighQs_all p.procs _ (of_decide_eq_true hf)).2 q hq
 omega
theorem ck_ok9 {p : Pg} (hc : chkOK p = true) : ChOk p := chk_ok (of_decide_eq_true hc)
theorem fits_hck {p : Pg} (hf : fitsP p = true) (hc : chkOK p = true) : p.procs.length ≤ 16 ∧ ∀ q ∈ p.procs, (saidOf (preSL q.body)).length ≤ 10000000 := by
 have hok := ck_ok9 hc
 obtain ⟨hl1, hl2, hl3⟩ := may_lens hok.may
 refine ⟨hl2, fun q hq => ?_⟩
 unfold fitsP weighP at hf
 have h0 := of_decide_eq_true hf
 obtain ⟨_, h2⟩ := weighQs_full p.procs _ h0
 have hw := (h2 q hq).1
 have hlen := ((may_flat hok.may).1 q hq).2
 have key : ∀ L : List S, (∀ s ∈ L, (saidS s).length ≤ 20000) → (saidOf L).length ≤ L.length * 20000 := by
  intro L
  induction L with
  | nil => intro _; simp [saidOf]
  | cons s L ih =>
   intro h
   have h1 := h s (List.mem_cons_self ..)
   have h2 := ih (fun x hx => h x (List.mem_cons_of_mem _ hx))
   rw [show saidOf (s :: L) = saidS s ++ saidOf L by simp [saidOf], List.length_append, List.length_cons]
   omega
 have h3 := key (preSL q.body) (fun s hs => Nat.le_trans (saidS_w (may_stm hok.may q hq s hs)) (Nat.le_trans (preSL_w _ _ hs) hw))
 have h4 : (preSL q.body).length * 20000 ≤ 200 * 20000 := Nat.mul_le_mul_right _ hlen
 omega
set_option maxHeartbeats 8000000 in
set_option maxRecDepth 100000 in
theorem touchOn_walk {w : World} {Q : Nat → Prop} {p : Pg} {c0 c1 : Value} (h : ProgI w Q p [c0, c1]) (n : Int) (wn : (Lit.int .i64 n).wf = true) (kk0 : Int) (wkk : (Lit.int .i64 kk0).wf = true) (W : World) (hI : In Q w W) :
 Calls Try.prog 8 #[.agg #[c0, c1], .int .i64 n, .int .i64 kk0] W fun e w' => e = .returned (.bool true) ∧ Below W.heap.size W w' := by
 have HP := Lib.hid h
 have HF := Lib.hid (fun V h1 => Fits_any h V h1)
 have HI := Lib.hid hI
 obtain ⟨Ag, cg, Ap, cp, rfl, rfl, _⟩ := prog_open h
 clear h hI
 go_enter Try.func8, Try.ntmps8
 go_upto_region 1 with fail
 have HB0 : Hid (Below W.heap.size W (W.alloc (.cells #[.slice Ag p.globals.length cg, .slice Ap p.procs.length cp] 25))) := Lib.hid (below_box _)
 have HBp0 : Hid (Blk (W.alloc (.cells #[.slice Ag p.globals.length cg, .slice Ap p.procs.length cp] 25)) W.heap.size 25 #[.slice Ag p.globals.length cg, .slice Ap p.procs.length cp]) := Lib.hid (Blk.new _ _ _)
 generalize World.alloc _ _ = W0 at HB0 HBp0 ⊢
 have HI0 := Lib.hid (HI.out.on HB0.out)
 generalize hbe : W.heap.size = b at HBp0 ⊢
 clear hbe
 go_upto_region 3 with (go_at_call 39; refine (touching_any W0).mono ?_; rintro e' W1 ⟨rfl, hb1⟩)
 have HB1 : Hid (Below W.heap.size W W1) := Lib.hid (below_step HB0.out hb1)
 have HI1 := Lib.hid (HI0.out.on hb1)
 have HBp1 := Lib.hid (HBp0.out.below hb1 HBp0.out.lt)
 clear hb1 HB0 HBp0 HI0
 have q0 : W1.cell? ⟨b, 0, none⟩ = some (.slice Ag p.globals.length cg) := by rw [HBp1.out.cell]; rfl
 have q1 : W1.cell? ⟨b, 1, none⟩ = some (.slice Ap p.procs.length cp) := by rw [HBp1.out.cell]; rfl
 have hbl := HBp1.out.lt
 cases hf : fitsP p with
 | false =>
  rw [hf] at HF
  clear hf
  go_wp2_with (go_at_call 10; refine (HF.out _ HI1.out).mono ?_; rintro e' W2 ⟨rfl, hb2⟩)
  go_ret
  exact ⟨rfl, below_step HB1.out hb2⟩
 | true =>
  have HSg := Lib.hid (fits_smG hf)
  have HC := Lib.hid (fun V hV => Check_any HP.out (fits_smG hf) V hV)
  have HSz : Hid (∀ q ∈ p.procs, q.nm.size ≤ 281474976710656) := Lib.hid (fits_nm hf)
  have HAl := Lib.hid (fun nm V hV => tAll_any HP.out (fits_smG hf) HSz.out nm V hV)
  have HGl := Lib.hid (fun nm V hV => tGlobals_any HP.out (fits_smG hf) (fun hc => fits_hck hf hc) nm V hV)
  have HCl := Lib.hid (fun nm V hV => tCalls_any HP.out (fits_smG hf) nm V hV)
  have HCk : Hid (chkOK p = decide ((chkP p).1 = 0)) := Lib.hid rfl
  rw [hf] at HF
  clear hf
  go_upto_region 5 with (go_at_call 10; refine (HF.out _ HI1.out).mono ?_; rintro e' W2 ⟨rfl, hb2⟩)
  have HB2 : Hid (Below W.heap.size W W2) := Lib.hid (below_step HB1.out hb2)
  have HI2 := Lib.hid (HI1.out.on hb2)
  have HBp2 := Lib.hid (HBp1.out.below hb2 hbl)
  clear hb2 HB1 HI1 HBp1 q0 q1 hbl HF
  have q0 : W2.cell? ⟨b, 0, none⟩ = some (.slice Ag p.globals.length cg) := by rw [HBp2.out.cell]; rfl
  have q1 : W2.cell? ⟨b, 1, none⟩ = some (.slice Ap p.procs.length cp) := by rw [HBp2.out.cell]; rfl
  have hbl := HBp2.out.lt
  have hff : ∀ (a c : Int) (w : World), (Instr.field 38 (.agg #[.int .i64 a, .int .i64 c]) 0).run Try.prog w = .ok (.int .i64 a) w := fun _ _ _ => by kernel_rfl
  have HNot : Hid (chkOK p = false → ∀ nm l, AllOf p (jfP p nm) l → l = []) := Lib.hid (fun hc nm l ha => by
   unfold jfP at ha
   rw [if_neg (by rw [hc]; simp)] at ha
   rcases ha with ⟨_, h⟩ | ⟨m, _, _, h, _⟩
   ·exact h
   ·omega)
  generalize hcr : chkP p = r at HC HCk
  clear hcr
  obtain ⟨rc, ri⟩ := r
  simp only at HCk
  by_cases hr : rc = 0
  ·subst hr
   have hck : chkOK p = true := HCk.out
   have hok := ck_ok9 hck
   have HCkt := Lib.hid hck
   have HOk := Lib.hid hok
   obtain ⟨hl1, hl2, hl3⟩ := may_lens hok.may
   have hpos : 1 ≤ p.procs.length := by
    have h := hok.main
    unfold mainBad at h
    cases hp : p.procs with
    | nil => rw [hp] at h; cases h
    | cons _ _ => simp
   obtain ⟨m0, hm0, hPA⟩ := ProcAt_any HP.out ⟨hpos, hl2⟩ n
   obtain ⟨q, hq⟩ : ∃ q, q = p.procs[m0] := ⟨_, rfl⟩
   have HQ : Hid (q ∈ p.procs) := Lib.hid (by rw [hq]; exact List.getElem_mem hm0)
   rw [← hq] at hPA
   have HPA := Lib.hid hPA
   have HA1 := Lib.hid (fun V hV => HAl.out q.nm V hV)
   have HG1 := Lib.hid (fun V hV => HGl.out q.nm V hV)
   have HM1 := Lib.hid (fun l ha s => all_mem HOk.out HCkt.out HQ.out (l := l) ha s)
   have HMg := Lib.hid (fun l ha s => glob_mem HOk.out HCkt.out HQ.out (l := l) ha s)
   have hpl := hl2
   have hqsz : q.nm.size ≤ maxLen := by have := HSz.out q HQ.out; unfold maxLen; omega
   have HRf : Hid (∃ f ∈ p.procs, RchP p.procs q f ∧ f.nm = q.nm) := Lib.hid ⟨q, HQ.out, .refl, rfl⟩
   generalize hqn : q.nm = an at HPA HA1 HG1 HM1 HMg hqsz HRf
   clear hqn hq hPA hpos hl1 hl3 hck hok HNot HCk HSg hm0
   go_upto_region 7 with (go_at_call 19; refine (HC.out W2 HI2.out).mono ?_; rintro e' W3 ⟨rfl, hb3⟩)
   have HI3 := Lib.hid (HI2.out.on hb3)
   have HBp3 := Lib.hid (HBp2.out.below hb3 hbl)
   have HB3 := Lib.hid (below_step HB2.out hb3)
   clear hb3 HC hff
   clear q0 q1 hbl HI2 HBp2 HB2
   have hbl := HBp3.out.lt
   have q0 : W3.cell? ⟨b, 0, none⟩ = some (.slice Ag p.globals.length cg) := by rw [HBp3.out.cell]; rfl
   have q1 : W3.cell? ⟨b, 1, none⟩ = some (.slice Ap p.procs.length cp) := by rw [HBp3.out.cell]; rfl
   go_upto_region 8 with (go_at_call 26; refine (HPA.out W3 HI3.out).mono ?_; rintro e' W4 ⟨rfl, hb4⟩)
   have HI4 := Lib.hid (HI3.out.on hb4)
   have HBp4 := Lib.hid (HBp3.out.below hb4 hbl)
   have HB4 := Lib.hid (below_step HB3.out hb4)
   clear hb4 HPA
   clear q0 q1 hbl HI3 HBp3 HB3
   have hbl := HBp4.out.lt
   have q0 : W4.cell? ⟨b, 0, none⟩ = some (.slice Ag p.globals.length cg) := by rw [HBp4.out.cell]; rfl
   have q1 : W4.cell? ⟨b, 1, none⟩ = some (.slice Ap p.procs.length cp) := by rw [HBp4.out.cell]; rfl
   go_upto_region 9 with (go_at_call 40; refine (HA1.out W4 HI4.out).mono ?_; rintro e' W5 ⟨l, v5, rfl, ho5, hb5, ha5⟩; obtain ⟨X5, k5, rfl, _, _⟩ := own_shape ho5)
   have HI5 := Lib.hid (HI4.out.on hb5)
   have HBp5 := Lib.hid (HBp4.out.below hb5 hbl)
   have HB5 := Lib.hid (below_step HB4.out hb5)
   have HL := Lib.hid (HM1.out l ha5)
   have hll : l.length ≤ 1000000 := by have := all_len ha5; omega
   have HLs : Hid (∀ s ∈ l, small s) := Lib.hid (fun s hs => ((HL.out s).1 hs).1)
   have HT5 := Lib.hid (texts_of_own HLs.out ho5).2
   have HIr5 : Hid (In (fun b => W4.heap.size ≤ b ∧ b < W5.heap.size) W5 W5) := Lib.hid ⟨fun j h => h.2, fun _ _ => rfl⟩
   have HO5 := Lib.hid ho5
   have hal : an ∈ l := (HL.out an).2 ⟨hqsz, HRf.out⟩
   have hl0 : 1 ≤ l.length := List.length_pos_of_mem hal
   have HIn1 := Lib.hid (rIn_any HT5.out HIr5.out an)
   rw [show l.any (isT an) = true by rw [List.any_eq_true]; exact ⟨an, hal, by simp [isT]⟩] at HIn1
   have HInL : Hid (∀ (V : World) (s : ByteArray), In (fun b => W4.heap.size ≤ b ∧ b < W5.heap.size) W5 V → s ∈ l → Calls Try.prog 23 #[.slice X5 l.length k5, .string s] V fun e w' => e = .returned (.bool true) ∧ V = w') := Lib.hid (fun V s hV hs => by
    have h := rIn_any HT5.out hV s
    rw [show l.any (isT s) = true by rw [List.any_eq_true]; exact ⟨s, hs, by simp [isT]⟩] at h
    exact h)
   obtain ⟨m, hm, hMd⟩ := Mod_fix kk0 l.length hl0 hll
   have HMd := Lib.hid hMd
   clear hb5 ho5 ha5 hal hMd HRf
   clear q0 q1 hbl HI4 HBp4 HB4
   have hbl := HBp5.out.lt
   have q0 : W5.cell? ⟨b, 0, none⟩ = some (.slice Ag p.globals.length cg) := by rw [HBp5.out.cell]; rfl
   have q1 : W5.cell? ⟨b, 1, none⟩ = some (.slice Ap p.procs.length cp) := by rw [HBp5.out.cell]; rfl
   generalize (fun b => W4.heap.size ≤ b ∧ b < W5.heap.size) = T5 at HT5 HIr5 HInL
   have hlz : ((l.length : Int) == 0) = false := beq_eq_false_iff_ne.2 (by omega)
   obtain ⟨g5, cap5, he5, hcl5, _, _⟩ := own_at HO5.out hm
   injection he5 with h51 _ h53
   subst h51 h53
   have pt := hcl5 (.string l[m]) (by simp [strs, List.getElem?_map, List.getElem?_eq_getElem hm])
   obtain ⟨hbs, f, hf, hrf, hfn⟩ := (HL.out l[m]).1 (List.getElem_mem hm)
   have HMa2 := Lib.hid (fun l2 ha s => all_mem HOk.out HCkt.out hf (l := l2) ha s)
   have HMg2 := Lib.hid (fun l2 ha s => glob_mem HOk.out HCkt.out hf (l := l2) ha s)
   have HMc := Lib.hid (fun l2 ha s => calls_mem HOk.out HCkt.out hf (l := l2) ha s)
   have HCal := Lib.hid (fun s (hs : s ∈ callsOf (preSL f.body)) => called_there HOk.out hf hs)
   have HRf := Lib.hid hrf
   have HFm := Lib.hid hf
   generalize l[m] = bn at pt hfn hbs
   subst hfn
   generalize hbn : f.nm = bn at pt HMa2 HMg2 HMc hbs
   have HC1 := Lib.hid (fun V hV => HCl.out bn V hV)
   have HA2 := Lib.hid (fun V hV => HAl.out bn V hV)
   have HG2 := Lib.hid (fun V hV => HGl.out bn V hV)
   clear hbn hcl5 hf hrf HCl HAl HGl HA1 HM1 HOk hbs
   go_upto_region 11 with (go_at_call 23; refine HIn1.out.mono ?_; rintro e' W' ⟨rfl, rfl⟩)
   go_upto_region 12 with (go_at_call 13; refine (HMd.out W5).mono ?_; rintro e' W' ⟨rfl, rfl⟩)
   clear pt HMd
   go_upto_region 13 with (go_at_call 41; refine (HC1.out W5 HI5.out).mono ?_; rintro e' W6 ⟨lc, v6, rfl, ho6, hb6, ha6⟩; obtain ⟨X6, k6, rfl, _, _⟩ := own_shape ho6)
   have HO6 := Lib.hid ho6
   have HLc : Hid (∀ s ∈ lc, s ∈ l) := Lib.hid (fun s hs => by
    obtain ⟨h1, h2⟩ := (HMc.out lc ha6 s).1 hs
    obtain ⟨x, hx, rfl⟩ := HCal.out s h2
    exact (HL.out _).2 ⟨h1, x, hx, .step HRf.out hx h2, rfl⟩)
   have HI6 := Lib.hid (HI5.out.on hb6)
   have HBp6 := Lib.hid (HBp5.out.below hb6 hbl)
   have HB6 := Lib.hid (below_step HB5.out hb6)
   have HIr6 := Lib.hid (HIr5.out.on hb6)
   clear hb6 ho6 ha6 q0 q1 hbl HI5 HBp5 HB5 HIr5 HC1 HMc HCal HIn1
   have hbl := HBp6.out.lt
   go_loopg [51] lc.length (fun kk i wr => ∃ k : Nat, k + kk = lc.length ∧ i = .int .i64 k ∧ W6 = wr)
   case atStart => exact ⟨0, by omega, rfl, rfl⟩
   case round =>
    obtain ⟨k, hk, rfl, rfl⟩ := hrel
    by_cases hlt : k < lc.length
    ·obtain ⟨g6, cap6, he6, hcl6, _, _⟩ := own_at HO6.out hlt
     injection he6 with h61 _ h63
     subst h61 h63
     have pt := hcl6 (.string lc[k]) (by simp [strs, List.getElem?_map, List.getElem?_eq_getElem hlt])
     have HI := Lib.hid (HInL.out W6 lc[k] HIr6.out (HLc.out _ (List.getElem_mem hlt)))
     generalize lc[k] = cn at pt HI
     clear hcl6
     go_wp2_with (go_at_call 23; refine HI.out.mono ?_; rintro e' W' ⟨rfl, rfl⟩)
     go_roundg (lc.length - k - 1)
     case measure => omega
     case rel => exact ⟨k + 1, by omega, by go_num, rfl⟩
    ·have HNk := Lib.hid hlt
     clear hlt
     have hke : k = lc.length := by have := HNk.out; omega
     subst hke
     have q0 : W6.cell? ⟨b, 0, none⟩ = some (.slice Ag p.globals.length cg) := by rw [HBp6.out.cell]; rfl
     have q1 : W6.cell? ⟨b, 1, none⟩ = some (.slice Ap p.procs.length cp) := by rw [HBp6.out.cell]; rfl
     go_upto_region 18 with fail
     have HS6 : Hid (∀ w' : World, Below W6.heap.size W6 w' → (w'.cell? ⟨b, 0, none⟩ = some (.slice Ag p.globals.length cg) ∧ w'.cell? ⟨b, 1, none⟩ = some (.slice Ap p.procs.length cp))) := Lib.hid (fun w' hb => ⟨(hb.cell (p := ⟨b, 0, none⟩) hbl).trans q0, (hb.cell (p := ⟨b, 1, none⟩) hbl).trans q1⟩)
     have hBD : Below W6.heap.size W6 W6.drew := (Below.refl _ _).drew
     have hdr : ∀ V : World, In Q w V → In Q w V.drew := fun V h => h
     have HGt : Hid (TextsI w Q p.globals (.slice Ag p.globals.length cg)) := Lib.hid (by
      obtain ⟨A1, c1, A2, c2, e1, e2, _, _, _, _, hg, _⟩ := prog_open HP.out
      rw [e1]
      exact hg)
     clear HP HInL HLc HO6 HO5
     go_region_held3 (fun w' => w'.cell? ⟨b, 0, none⟩ = some (.slice Ag p.globals.length cg) ∧ w'.cell? ⟨b, 1, none⟩ = some (.slice Ap p.procs.length cp))
      ((refine HS6.out _ ?_; with_reducible assumption))
      (first
       | (go_at_call 40; (with_reducible refine (HA2.out W6.drew (hdr W6 HI6.out)).mono ?_); rintro e' W8 ⟨l8, v8, rfl, ho8, hb8, ha8⟩; have g8 : Below W6.heap.size W6 W8 := hBD.trans hb8; have HI8 := Lib.hid (HI6.out.on g8); have HS8 := Lib.hid (Subset_any (texts_of_own (fun s hs => ((HMa2.out l8 ha8 s).1 hs).1) ho8).2 HT5.out (W := W8) ⟨fun j h => h.2, fun _ _ => rfl⟩ (HIr6.out.on g8) (sub_all HRf.out (HMa2.out l8 ha8) HL.out)); clear ho8 hb8 ha8)
       | (go_at_call 42; (with_reducible refine HS8.out.mono ?_); rintro e' W9 ⟨rfl, rfl⟩)
       | (go_at_call 43; (with_reducible refine (HG2.out W8 HI8.out).mono ?_); rintro e' W10 ⟨l10, v10, rfl, ho10, hb10, ha10⟩; have g10 : Below W6.heap.size W6 W10 := below_step g8 hb10; have HI10 := Lib.hid (HI6.out.on g10); have HM10 := Lib.hid (HMg2.out l10 ha10); have HT10 := Lib.hid (texts_of_own (fun s hs => ((HM10.out s).1 hs).1) ho10).2; clear ho10 hb10 ha10)
       | (go_at_call 43; (with_reducible refine (HG1.out W10 HI10.out).mono ?_); rintro e' W11 ⟨l11, v11, rfl, ho11, hb11, ha11⟩; have g11 : Below W6.heap.size W6 W11 := below_step g10 hb11; have HI11 := Lib.hid (HI6.out.on g11); have HS11 := Lib.hid (Subset_any HT10.out (texts_of_own (fun s hs => ((HMg.out l11 ha11 s).1 hs).1) ho11).2 (W := W11) (In.on ⟨fun j h => h.2, fun _ _ => rfl⟩ hb11) ⟨fun j h => h.2, fun _ _ => rfl⟩ (sub_glob HRf.out HM10.out (HMg.out l11 ha11))); clear ho11 hb11 ha11)
       | (go_at_call 42; (with_reducible refine HS11.out.mono ?_); rintro e' W9 ⟨rfl, rfl⟩)
       | (go_at_call 43; (with_reducible refine (HG1.out W11 HI11.out).mono ?_); rintro e' W12 ⟨l12, v12, rfl, ho12, hb12, ha12⟩; have g12 : Below W6.heap.size W6 W12 := below_step g11 hb12; have HS12 := Lib.hid (Subset_any (texts_of_own (fun s hs => ((HMg.out l12 ha12 s).1 hs).1) ho12).2 HGt.out (W := W12) ⟨fun j h => h.2, fun _ _ => rfl⟩ (HI6.out.on g12) (fun s hs => ((HMg.out l12 ha12 s).1 hs).2.1)); clear ho12 hb12 ha12)
       | (go_at_call 42; (with_reducible refine HS12.out.mono ?_); rintro e' W9 ⟨rfl, rfl⟩))
     go_wp2_with fail
     go_ret
     exact ⟨rfl, below_step HB6.out g12⟩
  ·have hr1 : (rc == 0) = false := beq_eq_false_iff_ne.2 hr
   have hr2 : (rc != 0) = true := by simp [bne, hr1]
   have HNo := Lib.hid (HNot.out (by rw [HCk.out]; simpa using hr))
   have HA1 := Lib.hid (fun V hV => HAl.out ⟨#[109, 97, 105, 110]⟩ V hV)
   clear hr HNot HCk HAl HGl HCl
   go_upto_region 6 with (go_at_call 19; refine (HC.out W2 HI2.out).mono ?_; rintro e' W3 ⟨rfl, hb3⟩)
   have HI3 := Lib.hid (HI2.out.on hb3)
   have HBp3 := Lib.hid (HBp2.out.below hb3 hbl)
   have HB3 := Lib.hid (below_step HB2.out hb3)
   clear hb3 q0 q1
   have q0 : W3.cell? ⟨b, 0, none⟩ = some (.slice Ag p.globals.length cg) := by rw [HBp3.out.cell]; rfl
   have q1 : W3.cell? ⟨b, 1, none⟩ = some (.slice Ap p.procs.length cp) := by rw [HBp3.out.cell]; rfl
   go_wp2_with (go_at_call 40; refine (HA1.out W3 HI3.out).mono ?_; rintro e' W4 ⟨l, v4, rfl, ho4, hb4, ha4⟩; rw [HNo.out _ _ ha4] at ho4; obtain ⟨X4, k4, rfl, _, _⟩ := own_shape ho4; have HB4 := Lib.hid (below_step HB3.out hb4); clear ho4 hb4 ha4)
   go_ret
   exact ⟨rfl, HB4.out⟩
end Go.Proofs.Ytehpinnmalpgpaa
