/- Texts, merged by a program; only what is used. -/
import Derived.Test.YtimejkbmfbjomaaGreatK1
import Derived.Test.YtimejkbmfbjomaaGreatK2
import Derived.Test.YtimejkbmfbjomaaGreatK3
import Derived.Test.YtimejkbmfbjomaaGreatK4
import Derived.Test.YtimejkbmfbjomaaGreatK5
import Derived.Test.YtimejkbmfbjomaaGreatK6
import Derived.Test.YtimejkbmfbjomaaGreatK7
import Derived.Test.YtimejkbmfbjomaaGreatK8
import Derived.Test.YtimejkbmfbjomaaGreatK9
import Derived.Test.YtimejkbmfbjomaaGreatK10
import Derived.Test.YtimejkbmfbjomaaGreatK11
import Derived.Test.YtimejkbmfbjomaaGreatK12
import Derived.Test.YtimejkbmfbjomaaGreatK13
import Derived.Test.YtimejkbmfbjomaaGreatK14
import Derived.Test.YtimejkbmfbjomaaGreatK15
import Derived.Test.YtimejkbmfbjomaaGreatK16
import Derived.Test.YtimejkbmfbjomaaGreatK17
import Derived.Test.YtimejkbmfbjomaaGreatK18
import Derived.Test.YtimejkbmfbjomaaGreatK19
import Derived.Test.YtimejkbmfbjomaaGreatK20
import Derived.Test.YtimejkbmfbjomaaGreatK21
import Derived.Test.YtimejkbmfbjomaaGreatK22
import Derived.Test.YtimejkbmfbjomaaGreatK23
import Derived.Test.YtimejkbmfbjomaaGreatK24
import Derived.Test.YtimejkbmfbjomaaGreatK25
import Derived.Test.YtimejkbmfbjomaaGreatK26
import Derived.Test.YtimejkbmfbjomaaGreatK27
import Derived.Test.YtimejkbmfbjomaaGreatK28
import Derived.Test.YtimejkbmfbjomaaGreatK29
namespace Go.Proofs.YtimejkbmfbjomaaGreat
open Go.ChangeShapes Go.WideShapes Go.ChangeAt Go.RowKit Go.Deep
set_option linter.unusedVariables false
set_option linter.unusedSimpArgs false
set_option maxHeartbeats 8000000 in
set_option maxRecDepth 100000 in
theorem touchLeast_walk {w : World} {Q : Nat → Prop} {p : Pg} {c0 c1 : Value} (h : ProgI w Q p [c0, c1]) (n : Int) (wn : (Lit.int .i64 n).wf = true) (W : World) (hI : In Q w W) :
 Calls Tryz.prog 4 #[.agg #[c0, c1], .int .i64 n] W fun e w' => e = .returned (.bool true) ∧ Below W.heap.size W w' := by
 have HP := Lib.hid h
 have HF := Lib.hid (fun V h1 => Fits_any h V h1)
 have HI := Lib.hid hI
 obtain ⟨Ag, cg, Ap, cp, rfl, rfl, _⟩ := prog_open h
 clear h hI
 go_enter Tryz.func4, Tryz.ntmps4
 go_upto_region 1 with fail
 have HB0 : Hid (Below W.heap.size W (W.alloc (.cells #[.slice Ag p.globals.length cg, .slice Ap p.procs.length cp] 25))) := Lib.hid (below_box _)
 have HBp0 : Hid (Blk (W.alloc (.cells #[.slice Ag p.globals.length cg, .slice Ap p.procs.length cp] 25)) W.heap.size 25 #[.slice Ag p.globals.length cg, .slice Ap p.procs.length cp]) := Lib.hid (Blk.new _ _ _)
 generalize World.alloc _ _ = W0 at HB0 HBp0 ⊢
 have HI0 := Lib.hid (HI.out.on HB0.out)
 generalize hbe : W.heap.size = b at HBp0 ⊢
 clear hbe
 go_upto_region 3 with (go_at_call 8; refine (touching_any W0).mono ?_; rintro e' W1 ⟨rfl, hb1⟩)
 have HB1 : Hid (Below W.heap.size W W1) := Lib.hid (below_step HB0.out hb1)
 have HI1 := Lib.hid (HI0.out.on hb1)
 have HBp1 := Lib.hid (HBp0.out.below hb1 HBp0.out.lt)
 clear hb1 HB0 HBp0 HI0
 have q0 : W1.cell? ⟨b, 0, none⟩ = some (.slice Ag p.globals.length cg) := by rw [HBp1.out.cell]; rfl
 have q1 : W1.cell? ⟨b, 1, none⟩ = some (.slice Ap p.procs.length cp) := by rw [HBp1.out.cell]; rfl
 have hbl := HBp1.out.lt
 cases hf : fitsP p with
 | false =>
  rw [hf] at HF
  clear hf
  go_wp2_with (go_at_call 9; refine (HF.out _ HI1.out).mono ?_; rintro e' W2 ⟨rfl, hb2⟩)
  go_ret
  exact ⟨rfl, below_step HB1.out hb2⟩
 | true =>
  have HSg := Lib.hid (fits_smG hf)
  have HC := Lib.hid (fun V hV => Check_any HP.out (fits_smG hf) V hV)
  have HSz : Hid (∀ q ∈ p.procs, q.nm.size ≤ 281474976710656) := Lib.hid (fits_nm hf)
  have HAl := Lib.hid (fun nm V hV => tAll_any HP.out (fits_smG hf) HSz.out nm V hV)
  have HGl := Lib.hid (fun nm V hV => tGlobals_any HP.out (fits_smG hf) (fun hc => fits_hck hf hc) nm V hV)
  have HCl := Lib.hid (fun nm V hV => tCalls_any HP.out (fits_smG hf) nm V hV)
  have HPc := Lib.hid (fun nm V hV => Proc_any HP.out (fits_smG hf) nm V hV)
  have HSd := Lib.hid (fun hm => fits_said hf hm)
  have HSn := Lib.hid (fun hc => fits_hck hf hc)
  have HCk : Hid (chkOK p = decide ((chkP p).1 = 0)) := Lib.hid rfl
  rw [hf] at HF
  clear hf
  go_upto_region 5 with (go_at_call 9; refine (HF.out _ HI1.out).mono ?_; rintro e' W2 ⟨rfl, hb2⟩)
  have HB2 : Hid (Below W.heap.size W W2) := Lib.hid (below_step HB1.out hb2)
  have HI2 := Lib.hid (HI1.out.on hb2)
  have HBp2 := Lib.hid (HBp1.out.below hb2 hbl)
  clear hb2 HB1 HI1 HBp1 q0 q1 hbl HF
  have q0 : W2.cell? ⟨b, 0, none⟩ = some (.slice Ag p.globals.length cg) := by rw [HBp2.out.cell]; rfl
  have q1 : W2.cell? ⟨b, 1, none⟩ = some (.slice Ap p.procs.length cp) := by rw [HBp2.out.cell]; rfl
  have hbl := HBp2.out.lt
  have hff : ∀ (a c : Int) (w : World), (Instr.field 34 (.agg #[.int .i64 a, .int .i64 c]) 0).run Tryz.prog w = .ok (.int .i64 a) w := fun _ _ _ => by kernel_rfl
  have hok : (chkP p).1 = 0 → ChOk p := chk_ok
  have HOk0 := Lib.hid hok
  clear hok
  generalize chkP p = r at HC HOk0 HCk
  obtain ⟨rc, ri⟩ := r
  simp only at HOk0
  by_cases hr : rc = 0
  ·subst hr
   have HOk := Lib.hid (HOk0.out rfl)
   have HCkt : Hid (chkOK p = true) := Lib.hid (by have := HCk.out; simpa using this)
   clear HCk
   clear HOk0
   go_upto_region 7 with (go_at_call 18; refine (HC.out W2 HI2.out).mono ?_; rintro e' W3 ⟨rfl, hb3⟩)
   have HB3 : Hid (Below W.heap.size W W3) := Lib.hid (below_step HB2.out hb3)
   have HI3 := Lib.hid (HI2.out.on hb3)
   have HBp3 := Lib.hid (HBp2.out.below hb3 hbl)
   clear hb3 HB2 HI2 HBp2 q0 q1 hbl HC hff
   have q0 : W3.cell? ⟨b, 0, none⟩ = some (.slice Ag p.globals.length cg) := by rw [HBp3.out.cell]; rfl
   have q1 : W3.cell? ⟨b, 1, none⟩ = some (.slice Ap p.procs.length cp) := by rw [HBp3.out.cell]; rfl
   have hbl := HBp3.out.lt
   obtain ⟨hl1, hl2, hl3⟩ := may_lens HOk.out.may
   have hpos : 1 ≤ p.procs.length := by
    have h := HOk.out.main
    unfold mainBad at h
    cases hp : p.procs with
    | nil => rw [hp] at h; cases h
    | cons _ _ => simp
   obtain ⟨m0, hm0, hPA⟩ := ProcAt_any HP.out ⟨hpos, hl2⟩ n
   obtain ⟨q, hq⟩ : ∃ q, q = p.procs[m0] := ⟨_, rfl⟩
   have HQ : Hid (q ∈ p.procs) := Lib.hid (by rw [hq]; exact List.getElem_mem hm0)
   rw [← hq] at hPA
   have HPA := Lib.hid hPA
   have HA1 := Lib.hid (fun V hV => HAl.out q.nm V hV)
   have HG1 := Lib.hid (fun V hV => HGl.out q.nm V hV)
   have HM1 := Lib.hid (fun l ha s => all_mem HOk.out HCkt.out HQ.out (l := l) ha s)
   have HMg := Lib.hid (fun l ha s => glob_mem HOk.out HCkt.out HQ.out (l := l) ha s)
   have hpl := hl2
   have HZz : Hid (∀ q ∈ p.procs, q.nm.size ≤ maxLen) := Lib.hid (fun q hq => by have := HSz.out q hq; unfold maxLen; omega)
   have HLe := Lib.hid (fun l hl s hs hne => least_called HOk.out HZz.out HQ.out (l := l) hl (s := s) hs hne)
   generalize hqn : q.nm = an at HPA HA1 HG1 HM1 HMg HLe
   clear hqn hq hPA hpos hl1 hl3 HSg hm0
   go_upto_region 8 with (go_at_call 10; refine (HPA.out W3 HI3.out).mono ?_; rintro e' W4 ⟨rfl, hb4⟩)
   have HI4 := Lib.hid (HI3.out.on hb4)
   have HBp4 := Lib.hid (HBp3.out.below hb4 hbl)
   have HB4 := Lib.hid (below_step HB3.out hb4)
   clear hb4 HPA
   clear q0 q1 hbl HI3 HBp3 HB3
   have hbl := HBp4.out.lt
   have q0 : W4.cell? ⟨b, 0, none⟩ = some (.slice Ag p.globals.length cg) := by rw [HBp4.out.cell]; rfl
   have q1 : W4.cell? ⟨b, 1, none⟩ = some (.slice Ap p.procs.length cp) := by rw [HBp4.out.cell]; rfl
   go_upto_region 9 with (go_at_call 14; refine (HA1.out W4 HI4.out).mono ?_; rintro e' W5 ⟨l, v5, rfl, ho5, hb5, ha5⟩; obtain ⟨X5, k5, rfl, _, _⟩ := own_shape ho5)
   have HI5 := Lib.hid (HI4.out.on hb5)
   have HBp5 := Lib.hid (HBp4.out.below hb5 hbl)
   have HB5 := Lib.hid (below_step HB4.out hb5)
   have HL := Lib.hid (HM1.out l ha5)
   have hll : l.length ≤ 16 := Nat.le_trans (all_len ha5) hpl
   have HO5 := Lib.hid ho5
   have HEr := Lib.hid (fun s hs hne => HLe.out l HL.out s hs hne)
   clear hb5 ho5 ha5 HLe HM1 HA1 HAl
   clear q0 q1 hbl HI4 HBp4 HB4
   have hbl := HBp5.out.lt
   have q0 : W5.cell? ⟨b, 0, none⟩ = some (.slice Ag p.globals.length cg) := by rw [HBp5.out.cell]; rfl
   have q1 : W5.cell? ⟨b, 1, none⟩ = some (.slice Ap p.procs.length cp) := by rw [HBp5.out.cell]; rfl
   obtain ⟨i0, hi0, hz0, hz1, hz2⟩ := info_parts string_info
   go_upto_region 11 with fail
   clear q0 q1
   go_loopg [7, 8, 34] l.length (fun kk o1 o2 iv wr => ∃ (k : Nat) (L M : List ByteArray) (va vb : Value), k + kk = l.length ∧ iv = .int .i64 k ∧ va = o1 ∧ vb = o2 ∧ Hid (TwI W5 wr L M va vb) ∧ Hid (∀ f ∈ p.procs, f.nm ∈ l.take k → (∀ s ∈ callsOf (preSL f.body), s.size ≤ maxLen → s ∈ L) ∧ ∀ s ∈ saidOf (preSL f.body), s ∈ M) ∧ Hid ((∀ s ∈ L, small s) ∧ ∀ s ∈ M, small s) ∧ Hid (L.length ≤ k * 1000 ∧ M.length ≤ k * 10000000))
   case atStart => exact ⟨0, [], [], _, _, by omega, rfl, rfl, rfl, Lib.hid (TwI.nil W5), Lib.hid (fun f _ h => by simp at h), Lib.hid ⟨fun s h => by (cases h), fun s h => by (cases h)⟩, Lib.hid ⟨Nat.zero_le _, Nat.zero_le _⟩⟩
   case round =>
    obtain ⟨k, L0, M0, va, vb, hk, rfl, rfl, rfl, HTw, HFc, HSm, HNn⟩ := hrel
    have HIr := Lib.hid (HI5.out.on HTw.out.below)
    have HBpr := Lib.hid (HBp5.out.below HTw.out.below hbl)
    have q0 : wr.cell? ⟨b, 0, none⟩ = some (.slice Ag p.globals.length cg) := by rw [HBpr.out.cell]; rfl
    have q1 : wr.cell? ⟨b, 1, none⟩ = some (.slice Ap p.procs.length cp) := by rw [HBpr.out.cell]; rfl
    have HOr : Hid (wr.ownsRow W4.heap.size 9 1 (.slice X5 l.length k5) l.length (strs l)) := Lib.hid ((Below.moves HTw.out.below).row HO5.out (fun j hj e => Nat.not_lt.2 e (HO5.out.lt j hj).2))
    by_cases hlt : k < l.length
    ·obtain ⟨g5, cap5, he5, hcl5, _, _⟩ := own_at HOr.out hlt
     injection he5 with h51 _ h53
     subst h51 h53
     have pt := hcl5 (.string l[k]) (by simp [strs, List.getElem?_map, List.getElem?_eq_getElem hlt])
     obtain ⟨hbs, f, hf, hrf, hfn⟩ := (HL.out l[k]).1 (List.getElem_mem hlt)
     have HTk : Hid (∀ f2 ∈ p.procs, f2.nm ∈ l.take (k + 1) → f2.nm ∈ l.take k ∨ f2 = f) := Lib.hid (fun f2 hf2 h => by
      rw [List.take_succ_eq_append_getElem hlt, List.mem_append, List.mem_singleton] at h
      rcases h with h | h
      ·exact .inl h
      ·exact .inr (nm_inj HOk.out.procs hf2 hf (h.trans hfn.symm)))
     have HMc := Lib.hid (fun l2 ha s => calls_mem HOk.out HCkt.out hf (l := l2) ha s)
     have HCn : Hid (∀ l2, OrdOf p (jfP p f.nm) callF l2 → l2.length ≤ 1000) := Lib.hid (fun l2 ha => Nat.le_trans (calls_len HOk.out HCkt.out hf ha) (by omega))
     have hpr : procP p f.nm = (f, true) := by
      unfold procP
      rw [if_pos HOk.out.may, find_own _ HOk.out.procs _ hf]
      rfl
     have HP1 := Lib.hid (fun V hV => HPc.out f.nm V hV)
     rw [hpr] at HP1
     have HSf := Lib.hid (HSd.out HOk.out.may f hf)
     have HNf := Lib.hid ((HSn.out HCkt.out).2 f hf)
     have HIt := Lib.hid (((may_flat HOk.out.may).1 f hf).1)
     have HFm := Lib.hid hf
     have HC1 := Lib.hid (fun V hV => HCl.out f.nm V hV)
     generalize l[k] = bn at pt hfn hbs
     subst hfn
     clear hpr hcl5 hf hrf hbs
     go_upto_region 14 with (first
      | (go_at_call 12; refine (HC1.out wr HIr.out).mono ?_; rintro e' W6 ⟨lc, v6, rfl, ho6, hb6, ha6⟩; obtain ⟨X6, k6, rfl, _, _⟩ := own_shape ho6; have HTw6 := Lib.hid (HTw.out.step hb6); have HLc := Lib.hid (HMc.out lc ha6); have HLn := Lib.hid (HCn.out lc ha6); have HTx6 := Lib.hid (texts_of_own (fun s hs => ((HLc.out s).1 hs).1) ho6).2; have HN6 : Hid (L0.length + lc.length ≤ 4000000000000) := Lib.hid (by have h1 := HNn.out.1; have h2 := HLn.out; omega); clear ho6 hb6 ha6)
      | (at_builtin; refine wpList_append_texts2 rfl (.tmp 38) (.tmp 41) 22 rfl W5.heap.size 9 i0 _ Tryz.underlying22 hi0 hz0 hz1 hz2 rfl _ L0.length (strs L0) rfl HTw6.out.one W6 _ X6 lc lc.length k6 rfl rfl HTx6.out (in_slf _ W6) HN6.out HTw6.out.below.size ?_; intro v7 W7 hown7 hg7 hv7; have HTw7 := Lib.hid (HTw6.out.first hown7 hg7 hv7); clear hown7 hg7 hv7))
     have HI7 := Lib.hid (HI5.out.on HTw7.out.below)
     have HBp7 := Lib.hid (HBp5.out.below HTw7.out.below hbl)
     clear HTw6 HTx6 HN6 HTw HIr HBpr HC1 HMc HCn q0 q1 pt HOr
     have q0 : W7.cell? ⟨b, 0, none⟩ = some (.slice Ag p.globals.length cg) := by rw [HBp7.out.cell]; rfl
     have q1 : W7.cell? ⟨b, 1, none⟩ = some (.slice Ap p.procs.length cp) := by rw [HBp7.out.cell]; rfl
     go_upto_region 15 with (go_at_call 19; refine (HP1.out W7 HI7.out).mono ?_; rintro e' W8 ⟨d0, d1, d2, d3, d4, rfl, hb8, hp8⟩; have HPq := Lib.hid hp8; obtain ⟨vp, vv, vb, ve, hc, hn', hpp, hvv, hbb, hee⟩ := hp8; simp only [List.cons.injEq, and_true] at hc; obtain ⟨rfl, rfl, rfl, rfl, rfl⟩ := hc; obtain ⟨M1, k1, rfl, _, _⟩ := hpp.shape; obtain ⟨M2, k2, rfl, _, _⟩ := hvv.shape; obtain ⟨M3, k3, rfl, _⟩ := hbb.shape; obtain ⟨M4, k4, rfl, _⟩ := hee.shape; clear hn' hpp hvv hbb hee)
     (try simp only at HPq)
     have HFl := Lib.hid (fun V hV => Flat_any (W := V) HPq.out hV hV.1)
     have HB8 : Hid (Below W7.heap.size W7 (W8.alloc (.cells #[.string f.nm, .slice M1 f.params.length k1, .slice M2 f.vars.length k2, .slice M3 f.body.length k3, .slice M4 f.end_.length k4] 39))) := Lib.hid (below_stepA hb8 _)
     have HBq : Hid (Blk (W8.alloc (.cells #[.string f.nm, .slice M1 f.params.length k1, .slice M2 f.vars.length k2, .slice M3 f.body.length k3, .slice M4 f.end_.length k4] 39)) W8.heap.size 39 #[.string f.nm, .slice M1 f.params.length k1, .slice M2 f.vars.length k2, .slice M3 f.body.length k3, .slice M4 f.end_.length k4]) := Lib.hid (Blk.new _ _ _)
     have HIq : Hid (In (fun b => W7.heap.size ≤ b ∧ b < W8.heap.size) W8 (W8.alloc (.cells #[.string f.nm, .slice M1 f.params.length k1, .slice M2 f.vars.length k2, .slice M3 f.body.length k3, .slice M4 f.end_.length k4] 39))) := Lib.hid (In.on ⟨fun j h => h.2, fun _ _ => rfl⟩ (below_box _))
     have HVs : Hid (W8.heap.size ≤ (W8.alloc (.cells #[.string f.nm, .slice M1 f.params.length k1, .slice M2 f.vars.length k2, .slice M3 f.body.length k3, .slice M4 f.end_.length k4] 39)).heap.size) := Lib.hid (below_box (W := W8) _).size
     clear hb8 HP1 HPq q0 q1
     generalize World.alloc W8 _ = V8 at HB8 HBq HIq HVs ⊢
     generalize W8.heap.size = bq at HBq ⊢
     have HTw8 := Lib.hid (HTw7.out.step HB8.out)
     have z0 : V8.cell? ⟨bq, 0, none⟩ = some (.string f.nm) := by rw [HBq.out.cell]; rfl
     have z1 : V8.cell? ⟨bq, 1, none⟩ = some (.slice M1 f.params.length k1) := by rw [HBq.out.cell]; rfl
     have z2 : V8.cell? ⟨bq, 2, none⟩ = some (.slice M2 f.vars.length k2) := by rw [HBq.out.cell]; rfl
     have z3 : V8.cell? ⟨bq, 3, none⟩ = some (.slice M3 f.body.length k3) := by rw [HBq.out.cell]; rfl
     have z4 : V8.cell? ⟨bq, 4, none⟩ = some (.slice M4 f.end_.length k4) := by rw [HBq.out.cell]; rfl
     go_upto_region 16 with (go_at_call 20; refine (HFl.out V8 HIq.out).mono ?_; rintro e' W9 ⟨v9, rows9, rfl, ho9, ha9, hb9⟩; obtain ⟨X9, cx9, rfl, hx9, hx9'⟩ := own_shape ho9)
     have HSl := Lib.hid (slice_of_own ho9 ha9 (fun x cs h => by obtain ⟨c, rfl, hc⟩ := h; obtain ⟨_, _, _, _, _, _, _, _, _, _, _, _, _, _, _, _, _, _, _, _, _, _, _, _, _, rfl, _⟩ := stmt_open hc; rfl))
     have HTw9 := Lib.hid (HTw8.out.step hb9)
     have HQ9 := Lib.hid (HIq.out.on hb9)
     obtain ⟨T, hT⟩ : ∃ T : Nat → Prop, T = (fun b => W7.heap.size ≤ b ∧ b < W9.heap.size) := ⟨_, rfl⟩
     have HTT := Lib.hid hT
     have HT9 : Hid (In T W9 W9) := Lib.hid (by rw [hT]; exact in_slf _ W9)
     have HTi : Hid (∀ b, (V8.heap.size ≤ b ∧ b < W9.heap.size) → T b) := Lib.hid (fun b hb => by rw [hT]; exact ⟨Nat.le_trans HB8.out.size hb.1, hb.2⟩)
     have HTq : Hid (∀ b, (W7.heap.size ≤ b ∧ b < W8.heap.size) → T b) := Lib.hid (fun b hb => by rw [hT]; exact ⟨hb.1, by have h1 := HVs.out; have h2 := hb9.size; omega⟩)
     have HOf : Hid (∀ j, vb.ownBlock = some j → ¬ T j) := Lib.hid (fun j hj => by rw [hT]; intro h; have := (HTw7.out.two.lt j hj).2; omega)
     have HTl : Hid (∀ j, T j → j < W9.heap.size) := Lib.hid (fun j hj => by rw [hT] at hj; exact hj.2)
     clear hT HTT ho9 ha9 hb9 z0 z1 z2 z3 z4 HFl HBq HIq HB8 HTw8 HTw7 HI7 HBp7 HVs
     generalize hits : flatOf f = its at HSl HIt hx9 hx9' ⊢
     clear hits
     go_loopg [8, 52] its.length (fun kk o2 iv wr => ∃ (k2 : Nat) (M : List ByteArray) (vb2 : Value), k2 + kk = its.length ∧ iv = .int .i64 k2 ∧ vb2 = o2 ∧ M = M0 ++ saidOf ((its.take k2).map It.s) ∧ Hid (TwI W5 wr (L0 ++ lc) M v7 vb2) ∧ Hid (In T W9 wr) ∧ Hid (∀ j, vb2.ownBlock = some j → ¬ T j) ∧ Hid (∀ s ∈ M, small s))
     case atStart => exact ⟨0, M0, _, by omega, rfl, rfl, by simp [saidOf], HTw9, HT9, HOf, Lib.hid HSm.out.2⟩
     case round =>
      obtain ⟨k2, N1, vb2, hk2, rfl, rfl, hN1, HTw2, HTr, HOr2, HSm3⟩ := hrel
      by_cases hlt2 : k2 < its.length
      ·obtain ⟨a2, id, kind, labels, nm, proc, x, has, args, th, el, L, lc2, y0, y1, y2, X, xn, xc, R, rc, T0, tc, U, uc, dp, inn, els, rfl, hq2, hmk, hrow2, hid, hkind, hst, hdp, hinn, hels⟩ := item_at2 HSl.out (W := wr) (HTr.out.mono HTi.out) hlt2
       have hsm2 : its[k2].s ∈ preSL f.body := by rw [← HIt.out]; exact List.mem_map_of_mem (List.getElem_mem hlt2)
       have hs20 := HSf.out _ hsm2
       have HNx : Hid (N1 ++ saidS its[k2].s = M0 ++ saidOf ((its.take (k2 + 1)).map It.s)) := Lib.hid (by rw [hN1, List.take_succ_eq_append_getElem hlt2, List.map_append, saidOf_app, List.append_assoc]; simp [saidOf])
       have HNl : Hid (N1.length + (saidS its[k2].s).length ≤ 4000000000000) := Lib.hid (by
        have h1 : (N1 ++ saidS its[k2].s).length = (M0 ++ saidOf ((its.take (k2 + 1)).map It.s)).length := by rw [HNx.out]
        rw [List.length_append, List.length_append, List.map_take, HIt.out] at h1
        have h2 : (saidOf ((preSL f.body).take (k2 + 1))).length ≤ (saidOf (preSL f.body)).length := flat_take_le
        have h3 := HNf.out
        have h4 := HNn.out.2
        omega)
       rw [hmk] at hs20 HNx HNl
       have HSa := Lib.hid (fun V hV => rSaid_any hst (Nat.le_trans hs20 (by omega)) V hV)
       have HSs := Lib.hid (said_small hst)
       have HQr := Lib.hid (HQ9.out.trans (HTr.out.mono HTq.out))
       obtain ⟨l2, hl2⟩ : ∃ l2, l2 = saidS (.mk id kind labels nm proc x has args th el) := ⟨_, rfl⟩
       rw [← hl2] at HSa HSs HNx HNl
       simp only [List.toArray] at HSa
       obtain ⟨p0, p1, p2, p3, p4, p5, p6, p7, p8, p9, p10, p11, p12, p13, p14, p15, _⟩ := hrow2
       clear hmk hst hid hkind hq2 hdp hinn hels hs20 hsm2 hl2 hN1
       go_upto_region 18 with fail
       have HBi : Hid (Blk (wr.alloc (.cells #[.int .i64 id, .int .i64 kind, .slice L labels.length lc2, .string nm, .string proc, .int .i64 y0, .int .i64 y1, .string y2, .slice X xn xc, .bool has, .slice R args.length rc, .slice T0 th.length tc, .slice U el.length uc, .int .i64 dp, .int .i64 inn, .bool els] 51)) wr.heap.size 51 #[.int .i64 id, .int .i64 kind, .slice L labels.length lc2, .string nm, .string proc, .int .i64 y0, .int .i64 y1, .string y2, .slice X xn xc, .bool has, .slice R args.length rc, .slice T0 th.length tc, .slice U el.length uc, .int .i64 dp, .int .i64 inn, .bool els]) := Lib.hid (Blk.new _ _ _)
       have HTw3 := Lib.hid (HTw2.out.step (w' := wr.alloc (.cells #[.int .i64 id, .int .i64 kind, .slice L labels.length lc2, .string nm, .string proc, .int .i64 y0, .int .i64 y1, .string y2, .slice X xn xc, .bool has, .slice R args.length rc, .slice T0 th.length tc, .slice U el.length uc, .int .i64 dp, .int .i64 inn, .bool els] 51)) (below_box _))
       have HTr3 := Lib.hid (HTr.out.alloc (.cells #[.int .i64 id, .int .i64 kind, .slice L labels.length lc2, .string nm, .string proc, .int .i64 y0, .int .i64 y1, .string y2, .slice X xn xc, .bool has, .slice R args.length rc, .slice T0 th.length tc, .slice U el.length uc, .int .i64 dp, .int .i64 inn, .bool els] 51))
       have HQr3 := Lib.hid (HQr.out.alloc (.cells #[.int .i64 id, .int .i64 kind, .slice L labels.length lc2, .string nm, .string proc, .int .i64 y0, .int .i64 y1, .string y2, .slice X xn xc, .bool has, .slice R args.length rc, .slice T0 th.length tc, .slice U el.length uc, .int .i64 dp, .int .i64 inn, .bool els] 51))
       clear p0 p1 p2 p3 p4 p5 p6 p7 p8 p9 p10 p11 p12 p13 p14 p15 HTw2 HTr HQr
       generalize World.alloc wr _ = V6 at HBi HTw3 HTr3 HQr3 ⊢
       generalize wr.heap.size = bi at HBi ⊢
       have s0 : V6.cell? ⟨bi, 0, none⟩ = some (.int .i64 id) := by rw [HBi.out.cell]; rfl
       have s1 : V6.cell? ⟨bi, 1, none⟩ = some (.int .i64 kind) := by rw [HBi.out.cell]; rfl
       have s2 : V6.cell? ⟨bi, 2, none⟩ = some (.slice L labels.length lc2) := by rw [HBi.out.cell]; rfl
       have s3 : V6.cell? ⟨bi, 3, none⟩ = some (.string nm) := by rw [HBi.out.cell]; rfl
       have s4 : V6.cell? ⟨bi, 4, none⟩ = some (.string proc) := by rw [HBi.out.cell]; rfl
       have s5 : V6.cell? ⟨bi, 5, none⟩ = some (.int .i64 y0) := by rw [HBi.out.cell]; rfl
       have s6 : V6.cell? ⟨bi, 6, none⟩ = some (.int .i64 y1) := by rw [HBi.out.cell]; rfl
       have s7 : V6.cell? ⟨bi, 7, none⟩ = some (.string y2) := by rw [HBi.out.cell]; rfl
       have s8 : V6.cell? ⟨bi, 8, none⟩ = some (.slice X xn xc) := by rw [HBi.out.cell]; rfl
       have s9 : V6.cell? ⟨bi, 9, none⟩ = some (.bool has) := by rw [HBi.out.cell]; rfl
       have s10 : V6.cell? ⟨bi, 10, none⟩ = some (.slice R args.length rc) := by rw [HBi.out.cell]; rfl
       have s11 : V6.cell? ⟨bi, 11, none⟩ = some (.slice T0 th.length tc) := by rw [HBi.out.cell]; rfl
       have s12 : V6.cell? ⟨bi, 12, none⟩ = some (.slice U el.length uc) := by rw [HBi.out.cell]; rfl
       go_wp2_with (first
        | (go_at_call 21; refine (HSa.out V6 HQr3.out).mono ?_; rintro e' W10 ⟨v10, rfl, ho10, hb10⟩; obtain ⟨X10, k10, rfl, _, _⟩ := own_shape ho10; have HTw4 := Lib.hid (HTw3.out.step hb10); have HTr4 := Lib.hid (HTr3.out.on hb10); have HTx := Lib.hid (texts_of_own HSs.out ho10).2; clear ho10 hb10)
        | (at_builtin; refine wpList_append_texts2 rfl (.tmp 56) (.tmp 59) 22 rfl W5.heap.size 9 i0 _ Tryz.underlying22 hi0 hz0 hz1 hz2 rfl _ N1.length (strs N1) rfl HTw4.out.two W10 _ X10 l2 l2.length k10 rfl rfl HTx.out (in_slf _ W10) HNl.out HTw4.out.below.size ?_; intro v11 W11 hown hg hv; have HTw5 := Lib.hid (HTw4.out.second hown hg hv); have HTr5 := Lib.hid (HTr4.out.moves (moves_grown hg) (fun j hj => HOr2.out j hj)); have HOf5 := Lib.hid (off_new HTr4.out HOr2.out hv); clear hown hg hv))
       go_roundg (its.length - k2 - 1)
       case measure => omega
       case rel => exact ⟨k2 + 1, N1 ++ l2, _, by omega, by go_num, rfl, HNx.out, HTw5, HTr5, HOf5, Lib.hid (fun s hs => by
        rcases List.mem_append.1 hs with h | h
        ·exact HSm3.out s h
        ·exact HSs.out s h)⟩
      ·obtain rfl : k2 = its.length := by omega
       rw [List.take_length, HIt.out] at hN1
       have HFc2 : Hid (∀ f2 ∈ p.procs, f2.nm ∈ l.take (k + 1) → (∀ s ∈ callsOf (preSL f2.body), s.size ≤ maxLen → s ∈ L0 ++ lc) ∧ ∀ s ∈ saidOf (preSL f2.body), s ∈ N1) := Lib.hid (fun f2 hf2 hm => by
        rcases HTk.out f2 hf2 hm with h | rfl
        ·obtain ⟨h1, h2⟩ := HFc.out f2 hf2 h
         exact ⟨fun s hs hz => List.mem_append_left _ (h1 s hs hz), fun s hs => by rw [hN1]; exact List.mem_append_left _ (h2 s hs)⟩
        ·exact ⟨fun s hs hz => List.mem_append_right _ ((HLc.out s).2 ⟨hz, hs⟩), fun s hs => by rw [hN1]; exact List.mem_append_right _ hs⟩)
       have HSm2 : Hid ((∀ s ∈ L0 ++ lc, small s) ∧ ∀ s ∈ N1, small s) := Lib.hid ⟨fun s hs => by
        rcases List.mem_append.1 hs with h | h
        ·exact HSm.out.1 s h
        ·exact ((HLc.out s).1 h).1, HSm3.out⟩
       have HNn2 : Hid ((L0 ++ lc).length ≤ (k + 1) * 1000 ∧ N1.length ≤ (k + 1) * 10000000) := Lib.hid (by
        have h1 := HNn.out
        have h2 := HLn.out
        have h3 := HNf.out
        rw [hN1, List.length_append, List.length_append, Nat.add_mul, Nat.add_mul]
        omega)
       clear hN1
       go_wp2_with fail
       go_roundg (l.length - k - 1)
       case measure => omega
       case rel => exact ⟨k + 1, L0 ++ lc, N1, _, _, by omega, by go_num, rfl, rfl, HTw2, HFc2, HSm2, HNn2⟩
    ·obtain rfl : k = l.length := by omega
     rw [List.take_length] at HFc
     have HTL := Lib.hid (texts_of_own HSm.out.1 HTw.out.one).2
     have HTM := Lib.hid (texts_of_own HSm.out.2 HTw.out.two).2
     obtain ⟨XL, kL, rfl, _, _⟩ := own_shape HTw.out.one
     obtain ⟨XM, kM, rfl, _, _⟩ := own_shape HTw.out.two
     have HInR := Lib.hid (fun s (hs : s ∈ L0) => by
      have h := rIn_any HTL.out (in_slf _ wr) s
      rw [show L0.any (isT s) = true by rw [List.any_eq_true]; exact ⟨s, hs, by simp [isT]⟩] at h
      exact h)
     have HCa : Hid (∀ s ∈ l, s ≠ an → s ∈ L0) := Lib.hid (fun s hs hne => by
      obtain ⟨g, hg, h1, h2, h3⟩ := HEr.out s hs hne
      exact (HFc.out g hg h1).1 s h2 h3)
     have HSub : Hid (∀ l8, GlobOf p (jfP p an) l8 → ∀ s ∈ l8, s ∈ M0) := Lib.hid (fun l8 ha s hs => by
      obtain ⟨hz, hg, x, hx, hr, hsd⟩ := (HMg.out l8 ha s).1 hs
      exact (HFc.out x hx ((HL.out _).2 ⟨HZz.out x hx, x, hx, hr, rfl⟩)).2 s hsd)
     have HBo := Lib.hid (below_step HB5.out HTw.out.below)
     clear hlt HFc HEr HL HSd HSn HTw HSm HNn
     generalize wr = wo at *
     go_upto_region 22 with fail
     go_loopg [65] l.length (fun kk i wr => ∃ k : Nat, k + kk = l.length ∧ i = .int .i64 k ∧ wo = wr)
     case atStart => exact ⟨0, by omega, rfl, rfl⟩
     case round =>
      obtain ⟨k, hk, rfl, rfl⟩ := hrel
      by_cases hlt : k < l.length
      ·obtain ⟨g5, cap5, he5, hcl5, _, _⟩ := own_at HOr.out hlt
       injection he5 with h51 _ h53
       subst h51 h53
       have pt := hcl5 (.string l[k]) (by simp [strs, List.getElem?_map, List.getElem?_eq_getElem hlt])
       by_cases hne : l[k] = an
       ·have e0 : (l[k].toList == an.toList) = true := by rw [hne]; simp
        have e1 : (l[k].toList != an.toList) = false := by rw [hne]; simp
        generalize l[k] = bn at pt e1 e0
        clear hne hcl5
        go_wp2_with fail
        go_roundg (l.length - k - 1)
        case measure => omega
        case rel => exact ⟨k + 1, by omega, by go_num, rfl⟩
       ·have e0 : (l[k].toList == an.toList) = false := by rw [dec_bytes]; exact decide_eq_false hne
        have e1 : (l[k].toList != an.toList) = true := by simp [bne, e0]
        have HI := Lib.hid (HInR.out l[k] (HCa.out l[k] (List.getElem_mem hlt) hne))
        generalize l[k] = bn at pt e1 HI e0
        clear hne hcl5
        go_wp2_with (go_at_call 22; refine HI.out.mono ?_; rintro e' W' ⟨rfl, rfl⟩)
        go_roundg (l.length - k - 1)
        case measure => omega
        case rel => exact ⟨k + 1, by omega, by go_num, rfl⟩
      ·go_wp2_with (first
        | (go_at_call 16; refine (HG1.out wo HIr.out).mono ?_; rintro e' W8 ⟨l8, v8, rfl, ho8, hb8, ha8⟩; have HB8 := Lib.hid (below_step HBo.out hb8); have HS8 := Lib.hid (Subset_any (texts_of_own (fun s hs => ((HMg.out l8 ha8 s).1 hs).1) ho8).2 HTM.out (W := W8) (in_slf _ W8) (In.on (in_slf _ wo) hb8) (HSub.out l8 ha8)); clear ho8 hb8 ha8)
        | (go_at_call 23; refine HS8.out.mono ?_; rintro e' W9 ⟨rfl, rfl⟩))
       go_ret
       exact ⟨rfl, HB8.out⟩

  ·have hr1 : (rc == 0) = false := beq_eq_false_iff_ne.2 hr
   have hr2 : (rc != 0) = true := by simp [bne, hr1]
   clear hr HOk0
   go_wp2_with (go_at_call 18; refine (HC.out W2 HI2.out).mono ?_; rintro e' W3 ⟨rfl, hb3⟩)
   go_ret
   exact ⟨rfl, below_step HB2.out hb3⟩
end Go.Proofs.YtimejkbmfbjomaaGreat
