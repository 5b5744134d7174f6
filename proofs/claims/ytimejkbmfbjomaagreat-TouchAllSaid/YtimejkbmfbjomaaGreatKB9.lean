/- Texts, merged by a program; only what is used. -/
import Derived.Test.YtimejkbmfbjomaaGreatK1
import Derived.Test.YtimejkbmfbjomaaGreatK2
import Derived.Test.YtimejkbmfbjomaaGreatK3
import Derived.Test.YtimejkbmfbjomaaGreatK4
import Derived.Test.YtimejkbmfbjomaaGreatK5
import Derived.Test.YtimejkbmfbjomaaGreatK6
import Derived.Test.YtimejkbmfbjomaaGreatK7
import Derived.Test.YtimejkbmfbjomaaGreatK8
import Derived.Test.YtimejkbmfbjomaaGreatK9
import Derived.Test.YtimejkbmfbjomaaGreatK10
import Derived.Test.YtimejkbmfbjomaaGreatK11
import Derived.Test.YtimejkbmfbjomaaGreatK12
import Derived.Test.YtimejkbmfbjomaaGreatK13
import Derived.Test.YtimejkbmfbjomaaGreatK14
import Derived.Test.YtimejkbmfbjomaaGreatK15
import Derived.Test.YtimejkbmfbjomaaGreatK16
import Derived.Test.YtimejkbmfbjomaaGreatK17
import Derived.Test.YtimejkbmfbjomaaGreatK18
import Derived.Test.YtimejkbmfbjomaaGreatK19
import Derived.Test.YtimejkbmfbjomaaGreatK20
import Derived.Test.YtimejkbmfbjomaaGreatK21
import Derived.Test.YtimejkbmfbjomaaGreatK22
import Derived.Test.YtimejkbmfbjomaaGreatK23
import Derived.Test.YtimejkbmfbjomaaGreatK24
import Derived.Test.YtimejkbmfbjomaaGreatK25
import Derived.Test.YtimejkbmfbjomaaGreatK26
import Derived.Test.YtimejkbmfbjomaaGreatK27
import Derived.Test.YtimejkbmfbjomaaGreatK28
import Derived.Test.YtimejkbmfbjomaaGreatK29
import Derived.Test.YtimejkbmfbjomaaGreatK30
import Derived.Test.YtimejkbmfbjomaaGreatKB1
import Derived.Test.YtimejkbmfbjomaaGreatKB2
import Derived.Test.YtimejkbmfbjomaaGreatKB3
import Derived.Test.YtimejkbmfbjomaaGreatKB4
import Derived.Test.YtimejkbmfbjomaaGreatKB5
import Derived.Test.YtimejkbmfbjomaaGreatKB6
import Derived.Test.YtimejkbmfbjomaaGreatKB7
import Derived.Test.YtimejkbmfbjomaaGreatKB8
namespace Go.Proofs.YtimejkbmfbjomaaGreat
open Go.ChangeShapes Go.WideShapes Go.ChangeAt Go.RowKit Go.Deep
set_option linter.unusedVariables false
set_option linter.unusedSimpArgs false
theorem prog_gs {w : World} {Q : Nat → Prop} {p : Pg} {c0 c1 : Value} (h : ProgI w Q p [c0, c1]) : ∀ s ∈ p.globals, small s := by
 obtain ⟨A1, c1, A2, c2, e1, e2, _, _, _, _, hg, _⟩ := prog_open h
 exact texts_sm hg
theorem ord_srt2 {f : ByteArray → Bool} {l L : List ByteArray} (h : InOrd f l) (hm : ∀ s, s ∈ L ↔ s ∈ l) : l = srt L := ord_srt h (fun s => (hm s).trans (h.mem s))
theorem eq_rows {l1 l2 : List ByteArray} (e : l1 = l2) (hs : ∀ s ∈ l1, small s) {V1 V2 : World} {v1 v2 : Value} {B1 B2 : Nat} (h1 : V1.ownsRow B1 9 1 v1 l1.length (strs l1)) (h2 : V2.ownsRow B2 9 1 v2 l2.length (strs l2)) (h3 : Below V1.heap.size V1 V2) : Calls Tryz.prog 11 #[v1, v2] V2 (MayOk true V2) := by
 subst e
 have := EqTexts_any (texts_of_own hs h1).2 (texts_of_own hs h2).2 (W := V2) ⟨fun b hb => Nat.lt_of_lt_of_le hb.2 h3.size, fun p hp => h3.cell hp.2⟩ ⟨fun b hb => hb.2, fun p hp => rfl⟩
 rw [show decide (l1 = l1) = true from decide_eq_true rfl] at this
 exact this
theorem jf_no {p : Pg} {proc : ByteArray} (h : ¬ ((procP p proc).2 = true ∧ chkOK p = true)) : jfP p proc < 0 := by
 unfold jfP
 by_cases hc : chkOK p = true
 ·rw [if_pos hc]
  rcases idxL_get (isQ proc) p.procs 0 with ⟨e, _⟩ | ⟨j, hj, e, _, hf⟩
  ·rw [e]; decide
  ·exfalso
   apply h
   refine ⟨?_, hc⟩
   unfold procP
   rw [if_pos (ck_ok9 hc).may, hf]
   rfl
 ·rw [if_neg hc]
  decide
theorem calls_eq {p : Pg} (hz : ∀ q ∈ p.procs, q.nm.size ≤ 281474976710656) {proc : ByteArray} {l1 l2 : List ByteArray} (h1 : OrdOf p (jfP p proc) callF l1) (h2 : WrP p proc CcRes l2) : l1 = l2 ∧ ∀ s ∈ l1, small s := by
 rcases h2 with ⟨hn, rfl⟩ | ⟨⟨_, hc⟩, q, hq, rfl, rfl⟩
 ·have := jf_no hn
  rcases h1 with ⟨_, rfl⟩ | ⟨m, _, e, _⟩
  ·exact ⟨rfl, fun s hs => by cases hs⟩
  ·omega
 ·have hok := ck_ok9 hc
  have hm := calls_mem hok hc hq h1
  refine ⟨?_, fun s hs => ((hm s).1 hs).1⟩
  have h3 : ∃ f, InOrd f l1 := by
   obtain ⟨m, hm, e1, e2⟩ := jf_at hc hok.procs hq
   rcases h1 with ⟨h3, _⟩ | ⟨_, _, _, hi⟩
   ·omega
   ·exact ⟨_, hi⟩
  obtain ⟨f, hi⟩ := h3
  refine ord_srt2 hi (fun s => ?_)
  rw [hm s]
  refine ⟨fun hs => ⟨?_, hs⟩, fun hs => hs.2⟩
  obtain ⟨x, hx, rfl⟩ := called_there hok hq hs
  have := hz x hx
  unfold maxLen
  omega
theorem all_eq {p : Pg} (hz : ∀ q ∈ p.procs, q.nm.size ≤ 281474976710656) {proc : ByteArray} {l1 l2 : List ByteArray} (h1 : AllOf p (jfP p proc) l1) (h2 : WrP p proc (CdRes p) l2) : l1 = l2 ∧ ∀ s ∈ l1, small s := by
 rcases h2 with ⟨hn, rfl⟩ | ⟨⟨_, hc⟩, q, hq, rfl, L, rfl, hL⟩
 ·have := jf_no hn
  rcases h1 with ⟨_, rfl⟩ | ⟨m, _, _, e, _⟩
  ·exact ⟨rfl, fun s hs => by cases hs⟩
  ·omega
 ·have hok := ck_ok9 hc
  have hm := all_mem hok hc hq h1
  refine ⟨?_, fun s hs => ((hm s).1 hs).1⟩
  have h3 : ∃ f, InOrd f l1 := by
   obtain ⟨m, hm, e1, e2⟩ := jf_at hc hok.procs hq
   rcases h1 with ⟨h3, _⟩ | ⟨_, _, _, _, _, hi⟩
   ·omega
   ·exact ⟨_, hi⟩
  obtain ⟨f, hi⟩ := h3
  refine ord_srt2 hi (fun s => ?_)
  rw [hm s, hL s]
  refine ⟨fun hs => ⟨?_, hs⟩, fun hs => hs.2⟩
  obtain ⟨x, hx, _, rfl⟩ := hs
  have := hz x hx
  unfold maxLen
  omega
theorem glob_eq {p : Pg} (hgs : ∀ s ∈ p.globals, small s) {proc : ByteArray} {l1 l2 : List ByteArray} (h1 : GlobOf p (jfP p proc) l1) (h2 : WrP p proc (TdRes p) l2) : l1 = l2 ∧ ∀ s ∈ l1, small s := by
 rcases h2 with ⟨hn, rfl⟩ | ⟨⟨_, hc⟩, q, hq, rfl, L, rfl, hL⟩
 ·have := jf_no hn
  rcases h1 with ⟨_, rfl⟩ | ⟨m, _, _, e, _⟩
  ·exact ⟨rfl, fun s hs => by cases hs⟩
  ·omega
 ·have hok := ck_ok9 hc
  have hm := glob_mem hok hc hq h1
  refine ⟨?_, fun s hs => ((hm s).1 hs).1⟩
  have h3 : ∃ f, InOrd f l1 := by
   obtain ⟨m, hm, e1, e2⟩ := jf_at hc hok.procs hq
   rcases h1 with ⟨h3, _⟩ | ⟨_, _, _, _, _, hi⟩
   ·omega
   ·exact ⟨_, hi⟩
  obtain ⟨f, hi⟩ := h3
  refine ord_srt2 hi (fun s => ?_)
  rw [hm s, hL s]
  exact ⟨fun hs => ⟨hgs s hs.1, hs⟩, fun hs => hs.2⟩
set_option maxHeartbeats 8000000 in
set_option maxRecDepth 100000 in
theorem touchAll_walk {w : World} {Q : Nat → Prop} {p : Pg} {c0 c1 : Value} (h : ProgI w Q p [c0, c1]) (n : Int) (wn : (Lit.int .i64 n).wf = true) (W : World) (hI : In Q w W) :
 Calls Tryz.prog 3 #[.agg #[c0, c1], .int .i64 n] W fun e w' => e = .returned (.bool true) ∧ Below W.heap.size W w' := by
 have HP := Lib.hid h
 have HF := Lib.hid (fun V h1 => Fits_any h V h1)
 have HI := Lib.hid hI
 obtain ⟨Ag, cg, Ap, cp, rfl, rfl, _⟩ := prog_open h
 clear h hI
 go_enter Tryz.func3, Tryz.ntmps3
 go_upto_region 1 with fail
 have HB0 : Hid (Below W.heap.size W (W.alloc (.cells #[.slice Ag p.globals.length cg, .slice Ap p.procs.length cp] 25))) := Lib.hid (below_box _)
 have HBp0 : Hid (Blk (W.alloc (.cells #[.slice Ag p.globals.length cg, .slice Ap p.procs.length cp] 25)) W.heap.size 25 #[.slice Ag p.globals.length cg, .slice Ap p.procs.length cp]) := Lib.hid (Blk.new _ _ _)
 generalize World.alloc _ _ = W0 at HB0 HBp0 ⊢
 have HI0 := Lib.hid (HI.out.on HB0.out)
 generalize hbe : W.heap.size = b at HBp0 ⊢
 clear hbe
 go_upto_region 3 with (go_at_call 8; refine (touching_any W0).mono ?_; rintro e' W1 ⟨rfl, hb1⟩)
 have HB1 : Hid (Below W.heap.size W W1) := Lib.hid (below_step HB0.out hb1)
 have HI1 := Lib.hid (HI0.out.on hb1)
 have HBp1 := Lib.hid (HBp0.out.below hb1 HBp0.out.lt)
 clear hb1 HB0 HBp0 HI0
 have q0 : W1.cell? ⟨b, 0, none⟩ = some (.slice Ag p.globals.length cg) := by rw [HBp1.out.cell]; rfl
 have q1 : W1.cell? ⟨b, 1, none⟩ = some (.slice Ap p.procs.length cp) := by rw [HBp1.out.cell]; rfl
 have hbl := HBp1.out.lt
 cases hf : fitsP p with
 | false =>
  rw [hf] at HF
  clear hf
  go_wp2_with (go_at_call 9; refine (HF.out _ HI1.out).mono ?_; rintro e' W2 ⟨rfl, hb2⟩)
  go_ret
  exact ⟨rfl, below_step HB1.out hb2⟩
 | true =>
  have HSg := Lib.hid (fits_smG hf)
  have HSz : Hid (∀ q ∈ p.procs, q.nm.size ≤ 281474976710656) := Lib.hid (fits_nm hf)
  have HA1 := Lib.hid (fun nm V hV => tAll_any HP.out (fits_smG hf) HSz.out nm V hV)
  have HG1 := Lib.hid (fun nm V hV => tGlobals_any HP.out (fits_smG hf) (fun hc => fits_hck hf hc) nm V hV)
  have HC1 := Lib.hid (fun nm V hV => tCalls_any HP.out (fits_smG hf) nm V hV)
  have HA2 := Lib.hid (fun nm V hV => rCalled_any HP.out (fits_smG hf) nm V hV)
  have HC2 := Lib.hid (fun nm V hV => rCalls_any HP.out (fits_smG hf) nm V hV)
  have HG2 := Lib.hid (fun nm V hV => rTouched_any HP.out (fits_smG hf) (fun hc => fits_said hf (ck_ok9 hc).may) (fun hc => (fits_hck hf hc).2) nm V hV)
  have HPa := Lib.hid (ProcAt_big HP.out (fits_smG hf).procs n)
  have HEc := Lib.hid (fun nm l1 l2 h1 h2 => calls_eq (p := p) HSz.out (proc := nm) (l1 := l1) (l2 := l2) h1 h2)
  have HEa := Lib.hid (fun nm l1 l2 h1 h2 => all_eq (p := p) HSz.out (proc := nm) (l1 := l1) (l2 := l2) h1 h2)
  have HEg := Lib.hid (fun nm l1 l2 h1 h2 => glob_eq (p := p) (prog_gs HP.out) (proc := nm) (l1 := l1) (l2 := l2) h1 h2)
  rw [hf] at HF
  clear hf
  go_upto_region 5 with (go_at_call 9; refine (HF.out _ HI1.out).mono ?_; rintro e' W2 ⟨rfl, hb2⟩)
  have HB2 : Hid (Below W.heap.size W W2) := Lib.hid (below_step HB1.out hb2)
  have HI2 := Lib.hid (HI1.out.on hb2)
  have HBp2 := Lib.hid (HBp1.out.below hb2 hbl)
  clear hb2 HB1 HI1 HBp1 q0 q1 hbl HF
  have q0 : W2.cell? ⟨b, 0, none⟩ = some (.slice Ag p.globals.length cg) := by rw [HBp2.out.cell]; rfl
  have q1 : W2.cell? ⟨b, 1, none⟩ = some (.slice Ap p.procs.length cp) := by rw [HBp2.out.cell]; rfl
  have hbl := HBp2.out.lt
  obtain ⟨an, hPa⟩ := HPa.out
  have HPs := Lib.hid hPa
  clear hPa HPa HSg
  go_upto_region 6 with (go_at_call 10; refine (HPs.out W2 HI2.out).mono ?_; rintro e' W3 ⟨rfl, hb3⟩)
  have HB3 := Lib.hid (below_step HB2.out hb3)
  have HI3 := Lib.hid (HI2.out.on hb3)
  have HBp3 := Lib.hid (HBp2.out.below hb3 hbl)
  clear q0 q1 hbl hb3 HB2 HI2 HBp2
  have hbl := HBp3.out.lt
  have q0 : W3.cell? ⟨b, 0, none⟩ = some (.slice Ag p.globals.length cg) := by rw [HBp3.out.cell]; rfl
  have q1 : W3.cell? ⟨b, 1, none⟩ = some (.slice Ap p.procs.length cp) := by rw [HBp3.out.cell]; rfl
  have HS3 : Hid (∀ w' : World, Below W3.heap.size W3 w' → (w'.cell? ⟨b, 0, none⟩ = some (.slice Ag p.globals.length cg) ∧ w'.cell? ⟨b, 1, none⟩ = some (.slice Ap p.procs.length cp))) := Lib.hid (fun w' hb => ⟨(hb.cell (p := ⟨b, 0, none⟩) hbl).trans q0, (hb.cell (p := ⟨b, 1, none⟩) hbl).trans q1⟩)
  have hBD : Below W3.heap.size W3 W3.drew := (Below.refl _ _).drew
  have hdr : In Q w W3.drew := HI3.out
  go_region_held3 (fun w' => w'.cell? ⟨b, 0, none⟩ = some (.slice Ag p.globals.length cg) ∧ w'.cell? ⟨b, 1, none⟩ = some (.slice Ap p.procs.length cp))
   ((refine HS3.out _ ?_; with_reducible assumption))
   (first
    | (go_at_call 12; (with_reducible refine (HC1.out an W3.drew hdr).mono ?_); rintro e' W4 ⟨l4, v4, rfl, ho4, hb4, hr4⟩; have g4 : Below W3.heap.size W3 W4 := hBD.trans hb4; have HI4 := Lib.hid (HI3.out.on g4); have HR4 := Lib.hid hr4; have HO4 := Lib.hid ho4; have HBl4 := Lib.hid hb4; clear hr4 ho4 hb4)
    | (go_at_call 13; (with_reducible refine (HC2.out an W4 HI4.out).mono ?_); rintro e' W5 ⟨l5, v5, rfl, ho5, hb5, hr5⟩; have g5 : Below W3.heap.size W3 W5 := below_step g4 hb5; have HI5 := Lib.hid (HI3.out.on g5); have HR5 := Lib.hid hr5; have HO5 := Lib.hid ho5; have HBl5 := Lib.hid hb5; clear hr5 ho5 hb5; obtain ⟨e5, hs5⟩ := HEc.out an l4 l5 HR4.out HR5.out; have HQ5 := Lib.hid (eq_rows e5 hs5 HO4.out HO5.out HBl5.out); clear e5 hs5)
    | (go_at_call 11; (with_reducible refine HQ5.out.mono ?_); rintro e' W6 ⟨rfl, hb6⟩; have g6 : Below W3.heap.size W3 W6 := below_step g5 hb6; have HI6 := Lib.hid (HI3.out.on g6); clear hb6)
    | (go_at_call 14; (with_reducible refine (HA1.out an W6 HI6.out).mono ?_); rintro e' W7 ⟨l7, v7, rfl, ho7, hb7, hr7⟩; have g7 : Below W3.heap.size W3 W7 := below_step g6 hb7; have HI7 := Lib.hid (HI3.out.on g7); have HR7 := Lib.hid hr7; have HO7 := Lib.hid ho7; have HBl7 := Lib.hid hb7; clear hr7 ho7 hb7)
    | (go_at_call 15; (with_reducible refine (HA2.out an W7 HI7.out).mono ?_); rintro e' W8 ⟨l8, v8, rfl, ho8, hb8, hr8⟩; have g8 : Below W3.heap.size W3 W8 := below_step g7 hb8; have HI8 := Lib.hid (HI3.out.on g8); have HR8 := Lib.hid hr8; have HO8 := Lib.hid ho8; have HBl8 := Lib.hid hb8; clear hr8 ho8 hb8; obtain ⟨e8, hs8⟩ := HEa.out an l7 l8 HR7.out HR8.out; have HQ8 := Lib.hid (eq_rows e8 hs8 HO7.out HO8.out HBl8.out); clear e8 hs8)
    | (go_at_call 11; (with_reducible refine HQ8.out.mono ?_); rintro e' W9 ⟨rfl, hb9⟩; have g9 : Below W3.heap.size W3 W9 := below_step g8 hb9; have HI9 := Lib.hid (HI3.out.on g9); clear hb9)
    | (go_at_call 16; (with_reducible refine (HG1.out an W9 HI9.out).mono ?_); rintro e' W10 ⟨l10, v10, rfl, ho10, hb10, hr10⟩; have g10 : Below W3.heap.size W3 W10 := below_step g9 hb10; have HI10 := Lib.hid (HI3.out.on g10); have HR10 := Lib.hid hr10; have HO10 := Lib.hid ho10; have HBl10 := Lib.hid hb10; clear hr10 ho10 hb10)
    | (go_at_call 17; (with_reducible refine (HG2.out an W10 HI10.out).mono ?_); rintro e' W11 ⟨l11, v11, rfl, ho11, hb11, hr11⟩; have g11 : Below W3.heap.size W3 W11 := below_step g10 hb11; have HI11 := Lib.hid (HI3.out.on g11); have HR11 := Lib.hid hr11; have HO11 := Lib.hid ho11; have HBl11 := Lib.hid hb11; clear hr11 ho11 hb11; obtain ⟨e11, hs11⟩ := HEg.out an l10 l11 HR10.out HR11.out; have HQ11 := Lib.hid (eq_rows e11 hs11 HO10.out HO11.out HBl11.out); clear e11 hs11)
    | (go_at_call 11; (with_reducible refine HQ11.out.mono ?_); rintro e' W12 ⟨rfl, hb12⟩; have g12 : Below W3.heap.size W3 W12 := below_step g11 hb12; have HI12 := Lib.hid (HI3.out.on g12); clear hb12))
  go_wp2_with fail
  go_ret
  exact ⟨rfl, below_step HB3.out g12⟩
end Go.Proofs.YtimejkbmfbjomaaGreat
