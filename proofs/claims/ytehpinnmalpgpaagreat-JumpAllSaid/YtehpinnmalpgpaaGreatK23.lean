/- Texts, merged by a program; only what is used. -/
import Derived.Test.YtehpinnmalpgpaaGreatK1
import Derived.Test.YtehpinnmalpgpaaGreatK2
import Derived.Test.YtehpinnmalpgpaaGreatK3
import Derived.Test.YtehpinnmalpgpaaGreatK4
import Derived.Test.YtehpinnmalpgpaaGreatK5
import Derived.Test.YtehpinnmalpgpaaGreatK6
import Derived.Test.YtehpinnmalpgpaaGreatK7
import Derived.Test.YtehpinnmalpgpaaGreatK8
import Derived.Test.YtehpinnmalpgpaaGreatK9
import Derived.Test.YtehpinnmalpgpaaGreatK10
import Derived.Test.YtehpinnmalpgpaaGreatK11
import Derived.Test.YtehpinnmalpgpaaGreatK12
import Derived.Test.YtehpinnmalpgpaaGreatK13
import Derived.Test.YtehpinnmalpgpaaGreatK14
import Derived.Test.YtehpinnmalpgpaaGreatK15
import Derived.Test.YtehpinnmalpgpaaGreatK16
import Derived.Test.YtehpinnmalpgpaaGreatK17
import Derived.Test.YtehpinnmalpgpaaGreatK18
import Derived.Test.YtehpinnmalpgpaaGreatK19
import Derived.Test.YtehpinnmalpgpaaGreatK20
import Derived.Test.YtehpinnmalpgpaaGreatK21
import Derived.Test.YtehpinnmalpgpaaGreatK22
namespace Go.Proofs.YtehpinnmalpgpaaGreat
open Go.ChangeShapes Go.WideShapes Go.ChangeAt Go.RowKit Go.Deep
set_option linter.unusedVariables false
set_option linter.unusedSimpArgs false
def chkJ : List Pr → Int × Int
 | [] => (0, 0)
 | q :: l => if (wrQ q).2 = true then (7, (wrQ q).1) else chkJ l
theorem chkJ_drop {l : List Pr} {k : Nat} (h : k < l.length) : chkJ (l.drop k) = if (wrQ l[k]).2 = true then (7, (wrQ l[k]).1) else chkJ (l.drop (k + 1)) := by
 rw [List.drop_eq_getElem_cons h, chkJ]
def jCheck (p : Pg) : Int × Int := if chkOK p = true then chkJ p.procs else (1, 0)
set_option maxHeartbeats 8000000 in
set_option maxRecDepth 100000 in
theorem jCheck_any {w : World} {Q : Nat → Prop} {p : Pg} {c0 c1 : Value} (h : ProgI w Q p [c0, c1]) (hsm : SmG p) (W : World) (hI : In Q w W) :
 Calls Tryz.prog 13 #[.agg #[c0, c1]] W (ChRes (jCheck p) W) := by
 have HC := Lib.hid (fun V hV => named_any h hsm V hV)
 have HSm := Lib.hid (fun q hq => hsm.proc q hq)
 obtain ⟨Ag, cg, Ap, cp, rfl, rfl, _, _, _, _, hgl, hpr⟩ := prog_open h
 have HP := Lib.hid hpr
 have HI := Lib.hid hI
 have HK : Hid (jCheck p = if chkOK p = true then chkJ p.procs else (1, 0)) := Lib.hid rfl
 clear h hI hgl hpr hsm
 cases hr : chkOK p with
 | true =>
  rw [hr] at HC
  have HK2 : Hid (jCheck p = chkJ p.procs) := Lib.hid (by rw [HK.out, hr]; rfl)
  clear HK hr
  go_enter Tryz.func13, Tryz.ntmps13
  go_upto_region 1 with fail
  have HB0 : Hid (Below W.heap.size W ((W.alloc (.cells #[.slice Ag p.globals.length cg, .slice Ap p.procs.length cp] 25)).alloc (.cells #[.int .i64 0, .int .i64 0] 34))) := Lib.hid (below_two _ _)
  have HBp : Hid (Blk ((W.alloc (.cells #[.slice Ag p.globals.length cg, .slice Ap p.procs.length cp] 25)).alloc (.cells #[.int .i64 0, .int .i64 0] 34)) W.heap.size 25 #[.slice Ag p.globals.length cg, .slice Ap p.procs.length cp]) := Lib.hid ((Blk.new _ _ _).alloc _)
  have HBf : Hid (Blk ((W.alloc (.cells #[.slice Ag p.globals.length cg, .slice Ap p.procs.length cp] 25)).alloc (.cells #[.int .i64 0, .int .i64 0] 34)) (W.heap.size + 1) 34 #[.int .i64 0, .int .i64 0]) := Lib.hid (by have := Blk.new (W.alloc (.cells #[.slice Ag p.globals.length cg, .slice Ap p.procs.length cp] 25)) 34 #[.int .i64 0, .int .i64 0]; rw [World.size_alloc] at this; exact this)
  generalize World.alloc _ _ = V at HB0 HBp HBf ⊢
  have HI0 := Lib.hid (HI.out.on HB0.out)
  have hwb : W.heap.size ≤ W.heap.size + 1 := by omega
  generalize hbe : W.heap.size = b at HBp HBf hwb ⊢
  generalize hfe : b + 1 = f at HBf hwb ⊢
  have hWf : W.heap.size ≤ f := by omega
  clear hbe hfe
  have q0 : V.cell? ⟨b, 0, none⟩ = some (.slice Ag p.globals.length cg) := by rw [HBp.out.cell]; rfl
  have q1 : V.cell? ⟨b, 1, none⟩ = some (.slice Ap p.procs.length cp) := by rw [HBp.out.cell]; rfl
  have hbl := HBp.out.lt
  have hfl := HBf.out.lt
  go_upto_region 3 with (go_at_call 42; refine (HC.out V HI0.out).mono ?_; rintro e w1 ⟨rfl, hb1⟩)
  have HB1 := Lib.hid (below_step HB0.out hb1)
  have HI1 := Lib.hid (HI0.out.on hb1)
  have HBp1 := Lib.hid (HBp.out.below hb1 hbl)
  have HBf1 := Lib.hid (HBf.out.below hb1 hfl)
  clear q0 q1 hb1 HB0 HBp HBf HI0 hbl hfl HC
  have q1 : w1.cell? ⟨b, 1, none⟩ = some (.slice Ap p.procs.length cp) := by rw [HBp1.out.cell]; rfl
  have hbl := HBp1.out.lt
  have hfl := HBf1.out.lt
  go_upto_region 4 with fail
  clear q1
  go_loopg [14] p.procs.length (fun kk iv wr => ∃ (k : Nat), k + kk = p.procs.length ∧ iv = .int .i64 k ∧ Hid (Below w1.heap.size w1 wr) ∧ Hid (chkJ (p.procs.drop k) = chkJ p.procs))
  case atStart => exact ⟨0, by omega, rfl, Lib.hid (Below.refl _ _), Lib.hid rfl⟩
  case round =>
   obtain ⟨k, hk, rfl, HBr, HA⟩ := hrel
   have HIr := Lib.hid (HI1.out.on HBr.out)
   have HBpr := Lib.hid (HBp1.out.below HBr.out hbl)
   have HBfr := Lib.hid (HBf1.out.below HBr.out hfl)
   by_cases hlt : k < p.procs.length
   ·obtain ⟨a, Bp, kp, Bv, kv, Bb, kb, Be, ke, rfl, hqa, hrow, hnm, hpp, hvv, hbody, hee⟩ := proc_at HP.out HIr.out hlt
    have HWr := Lib.hid (fun V hV => jwrong_any (q := p.procs[k]) ⟨_, _, _, _, rfl, hnm, hpp, hvv, hbody, hee⟩ (HSm.out _ (List.getElem_mem hlt)).1 (HSm.out _ (List.getElem_mem hlt)).2.2.1 V hV)
    have HAk := Lib.hid (chkJ_drop hlt)
    rw [HA.out] at HAk
    clear hqa hnm hpp hvv hbody hee
    generalize wrQ p.procs[k] = r at HWr HAk
    obtain ⟨ri, rb⟩ := r
    simp only at HWr HAk
    generalize p.procs[k].nm = x0 at hrow HWr
    generalize p.procs[k].params.length = x1 at hrow HWr
    generalize p.procs[k].vars.length = x2 at hrow HWr
    generalize p.procs[k].body.length = x3 at hrow HWr
    generalize p.procs[k].end_.length = x4 at hrow HWr
    obtain ⟨p0, p1, p2, p3, p4, _⟩ := hrow
    go_upto_region 6 with fail
    have HBx : Hid (Blk (wr.alloc (.cells #[.string x0, .slice Bp x1 kp, .slice Bv x2 kv, .slice Bb x3 kb, .slice Be x4 ke] 43)) wr.heap.size 43 #[.string x0, .slice Bp x1 kp, .slice Bv x2 kv, .slice Bb x3 kb, .slice Be x4 ke]) := Lib.hid (Blk.new _ _ _)
    have HB4 : Hid (Below w1.heap.size w1 (wr.alloc (.cells #[.string x0, .slice Bp x1 kp, .slice Bv x2 kv, .slice Bb x3 kb, .slice Be x4 ke] 43))) := Lib.hid (below_stepA HBr.out _)
    have HI4 : Hid (In Q w (wr.alloc (.cells #[.string x0, .slice Bp x1 kp, .slice Bv x2 kv, .slice Bb x3 kb, .slice Be x4 ke] 43))) := Lib.hid (HIr.out.alloc _)
    clear p0 p1 p2 p3 p4 HIr HBpr HBfr
    generalize World.alloc wr _ = V4 at HBx HB4 HI4 ⊢
    generalize wr.heap.size = bx at HBx ⊢
    have HBp4 := Lib.hid (HBp1.out.below HB4.out hbl)
    have q1 : V4.cell? ⟨b, 1, none⟩ = some (.slice (some a) p.procs.length cp) := by rw [HBp4.out.cell]; rfl
    have z0 : V4.cell? ⟨bx, 0, none⟩ = some (.string x0) := by rw [HBx.out.cell]; rfl
    have z1 : V4.cell? ⟨bx, 1, none⟩ = some (.slice Bp x1 kp) := by rw [HBx.out.cell]; rfl
    have z2 : V4.cell? ⟨bx, 2, none⟩ = some (.slice Bv x2 kv) := by rw [HBx.out.cell]; rfl
    have z3 : V4.cell? ⟨bx, 3, none⟩ = some (.slice Bb x3 kb) := by rw [HBx.out.cell]; rfl
    have z4 : V4.cell? ⟨bx, 4, none⟩ = some (.slice Be x4 ke) := by rw [HBx.out.cell]; rfl
    go_upto_region 7 with (go_at_call 46; refine (HWr.out V4 HI4.out).mono ?_; rintro e w8 ⟨rfl, hb8⟩)
    have HB8 := Lib.hid (below_step HB4.out hb8)
    clear z0 z1 z2 z3 z4 q1 hb8 HB4 HI4 HBx HBp4 HWr
    cases rb with
    | false =>
     rw [if_neg (by simp)] at HAk
     go_wp2_with fail
     go_roundg (p.procs.length - k - 1)
     case measure => omega
     case rel => exact ⟨k + 1, by omega, by go_num, HB8, Lib.hid HAk.out.symm⟩
    | true =>
     rw [if_pos rfl] at HAk
     have HBf8 := Lib.hid (HBf1.out.below HB8.out hfl)
     have HBW8 := Lib.hid (below_step HB1.out HB8.out)
     have f0_ := HBf8.out.frozen 0
     have f1_ := HBf8.out.frozen 1
     have y0_ : w8.cell? ⟨f, 0, none⟩ = some (.int .i64 0) := by rw [HBf8.out.cell]; rfl
     have y1_ : w8.cell? ⟨f, 1, none⟩ = some (.int .i64 0) := by rw [HBf8.out.cell]; rfl
     go_wp2_with fail
     (try simp only [Exit.inBlock, Exit.then])
     refine bodyPost_ret (results_c1 rfl _ _ f 34 #[.int .i64 7, .int .i64 ri] (0, 0) _ rfl (fault_end HBf8.out) Tryz.underlying34 rfl (by kernel_rfl)) rfl ?_
     exact ⟨by rw [HK2.out, HAk.out], below_setc (below_setc HBW8.out hWf _) hWf _⟩
   ·have HAn : Hid (chkJ p.procs = (0, 0)) := Lib.hid (by rw [← HA.out, List.drop_of_length_le (by omega)]; rfl)
    have HBWr := Lib.hid (below_step HB1.out HBr.out)
    have f0_ := HBfr.out.frozen 0
    have f1_ := HBfr.out.frozen 1
    have y0_ : wr.cell? ⟨f, 0, none⟩ = some (.int .i64 0) := by rw [HBfr.out.cell]; rfl
    have y1_ : wr.cell? ⟨f, 1, none⟩ = some (.int .i64 0) := by rw [HBfr.out.cell]; rfl
    go_wp2_with fail
    (try simp only [Exit.inBlock, Exit.then])
    refine bodyPost_ret (results_c1 rfl _ _ f 34 #[.int .i64 0, .int .i64 0] (0, 0) _ rfl (fault_end HBfr.out) Tryz.underlying34 rfl (by kernel_rfl)) rfl ?_
    exact ⟨by rw [HK2.out, HAn.out], below_setc (below_setc HBWr.out hWf _) hWf _⟩
 | false =>
  rw [hr] at HC
  have HK2 : Hid (jCheck p = (1, 0)) := Lib.hid (by rw [HK.out, hr]; rfl)
  clear HK hr
  go_enter Tryz.func13, Tryz.ntmps13
  go_upto_region 1 with fail
  have HB0 : Hid (Below W.heap.size W ((W.alloc (.cells #[.slice Ag p.globals.length cg, .slice Ap p.procs.length cp] 25)).alloc (.cells #[.int .i64 0, .int .i64 0] 34))) := Lib.hid (below_two _ _)
  have HBp : Hid (Blk ((W.alloc (.cells #[.slice Ag p.globals.length cg, .slice Ap p.procs.length cp] 25)).alloc (.cells #[.int .i64 0, .int .i64 0] 34)) W.heap.size 25 #[.slice Ag p.globals.length cg, .slice Ap p.procs.length cp]) := Lib.hid ((Blk.new _ _ _).alloc _)
  have HBf : Hid (Blk ((W.alloc (.cells #[.slice Ag p.globals.length cg, .slice Ap p.procs.length cp] 25)).alloc (.cells #[.int .i64 0, .int .i64 0] 34)) (W.heap.size + 1) 34 #[.int .i64 0, .int .i64 0]) := Lib.hid (by have := Blk.new (W.alloc (.cells #[.slice Ag p.globals.length cg, .slice Ap p.procs.length cp] 25)) 34 #[.int .i64 0, .int .i64 0]; rw [World.size_alloc] at this; exact this)
  generalize World.alloc _ _ = V at HB0 HBp HBf ⊢
  have HI0 := Lib.hid (HI.out.on HB0.out)
  have hwb : W.heap.size ≤ W.heap.size + 1 := by omega
  generalize hbe : W.heap.size = b at HBp HBf hwb ⊢
  generalize hfe : b + 1 = f at HBf hwb ⊢
  have hWf : W.heap.size ≤ f := by omega
  clear hbe hfe
  have q0 : V.cell? ⟨b, 0, none⟩ = some (.slice Ag p.globals.length cg) := by rw [HBp.out.cell]; rfl
  have q1 : V.cell? ⟨b, 1, none⟩ = some (.slice Ap p.procs.length cp) := by rw [HBp.out.cell]; rfl
  have hbl := HBp.out.lt
  have hfl := HBf.out.lt
  go_upto_if 9 with (go_at_call 42; refine (HC.out V HI0.out).mono ?_; rintro e w1 ⟨rfl, hb1⟩)
  have HB1 := Lib.hid (below_step HB0.out hb1)
  have HBf1 := Lib.hid (HBf.out.below hb1 hfl)
  clear q0 q1 hb1
  have f0_ := HBf1.out.frozen 0
  have f1_ := HBf1.out.frozen 1
  have y0_ : w1.cell? ⟨f, 0, none⟩ = some (.int .i64 0) := by rw [HBf1.out.cell]; rfl
  have y1_ : w1.cell? ⟨f, 1, none⟩ = some (.int .i64 0) := by rw [HBf1.out.cell]; rfl
  go_wp2_with fail
  (try simp only [Exit.inBlock, Exit.then])
  refine bodyPost_ret (results_c1 rfl _ _ f 34 #[.int .i64 1, .int .i64 0] (0, 0) _ rfl (fault_end HBf1.out) Tryz.underlying34 rfl (by kernel_rfl)) rfl ?_
  exact ⟨by rw [HK2.out], below_setc (below_setc HB1.out hWf _) hWf _⟩
end Go.Proofs.YtehpinnmalpgpaaGreat
namespace Go.Proofs.YtehpinnmalpgpaaGreat
open Go.ChangeShapes Go.WideShapes Go.ChangeAt Go.RowKit Go.Deep
set_option linter.unusedVariables false
set_option linter.unusedSimpArgs false
theorem dupF_set : ∀ (l p : List ByteArray), dupF (setF p) l = dupL p l
 | [], _ => rfl
 | x :: l, p => by
  rw [dupF, dupL, ← dupF_set l (p ++ [x])]
  have : (fun y => setF p y || decide (y = x)) = setF (p ++ [x]) := by
   funext y
   simp [setF, isT]
  rw [this]
  rfl
theorem dupL_nodup {l p : List ByteArray} (hp : p.Nodup) : dupL p l = false ↔ (p ++ l).Nodup := by
 constructor
 ·intro h
  obtain ⟨h1, h2⟩ := dupL_false l p h
  exact List.nodup_append.2 ⟨hp, h2, fun a ha b hb e => h1 b hb (e ▸ ha)⟩
 ·intro h
  cases hd : dupL p l with
  | false => rfl
  | true => exact absurd h (dupL_true l p hp hd)
theorem wrL_none {f : ByteArray → Bool} : ∀ (l : List (S × Int)) (acc : List ByteArray), acc.Nodup → wrL f acc l = none → (acc ++ l.flatMap (fun x => x.1.labels)).Nodup ∧ ∀ x ∈ l, landsB f x.1.kind x.1.nm x.2 = true
 | [], acc, ha, _ => ⟨by simpa using ha, fun x hx => by cases hx⟩
 | x :: l, acc, ha, h => by
  rw [wrL] at h
  split at h
  ·cases h
  ·rename_i hw
   have hw2 : wrS f acc x = false := by simpa using hw
   unfold wrS at hw2
   rw [Bool.or_eq_false_iff, dupF_set, dupL_nodup ha] at hw2
   obtain ⟨h1, h2⟩ := wrL_none l (acc ++ x.1.labels) hw2.1 h
   refine ⟨by rw [List.flatMap_cons, ← List.append_assoc]; exact h1, fun y hy => ?_⟩
   rcases List.mem_cons.1 hy with rfl | hy
   ·simpa using hw2.2
   ·exact h2 y hy
theorem lab_lp (l : List S) (lp : Int) : (lpSL l lp).flatMap (fun x => x.1.labels) = labsOf (preSL l) := by
 rw [← lpSL_fst l lp, labsOf, List.flatMap_map]
theorem jf_at {p : Pg} (hc : chkOK p = true) (hn : (p.procs.map Pr.nm).Nodup) {q : Pr} (hq : q ∈ p.procs) : ∃ m, ∃ hm : m < p.procs.length, jfP p q.nm = m ∧ p.procs[m] = q := by
 unfold jfP
 rw [if_pos hc]
 have hf := find_own p.procs hn q hq
 rcases idxL_get (isQ q.nm) p.procs 0 with ⟨h1, h2⟩ | ⟨j, hj, h1, h2, h3⟩
 ·rw [hf] at h2; cases h2
 ·refine ⟨j, hj, by rw [h1]; simp, ?_⟩
  rw [hf] at h3
  injection h3 with h3
  exact h3.symm
theorem jLabels_q {p : Pg} (hc : chkOK p = true) (hn : (p.procs.map Pr.nm).Nodup) {q : Pr} (hq : q ∈ p.procs) : jLabels p q.nm = allLb q := by
 obtain ⟨m, hm, h1, h2⟩ := jf_at hc hn hq
 unfold jLabels
 rw [h1, labZ_at hm, h2]
 rfl
theorem jAt_q {p : Pg} (hc : chkOK p = true) (hn : (p.procs.map Pr.nm).Nodup) {q : Pr} (hq : q ∈ p.procs) (label : ByteArray) : jAt p q.nm label = atQ label q := by
 obtain ⟨m, hm, h1, h2⟩ := jf_at hc hn hq
 unfold jAt
 rw [h1, atZ_at hm, h2]
end Go.Proofs.YtehpinnmalpgpaaGreat
namespace Go.Proofs.YtehpinnmalpgpaaGreat
open Go.ChangeShapes Go.WideShapes Go.ChangeAt Go.RowKit Go.Deep
set_option linter.unusedVariables false
set_option linter.unusedSimpArgs false
theorem isT_eq (s t : ByteArray) : isT s t = (t.toList == s.toList) := by rw [dec_bytes]; unfold isT; exact decide_eq_decide.2 eq_comm
theorem isPa_eq (s : ByteArray) (x : Pa) : isPa s x = (x.nm.toList == s.toList) := by rw [dec_bytes]; rfl
theorem isQ_eq (s : ByteArray) (x : Pr) : isQ s x = (x.nm.toList == s.toList) := by rw [dec_bytes]; rfl
set_option maxHeartbeats 1000000 in
theorem rIn_any {w W : World} {Q : Nat → Prop} {l : List ByteArray} {v : Value} (h : TextsI w Q l v) (hI : In Q w W) (s : ByteArray) :
  Calls Tryz.prog 29 #[v, .string s] W fun e w' => e = .returned (.bool (l.any (isT s))) ∧ W = w' := by
 obtain ⟨A, cap, rfl, hl1, hl2⟩ := h.shape
 have H := Lib.hid h
 have HI := Lib.hid hI
 clear h hI
 go_enter Tryz.func29, Tryz.ntmps29
 go_wp2_with fail
 go_loopg [8] l.length (fun kk i wr => ∃ k : Nat, k + kk = l.length ∧ i = .int .i64 k ∧ Hid ((l.drop k).any (isT s) = l.any (isT s)) ∧ wr = W)
 case atStart => exact ⟨0, by omega, rfl, Lib.hid (by rw [List.drop_zero]), rfl⟩
 case round =>
  obtain ⟨k, hk, rfl, HW, rfl⟩ := hrel
  by_cases hlt : k < l.length
  ·obtain ⟨a, rfl, _, p1, hs⟩ := text_at H.out HI.out hlt
   have HD : Hid ((isT s l[k] || (l.drop (k + 1)).any (isT s)) = l.any (isT s)) := Lib.hid (by rw [← HW.out, List.drop_eq_getElem_cons hlt, List.any_cons])
   have hv := isT_eq s l[k]
   generalize l[k] = t at p1 hs HD hv
   cases hb : isT s t with
   | true =>
    rw [hb, Bool.true_or] at HD
    have hv2 : (t.toList == s.toList) = true := by rw [← hv]; exact hb
    clear hv hb
    go_wp2_with fail
    go_ret
    exact ⟨by rw [← HD.out]; rfl, rfl⟩
   | false =>
    rw [hb, Bool.false_or] at HD
    have hv2 : (t.toList == s.toList) = false := by rw [← hv]; exact hb
    clear hv hb
    go_wp2_with fail
    go_roundg (l.length - k - 1)
    case measure => omega
    case rel => exact ⟨k + 1, by omega, by go_num, HD, rfl⟩
  ·have HD : Hid (l.any (isT s) = false) := Lib.hid (by rw [← HW.out, List.drop_of_length_le (by omega)]; rfl)
   go_wp2_with fail
   go_ret
   exact ⟨by rw [HD.out]; rfl, rfl⟩
end Go.Proofs.YtehpinnmalpgpaaGreat
namespace Go.Proofs.YtehpinnmalpgpaaGreat
open Go.ChangeShapes Go.WideShapes Go.ChangeAt Go.RowKit Go.Deep
set_option linter.unusedVariables false
set_option linter.unusedSimpArgs false
set_option maxHeartbeats 2000000 in
set_option maxRecDepth 100000 in
theorem rparams_any {w : World} {Q : Nat → Prop} {q : Pr} {c0 c1 c2 c3 c4 : Value} (h : ProcI w Q q [c0, c1, c2, c3, c4]) (hl : q.params.length ≤ 1000) (W : World) (hI : In Q w W) :
  Calls Tryz.prog 80 #[.agg #[c0, c1, c2, c3, c4]] W (NewRow (q.params.map Pa.nm) W) := by
 obtain ⟨vp, vv, vb, ve, hc, hnm, hpp, hvv, hbb, hee⟩ := h
 simp only [List.cons.injEq, and_true] at hc
 obtain ⟨rfl, rfl, rfl, rfl, rfl⟩ := hc
 obtain ⟨Ap, cp, rfl, _, _⟩ := hpp.shape
 obtain ⟨Av, cv, rfl, _, _⟩ := hvv.shape
 obtain ⟨Ab, cb, rfl, _⟩ := hbb.shape
 obtain ⟨Ae, ce, rfl, _⟩ := hee.shape
 have HPp := Lib.hid hpp
 have HI := Lib.hid hI
 obtain ⟨i0, hi0, hz0, hz1, hz2⟩ := info_parts string_info
 clear hpp hvv hbb hee hI
 go_enter Tryz.func80, Tryz.ntmps80
 go_upto_region 1 with fail
 have HBp : Hid (Blk (W.alloc (.cells #[.string q.nm, .slice Ap q.params.length cp, .slice Av q.vars.length cv, .slice Ab q.body.length cb, .slice Ae q.end_.length ce] 43)) W.heap.size 43 #[.string q.nm, .slice Ap q.params.length cp, .slice Av q.vars.length cv, .slice Ab q.body.length cb, .slice Ae q.end_.length ce]) := Lib.hid (Blk.new _ _ _)
 have HB0 : Hid (Below W.heap.size W (W.alloc (.cells #[.string q.nm, .slice Ap q.params.length cp, .slice Av q.vars.length cv, .slice Ab q.body.length cb, .slice Ae q.end_.length ce] 43))) := Lib.hid (below_box _)
 generalize World.alloc _ _ = V at HBp HB0 ⊢
 have q1 : V.cell? ⟨W.heap.size, 1, none⟩ = some (.slice Ap q.params.length cp) := by rw [HBp.out.cell]; rfl
 have HI0 := Lib.hid (HI.out.on HB0.out)
 have HS : Hid (NmI V V ((q.params.take 0).map Pa.nm) none 0 0) := Lib.hid ⟨World.ownsRow_nil _ _ _ _, Below.refl _ _⟩
 go_upto_region 3 with fail
 clear q1
 go_loopw [3, 9] (fun ov iv wr => ∃ (k : Nat) (X : Option Addr) (c : Nat), k ≤ q.params.length ∧ iv = .int .i64 k ∧ ov = .slice X k c ∧ Hid (NmI V wr ((q.params.take k).map Pa.nm) X k c)) (fun _ iv _ => q.params.length - (intOf iv).toNat)
 case atStart => exact ⟨0, none, 0, Nat.zero_le _, rfl, rfl, HS⟩
 case round =>
  clear HS
  obtain ⟨k, X, c, hk, rfl, rfl, HR⟩ := hrel
  have HIr := Lib.hid (HI0.out.on HR.out.below)
  by_cases hlt : k < q.params.length
  ·obtain ⟨a, rfl, _, ⟨p0, p1, _⟩, _⟩ := par_at HPp.out HIr.out hlt
   have HT : Hid (q.params.take (k + 1) = q.params.take k ++ [q.params[k]]) := Lib.hid (List.take_succ_eq_append_getElem hlt)
   generalize q.params[k] = x at p0 p1 HT
   obtain ⟨xn, xr⟩ := x
   simp only at p0 p1
   go_upto_region 5 with fail
   have HBx : Hid (Blk (wr.alloc (.cells #[.string xn, .bool xr] 62)) wr.heap.size 62 #[.string xn, .bool xr]) := Lib.hid (Blk.new _ _ _)
   have HO4 : Hid ((wr.alloc (.cells #[.string xn, .bool xr] 62)).ownsRow V.heap.size 9 1 (.slice X k c) k (strs ((q.params.take k).map Pa.nm))) := Lib.hid (HR.out.row.alloc _)
   have HB4 : Hid (Below V.heap.size V (wr.alloc (.cells #[.string xn, .bool xr] 62))) := Lib.hid (below_stepA HR.out.below _)
   clear p0 p1
   generalize World.alloc wr _ = V4 at HBx HO4 HB4 ⊢
   generalize wr.heap.size = bx at HBx ⊢
   have z0 : V4.cell? ⟨bx, 0, none⟩ = some (.string xn) := by rw [HBx.out.cell]; rfl
   have HW := Lib.hid (new_one V4 xn)
   have HO5 : Hid ((V4.alloc (.cells #[.string xn] 9)).ownsRow V.heap.size 9 1 (.slice X k c) k (strs ((q.params.take k).map Pa.nm))) := Lib.hid (HO4.out.alloc _)
   have HB5 : Hid (Below V.heap.size V (V4.alloc (.cells #[.string xn] 9))) := Lib.hid (below_stepA HB4.out _)
   go_upto_region 6 with (at_builtin; refine wpList_append_own_at _ rfl (.tmp 13) (.tmp 16) 22 rfl V.heap.size 9 i0 _ 1 16 Tryz.underlying22 hi0 hz0 hz1 hz2 rfl (by decide) _ k (strs ((q.params.take k).map Pa.nm)) rfl HO5.out ⟨V4.heap.size, 0, none⟩ 1 1 [.string xn] rfl rfl HW.out (by simp [Value.oneCell']) (by unfold maxLen; omega) (by omega) HB5.out.size ?_; intro v6 w6 hown6 hg6 _ hat6; obtain ⟨X6, k6, rfl, _, _⟩ := own_shape hown6; have HO6 := Lib.hid hown6; have HG6 := Lib.hid hg6; clear hown6 hg6 hat6)
   have HS : Hid (NmI V w6 ((q.params.take (k + 1)).map Pa.nm) X6 (k + 1) k6) := Lib.hid ⟨by rw [HT.out, List.map_append, strs_append]; exact HO6.out, HB5.out.grown HG6.out HB5.out.size (fun j hj => (HO5.out.lt j hj).1)⟩
   clear z0
   go_wp2_with fail
   go_roundw
   case rel => exact ⟨k + 1, X6, k6, by omega, by go_num, rfl, HS⟩
   case measure => simp [intOf]; omega
  ·have hke : k = q.params.length := by omega
   subst hke
   go_wp2_with fail
   go_ret
   refine ⟨_, rfl, own_lower ?_ HB0.out.size, below_step HB0.out HR.out.below⟩
   have h := HR.out.row
   rw [List.take_length] at h
   rw [List.length_map]
   exact h
end Go.Proofs.YtehpinnmalpgpaaGreat
namespace Go.Proofs.YtehpinnmalpgpaaGreat
open Go.ChangeShapes Go.WideShapes Go.ChangeAt Go.RowKit
set_option linter.unusedVariables false
theorem small_any (c : UInt8) (w : World) :
    Calls Tryz.prog 124 #[.int .u8 c.toNat] w fun e w' => e = .returned (.bool (isLo c)) ∧ w = w' := by
  go_enter Tryz.func124, Tryz.ntmps124
  go_wp2
  all_goals
    go_ret
    refine ⟨ret_bool ?_, rfl⟩
    simp only [isLo]
    rw [Bool.eq_iff_iff]
    simp only [Bool.and_eq_true, decide_eq_true_eq, Bool.false_eq_true]
    first | omega | (simp only [false_iff, not_and]; intro _; omega)
theorem rdigit_any (c : UInt8) (w : World) :
    Calls Tryz.prog 125 #[.int .u8 c.toNat] w fun e w' => e = .returned (.bool (isDi c)) ∧ w = w' := by
  go_enter Tryz.func125, Tryz.ntmps125
  go_wp2
  all_goals
    go_ret
    refine ⟨ret_bool ?_, rfl⟩
    simp only [isDi]
    rw [Bool.eq_iff_iff]
    simp only [Bool.and_eq_true, decide_eq_true_eq, Bool.false_eq_true]
    first | omega | (simp only [false_iff, not_and]; intro _; omega)
theorem Words_any (w : World) : Calls Tryz.prog 158 #[] w fun e w' => e = .returned (.slice (some ⟨w.heap.size, 0, none⟩) 13 13) ∧ w' = w.alloc (.cells (strCells wds) 9) := by
  go_enter Tryz.func158, Tryz.ntmps158
  go_wp2
  go_ret
  exact ⟨rfl, rfl⟩
set_option maxHeartbeats 4000000 in
theorem rWord_any (s : ByteArray) (w : World) :
    Calls Tryz.prog 126 #[.string s] w fun e w' => e = .returned (.bool (isWd (bl s))) ∧ Below w.heap.size w w' := by
  have hb0 : Below w.heap.size w (w.alloc (.cells (strCells wds) 9)) := (Below.refl _ _).alloc (Nat.le_refl _) _
  have hcell : ∀ k, k < 13 → (w.alloc (.cells (strCells wds) 9)).cell? ⟨w.heap.size, k, none⟩ = some (.string (bs (wdAt wds k))) := fun k hk => str_cell w wds _ k hk
  obtain ⟨W, hW⟩ : ∃ W, W = w.alloc (.cells (strCells wds) 9) := ⟨_, rfl⟩
  have HC := Lib.hid hcell
  have HB := Lib.hid hb0
  rw [← hW] at HC HB
  have HW := Lib.hid hW
  clear hW hcell hb0
  go_enter Tryz.func126, Tryz.ntmps126
  go_wp2_with (go_at_call 158; refine (Words_any _).mono ?_; rintro e w' ⟨rfl, hw'⟩; rw [← HW.out] at hw'; subst hw')
  go_loop [4, 7] (fun _ i => ∃ k : Nat, k ≤ 13 ∧ i = .int .i64 k ∧ Hid ((wds.take k).any (bl s == ·) = false)) (fun _ i => 13 - (intOf i).toNat)
  case atStart => exact ⟨0, Nat.zero_le _, rfl, Lib.hid rfl⟩
  case round =>
    obtain ⟨k, hk, rfl, HA⟩ := hrel
    by_cases hlt : k < 13
    · have hc := HC.out k hlt
      cases he : (bl s == wdAt wds k) with
      | true =>
        have q : ((bs (wdAt wds k)).toList == s.toList) = true := by rw [beq_bytes]; exact he
        have HR := Lib.hid (any_hit (l := wds) hlt he)
        clear he
        go_wp2
        go_ret
        exact ⟨ret_bool HR.out.symm, HB.out⟩
      | false =>
        have q : ((bs (wdAt wds k)).toList == s.toList) = false := by rw [beq_bytes]; exact he
        have HR := Lib.hid (any_take (l := wds) hlt HA.out he)
        clear he
        go_wp2
        go_round
        case rel => exact ⟨k + 1, by omega, by go_num, HR⟩
        case measure => simp [intOf]; omega
    · go_wp2
      go_ret
      refine ⟨ret_bool ?_, HB.out⟩
      have := HA.out
      rw [List.take_of_length_le (by show 13 ≤ k; omega)] at this
      exact this.symm
set_option maxHeartbeats 4000000 in
theorem rName_any (s : ByteArray) (w : World) (hs : s.size ≤ maxLen) :
    Calls Tryz.prog 104 #[.string s] w fun e w' => e = .returned (.bool (isNm (bl s))) ∧ Below w.heap.size w w' := by
  unfold maxLen at hs
  by_cases h0 : s.size = 0
  · rw [nm_zero s h0]
    have hs0 : s = ⟨#[]⟩ := by apply ByteArray.ext; exact Array.eq_empty_of_size_eq_zero h0
    subst hs0
    go_enter Tryz.func104, Tryz.ntmps104
    go_wp2
    go_ret
    exact ⟨rfl, Below.refl _ _⟩
  · have hp : 0 < s.size := by omega
    have q0 : (s.toList == []) = false := by
      rw [bl_toList]
      have hc := bl_at s 0 hp
      rw [List.drop_zero] at hc
      rw [hc]
      rfl
    by_cases h8 : 8 < s.size
    · rw [nm_long s h8]
      clear h0
      go_enter Tryz.func104, Tryz.ntmps104
      go_wp2
      go_ret
      exact ⟨rfl, Below.refl _ _⟩
    · clear h0
      cases hl : isLo s[0] with
      | false =>
        rw [nm_head s hp hl]
        go_enter Tryz.func104, Tryz.ntmps104
        go_wp2_with (go_at_call 124; refine (small_any _ _).mono ?_; rintro e w' ⟨rfl, rfl⟩)
        go_ret
        exact ⟨rfl, Below.refl _ _⟩
      | true =>
        go_enter Tryz.func104, Tryz.ntmps104
        go_wp2_with (go_at_call 124; refine (small_any _ _).mono ?_; rintro e w' ⟨rfl, rfl⟩)
        go_loop [3] (fun i => ∃ k : Nat, 1 ≤ k ∧ k ≤ s.size ∧ i = .int .i64 k ∧ Hid (∀ j (hj : j < s.size), j < k → isLD s[j] = true)) (fun i => s.size - (intOf i).toNat)
        case atStart => exact ⟨1, Nat.le_refl _, by omega, rfl, Lib.hid (fun j hj h => by
          obtain rfl : j = 0 := by omega
          exact isLD_of_lo hl)⟩
        case round =>
          obtain ⟨k, hk1, hk, rfl, HA⟩ := hrel
          by_cases hlt : k < s.size
          · cases hld : isLD s[k] with
            | true =>
              have HA' : Hid (∀ j (hj : j < s.size), j < k + 1 → isLD s[j] = true) := Lib.hid (fun j hj h => by
                by_cases e : j = k
                · subst e; exact hld
                · exact HA.out j hj (by omega))
              rcases ld_cases hld with hl1 | ⟨hl1, hd1⟩
              all_goals
                clear hld
                go_wp2_with (first
                  | (go_at_call 124; refine (small_any _ _).mono ?_; rintro e w' ⟨rfl, rfl⟩)
                  | (go_at_call 125; refine (rdigit_any _ _).mono ?_; rintro e w' ⟨rfl, rfl⟩))
                go_round
                case rel => exact ⟨k + 1, by omega, by omega, by go_num, HA'⟩
                case measure => simp [intOf]; omega
            | false =>
              have HN := Lib.hid (nm_in s k hlt hld)
              obtain ⟨hl1, hd1⟩ := ld_false hld
              clear hld
              go_wp2_with (first
                | (go_at_call 124; refine (small_any _ _).mono ?_; rintro e w' ⟨rfl, rfl⟩)
                | (go_at_call 125; refine (rdigit_any _ _).mono ?_; rintro e w' ⟨rfl, rfl⟩))
              go_ret
              exact ⟨ret_bool HN.out.symm, Below.refl _ _⟩
          · have HN := Lib.hid (nm_all s hp (by omega) hl (fun j hj => HA.out j hj (by omega)))
            go_wp2_with (go_at_call 126; refine (rWord_any _ _).mono ?_; rintro e w' ⟨rfl, hb⟩)
            go_ret
            exact ⟨ret_bool HN.out.symm, hb⟩
end Go.Proofs.YtehpinnmalpgpaaGreat
