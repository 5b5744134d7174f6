/- Scope, the reference: In, params, kind, Proc, Kind (whittlerref6). -/
import Derived.Test.YtkbjlnmdlolhiaaTreeS4
import Derived.Test.YtkbjlnmdlolhiaaTreeMy
namespace Go.Proofs.Ytkbjlnmdlolhiaa
open Go.ChangeShapes Go.WideShapes Go.ChangeAt Go.RowKit Go.Deep
set_option linter.unusedVariables false
set_option linter.unusedSimpArgs false
theorem isT_eq (s t : ByteArray) : isT s t = (t.toList == s.toList) := by rw [dec_bytes]; unfold isT; exact decide_eq_decide.2 eq_comm
theorem isPa_eq (s : ByteArray) (x : Pa) : isPa s x = (x.nm.toList == s.toList) := by rw [dec_bytes]; rfl
theorem isQ_eq (s : ByteArray) (x : Pr) : isQ s x = (x.nm.toList == s.toList) := by rw [dec_bytes]; rfl
set_option maxHeartbeats 1000000 in
theorem rIn_any {w W : World} {Q : Nat → Prop} {l : List ByteArray} {v : Value} (h : TextsI w Q l v) (hI : In Q w W) (s : ByteArray) :
  Calls Try.prog 50 #[v, .string s] W fun e w' => e = .returned (.bool (l.any (isT s))) ∧ W = w' := by
 obtain ⟨A, cap, rfl, hl1, hl2⟩ := h.shape
 have H := Lib.hid h
 have HI := Lib.hid hI
 clear h hI
 go_enter Try.func50, Try.ntmps50
 go_wp2_with fail
 go_loopg [8] l.length (fun kk i wr => ∃ k : Nat, k + kk = l.length ∧ i = .int .i64 k ∧ Hid ((l.drop k).any (isT s) = l.any (isT s)) ∧ wr = W)
 case atStart => exact ⟨0, by omega, rfl, Lib.hid (by rw [List.drop_zero]), rfl⟩
 case round =>
  obtain ⟨k, hk, rfl, HW, rfl⟩ := hrel
  by_cases hlt : k < l.length
  ·obtain ⟨a, rfl, _, p1, hs⟩ := text_at H.out HI.out hlt
   have HD : Hid ((isT s l[k] || (l.drop (k + 1)).any (isT s)) = l.any (isT s)) := Lib.hid (by rw [← HW.out, List.drop_eq_getElem_cons hlt, List.any_cons])
   have hv := isT_eq s l[k]
   generalize l[k] = t at p1 hs HD hv
   cases hb : isT s t with
   | true =>
    rw [hb, Bool.true_or] at HD
    have hv2 : (t.toList == s.toList) = true := by rw [← hv]; exact hb
    clear hv hb
    go_wp2_with fail
    go_ret
    exact ⟨by rw [← HD.out]; rfl, rfl⟩
   | false =>
    rw [hb, Bool.false_or] at HD
    have hv2 : (t.toList == s.toList) = false := by rw [← hv]; exact hb
    clear hv hb
    go_wp2_with fail
    go_roundg (l.length - k - 1)
    case measure => omega
    case rel => exact ⟨k + 1, by omega, by go_num, HD, rfl⟩
  ·have HD : Hid (l.any (isT s) = false) := Lib.hid (by rw [← HW.out, List.drop_of_length_le (by omega)]; rfl)
   go_wp2_with fail
   go_ret
   exact ⟨by rw [HD.out]; rfl, rfl⟩
set_option maxHeartbeats 2000000 in
set_option maxRecDepth 100000 in
theorem rparams_any {w : World} {Q : Nat → Prop} {q : Pr} {c0 c1 c2 c3 c4 : Value} (h : ProcI w Q q [c0, c1, c2, c3, c4]) (hl : q.params.length ≤ 1000) (W : World) (hI : In Q w W) :
  Calls Try.prog 83 #[.agg #[c0, c1, c2, c3, c4]] W (NewRow (q.params.map Pa.nm) W) := by
 obtain ⟨vp, vv, vb, ve, hc, hnm, hpp, hvv, hbb, hee⟩ := h
 simp only [List.cons.injEq, and_true] at hc
 obtain ⟨rfl, rfl, rfl, rfl, rfl⟩ := hc
 obtain ⟨Ap, cp, rfl, _, _⟩ := hpp.shape
 obtain ⟨Av, cv, rfl, _, _⟩ := hvv.shape
 obtain ⟨Ab, cb, rfl, _⟩ := hbb.shape
 obtain ⟨Ae, ce, rfl, _⟩ := hee.shape
 have HPp := Lib.hid hpp
 have HI := Lib.hid hI
 obtain ⟨i0, hi0, hz0, hz1, hz2⟩ := info_parts string_info
 clear hpp hvv hbb hee hI
 go_enter Try.func83, Try.ntmps83
 go_upto_region 1 with fail
 have HBp : Hid (Blk (W.alloc (.cells #[.string q.nm, .slice Ap q.params.length cp, .slice Av q.vars.length cv, .slice Ab q.body.length cb, .slice Ae q.end_.length ce] 47)) W.heap.size 47 #[.string q.nm, .slice Ap q.params.length cp, .slice Av q.vars.length cv, .slice Ab q.body.length cb, .slice Ae q.end_.length ce]) := Lib.hid (Blk.new _ _ _)
 have HB0 : Hid (Below W.heap.size W (W.alloc (.cells #[.string q.nm, .slice Ap q.params.length cp, .slice Av q.vars.length cv, .slice Ab q.body.length cb, .slice Ae q.end_.length ce] 47))) := Lib.hid (below_box _)
 generalize World.alloc _ _ = V at HBp HB0 ⊢
 have q1 : V.cell? ⟨W.heap.size, 1, none⟩ = some (.slice Ap q.params.length cp) := by rw [HBp.out.cell]; rfl
 have HI0 := Lib.hid (HI.out.on HB0.out)
 have HS : Hid (NmI V V ((q.params.take 0).map Pa.nm) none 0 0) := Lib.hid ⟨World.ownsRow_nil _ _ _ _, Below.refl _ _⟩
 go_upto_region 3 with fail
 clear q1
 go_loopw [3, 9] (fun ov iv wr => ∃ (k : Nat) (X : Option Addr) (c : Nat), k ≤ q.params.length ∧ iv = .int .i64 k ∧ ov = .slice X k c ∧ Hid (NmI V wr ((q.params.take k).map Pa.nm) X k c)) (fun _ iv _ => q.params.length - (intOf iv).toNat)
 case atStart => exact ⟨0, none, 0, Nat.zero_le _, rfl, rfl, HS⟩
 case round =>
  clear HS
  obtain ⟨k, X, c, hk, rfl, rfl, HR⟩ := hrel
  have HIr := Lib.hid (HI0.out.on HR.out.below)
  by_cases hlt : k < q.params.length
  ·obtain ⟨a, rfl, _, ⟨p0, p1, _⟩, _⟩ := par_at HPp.out HIr.out hlt
   have HT : Hid (q.params.take (k + 1) = q.params.take k ++ [q.params[k]]) := Lib.hid (List.take_succ_eq_append_getElem hlt)
   generalize q.params[k] = x at p0 p1 HT
   obtain ⟨xn, xr⟩ := x
   simp only at p0 p1
   go_upto_region 5 with fail
   have HBx : Hid (Blk (wr.alloc (.cells #[.string xn, .bool xr] 57)) wr.heap.size 57 #[.string xn, .bool xr]) := Lib.hid (Blk.new _ _ _)
   have HO4 : Hid ((wr.alloc (.cells #[.string xn, .bool xr] 57)).ownsRow V.heap.size 9 1 (.slice X k c) k (strs ((q.params.take k).map Pa.nm))) := Lib.hid (HR.out.row.alloc _)
   have HB4 : Hid (Below V.heap.size V (wr.alloc (.cells #[.string xn, .bool xr] 57))) := Lib.hid (below_stepA HR.out.below _)
   clear p0 p1
   generalize World.alloc wr _ = V4 at HBx HO4 HB4 ⊢
   generalize wr.heap.size = bx at HBx ⊢
   have z0 : V4.cell? ⟨bx, 0, none⟩ = some (.string xn) := by rw [HBx.out.cell]; rfl
   have HW := Lib.hid (new_one V4 xn)
   have HO5 : Hid ((V4.alloc (.cells #[.string xn] 9)).ownsRow V.heap.size 9 1 (.slice X k c) k (strs ((q.params.take k).map Pa.nm))) := Lib.hid (HO4.out.alloc _)
   have HB5 : Hid (Below V.heap.size V (V4.alloc (.cells #[.string xn] 9))) := Lib.hid (below_stepA HB4.out _)
   go_upto_region 6 with (at_builtin; refine wpList_append_own_at _ rfl (.tmp 13) (.tmp 16) 22 rfl V.heap.size 9 i0 _ 1 16 Try.underlying22 hi0 hz0 hz1 hz2 rfl (by decide) _ k (strs ((q.params.take k).map Pa.nm)) rfl HO5.out ⟨V4.heap.size, 0, none⟩ 1 1 [.string xn] rfl rfl HW.out (by simp [Value.oneCell']) (by unfold maxLen; omega) (by omega) HB5.out.size ?_; intro v6 w6 hown6 hg6 _ hat6; obtain ⟨X6, k6, rfl, _, _⟩ := own_shape hown6; have HO6 := Lib.hid hown6; have HG6 := Lib.hid hg6; clear hown6 hg6 hat6)
   have HS : Hid (NmI V w6 ((q.params.take (k + 1)).map Pa.nm) X6 (k + 1) k6) := Lib.hid ⟨by rw [HT.out, List.map_append, strs_append]; exact HO6.out, HB5.out.grown HG6.out HB5.out.size (fun j hj => (HO5.out.lt j hj).1)⟩
   clear z0
   go_wp2_with fail
   go_roundw
   case rel => exact ⟨k + 1, X6, k6, by omega, by go_num, rfl, HS⟩
   case measure => simp [intOf]; omega
  ·have hke : k = q.params.length := by omega
   subst hke
   go_wp2_with fail
   go_ret
   refine ⟨_, rfl, own_lower ?_ HB0.out.size, below_step HB0.out HR.out.below⟩
   have h := HR.out.row
   rw [List.take_length] at h
   rw [List.length_map]
   exact h
set_option maxHeartbeats 2000000 in
set_option maxRecDepth 100000 in
theorem rkind_any {w : World} {Q : Nat → Prop} {gl : List ByteArray} {vg vq : Value} {q : Pr} {c0 c1 c2 c3 c4 : Value} {n : Nat} {B : Option Addr} {m : Nat} (hvq : vq = .slice B n m) (hg : TextsI w Q gl vg) (h : ProcI w Q q [c0, c1, c2, c3, c4]) (s : ByteArray) (W : World) (hI : In Q w W) :
  Calls Try.prog 82 #[.agg #[vg, vq], .agg #[c0, c1, c2, c3, c4], .string s] W fun e w' => e = .returned (.int .i64 (knd gl q s)) ∧ Below W.heap.size W w' := by
 subst hvq
 obtain ⟨vp, vv, vb, ve, hc, hnm, hpp, hvv, hbb, hee⟩ := h
 simp only [List.cons.injEq, and_true] at hc
 obtain ⟨rfl, rfl, rfl, rfl, rfl⟩ := hc
 obtain ⟨Ap, cp, rfl, _, _⟩ := hpp.shape
 obtain ⟨Av, cv, rfl, _, _⟩ := hvv.shape
 obtain ⟨Ab, cb, rfl, _⟩ := hbb.shape
 obtain ⟨Ae, ce, rfl, _⟩ := hee.shape
 obtain ⟨Ag, cg, rfl, _⟩ := hg.shape
 have HG := Lib.hid (fun V hV => rIn_any (W := V) hg hV s)
 have HV := Lib.hid (fun V hV => rIn_any (W := V) hvv hV s)
 have HPp := Lib.hid hpp
 have HI := Lib.hid hI
 have HK : Hid (knd gl q s = (q.params.find? (isPa s)).elim (if q.vars.any (isT s) = true then 4 else if gl.any (isT s) = true then 1 else 0) (fun x => if x.ref = true then 3 else 2)) := Lib.hid rfl
 clear hg hpp hvv hbb hee hI
 go_enter Try.func82, Try.ntmps82
 go_upto_region 1 with fail
 have HBg : Hid (Blk ((W.alloc (.cells #[.slice Ag gl.length cg, .slice B n m] 25)).alloc (.cells #[.string q.nm, .slice Ap q.params.length cp, .slice Av q.vars.length cv, .slice Ab q.body.length cb, .slice Ae q.end_.length ce] 47)) W.heap.size 25 #[.slice Ag gl.length cg, .slice B n m]) := Lib.hid ((Blk.new _ _ _).alloc _)
 have HBp : Hid (Blk ((W.alloc (.cells #[.slice Ag gl.length cg, .slice B n m] 25)).alloc (.cells #[.string q.nm, .slice Ap q.params.length cp, .slice Av q.vars.length cv, .slice Ab q.body.length cb, .slice Ae q.end_.length ce] 47)) (W.heap.size + 1) 47 #[.string q.nm, .slice Ap q.params.length cp, .slice Av q.vars.length cv, .slice Ab q.body.length cb, .slice Ae q.end_.length ce]) := Lib.hid (by have := Blk.new (W.alloc (.cells #[.slice Ag gl.length cg, .slice B n m] 25)) 47 #[.string q.nm, .slice Ap q.params.length cp, .slice Av q.vars.length cv, .slice Ab q.body.length cb, .slice Ae q.end_.length ce]; rw [World.size_alloc] at this; exact this)
 have HB0 : Hid (Below W.heap.size W ((W.alloc (.cells #[.slice Ag gl.length cg, .slice B n m] 25)).alloc (.cells #[.string q.nm, .slice Ap q.params.length cp, .slice Av q.vars.length cv, .slice Ab q.body.length cb, .slice Ae q.end_.length ce] 47))) := Lib.hid (below_two _ _)
 generalize World.alloc _ _ = V at HBg HBp HB0 ⊢
 have q1 : V.cell? ⟨W.heap.size + 1, 1, none⟩ = some (.slice Ap q.params.length cp) := by rw [HBp.out.cell]; rfl
 have HI0 := Lib.hid (HI.out.on HB0.out)
 go_upto_region 2 with fail
 clear q1
 go_loopw [12] (fun iv wr => ∃ (k : Nat), k ≤ q.params.length ∧ iv = .int .i64 k ∧ Hid ((q.params.drop k).find? (isPa s) = q.params.find? (isPa s)) ∧ Hid (Below V.heap.size V wr)) (fun iv _ => q.params.length - (intOf iv).toNat)
 case atStart => exact ⟨0, Nat.zero_le _, rfl, Lib.hid (by rw [List.drop_zero]), Lib.hid (Below.refl _ _)⟩
 case round =>
  obtain ⟨k, hk, rfl, HW, HR⟩ := hrel
  have HIr := Lib.hid (HI0.out.on HR.out)
  have HBW := Lib.hid (below_step HB0.out HR.out)
  by_cases hlt : k < q.params.length
  ·obtain ⟨a, rfl, _, ⟨p0, p1, _⟩, _⟩ := par_at HPp.out HIr.out hlt
   have HD := HW.out
   rw [List.drop_eq_getElem_cons hlt, List.find?_cons] at HD
   have hv := isPa_eq s q.params[k]
   generalize q.params[k] = x at p0 p1 HD hv
   obtain ⟨xn, xr⟩ := x
   simp only at p0 p1 hv
   cases hb : isPa s ⟨xn, xr⟩ with
   | true =>
    rw [hb] at HD
    simp only at HD
    rw [← HD, Option.elim_some] at HK
    have hv2 : (xn.toList == s.toList) = true := by rw [← hv]; exact hb
    clear hv hb HD HW
    cases xr with
    | true =>
     go_wp2_with fail
     go_ret
     exact ⟨by rw [HK.out]; rfl, below_stepA HBW.out _⟩
    | false =>
     go_wp2_with fail
     go_ret
     exact ⟨by rw [HK.out]; rfl, below_stepA HBW.out _⟩
   | false =>
    rw [hb] at HD
    simp only at HD
    have HD := Lib.hid HD
    have hv2 : (xn.toList == s.toList) = false := by rw [← hv]; exact hb
    clear hv hb HW
    go_wp2_with fail
    go_roundw
    case rel => exact ⟨k + 1, by omega, by go_num, HD, Lib.hid (below_stepA HR.out _)⟩
    case measure => simp [intOf]; omega
  ·have HBp1 := Lib.hid (HBp.out.below HR.out HBp.out.lt)
   have HBg1 := Lib.hid (HBg.out.below HR.out HBg.out.lt)
   have hn := HW.out
   rw [List.drop_of_length_le (by omega), List.find?_nil] at hn
   rw [← hn, Option.elim_none] at HK
   have q2 : wr.cell? ⟨W.heap.size + 1, 2, none⟩ = some (.slice Av q.vars.length cv) := by rw [HBp1.out.cell]; rfl
   have g0 : wr.cell? ⟨W.heap.size, 0, none⟩ = some (.slice Ag gl.length cg) := by rw [HBg1.out.cell]; rfl
   clear hn HW
   generalize q.vars.any (isT s) = b1 at HV HK
   generalize gl.any (isT s) = b2 at HG HK
   cases b1 with
   | true =>
    go_wp2_with (go_at_call 50; (with_reducible refine (HV.out wr HIr.out).mono ?_); rintro e w' ⟨rfl, rfl⟩)
    go_ret
    exact ⟨by rw [HK.out]; rfl, HBW.out⟩
   | false =>
    cases b2 with
    | true =>
     go_wp2_with (first
      | (go_at_call 50; (with_reducible refine (HV.out wr HIr.out).mono ?_); rintro e w' ⟨rfl, rfl⟩)
      | (go_at_call 50; (with_reducible refine (HG.out wr HIr.out).mono ?_); rintro e w' ⟨rfl, rfl⟩))
     go_ret
     exact ⟨by rw [HK.out]; rfl, HBW.out⟩
    | false =>
     go_wp2_with (first
      | (go_at_call 50; (with_reducible refine (HV.out wr HIr.out).mono ?_); rintro e w' ⟨rfl, rfl⟩)
      | (go_at_call 50; (with_reducible refine (HG.out wr HIr.out).mono ?_); rintro e w' ⟨rfl, rfl⟩))
     go_ret
     exact ⟨by rw [HK.out]; rfl, HBW.out⟩
end Go.Proofs.Ytkbjlnmdlolhiaa
