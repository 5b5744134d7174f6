/- Texts, merged by a program; only what is used. -/
import Derived.Test.YtcocilpifdjibaaK1
import Derived.Test.YtcocilpifdjibaaK2
import Derived.Test.YtcocilpifdjibaaK3
import Derived.Test.YtcocilpifdjibaaK4
import Derived.Test.YtcocilpifdjibaaK5
import Derived.Test.YtcocilpifdjibaaK6
import Derived.Test.YtcocilpifdjibaaK7
import Derived.Test.YtcocilpifdjibaaK8
import Derived.Test.YtcocilpifdjibaaK9
import Derived.Test.YtcocilpifdjibaaK10
import Derived.Test.YtcocilpifdjibaaK11
import Derived.Test.YtcocilpifdjibaaK12
import Derived.Test.YtcocilpifdjibaaK13
import Derived.Test.YtcocilpifdjibaaK20
import Derived.Test.YtcocilpifdjibaaK21
import Derived.Test.YtcocilpifdjibaaK22
namespace Go.Proofs.Ytcocilpifdjibaa
open Go.ChangeShapes Go.WideShapes Go.ChangeAt Go.RowKit Go.Deep
set_option linter.unusedVariables false
set_option linter.unusedSimpArgs false
def dupL : List ByteArray → List ByteArray → Bool
 | _, [] => false
 | p, x :: r => p.any (isT x) || dupL (p ++ [x]) r
def dup (l : List ByteArray) : Bool := dupL [] l
theorem dupL_step {l : List ByteArray} {k : Nat} (h : k < l.length) : dupL (l.take k) (l.drop k) = ((l.take k).any (isT l[k]) || dupL (l.take (k + 1)) (l.drop (k + 1))) := by
 rw [List.drop_eq_getElem_cons h, dupL, List.take_succ_eq_append_getElem h]
theorem texts_take {w : World} {Q : Nat → Prop} {l : List ByteArray} {A : Option Addr} {n cap k : Nat} (h : TextsI w Q l (.slice A n cap)) (hk : k ≤ l.length) : TextsI w Q (l.take k) (.slice A k cap) := by
 obtain ⟨A', cap', css, h1, h2, h3, h4⟩ := h
 simp only [Value.slice.injEq] at h1
 obtain ⟨rfl, rfl, rfl⟩ := h1
 have hl : (l.take k).length = k := by rw [List.length_take]; omega
 refine ⟨A, cap, css, by rw [hl], ⟨by omega, h2.2⟩, fun h0 => ?_, fun i hi => ?_⟩
 ·obtain ⟨a, ha, hq, hc⟩ := h3 (by omega)
  exact ⟨a, ha, hq, fun i hi => hc i (by omega)⟩
 ·have := h4 i (by omega)
  rw [List.getElem_take]
  exact this
set_option maxHeartbeats 1000000 in
theorem distinct_any {w W : World} {Q : Nat → Prop} {l : List ByteArray} {v : Value} (h : TextsI w Q l v) (hI : In Q w W) :
  Calls Try.prog 102 #[v] W fun e w' => e = .returned (.bool (!dup l)) ∧ W = w' := by
 obtain ⟨A, cap, rfl, hl1, hl2⟩ := h.shape
 have H := Lib.hid h
 have HI := Lib.hid hI
 clear h hI
 go_enter Try.func102, Try.ntmps102
 go_wp2_with fail
 go_loopg [7] l.length (fun kk i wr => ∃ k : Nat, k + kk = l.length ∧ i = .int .i64 k ∧ Hid (dupL (l.take k) (l.drop k) = dup l) ∧ wr = W)
 case atStart => exact ⟨0, by omega, rfl, Lib.hid (by rw [List.drop_zero, List.take_zero]; rfl), rfl⟩
 case round =>
  obtain ⟨k, hk, rfl, HW, rfl⟩ := hrel
  by_cases hlt : k < l.length
  ·obtain ⟨a, rfl, _, p1, hs⟩ := text_at H.out HI.out hlt
   have HD := Lib.hid (dupL_step hlt)
   rw [HW.out] at HD
   have HC := Lib.hid (Contains_any (W := wr) (texts_take H.out (Nat.le_of_lt hlt)) HI.out l[k])
   generalize l[k] = t at p1 hs HD HC
   cases hb : (l.take k).any (isT t) with
   | true =>
    rw [hb, Bool.true_or] at HD
    rw [hb] at HC
    clear hb
    go_wp2_with (go_at_call 155; refine HC.out.mono ?_; rintro e w' ⟨rfl, rfl⟩)
    go_ret
    exact ⟨ret_bool (by rw [HD.out]; rfl), rfl⟩
   | false =>
    rw [hb, Bool.false_or] at HD
    rw [hb] at HC
    clear hb
    go_wp2_with (go_at_call 155; refine HC.out.mono ?_; rintro e w' ⟨rfl, rfl⟩)
    go_roundg (l.length - k - 1)
    case measure => omega
    case rel => exact ⟨k + 1, by omega, by go_num, Lib.hid HD.out.symm, rfl⟩
  ·have HD : Hid (dup l = false) := Lib.hid (by rw [← HW.out, List.drop_of_length_le (by omega), dupL])
   go_wp2_with fail
   go_ret
   exact ⟨ret_bool (by rw [HD.out]; rfl), rfl⟩
def argV (a : Ar) : List ByteArray := if a.ref = true then [a.nm] else namesE a.x
def ownV (kind : Int) (nm : ByteArray) : List ByteArray := if (!nm.toList.isEmpty && kind != 10) = true then [nm] else []
def varsS (s : S) : List ByteArray := namesE s.x ++ ownV s.kind s.nm ++ s.args.flatMap argV
theorem flat_take {α β : Type} {f : α → List β} {l : List α} {k : Nat} (h : k < l.length) : (l.take (k + 1)).flatMap f = (l.take k).flatMap f ++ f l[k] := by
 rw [List.take_succ_eq_append_getElem h, List.flatMap_append]
 simp
theorem flat_take_le {α β : Type} {f : α → List β} {l : List α} {k : Nat} : ((l.take k).flatMap f).length ≤ (l.flatMap f).length := by
 conv => rhs; rw [← List.take_append_drop k l, List.flatMap_append]
 rw [List.length_append]
 omega
theorem new_small {l : List ByteArray} {W w : World} {v : Value} (hl : ∀ s ∈ l, small s) (h : w.ownsRow W.heap.size 9 1 v l.length (strs l)) : TextsI w (nw W w) l v := (texts_of_own hl h).2
theorem namesE_small {w : World} {Q : Nat → Prop} {e : E} {cs : List Value} (h : ExprI w Q e cs) : ∀ t ∈ namesE e, small t := by
 unfold namesE
 split
 ·exact walkE_all h (fun t ht => absurd ht (by simp))
 ·exact fun t ht => absurd ht (by simp)
set_option maxHeartbeats 4000000 in
set_option maxRecDepth 100000 in
theorem variables_any {w : World} {Q : Nat → Prop} {s : S} {cs : List Value} (h : StmtI w Q s cs) (hn : (varsS s).length ≤ 1000000) (W : World) (hI : In Q w W) :
 Calls Try.prog 194 #[.agg cs.toArray] W (NewRow (varsS s) W) := by
 obtain ⟨id, kind, labels, nm, proc, x, has, args, th, el, L, lc, x0, x1, x2, X, xn, xc, R, rc, T, tc, U, uc, rfl, rfl, hid, hkind, hnm, hproc, hl, hx, ha, hth, hel⟩ := stmt_open h
 have HNa := Lib.hid (fun V hV => Names_any hx V hV)
 have HNs := Lib.hid (namesE_small hx)
 have HA := Lib.hid ha
 have HI := Lib.hid hI
 have HV : Hid (varsS (.mk id kind labels nm proc x has args th el) = namesE x ++ ownV kind nm ++ args.flatMap argV) := Lib.hid rfl
 have HN : Hid ((namesE x).length + (ownV kind nm).length + (args.flatMap argV).length ≤ 1000000) := Lib.hid (by rw [HV.out] at hn; simp only [List.length_append] at hn; exact hn)
 have hok := hkind
 unfold i64 at hok
 obtain ⟨i0, hi0, hz0, hz1, hz2⟩ := info_parts string_info
 obtain ⟨_, har, hrc, _⟩ := slice_len ha
 clear h hn hI hl hx ha hth hel hid hkind hnm hproc
 simp only [List.toArray]
 go_enter Try.func194, Try.ntmps194
 go_upto_region 1 with fail
 have HBp : Hid (Blk (W.alloc (.cells #[.int .i64 id, .int .i64 kind, .slice L labels.length lc, .string nm, .string proc, .int .i64 x0, .int .i64 x1, .string x2, .slice X xn xc, .bool has, .slice R args.length rc, .slice T th.length tc, .slice U el.length uc] 64)) W.heap.size 64 #[.int .i64 id, .int .i64 kind, .slice L labels.length lc, .string nm, .string proc, .int .i64 x0, .int .i64 x1, .string x2, .slice X xn xc, .bool has, .slice R args.length rc, .slice T th.length tc, .slice U el.length uc]) := Lib.hid (Blk.new _ _ _)
 have HB0 : Hid (Below W.heap.size W (W.alloc (.cells #[.int .i64 id, .int .i64 kind, .slice L labels.length lc, .string nm, .string proc, .int .i64 x0, .int .i64 x1, .string x2, .slice X xn xc, .bool has, .slice R args.length rc, .slice T th.length tc, .slice U el.length uc] 64))) := Lib.hid (below_box _)
 generalize World.alloc _ _ = V at HBp HB0 ⊢
 generalize W.heap.size = b at HBp ⊢
 have HI0 := Lib.hid (HI.out.on HB0.out)
 have q5 : V.cell? ⟨b, 5, none⟩ = some (.int .i64 x0) := by rw [HBp.out.cell]; rfl
 have q6 : V.cell? ⟨b, 6, none⟩ = some (.int .i64 x1) := by rw [HBp.out.cell]; rfl
 have q7 : V.cell? ⟨b, 7, none⟩ = some (.string x2) := by rw [HBp.out.cell]; rfl
 have q8 : V.cell? ⟨b, 8, none⟩ = some (.slice X xn xc) := by rw [HBp.out.cell]; rfl
 have hbl := HBp.out.lt
 go_upto_region 2 with (go_at_call 52; refine (HNa.out V HI0.out).mono ?_; rintro e w1 ⟨v1, rfl, ho1, hb1⟩; obtain ⟨X1, k1, rfl, _, _⟩ := own_shape ho1)
 have HS1 : Hid (NmI V w1 (namesE x) X1 (namesE x).length k1) := Lib.hid ⟨ho1, hb1⟩
 have HBp1 := Lib.hid (HBp.out.below hb1 hbl)
 clear q5 q6 q7 q8 ho1 hb1 HNa
 have q1 : w1.cell? ⟨b, 1, none⟩ = some (.int .i64 kind) := by rw [HBp1.out.cell]; rfl
 have q3 : w1.cell? ⟨b, 3, none⟩ = some (.string nm) := by rw [HBp1.out.cell]; rfl
 have hb1l := HBp1.out.lt
 generalize hnx : namesE x = nx at *
 clear hnx
 obtain ⟨bb, hbb⟩ : ∃ bb, bb = (!nm.toList.isEmpty && kind != 10) := ⟨_, rfl⟩
 have HK : Hid (ownV kind nm = if bb = true then [nm] else []) := Lib.hid (by rw [hbb]; rfl)
 have Hbb := Lib.hid hbb
 clear hbb
 go_cut [16] from 9 to 15 (fun s wx => s = .bool bb ∧ wx = w1)
 case first =>
  cases he : nm.toList.isEmpty with
  | true =>
   have he2 : (nm.toList == []) = true := by simpa using he
   have H2 : Hid (bb = false) := Lib.hid (by rw [Hbb.out, he]; rfl)
   go_wp2_with fail
   go_meet
   exact ⟨by rw [H2.out]; try rfl, rfl⟩
  | false =>
   have he2 : (nm.toList == []) = false := by simpa using he
   have H2 : Hid (bb = (kind != 10)) := Lib.hid (by rw [Hbb.out, he]; rfl)
   go_wp2_with fail
   go_meet
   exact ⟨by rw [H2.out]; try rfl, rfl⟩
 case rest =>
 obtain ⟨rfl, rfl⟩ := hcut
 go_upto_if 16 with fail
 go_cut [3] from 17 to 21 (fun s wx => ∃ (X2 : Option Addr) (k2 : Nat), s = .slice X2 (nx.length + (ownV kind nm).length) k2 ∧ Hid (NmI V wx (nx ++ ownV kind nm) X2 (nx.length + (ownV kind nm).length) k2))
 case first =>
  have HO1 : Hid (wc.ownsRow V.heap.size 9 1 (.slice X1 nx.length k1) nx.length (strs nx)) := Lib.hid HS1.out.row
  have HO1a : Hid ((wc.alloc (.cells #[.string nm] 9)).ownsRow V.heap.size 9 1 (.slice X1 nx.length k1) nx.length (strs nx)) := Lib.hid (HO1.out.alloc _)
  have HB1a : Hid (Below V.heap.size V (wc.alloc (.cells #[.string nm] 9))) := Lib.hid (below_stepA HS1.out.below _)
  have HW := Lib.hid (new_one wc nm)
  have HLn : Hid (nx.length + 1 ≤ 1000001) := Lib.hid (by have := HN.out; omega)
  cases bb with
  | false =>
   have HK2 : Hid (ownV kind nm = []) := Lib.hid (by rw [HK.out]; rfl)
   go_wp2_with fail
   go_meet
   exact ⟨X1, k1, by rw [HK2.out]; rfl, Lib.hid (by rw [HK2.out, List.append_nil]; exact HS1.out)⟩
  | true =>
   have HK2 : Hid (ownV kind nm = [nm]) := Lib.hid (by rw [HK.out]; rfl)
   go_wp2_with (at_builtin; refine wpList_append_own_at _ rfl (.tmp 17) (.tmp 20) 22 rfl V.heap.size 9 i0 _ 1 16 Try.underlying22 hi0 hz0 hz1 hz2 rfl (by decide) _ nx.length (strs nx) rfl HO1a.out ⟨wc.heap.size, 0, none⟩ 1 1 [.string nm] rfl rfl HW.out (by simp [Value.oneCell']) (by have := HLn.out; unfold maxLen; omega) (by have := HLn.out; omega) HB1a.out.size ?_; intro v6 w6 hown6 hg6 _ hat6; obtain ⟨X6, k6, rfl, _, _⟩ := own_shape hown6; have HO6 := Lib.hid hown6; have HG6 := Lib.hid hg6; clear hown6 hg6 hat6)
   go_meet
   exact ⟨X6, k6, by rw [HK2.out]; rfl, Lib.hid (by rw [HK2.out]; exact ⟨by rw [strs_append]; exact HO6.out, HB1a.out.grown HG6.out HB1a.out.size (fun j hj => (HO1a.out.lt j hj).1)⟩)⟩
 case rest =>
  obtain ⟨X2, k2, rfl, HS2⟩ := hcut
  have hl0 : nx.length + (ownV kind nm).length = (nx ++ ownV kind nm).length := (List.length_append).symm
  have HN2 : Hid ((nx ++ ownV kind nm).length + (args.flatMap argV).length ≤ 1000000) := Lib.hid (by have := HN.out; simp only [List.length_append]; omega)
  rw [hl0] at HS2 ⊢
  clear hl0 HS1 HBp1 q1 q3 HN
  generalize nx ++ ownV kind nm = l0 at HS2 HV HN2 ⊢
  have HBp2 := Lib.hid (HBp.out.below HS2.out.below hbl)
  have q10 : wc.cell? ⟨b, 10, none⟩ = some (.slice R args.length rc) := by rw [HBp2.out.cell]; rfl
  go_upto_region 5 with fail
  clear q10 HBp2
  go_loopw [3, 25] (fun ov iv wr => ∃ (k : Nat) (Xr : Option Addr) (n c : Nat), k ≤ args.length ∧ iv = .int .i64 k ∧ ov = .slice Xr n c ∧ n = (l0 ++ (args.take k).flatMap argV).length ∧ Hid (NmI V wr (l0 ++ (args.take k).flatMap argV) Xr n c)) (fun _ iv _ => args.length - (intOf iv).toNat)
  case atStart => exact ⟨0, X2, _, k2, Nat.zero_le _, rfl, rfl, by simp, Lib.hid (by simpa using HS2.out)⟩
  case round =>
   clear HS2
   obtain ⟨k, Xr, n, c, hk, rfl, rfl, hnl, HR⟩ := hrel
   have HIr := Lib.hid (HI0.out.on HR.out.below)
   by_cases hlt : k < args.length
   ·obtain ⟨a, o1, n1, s1, A1, l1, k1, rfl, _, ⟨p0, p1, p2, p3, p4, p5, _⟩, hs, hxa⟩ := arg_at HA.out HIr.out hlt
    have HC := Lib.hid (fun V hV => Names_any hxa V hV)
    have HCs := Lib.hid (namesE_small hxa)
    have HT : Hid ((args.take (k + 1)).flatMap argV = (args.take k).flatMap argV ++ argV args[k]) := Lib.hid (flat_take hlt)
    have HNk : Hid (n + (argV args[k]).length ≤ 1000000) := Lib.hid (by
     have h1 := flat_take_le (f := argV) (l := args) (k := k + 1)
     rw [HT.out] at h1
     have h2 := HN2.out
     rw [hnl]
     simp only [List.length_append] at h1 ⊢
     omega)
    have HLk : Hid (n = (l0 ++ (args.take k).flatMap argV).length) := Lib.hid hnl
    generalize (args.take k).flatMap argV = pre at HR HT HLk
    have HV2 : Hid (argV args[k] = if args[k].ref = true then [args[k].nm] else namesE args[k].x) := Lib.hid rfl
    generalize args[k] = y at p0 p1 hs HC HCs HT HNk HV2
    obtain ⟨xr, xnm, xx⟩ := y
    simp only at p0 p1 hs HV2
    clear hnl
    go_upto_region 7 with fail
    have HBx : Hid (Blk (wr.alloc (.cells #[.bool xr, .string xnm, .int .i64 o1, .int .i64 n1, .string s1, .slice A1 l1 k1] 137)) wr.heap.size 137 #[.bool xr, .string xnm, .int .i64 o1, .int .i64 n1, .string s1, .slice A1 l1 k1]) := Lib.hid (Blk.new _ _ _)
    have HO4 : Hid ((wr.alloc (.cells #[.bool xr, .string xnm, .int .i64 o1, .int .i64 n1, .string s1, .slice A1 l1 k1] 137)).ownsRow V.heap.size 9 1 (.slice Xr n c) n (strs (l0 ++ pre))) := Lib.hid (HR.out.row.alloc _)
    have HB4 : Hid (Below V.heap.size V (wr.alloc (.cells #[.bool xr, .string xnm, .int .i64 o1, .int .i64 n1, .string s1, .slice A1 l1 k1] 137))) := Lib.hid (below_stepA HR.out.below _)
    have HI4 : Hid (In Q w (wr.alloc (.cells #[.bool xr, .string xnm, .int .i64 o1, .int .i64 n1, .string s1, .slice A1 l1 k1] 137))) := Lib.hid (HIr.out.alloc _)
    clear p0 p1 p2 p3 p4 p5
    generalize World.alloc wr _ = V4 at HBx HO4 HB4 HI4 ⊢
    generalize wr.heap.size = bx at HBx ⊢
    have z0 : V4.cell? ⟨bx, 0, none⟩ = some (.bool xr) := by rw [HBx.out.cell]; rfl
    have z1 : V4.cell? ⟨bx, 1, none⟩ = some (.string xnm) := by rw [HBx.out.cell]; rfl
    have z2 : V4.cell? ⟨bx, 2, none⟩ = some (.int .i64 o1) := by rw [HBx.out.cell]; rfl
    have z3 : V4.cell? ⟨bx, 3, none⟩ = some (.int .i64 n1) := by rw [HBx.out.cell]; rfl
    have z4 : V4.cell? ⟨bx, 4, none⟩ = some (.string s1) := by rw [HBx.out.cell]; rfl
    have z5 : V4.cell? ⟨bx, 5, none⟩ = some (.slice A1 l1 k1) := by rw [HBx.out.cell]; rfl
    cases xr with
    | true =>
     rw [if_pos rfl] at HV2
     rw [HV2.out] at HT HNk
     have hn1 : n + 1 ≤ 1000000 := HNk.out
     have HW := Lib.hid (new_one V4 xnm)
     have HO5 : Hid ((V4.alloc (.cells #[.string xnm] 9)).ownsRow V.heap.size 9 1 (.slice Xr n c) n (strs (l0 ++ pre))) := Lib.hid (HO4.out.alloc _)
     have HB5 : Hid (Below V.heap.size V (V4.alloc (.cells #[.string xnm] 9))) := Lib.hid (below_stepA HB4.out _)
     go_wp2_with (at_builtin; refine wpList_append_own_at _ rfl (.tmp 31) (.tmp 34) 22 rfl V.heap.size 9 i0 _ 1 16 Try.underlying22 hi0 hz0 hz1 hz2 rfl (by decide) _ n (strs (l0 ++ pre)) rfl HO5.out ⟨V4.heap.size, 0, none⟩ 1 1 [.string xnm] rfl rfl HW.out (by simp [Value.oneCell']) (by unfold maxLen; omega) (by omega) HB5.out.size ?_; intro v6 w6 hown6 hg6 _ hat6; obtain ⟨X6, k6, rfl, _, _⟩ := own_shape hown6; have HO6 := Lib.hid hown6; have HG6 := Lib.hid hg6; clear hown6 hg6 hat6)
     have HS : Hid (NmI V w6 (l0 ++ (args.take (k + 1)).flatMap argV) X6 (n + 1) k6) := Lib.hid ⟨by rw [HT.out, ← List.append_assoc, strs_append]; exact HO6.out, HB5.out.grown HG6.out HB5.out.size (fun j hj => (HO5.out.lt j hj).1)⟩
     go_roundw
     case rel => exact ⟨k + 1, X6, _, k6, by omega, by go_num, rfl, by rw [HT.out, ← List.append_assoc, List.length_append, ← HLk.out]; rfl, HS⟩
     case measure => simp [intOf]; omega
    | false =>
     rw [if_neg (by decide)] at HV2
     rw [HV2.out] at HT HNk
     go_wp2_with (first
      | (go_at_call 52; refine (HC.out V4 HI4.out).mono ?_; rintro e w5 ⟨v5, rfl, ho5, hb5⟩; obtain ⟨X5, k5, rfl, _, _⟩ := own_shape ho5; have HT5 := Lib.hid (new_small HCs.out ho5); have HO5 : Hid (w5.ownsRow V.heap.size 9 1 (.slice Xr n c) n (strs (l0 ++ pre))) := Lib.hid ((Below.moves hb5).row HO4.out (fun j hj e => Nat.not_lt.2 e (HO4.out.lt j hj).2)); have HB5 := Lib.hid (below_step HB4.out hb5); clear ho5 hb5)
      | (at_builtin; refine wpList_append_texts rfl (.tmp 36) (.tmp 39) 22 rfl V.heap.size 9 i0 _ Try.underlying22 hi0 hz0 hz1 hz2 rfl _ n (strs (l0 ++ pre)) rfl HO5.out w5 (nw V4 w5) X5 (namesE xx) (namesE xx).length k5 rfl rfl HT5.out ⟨fun j h => h.2, fun _ _ => rfl⟩ HNk.out HB5.out.size ?_; intro v6 w6 hown6 hg6; obtain ⟨X6, k6, rfl, _, _⟩ := own_shape hown6; have HO6 := Lib.hid hown6; have HG6 := Lib.hid hg6; clear hown6 hg6))
     have HS : Hid (NmI V w6 (l0 ++ (args.take (k + 1)).flatMap argV) X6 (n + (namesE xx).length) k6) := Lib.hid ⟨by rw [HT.out, ← List.append_assoc, strs_append]; exact HO6.out, HB5.out.grown HG6.out HB5.out.size (fun j hj => (HO5.out.lt j hj).1)⟩
     go_roundw
     case rel => exact ⟨k + 1, X6, _, k6, by omega, by go_num, rfl, by rw [HT.out, ← List.append_assoc, List.length_append, ← HLk.out], HS⟩
     case measure => simp [intOf]; omega
   ·have hke : k = args.length := by omega
    subst hke
    go_wp2_with fail
    go_ret
    refine ⟨_, rfl, own_lower ?_ HB0.out.size, below_step HB0.out HR.out.below⟩
    have h := HR.out.row
    rw [List.take_length] at h hnl
    rw [HV.out]
    rw [hnl] at h ⊢
    exact h
end Go.Proofs.Ytcocilpifdjibaa
namespace Go.Proofs.Ytcocilpifdjibaa.U
open Go.ChangeShapes Go.WideShapes Go.ChangeAt Go.RowKit Go.Deep
set_option linter.unusedVariables false
set_option linter.unusedSimpArgs false
/-- a program whose copy takes no great memory -/
structure SmC (p : Pg) : Prop where
  globals : smT p.globals
  procs : p.procs.length ≤ 1000000
  proc : ∀ q ∈ p.procs, q.nm.size ≤ 1000000 ∧ smP q.params ∧ smT q.vars ∧ wSL q.body ≤ 1000000 ∧ smT q.end_
theorem setCell_same {w : World} {a : Addr} {v : Value} (h : w.cell? a = some v) : w.setCell a v = w := by
  have hm : (w.setCell a v).heap = w.heap := by
    unfold World.cell? at h
    unfold World.setCell
    apply Array.ext
    · simp
    · intro i h1 h2
      simp only [Array.getElem_modify]
      split
      · rename_i hi
        subst hi
        rw [Array.getElem?_eq_getElem h2] at h
        split at h
        · rename_i c t f he
          injection he with he
          rw [he]
          split at h
          · cases h
          · rename_i hs
            simp only [hs]
            simp only [Bool.false_eq_true, if_false]
            rw [set_same h]
        · cases h
      · rfl
  calc w.setCell a v = { w with heap := (w.setCell a v).heap } := rfl
    _ = w := by rw [hm]
/-- what may be takes no great memory to copy -/
theorem smC_of {p : Pg} (h : SmG p) (hm : mayP p = true) : SmC p := by
  refine ⟨smT_of h.globals, h.procs, fun q hq => ?_⟩
  obtain ⟨h1, h2, h3, h4⟩ := h.proc q hq
  have hh : headOk q = true := by
    rw [← rMayP_eq] at hm
    unfold rMayP at hm
    simp only [Bool.and_eq_true] at hm
    exact List.all_eq_true.1 hm.1.1.2 q hq
  unfold headOk at hh
  simp only [Bool.and_eq_true] at hh
  have hn := (nm_short hh.1.1.2).2
  refine ⟨by omega, ⟨h4, fun s hs => ?_⟩, smT_of h2, h1, smT_of h3⟩
  have := (nm_short (List.all_eq_true.1 hh.1.1.1.2 s hs)).2
  omega
end Go.Proofs.Ytcocilpifdjibaa.U
namespace Go.Proofs.Ytcocilpifdjibaa
open Go.ChangeShapes Go.WideShapes Go.ChangeAt Go.RowKit Go.Deep
set_option linter.unusedVariables false
set_option linter.unusedSimpArgs false
theorem may_lens {p : Pg} (hm : mayP p = true) : p.globals.length ≤ 16 ∧ p.procs.length ≤ 16 ∧ ∀ q ∈ p.procs, q.params.length ≤ 8 ∧ q.vars.length ≤ 16 := by
 have h1 : p.globals.length ≤ 16 ∧ p.procs.length ≤ 16 := by
  have h := hm
  unfold mayP at h
  simp only [Bool.and_eq_true, Bool.not_eq_true', decide_eq_false_iff_not] at h
  omega
 refine ⟨h1.1, h1.2, fun q hq => ?_⟩
 have hh : headOk q = true := by
  rw [← rMayP_eq] at hm
  unfold rMayP at hm
  simp only [Bool.and_eq_true] at hm
  exact List.all_eq_true.1 hm.1.1.2 q hq
 unfold headOk at hh
 simp only [Bool.and_eq_true, Bool.not_eq_true', decide_eq_false_iff_not] at hh
 omega
theorem own_at {w : World} {base n : Nat} {e : TypeId} {v : Value} {xs : List Value} (h : w.ownsRow base e 1 v n xs) {k : Nat} (hk : k < n) :
  ∃ a cap, v = .slice (some a) n cap ∧ (∀ x, xs[k]? = some x → w.cell? (a.add k) = some x) ∧ w.frozen? (a.add k) = false ∧ base ≤ (a.add k).block := by
 obtain ⟨hl, h'⟩ := h
 rcases h' with ⟨_, rfl⟩ | ⟨g, cap, cur, rfl, hb, hg, hnc, hm, hs, ht⟩
 ·omega
 ·refine ⟨⟨g, 0, none⟩, cap, rfl, fun x hx => own_cells (m := n) (cap := cap) (n := n) (w := w) (base := base) (e := e) (size := 1) (xs := xs) ⟨hl, .inr ⟨g, cap, cur, rfl, hb, hg, hnc, hm, hs, ht⟩⟩ k x hx, ?_, ?_⟩
  ·rw [addr0]
   exact (show Blk w g e cur from hg).frozen k
  ·rw [addr0]; exact hb
def varsP (p : Pg) (proc : ByteArray) : List ByteArray := if mayP p = true then (p.procs.find? (isQ proc)).elim [] (namesP p.globals) else []
set_option maxHeartbeats 2000000 in
set_option maxRecDepth 100000 in
theorem Vars_any {w : World} {Q : Nat → Prop} {p : Pg} {c0 c1 : Value} (h : ProgI w Q p [c0, c1]) (hsm : SmG p) (proc : ByteArray) (W : World) (hI : In Q w W) :
  Calls Try.prog 48 #[.agg #[c0, c1], .string proc] W (NewRow (varsP p proc) W) := by
 have HF := Lib.hid (fun V hV => find_any h proc V hV)
 obtain ⟨Ag, cg, Ap, cp, rfl, rfl, _, _, _, _, hgl, hpr⟩ := prog_open h
 have HP := Lib.hid hpr
 have HGl := Lib.hid hgl
 have HI := Lib.hid hI
 have HSm := Lib.hid hsm
 have hfd : (fndP p proc = -1 ∧ varsP p proc = []) ∨ ∃ j, ∃ hj : j < p.procs.length, fndP p proc = ((j : Nat) : Int) ∧ varsP p proc = namesP p.globals p.procs[j] ∧ mayP p = true := by
  unfold fndP varsP
  by_cases hm : mayP p = true
  ·rw [if_pos hm, if_pos hm]
   rcases idxL_get (isQ proc) p.procs 0 with ⟨h1, h2⟩ | ⟨j, hj, h1, _, h3⟩
   ·exact .inl ⟨h1, by rw [h2]; rfl⟩
   ·exact .inr ⟨j, hj, by rw [h1, Nat.zero_add], by rw [h3]; rfl, hm⟩
  ·rw [if_neg hm, if_neg hm]
   exact .inl ⟨rfl, rfl⟩
 clear h hI hpr hgl hsm
 generalize fndP p proc = z at HF hfd
 go_enter Try.func48, Try.ntmps48
 go_upto_region 1 with fail
 have HB0 : Hid (Below W.heap.size W (W.alloc (.cells #[.slice Ag p.globals.length cg, .slice Ap p.procs.length cp] 25))) := Lib.hid (below_box _)
 have HBp : Hid (Blk (W.alloc (.cells #[.slice Ag p.globals.length cg, .slice Ap p.procs.length cp] 25)) W.heap.size 25 #[.slice Ag p.globals.length cg, .slice Ap p.procs.length cp]) := Lib.hid (Blk.new _ _ _)
 generalize World.alloc _ _ = V at HB0 HBp ⊢
 generalize hbe : W.heap.size = b at HBp ⊢
 clear hbe
 have HI0 := Lib.hid (HI.out.on HB0.out)
 have q0 : V.cell? ⟨b, 0, none⟩ = some (.slice Ag p.globals.length cg) := by rw [HBp.out.cell]; rfl
 have q1 : V.cell? ⟨b, 1, none⟩ = some (.slice Ap p.procs.length cp) := by rw [HBp.out.cell]; rfl
 have hbl := HBp.out.lt
 go_upto_region 2 with (go_at_call 107; refine (HF.out V HI0.out).mono ?_; rintro e w1 ⟨rfl, hb1⟩)
 have HB1 := Lib.hid (below_step HB0.out hb1)
 have HI1 := Lib.hid (HI0.out.on hb1)
 have HBp1 := Lib.hid (HBp.out.below hb1 hbl)
 clear q0 q1 hbl hb1 HB0 HBp HI0 HF
 rcases hfd with ⟨rfl, hk⟩ | ⟨j, hj, rfl, hk, hm⟩
 ·have HK0 := Lib.hid hk
  clear hk
  go_wp2_with fail
  go_ret
  exact ⟨.slice none 0 0, rfl, by rw [HK0.out]; exact World.ownsRow_nil _ _ _ _, HB1.out⟩
 ·obtain ⟨a, Bp, kp, Bv, kv, Bb, kb, Be, ke, rfl, hqa, hrow, hnm, hpp, hvv, hbody, hee⟩ := proc_at HP.out HI1.out hj
  have HPI : Hid (ProcI w Q p.procs[j] [.string p.procs[j].nm, .slice Bp p.procs[j].params.length kp, .slice Bv p.procs[j].vars.length kv, .slice Bb p.procs[j].body.length kb, .slice Be p.procs[j].end_.length ke]) := Lib.hid ⟨_, _, _, _, rfl, hnm, hpp, hvv, hbody, hee⟩
  obtain ⟨hm1, _, hm2⟩ := may_lens hm
  have hm3 := hm2 _ (List.getElem_mem hj)
  have HC := Lib.hid (fun V hV => namesIn_any HGl.out HPI.out ⟨hm1, hm3.1, hm3.2⟩ V hV)
  have HL : Hid (∀ s ∈ namesP p.globals p.procs[j], s.size ≤ 281474976710656) := Lib.hid (by
   obtain ⟨_, h2, h3, _⟩ := (U.smC_of HSm.out hm).proc _ (List.getElem_mem hj)
   intro s hs
   unfold namesP at hs
   simp only [List.mem_append, List.mem_map] at hs
   rcases hs with (hs | ⟨x, hx, rfl⟩) | hs
   ·exact Nat.le_trans ((U.smC_of HSm.out hm).globals.2 _ hs) (by omega)
   ·exact Nat.le_trans (h2.2 _ hx) (by omega)
   ·exact Nat.le_trans (h3.2 _ hs) (by omega))
  have hll : (namesP p.globals p.procs[j]).length ≤ 40 := by simp [namesP]; omega
  have HK0 := Lib.hid hk
  generalize namesP p.globals p.procs[j] = l at HC HK0 HL hll
  generalize p.procs[j].nm = x0 at hrow HC
  generalize p.procs[j].params.length = x1 at hrow HC
  generalize p.procs[j].vars.length = x2 at hrow HC
  generalize p.procs[j].body.length = x3 at hrow HC
  generalize p.procs[j].end_.length = x4 at hrow HC
  obtain ⟨p0, p1, p2, p3, p4, _⟩ := hrow
  clear HPI hk hnm hpp hvv hbody hee hm hm1 hm2 hm3 HSm
  have q0 : w1.cell? ⟨b, 0, none⟩ = some (.slice Ag p.globals.length cg) := by rw [HBp1.out.cell]; rfl
  have q1 : w1.cell? ⟨b, 1, none⟩ = some (.slice (some a) p.procs.length cp) := by rw [HBp1.out.cell]; rfl
  have hbl := HBp1.out.lt
  have HQa : Hid (Q (a.add (j * 5)).block) := Lib.hid (by rw [block_add]; exact hqa)
  clear hqa
  have hdr : ∀ V : World, In Q w V → In Q w V.drew := fun V h => h
  have hBD : Below w1.heap.size w1 w1.drew := (Below.refl _ _).drew
  go_upto_region 4 with fail
  go_region_held3 (fun w' => w'.cell? ⟨b, 0, none⟩ = some (.slice Ag p.globals.length cg) ∧ w'.cell? ⟨b, 1, none⟩ = some (.slice (some a) p.procs.length cp) ∧ w'.cell? (a.add (j * 5)) = some (.string x0) ∧ w'.cell? ⟨(a.add (j * 5)).block, (a.add (j * 5)).off + 1, none⟩ = some (.slice Bp x1 kp) ∧ w'.cell? ⟨(a.add (j * 5)).block, (a.add (j * 5)).off + 2, none⟩ = some (.slice Bv x2 kv) ∧ w'.cell? ⟨(a.add (j * 5)).block, (a.add (j * 5)).off + 3, none⟩ = some (.slice Bb x3 kb) ∧ w'.cell? ⟨(a.add (j * 5)).block, (a.add (j * 5)).off + 4, none⟩ = some (.slice Be x4 ke))
   (go_keep)
   ((go_at_call 103; refine (HC.out _ (hdr _ HI1.out)).mono ?_; rintro e' w2 ⟨v2, rfl, ho2, hb2⟩; obtain ⟨X2, k2, rfl, _, _⟩ := own_shape ho2; have HO2 := Lib.hid ho2; clear ho2; have hb2' := hBD.trans hb2; have HI2 := Lib.hid (HI1.out.on hb2'); have k0 := (hb2'.cell (p := ⟨b, 0, none⟩) hbl).trans q0; have k1 := (hb2'.cell (p := ⟨b, 1, none⟩) hbl).trans q1; have r0 := (HI2.out.cell (p := a.add (j * 5)) HQa.out).trans ((HI1.out.cell (p := a.add (j * 5)) HQa.out).symm.trans p0); have r1 := (HI2.out.cell (p := ⟨(a.add (j * 5)).block, (a.add (j * 5)).off + 1, none⟩) HQa.out).trans ((HI1.out.cell (p := ⟨(a.add (j * 5)).block, (a.add (j * 5)).off + 1, none⟩) HQa.out).symm.trans p1); have r2 := (HI2.out.cell (p := ⟨(a.add (j * 5)).block, (a.add (j * 5)).off + 2, none⟩) HQa.out).trans ((HI1.out.cell (p := ⟨(a.add (j * 5)).block, (a.add (j * 5)).off + 2, none⟩) HQa.out).symm.trans p2); have r3 := (HI2.out.cell (p := ⟨(a.add (j * 5)).block, (a.add (j * 5)).off + 3, none⟩) HQa.out).trans ((HI1.out.cell (p := ⟨(a.add (j * 5)).block, (a.add (j * 5)).off + 3, none⟩) HQa.out).symm.trans p3); have r4 := (HI2.out.cell (p := ⟨(a.add (j * 5)).block, (a.add (j * 5)).off + 4, none⟩) HQa.out).trans ((HI1.out.cell (p := ⟨(a.add (j * 5)).block, (a.add (j * 5)).off + 4, none⟩) HQa.out).symm.trans p4)))
  have HB2 : Hid (Below w1.heap.size w1 w2) := Lib.hid hb2'
  have HO3 : Hid (w2.ownsRow w1.heap.size 9 1 (.slice X2 l.length k2) l.length (strs l)) := HO2
  clear p0 p1 p2 p3 p4 q0 q1 hbl hb2 hb2' k0 k1 r0 r1 r2 r3 r4 hdr hBD HQa HO2 HC
  go_wp2_with fail
  go_loopw [24] (fun iv wr => ∃ (k : Nat), k ≤ l.length ∧ iv = .int .i64 k ∧ Hid (Below w1.heap.size w1 wr) ∧ Hid (wr.ownsRow w1.heap.size 9 1 (.slice X2 l.length k2) l.length (strs l))) (fun iv _ => l.length - (intOf iv).toNat)
  case atStart => exact ⟨0, Nat.zero_le _, rfl, HB2, HO3⟩
  case round =>
   clear HB2 HO3
   obtain ⟨k, hk, rfl, HBr, HOr⟩ := hrel
   by_cases hlt : k < l.length
   ·obtain ⟨g, cap, he, hc, hf, hb⟩ := own_at HOr.out hlt
    injection he with h1 _ h3
    subst h1 h3
    have hsz : l[k].size ≤ 281474976710656 := HL.out _ (List.getElem_mem hlt)
    have HCl := Lib.hid (fun V => Clone_any l[k] V hsz)
    have p := hc (.string l[k]) (by simp [strs, List.getElem?_map, List.getElem?_eq_getElem hlt])
    have HC : Hid (∀ w2 : World, w2.ownsRow w1.heap.size 9 1 (.slice (some g) l.length k2) l.length (strs l) → w2.cell? (g.add k) = some (.string l[k]) ∧ w2.frozen? (g.add k) = false) := Lib.hid (fun w2 h2 => by
     obtain ⟨g', cap', he', hc', hf', _⟩ := own_at h2 hlt
     injection he' with h1' _ h3'
     injection h1' with h1'
     subst h1'
     exact ⟨hc' _ (by simp [strs, List.getElem?_map, List.getElem?_eq_getElem hlt]), hf'⟩)
    generalize l[k] = s at HCl p HC
    clear hc hf hb hsz
    go_upto_region 8 with fail
    go_upto_region 9 with (go_at_call 108; refine (HCl.out _).mono ?_; rintro e w3 ⟨rfl, hb3⟩; have HO3 := Lib.hid ((Below.moves hb3).row HOr.out (fun j hj e => Nat.not_lt.2 e (HOr.out.lt j hj).2)); obtain ⟨p3, f3⟩ := HC.out _ HO3.out; have HB3 := Lib.hid hb3; clear hb3)
    rw [U.setCell_same p3]
    clear p3 f3
    go_wp2_with fail
    go_roundw
    case rel => exact ⟨k + 1, by omega, by go_num, Lib.hid (below_step HBr.out HB3.out), HO3⟩
    case measure => simp [intOf]; omega
   ·go_wp2_with fail
    go_ret
    exact ⟨_, rfl, by rw [HK0.out]; exact own_lower HOr.out HB1.out.size, below_step HB1.out HBr.out⟩
end Go.Proofs.Ytcocilpifdjibaa
