/- Texts, merged by a program; only what is used. -/
import Derived.Test.YtimejkbmfbjomaaGreatKX1
import Derived.Test.YtimejkbmfbjomaaGreatKX2
import Derived.Test.YtimejkbmfbjomaaGreatKX3
import Derived.Test.YtimejkbmfbjomaaGreatKX4
import Derived.Test.YtimejkbmfbjomaaGreatKX5
import Derived.Test.YtimejkbmfbjomaaGreatKX6
import Derived.Test.YtimejkbmfbjomaaGreatKX7
import Derived.Test.YtimejkbmfbjomaaGreatKX8
import Derived.Test.YtimejkbmfbjomaaGreatKX9
import Derived.Test.YtimejkbmfbjomaaGreatKX10
import Derived.Test.YtimejkbmfbjomaaGreatKX11
import Derived.Test.YtimejkbmfbjomaaGreatKX13
namespace Go.Proofs.YtimejkbmfbjomaaGreat
open Go.ChangeShapes Go.WideShapes Go.ChangeAt Go.RowKit Go.Deep
set_option linter.unusedVariables false
set_option linter.unusedSimpArgs false
def dupL : List ByteArray → List ByteArray → Bool
 | _, [] => false
 | p, x :: r => p.any (isT x) || dupL (p ++ [x]) r
def dup (l : List ByteArray) : Bool := dupL [] l
theorem dupL_step {l : List ByteArray} {k : Nat} (h : k < l.length) : dupL (l.take k) (l.drop k) = ((l.take k).any (isT l[k]) || dupL (l.take (k + 1)) (l.drop (k + 1))) := by
 rw [List.drop_eq_getElem_cons h, dupL, List.take_succ_eq_append_getElem h]
theorem texts_take {w : World} {Q : Nat → Prop} {l : List ByteArray} {A : Option Addr} {n cap k : Nat} (h : TextsI w Q l (.slice A n cap)) (hk : k ≤ l.length) : TextsI w Q (l.take k) (.slice A k cap) := by
 obtain ⟨A', cap', css, h1, h2, h3, h4⟩ := h
 simp only [Value.slice.injEq] at h1
 obtain ⟨rfl, rfl, rfl⟩ := h1
 have hl : (l.take k).length = k := by rw [List.length_take]; omega
 refine ⟨A, cap, css, by rw [hl], ⟨by omega, h2.2⟩, fun h0 => ?_, fun i hi => ?_⟩
 ·obtain ⟨a, ha, hq, hc⟩ := h3 (by omega)
  exact ⟨a, ha, hq, fun i hi => hc i (by omega)⟩
 ·have := h4 i (by omega)
  rw [List.getElem_take]
  exact this
set_option maxHeartbeats 1000000 in
theorem distinct_any {w W : World} {Q : Nat → Prop} {l : List ByteArray} {v : Value} (h : TextsI w Q l v) (hI : In Q w W) :
  Calls Tryz.prog 53 #[v] W fun e w' => e = .returned (.bool (!dup l)) ∧ W = w' := by
 obtain ⟨A, cap, rfl, hl1, hl2⟩ := h.shape
 have H := Lib.hid h
 have HI := Lib.hid hI
 clear h hI
 go_enter Tryz.func53, Tryz.ntmps53
 go_wp2_with fail
 go_loopg [7] l.length (fun kk i wr => ∃ k : Nat, k + kk = l.length ∧ i = .int .i64 k ∧ Hid (dupL (l.take k) (l.drop k) = dup l) ∧ wr = W)
 case atStart => exact ⟨0, by omega, rfl, Lib.hid (by rw [List.drop_zero, List.take_zero]; rfl), rfl⟩
 case round =>
  obtain ⟨k, hk, rfl, HW, rfl⟩ := hrel
  by_cases hlt : k < l.length
  ·obtain ⟨a, rfl, _, p1, hs⟩ := text_at H.out HI.out hlt
   have HD := Lib.hid (dupL_step hlt)
   rw [HW.out] at HD
   have HC := Lib.hid (Contains_any (W := wr) (texts_take H.out (Nat.le_of_lt hlt)) HI.out l[k])
   generalize l[k] = t at p1 hs HD HC
   cases hb : (l.take k).any (isT t) with
   | true =>
    rw [hb, Bool.true_or] at HD
    rw [hb] at HC
    clear hb
    go_wp2_with (go_at_call 94; refine HC.out.mono ?_; rintro e w' ⟨rfl, rfl⟩)
    go_ret
    exact ⟨ret_bool (by rw [HD.out]; rfl), rfl⟩
   | false =>
    rw [hb, Bool.false_or] at HD
    rw [hb] at HC
    clear hb
    go_wp2_with (go_at_call 94; refine HC.out.mono ?_; rintro e w' ⟨rfl, rfl⟩)
    go_roundg (l.length - k - 1)
    case measure => omega
    case rel => exact ⟨k + 1, by omega, by go_num, Lib.hid HD.out.symm, rfl⟩
  ·have HD : Hid (dup l = false) := Lib.hid (by rw [← HW.out, List.drop_of_length_le (by omega), dupL])
   go_wp2_with fail
   go_ret
   exact ⟨ret_bool (by rw [HD.out]; rfl), rfl⟩
def argV (a : Ar) : List ByteArray := if a.ref = true then [a.nm] else namesE a.x
def ownV (kind : Int) (nm : ByteArray) : List ByteArray := if (!nm.toList.isEmpty && kind != 10) = true then [nm] else []
def varsS (s : S) : List ByteArray := namesE s.x ++ ownV s.kind s.nm ++ s.args.flatMap argV
theorem flat_take {α β : Type} {f : α → List β} {l : List α} {k : Nat} (h : k < l.length) : (l.take (k + 1)).flatMap f = (l.take k).flatMap f ++ f l[k] := by
 rw [List.take_succ_eq_append_getElem h, List.flatMap_append]
 simp
theorem flat_take_le {α β : Type} {f : α → List β} {l : List α} {k : Nat} : ((l.take k).flatMap f).length ≤ (l.flatMap f).length := by
 conv => rhs; rw [← List.take_append_drop k l, List.flatMap_append]
 rw [List.length_append]
 omega
theorem new_small {l : List ByteArray} {W w : World} {v : Value} (hl : ∀ s ∈ l, small s) (h : w.ownsRow W.heap.size 9 1 v l.length (strs l)) : TextsI w (nw W w) l v := (texts_of_own hl h).2
theorem namesE_small {w : World} {Q : Nat → Prop} {e : E} {cs : List Value} (h : ExprI w Q e cs) : ∀ t ∈ namesE e, small t := by
 unfold namesE
 split
 ·exact walkE_all h (fun t ht => absurd ht (by simp))
 ·exact fun t ht => absurd ht (by simp)
set_option maxHeartbeats 4000000 in
set_option maxRecDepth 100000 in
theorem variables_any {w : World} {Q : Nat → Prop} {s : S} {cs : List Value} (h : StmtI w Q s cs) (hn : (varsS s).length ≤ 1000000) (W : World) (hI : In Q w W) :
 Calls Tryz.prog 117 #[.agg cs.toArray] W (NewRow (varsS s) W) := by
 obtain ⟨id, kind, labels, nm, proc, x, has, args, th, el, L, lc, x0, x1, x2, X, xn, xc, R, rc, T, tc, U, uc, rfl, rfl, hid, hkind, hnm, hproc, hl, hx, ha, hth, hel⟩ := stmt_open h
 have HNa := Lib.hid (fun V hV => Names_any hx V hV)
 have HNs := Lib.hid (namesE_small hx)
 have HA := Lib.hid ha
 have HI := Lib.hid hI
 have HV : Hid (varsS (.mk id kind labels nm proc x has args th el) = namesE x ++ ownV kind nm ++ args.flatMap argV) := Lib.hid rfl
 have HN : Hid ((namesE x).length + (ownV kind nm).length + (args.flatMap argV).length ≤ 1000000) := Lib.hid (by rw [HV.out] at hn; simp only [List.length_append] at hn; exact hn)
 have hok := hkind
 unfold i64 at hok
 obtain ⟨i0, hi0, hz0, hz1, hz2⟩ := info_parts string_info
 obtain ⟨_, har, hrc, _⟩ := slice_len ha
 clear h hn hI hl hx ha hth hel hid hkind hnm hproc
 simp only [List.toArray]
 go_enter Tryz.func117, Tryz.ntmps117
 go_upto_region 1 with fail
 have HBp : Hid (Blk (W.alloc (.cells #[.int .i64 id, .int .i64 kind, .slice L labels.length lc, .string nm, .string proc, .int .i64 x0, .int .i64 x1, .string x2, .slice X xn xc, .bool has, .slice R args.length rc, .slice T th.length tc, .slice U el.length uc] 49)) W.heap.size 49 #[.int .i64 id, .int .i64 kind, .slice L labels.length lc, .string nm, .string proc, .int .i64 x0, .int .i64 x1, .string x2, .slice X xn xc, .bool has, .slice R args.length rc, .slice T th.length tc, .slice U el.length uc]) := Lib.hid (Blk.new _ _ _)
 have HB0 : Hid (Below W.heap.size W (W.alloc (.cells #[.int .i64 id, .int .i64 kind, .slice L labels.length lc, .string nm, .string proc, .int .i64 x0, .int .i64 x1, .string x2, .slice X xn xc, .bool has, .slice R args.length rc, .slice T th.length tc, .slice U el.length uc] 49))) := Lib.hid (below_box _)
 generalize World.alloc _ _ = V at HBp HB0 ⊢
 generalize W.heap.size = b at HBp ⊢
 have HI0 := Lib.hid (HI.out.on HB0.out)
 have q5 : V.cell? ⟨b, 5, none⟩ = some (.int .i64 x0) := by rw [HBp.out.cell]; rfl
 have q6 : V.cell? ⟨b, 6, none⟩ = some (.int .i64 x1) := by rw [HBp.out.cell]; rfl
 have q7 : V.cell? ⟨b, 7, none⟩ = some (.string x2) := by rw [HBp.out.cell]; rfl
 have q8 : V.cell? ⟨b, 8, none⟩ = some (.slice X xn xc) := by rw [HBp.out.cell]; rfl
 have hbl := HBp.out.lt
 go_upto_region 2 with (go_at_call 116; refine (HNa.out V HI0.out).mono ?_; rintro e w1 ⟨v1, rfl, ho1, hb1⟩; obtain ⟨X1, k1, rfl, _, _⟩ := own_shape ho1)
 have HS1 : Hid (NmI V w1 (namesE x) X1 (namesE x).length k1) := Lib.hid ⟨ho1, hb1⟩
 have HBp1 := Lib.hid (HBp.out.below hb1 hbl)
 clear q5 q6 q7 q8 ho1 hb1 HNa
 have q1 : w1.cell? ⟨b, 1, none⟩ = some (.int .i64 kind) := by rw [HBp1.out.cell]; rfl
 have q3 : w1.cell? ⟨b, 3, none⟩ = some (.string nm) := by rw [HBp1.out.cell]; rfl
 have hb1l := HBp1.out.lt
 generalize hnx : namesE x = nx at *
 clear hnx
 obtain ⟨bb, hbb⟩ : ∃ bb, bb = (!nm.toList.isEmpty && kind != 10) := ⟨_, rfl⟩
 have HK : Hid (ownV kind nm = if bb = true then [nm] else []) := Lib.hid (by rw [hbb]; rfl)
 have Hbb := Lib.hid hbb
 clear hbb
 go_cut [16] from 9 to 15 (fun s wx => s = .bool bb ∧ wx = w1)
 case first =>
  cases he : nm.toList.isEmpty with
  | true =>
   have he2 : (nm.toList == []) = true := by simpa using he
   have H2 : Hid (bb = false) := Lib.hid (by rw [Hbb.out, he]; rfl)
   go_wp2_with fail
   go_meet
   exact ⟨by rw [H2.out]; try rfl, rfl⟩
  | false =>
   have he2 : (nm.toList == []) = false := by simpa using he
   have H2 : Hid (bb = (kind != 10)) := Lib.hid (by rw [Hbb.out, he]; rfl)
   go_wp2_with fail
   go_meet
   exact ⟨by rw [H2.out]; try rfl, rfl⟩
 case rest =>
 obtain ⟨rfl, rfl⟩ := hcut
 go_upto_if 16 with fail
 go_cut [3] from 17 to 21 (fun s wx => ∃ (X2 : Option Addr) (k2 : Nat), s = .slice X2 (nx.length + (ownV kind nm).length) k2 ∧ Hid (NmI V wx (nx ++ ownV kind nm) X2 (nx.length + (ownV kind nm).length) k2))
 case first =>
  have HO1 : Hid (wc.ownsRow V.heap.size 9 1 (.slice X1 nx.length k1) nx.length (strs nx)) := Lib.hid HS1.out.row
  have HO1a : Hid ((wc.alloc (.cells #[.string nm] 9)).ownsRow V.heap.size 9 1 (.slice X1 nx.length k1) nx.length (strs nx)) := Lib.hid (HO1.out.alloc _)
  have HB1a : Hid (Below V.heap.size V (wc.alloc (.cells #[.string nm] 9))) := Lib.hid (below_stepA HS1.out.below _)
  have HW := Lib.hid (new_one wc nm)
  have HLn : Hid (nx.length + 1 ≤ 1000001) := Lib.hid (by have := HN.out; omega)
  cases bb with
  | false =>
   have HK2 : Hid (ownV kind nm = []) := Lib.hid (by rw [HK.out]; rfl)
   go_wp2_with fail
   go_meet
   exact ⟨X1, k1, by rw [HK2.out]; rfl, Lib.hid (by rw [HK2.out, List.append_nil]; exact HS1.out)⟩
  | true =>
   have HK2 : Hid (ownV kind nm = [nm]) := Lib.hid (by rw [HK.out]; rfl)
   go_wp2_with (at_builtin; refine wpList_append_own_at _ rfl (.tmp 17) (.tmp 20) 22 rfl V.heap.size 9 i0 _ 1 16 Tryz.underlying22 hi0 hz0 hz1 hz2 rfl (by decide) _ nx.length (strs nx) rfl HO1a.out ⟨wc.heap.size, 0, none⟩ 1 1 [.string nm] rfl rfl HW.out (by simp [Value.oneCell']) (by have := HLn.out; unfold maxLen; omega) (by have := HLn.out; omega) HB1a.out.size ?_; intro v6 w6 hown6 hg6 _ hat6; obtain ⟨X6, k6, rfl, _, _⟩ := own_shape hown6; have HO6 := Lib.hid hown6; have HG6 := Lib.hid hg6; clear hown6 hg6 hat6)
   go_meet
   exact ⟨X6, k6, by rw [HK2.out]; rfl, Lib.hid (by rw [HK2.out]; exact ⟨by rw [strs_append]; exact HO6.out, HB1a.out.grown HG6.out HB1a.out.size (fun j hj => (HO1a.out.lt j hj).1)⟩)⟩
 case rest =>
  obtain ⟨X2, k2, rfl, HS2⟩ := hcut
  have hl0 : nx.length + (ownV kind nm).length = (nx ++ ownV kind nm).length := (List.length_append).symm
  have HN2 : Hid ((nx ++ ownV kind nm).length + (args.flatMap argV).length ≤ 1000000) := Lib.hid (by have := HN.out; simp only [List.length_append]; omega)
  rw [hl0] at HS2 ⊢
  clear hl0 HS1 HBp1 q1 q3 HN
  generalize nx ++ ownV kind nm = l0 at HS2 HV HN2 ⊢
  have HBp2 := Lib.hid (HBp.out.below HS2.out.below hbl)
  have q10 : wc.cell? ⟨b, 10, none⟩ = some (.slice R args.length rc) := by rw [HBp2.out.cell]; rfl
  go_upto_region 5 with fail
  clear q10 HBp2
  go_loopw [3, 25] (fun ov iv wr => ∃ (k : Nat) (Xr : Option Addr) (n c : Nat), k ≤ args.length ∧ iv = .int .i64 k ∧ ov = .slice Xr n c ∧ n = (l0 ++ (args.take k).flatMap argV).length ∧ Hid (NmI V wr (l0 ++ (args.take k).flatMap argV) Xr n c)) (fun _ iv _ => args.length - (intOf iv).toNat)
  case atStart => exact ⟨0, X2, _, k2, Nat.zero_le _, rfl, rfl, by simp, Lib.hid (by simpa using HS2.out)⟩
  case round =>
   clear HS2
   obtain ⟨k, Xr, n, c, hk, rfl, rfl, hnl, HR⟩ := hrel
   have HIr := Lib.hid (HI0.out.on HR.out.below)
   by_cases hlt : k < args.length
   ·obtain ⟨a, o1, n1, s1, A1, l1, k1, rfl, _, ⟨p0, p1, p2, p3, p4, p5, _⟩, hs, hxa⟩ := arg_at HA.out HIr.out hlt
    have HC := Lib.hid (fun V hV => Names_any hxa V hV)
    have HCs := Lib.hid (namesE_small hxa)
    have HT : Hid ((args.take (k + 1)).flatMap argV = (args.take k).flatMap argV ++ argV args[k]) := Lib.hid (flat_take hlt)
    have HNk : Hid (n + (argV args[k]).length ≤ 1000000) := Lib.hid (by
     have h1 := flat_take_le (f := argV) (l := args) (k := k + 1)
     rw [HT.out] at h1
     have h2 := HN2.out
     rw [hnl]
     simp only [List.length_append] at h1 ⊢
     omega)
    have HLk : Hid (n = (l0 ++ (args.take k).flatMap argV).length) := Lib.hid hnl
    generalize (args.take k).flatMap argV = pre at HR HT HLk
    have HV2 : Hid (argV args[k] = if args[k].ref = true then [args[k].nm] else namesE args[k].x) := Lib.hid rfl
    generalize args[k] = y at p0 p1 hs HC HCs HT HNk HV2
    obtain ⟨xr, xnm, xx⟩ := y
    simp only at p0 p1 hs HV2
    clear hnl
    go_upto_region 7 with fail
    have HBx : Hid (Blk (wr.alloc (.cells #[.bool xr, .string xnm, .int .i64 o1, .int .i64 n1, .string s1, .slice A1 l1 k1] 61)) wr.heap.size 61 #[.bool xr, .string xnm, .int .i64 o1, .int .i64 n1, .string s1, .slice A1 l1 k1]) := Lib.hid (Blk.new _ _ _)
    have HO4 : Hid ((wr.alloc (.cells #[.bool xr, .string xnm, .int .i64 o1, .int .i64 n1, .string s1, .slice A1 l1 k1] 61)).ownsRow V.heap.size 9 1 (.slice Xr n c) n (strs (l0 ++ pre))) := Lib.hid (HR.out.row.alloc _)
    have HB4 : Hid (Below V.heap.size V (wr.alloc (.cells #[.bool xr, .string xnm, .int .i64 o1, .int .i64 n1, .string s1, .slice A1 l1 k1] 61))) := Lib.hid (below_stepA HR.out.below _)
    have HI4 : Hid (In Q w (wr.alloc (.cells #[.bool xr, .string xnm, .int .i64 o1, .int .i64 n1, .string s1, .slice A1 l1 k1] 61))) := Lib.hid (HIr.out.alloc _)
    clear p0 p1 p2 p3 p4 p5
    generalize World.alloc wr _ = V4 at HBx HO4 HB4 HI4 ⊢
    generalize wr.heap.size = bx at HBx ⊢
    have z0 : V4.cell? ⟨bx, 0, none⟩ = some (.bool xr) := by rw [HBx.out.cell]; rfl
    have z1 : V4.cell? ⟨bx, 1, none⟩ = some (.string xnm) := by rw [HBx.out.cell]; rfl
    have z2 : V4.cell? ⟨bx, 2, none⟩ = some (.int .i64 o1) := by rw [HBx.out.cell]; rfl
    have z3 : V4.cell? ⟨bx, 3, none⟩ = some (.int .i64 n1) := by rw [HBx.out.cell]; rfl
    have z4 : V4.cell? ⟨bx, 4, none⟩ = some (.string s1) := by rw [HBx.out.cell]; rfl
    have z5 : V4.cell? ⟨bx, 5, none⟩ = some (.slice A1 l1 k1) := by rw [HBx.out.cell]; rfl
    cases xr with
    | true =>
     rw [if_pos rfl] at HV2
     rw [HV2.out] at HT HNk
     have hn1 : n + 1 ≤ 1000000 := HNk.out
     have HW := Lib.hid (new_one V4 xnm)
     have HO5 : Hid ((V4.alloc (.cells #[.string xnm] 9)).ownsRow V.heap.size 9 1 (.slice Xr n c) n (strs (l0 ++ pre))) := Lib.hid (HO4.out.alloc _)
     have HB5 : Hid (Below V.heap.size V (V4.alloc (.cells #[.string xnm] 9))) := Lib.hid (below_stepA HB4.out _)
     go_wp2_with (at_builtin; refine wpList_append_own_at _ rfl (.tmp 31) (.tmp 34) 22 rfl V.heap.size 9 i0 _ 1 16 Tryz.underlying22 hi0 hz0 hz1 hz2 rfl (by decide) _ n (strs (l0 ++ pre)) rfl HO5.out ⟨V4.heap.size, 0, none⟩ 1 1 [.string xnm] rfl rfl HW.out (by simp [Value.oneCell']) (by unfold maxLen; omega) (by omega) HB5.out.size ?_; intro v6 w6 hown6 hg6 _ hat6; obtain ⟨X6, k6, rfl, _, _⟩ := own_shape hown6; have HO6 := Lib.hid hown6; have HG6 := Lib.hid hg6; clear hown6 hg6 hat6)
     have HS : Hid (NmI V w6 (l0 ++ (args.take (k + 1)).flatMap argV) X6 (n + 1) k6) := Lib.hid ⟨by rw [HT.out, ← List.append_assoc, strs_append]; exact HO6.out, HB5.out.grown HG6.out HB5.out.size (fun j hj => (HO5.out.lt j hj).1)⟩
     go_roundw
     case rel => exact ⟨k + 1, X6, _, k6, by omega, by go_num, rfl, by rw [HT.out, ← List.append_assoc, List.length_append, ← HLk.out]; rfl, HS⟩
     case measure => simp [intOf]; omega
    | false =>
     rw [if_neg (by decide)] at HV2
     rw [HV2.out] at HT HNk
     go_wp2_with (first
      | (go_at_call 116; refine (HC.out V4 HI4.out).mono ?_; rintro e w5 ⟨v5, rfl, ho5, hb5⟩; obtain ⟨X5, k5, rfl, _, _⟩ := own_shape ho5; have HT5 := Lib.hid (new_small HCs.out ho5); have HO5 : Hid (w5.ownsRow V.heap.size 9 1 (.slice Xr n c) n (strs (l0 ++ pre))) := Lib.hid ((Below.moves hb5).row HO4.out (fun j hj e => Nat.not_lt.2 e (HO4.out.lt j hj).2)); have HB5 := Lib.hid (below_step HB4.out hb5); clear ho5 hb5)
      | (at_builtin; refine wpList_append_texts rfl (.tmp 36) (.tmp 39) 22 rfl V.heap.size 9 i0 _ Tryz.underlying22 hi0 hz0 hz1 hz2 rfl _ n (strs (l0 ++ pre)) rfl HO5.out w5 (nw V4 w5) X5 (namesE xx) (namesE xx).length k5 rfl rfl HT5.out ⟨fun j h => h.2, fun _ _ => rfl⟩ HNk.out HB5.out.size ?_; intro v6 w6 hown6 hg6; obtain ⟨X6, k6, rfl, _, _⟩ := own_shape hown6; have HO6 := Lib.hid hown6; have HG6 := Lib.hid hg6; clear hown6 hg6))
     have HS : Hid (NmI V w6 (l0 ++ (args.take (k + 1)).flatMap argV) X6 (n + (namesE xx).length) k6) := Lib.hid ⟨by rw [HT.out, ← List.append_assoc, strs_append]; exact HO6.out, HB5.out.grown HG6.out HB5.out.size (fun j hj => (HO5.out.lt j hj).1)⟩
     go_roundw
     case rel => exact ⟨k + 1, X6, _, k6, by omega, by go_num, rfl, by rw [HT.out, ← List.append_assoc, List.length_append, ← HLk.out], HS⟩
     case measure => simp [intOf]; omega
   ·have hke : k = args.length := by omega
    subst hke
    go_wp2_with fail
    go_ret
    refine ⟨_, rfl, own_lower ?_ HB0.out.size, below_step HB0.out HR.out.below⟩
    have h := HR.out.row
    rw [List.take_length] at h hnl
    rw [HV.out]
    rw [hnl] at h ⊢
    exact h
end Go.Proofs.YtimejkbmfbjomaaGreat
namespace Go.Proofs.YtimejkbmfbjomaaGreat
open Go.ChangeShapes Go.WideShapes Go.ChangeAt Go.RowKit Go.Deep
set_option linter.unusedVariables false
set_option linter.unusedSimpArgs false
def rightS (gl : List ByteArray) (q : Pr) (ps : List ByteArray) (s : S) : Bool := (varsS s).all (fun v => knd gl q v != 0) && (s.kind != 4 || (!(s.proc.toList == [109, 97, 105, 110]) && ps.any (isT s.proc)))
set_option maxHeartbeats 4000000 in
set_option maxRecDepth 100000 in
theorem right_any {w : World} {Q : Nat → Prop} {gl ps : List ByteArray} {vg vs : Value} {q : Pr} {s : S} {c0 c1 c2 c3 c4 : Value} {cs : List Value} (hg : TextsI w Q gl vg) (hps : TextsI w Q ps vs) (hq : ProcI w Q q [c0, c1, c2, c3, c4]) (h : StmtI w Q s cs) (hn : (varsS s).length ≤ 1000000) (W : World) (hI : In Q w W) :
 Calls Tryz.prog 95 #[.agg #[vg, vs, c0, c1, c2, c3, c4], .agg cs.toArray] W (MayOk (rightS gl q ps s) W) := by
 have HVa := Lib.hid (fun V hV => variables_any h hn V hV)
 have HKi := Lib.hid (fun s V hV => kindIn_any hg hq s V hV)
 have HCo := Lib.hid (fun s V hV => Contains_any (W := V) hps hV s)
 obtain ⟨id, kind, labels, nm, proc, x, has, args, th, el, L, lc, x0, x1, x2, X, xn, xc, R, rc, T, tc, U, uc, rfl, rfl, hid, hkind, hnm, hproc, hl, hx, ha, hth, hel⟩ := stmt_open h
 obtain ⟨vp, vv, vb, ve, hc, hnq, hpp, hvv, hbb, hee⟩ := hq
 simp only [List.cons.injEq, and_true] at hc
 obtain ⟨rfl, rfl, rfl, rfl, rfl⟩ := hc
 obtain ⟨Ap, cp, rfl, _, _⟩ := hpp.shape
 obtain ⟨Av, cv, rfl, _, _⟩ := hvv.shape
 obtain ⟨Ab, cb, rfl, _⟩ := hbb.shape
 obtain ⟨Ae, ce, rfl, _⟩ := hee.shape
 obtain ⟨Ag, cg, rfl, _⟩ := hg.shape
 obtain ⟨As, cs', rfl, _⟩ := hps.shape
 have HI := Lib.hid hI
 have HR : Hid (rightS gl q ps (.mk id kind labels nm proc x has args th el) = ((varsS (.mk id kind labels nm proc x has args th el)).all (fun v => knd gl q v != 0) && (kind != 4 || (!(proc.toList == [109, 97, 105, 110]) && ps.any (isT proc))))) := Lib.hid rfl
 have hok := hkind
 unfold i64 at hok
 have hLn := hn
 clear h hn hI hl hx ha hth hel hid hkind hnm hproc hg hps hnq hpp hvv hbb hee
 generalize varsS (.mk id kind labels nm proc x has args th el) = l at HVa HR hLn
 simp only [List.toArray] at HVa ⊢
 have HLn := Lib.hid hLn
 clear hLn
 go_enter Tryz.func95, Tryz.ntmps95
 go_upto_region 1 with fail
 have HBc : Hid (Blk ((W.alloc (.cells #[.slice Ag gl.length cg, .slice As ps.length cs', .string q.nm, .slice Ap q.params.length cp, .slice Av q.vars.length cv, .slice Ab q.body.length cb, .slice Ae q.end_.length ce] 82)).alloc (.cells #[.int .i64 id, .int .i64 kind, .slice L labels.length lc, .string nm, .string proc, .int .i64 x0, .int .i64 x1, .string x2, .slice X xn xc, .bool has, .slice R args.length rc, .slice T th.length tc, .slice U el.length uc] 49)) W.heap.size 82 #[.slice Ag gl.length cg, .slice As ps.length cs', .string q.nm, .slice Ap q.params.length cp, .slice Av q.vars.length cv, .slice Ab q.body.length cb, .slice Ae q.end_.length ce]) := Lib.hid ((Blk.new _ _ _).alloc _)
 have HBs : Hid (Blk ((W.alloc (.cells #[.slice Ag gl.length cg, .slice As ps.length cs', .string q.nm, .slice Ap q.params.length cp, .slice Av q.vars.length cv, .slice Ab q.body.length cb, .slice Ae q.end_.length ce] 82)).alloc (.cells #[.int .i64 id, .int .i64 kind, .slice L labels.length lc, .string nm, .string proc, .int .i64 x0, .int .i64 x1, .string x2, .slice X xn xc, .bool has, .slice R args.length rc, .slice T th.length tc, .slice U el.length uc] 49)) (W.heap.size + 1) 49 #[.int .i64 id, .int .i64 kind, .slice L labels.length lc, .string nm, .string proc, .int .i64 x0, .int .i64 x1, .string x2, .slice X xn xc, .bool has, .slice R args.length rc, .slice T th.length tc, .slice U el.length uc]) := Lib.hid (by have := Blk.new (W.alloc (.cells #[.slice Ag gl.length cg, .slice As ps.length cs', .string q.nm, .slice Ap q.params.length cp, .slice Av q.vars.length cv, .slice Ab q.body.length cb, .slice Ae q.end_.length ce] 82)) 49 #[.int .i64 id, .int .i64 kind, .slice L labels.length lc, .string nm, .string proc, .int .i64 x0, .int .i64 x1, .string x2, .slice X xn xc, .bool has, .slice R args.length rc, .slice T th.length tc, .slice U el.length uc]; rw [World.size_alloc] at this; exact this)
 have HB0 : Hid (Below W.heap.size W ((W.alloc (.cells #[.slice Ag gl.length cg, .slice As ps.length cs', .string q.nm, .slice Ap q.params.length cp, .slice Av q.vars.length cv, .slice Ab q.body.length cb, .slice Ae q.end_.length ce] 82)).alloc (.cells #[.int .i64 id, .int .i64 kind, .slice L labels.length lc, .string nm, .string proc, .int .i64 x0, .int .i64 x1, .string x2, .slice X xn xc, .bool has, .slice R args.length rc, .slice T th.length tc, .slice U el.length uc] 49))) := Lib.hid (below_stepA (below_box _) _)
 generalize World.alloc _ _ = V at HBc HBs HB0 ⊢
 have HI0 := Lib.hid (HI.out.on HB0.out)
 have hbc := HBc.out.lt
 have hbs := HBs.out.lt
 generalize hb1 : W.heap.size + 1 = b1 at *
 generalize W.heap.size = b at HBc HBs hbc hbs ⊢
 have q0 : V.cell? ⟨b1, 0, none⟩ = some (.int .i64 id) := by rw [HBs.out.cell]; rfl
 have q1 : V.cell? ⟨b1, 1, none⟩ = some (.int .i64 kind) := by rw [HBs.out.cell]; rfl
 have q2 : V.cell? ⟨b1, 2, none⟩ = some (.slice L labels.length lc) := by rw [HBs.out.cell]; rfl
 have q3 : V.cell? ⟨b1, 3, none⟩ = some (.string nm) := by rw [HBs.out.cell]; rfl
 have q4 : V.cell? ⟨b1, 4, none⟩ = some (.string proc) := by rw [HBs.out.cell]; rfl
 have q5 : V.cell? ⟨b1, 5, none⟩ = some (.int .i64 x0) := by rw [HBs.out.cell]; rfl
 have q6 : V.cell? ⟨b1, 6, none⟩ = some (.int .i64 x1) := by rw [HBs.out.cell]; rfl
 have q7 : V.cell? ⟨b1, 7, none⟩ = some (.string x2) := by rw [HBs.out.cell]; rfl
 have q8 : V.cell? ⟨b1, 8, none⟩ = some (.slice X xn xc) := by rw [HBs.out.cell]; rfl
 have q9 : V.cell? ⟨b1, 9, none⟩ = some (.bool has) := by rw [HBs.out.cell]; rfl
 have q10 : V.cell? ⟨b1, 10, none⟩ = some (.slice R args.length rc) := by rw [HBs.out.cell]; rfl
 have q11 : V.cell? ⟨b1, 11, none⟩ = some (.slice T th.length tc) := by rw [HBs.out.cell]; rfl
 have q12 : V.cell? ⟨b1, 12, none⟩ = some (.slice U el.length uc) := by rw [HBs.out.cell]; rfl
 go_upto_region 2 with (go_at_call 117; refine (HVa.out V HI0.out).mono ?_; rintro e w1 ⟨v1, rfl, ho1, hbb1⟩; obtain ⟨X1, k1, rfl, _, _⟩ := own_shape ho1)
 have HO1 := Lib.hid ho1
 have HB1 := Lib.hid hbb1
 clear q0 q1 q2 q3 q4 q5 q6 q7 q8 q9 q10 q11 q12 ho1 hbb1 HVa
 go_loopw [10] (fun iv wr => ∃ (k : Nat), k ≤ l.length ∧ iv = .int .i64 k ∧ Hid (Below V.heap.size V wr) ∧ Hid (wr.ownsRow V.heap.size 9 1 (.slice X1 l.length k1) l.length (strs l)) ∧ Hid ((l.drop k).all (fun v => knd gl q v != 0) = l.all (fun v => knd gl q v != 0))) (fun iv _ => l.length - (intOf iv).toNat)
 case atStart => exact ⟨0, Nat.zero_le _, rfl, HB1, HO1, Lib.hid rfl⟩
 case round =>
  clear HB1 HO1
  obtain ⟨k, hk, rfl, HBr, HOr, HA⟩ := hrel
  have HIr := Lib.hid (HI0.out.on HBr.out)
  have HBcr := Lib.hid (HBc.out.below HBr.out hbc)
  have HBsr := Lib.hid (HBs.out.below HBr.out hbs)
  have z0 : wr.cell? ⟨b, 0, none⟩ = some (.slice Ag gl.length cg) := by rw [HBcr.out.cell]; rfl
  have z1 : wr.cell? ⟨b, 1, none⟩ = some (.slice As ps.length cs') := by rw [HBcr.out.cell]; rfl
  by_cases hlt : k < l.length
  ·obtain ⟨g, cap, he, hcl, _, _⟩ := own_at HOr.out hlt
   injection he with h1 _ h3
   subst h1 h3
   have p := hcl (.string l[k]) (by simp [strs, List.getElem?_map, List.getElem?_eq_getElem hlt])
   have HAk : Hid ((l.drop k).all (fun v => knd gl q v != 0) = ((knd gl q l[k] != 0) && (l.drop (k + 1)).all (fun v => knd gl q v != 0))) := Lib.hid (by rw [List.drop_eq_getElem_cons hlt, List.all_cons])
   rw [HA.out] at HAk
   have HK := Lib.hid (HKi.out l[k] wr HIr.out)
   generalize l[k] = t at p HK HAk
   generalize knd gl q t = z at HK HAk
   have z2 : wr.cell? ⟨b, 2, none⟩ = some (.string q.nm) := by rw [HBcr.out.cell]; rfl
   have z3 : wr.cell? ⟨b, 3, none⟩ = some (.slice Ap q.params.length cp) := by rw [HBcr.out.cell]; rfl
   have z4 : wr.cell? ⟨b, 4, none⟩ = some (.slice Av q.vars.length cv) := by rw [HBcr.out.cell]; rfl
   have z5 : wr.cell? ⟨b, 5, none⟩ = some (.slice Ab q.body.length cb) := by rw [HBcr.out.cell]; rfl
   have z6 : wr.cell? ⟨b, 6, none⟩ = some (.slice Ae q.end_.length ce) := by rw [HBcr.out.cell]; rfl
   clear hcl
   by_cases hz : z = 0
   ·subst hz
    go_wp2_with (go_at_call 118; refine HK.out.mono ?_; rintro e w2 ⟨rfl, hb2⟩)
    go_ret
    exact ⟨ret_bool (by rw [HR.out, HAk.out]; rfl), below_step HB0.out (below_step HBr.out hb2)⟩
   ·have hz1 : (z == 0) = false := beq_eq_false_iff_ne.2 hz
    have HAn : Hid (l.all (fun v => knd gl q v != 0) = (l.drop (k + 1)).all (fun v => knd gl q v != 0)) := Lib.hid (by rw [HAk.out, bne, hz1]; rfl)
    clear hz HAk
    go_wp2_with (go_at_call 118; refine HK.out.mono ?_; rintro e w2 ⟨rfl, hb2⟩; have HB2 := Lib.hid (below_step HBr.out hb2); have HO2 := Lib.hid ((Below.moves hb2).row HOr.out (fun j hj e => Nat.not_lt.2 e (HOr.out.lt j hj).2)); clear hb2)
    go_roundw
    case rel => exact ⟨k + 1, by omega, by go_num, HB2, HO2, Lib.hid HAn.out.symm⟩
    case measure => simp [intOf]; omega
  ·have HAe : Hid (l.all (fun v => knd gl q v != 0) = true) := Lib.hid (by rw [← HA.out, List.drop_of_length_le (by omega)]; rfl)
   rw [HAe.out, Bool.true_and] at HR
   have y1 : wr.cell? ⟨b1, 1, none⟩ = some (.int .i64 kind) := by rw [HBsr.out.cell]; rfl
   have y4 : wr.cell? ⟨b1, 4, none⟩ = some (.string proc) := by rw [HBsr.out.cell]; rfl
   have HC := Lib.hid (HCo.out proc wr HIr.out)
   generalize ps.any (isT proc) = z at HC HR
   clear HAe HA
   by_cases hk4 : kind = 4
   ·subst hk4
    cases hm : proc.toList == [109, 97, 105, 110] with
    | true =>
     rw [hm] at HR
     go_wp2_with fail
     go_ret
     exact ⟨ret_bool (by rw [HR.out]; rfl), below_step HB0.out HBr.out⟩
    | false =>
     rw [hm] at HR
     go_wp2_with (go_at_call 94; refine HC.out.mono ?_; rintro e w' ⟨rfl, rfl⟩)
     go_ret
     exact ⟨ret_bool (by rw [HR.out]; rfl), below_step HB0.out HBr.out⟩
   ·have hk5 : (kind == 4) = false := beq_eq_false_iff_ne.2 hk4
    have HR2 : Hid (rightS gl q ps (.mk id kind labels nm proc x has args th el) = true) := Lib.hid (by rw [HR.out, bne, hk5]; rfl)
    have hk6 : (kind != 4) = true := by simp [bne, hk5]
    clear hk4 HR
    go_wp2_with fail
    go_ret
    exact ⟨ret_bool HR2.out.symm, below_step HB0.out HBr.out⟩
end Go.Proofs.YtimejkbmfbjomaaGreat
