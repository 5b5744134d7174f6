/- Texts, merged by a program; only what is used. -/
import Derived.Test.YtimejkbmfbjomaaGreatKX1
import Derived.Test.YtimejkbmfbjomaaGreatKX2
import Derived.Test.YtimejkbmfbjomaaGreatKX3
import Derived.Test.YtimejkbmfbjomaaGreatKX4
import Derived.Test.YtimejkbmfbjomaaGreatKX5
import Derived.Test.YtimejkbmfbjomaaGreatKX6
import Derived.Test.YtimejkbmfbjomaaGreatKX7
import Derived.Test.YtimejkbmfbjomaaGreatKX8
import Derived.Test.YtimejkbmfbjomaaGreatKX9
import Derived.Test.YtimejkbmfbjomaaGreatKX10
import Derived.Test.YtimejkbmfbjomaaGreatKX11
import Derived.Test.YtimejkbmfbjomaaGreatKX12
import Derived.Test.YtimejkbmfbjomaaGreatKX13
import Derived.Test.YtimejkbmfbjomaaGreatKX14
import Derived.Test.YtimejkbmfbjomaaGreatKX15
import Derived.Test.YtimejkbmfbjomaaGreatKX16
import Derived.Test.YtimejkbmfbjomaaGreatKX17
import Derived.Test.YtimejkbmfbjomaaGreatKX18
import Derived.Test.YtimejkbmfbjomaaGreatKX19
import Derived.Test.YtimejkbmfbjomaaGreatKX20
import Derived.Test.YtimejkbmfbjomaaGreatKX21
import Derived.Test.YtimejkbmfbjomaaGreatKX22
import Derived.Test.YtimejkbmfbjomaaGreatKX23
namespace Go.Proofs.YtimejkbmfbjomaaGreat
open Go.ChangeShapes Go.WideShapes Go.ChangeAt Go.RowKit Go.Deep
set_option linter.unusedVariables false
set_option linter.unusedSimpArgs false
set_option maxHeartbeats 4000000 in
set_option maxRecDepth 100000 in
theorem rSaid_any {w : World} {Q : Nat → Prop} {s : S} {cs : List Value} (h : StmtI w Q s cs) (hn : (saidS s).length ≤ 1000000) (W : World) (hI : In Q w W) :
 Calls Tryz.prog 21 #[.agg cs.toArray] W (NewRow (saidS s) W) := by
 obtain ⟨id, kind, labels, nm, proc, x, has, args, th, el, L, lc, x0, x1, x2, X, xn, xc, R, rc, T, tc, U, uc, rfl, rfl, hid, hkind, hnm, hproc, hl, hx, ha, hth, hel⟩ := stmt_open h
 have HNa := Lib.hid (fun V hV => rNames_any hx V hV)
 have HNs := Lib.hid (namesE_small hx)
 have HA := Lib.hid ha
 have HI := Lib.hid hI
 have HV : Hid (saidS (.mk id kind labels nm proc x has args th el) = ownV kind nm ++ namesE x ++ args.flatMap saidV) := Lib.hid rfl
 have HN : Hid ((ownV kind nm).length + (namesE x).length + (args.flatMap saidV).length ≤ 1000000) := Lib.hid (by rw [HV.out] at hn; simp only [List.length_append] at hn; exact hn)
 have hok := hkind
 unfold i64 at hok
 obtain ⟨i0, hi0, hz0, hz1, hz2⟩ := info_parts string_info
 obtain ⟨_, har, hrc, _⟩ := slice_len ha
 clear h hn hI hl hx ha hth hel hid hkind hnm hproc
 simp only [List.toArray]
 go_enter Tryz.func21, Tryz.ntmps21
 go_upto_region 1 with fail
 have HBp : Hid (Blk (W.alloc (.cells #[.int .i64 id, .int .i64 kind, .slice L labels.length lc, .string nm, .string proc, .int .i64 x0, .int .i64 x1, .string x2, .slice X xn xc, .bool has, .slice R args.length rc, .slice T th.length tc, .slice U el.length uc] 49)) W.heap.size 49 #[.int .i64 id, .int .i64 kind, .slice L labels.length lc, .string nm, .string proc, .int .i64 x0, .int .i64 x1, .string x2, .slice X xn xc, .bool has, .slice R args.length rc, .slice T th.length tc, .slice U el.length uc]) := Lib.hid (Blk.new _ _ _)
 have HB0 : Hid (Below W.heap.size W (W.alloc (.cells #[.int .i64 id, .int .i64 kind, .slice L labels.length lc, .string nm, .string proc, .int .i64 x0, .int .i64 x1, .string x2, .slice X xn xc, .bool has, .slice R args.length rc, .slice T th.length tc, .slice U el.length uc] 49))) := Lib.hid (below_box _)
 generalize World.alloc _ _ = V at HBp HB0 ⊢
 generalize W.heap.size = b at HBp ⊢
 have HI0 := Lib.hid (HI.out.on HB0.out)
 have hbl := HBp.out.lt
 have q1 : V.cell? ⟨b, 1, none⟩ = some (.int .i64 kind) := by rw [HBp.out.cell]; rfl
 have q3 : V.cell? ⟨b, 3, none⟩ = some (.string nm) := by rw [HBp.out.cell]; rfl
 go_upto_region 2 with fail
 obtain ⟨bb, hbb⟩ : ∃ bb, bb = (!nm.toList.isEmpty && kind != 10) := ⟨_, rfl⟩
 have HK : Hid (ownV kind nm = if bb = true then [nm] else []) := Lib.hid (by rw [hbb]; rfl)
 have Hbb := Lib.hid hbb
 clear hbb
 go_cut [13] from 6 to 12 (fun s wx => s = .bool bb ∧ wx = V)
 case first =>
  cases he : nm.toList.isEmpty with
  | true =>
   have he2 : (nm.toList == []) = true := by simpa using he
   have H2 : Hid (bb = false) := Lib.hid (by rw [Hbb.out, he]; rfl)
   go_wp2_with fail
   go_meet
   exact ⟨by rw [H2.out]; try rfl, rfl⟩
  | false =>
   have he2 : (nm.toList == []) = false := by simpa using he
   have H2 : Hid (bb = (kind != 10)) := Lib.hid (by rw [Hbb.out, he]; rfl)
   go_wp2_with fail
   go_meet
   exact ⟨by rw [H2.out]; try rfl, rfl⟩
 case rest =>
 obtain ⟨rfl, hw⟩ := hcut
 replace hw := hw.symm
 subst hw
 go_upto_if 13 with fail
 have HLn : Hid ((ownV kind nm).length ≤ 1) := Lib.hid (by unfold ownV; split <;> simp)
 go_cut [3] from 14 to 18 (fun s wx => ∃ (X2 : Option Addr) (k2 : Nat), s = .slice X2 (ownV kind nm).length k2 ∧ Hid (NmI V wx (ownV kind nm) X2 (ownV kind nm).length k2))
 case first =>
  have HO1a : Hid ((V.alloc (.cells #[.string nm] 9)).ownsRow V.heap.size 9 1 (.slice none 0 0) 0 (strs [])) := Lib.hid (World.ownsRow_nil _ _ _ _)
  have HB1a : Hid (Below V.heap.size V (V.alloc (.cells #[.string nm] 9))) := Lib.hid (below_box _)
  have HW := Lib.hid (new_one V nm)
  cases bb with
  | false =>
   have HK2 : Hid (ownV kind nm = []) := Lib.hid (by rw [HK.out]; rfl)
   go_wp2_with fail
   go_meet
   exact ⟨none, 0, by rw [HK2.out]; rfl, Lib.hid (by rw [HK2.out]; exact ⟨World.ownsRow_nil _ _ _ _, Below.refl _ _⟩)⟩
  | true =>
   have HK2 : Hid (ownV kind nm = [nm]) := Lib.hid (by rw [HK.out]; rfl)
   go_wp2_with (at_builtin; refine wpList_append_own_at _ rfl (.tmp 14) (.tmp 17) 22 rfl V.heap.size 9 i0 _ 1 16 Tryz.underlying22 hi0 hz0 hz1 hz2 rfl (by decide) _ 0 (strs []) rfl HO1a.out ⟨V.heap.size, 0, none⟩ 1 1 [.string nm] rfl rfl HW.out (by simp [Value.oneCell']) (by unfold maxLen; omega) (by omega) HB1a.out.size ?_; intro v6 w6 hown6 hg6 _ hat6; obtain ⟨X6, k6, rfl, _, _⟩ := own_shape hown6; have HO6 := Lib.hid hown6; have HG6 := Lib.hid hg6; clear hown6 hg6 hat6)
   go_meet
   exact ⟨X6, k6, by rw [HK2.out]; rfl, Lib.hid (by rw [HK2.out]; exact ⟨HO6.out, HB1a.out.grown HG6.out HB1a.out.size (fun j hj => (HO1a.out.lt j hj).1)⟩)⟩
 case rest =>
  obtain ⟨X1, k1, rfl, HS1⟩ := hcut
  clear q1 q3
  have HBp1 := Lib.hid (HBp.out.below HS1.out.below hbl)
  have HI1 := Lib.hid (HI0.out.on HS1.out.below)
  have q5 : wc.cell? ⟨b, 5, none⟩ = some (.int .i64 x0) := by rw [HBp1.out.cell]; rfl
  have q6 : wc.cell? ⟨b, 6, none⟩ = some (.int .i64 x1) := by rw [HBp1.out.cell]; rfl
  have q7 : wc.cell? ⟨b, 7, none⟩ = some (.string x2) := by rw [HBp1.out.cell]; rfl
  have q8 : wc.cell? ⟨b, 8, none⟩ = some (.slice X xn xc) := by rw [HBp1.out.cell]; rfl
  have HNn : Hid ((ownV kind nm).length + (namesE x).length ≤ 1000000) := Lib.hid (by have := HN.out; omega)
  go_upto_region 5 with (first
   | (go_at_call 59; refine (HNa.out wc HI1.out).mono ?_; rintro e w5 ⟨v5, rfl, ho5, hb5⟩; obtain ⟨X5, k5, rfl, _, _⟩ := own_shape ho5; have HT5 := Lib.hid (new_small HNs.out ho5); have HO5 : Hid (w5.ownsRow V.heap.size 9 1 (.slice X1 (ownV kind nm).length k1) (ownV kind nm).length (strs (ownV kind nm))) := Lib.hid ((Below.moves hb5).row HS1.out.row (fun j hj e => Nat.not_lt.2 e (HS1.out.row.lt j hj).2)); have HB5 := Lib.hid (below_step HS1.out.below hb5); clear ho5 hb5)
   | (at_builtin; refine wpList_append_texts rfl (.tmp 19) (.tmp 22) 22 rfl V.heap.size 9 i0 _ Tryz.underlying22 hi0 hz0 hz1 hz2 rfl _ (ownV kind nm).length (strs (ownV kind nm)) rfl HO5.out w5 (nw wc w5) X5 (namesE x) (namesE x).length k5 rfl rfl HT5.out ⟨fun j h => h.2, fun _ _ => rfl⟩ HNn.out HB5.out.size ?_; intro v6 w6 hown6 hg6; obtain ⟨X2, k2, rfl, _, _⟩ := own_shape hown6; have HO6 := Lib.hid hown6; have HG6 := Lib.hid hg6; clear hown6 hg6))
  have HS2 : Hid (NmI V w6 (ownV kind nm ++ namesE x) X2 ((ownV kind nm).length + (namesE x).length) k2) := Lib.hid ⟨by rw [strs_append]; exact HO6.out, HB5.out.grown HG6.out HB5.out.size (fun j hj => (HO5.out.lt j hj).1)⟩
  clear q5 q6 q7 q8 HNa HO5 HO6 HG6 HT5 HB5 HS1 HBp1 HI1 HNn
  have hl0 : (ownV kind nm).length + (namesE x).length = (ownV kind nm ++ namesE x).length := (List.length_append).symm
  have HN2 : Hid ((ownV kind nm ++ namesE x).length + (args.flatMap saidV).length ≤ 1000000) := Lib.hid (by have := HN.out; simp only [List.length_append]; omega)
  rw [hl0] at HS2 ⊢
  clear hl0 HN
  generalize ownV kind nm ++ namesE x = l0 at HS2 HV HN2 ⊢
  have HBp2 := Lib.hid (HBp.out.below HS2.out.below hbl)
  have q10 : w6.cell? ⟨b, 10, none⟩ = some (.slice R args.length rc) := by rw [HBp2.out.cell]; rfl
  go_upto_region 6 with fail
  clear q10 HBp2
  go_loopg [3, 27] args.length (fun kk ov iv wr => ∃ (k : Nat) (Xr : Option Addr) (n c : Nat), k + kk = args.length ∧ iv = .int .i64 k ∧ ov = .slice Xr n c ∧ n = (l0 ++ (args.take k).flatMap saidV).length ∧ Hid (NmI V wr (l0 ++ (args.take k).flatMap saidV) Xr n c))
  case atStart => exact ⟨0, X2, _, k2, by omega, rfl, rfl, by simp, Lib.hid (by simpa using HS2.out)⟩
  case round =>
   clear HS2
   obtain ⟨k, Xr, n, c, hk, rfl, rfl, hnl, HR⟩ := hrel
   have HIr := Lib.hid (HI0.out.on HR.out.below)
   by_cases hlt : k < args.length
   ·obtain ⟨a, o1, n1, s1, A1, l1, k1, rfl, _, ⟨p0, p1, p2, p3, p4, p5, _⟩, hs, hxa⟩ := arg_at HA.out HIr.out hlt
    have HC := Lib.hid (fun V hV => rNames_any hxa V hV)
    have HCs := Lib.hid (namesE_small hxa)
    have HT : Hid ((args.take (k + 1)).flatMap saidV = (args.take k).flatMap saidV ++ saidV args[k]) := Lib.hid (flat_take hlt)
    have HNk : Hid (n + (saidV args[k]).length ≤ 1000000) := Lib.hid (by
     have h1 := flat_take_le (f := saidV) (l := args) (k := k + 1)
     rw [HT.out] at h1
     have h2 := HN2.out
     rw [hnl]
     simp only [List.length_append] at h1 ⊢
     omega)
    have HLk : Hid (n = (l0 ++ (args.take k).flatMap saidV).length) := Lib.hid hnl
    generalize (args.take k).flatMap saidV = pre at HR HT HLk
    have HV2 : Hid (saidV args[k] = (if args[k].ref = true then [args[k].nm] else []) ++ namesE args[k].x) := Lib.hid rfl
    generalize args[k] = y at p0 p1 hs HC HCs HT HNk HV2
    obtain ⟨xr, xnm, xx⟩ := y
    simp only at p0 p1 hs HV2
    clear hnl
    go_upto_region 8 with fail
    have HBx : Hid (Blk (wr.alloc (.cells #[.bool xr, .string xnm, .int .i64 o1, .int .i64 n1, .string s1, .slice A1 l1 k1] 61)) wr.heap.size 61 #[.bool xr, .string xnm, .int .i64 o1, .int .i64 n1, .string s1, .slice A1 l1 k1]) := Lib.hid (Blk.new _ _ _)
    have HO4 : Hid ((wr.alloc (.cells #[.bool xr, .string xnm, .int .i64 o1, .int .i64 n1, .string s1, .slice A1 l1 k1] 61)).ownsRow V.heap.size 9 1 (.slice Xr n c) n (strs (l0 ++ pre))) := Lib.hid (HR.out.row.alloc _)
    have HB4 : Hid (Below V.heap.size V (wr.alloc (.cells #[.bool xr, .string xnm, .int .i64 o1, .int .i64 n1, .string s1, .slice A1 l1 k1] 61))) := Lib.hid (below_stepA HR.out.below _)
    have HI4 : Hid (In Q w (wr.alloc (.cells #[.bool xr, .string xnm, .int .i64 o1, .int .i64 n1, .string s1, .slice A1 l1 k1] 61))) := Lib.hid (HIr.out.alloc _)
    clear p0 p1 p2 p3 p4 p5
    generalize World.alloc wr _ = V4 at HBx HO4 HB4 HI4 ⊢
    generalize wr.heap.size = bx at HBx ⊢
    have z0 : V4.cell? ⟨bx, 0, none⟩ = some (.bool xr) := by rw [HBx.out.cell]; rfl
    have z1 : V4.cell? ⟨bx, 1, none⟩ = some (.string xnm) := by rw [HBx.out.cell]; rfl
    have z2 : V4.cell? ⟨bx, 2, none⟩ = some (.int .i64 o1) := by rw [HBx.out.cell]; rfl
    have z3 : V4.cell? ⟨bx, 3, none⟩ = some (.int .i64 n1) := by rw [HBx.out.cell]; rfl
    have z4 : V4.cell? ⟨bx, 4, none⟩ = some (.string s1) := by rw [HBx.out.cell]; rfl
    have z5 : V4.cell? ⟨bx, 5, none⟩ = some (.slice A1 l1 k1) := by rw [HBx.out.cell]; rfl
    obtain ⟨rp, hrp⟩ : ∃ rp : List ByteArray, rp = if xr = true then [xnm] else [] := ⟨_, rfl⟩
    rw [← hrp] at HV2
    rw [HV2.out] at HT HNk
    have HRp := Lib.hid hrp
    have HN1 : Hid (n + rp.length + (namesE xx).length ≤ 1000000) := Lib.hid (by have := HNk.out; rw [List.length_append] at this; omega)
    have HRl : Hid (n + rp.length ≤ 1000001) := Lib.hid (by have := HN1.out; omega)
    clear hrp
    have hxl := HBx.out.lt
    go_upto_if 32 with fail
    go_cut [3] from 33 to 37 (fun s wx => ∃ (X2 : Option Addr) (k2 : Nat), s = .slice X2 (n + rp.length) k2 ∧ Hid (wx.ownsRow V.heap.size 9 1 (.slice X2 (n + rp.length) k2) (n + rp.length) (strs (l0 ++ pre ++ rp))) ∧ Hid (V4.grownBy wx (Value.slice Xr n c).ownBlock))
    case first =>
     cases xr with
     | false =>
      have HK2 : Hid (rp = []) := Lib.hid HRp.out
      go_wp2_with fail
      go_meet
      exact ⟨Xr, c, by rw [HK2.out]; rfl, Lib.hid (by rw [HK2.out, List.append_nil]; exact HO4.out), Lib.hid (World.grownBy.refl _ _)⟩
     | true =>
      have HK2 : Hid (rp = [xnm]) := Lib.hid HRp.out
      have hn1 : n + 1 ≤ 1000001 := by have := HRl.out; rw [HK2.out] at this; exact this
      have HW := Lib.hid (new_one V4 xnm)
      have HO5 : Hid ((V4.alloc (.cells #[.string xnm] 9)).ownsRow V.heap.size 9 1 (.slice Xr n c) n (strs (l0 ++ pre))) := Lib.hid (HO4.out.alloc _)
      have HB5 : Hid (Below V.heap.size V (V4.alloc (.cells #[.string xnm] 9))) := Lib.hid (below_stepA HB4.out _)
      go_wp2_with (at_builtin; refine wpList_append_own_at _ rfl (.tmp 33) (.tmp 36) 22 rfl V.heap.size 9 i0 _ 1 16 Tryz.underlying22 hi0 hz0 hz1 hz2 rfl (by decide) _ n (strs (l0 ++ pre)) rfl HO5.out ⟨V4.heap.size, 0, none⟩ 1 1 [.string xnm] rfl rfl HW.out (by simp [Value.oneCell']) (by unfold maxLen; omega) (by omega) HB5.out.size ?_; intro v6 w7 hown6 hg6 _ hat6; obtain ⟨X6, k6, rfl, _, _⟩ := own_shape hown6; have HO6 := Lib.hid hown6; have HG6 := Lib.hid hg6; clear hown6 hg6 hat6)
      go_meet
      exact ⟨X6, k6, by rw [HK2.out]; rfl, Lib.hid (by rw [HK2.out, strs_append]; exact HO6.out), Lib.hid (grown_box HG6.out)⟩
    case rest =>
     obtain ⟨X7, k7, rfl, HO7, HG7⟩ := hcut
     have HB7 : Hid (Below V.heap.size V wc) := Lib.hid (HB4.out.grown HG7.out HB4.out.size (fun j hj => (HO4.out.lt j hj).1))
     have HI7 := Lib.hid (HI0.out.on HB7.out)
     have HBx7 : Hid (Blk wc bx 61 #[.bool xr, .string xnm, .int .i64 o1, .int .i64 n1, .string s1, .slice A1 l1 k1]) := Lib.hid (HBx.out.grown HG7.out (fun e => own_blk_ne HO4.out HBx.out (by decide) e.symm))
     clear z0 z1 z2 z3 z4 z5 HO4 HB4 HI4 HBx HG7
     have z2 : wc.cell? ⟨bx, 2, none⟩ = some (.int .i64 o1) := by rw [HBx7.out.cell]; rfl
     have z3 : wc.cell? ⟨bx, 3, none⟩ = some (.int .i64 n1) := by rw [HBx7.out.cell]; rfl
     have z4 : wc.cell? ⟨bx, 4, none⟩ = some (.string s1) := by rw [HBx7.out.cell]; rfl
     have z5 : wc.cell? ⟨bx, 5, none⟩ = some (.slice A1 l1 k1) := by rw [HBx7.out.cell]; rfl
     go_wp2_with (first
      | (go_at_call 59; refine (HC.out wc HI7.out).mono ?_; rintro e w8 ⟨v8, rfl, ho8, hb8⟩; obtain ⟨X8, k8, rfl, _, _⟩ := own_shape ho8; have HT8 := Lib.hid (new_small HCs.out ho8); have HO8 : Hid (w8.ownsRow V.heap.size 9 1 (.slice X7 (n + rp.length) k7) (n + rp.length) (strs (l0 ++ pre ++ rp))) := Lib.hid ((Below.moves hb8).row HO7.out (fun j hj e => Nat.not_lt.2 e (HO7.out.lt j hj).2)); have HB8 := Lib.hid (below_step HB7.out hb8); clear ho8 hb8)
      | (at_builtin; refine wpList_append_texts rfl (.tmp 38) (.tmp 41) 22 rfl V.heap.size 9 i0 _ Tryz.underlying22 hi0 hz0 hz1 hz2 rfl _ (n + rp.length) (strs (l0 ++ pre ++ rp)) rfl HO8.out w8 (nw wc w8) X8 (namesE xx) (namesE xx).length k8 rfl rfl HT8.out ⟨fun j h => h.2, fun _ _ => rfl⟩ HN1.out HB8.out.size ?_; intro v9 w9 hown9 hg9; obtain ⟨X9, k9, rfl, _, _⟩ := own_shape hown9; have HO9 := Lib.hid hown9; have HG9 := Lib.hid hg9; clear hown9 hg9))
     have HS : Hid (NmI V w9 (l0 ++ (args.take (k + 1)).flatMap saidV) X9 (n + rp.length + (namesE xx).length) k9) := Lib.hid ⟨by rw [HT.out, ← List.append_assoc, ← List.append_assoc, strs_append]; exact HO9.out, HB8.out.grown HG9.out HB8.out.size (fun j hj => (HO8.out.lt j hj).1)⟩
     go_roundg (args.length - k - 1)
     case measure => omega
     case rel => exact ⟨k + 1, X9, _, k9, by omega, by go_num, rfl, by rw [HT.out, ← List.append_assoc, ← List.append_assoc, List.length_append, List.length_append, ← HLk.out], HS⟩
   ·have hke : k = args.length := by omega
    subst hke
    go_wp2_with fail
    go_ret
    refine ⟨_, rfl, own_lower ?_ HB0.out.size, below_step HB0.out HR.out.below⟩
    have h := HR.out.row
    rw [List.take_length] at h hnl
    rw [HV.out]
    rw [hnl] at h ⊢
    exact h
end Go.Proofs.YtimejkbmfbjomaaGreat
namespace Go.Proofs.YtimejkbmfbjomaaGreat
open Go.ChangeShapes Go.WideShapes Go.ChangeAt Go.RowKit Go.Deep
set_option linter.unusedVariables false
set_option linter.unusedSimpArgs false
def refV (a : Ar) : List ByteArray := if a.ref = true then [a.nm] else []
def refsOf (args : List Ar) : List ByteArray := args.flatMap refV
theorem refsOf_len (args : List Ar) : (refsOf args).length ≤ args.length := by
 induction args with
 | nil => simp [refsOf]
 | cons a l ih =>
  have e : refsOf (a :: l) = refV a ++ refsOf l := rfl
  have h : (refV a).length ≤ 1 := by unfold refV; split <;> simp
  rw [e, List.length_append, List.length_cons]
  omega
set_option maxHeartbeats 4000000 in
set_option maxRecDepth 100000 in
theorem handedIn_any {w : World} {Q : Nat → Prop} {s : S} {cs : List Value} (h : StmtI w Q s cs) (hn : s.args.length ≤ 1000000) (W : World) (hI : In Q w W) :
 Calls Tryz.prog 106 #[.agg cs.toArray] W (NewRow (refsOf s.args) W) := by
 obtain ⟨id, kind, labels, nm, proc, x, has, args, th, el, L, lc, x0, x1, x2, X, xn, xc, R, rc, T, tc, U, uc, rfl, rfl, hid, hkind, hnm, hproc, hl, hx, ha, hth, hel⟩ := stmt_open h
 have HA := Lib.hid ha
 have HI := Lib.hid hI
 have HN : Hid ((refsOf args).length ≤ 1000000) := Lib.hid (Nat.le_trans (refsOf_len args) hn)
 have hok := hkind
 unfold i64 at hok
 obtain ⟨i0, hi0, hz0, hz1, hz2⟩ := info_parts string_info
 obtain ⟨_, har, hrc, _⟩ := slice_len ha
 clear h hn hI hl hx ha hth hel hid hkind hnm hproc
 simp only [List.toArray]
 show Calls _ _ _ _ (NewRow (refsOf args) W)
 go_enter Tryz.func106, Tryz.ntmps106
 go_upto_region 1 with fail
 have HBp : Hid (Blk (W.alloc (.cells #[.int .i64 id, .int .i64 kind, .slice L labels.length lc, .string nm, .string proc, .int .i64 x0, .int .i64 x1, .string x2, .slice X xn xc, .bool has, .slice R args.length rc, .slice T th.length tc, .slice U el.length uc] 49)) W.heap.size 49 #[.int .i64 id, .int .i64 kind, .slice L labels.length lc, .string nm, .string proc, .int .i64 x0, .int .i64 x1, .string x2, .slice X xn xc, .bool has, .slice R args.length rc, .slice T th.length tc, .slice U el.length uc]) := Lib.hid (Blk.new _ _ _)
 have HB0 : Hid (Below W.heap.size W (W.alloc (.cells #[.int .i64 id, .int .i64 kind, .slice L labels.length lc, .string nm, .string proc, .int .i64 x0, .int .i64 x1, .string x2, .slice X xn xc, .bool has, .slice R args.length rc, .slice T th.length tc, .slice U el.length uc] 49))) := Lib.hid (below_box _)
 generalize World.alloc _ _ = V at HBp HB0 ⊢
 generalize W.heap.size = b at HBp ⊢
 have HI0 := Lib.hid (HI.out.on HB0.out)
 have hbl := HBp.out.lt
 have q10 : V.cell? ⟨b, 10, none⟩ = some (.slice R args.length rc) := by rw [HBp.out.cell]; rfl
 go_upto_region 3 with fail
 clear q10
 go_loopg [3, 9] args.length (fun kk ov iv wr => ∃ (k : Nat) (Xr : Option Addr) (n c : Nat), k + kk = args.length ∧ iv = .int .i64 k ∧ ov = .slice Xr n c ∧ n = (refsOf (args.take k)).length ∧ Hid (NmI V wr (refsOf (args.take k)) Xr n c))
 case atStart => exact ⟨0, none, 0, 0, by omega, rfl, rfl, rfl, Lib.hid ⟨World.ownsRow_nil _ _ _ _, Below.refl _ _⟩⟩
 case round =>
  obtain ⟨k, Xr, n, c, hk, rfl, rfl, hnl, HR⟩ := hrel
  have HIr := Lib.hid (HI0.out.on HR.out.below)
  by_cases hlt : k < args.length
  ·obtain ⟨a, o1, n1, s1, A1, l1, k1, rfl, _, ⟨p0, p1, p2, p3, p4, p5, _⟩, hs, hxa⟩ := arg_at HA.out HIr.out hlt
   have HT : Hid (refsOf (args.take (k + 1)) = refsOf (args.take k) ++ refV args[k]) := Lib.hid (flat_take hlt)
   have HNk : Hid (n + (refV args[k]).length ≤ 1000000) := Lib.hid (by
    have h1 := flat_take_le (f := refV) (l := args) (k := k + 1)
    have h2 := HN.out
    have h3 := HT.out
    unfold refsOf at h2 h3 hnl
    rw [h3, List.length_append] at h1
    omega)
   have HLk : Hid (n = (refsOf (args.take k)).length) := Lib.hid hnl
   generalize refsOf (args.take k) = pre at HR HT HLk
   have HV2 : Hid (refV args[k] = if args[k].ref = true then [args[k].nm] else []) := Lib.hid rfl
   generalize args[k] = y at p0 p1 hs HT HNk HV2
   clear hxa hnl
   obtain ⟨xr, xnm, xx⟩ := y
   simp only at p0 p1 hs HV2
   go_upto_region 5 with fail
   have HBx : Hid (Blk (wr.alloc (.cells #[.bool xr, .string xnm, .int .i64 o1, .int .i64 n1, .string s1, .slice A1 l1 k1] 61)) wr.heap.size 61 #[.bool xr, .string xnm, .int .i64 o1, .int .i64 n1, .string s1, .slice A1 l1 k1]) := Lib.hid (Blk.new _ _ _)
   have HO4 : Hid ((wr.alloc (.cells #[.bool xr, .string xnm, .int .i64 o1, .int .i64 n1, .string s1, .slice A1 l1 k1] 61)).ownsRow V.heap.size 9 1 (.slice Xr n c) n (strs pre)) := Lib.hid (HR.out.row.alloc _)
   have HB4 : Hid (Below V.heap.size V (wr.alloc (.cells #[.bool xr, .string xnm, .int .i64 o1, .int .i64 n1, .string s1, .slice A1 l1 k1] 61))) := Lib.hid (below_stepA HR.out.below _)
   clear p0 p1 p2 p3 p4 p5 HIr HR
   generalize World.alloc wr _ = V4 at HBx HO4 HB4 ⊢
   generalize wr.heap.size = bx at HBx ⊢
   have z0 : V4.cell? ⟨bx, 0, none⟩ = some (.bool xr) := by rw [HBx.out.cell]; rfl
   have z1 : V4.cell? ⟨bx, 1, none⟩ = some (.string xnm) := by rw [HBx.out.cell]; rfl
   cases xr with
   | false =>
    have HK2 : Hid (refsOf (args.take (k + 1)) = pre) := Lib.hid (by rw [HT.out, HV2.out]; simp)
    have HS : Hid (NmI V V4 (refsOf (args.take (k + 1))) Xr n c) := Lib.hid (by rw [HK2.out]; exact ⟨HO4.out, HB4.out⟩)
    go_wp2_with fail
    go_roundg (args.length - k - 1)
    case measure => omega
    case rel => exact ⟨k + 1, Xr, n, c, by omega, by go_num, rfl, by rw [HK2.out]; exact HLk.out, HS⟩
   | true =>
    have HK2 : Hid (refsOf (args.take (k + 1)) = pre ++ [xnm]) := Lib.hid (by rw [HT.out, HV2.out]; simp)
    have hn1 : n + 1 ≤ 1000000 := by have h := HNk.out; rw [HV2.out] at h; simpa using h
    have HW := Lib.hid (new_one V4 xnm)
    have HO5 : Hid ((V4.alloc (.cells #[.string xnm] 9)).ownsRow V.heap.size 9 1 (.slice Xr n c) n (strs pre)) := Lib.hid (HO4.out.alloc _)
    have HB5 : Hid (Below V.heap.size V (V4.alloc (.cells #[.string xnm] 9))) := Lib.hid (below_stepA HB4.out _)
    go_wp2_with (at_builtin; refine wpList_append_own_at _ rfl (.tmp 15) (.tmp 18) 22 rfl V.heap.size 9 i0 _ 1 16 Tryz.underlying22 hi0 hz0 hz1 hz2 rfl (by decide) _ n (strs pre) rfl HO5.out ⟨V4.heap.size, 0, none⟩ 1 1 [.string xnm] rfl rfl HW.out (by simp [Value.oneCell']) (by unfold maxLen; omega) (by omega) HB5.out.size ?_; intro v6 w7 hown6 hg6 _ hat6; obtain ⟨X6, k6, rfl, _, _⟩ := own_shape hown6; have HS : Hid (NmI V w7 (refsOf (args.take (k + 1))) X6 (n + 1) k6) := Lib.hid ⟨by rw [HK2.out, strs_append]; exact hown6, HB5.out.grown hg6 HB5.out.size (fun j hj => (HO5.out.lt j hj).1)⟩; clear hown6 hg6 hat6)
    go_roundg (args.length - k - 1)
    case measure => omega
    case rel => exact ⟨k + 1, X6, n + 1, k6, by omega, by go_num, rfl, by rw [HK2.out, List.length_append, ← HLk.out]; rfl, HS⟩
  ·obtain rfl : k = args.length := by omega
   go_wp2_with fail
   go_ret
   refine ⟨_, rfl, own_lower ?_ HB0.out.size, below_step HB0.out HR.out.below⟩
   have h := HR.out.row
   rw [List.take_length] at h hnl
   rw [hnl] at h ⊢
   exact h
end Go.Proofs.YtimejkbmfbjomaaGreat
namespace Go.Proofs.YtimejkbmfbjomaaGreat
open Go.ChangeShapes Go.WideShapes Go.ChangeAt Go.RowKit Go.Deep
set_option linter.unusedVariables false
set_option linter.unusedSimpArgs false
theorem ck_ok9 {p : Pg} (hc : chkOK p = true) : ChOk p := chk_ok (of_decide_eq_true hc)
theorem fits_hck {p : Pg} (hf : fitsP p = true) (hc : chkOK p = true) : p.procs.length ≤ 16 ∧ ∀ q ∈ p.procs, (saidOf (preSL q.body)).length ≤ 10000000 := by
 have hok := ck_ok9 hc
 obtain ⟨hl1, hl2, hl3⟩ := may_lens hok.may
 refine ⟨hl2, fun q hq => ?_⟩
 unfold fitsP weighP at hf
 have h0 := of_decide_eq_true hf
 obtain ⟨_, h2⟩ := weighQs_full p.procs _ h0
 have hw := (h2 q hq).1
 have hlen := ((may_flat hok.may).1 q hq).2
 have key : ∀ L : List S, (∀ s ∈ L, (saidS s).length ≤ 20000) → (saidOf L).length ≤ L.length * 20000 := by
  intro L
  induction L with
  | nil => intro _; simp [saidOf]
  | cons s L ih =>
   intro h
   have h1 := h s (List.mem_cons_self ..)
   have h2 := ih (fun x hx => h x (List.mem_cons_of_mem _ hx))
   rw [show saidOf (s :: L) = saidS s ++ saidOf L by simp [saidOf], List.length_append, List.length_cons]
   omega
 have h3 := key (preSL q.body) (fun s hs => Nat.le_trans (saidS_w (may_stm hok.may q hq s hs)) (Nat.le_trans (preSL_w _ _ hs) hw))
 have h4 : (preSL q.body).length * 20000 ≤ 200 * 20000 := Nat.mul_le_mul_right _ hlen
 omega
end Go.Proofs.YtimejkbmfbjomaaGreat
namespace Go.Proofs.YtimejkbmfbjomaaGreat
open Go.ChangeShapes Go.WideShapes Go.ChangeAt Go.RowKit Go.Deep
set_option linter.unusedVariables false
set_option linter.unusedSimpArgs false
set_option maxHeartbeats 2000000 in
set_option maxRecDepth 100000 in
theorem rparams_any {w : World} {Q : Nat → Prop} {q : Pr} {c0 c1 c2 c3 c4 : Value} (h : ProcI w Q q [c0, c1, c2, c3, c4]) (hl : q.params.length ≤ 1000) (W : World) (hI : In Q w W) :
  Calls Tryz.prog 89 #[.agg #[c0, c1, c2, c3, c4]] W (NewRow (q.params.map Pa.nm) W) := by
 obtain ⟨vp, vv, vb, ve, hc, hnm, hpp, hvv, hbb, hee⟩ := h
 simp only [List.cons.injEq, and_true] at hc
 obtain ⟨rfl, rfl, rfl, rfl, rfl⟩ := hc
 obtain ⟨Ap, cp, rfl, _, _⟩ := hpp.shape
 obtain ⟨Av, cv, rfl, _, _⟩ := hvv.shape
 obtain ⟨Ab, cb, rfl, _⟩ := hbb.shape
 obtain ⟨Ae, ce, rfl, _⟩ := hee.shape
 have HPp := Lib.hid hpp
 have HI := Lib.hid hI
 obtain ⟨i0, hi0, hz0, hz1, hz2⟩ := info_parts string_info
 clear hpp hvv hbb hee hI
 go_enter Tryz.func89, Tryz.ntmps89
 go_upto_region 1 with fail
 have HBp : Hid (Blk (W.alloc (.cells #[.string q.nm, .slice Ap q.params.length cp, .slice Av q.vars.length cv, .slice Ab q.body.length cb, .slice Ae q.end_.length ce] 39)) W.heap.size 39 #[.string q.nm, .slice Ap q.params.length cp, .slice Av q.vars.length cv, .slice Ab q.body.length cb, .slice Ae q.end_.length ce]) := Lib.hid (Blk.new _ _ _)
 have HB0 : Hid (Below W.heap.size W (W.alloc (.cells #[.string q.nm, .slice Ap q.params.length cp, .slice Av q.vars.length cv, .slice Ab q.body.length cb, .slice Ae q.end_.length ce] 39))) := Lib.hid (below_box _)
 generalize World.alloc _ _ = V at HBp HB0 ⊢
 have q1 : V.cell? ⟨W.heap.size, 1, none⟩ = some (.slice Ap q.params.length cp) := by rw [HBp.out.cell]; rfl
 have HI0 := Lib.hid (HI.out.on HB0.out)
 have HS : Hid (NmI V V ((q.params.take 0).map Pa.nm) none 0 0) := Lib.hid ⟨World.ownsRow_nil _ _ _ _, Below.refl _ _⟩
 go_upto_region 3 with fail
 clear q1
 go_loopw [3, 9] (fun ov iv wr => ∃ (k : Nat) (X : Option Addr) (c : Nat), k ≤ q.params.length ∧ iv = .int .i64 k ∧ ov = .slice X k c ∧ Hid (NmI V wr ((q.params.take k).map Pa.nm) X k c)) (fun _ iv _ => q.params.length - (intOf iv).toNat)
 case atStart => exact ⟨0, none, 0, Nat.zero_le _, rfl, rfl, HS⟩
 case round =>
  clear HS
  obtain ⟨k, X, c, hk, rfl, rfl, HR⟩ := hrel
  have HIr := Lib.hid (HI0.out.on HR.out.below)
  by_cases hlt : k < q.params.length
  ·obtain ⟨a, rfl, _, ⟨p0, p1, _⟩, _⟩ := par_at HPp.out HIr.out hlt
   have HT : Hid (q.params.take (k + 1) = q.params.take k ++ [q.params[k]]) := Lib.hid (List.take_succ_eq_append_getElem hlt)
   generalize q.params[k] = x at p0 p1 HT
   obtain ⟨xn, xr⟩ := x
   simp only at p0 p1
   go_upto_region 5 with fail
   have HBx : Hid (Blk (wr.alloc (.cells #[.string xn, .bool xr] 68)) wr.heap.size 68 #[.string xn, .bool xr]) := Lib.hid (Blk.new _ _ _)
   have HO4 : Hid ((wr.alloc (.cells #[.string xn, .bool xr] 68)).ownsRow V.heap.size 9 1 (.slice X k c) k (strs ((q.params.take k).map Pa.nm))) := Lib.hid (HR.out.row.alloc _)
   have HB4 : Hid (Below V.heap.size V (wr.alloc (.cells #[.string xn, .bool xr] 68))) := Lib.hid (below_stepA HR.out.below _)
   clear p0 p1
   generalize World.alloc wr _ = V4 at HBx HO4 HB4 ⊢
   generalize wr.heap.size = bx at HBx ⊢
   have z0 : V4.cell? ⟨bx, 0, none⟩ = some (.string xn) := by rw [HBx.out.cell]; rfl
   have HW := Lib.hid (new_one V4 xn)
   have HO5 : Hid ((V4.alloc (.cells #[.string xn] 9)).ownsRow V.heap.size 9 1 (.slice X k c) k (strs ((q.params.take k).map Pa.nm))) := Lib.hid (HO4.out.alloc _)
   have HB5 : Hid (Below V.heap.size V (V4.alloc (.cells #[.string xn] 9))) := Lib.hid (below_stepA HB4.out _)
   go_upto_region 6 with (at_builtin; refine wpList_append_own_at _ rfl (.tmp 13) (.tmp 16) 22 rfl V.heap.size 9 i0 _ 1 16 Tryz.underlying22 hi0 hz0 hz1 hz2 rfl (by decide) _ k (strs ((q.params.take k).map Pa.nm)) rfl HO5.out ⟨V4.heap.size, 0, none⟩ 1 1 [.string xn] rfl rfl HW.out (by simp [Value.oneCell']) (by unfold maxLen; omega) (by omega) HB5.out.size ?_; intro v6 w6 hown6 hg6 _ hat6; obtain ⟨X6, k6, rfl, _, _⟩ := own_shape hown6; have HO6 := Lib.hid hown6; have HG6 := Lib.hid hg6; clear hown6 hg6 hat6)
   have HS : Hid (NmI V w6 ((q.params.take (k + 1)).map Pa.nm) X6 (k + 1) k6) := Lib.hid ⟨by rw [HT.out, List.map_append, strs_append]; exact HO6.out, HB5.out.grown HG6.out HB5.out.size (fun j hj => (HO5.out.lt j hj).1)⟩
   clear z0
   go_wp2_with fail
   go_roundw
   case rel => exact ⟨k + 1, X6, k6, by omega, by go_num, rfl, HS⟩
   case measure => simp [intOf]; omega
  ·have hke : k = q.params.length := by omega
   subst hke
   go_wp2_with fail
   go_ret
   refine ⟨_, rfl, own_lower ?_ HB0.out.size, below_step HB0.out HR.out.below⟩
   have h := HR.out.row
   rw [List.take_length] at h
   rw [List.length_map]
   exact h
end Go.Proofs.YtimejkbmfbjomaaGreat
namespace Go.Proofs.YtimejkbmfbjomaaGreat
open Go.ChangeShapes Go.WideShapes Go.ChangeAt Go.RowKit Go.Deep
set_option linter.unusedVariables false
set_option linter.unusedSimpArgs false
theorem said_small {w : World} {Q : Nat → Prop} {s : S} {cs : List Value} (h : StmtI w Q s cs) : ∀ t ∈ saidS s, small t := by
 obtain ⟨id, kind, labels, nm, proc, x, has, args, th, el, L, lc, x0, x1, x2, X, xn, xc, R, rc, T, tc, U, uc, rfl, rfl, hid, hkind, hnm, hproc, hl, hx, ha, hth, hel⟩ := stmt_open h
 intro t ht
 unfold saidS at ht
 simp only [List.mem_append, S.x, S.nm, S.kind, S.args, List.mem_flatMap] at ht
 rcases ht with (ht | ht) | ⟨a, ham, ht⟩
 ·unfold ownV at ht
  split at ht
  ·rw [List.mem_singleton.1 ht]; exact hnm
  ·cases ht
 ·exact namesE_small hx t ht
 ·obtain ⟨cs, xcs, _, h1, h2⟩ := slice_mem ha a ham
  unfold saidV at ht
  rw [List.mem_append] at ht
  rcases ht with ht | ht
  ·split at ht
   ·rw [List.mem_singleton.1 ht]; exact h1
   ·cases ht
  ·exact namesE_small h2 t ht
end Go.Proofs.YtimejkbmfbjomaaGreat
namespace Go.Proofs.YtimejkbmfbjomaaGreat
open Go.ChangeShapes Go.WideShapes Go.ChangeAt Go.RowKit Go.Deep
set_option linter.unusedVariables false
set_option linter.unusedSimpArgs false
theorem fits_said {p : Pg} (hf : fitsP p = true) (hm : mayP p = true) : ∀ q ∈ p.procs, ∀ s ∈ preSL q.body, (saidS s).length ≤ 20000 := fun q hq s hs => by
 unfold fitsP weighP at hf
 obtain ⟨_, h2⟩ := weighQs_full p.procs _ (of_decide_eq_true hf)
 have hw := (h2 q hq).1
 exact Nat.le_trans (saidS_w (may_stm hm q hq s hs)) (Nat.le_trans (preSL_w _ _ hs) hw)
theorem off_new {T : Nat → Prop} {W9 W10 : World} {v v' : Value} (h : In T W9 W10) (ho : ∀ j, v.ownBlock = some j → ¬ T j) (hv : v'.ownBlock = v.ownBlock ∨ v'.ownBlock = some W10.heap.size) : ∀ j, v'.ownBlock = some j → ¬ T j := by
 intro j hj ht
 rcases hv with hv | hv
 ·exact ho j (hv.symm.trans hj) ht
 ·rw [hv] at hj
  injection hj with hj
  exact Nat.lt_irrefl _ (h.1 _ (hj ▸ ht))
end Go.Proofs.YtimejkbmfbjomaaGreat
namespace Go.Proofs.YtimejkbmfbjomaaGreat
open Go.ChangeShapes Go.WideShapes Go.ChangeAt Go.RowKit Go.Deep
set_option linter.unusedVariables false
set_option linter.unusedSimpArgs false
theorem below_mv {own : Nat → Prop} {a b : World} (h : Below a.heap.size a b) : Moves own a b := ⟨h.os, h.tape, h.output, h.size, fun k hk _ => h.block k hk⟩
def CkF (p : Pg) (B : Nat) (W : World) (m n : Nat) (f : ByteArray → Option Value) : Prop := MapI W m n f ∧ ∀ s v, f s = some v → ∃ l X k, v = .slice X l.length k ∧ W.ownsRow B 9 1 (.slice X l.length k) l.length (strs l) ∧ GlobOf p (jfP p s) l
theorem CkF.step {p : Pg} {B : Nat} {W W' : World} {m n : Nat} {f : ByteArray → Option Value} (h : CkF p B W m n f) (hb : Below W.heap.size W W') : CkF p B W' m n f := by
 refine ⟨h.1.same (hb.block m h.1.lt), fun s v hs => ?_⟩
 obtain ⟨l, X, k, e, ho, hg⟩ := h.2 s v hs
 exact ⟨l, X, k, e, (Below.moves hb).row ho (fun j hj e => Nat.not_lt.2 e (ho.lt j hj).2), hg⟩
theorem CkF.put {p : Pg} {B : Nat} {W W' : World} {m n : Nat} {f : ByteArray → Option Value} (h : CkF p B W m n f) {s : ByteArray} {l : List ByteArray} {X : Option Addr} {k : Nat} (ho : W.ownsRow B 9 1 (.slice X l.length k) l.length (strs l)) (hg : GlobOf p (jfP p s) l) (hm : MapI W' m (n + 1) (fun x => if x = s then some (.slice X l.length k) else f x)) (hw : W.grownBy W' (some m)) : CkI p B W' m (n + 1) := by
 refine ⟨_, hm, fun t v ht => ?_⟩
 by_cases e : t = s
 ·subst e
  rw [if_pos rfl] at ht
  injection ht with ht
  subst ht
  exact ⟨l, X, k, rfl, ho.kept hw (.inr (fun e => own_not_map ho h.1 m e rfl)), hg⟩
 ·rw [if_neg e] at ht
  obtain ⟨l2, X2, k2, e2, ho2, hg2⟩ := h.2 t v ht
  exact ⟨l2, X2, k2, e2, ho2.kept hw (.inr (fun e => own_not_map ho2 h.1 m e rfl)), hg2⟩
def GlRes (p : Pg) (s : ByteArray) (B m n : Nat) (W : World) (e : Ending) (W' : World) : Prop := ∃ (l : List ByteArray) (X : Option Addr) (k : Nat), e = .returned (.slice X l.length k) ∧ W'.ownsRow B 9 1 (.slice X l.length k) l.length (strs l) ∧ GlobOf p (jfP p s) l ∧ CkI p B W' m (n + 1) ∧ Moves (fun j => j = m) W W'
set_option maxHeartbeats 4000000 in
set_option maxRecDepth 100000 in
theorem globals_any {w W : World} {Q : Nat → Prop} {p : Pg} {c0 c1 : Value} {B m n : Nat} (h : ProgI w Q p [c0, c1]) (hsm : SmG p) (hck : chkOK p = true → p.procs.length ≤ 16 ∧ ∀ q ∈ p.procs, (saidOf (preSL q.body)).length ≤ 10000000) (s : ByteArray) (hs : s.size ≤ maxLen) (hC : CkI p B W m n) (hB : B ≤ W.heap.size) (hn : n < maxLen) (hI : In Q w W) :
 Calls Tryz.prog 107 #[.agg #[c0, c1, .map (some m)], .string s] W (GlRes p s B m n W) := by
 have HG := Lib.hid (fun V hV => tGlobals_any h hsm hck s V hV)
 obtain ⟨Ag, cg, Ap, cp, rfl, rfl, _⟩ := prog_open h
 have HI := Lib.hid hI
 have hml := hC.lt
 obtain ⟨f, hC⟩ := hC
 have HC : Hid (CkF p B W m n f) := Lib.hid hC
 clear h hsm hck hI hC
 go_enter Tryz.func107, Tryz.ntmps107
 go_upto_region 1 with fail
 have HB0 : Hid (Below W.heap.size W (W.alloc (.cells #[.slice Ag p.globals.length cg, .slice Ap p.procs.length cp, .map (some m)] 89))) := Lib.hid (below_box _)
 have HBp : Hid (Blk (W.alloc (.cells #[.slice Ag p.globals.length cg, .slice Ap p.procs.length cp, .map (some m)] 89)) W.heap.size 89 #[.slice Ag p.globals.length cg, .slice Ap p.procs.length cp, .map (some m)]) := Lib.hid (Blk.new _ _ _)
 generalize World.alloc _ _ = V at HB0 HBp ⊢
 have HBV : Hid (B ≤ V.heap.size) := Lib.hid (Nat.le_trans hB HB0.out.size)
 generalize W.heap.size = b at HBp ⊢
 have HI0 := Lib.hid (HI.out.on HB0.out)
 have HC0 := Lib.hid (HC.out.step HB0.out)
 clear HC HI
 have hbl := HBp.out.lt
 have hlook := HC0.out.1.look und_ms s hs
 have q0 : V.cell? ⟨b, 0, none⟩ = some (.slice Ag p.globals.length cg) := by rw [HBp.out.cell]; rfl
 have q1 : V.cell? ⟨b, 1, none⟩ = some (.slice Ap p.procs.length cp) := by rw [HBp.out.cell]; rfl
 have q2 : V.cell? ⟨b, 2, none⟩ = some (.map (some m)) := by rw [HBp.out.cell]; rfl
 cases hf : f s with
 | some v =>
  obtain ⟨l, X, k, rfl, ho, hg⟩ := HC0.out.2 s v hf
  have HO := Lib.hid ho
  have HGo := Lib.hid hg
  rw [hf] at hlook
  simp only [Option.getD_some, Option.isSome_some] at hlook
  clear hf ho hg
  go_wp2_with fail
  go_ret
  exact ⟨l, X, k, rfl, HO.out, HGo.out, CkI.mono ⟨f, HC0.out⟩ (by omega), (below_mv HB0.out)⟩
 | none =>
  rw [hf] at hlook
  simp only [Option.getD_none, Option.isSome_none] at hlook
  clear hf
  go_wp2_with (first
   | (go_at_call 16; refine (HG.out V HI0.out).mono ?_; rintro e' W2 ⟨l, v2, rfl, ho2, hb2, ha2⟩; obtain ⟨X2, k2, rfl, _, _⟩ := own_shape ho2; have HO2 := Lib.hid ho2; have HGo := Lib.hid ha2; have HC2 := Lib.hid (HC0.out.step hb2); have HB2 := Lib.hid (below_step HB0.out hb2); have r2 := (hb2.cell (p := ⟨b, 2, none⟩) hbl).trans q2; clear ho2 ha2 hb2 hlook)
   | (at_mapUpdate; refine wpList_mapPut rfl _ _ _ 87 rfl und_ms m n f rfl HC2.out.1 hn s hs rfl _ rfl ?_; intro W3 hm3 hg3; have HM3 := Lib.hid hm3; have HG3 := Lib.hid hg3; clear hm3 hg3))
  go_ret
  have ho := own_lower HO2.out HBV.out
  exact ⟨l, X2, k2, rfl, ho.kept HG3.out (.inr (fun e => own_not_map ho HC2.out.1 m e rfl)), HGo.out, HC2.out.put ho HGo.out HM3.out HG3.out, (below_mv HB2.out).trans (moves_grown HG3.out) (fun j hj => .inr (by injection hj with hj; exact hj.symm))⟩
end Go.Proofs.YtimejkbmfbjomaaGreat
