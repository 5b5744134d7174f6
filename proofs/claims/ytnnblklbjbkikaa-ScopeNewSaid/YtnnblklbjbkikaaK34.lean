/- Texts, merged by a program; only what is used. -/
import Derived.Test.YtnnblklbjbkikaaK1
import Derived.Test.YtnnblklbjbkikaaK2
import Derived.Test.YtnnblklbjbkikaaK3
import Derived.Test.YtnnblklbjbkikaaK4
import Derived.Test.YtnnblklbjbkikaaK5
import Derived.Test.YtnnblklbjbkikaaK6
import Derived.Test.YtnnblklbjbkikaaK7
import Derived.Test.YtnnblklbjbkikaaK8
import Derived.Test.YtnnblklbjbkikaaK9
import Derived.Test.YtnnblklbjbkikaaK10
import Derived.Test.YtnnblklbjbkikaaK11
import Derived.Test.YtnnblklbjbkikaaK12
import Derived.Test.YtnnblklbjbkikaaK13
import Derived.Test.YtnnblklbjbkikaaK14
import Derived.Test.YtnnblklbjbkikaaK15
import Derived.Test.YtnnblklbjbkikaaK16
import Derived.Test.YtnnblklbjbkikaaK17
import Derived.Test.YtnnblklbjbkikaaK18
import Derived.Test.YtnnblklbjbkikaaK19
import Derived.Test.YtnnblklbjbkikaaK20
import Derived.Test.YtnnblklbjbkikaaK21
import Derived.Test.YtnnblklbjbkikaaK22
import Derived.Test.YtnnblklbjbkikaaK23
import Derived.Test.YtnnblklbjbkikaaK24
import Derived.Test.YtnnblklbjbkikaaK25
import Derived.Test.YtnnblklbjbkikaaK26
import Derived.Test.YtnnblklbjbkikaaK27
import Derived.Test.YtnnblklbjbkikaaK28
import Derived.Test.YtnnblklbjbkikaaK33
namespace Go.Proofs.Ytnnblklbjbkikaa
open Go.ChangeShapes Go.WideShapes Go.ChangeAt Go.RowKit Go.Deep
set_option linter.unusedVariables false
set_option linter.unusedSimpArgs false
set_option maxHeartbeats 4000000 in
set_option maxRecDepth 100000 in
theorem rSaid_any {w : World} {Q : Nat → Prop} {s : S} {cs : List Value} (h : StmtI w Q s cs) (hn : (saidS s).length ≤ 1000000) (W : World) (hI : In Q w W) :
 Calls Try.prog 82 #[.agg cs.toArray] W (NewRow (saidS s) W) := by
 obtain ⟨id, kind, labels, nm, proc, x, has, args, th, el, L, lc, x0, x1, x2, X, xn, xc, R, rc, T, tc, U, uc, rfl, rfl, hid, hkind, hnm, hproc, hl, hx, ha, hth, hel⟩ := stmt_open h
 have HNa := Lib.hid (fun V hV => rNames_any hx V hV)
 have HNs := Lib.hid (namesE_small hx)
 have HA := Lib.hid ha
 have HI := Lib.hid hI
 have HV : Hid (saidS (.mk id kind labels nm proc x has args th el) = ownV kind nm ++ namesE x ++ args.flatMap saidV) := Lib.hid rfl
 have HN : Hid ((ownV kind nm).length + (namesE x).length + (args.flatMap saidV).length ≤ 1000000) := Lib.hid (by rw [HV.out] at hn; simp only [List.length_append] at hn; exact hn)
 have hok := hkind
 unfold i64 at hok
 obtain ⟨i0, hi0, hz0, hz1, hz2⟩ := info_parts string_info
 obtain ⟨_, har, hrc, _⟩ := slice_len ha
 clear h hn hI hl hx ha hth hel hid hkind hnm hproc
 simp only [List.toArray]
 go_enter Try.func82, Try.ntmps82
 go_upto_region 1 with fail
 have HBp : Hid (Blk (W.alloc (.cells #[.int .i64 id, .int .i64 kind, .slice L labels.length lc, .string nm, .string proc, .int .i64 x0, .int .i64 x1, .string x2, .slice X xn xc, .bool has, .slice R args.length rc, .slice T th.length tc, .slice U el.length uc] 55)) W.heap.size 55 #[.int .i64 id, .int .i64 kind, .slice L labels.length lc, .string nm, .string proc, .int .i64 x0, .int .i64 x1, .string x2, .slice X xn xc, .bool has, .slice R args.length rc, .slice T th.length tc, .slice U el.length uc]) := Lib.hid (Blk.new _ _ _)
 have HB0 : Hid (Below W.heap.size W (W.alloc (.cells #[.int .i64 id, .int .i64 kind, .slice L labels.length lc, .string nm, .string proc, .int .i64 x0, .int .i64 x1, .string x2, .slice X xn xc, .bool has, .slice R args.length rc, .slice T th.length tc, .slice U el.length uc] 55))) := Lib.hid (below_box _)
 generalize World.alloc _ _ = V at HBp HB0 ⊢
 generalize W.heap.size = b at HBp ⊢
 have HI0 := Lib.hid (HI.out.on HB0.out)
 have hbl := HBp.out.lt
 have q1 : V.cell? ⟨b, 1, none⟩ = some (.int .i64 kind) := by rw [HBp.out.cell]; rfl
 have q3 : V.cell? ⟨b, 3, none⟩ = some (.string nm) := by rw [HBp.out.cell]; rfl
 go_upto_region 2 with fail
 obtain ⟨bb, hbb⟩ : ∃ bb, bb = (!nm.toList.isEmpty && kind != 10) := ⟨_, rfl⟩
 have HK : Hid (ownV kind nm = if bb = true then [nm] else []) := Lib.hid (by rw [hbb]; rfl)
 have Hbb := Lib.hid hbb
 clear hbb
 go_cut [13] from 6 to 12 (fun s wx => s = .bool bb ∧ wx = V)
 case first =>
  cases he : nm.toList.isEmpty with
  | true =>
   have he2 : (nm.toList == []) = true := by simpa using he
   have H2 : Hid (bb = false) := Lib.hid (by rw [Hbb.out, he]; rfl)
   go_wp2_with fail
   go_meet
   exact ⟨by rw [H2.out]; try rfl, rfl⟩
  | false =>
   have he2 : (nm.toList == []) = false := by simpa using he
   have H2 : Hid (bb = (kind != 10)) := Lib.hid (by rw [Hbb.out, he]; rfl)
   go_wp2_with fail
   go_meet
   exact ⟨by rw [H2.out]; try rfl, rfl⟩
 case rest =>
 obtain ⟨rfl, hw⟩ := hcut
 replace hw := hw.symm
 subst hw
 go_upto_if 13 with fail
 have HLn : Hid ((ownV kind nm).length ≤ 1) := Lib.hid (by unfold ownV; split <;> simp)
 go_cut [3] from 14 to 18 (fun s wx => ∃ (X2 : Option Addr) (k2 : Nat), s = .slice X2 (ownV kind nm).length k2 ∧ Hid (NmI V wx (ownV kind nm) X2 (ownV kind nm).length k2))
 case first =>
  have HO1a : Hid ((V.alloc (.cells #[.string nm] 9)).ownsRow V.heap.size 9 1 (.slice none 0 0) 0 (strs [])) := Lib.hid (World.ownsRow_nil _ _ _ _)
  have HB1a : Hid (Below V.heap.size V (V.alloc (.cells #[.string nm] 9))) := Lib.hid (below_box _)
  have HW := Lib.hid (new_one V nm)
  cases bb with
  | false =>
   have HK2 : Hid (ownV kind nm = []) := Lib.hid (by rw [HK.out]; rfl)
   go_wp2_with fail
   go_meet
   exact ⟨none, 0, by rw [HK2.out]; rfl, Lib.hid (by rw [HK2.out]; exact ⟨World.ownsRow_nil _ _ _ _, Below.refl _ _⟩)⟩
  | true =>
   have HK2 : Hid (ownV kind nm = [nm]) := Lib.hid (by rw [HK.out]; rfl)
   go_wp2_with (at_builtin; refine wpList_append_own_at _ rfl (.tmp 14) (.tmp 17) 22 rfl V.heap.size 9 i0 _ 1 16 Try.underlying22 hi0 hz0 hz1 hz2 rfl (by decide) _ 0 (strs []) rfl HO1a.out ⟨V.heap.size, 0, none⟩ 1 1 [.string nm] rfl rfl HW.out (by simp [Value.oneCell']) (by unfold maxLen; omega) (by omega) HB1a.out.size ?_; intro v6 w6 hown6 hg6 _ hat6; obtain ⟨X6, k6, rfl, _, _⟩ := own_shape hown6; have HO6 := Lib.hid hown6; have HG6 := Lib.hid hg6; clear hown6 hg6 hat6)
   go_meet
   exact ⟨X6, k6, by rw [HK2.out]; rfl, Lib.hid (by rw [HK2.out]; exact ⟨HO6.out, HB1a.out.grown HG6.out HB1a.out.size (fun j hj => (HO1a.out.lt j hj).1)⟩)⟩
 case rest =>
  obtain ⟨X1, k1, rfl, HS1⟩ := hcut
  clear q1 q3
  have HBp1 := Lib.hid (HBp.out.below HS1.out.below hbl)
  have HI1 := Lib.hid (HI0.out.on HS1.out.below)
  have q5 : wc.cell? ⟨b, 5, none⟩ = some (.int .i64 x0) := by rw [HBp1.out.cell]; rfl
  have q6 : wc.cell? ⟨b, 6, none⟩ = some (.int .i64 x1) := by rw [HBp1.out.cell]; rfl
  have q7 : wc.cell? ⟨b, 7, none⟩ = some (.string x2) := by rw [HBp1.out.cell]; rfl
  have q8 : wc.cell? ⟨b, 8, none⟩ = some (.slice X xn xc) := by rw [HBp1.out.cell]; rfl
  have HNn : Hid ((ownV kind nm).length + (namesE x).length ≤ 1000000) := Lib.hid (by have := HN.out; omega)
  go_upto_region 5 with (first
   | (go_at_call 116; refine (HNa.out wc HI1.out).mono ?_; rintro e w5 ⟨v5, rfl, ho5, hb5⟩; obtain ⟨X5, k5, rfl, _, _⟩ := own_shape ho5; have HT5 := Lib.hid (new_small HNs.out ho5); have HO5 : Hid (w5.ownsRow V.heap.size 9 1 (.slice X1 (ownV kind nm).length k1) (ownV kind nm).length (strs (ownV kind nm))) := Lib.hid ((Below.moves hb5).row HS1.out.row (fun j hj e => Nat.not_lt.2 e (HS1.out.row.lt j hj).2)); have HB5 := Lib.hid (below_step HS1.out.below hb5); clear ho5 hb5)
   | (at_builtin; refine wpList_append_texts rfl (.tmp 19) (.tmp 22) 22 rfl V.heap.size 9 i0 _ Try.underlying22 hi0 hz0 hz1 hz2 rfl _ (ownV kind nm).length (strs (ownV kind nm)) rfl HO5.out w5 (nw wc w5) X5 (namesE x) (namesE x).length k5 rfl rfl HT5.out ⟨fun j h => h.2, fun _ _ => rfl⟩ HNn.out HB5.out.size ?_; intro v6 w6 hown6 hg6; obtain ⟨X2, k2, rfl, _, _⟩ := own_shape hown6; have HO6 := Lib.hid hown6; have HG6 := Lib.hid hg6; clear hown6 hg6))
  have HS2 : Hid (NmI V w6 (ownV kind nm ++ namesE x) X2 ((ownV kind nm).length + (namesE x).length) k2) := Lib.hid ⟨by rw [strs_append]; exact HO6.out, HB5.out.grown HG6.out HB5.out.size (fun j hj => (HO5.out.lt j hj).1)⟩
  clear q5 q6 q7 q8 HNa HO5 HO6 HG6 HT5 HB5 HS1 HBp1 HI1 HNn
  have hl0 : (ownV kind nm).length + (namesE x).length = (ownV kind nm ++ namesE x).length := (List.length_append).symm
  have HN2 : Hid ((ownV kind nm ++ namesE x).length + (args.flatMap saidV).length ≤ 1000000) := Lib.hid (by have := HN.out; simp only [List.length_append]; omega)
  rw [hl0] at HS2 ⊢
  clear hl0 HN
  generalize ownV kind nm ++ namesE x = l0 at HS2 HV HN2 ⊢
  have HBp2 := Lib.hid (HBp.out.below HS2.out.below hbl)
  have q10 : w6.cell? ⟨b, 10, none⟩ = some (.slice R args.length rc) := by rw [HBp2.out.cell]; rfl
  go_upto_region 6 with fail
  clear q10 HBp2
  go_loopg [3, 27] args.length (fun kk ov iv wr => ∃ (k : Nat) (Xr : Option Addr) (n c : Nat), k + kk = args.length ∧ iv = .int .i64 k ∧ ov = .slice Xr n c ∧ n = (l0 ++ (args.take k).flatMap saidV).length ∧ Hid (NmI V wr (l0 ++ (args.take k).flatMap saidV) Xr n c))
  case atStart => exact ⟨0, X2, _, k2, by omega, rfl, rfl, by simp, Lib.hid (by simpa using HS2.out)⟩
  case round =>
   clear HS2
   obtain ⟨k, Xr, n, c, hk, rfl, rfl, hnl, HR⟩ := hrel
   have HIr := Lib.hid (HI0.out.on HR.out.below)
   by_cases hlt : k < args.length
   ·obtain ⟨a, o1, n1, s1, A1, l1, k1, rfl, _, ⟨p0, p1, p2, p3, p4, p5, _⟩, hs, hxa⟩ := arg_at HA.out HIr.out hlt
    have HC := Lib.hid (fun V hV => rNames_any hxa V hV)
    have HCs := Lib.hid (namesE_small hxa)
    have HT : Hid ((args.take (k + 1)).flatMap saidV = (args.take k).flatMap saidV ++ saidV args[k]) := Lib.hid (flat_take hlt)
    have HNk : Hid (n + (saidV args[k]).length ≤ 1000000) := Lib.hid (by
     have h1 := flat_take_le (f := saidV) (l := args) (k := k + 1)
     rw [HT.out] at h1
     have h2 := HN2.out
     rw [hnl]
     simp only [List.length_append] at h1 ⊢
     omega)
    have HLk : Hid (n = (l0 ++ (args.take k).flatMap saidV).length) := Lib.hid hnl
    generalize (args.take k).flatMap saidV = pre at HR HT HLk
    have HV2 : Hid (saidV args[k] = (if args[k].ref = true then [args[k].nm] else []) ++ namesE args[k].x) := Lib.hid rfl
    generalize args[k] = y at p0 p1 hs HC HCs HT HNk HV2
    obtain ⟨xr, xnm, xx⟩ := y
    simp only at p0 p1 hs HV2
    clear hnl
    go_upto_region 8 with fail
    have HBx : Hid (Blk (wr.alloc (.cells #[.bool xr, .string xnm, .int .i64 o1, .int .i64 n1, .string s1, .slice A1 l1 k1] 72)) wr.heap.size 72 #[.bool xr, .string xnm, .int .i64 o1, .int .i64 n1, .string s1, .slice A1 l1 k1]) := Lib.hid (Blk.new _ _ _)
    have HO4 : Hid ((wr.alloc (.cells #[.bool xr, .string xnm, .int .i64 o1, .int .i64 n1, .string s1, .slice A1 l1 k1] 72)).ownsRow V.heap.size 9 1 (.slice Xr n c) n (strs (l0 ++ pre))) := Lib.hid (HR.out.row.alloc _)
    have HB4 : Hid (Below V.heap.size V (wr.alloc (.cells #[.bool xr, .string xnm, .int .i64 o1, .int .i64 n1, .string s1, .slice A1 l1 k1] 72))) := Lib.hid (below_stepA HR.out.below _)
    have HI4 : Hid (In Q w (wr.alloc (.cells #[.bool xr, .string xnm, .int .i64 o1, .int .i64 n1, .string s1, .slice A1 l1 k1] 72))) := Lib.hid (HIr.out.alloc _)
    clear p0 p1 p2 p3 p4 p5
    generalize World.alloc wr _ = V4 at HBx HO4 HB4 HI4 ⊢
    generalize wr.heap.size = bx at HBx ⊢
    have z0 : V4.cell? ⟨bx, 0, none⟩ = some (.bool xr) := by rw [HBx.out.cell]; rfl
    have z1 : V4.cell? ⟨bx, 1, none⟩ = some (.string xnm) := by rw [HBx.out.cell]; rfl
    have z2 : V4.cell? ⟨bx, 2, none⟩ = some (.int .i64 o1) := by rw [HBx.out.cell]; rfl
    have z3 : V4.cell? ⟨bx, 3, none⟩ = some (.int .i64 n1) := by rw [HBx.out.cell]; rfl
    have z4 : V4.cell? ⟨bx, 4, none⟩ = some (.string s1) := by rw [HBx.out.cell]; rfl
    have z5 : V4.cell? ⟨bx, 5, none⟩ = some (.slice A1 l1 k1) := by rw [HBx.out.cell]; rfl
    obtain ⟨rp, hrp⟩ : ∃ rp : List ByteArray, rp = if xr = true then [xnm] else [] := ⟨_, rfl⟩
    rw [← hrp] at HV2
    rw [HV2.out] at HT HNk
    have HRp := Lib.hid hrp
    have HN1 : Hid (n + rp.length + (namesE xx).length ≤ 1000000) := Lib.hid (by have := HNk.out; rw [List.length_append] at this; omega)
    have HRl : Hid (n + rp.length ≤ 1000001) := Lib.hid (by have := HN1.out; omega)
    clear hrp
    have hxl := HBx.out.lt
    go_upto_if 32 with fail
    go_cut [3] from 33 to 37 (fun s wx => ∃ (X2 : Option Addr) (k2 : Nat), s = .slice X2 (n + rp.length) k2 ∧ Hid (wx.ownsRow V.heap.size 9 1 (.slice X2 (n + rp.length) k2) (n + rp.length) (strs (l0 ++ pre ++ rp))) ∧ Hid (V4.grownBy wx (Value.slice Xr n c).ownBlock))
    case first =>
     cases xr with
     | false =>
      have HK2 : Hid (rp = []) := Lib.hid HRp.out
      go_wp2_with fail
      go_meet
      exact ⟨Xr, c, by rw [HK2.out]; rfl, Lib.hid (by rw [HK2.out, List.append_nil]; exact HO4.out), Lib.hid (World.grownBy.refl _ _)⟩
     | true =>
      have HK2 : Hid (rp = [xnm]) := Lib.hid HRp.out
      have hn1 : n + 1 ≤ 1000001 := by have := HRl.out; rw [HK2.out] at this; exact this
      have HW := Lib.hid (new_one V4 xnm)
      have HO5 : Hid ((V4.alloc (.cells #[.string xnm] 9)).ownsRow V.heap.size 9 1 (.slice Xr n c) n (strs (l0 ++ pre))) := Lib.hid (HO4.out.alloc _)
      have HB5 : Hid (Below V.heap.size V (V4.alloc (.cells #[.string xnm] 9))) := Lib.hid (below_stepA HB4.out _)
      go_wp2_with (at_builtin; refine wpList_append_own_at _ rfl (.tmp 33) (.tmp 36) 22 rfl V.heap.size 9 i0 _ 1 16 Try.underlying22 hi0 hz0 hz1 hz2 rfl (by decide) _ n (strs (l0 ++ pre)) rfl HO5.out ⟨V4.heap.size, 0, none⟩ 1 1 [.string xnm] rfl rfl HW.out (by simp [Value.oneCell']) (by unfold maxLen; omega) (by omega) HB5.out.size ?_; intro v6 w7 hown6 hg6 _ hat6; obtain ⟨X6, k6, rfl, _, _⟩ := own_shape hown6; have HO6 := Lib.hid hown6; have HG6 := Lib.hid hg6; clear hown6 hg6 hat6)
      go_meet
      exact ⟨X6, k6, by rw [HK2.out]; rfl, Lib.hid (by rw [HK2.out, strs_append]; exact HO6.out), Lib.hid (grown_box HG6.out)⟩
    case rest =>
     obtain ⟨X7, k7, rfl, HO7, HG7⟩ := hcut
     have HB7 : Hid (Below V.heap.size V wc) := Lib.hid (HB4.out.grown HG7.out HB4.out.size (fun j hj => (HO4.out.lt j hj).1))
     have HI7 := Lib.hid (HI0.out.on HB7.out)
     have HBx7 : Hid (Blk wc bx 72 #[.bool xr, .string xnm, .int .i64 o1, .int .i64 n1, .string s1, .slice A1 l1 k1]) := Lib.hid (HBx.out.grown HG7.out (fun e => own_blk_ne HO4.out HBx.out (by decide) e.symm))
     clear z0 z1 z2 z3 z4 z5 HO4 HB4 HI4 HBx HG7
     have z2 : wc.cell? ⟨bx, 2, none⟩ = some (.int .i64 o1) := by rw [HBx7.out.cell]; rfl
     have z3 : wc.cell? ⟨bx, 3, none⟩ = some (.int .i64 n1) := by rw [HBx7.out.cell]; rfl
     have z4 : wc.cell? ⟨bx, 4, none⟩ = some (.string s1) := by rw [HBx7.out.cell]; rfl
     have z5 : wc.cell? ⟨bx, 5, none⟩ = some (.slice A1 l1 k1) := by rw [HBx7.out.cell]; rfl
     go_wp2_with (first
      | (go_at_call 116; refine (HC.out wc HI7.out).mono ?_; rintro e w8 ⟨v8, rfl, ho8, hb8⟩; obtain ⟨X8, k8, rfl, _, _⟩ := own_shape ho8; have HT8 := Lib.hid (new_small HCs.out ho8); have HO8 : Hid (w8.ownsRow V.heap.size 9 1 (.slice X7 (n + rp.length) k7) (n + rp.length) (strs (l0 ++ pre ++ rp))) := Lib.hid ((Below.moves hb8).row HO7.out (fun j hj e => Nat.not_lt.2 e (HO7.out.lt j hj).2)); have HB8 := Lib.hid (below_step HB7.out hb8); clear ho8 hb8)
      | (at_builtin; refine wpList_append_texts rfl (.tmp 38) (.tmp 41) 22 rfl V.heap.size 9 i0 _ Try.underlying22 hi0 hz0 hz1 hz2 rfl _ (n + rp.length) (strs (l0 ++ pre ++ rp)) rfl HO8.out w8 (nw wc w8) X8 (namesE xx) (namesE xx).length k8 rfl rfl HT8.out ⟨fun j h => h.2, fun _ _ => rfl⟩ HN1.out HB8.out.size ?_; intro v9 w9 hown9 hg9; obtain ⟨X9, k9, rfl, _, _⟩ := own_shape hown9; have HO9 := Lib.hid hown9; have HG9 := Lib.hid hg9; clear hown9 hg9))
     have HS : Hid (NmI V w9 (l0 ++ (args.take (k + 1)).flatMap saidV) X9 (n + rp.length + (namesE xx).length) k9) := Lib.hid ⟨by rw [HT.out, ← List.append_assoc, ← List.append_assoc, strs_append]; exact HO9.out, HB8.out.grown HG9.out HB8.out.size (fun j hj => (HO8.out.lt j hj).1)⟩
     go_roundg (args.length - k - 1)
     case measure => omega
     case rel => exact ⟨k + 1, X9, _, k9, by omega, by go_num, rfl, by rw [HT.out, ← List.append_assoc, ← List.append_assoc, List.length_append, List.length_append, ← HLk.out], HS⟩
   ·have hke : k = args.length := by omega
    subst hke
    go_wp2_with fail
    go_ret
    refine ⟨_, rfl, own_lower ?_ HB0.out.size, below_step HB0.out HR.out.below⟩
    have h := HR.out.row
    rw [List.take_length] at h hnl
    rw [HV.out]
    rw [hnl] at h ⊢
    exact h
end Go.Proofs.Ytnnblklbjbkikaa
namespace Go.Proofs.Ytnnblklbjbkikaa
open Go.ChangeShapes Go.WideShapes Go.ChangeAt Go.RowKit Go.Deep
set_option linter.unusedVariables false
set_option linter.unusedSimpArgs false
theorem isT_eq (s t : ByteArray) : isT s t = (t.toList == s.toList) := by rw [dec_bytes]; unfold isT; exact decide_eq_decide.2 eq_comm
set_option maxHeartbeats 1000000 in
theorem rIn_any {w W : World} {Q : Nat → Prop} {l : List ByteArray} {v : Value} (h : TextsI w Q l v) (hI : In Q w W) (s : ByteArray) :
  Calls Try.prog 35 #[v, .string s] W fun e w' => e = .returned (.bool (l.any (isT s))) ∧ W = w' := by
 obtain ⟨A, cap, rfl, hl1, hl2⟩ := h.shape
 have H := Lib.hid h
 have HI := Lib.hid hI
 clear h hI
 go_enter Try.func35, Try.ntmps35
 go_wp2_with fail
 go_loopg [8] l.length (fun kk i wr => ∃ k : Nat, k + kk = l.length ∧ i = .int .i64 k ∧ Hid ((l.drop k).any (isT s) = l.any (isT s)) ∧ wr = W)
 case atStart => exact ⟨0, by omega, rfl, Lib.hid (by rw [List.drop_zero]), rfl⟩
 case round =>
  obtain ⟨k, hk, rfl, HW, rfl⟩ := hrel
  by_cases hlt : k < l.length
  ·obtain ⟨a, rfl, _, p1, hs⟩ := text_at H.out HI.out hlt
   have HD : Hid ((isT s l[k] || (l.drop (k + 1)).any (isT s)) = l.any (isT s)) := Lib.hid (by rw [← HW.out, List.drop_eq_getElem_cons hlt, List.any_cons])
   have hv := isT_eq s l[k]
   generalize l[k] = t at p1 hs HD hv
   cases hb : isT s t with
   | true =>
    rw [hb, Bool.true_or] at HD
    have hv2 : (t.toList == s.toList) = true := by rw [← hv]; exact hb
    clear hv hb
    go_wp2_with fail
    go_ret
    exact ⟨by rw [← HD.out]; rfl, rfl⟩
   | false =>
    rw [hb, Bool.false_or] at HD
    have hv2 : (t.toList == s.toList) = false := by rw [← hv]; exact hb
    clear hv hb
    go_wp2_with fail
    go_roundg (l.length - k - 1)
    case measure => omega
    case rel => exact ⟨k + 1, by omega, by go_num, HD, rfl⟩
  ·have HD : Hid (l.any (isT s) = false) := Lib.hid (by rw [← HW.out, List.drop_of_length_le (by omega)]; rfl)
   go_wp2_with fail
   go_ret
   exact ⟨by rw [HD.out]; rfl, rfl⟩
set_option maxHeartbeats 2000000 in
set_option maxRecDepth 100000 in
theorem rparams_any {w : World} {Q : Nat → Prop} {q : Pr} {c0 c1 c2 c3 c4 : Value} (h : ProcI w Q q [c0, c1, c2, c3, c4]) (hl : q.params.length ≤ 1000) (W : World) (hI : In Q w W) :
  Calls Try.prog 81 #[.agg #[c0, c1, c2, c3, c4]] W (NewRow (q.params.map Pa.nm) W) := by
 obtain ⟨vp, vv, vb, ve, hc, hnm, hpp, hvv, hbb, hee⟩ := h
 simp only [List.cons.injEq, and_true] at hc
 obtain ⟨rfl, rfl, rfl, rfl, rfl⟩ := hc
 obtain ⟨Ap, cp, rfl, _, _⟩ := hpp.shape
 obtain ⟨Av, cv, rfl, _, _⟩ := hvv.shape
 obtain ⟨Ab, cb, rfl, _⟩ := hbb.shape
 obtain ⟨Ae, ce, rfl, _⟩ := hee.shape
 have HPp := Lib.hid hpp
 have HI := Lib.hid hI
 obtain ⟨i0, hi0, hz0, hz1, hz2⟩ := info_parts string_info
 clear hpp hvv hbb hee hI
 go_enter Try.func81, Try.ntmps81
 go_upto_region 1 with fail
 have HBp : Hid (Blk (W.alloc (.cells #[.string q.nm, .slice Ap q.params.length cp, .slice Av q.vars.length cv, .slice Ab q.body.length cb, .slice Ae q.end_.length ce] 62)) W.heap.size 62 #[.string q.nm, .slice Ap q.params.length cp, .slice Av q.vars.length cv, .slice Ab q.body.length cb, .slice Ae q.end_.length ce]) := Lib.hid (Blk.new _ _ _)
 have HB0 : Hid (Below W.heap.size W (W.alloc (.cells #[.string q.nm, .slice Ap q.params.length cp, .slice Av q.vars.length cv, .slice Ab q.body.length cb, .slice Ae q.end_.length ce] 62))) := Lib.hid (below_box _)
 generalize World.alloc _ _ = V at HBp HB0 ⊢
 have q1 : V.cell? ⟨W.heap.size, 1, none⟩ = some (.slice Ap q.params.length cp) := by rw [HBp.out.cell]; rfl
 have HI0 := Lib.hid (HI.out.on HB0.out)
 have HS : Hid (NmI V V ((q.params.take 0).map Pa.nm) none 0 0) := Lib.hid ⟨World.ownsRow_nil _ _ _ _, Below.refl _ _⟩
 go_upto_region 3 with fail
 clear q1
 go_loopw [3, 9] (fun ov iv wr => ∃ (k : Nat) (X : Option Addr) (c : Nat), k ≤ q.params.length ∧ iv = .int .i64 k ∧ ov = .slice X k c ∧ Hid (NmI V wr ((q.params.take k).map Pa.nm) X k c)) (fun _ iv _ => q.params.length - (intOf iv).toNat)
 case atStart => exact ⟨0, none, 0, Nat.zero_le _, rfl, rfl, HS⟩
 case round =>
  clear HS
  obtain ⟨k, X, c, hk, rfl, rfl, HR⟩ := hrel
  have HIr := Lib.hid (HI0.out.on HR.out.below)
  by_cases hlt : k < q.params.length
  ·obtain ⟨a, rfl, _, ⟨p0, p1, _⟩, _⟩ := par_at HPp.out HIr.out hlt
   have HT : Hid (q.params.take (k + 1) = q.params.take k ++ [q.params[k]]) := Lib.hid (List.take_succ_eq_append_getElem hlt)
   generalize q.params[k] = x at p0 p1 HT
   obtain ⟨xn, xr⟩ := x
   simp only at p0 p1
   go_upto_region 5 with fail
   have HBx : Hid (Blk (wr.alloc (.cells #[.string xn, .bool xr] 65)) wr.heap.size 65 #[.string xn, .bool xr]) := Lib.hid (Blk.new _ _ _)
   have HO4 : Hid ((wr.alloc (.cells #[.string xn, .bool xr] 65)).ownsRow V.heap.size 9 1 (.slice X k c) k (strs ((q.params.take k).map Pa.nm))) := Lib.hid (HR.out.row.alloc _)
   have HB4 : Hid (Below V.heap.size V (wr.alloc (.cells #[.string xn, .bool xr] 65))) := Lib.hid (below_stepA HR.out.below _)
   clear p0 p1
   generalize World.alloc wr _ = V4 at HBx HO4 HB4 ⊢
   generalize wr.heap.size = bx at HBx ⊢
   have z0 : V4.cell? ⟨bx, 0, none⟩ = some (.string xn) := by rw [HBx.out.cell]; rfl
   have HW := Lib.hid (new_one V4 xn)
   have HO5 : Hid ((V4.alloc (.cells #[.string xn] 9)).ownsRow V.heap.size 9 1 (.slice X k c) k (strs ((q.params.take k).map Pa.nm))) := Lib.hid (HO4.out.alloc _)
   have HB5 : Hid (Below V.heap.size V (V4.alloc (.cells #[.string xn] 9))) := Lib.hid (below_stepA HB4.out _)
   go_upto_region 6 with (at_builtin; refine wpList_append_own_at _ rfl (.tmp 13) (.tmp 16) 22 rfl V.heap.size 9 i0 _ 1 16 Try.underlying22 hi0 hz0 hz1 hz2 rfl (by decide) _ k (strs ((q.params.take k).map Pa.nm)) rfl HO5.out ⟨V4.heap.size, 0, none⟩ 1 1 [.string xn] rfl rfl HW.out (by simp [Value.oneCell']) (by unfold maxLen; omega) (by omega) HB5.out.size ?_; intro v6 w6 hown6 hg6 _ hat6; obtain ⟨X6, k6, rfl, _, _⟩ := own_shape hown6; have HO6 := Lib.hid hown6; have HG6 := Lib.hid hg6; clear hown6 hg6 hat6)
   have HS : Hid (NmI V w6 ((q.params.take (k + 1)).map Pa.nm) X6 (k + 1) k6) := Lib.hid ⟨by rw [HT.out, List.map_append, strs_append]; exact HO6.out, HB5.out.grown HG6.out HB5.out.size (fun j hj => (HO5.out.lt j hj).1)⟩
   clear z0
   go_wp2_with fail
   go_roundw
   case rel => exact ⟨k + 1, X6, k6, by omega, by go_num, rfl, HS⟩
   case measure => simp [intOf]; omega
  ·have hke : k = q.params.length := by omega
   subst hke
   go_wp2_with fail
   go_ret
   refine ⟨_, rfl, own_lower ?_ HB0.out.size, below_step HB0.out HR.out.below⟩
   have h := HR.out.row
   rw [List.take_length] at h
   rw [List.length_map]
   exact h
end Go.Proofs.Ytnnblklbjbkikaa
