/- Texts, merged by a program; only what is used. -/
import Derived.Test.YtehpinnmalpgpaaGreatK1
import Derived.Test.YtehpinnmalpgpaaGreatK2
import Derived.Test.YtehpinnmalpgpaaGreatK3
import Derived.Test.YtehpinnmalpgpaaGreatK4
import Derived.Test.YtehpinnmalpgpaaGreatK5
import Derived.Test.YtehpinnmalpgpaaGreatK6
import Derived.Test.YtehpinnmalpgpaaGreatK7
import Derived.Test.YtehpinnmalpgpaaGreatK8
import Derived.Test.YtehpinnmalpgpaaGreatK9
import Derived.Test.YtehpinnmalpgpaaGreatK10
import Derived.Test.YtehpinnmalpgpaaGreatK11
import Derived.Test.YtehpinnmalpgpaaGreatK12
import Derived.Test.YtehpinnmalpgpaaGreatK13
import Derived.Test.YtehpinnmalpgpaaGreatK14
import Derived.Test.YtehpinnmalpgpaaGreatK15
import Derived.Test.YtehpinnmalpgpaaGreatK16
import Derived.Test.YtehpinnmalpgpaaGreatK17
import Derived.Test.YtehpinnmalpgpaaGreatK18
import Derived.Test.YtehpinnmalpgpaaGreatK19
import Derived.Test.YtehpinnmalpgpaaGreatK20
import Derived.Test.YtehpinnmalpgpaaGreatK21
import Derived.Test.YtehpinnmalpgpaaGreatK22
import Derived.Test.YtehpinnmalpgpaaGreatK23
import Derived.Test.YtehpinnmalpgpaaGreatK24
import Derived.Test.YtehpinnmalpgpaaGreatK25
import Derived.Test.YtehpinnmalpgpaaGreatK26
namespace Go.Proofs.YtehpinnmalpgpaaGreat
open Go.ChangeShapes Go.WideShapes Go.ChangeAt Go.RowKit Go.Deep
set_option linter.unusedVariables false
set_option linter.unusedSimpArgs false
set_option maxHeartbeats 4000000 in
set_option maxRecDepth 100000 in
theorem rSaid_any {w : World} {Q : Nat → Prop} {s : S} {cs : List Value} (h : StmtI w Q s cs) (hn : (saidS s).length ≤ 1000000) (W : World) (hI : In Q w W) :
 Calls Tryz.prog 28 #[.agg cs.toArray] W (NewRow (saidS s) W) := by
 obtain ⟨id, kind, labels, nm, proc, x, has, args, th, el, L, lc, x0, x1, x2, X, xn, xc, R, rc, T, tc, U, uc, rfl, rfl, hid, hkind, hnm, hproc, hl, hx, ha, hth, hel⟩ := stmt_open h
 have HNa := Lib.hid (fun V hV => rNames_any hx V hV)
 have HNs := Lib.hid (namesE_small hx)
 have HA := Lib.hid ha
 have HI := Lib.hid hI
 have HV : Hid (saidS (.mk id kind labels nm proc x has args th el) = ownV kind nm ++ namesE x ++ args.flatMap saidV) := Lib.hid rfl
 have HN : Hid ((ownV kind nm).length + (namesE x).length + (args.flatMap saidV).length ≤ 1000000) := Lib.hid (by rw [HV.out] at hn; simp only [List.length_append] at hn; exact hn)
 have hok := hkind
 unfold i64 at hok
 obtain ⟨i0, hi0, hz0, hz1, hz2⟩ := info_parts string_info
 obtain ⟨_, har, hrc, _⟩ := slice_len ha
 clear h hn hI hl hx ha hth hel hid hkind hnm hproc
 simp only [List.toArray]
 go_enter Tryz.func28, Tryz.ntmps28
 go_upto_region 1 with fail
 have HBp : Hid (Blk (W.alloc (.cells #[.int .i64 id, .int .i64 kind, .slice L labels.length lc, .string nm, .string proc, .int .i64 x0, .int .i64 x1, .string x2, .slice X xn xc, .bool has, .slice R args.length rc, .slice T th.length tc, .slice U el.length uc] 53)) W.heap.size 53 #[.int .i64 id, .int .i64 kind, .slice L labels.length lc, .string nm, .string proc, .int .i64 x0, .int .i64 x1, .string x2, .slice X xn xc, .bool has, .slice R args.length rc, .slice T th.length tc, .slice U el.length uc]) := Lib.hid (Blk.new _ _ _)
 have HB0 : Hid (Below W.heap.size W (W.alloc (.cells #[.int .i64 id, .int .i64 kind, .slice L labels.length lc, .string nm, .string proc, .int .i64 x0, .int .i64 x1, .string x2, .slice X xn xc, .bool has, .slice R args.length rc, .slice T th.length tc, .slice U el.length uc] 53))) := Lib.hid (below_box _)
 generalize World.alloc _ _ = V at HBp HB0 ⊢
 generalize W.heap.size = b at HBp ⊢
 have HI0 := Lib.hid (HI.out.on HB0.out)
 have hbl := HBp.out.lt
 have q1 : V.cell? ⟨b, 1, none⟩ = some (.int .i64 kind) := by rw [HBp.out.cell]; rfl
 have q3 : V.cell? ⟨b, 3, none⟩ = some (.string nm) := by rw [HBp.out.cell]; rfl
 go_upto_region 2 with fail
 obtain ⟨bb, hbb⟩ : ∃ bb, bb = (!nm.toList.isEmpty && kind != 10) := ⟨_, rfl⟩
 have HK : Hid (ownV kind nm = if bb = true then [nm] else []) := Lib.hid (by rw [hbb]; rfl)
 have Hbb := Lib.hid hbb
 clear hbb
 go_cut [13] from 6 to 12 (fun s wx => s = .bool bb ∧ wx = V)
 case first =>
  cases he : nm.toList.isEmpty with
  | true =>
   have he2 : (nm.toList == []) = true := by simpa using he
   have H2 : Hid (bb = false) := Lib.hid (by rw [Hbb.out, he]; rfl)
   go_wp2_with fail
   go_meet
   exact ⟨by rw [H2.out]; try rfl, rfl⟩
  | false =>
   have he2 : (nm.toList == []) = false := by simpa using he
   have H2 : Hid (bb = (kind != 10)) := Lib.hid (by rw [Hbb.out, he]; rfl)
   go_wp2_with fail
   go_meet
   exact ⟨by rw [H2.out]; try rfl, rfl⟩
 case rest =>
 obtain ⟨rfl, hw⟩ := hcut
 replace hw := hw.symm
 subst hw
 go_upto_if 13 with fail
 have HLn : Hid ((ownV kind nm).length ≤ 1) := Lib.hid (by unfold ownV; split <;> simp)
 go_cut [3] from 14 to 18 (fun s wx => ∃ (X2 : Option Addr) (k2 : Nat), s = .slice X2 (ownV kind nm).length k2 ∧ Hid (NmI V wx (ownV kind nm) X2 (ownV kind nm).length k2))
 case first =>
  have HO1a : Hid ((V.alloc (.cells #[.string nm] 9)).ownsRow V.heap.size 9 1 (.slice none 0 0) 0 (strs [])) := Lib.hid (World.ownsRow_nil _ _ _ _)
  have HB1a : Hid (Below V.heap.size V (V.alloc (.cells #[.string nm] 9))) := Lib.hid (below_box _)
  have HW := Lib.hid (new_one V nm)
  cases bb with
  | false =>
   have HK2 : Hid (ownV kind nm = []) := Lib.hid (by rw [HK.out]; rfl)
   go_wp2_with fail
   go_meet
   exact ⟨none, 0, by rw [HK2.out]; rfl, Lib.hid (by rw [HK2.out]; exact ⟨World.ownsRow_nil _ _ _ _, Below.refl _ _⟩)⟩
  | true =>
   have HK2 : Hid (ownV kind nm = [nm]) := Lib.hid (by rw [HK.out]; rfl)
   go_wp2_with (at_builtin; refine wpList_append_own_at _ rfl (.tmp 14) (.tmp 17) 22 rfl V.heap.size 9 i0 _ 1 16 Tryz.underlying22 hi0 hz0 hz1 hz2 rfl (by decide) _ 0 (strs []) rfl HO1a.out ⟨V.heap.size, 0, none⟩ 1 1 [.string nm] rfl rfl HW.out (by simp [Value.oneCell']) (by unfold maxLen; omega) (by omega) HB1a.out.size ?_; intro v6 w6 hown6 hg6 _ hat6; obtain ⟨X6, k6, rfl, _, _⟩ := own_shape hown6; have HO6 := Lib.hid hown6; have HG6 := Lib.hid hg6; clear hown6 hg6 hat6)
   go_meet
   exact ⟨X6, k6, by rw [HK2.out]; rfl, Lib.hid (by rw [HK2.out]; exact ⟨HO6.out, HB1a.out.grown HG6.out HB1a.out.size (fun j hj => (HO1a.out.lt j hj).1)⟩)⟩
 case rest =>
  obtain ⟨X1, k1, rfl, HS1⟩ := hcut
  clear q1 q3
  have HBp1 := Lib.hid (HBp.out.below HS1.out.below hbl)
  have HI1 := Lib.hid (HI0.out.on HS1.out.below)
  have q5 : wc.cell? ⟨b, 5, none⟩ = some (.int .i64 x0) := by rw [HBp1.out.cell]; rfl
  have q6 : wc.cell? ⟨b, 6, none⟩ = some (.int .i64 x1) := by rw [HBp1.out.cell]; rfl
  have q7 : wc.cell? ⟨b, 7, none⟩ = some (.string x2) := by rw [HBp1.out.cell]; rfl
  have q8 : wc.cell? ⟨b, 8, none⟩ = some (.slice X xn xc) := by rw [HBp1.out.cell]; rfl
  have HNn : Hid ((ownV kind nm).length + (namesE x).length ≤ 1000000) := Lib.hid (by have := HN.out; omega)
  go_upto_region 5 with (first
   | (go_at_call 69; refine (HNa.out wc HI1.out).mono ?_; rintro e w5 ⟨v5, rfl, ho5, hb5⟩; obtain ⟨X5, k5, rfl, _, _⟩ := own_shape ho5; have HT5 := Lib.hid (new_small HNs.out ho5); have HO5 : Hid (w5.ownsRow V.heap.size 9 1 (.slice X1 (ownV kind nm).length k1) (ownV kind nm).length (strs (ownV kind nm))) := Lib.hid ((Below.moves hb5).row HS1.out.row (fun j hj e => Nat.not_lt.2 e (HS1.out.row.lt j hj).2)); have HB5 := Lib.hid (below_step HS1.out.below hb5); clear ho5 hb5)
   | (at_builtin; refine wpList_append_texts rfl (.tmp 19) (.tmp 22) 22 rfl V.heap.size 9 i0 _ Tryz.underlying22 hi0 hz0 hz1 hz2 rfl _ (ownV kind nm).length (strs (ownV kind nm)) rfl HO5.out w5 (nw wc w5) X5 (namesE x) (namesE x).length k5 rfl rfl HT5.out ⟨fun j h => h.2, fun _ _ => rfl⟩ HNn.out HB5.out.size ?_; intro v6 w6 hown6 hg6; obtain ⟨X2, k2, rfl, _, _⟩ := own_shape hown6; have HO6 := Lib.hid hown6; have HG6 := Lib.hid hg6; clear hown6 hg6))
  have HS2 : Hid (NmI V w6 (ownV kind nm ++ namesE x) X2 ((ownV kind nm).length + (namesE x).length) k2) := Lib.hid ⟨by rw [strs_append]; exact HO6.out, HB5.out.grown HG6.out HB5.out.size (fun j hj => (HO5.out.lt j hj).1)⟩
  clear q5 q6 q7 q8 HNa HO5 HO6 HG6 HT5 HB5 HS1 HBp1 HI1 HNn
  have hl0 : (ownV kind nm).length + (namesE x).length = (ownV kind nm ++ namesE x).length := (List.length_append).symm
  have HN2 : Hid ((ownV kind nm ++ namesE x).length + (args.flatMap saidV).length ≤ 1000000) := Lib.hid (by have := HN.out; simp only [List.length_append]; omega)
  rw [hl0] at HS2 ⊢
  clear hl0 HN
  generalize ownV kind nm ++ namesE x = l0 at HS2 HV HN2 ⊢
  have HBp2 := Lib.hid (HBp.out.below HS2.out.below hbl)
  have q10 : w6.cell? ⟨b, 10, none⟩ = some (.slice R args.length rc) := by rw [HBp2.out.cell]; rfl
  go_upto_region 6 with fail
  clear q10 HBp2
  go_loopg [3, 27] args.length (fun kk ov iv wr => ∃ (k : Nat) (Xr : Option Addr) (n c : Nat), k + kk = args.length ∧ iv = .int .i64 k ∧ ov = .slice Xr n c ∧ n = (l0 ++ (args.take k).flatMap saidV).length ∧ Hid (NmI V wr (l0 ++ (args.take k).flatMap saidV) Xr n c))
  case atStart => exact ⟨0, X2, _, k2, by omega, rfl, rfl, by simp, Lib.hid (by simpa using HS2.out)⟩
  case round =>
   clear HS2
   obtain ⟨k, Xr, n, c, hk, rfl, rfl, hnl, HR⟩ := hrel
   have HIr := Lib.hid (HI0.out.on HR.out.below)
   by_cases hlt : k < args.length
   ·obtain ⟨a, o1, n1, s1, A1, l1, k1, rfl, _, ⟨p0, p1, p2, p3, p4, p5, _⟩, hs, hxa⟩ := arg_at HA.out HIr.out hlt
    have HC := Lib.hid (fun V hV => rNames_any hxa V hV)
    have HCs := Lib.hid (namesE_small hxa)
    have HT : Hid ((args.take (k + 1)).flatMap saidV = (args.take k).flatMap saidV ++ saidV args[k]) := Lib.hid (flat_take hlt)
    have HNk : Hid (n + (saidV args[k]).length ≤ 1000000) := Lib.hid (by
     have h1 := flat_take_le (f := saidV) (l := args) (k := k + 1)
     rw [HT.out] at h1
     have h2 := HN2.out
     rw [hnl]
     simp only [List.length_append] at h1 ⊢
     omega)
    have HLk : Hid (n = (l0 ++ (args.take k).flatMap saidV).length) := Lib.hid hnl
    generalize (args.take k).flatMap saidV = pre at HR HT HLk
    have HV2 : Hid (saidV args[k] = (if args[k].ref = true then [args[k].nm] else []) ++ namesE args[k].x) := Lib.hid rfl
    generalize args[k] = y at p0 p1 hs HC HCs HT HNk HV2
    obtain ⟨xr, xnm, xx⟩ := y
    simp only at p0 p1 hs HV2
    clear hnl
    go_upto_region 8 with fail
    have HBx : Hid (Blk (wr.alloc (.cells #[.bool xr, .string xnm, .int .i64 o1, .int .i64 n1, .string s1, .slice A1 l1 k1] 94)) wr.heap.size 94 #[.bool xr, .string xnm, .int .i64 o1, .int .i64 n1, .string s1, .slice A1 l1 k1]) := Lib.hid (Blk.new _ _ _)
    have HO4 : Hid ((wr.alloc (.cells #[.bool xr, .string xnm, .int .i64 o1, .int .i64 n1, .string s1, .slice A1 l1 k1] 94)).ownsRow V.heap.size 9 1 (.slice Xr n c) n (strs (l0 ++ pre))) := Lib.hid (HR.out.row.alloc _)
    have HB4 : Hid (Below V.heap.size V (wr.alloc (.cells #[.bool xr, .string xnm, .int .i64 o1, .int .i64 n1, .string s1, .slice A1 l1 k1] 94))) := Lib.hid (below_stepA HR.out.below _)
    have HI4 : Hid (In Q w (wr.alloc (.cells #[.bool xr, .string xnm, .int .i64 o1, .int .i64 n1, .string s1, .slice A1 l1 k1] 94))) := Lib.hid (HIr.out.alloc _)
    clear p0 p1 p2 p3 p4 p5
    generalize World.alloc wr _ = V4 at HBx HO4 HB4 HI4 ⊢
    generalize wr.heap.size = bx at HBx ⊢
    have z0 : V4.cell? ⟨bx, 0, none⟩ = some (.bool xr) := by rw [HBx.out.cell]; rfl
    have z1 : V4.cell? ⟨bx, 1, none⟩ = some (.string xnm) := by rw [HBx.out.cell]; rfl
    have z2 : V4.cell? ⟨bx, 2, none⟩ = some (.int .i64 o1) := by rw [HBx.out.cell]; rfl
    have z3 : V4.cell? ⟨bx, 3, none⟩ = some (.int .i64 n1) := by rw [HBx.out.cell]; rfl
    have z4 : V4.cell? ⟨bx, 4, none⟩ = some (.string s1) := by rw [HBx.out.cell]; rfl
    have z5 : V4.cell? ⟨bx, 5, none⟩ = some (.slice A1 l1 k1) := by rw [HBx.out.cell]; rfl
    obtain ⟨rp, hrp⟩ : ∃ rp : List ByteArray, rp = if xr = true then [xnm] else [] := ⟨_, rfl⟩
    rw [← hrp] at HV2
    rw [HV2.out] at HT HNk
    have HRp := Lib.hid hrp
    have HN1 : Hid (n + rp.length + (namesE xx).length ≤ 1000000) := Lib.hid (by have := HNk.out; rw [List.length_append] at this; omega)
    have HRl : Hid (n + rp.length ≤ 1000001) := Lib.hid (by have := HN1.out; omega)
    clear hrp
    have hxl := HBx.out.lt
    go_upto_if 32 with fail
    go_cut [3] from 33 to 37 (fun s wx => ∃ (X2 : Option Addr) (k2 : Nat), s = .slice X2 (n + rp.length) k2 ∧ Hid (wx.ownsRow V.heap.size 9 1 (.slice X2 (n + rp.length) k2) (n + rp.length) (strs (l0 ++ pre ++ rp))) ∧ Hid (V4.grownBy wx (Value.slice Xr n c).ownBlock))
    case first =>
     cases xr with
     | false =>
      have HK2 : Hid (rp = []) := Lib.hid HRp.out
      go_wp2_with fail
      go_meet
      exact ⟨Xr, c, by rw [HK2.out]; rfl, Lib.hid (by rw [HK2.out, List.append_nil]; exact HO4.out), Lib.hid (World.grownBy.refl _ _)⟩
     | true =>
      have HK2 : Hid (rp = [xnm]) := Lib.hid HRp.out
      have hn1 : n + 1 ≤ 1000001 := by have := HRl.out; rw [HK2.out] at this; exact this
      have HW := Lib.hid (new_one V4 xnm)
      have HO5 : Hid ((V4.alloc (.cells #[.string xnm] 9)).ownsRow V.heap.size 9 1 (.slice Xr n c) n (strs (l0 ++ pre))) := Lib.hid (HO4.out.alloc _)
      have HB5 : Hid (Below V.heap.size V (V4.alloc (.cells #[.string xnm] 9))) := Lib.hid (below_stepA HB4.out _)
      go_wp2_with (at_builtin; refine wpList_append_own_at _ rfl (.tmp 33) (.tmp 36) 22 rfl V.heap.size 9 i0 _ 1 16 Tryz.underlying22 hi0 hz0 hz1 hz2 rfl (by decide) _ n (strs (l0 ++ pre)) rfl HO5.out ⟨V4.heap.size, 0, none⟩ 1 1 [.string xnm] rfl rfl HW.out (by simp [Value.oneCell']) (by unfold maxLen; omega) (by omega) HB5.out.size ?_; intro v6 w7 hown6 hg6 _ hat6; obtain ⟨X6, k6, rfl, _, _⟩ := own_shape hown6; have HO6 := Lib.hid hown6; have HG6 := Lib.hid hg6; clear hown6 hg6 hat6)
      go_meet
      exact ⟨X6, k6, by rw [HK2.out]; rfl, Lib.hid (by rw [HK2.out, strs_append]; exact HO6.out), Lib.hid (grown_box HG6.out)⟩
    case rest =>
     obtain ⟨X7, k7, rfl, HO7, HG7⟩ := hcut
     have HB7 : Hid (Below V.heap.size V wc) := Lib.hid (HB4.out.grown HG7.out HB4.out.size (fun j hj => (HO4.out.lt j hj).1))
     have HI7 := Lib.hid (HI0.out.on HB7.out)
     have HBx7 : Hid (Blk wc bx 94 #[.bool xr, .string xnm, .int .i64 o1, .int .i64 n1, .string s1, .slice A1 l1 k1]) := Lib.hid (HBx.out.grown HG7.out (fun e => own_blk_ne HO4.out HBx.out (by decide) e.symm))
     clear z0 z1 z2 z3 z4 z5 HO4 HB4 HI4 HBx HG7
     have z2 : wc.cell? ⟨bx, 2, none⟩ = some (.int .i64 o1) := by rw [HBx7.out.cell]; rfl
     have z3 : wc.cell? ⟨bx, 3, none⟩ = some (.int .i64 n1) := by rw [HBx7.out.cell]; rfl
     have z4 : wc.cell? ⟨bx, 4, none⟩ = some (.string s1) := by rw [HBx7.out.cell]; rfl
     have z5 : wc.cell? ⟨bx, 5, none⟩ = some (.slice A1 l1 k1) := by rw [HBx7.out.cell]; rfl
     go_wp2_with (first
      | (go_at_call 69; refine (HC.out wc HI7.out).mono ?_; rintro e w8 ⟨v8, rfl, ho8, hb8⟩; obtain ⟨X8, k8, rfl, _, _⟩ := own_shape ho8; have HT8 := Lib.hid (new_small HCs.out ho8); have HO8 : Hid (w8.ownsRow V.heap.size 9 1 (.slice X7 (n + rp.length) k7) (n + rp.length) (strs (l0 ++ pre ++ rp))) := Lib.hid ((Below.moves hb8).row HO7.out (fun j hj e => Nat.not_lt.2 e (HO7.out.lt j hj).2)); have HB8 := Lib.hid (below_step HB7.out hb8); clear ho8 hb8)
      | (at_builtin; refine wpList_append_texts rfl (.tmp 38) (.tmp 41) 22 rfl V.heap.size 9 i0 _ Tryz.underlying22 hi0 hz0 hz1 hz2 rfl _ (n + rp.length) (strs (l0 ++ pre ++ rp)) rfl HO8.out w8 (nw wc w8) X8 (namesE xx) (namesE xx).length k8 rfl rfl HT8.out ⟨fun j h => h.2, fun _ _ => rfl⟩ HN1.out HB8.out.size ?_; intro v9 w9 hown9 hg9; obtain ⟨X9, k9, rfl, _, _⟩ := own_shape hown9; have HO9 := Lib.hid hown9; have HG9 := Lib.hid hg9; clear hown9 hg9))
     have HS : Hid (NmI V w9 (l0 ++ (args.take (k + 1)).flatMap saidV) X9 (n + rp.length + (namesE xx).length) k9) := Lib.hid ⟨by rw [HT.out, ← List.append_assoc, ← List.append_assoc, strs_append]; exact HO9.out, HB8.out.grown HG9.out HB8.out.size (fun j hj => (HO8.out.lt j hj).1)⟩
     go_roundg (args.length - k - 1)
     case measure => omega
     case rel => exact ⟨k + 1, X9, _, k9, by omega, by go_num, rfl, by rw [HT.out, ← List.append_assoc, ← List.append_assoc, List.length_append, List.length_append, ← HLk.out], HS⟩
   ·have hke : k = args.length := by omega
    subst hke
    go_wp2_with fail
    go_ret
    refine ⟨_, rfl, own_lower ?_ HB0.out.size, below_step HB0.out HR.out.below⟩
    have h := HR.out.row
    rw [List.take_length] at h hnl
    rw [HV.out]
    rw [hnl] at h ⊢
    exact h
end Go.Proofs.YtehpinnmalpgpaaGreat
namespace Go.Proofs.YtehpinnmalpgpaaGreat
open Go.ChangeShapes Go.WideShapes Go.ChangeAt Go.RowKit Go.Deep
set_option linter.unusedVariables false
set_option linter.unusedSimpArgs false
set_option maxHeartbeats 1000000 in
theorem rtwice_any {w W : World} {Q : Nat → Prop} {l : List ByteArray} {v : Value} (h : TextsI w Q l v) (hI : In Q w W) :
 Calls Tryz.prog 79 #[v] W (MayOk (dup l) W) := by
 obtain ⟨A, cap, rfl, hl1, hl2⟩ := h.shape
 have H := Lib.hid h
 have HI := Lib.hid hI
 clear h hI
 go_enter Tryz.func79, Tryz.ntmps79
 go_wp2_with fail
 go_loopg [7] l.length (fun kk i wr => ∃ k : Nat, k + kk = l.length ∧ i = .int .i64 k ∧ Hid (dupL (l.take k) (l.drop k) = dup l) ∧ Hid (Below W.heap.size W wr))
 case atStart => exact ⟨0, by omega, rfl, Lib.hid (by rw [List.drop_zero, List.take_zero]; rfl), Lib.hid (Below.refl _ _)⟩
 case round =>
  obtain ⟨k, hk, rfl, HW, HR⟩ := hrel
  by_cases hlt : k < l.length
  ·have HD := Lib.hid (dupL_step hlt)
   rw [HW.out] at HD
   have hkl : (l.take k).length = k := by rw [List.length_take]; omega
   generalize wr = wo at *
   go_wp2_with fail
   go_loopg [4] k (fun jj i wr => ∃ j : Nat, j + jj = k ∧ i = .int .i64 j ∧ Hid (((l.take k).drop j).any (isT l[k]) = (l.take k).any (isT l[k])) ∧ Hid (Below W.heap.size W wr))
   case atStart => exact ⟨0, by omega, rfl, Lib.hid (by rw [List.drop_zero]), HR⟩
   case round =>
    obtain ⟨j, hj, rfl, HA, HR2⟩ := hrel
    by_cases hjl : j < k
    ·obtain ⟨a, rfl, _, p1, hs⟩ := text_at H.out (HI.out.on HR2.out) hlt
     obtain ⟨a', ha', _, p2, hs2⟩ := text_at H.out (HI.out.on HR2.out) (show j < l.length by omega)
     injection ha' with ha'
     subst ha'
     have HB : Hid ((isT l[k] l[j] || ((l.take k).drop (j + 1)).any (isT l[k])) = (l.take k).any (isT l[k])) := Lib.hid (by
      rw [← HA.out, List.drop_eq_getElem_cons (show j < (l.take k).length by omega), List.any_cons, List.getElem_take])
     have hv : isT l[k] l[j] = (l[k].toList == l[j].toList) := (dec_bytes _ _).symm
     have hjl2 : j < l.length := by omega
     obtain ⟨x, hx⟩ : ∃ x, x = l[k] := ⟨_, rfl⟩
     rw [← hx] at p1 hs HB hv HD
     have HX := Lib.hid hx
     clear hx
     generalize l[j] = y at p2 hs2 HB hv
     clear HA
     cases hb : isT x y with
     | true =>
      rw [hb, Bool.true_or] at HB
      have HT : Hid (dup l = true) := Lib.hid (by rw [HD.out, ← HB.out]; rfl)
      have hv2 : (x.toList == y.toList) = true := by rw [← hv]; exact hb
      clear hv hb HD HB
      go_wp2_with fail
      go_quiet (fail)
      go_wp2_with fail
      go_ret
      exact ⟨ret_bool HT.out.symm, below_drewN HR2.out _⟩
     | false =>
      rw [hb, Bool.false_or] at HB
      have hv2 : (x.toList == y.toList) = false := by rw [← hv]; exact hb
      clear hv hb
      go_wp2_with fail
      go_quiet (fail)
      go_wp2_with fail
      go_roundg (k - j - 1)
      case measure => omega
      case rel => exact ⟨j + 1, by omega, by go_num, by rw [HX.out] at HB; exact HB, Lib.hid (below_drewN HR2.out _)⟩
    ·have HT : Hid (dupL (l.take (k + 1)) (l.drop (k + 1)) = dup l) := Lib.hid (by
      have h1 := HA.out
      rw [List.drop_of_length_le (by omega)] at h1
      rw [HD.out, ← h1]; rfl)
     clear HD HA
     go_wp2_with fail
     go_roundg (l.length - k - 1)
     case measure => omega
     case rel => exact ⟨k + 1, by omega, by go_num, HT, HR2⟩
  ·have HD : Hid (dup l = false) := Lib.hid (by rw [← HW.out, List.drop_of_length_le (by omega), dupL])
   go_wp2_with fail
   go_ret
   exact ⟨ret_bool HD.out.symm, HR.out⟩
def PcIn (w : World) (Q : Nat → Prop) (r : Pr × Bool) (W : World) (e : Ending) (w' : World) : Prop := ∃ d0 d1 d2 d3 d4, e = .returned (.tuple #[.agg #[d0, d1, d2, d3, d4], .bool r.2]) ∧ Below W.heap.size W w' ∧ ProcI w Q r.1 [d0, d1, d2, d3, d4]
def namP (p : Pg) (nm : ByteArray) : Pr × Bool := (p.procs.find? (isQ nm)).elim (P0, false) (fun q => (q, true))
set_option maxHeartbeats 2000000 in
set_option maxRecDepth 100000 in
theorem rnamed_any {w : World} {Q : Nat → Prop} {p : Pg} {c0 c1 : Value} (h : ProgI w Q p [c0, c1]) (nm : ByteArray) (W : World) (hI : In Q w W) :
  Calls Tryz.prog 44 #[.agg #[c0, c1], .string nm] W (PcIn w Q (namP p nm) W) := by
 obtain ⟨Ag, cg, Ap, cp, rfl, rfl, _, _, _, _, hgl, hpr⟩ := prog_open h
 have HP := Lib.hid hpr
 have HI := Lib.hid hI
 have HK : Hid (namP p nm = (p.procs.find? (isQ nm)).elim (P0, false) (fun q => (q, true))) := Lib.hid rfl
 clear h hI hpr hgl
 go_enter Tryz.func44, Tryz.ntmps44
 go_upto_region 1 with fail
 have HB0 : Hid (Below W.heap.size W ((W.alloc (.cells #[.slice Ag p.globals.length cg, .slice Ap p.procs.length cp] 25)).alloc (.cells zP 43))) := Lib.hid (below_two _ _)
 have HBp : Hid (Blk ((W.alloc (.cells #[.slice Ag p.globals.length cg, .slice Ap p.procs.length cp] 25)).alloc (.cells zP 43)) W.heap.size 25 #[.slice Ag p.globals.length cg, .slice Ap p.procs.length cp]) := Lib.hid ((Blk.new _ _ _).alloc _)
 have HBz : Hid (Blk ((W.alloc (.cells #[.slice Ag p.globals.length cg, .slice Ap p.procs.length cp] 25)).alloc (.cells zP 43)) (W.heap.size + 1) 43 zP) := Lib.hid (by have := Blk.new (W.alloc (.cells #[.slice Ag p.globals.length cg, .slice Ap p.procs.length cp] 25)) 43 zP; rw [World.size_alloc] at this; exact this)
 generalize World.alloc _ _ = V at HB0 HBp HBz ⊢
 have HI0 := Lib.hid (HI.out.on HB0.out)
 have q1 : V.cell? ⟨W.heap.size, 1, none⟩ = some (.slice Ap p.procs.length cp) := by rw [HBp.out.cell]; rfl
 have hbl := HBp.out.lt
 go_upto_region 2 with fail
 clear q1
 go_loopw [11] (fun iv wr => ∃ (k : Nat), k ≤ p.procs.length ∧ iv = .int .i64 k ∧ Hid ((p.procs.drop k).find? (isQ nm) = p.procs.find? (isQ nm)) ∧ Hid (Below V.heap.size V wr)) (fun iv _ => p.procs.length - (intOf iv).toNat)
 case atStart => exact ⟨0, Nat.zero_le _, rfl, Lib.hid (by rw [List.drop_zero]), Lib.hid (Below.refl _ _)⟩
 case round =>
  obtain ⟨k, hk, rfl, HW, HR⟩ := hrel
  have HIr := Lib.hid (HI0.out.on HR.out)
  have HBW := Lib.hid (below_step HB0.out HR.out)
  have HBzr := Lib.hid (HBz.out.below HR.out HBz.out.lt)
  by_cases hlt : k < p.procs.length
  ·obtain ⟨a, Bp, kp, Bv, kv, Bb, kb, Be, ke, rfl, hqa, hrow, hnm, hpp, hvv, hbody, hee⟩ := proc_at HP.out HIr.out hlt
   have HPI : Hid (ProcI w Q p.procs[k] [.string p.procs[k].nm, .slice Bp p.procs[k].params.length kp, .slice Bv p.procs[k].vars.length kv, .slice Bb p.procs[k].body.length kb, .slice Be p.procs[k].end_.length ke]) := Lib.hid ⟨_, _, _, _, rfl, hnm, hpp, hvv, hbody, hee⟩
   have HD := HW.out
   rw [List.drop_eq_getElem_cons hlt, List.find?_cons] at HD
   have hv := isQ_eq nm p.procs[k]
   have hb' : ∃ b, isQ nm p.procs[k] = b := ⟨_, rfl⟩
   obtain ⟨b, hb⟩ := hb'
   rw [hb] at HD hv
   clear hb hnm hpp hvv hbody hee
   generalize hqq : p.procs[k] = qq at hrow HPI HD hv
   clear hqq
   generalize qq.nm = qn at hrow HPI hv
   generalize qq.params.length = x1 at hrow HPI
   generalize qq.vars.length = x2 at hrow HPI
   generalize qq.body.length = x3 at hrow HPI
   generalize qq.end_.length = x4 at hrow HPI
   obtain ⟨p0, p1, p2, p3, p4, _⟩ := hrow
   clear HW
   go_upto_region 4 with fail
   have HBq : Hid (Blk (wr.alloc (.cells #[.string qn, .slice Bp x1 kp, .slice Bv x2 kv, .slice Bb x3 kb, .slice Be x4 ke] 43)) wr.heap.size 43 #[.string qn, .slice Bp x1 kp, .slice Bv x2 kv, .slice Bb x3 kb, .slice Be x4 ke]) := Lib.hid (Blk.new _ _ _)
   have HBo : Hid (Below wr.heap.size wr (wr.alloc (.cells #[.string qn, .slice Bp x1 kp, .slice Bv x2 kv, .slice Bb x3 kb, .slice Be x4 ke] 43))) := Lib.hid (below_box _)
   clear p0 p1 p2 p3 p4
   generalize hW6 : World.alloc wr _ = W6 at HBq HBo ⊢
   clear hW6
   have HBzq := Lib.hid (HBzr.out.below HBo.out HBzr.out.lt)
   have HB6 := Lib.hid (below_step HBW.out HBo.out)
   have HR6 := Lib.hid (below_step HR.out HBo.out)
   have hne : wr.heap.size ≠ W.heap.size + 1 := by have := HBzr.out.lt; omega
   generalize wr.heap.size = bq at HBq hne ⊢
   have z0 : W6.cell? ⟨bq, 0, none⟩ = some (.string qn) := by rw [HBq.out.cell]; rfl
   have z1 : W6.cell? ⟨bq, 1, none⟩ = some (.slice Bp x1 kp) := by rw [HBq.out.cell]; rfl
   have z2 : W6.cell? ⟨bq, 2, none⟩ = some (.slice Bv x2 kv) := by rw [HBq.out.cell]; rfl
   have z3 : W6.cell? ⟨bq, 3, none⟩ = some (.slice Bb x3 kb) := by rw [HBq.out.cell]; rfl
   have z4 : W6.cell? ⟨bq, 4, none⟩ = some (.slice Be x4 ke) := by rw [HBq.out.cell]; rfl
   cases b with
   | true =>
    simp only at HD
    rw [← HD, Option.elim_some] at HK
    have y0 : W6.cell? ⟨W.heap.size + 1, 0, none⟩ = some (.string ⟨#[]⟩) := by rw [HBzq.out.cell]; rfl
    have y1 : W6.cell? ⟨W.heap.size + 1, 1, none⟩ = some (.slice none 0 0) := by rw [HBzq.out.cell]; rfl
    have y2 : W6.cell? ⟨W.heap.size + 1, 2, none⟩ = some (.slice none 0 0) := by rw [HBzq.out.cell]; rfl
    have y3 : W6.cell? ⟨W.heap.size + 1, 3, none⟩ = some (.slice none 0 0) := by rw [HBzq.out.cell]; rfl
    have y4 : W6.cell? ⟨W.heap.size + 1, 4, none⟩ = some (.slice none 0 0) := by rw [HBzq.out.cell]; rfl
    have f0 := HBzq.out.frozen 0
    have f1 := HBzq.out.frozen 1
    have f2 := HBzq.out.frozen 2
    have f3 := HBzq.out.frozen 3
    have f4 := HBzq.out.frozen 4
    have hzl := HBzq.out.lt
    have hv2 := hv.symm
    clear hv HD
    go_wp2_with fail
    (try simp only [Exit.inBlock, Exit.then])
    refine bodyPost_ret (results_ct rfl _ _ (W.heap.size + 1) 43 _ (0, 0) _ rfl (pc5_blk HBzq.out) Tryz.underlying43 rfl (by kernel_rfl)) rfl ?_
    rw [HK.out]
    exact ⟨_, _, _, _, _, rfl, pc5_below HB6.out (by omega), HPI.out⟩
   | false =>
    simp only at HD
    have HD := Lib.hid HD
    have hv2 := hv.symm
    clear hv
    go_wp2_with fail
    go_roundw
    case rel => exact ⟨k + 1, by omega, by go_num, HD, HR6⟩
    case measure => simp [intOf]; omega
  ·have hn := HW.out
   rw [List.drop_of_length_le (by omega), List.find?_nil] at hn
   rw [← hn, Option.elim_none] at HK
   clear hn HW
   have y0 : wr.cell? ⟨W.heap.size + 1, 0, none⟩ = some (.string ⟨#[]⟩) := by rw [HBzr.out.cell]; rfl
   have y1 : wr.cell? ⟨W.heap.size + 1, 1, none⟩ = some (.slice none 0 0) := by rw [HBzr.out.cell]; rfl
   have y2 : wr.cell? ⟨W.heap.size + 1, 2, none⟩ = some (.slice none 0 0) := by rw [HBzr.out.cell]; rfl
   have y3 : wr.cell? ⟨W.heap.size + 1, 3, none⟩ = some (.slice none 0 0) := by rw [HBzr.out.cell]; rfl
   have y4 : wr.cell? ⟨W.heap.size + 1, 4, none⟩ = some (.slice none 0 0) := by rw [HBzr.out.cell]; rfl
   have f0 := HBzr.out.frozen 0
   have f1 := HBzr.out.frozen 1
   have f2 := HBzr.out.frozen 2
   have f3 := HBzr.out.frozen 3
   have f4 := HBzr.out.frozen 4
   have hzl := HBzr.out.lt
   go_wp2_with fail
   (try simp only [Exit.inBlock, Exit.then])
   refine bodyPost_ret (results_ct rfl _ _ (W.heap.size + 1) 43 _ (0, 0) _ rfl (pc5_blk HBzr.out) Tryz.underlying43 rfl (by kernel_rfl)) rfl ?_
   rw [HK.out]
   exact ⟨_, _, _, _, _, rfl, pc5_below HBW.out (by omega), zero_proc _ _⟩
end Go.Proofs.YtehpinnmalpgpaaGreat
namespace Go.Proofs.YtehpinnmalpgpaaGreat
open Go.ChangeShapes Go.WideShapes Go.ChangeAt Go.RowKit Go.Deep
set_option linter.unusedVariables false
set_option linter.unusedSimpArgs false
def bearsD (its : List It) (end_ : List ByteArray) (label : ByteArray) : Int × Bool :=
 match its.find? (fun x => hasL label x.s) with
 | some x => (x.s.id, true)
 | none => if end_.any (isT label) = true then (-1, true) else (0, false)
theorem bearsD_at {q : Pr} (h : (flatOf q).map It.s = preSL q.body) (label : ByteArray) : bearsD (flatOf q) q.end_ label = atQ label q := by
 unfold bearsD atQ
 rw [← h, List.find?_map, show (hasL label ∘ It.s) = (fun x : It => hasL label x.s) from rfl]
 cases (flatOf q).find? (fun x => hasL label x.s) <;> rfl
set_option maxHeartbeats 2000000 in
set_option maxRecDepth 100000 in
theorem rBears_any {w W0 W w2 : World} {Q Q0 Q2 : Nat → Prop} {its : List It} {end_ : List ByteArray} {v ve : Value} (h : SliceI W0 Q0 16 (ItemI w Q) its v) (hI0 : In Q0 W0 W) (hI : In Q w W) (he : TextsI w2 Q2 end_ ve) (hI2 : In Q2 w2 W) (label : ByteArray) :
 Calls Tryz.prog 41 #[v, ve, .string label] W fun e w' => e = .returned (.tuple #[.int .i64 (bearsD its end_ label).1, .bool (bearsD its end_ label).2]) ∧ Below W.heap.size W w' := by
 obtain ⟨A, cap, rfl, hl1, hl2⟩ := h.shape
 obtain ⟨A2, cap2, rfl, hl3, hl4⟩ := he.shape
 have H := Lib.hid h
 have HE := Lib.hid he
 have HI0 := Lib.hid hI0
 have HI := Lib.hid hI
 have HI2 := Lib.hid hI2
 obtain ⟨res, hres⟩ : ∃ res, res = bearsD its end_ label := ⟨_, rfl⟩
 rw [← hres]
 have HR := Lib.hid hres
 clear h he hI0 hI hI2 hres
 go_enter Tryz.func41, Tryz.ntmps41
 go_wp2_with fail
 go_loopg [12] its.length (fun kk i wr => ∃ k : Nat, k + kk = its.length ∧ i = .int .i64 k ∧ Hid (Below W.heap.size W wr) ∧ Hid ((its.drop k).find? (fun x => hasL label x.s) = its.find? (fun x => hasL label x.s)))
 case atStart => exact ⟨0, by omega, rfl, Lib.hid (Below.refl _ _), Lib.hid (by rw [List.drop_zero])⟩
 case round =>
  obtain ⟨k, hk, rfl, HBr, HF⟩ := hrel
  by_cases hlt : k < its.length
  ·obtain ⟨a2, id, kind, labels, nm, proc, x, has, args, th, el, L, lc, y0, y1, y2, X, xn, xc, R, rc, T, tc, U, uc, dp, inn, els, rfl, hq2, hmk, hrow2, hid, hkind, hst, hdp, hinn, hels⟩ := item_at2 H.out (W := wr) (HI0.out.on HBr.out) hlt
   have HD : Hid (its.find? (fun x => hasL label x.s) = if labels.any (isT label) = true then some its[k] else (its.drop (k + 1)).find? (fun x => hasL label x.s)) := Lib.hid (by
    rw [← HF.out, List.drop_eq_getElem_cons hlt, List.find?_cons]
    have e : hasL label its[k].s = labels.any (isT label) := by rw [hmk]; rfl
    rw [e]
    cases labels.any (isT label) <;> rfl)
   have HId : Hid (its[k].s.id = id) := Lib.hid (by rw [hmk]; rfl)
   have HLb : Hid (TextsI w Q labels (.slice L labels.length lc)) := Lib.hid (by cases hst with | mk _ _ _ _ hl _ _ _ _ _ _ _ _ => exact hl)
   obtain ⟨p0, p1, p2, p3, p4, p5, p6, p7, p8, p9, p10, p11, p12, p13, p14, p15, _⟩ := hrow2
   generalize its[k] = xi at HD HId
   clear hmk hst hid hkind hq2 hdp hinn hels HF
   go_upto_region 4 with fail
   have HBi : Hid (Blk (wr.alloc (.cells #[.int .i64 id, .int .i64 kind, .slice L labels.length lc, .string nm, .string proc, .int .i64 y0, .int .i64 y1, .string y2, .slice X xn xc, .bool has, .slice R args.length rc, .slice T th.length tc, .slice U el.length uc, .int .i64 dp, .int .i64 inn, .bool els] 55)) wr.heap.size 55 #[.int .i64 id, .int .i64 kind, .slice L labels.length lc, .string nm, .string proc, .int .i64 y0, .int .i64 y1, .string y2, .slice X xn xc, .bool has, .slice R args.length rc, .slice T th.length tc, .slice U el.length uc, .int .i64 dp, .int .i64 inn, .bool els]) := Lib.hid (Blk.new _ _ _)
   have HB5 : Hid (Below W.heap.size W (wr.alloc (.cells #[.int .i64 id, .int .i64 kind, .slice L labels.length lc, .string nm, .string proc, .int .i64 y0, .int .i64 y1, .string y2, .slice X xn xc, .bool has, .slice R args.length rc, .slice T th.length tc, .slice U el.length uc, .int .i64 dp, .int .i64 inn, .bool els] 55))) := Lib.hid (below_stepA HBr.out _)
   clear p0 p1 p2 p3 p4 p5 p6 p7 p8 p9 p10 p11 p12 p13 p14 p15 HBr
   generalize World.alloc wr _ = V5 at HBi HB5 ⊢
   generalize wr.heap.size = bi at HBi ⊢
   have s0 : V5.cell? ⟨bi, 0, none⟩ = some (.int .i64 id) := by rw [HBi.out.cell]; rfl
   have s2 : V5.cell? ⟨bi, 2, none⟩ = some (.slice L labels.length lc) := by rw [HBi.out.cell]; rfl
   have HIn := Lib.hid (rIn_any (W := V5) HLb.out (HI.out.on HB5.out) label)
   cases hb : labels.any (isT label) with
   | true =>
    rw [hb] at HIn
    rw [hb, if_pos rfl] at HD
    have HRv : Hid (res = (id, true)) := Lib.hid (by rw [HR.out]; unfold bearsD; rw [HD.out]; show (xi.s.id, true) = _; rw [HId.out])
    clear hb
    go_wp2_with (go_at_call 29; refine HIn.out.mono ?_; rintro e w' ⟨rfl, rfl⟩)
    go_ret2
    exact ⟨(by rw [HRv.out]; rfl), HB5.out⟩
   | false =>
    rw [hb] at HIn
    rw [hb, if_neg (by simp)] at HD
    clear hb
    go_wp2_with (go_at_call 29; refine HIn.out.mono ?_; rintro e w' ⟨rfl, rfl⟩)
    go_roundg (its.length - k - 1)
    case measure => omega
    case rel => exact ⟨k + 1, by omega, by go_num, HB5, Lib.hid HD.out.symm⟩
  ·have HN : Hid (its.find? (fun x => hasL label x.s) = none) := Lib.hid (by rw [← HF.out, List.drop_of_length_le (by omega)]; rfl)
   have HIn := Lib.hid (rIn_any (W := wr) HE.out (HI2.out.on HBr.out) label)
   cases hb : end_.any (isT label) with
   | true =>
    rw [hb] at HIn
    have HRv : Hid (res = (-1, true)) := Lib.hid (by rw [HR.out]; unfold bearsD; rw [HN.out, hb]; rfl)
    clear hb
    go_wp2_with (go_at_call 29; refine HIn.out.mono ?_; rintro e w' ⟨rfl, rfl⟩)
    go_ret2
    exact ⟨(by rw [HRv.out]; rfl), HBr.out⟩
   | false =>
    rw [hb] at HIn
    have HRv : Hid (res = (0, false)) := Lib.hid (by rw [HR.out]; unfold bearsD; rw [HN.out, hb]; rfl)
    clear hb
    go_wp2_with (go_at_call 29; refine HIn.out.mono ?_; rintro e w' ⟨rfl, rfl⟩)
    go_ret2
    exact ⟨(by rw [HRv.out]; rfl), HBr.out⟩
end Go.Proofs.YtehpinnmalpgpaaGreat
