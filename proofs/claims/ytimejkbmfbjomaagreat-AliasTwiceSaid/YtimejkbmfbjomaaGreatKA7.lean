/- Texts, merged by a program; only what is used. -/
import Derived.Test.YtimejkbmfbjomaaGreatK1
import Derived.Test.YtimejkbmfbjomaaGreatK2
import Derived.Test.YtimejkbmfbjomaaGreatK3
import Derived.Test.YtimejkbmfbjomaaGreatK4
import Derived.Test.YtimejkbmfbjomaaGreatK5
import Derived.Test.YtimejkbmfbjomaaGreatK6
import Derived.Test.YtimejkbmfbjomaaGreatK7
import Derived.Test.YtimejkbmfbjomaaGreatK8
import Derived.Test.YtimejkbmfbjomaaGreatK9
import Derived.Test.YtimejkbmfbjomaaGreatK10
import Derived.Test.YtimejkbmfbjomaaGreatK11
import Derived.Test.YtimejkbmfbjomaaGreatK12
import Derived.Test.YtimejkbmfbjomaaGreatK13
import Derived.Test.YtimejkbmfbjomaaGreatK14
import Derived.Test.YtimejkbmfbjomaaGreatK15
import Derived.Test.YtimejkbmfbjomaaGreatK16
import Derived.Test.YtimejkbmfbjomaaGreatK17
import Derived.Test.YtimejkbmfbjomaaGreatK18
import Derived.Test.YtimejkbmfbjomaaGreatK19
import Derived.Test.YtimejkbmfbjomaaGreatK20
import Derived.Test.YtimejkbmfbjomaaGreatK21
import Derived.Test.YtimejkbmfbjomaaGreatK22
import Derived.Test.YtimejkbmfbjomaaGreatK23
import Derived.Test.YtimejkbmfbjomaaGreatK24
import Derived.Test.YtimejkbmfbjomaaGreatK25
import Derived.Test.YtimejkbmfbjomaaGreatK26
import Derived.Test.YtimejkbmfbjomaaGreatK27
import Derived.Test.YtimejkbmfbjomaaGreatK28
import Derived.Test.YtimejkbmfbjomaaGreatK29
import Derived.Test.YtimejkbmfbjomaaGreatK30
import Derived.Test.YtimejkbmfbjomaaGreatKA1
import Derived.Test.YtimejkbmfbjomaaGreatKA2
import Derived.Test.YtimejkbmfbjomaaGreatKA3
import Derived.Test.YtimejkbmfbjomaaGreatKA4
import Derived.Test.YtimejkbmfbjomaaGreatKA5
import Derived.Test.YtimejkbmfbjomaaGreatKA6
namespace Go.Proofs.YtimejkbmfbjomaaGreat
open Go.ChangeShapes Go.WideShapes Go.ChangeAt Go.RowKit Go.Deep
set_option linter.unusedVariables false
set_option linter.unusedSimpArgs false
theorem some_sec2 : ∃ s2, someP.procs[0].body[1]? = some s2 ∧ (fitsA someP s2 = true ∧ s2.args.length ≤ 1000000) ∧ fitsA someP (setNm s2 ⟨#[118]⟩) = true ∧ refsOf s2.args = [⟨#[118]⟩] ∧ s2.nm = ⟨#[103]⟩ := ⟨_, rfl, ⟨by decide +kernel, by decide⟩, by decide +kernel, by decide +kernel, rfl⟩
theorem some_ar : (arP someP).1 = 0 := by decide +kernel
theorem some_tk (proc : ByteArray) : tkB someP proc ⟨#[118]⟩ = false := by
 cases h : tkB someP proc ⟨#[118]⟩ with
 | false => rfl
 | true => exact absurd (List.mem_singleton.1 (show _ ∈ [(⟨#[103]⟩ : ByteArray)] from tk_glob h)) (by decide +kernel)
theorem some_ap1 {id kind : Int} {labels : List ByteArray} {nm proc : ByteArray} {x : E} {has : Bool} {args : List Ar} {th el : List S} (hr : refsOf args = [⟨#[118]⟩]) (hn : nm = ⟨#[103]⟩) : apB someP (.mk id kind labels nm proc x has args th el) = true := by
 show apL (tkB someP proc) nm [] (refsOf args) = true
 rw [hr, hn, apL, apL, some_tk]
 decide +kernel
theorem some_ap2 {id kind : Int} {labels : List ByteArray} {proc : ByteArray} {x : E} {has : Bool} {args : List Ar} {th el : List S} (hr : refsOf args = [⟨#[118]⟩]) : apB someP (.mk id kind labels ⟨#[118]⟩ proc x has args th el) = false := by
 show apL (tkB someP proc) ⟨#[118]⟩ [] (refsOf args) = false
 rw [hr, apL, apL]
 simp
set_option maxHeartbeats 8000000 in
set_option maxRecDepth 100000 in
theorem apart_any (W : World) : Calls Tryz.prog 24 #[] W (MayOk true W) := by
 go_enter Tryz.func24, Tryz.ntmps24
 go_upto_region 1 with fail
 go_upto_region 2 with (go_at_call 36; refine (Some_any _).mono ?_; rintro e w1 ⟨c0, c1, rfl, hb1, hp1⟩; obtain ⟨Ag, cg, Ap, cp, rfl, rfl, _, _, _, _, _, hpr⟩ := prog_open hp1)
 have HI1 : Hid (In (nw W w1) w1 (w1.alloc (.cells #[.slice Ag someP.globals.length cg, .slice Ap someP.procs.length cp] 25))) := Lib.hid (In.on ⟨fun b h => h.2, fun _ _ => rfl⟩ (below_box _))
 have HB1 : Hid (Below W.heap.size W (w1.alloc (.cells #[.slice Ag someP.globals.length cg, .slice Ap someP.procs.length cp] 25))) := Lib.hid (below_stepA hb1 _)
 have HBp : Hid (Blk (w1.alloc (.cells #[.slice Ag someP.globals.length cg, .slice Ap someP.procs.length cp] 25)) w1.heap.size 25 #[.slice Ag someP.globals.length cg, .slice Ap someP.procs.length cp]) := Lib.hid (Blk.new _ _ _)
 have HW0 : Hid (w1.heap.size ≤ (w1.alloc (.cells #[.slice Ag someP.globals.length cg, .slice Ap someP.procs.length cp] 25)).heap.size) := Lib.hid (below_box (W := w1) _).size
 have HPi := Lib.hid hp1
 have HPr := Lib.hid hpr
 clear hpr hp1 hb1
 generalize World.alloc w1 _ = W2 at HI1 HB1 HBp HW0 ⊢
 generalize w1.heap.size = b at HBp ⊢
 obtain ⟨a, Bp, kp, Bv, kv, Bb, kb, Be, ke, rfl, _, ⟨p0, p1, p2, p3, p4, _⟩, _, _, _, hbody, _⟩ := proc_at HPr.out HI1.out some_ok1
 obtain ⟨s2, hs2, hfs⟩ := some_sec2
 have hbl : 1 < someP.procs[0].body.length := some_ok2
 have HBd := Lib.hid hbody
 generalize someP.procs[0].body = bd at p3 HBd hs2 hbl
 obtain ⟨a2, id, kind, labels, nm, proc, x, has, args, th, el, L, lc, y0, y1, y2, X, xn, xc, R, rc, T, tc, U, uc, rfl, _, hlk, ⟨r0, r1, r2, r3, r4, r5, r6, r7, r8, r9, r10, r11, r12, _⟩, _, _, _, _, _, _, _, _, _, hst⟩ := stmt_at HBd.out HI1.out hbl
 have hbs : bd[1] = s2 := by rw [List.getElem?_eq_getElem hbl] at hs2; injection hs2
 rw [hbs] at hst
 have hse : S.mk id kind labels nm proc x has args th el = s2 := hlk.symm.trans hbs
 have hst0 := hst
 rw [← hse] at hst0 hfs
 obtain ⟨hf1, hf2, hrf, hnm⟩ := hfs
 have hst2 := stmt_nm (n := ⟨#[118]⟩) hst0 (by decide)
 have hna : (S.mk id kind labels nm proc x has args th el).args.length ≤ 1000000 := hf1.2
 have hna2 : (S.mk id kind labels ⟨#[118]⟩ proc x has args th el).args.length ≤ 1000000 := hf1.2
 have HFi := Lib.hid (fun V hV => alFits_pos HPi.out some_smG some_hck hst0 hna some_ar V hV hV (fun V hV _ => by have h := aFits_any HPi.out some_smG hst0 V hV; rwa [hf1.1] at h))
 have HFj := Lib.hid (fun V hV => alFits_pos HPi.out some_smG some_hck hst2 hna2 some_ar V hV hV (fun V hV _ => by have h := aFits_any HPi.out some_smG hst2 V hV; rwa [show fitsA someP (.mk id kind labels ⟨#[118]⟩ proc x has args th el) = true from hf2] at h))
 rw [show apB someP (.mk id kind labels nm proc x has args th el) = true from some_ap1 hrf hnm] at HFi
 rw [show apB someP (.mk id kind labels ⟨#[118]⟩ proc x has args th el) = false from some_ap2 hrf] at HFj
 simp only [List.toArray] at HFi HFj
 have HCe := Lib.hid (fun V : World => alCheck_any (empty_prog W (fun _ => False)) empty_smG (fun h => absurd h (by decide +kernel)) V ⟨fun _ h => h.elim, fun _ h => h.elim⟩)
 rw [show alP ⟨[], []⟩ = (1, 0) by unfold alP; rw [if_neg (by decide +kernel)]] at HCe
 have q0 : W2.cell? ⟨b, 0, none⟩ = some (.slice Ag someP.globals.length cg) := by rw [HBp.out.cell]; rfl
 have q1 : W2.cell? ⟨b, 1, none⟩ = some (.slice (some a) someP.procs.length cp) := by rw [HBp.out.cell]; rfl
 have hl2 : someP.procs.length = 2 := rfl
 have hpb := HBp.out.lt
 simp only [hl2] at HFi HFj
 rw [Nat.zero_mul, add_zero_] at p3
 have p3' : W2.cell? ⟨a.block, a.off + 3, none⟩ = some (.slice (some a2) bd.length kb) := p3
 have hbi : (1 : Int) < (bd.length : Int) := by omega
 simp only [Nat.one_mul, add_ne a2 (show (13 : Nat) ≠ 0 by decide)] at r0 r1 r2 r3 r4 r5 r6 r7 r8 r9 r10 r11 r12
 clear p0 p1 p2 p4 p3 hlk hst hbody hs2 hbs hst0 hst2 hse hf1 hf2 hrf hnm hna hna2
 go_upto_region 3 with fail
 have HBs : Hid (Blk (W2.alloc (.cells #[.int .i64 id, .int .i64 kind, .slice L labels.length lc, .string nm, .string proc, .int .i64 y0, .int .i64 y1, .string y2, .slice X xn xc, .bool has, .slice R args.length rc, .slice T th.length tc, .slice U el.length uc] 49)) W2.heap.size 49 #[.int .i64 id, .int .i64 kind, .slice L labels.length lc, .string nm, .string proc, .int .i64 y0, .int .i64 y1, .string y2, .slice X xn xc, .bool has, .slice R args.length rc, .slice T th.length tc, .slice U el.length uc]) := Lib.hid (Blk.new _ _ _)
 have HB3 : Hid (Below W.heap.size W (W2.alloc (.cells #[.int .i64 id, .int .i64 kind, .slice L labels.length lc, .string nm, .string proc, .int .i64 y0, .int .i64 y1, .string y2, .slice X xn xc, .bool has, .slice R args.length rc, .slice T th.length tc, .slice U el.length uc] 49))) := Lib.hid (below_stepA HB1.out _)
 have HI3 : Hid (In (nw W w1) w1 (W2.alloc (.cells #[.int .i64 id, .int .i64 kind, .slice L labels.length lc, .string nm, .string proc, .int .i64 y0, .int .i64 y1, .string y2, .slice X xn xc, .bool has, .slice R args.length rc, .slice T th.length tc, .slice U el.length uc] 49))) := Lib.hid (HI1.out.alloc _)
 have HBp3 : Hid (Blk (W2.alloc (.cells #[.int .i64 id, .int .i64 kind, .slice L labels.length lc, .string nm, .string proc, .int .i64 y0, .int .i64 y1, .string y2, .slice X xn xc, .bool has, .slice R args.length rc, .slice T th.length tc, .slice U el.length uc] 49)) b 25 #[.slice Ag someP.globals.length cg, .slice (some a) someP.procs.length cp]) := Lib.hid (HBp.out.alloc _)
 clear r0 r1 r2 r3 r4 r5 r6 r7 r8 r9 r10 r11 r12 p3' q0 q1
 have HW1 : Hid (w1.heap.size ≤ (W2.alloc (.cells #[.int .i64 id, .int .i64 kind, .slice L labels.length lc, .string nm, .string proc, .int .i64 y0, .int .i64 y1, .string y2, .slice X xn xc, .bool has, .slice R args.length rc, .slice T th.length tc, .slice U el.length uc] 49)).heap.size) := Lib.hid (Nat.le_trans HW0.out (below_box (W := W2) _).size)
 generalize World.alloc W2 _ = V3 at HBs HB3 HI3 HBp3 HW1 ⊢
 generalize W2.heap.size = bs at HBs ⊢
 have q0 : V3.cell? ⟨b, 0, none⟩ = some (.slice Ag someP.globals.length cg) := by rw [HBp3.out.cell]; rfl
 have q1 : V3.cell? ⟨b, 1, none⟩ = some (.slice (some a) someP.procs.length cp) := by rw [HBp3.out.cell]; rfl
 have s0 : V3.cell? ⟨bs, 0, none⟩ = some (.int .i64 id) := by rw [HBs.out.cell]; rfl
 have s1 : V3.cell? ⟨bs, 1, none⟩ = some (.int .i64 kind) := by rw [HBs.out.cell]; rfl
 have s2 : V3.cell? ⟨bs, 2, none⟩ = some (.slice L labels.length lc) := by rw [HBs.out.cell]; rfl
 have s3 : V3.cell? ⟨bs, 3, none⟩ = some (.string nm) := by rw [HBs.out.cell]; rfl
 have s4 : V3.cell? ⟨bs, 4, none⟩ = some (.string proc) := by rw [HBs.out.cell]; rfl
 have s5 : V3.cell? ⟨bs, 5, none⟩ = some (.int .i64 y0) := by rw [HBs.out.cell]; rfl
 have s6 : V3.cell? ⟨bs, 6, none⟩ = some (.int .i64 y1) := by rw [HBs.out.cell]; rfl
 have s7 : V3.cell? ⟨bs, 7, none⟩ = some (.string y2) := by rw [HBs.out.cell]; rfl
 have s8 : V3.cell? ⟨bs, 8, none⟩ = some (.slice X xn xc) := by rw [HBs.out.cell]; rfl
 have s9 : V3.cell? ⟨bs, 9, none⟩ = some (.bool has) := by rw [HBs.out.cell]; rfl
 have s10 : V3.cell? ⟨bs, 10, none⟩ = some (.slice R args.length rc) := by rw [HBs.out.cell]; rfl
 have s11 : V3.cell? ⟨bs, 11, none⟩ = some (.slice T th.length tc) := by rw [HBs.out.cell]; rfl
 have s12 : V3.cell? ⟨bs, 12, none⟩ = some (.slice U el.length uc) := by rw [HBs.out.cell]; rfl
 go_upto_region 4 with fail
 have HBt : Hid (Blk (V3.alloc (.cells #[.int .i64 id, .int .i64 kind, .slice L labels.length lc, .string nm, .string proc, .int .i64 y0, .int .i64 y1, .string y2, .slice X xn xc, .bool has, .slice R args.length rc, .slice T th.length tc, .slice U el.length uc] 49)) V3.heap.size 49 #[.int .i64 id, .int .i64 kind, .slice L labels.length lc, .string nm, .string proc, .int .i64 y0, .int .i64 y1, .string y2, .slice X xn xc, .bool has, .slice R args.length rc, .slice T th.length tc, .slice U el.length uc]) := Lib.hid (Blk.new _ _ _)
 have HB4 : Hid (Below W.heap.size W (V3.alloc (.cells #[.int .i64 id, .int .i64 kind, .slice L labels.length lc, .string nm, .string proc, .int .i64 y0, .int .i64 y1, .string y2, .slice X xn xc, .bool has, .slice R args.length rc, .slice T th.length tc, .slice U el.length uc] 49))) := Lib.hid (below_stepA HB3.out _)
 have HI4 : Hid (In (nw W w1) w1 (V3.alloc (.cells #[.int .i64 id, .int .i64 kind, .slice L labels.length lc, .string nm, .string proc, .int .i64 y0, .int .i64 y1, .string y2, .slice X xn xc, .bool has, .slice R args.length rc, .slice T th.length tc, .slice U el.length uc] 49))) := Lib.hid (HI3.out.alloc _)
 have HBp4 : Hid (Blk (V3.alloc (.cells #[.int .i64 id, .int .i64 kind, .slice L labels.length lc, .string nm, .string proc, .int .i64 y0, .int .i64 y1, .string y2, .slice X xn xc, .bool has, .slice R args.length rc, .slice T th.length tc, .slice U el.length uc] 49)) b 25 #[.slice Ag someP.globals.length cg, .slice (some a) someP.procs.length cp]) := Lib.hid (HBp3.out.alloc _)
 have HBs4 : Hid (Blk (V3.alloc (.cells #[.int .i64 id, .int .i64 kind, .slice L labels.length lc, .string nm, .string proc, .int .i64 y0, .int .i64 y1, .string y2, .slice X xn xc, .bool has, .slice R args.length rc, .slice T th.length tc, .slice U el.length uc] 49)) bs 49 #[.int .i64 id, .int .i64 kind, .slice L labels.length lc, .string nm, .string proc, .int .i64 y0, .int .i64 y1, .string y2, .slice X xn xc, .bool has, .slice R args.length rc, .slice T th.length tc, .slice U el.length uc]) := Lib.hid (HBs.out.alloc _)
 have hWV : W.heap.size ≤ V3.heap.size := HB3.out.size
 have hw1 : w1.heap.size ≤ V3.heap.size := HW1.out
 have hbl3 := HBp3.out.lt
 have hsl3 := HBs.out.lt
 clear q0 q1 s0 s1 s2 s3 s4 s5 s6 s7 s8 s9 s10 s11 s12
 generalize World.alloc V3 _ = V4 at HBt HB4 HI4 HBp4 HBs4 ⊢
 generalize V3.heap.size = bt at HBt hWV hw1 hbl3 hsl3 ⊢
 have f3_ := HBt.out.frozen 3
 have t3_ : V4.cell? ⟨bt, 3, none⟩ = some (.string nm) := by rw [HBt.out.cell]; rfl
 go_upto_region 5 with fail
 have HBt5 : Hid (Blk (V4.setCell ⟨bt, 3, none⟩ (.string ⟨#[118]⟩)) bt 49 #[.int .i64 id, .int .i64 kind, .slice L labels.length lc, .string ⟨#[118]⟩, .string proc, .int .i64 y0, .int .i64 y1, .string y2, .slice X xn xc, .bool has, .slice R args.length rc, .slice T th.length tc, .slice U el.length uc]) := Lib.hid (by
  have h := HBt.out.set_ 3 (.string ⟨#[118]⟩)
  simp only [List.setIfInBounds_toArray, List.set_cons_zero, List.set_cons_succ] at h
  exact h)
 have HMv : Hid (Moves (fun j => j = bt) V4 (V4.setCell ⟨bt, 3, none⟩ (.string ⟨#[118]⟩))) := Lib.hid (setMoves V4 ⟨bt, 3, none⟩ (.string ⟨#[118]⟩))
 have HB5 : Hid (Below W.heap.size W (V4.setCell ⟨bt, 3, none⟩ (.string ⟨#[118]⟩))) := Lib.hid (below_setc HB4.out hWV _)
 clear f3_ t3_
 generalize World.setCell V4 _ _ = V5 at HBt5 HMv HB5 ⊢
 have HI5 := Lib.hid (HI4.out.moves HMv.out (fun j hj hq => by subst hj; have := hq.2; omega))
 have HBp5 := Lib.hid (HMv.out.blk HBp4.out (by omega))
 have HBs5 := Lib.hid (HMv.out.blk HBs4.out (by omega))
 clear HB4 HI4 HBp4 HBs4 HBt HMv HB3 HI3 HBp3 HBs
 have hbl5 := HBp5.out.lt
 have htl5 := HBt5.out.lt
 have q0 : V5.cell? ⟨b, 0, none⟩ = some (.slice Ag someP.globals.length cg) := by rw [HBp5.out.cell]; rfl
 have q1 : V5.cell? ⟨b, 1, none⟩ = some (.slice (some a) someP.procs.length cp) := by rw [HBp5.out.cell]; rfl
 have s0 : V5.cell? ⟨bs, 0, none⟩ = some (.int .i64 id) := by rw [HBs5.out.cell]; rfl
 have s1 : V5.cell? ⟨bs, 1, none⟩ = some (.int .i64 kind) := by rw [HBs5.out.cell]; rfl
 have s2 : V5.cell? ⟨bs, 2, none⟩ = some (.slice L labels.length lc) := by rw [HBs5.out.cell]; rfl
 have s3 : V5.cell? ⟨bs, 3, none⟩ = some (.string nm) := by rw [HBs5.out.cell]; rfl
 have s4 : V5.cell? ⟨bs, 4, none⟩ = some (.string proc) := by rw [HBs5.out.cell]; rfl
 have s5 : V5.cell? ⟨bs, 5, none⟩ = some (.int .i64 y0) := by rw [HBs5.out.cell]; rfl
 have s6 : V5.cell? ⟨bs, 6, none⟩ = some (.int .i64 y1) := by rw [HBs5.out.cell]; rfl
 have s7 : V5.cell? ⟨bs, 7, none⟩ = some (.string y2) := by rw [HBs5.out.cell]; rfl
 have s8 : V5.cell? ⟨bs, 8, none⟩ = some (.slice X xn xc) := by rw [HBs5.out.cell]; rfl
 have s9 : V5.cell? ⟨bs, 9, none⟩ = some (.bool has) := by rw [HBs5.out.cell]; rfl
 have s10 : V5.cell? ⟨bs, 10, none⟩ = some (.slice R args.length rc) := by rw [HBs5.out.cell]; rfl
 have s11 : V5.cell? ⟨bs, 11, none⟩ = some (.slice T th.length tc) := by rw [HBs5.out.cell]; rfl
 have s12 : V5.cell? ⟨bs, 12, none⟩ = some (.slice U el.length uc) := by rw [HBs5.out.cell]; rfl
 go_wp2_with (first
  | (go_at_call 31; (with_reducible refine (HFi.out V5 HI5.out).mono ?_); rintro e w4 ⟨rfl, hb4⟩; have HB6 := Lib.hid (below_step HB5.out hb4); have HI6 := Lib.hid (HI5.out.on hb4); have HBp6 := Lib.hid (HBp5.out.below hb4 hbl5); have HBt6 := Lib.hid (HBt5.out.below hb4 htl5); have r0 : w4.cell? ⟨b, 0, none⟩ = some (.slice Ag someP.globals.length cg) := (by rw [HBp6.out.cell]; rfl); have r1 : w4.cell? ⟨b, 1, none⟩ = some (.slice (some a) someP.procs.length cp) := (by rw [HBp6.out.cell]; rfl); have t0 : w4.cell? ⟨bt, 0, none⟩ = some (.int .i64 id) := (by rw [HBt6.out.cell]; rfl); have t1 : w4.cell? ⟨bt, 1, none⟩ = some (.int .i64 kind) := (by rw [HBt6.out.cell]; rfl); have t2 : w4.cell? ⟨bt, 2, none⟩ = some (.slice L labels.length lc) := (by rw [HBt6.out.cell]; rfl); have t3 : w4.cell? ⟨bt, 3, none⟩ = some (.string ⟨#[118]⟩) := (by rw [HBt6.out.cell]; rfl); have t4 : w4.cell? ⟨bt, 4, none⟩ = some (.string proc) := (by rw [HBt6.out.cell]; rfl); have t5 : w4.cell? ⟨bt, 5, none⟩ = some (.int .i64 y0) := (by rw [HBt6.out.cell]; rfl); have t6 : w4.cell? ⟨bt, 6, none⟩ = some (.int .i64 y1) := (by rw [HBt6.out.cell]; rfl); have t7 : w4.cell? ⟨bt, 7, none⟩ = some (.string y2) := (by rw [HBt6.out.cell]; rfl); have t8 : w4.cell? ⟨bt, 8, none⟩ = some (.slice X xn xc) := (by rw [HBt6.out.cell]; rfl); have t9 : w4.cell? ⟨bt, 9, none⟩ = some (.bool has) := (by rw [HBt6.out.cell]; rfl); have t10 : w4.cell? ⟨bt, 10, none⟩ = some (.slice R args.length rc) := (by rw [HBt6.out.cell]; rfl); have t11 : w4.cell? ⟨bt, 11, none⟩ = some (.slice T th.length tc) := (by rw [HBt6.out.cell]; rfl); have t12 : w4.cell? ⟨bt, 12, none⟩ = some (.slice U el.length uc) := (by rw [HBt6.out.cell]; rfl); clear hb4 q0 q1 s0 s1 s2 s3 s4 s5 s6 s7 s8 s9 s10 s11 s12)
  | (go_at_call 31; (with_reducible refine (HFj.out w4 HI6.out).mono ?_); rintro e w5 ⟨rfl, hb5⟩; have HB7 := Lib.hid (below_step HB6.out hb5); clear hb5)
  | (go_at_call 25; (with_reducible refine (HCe.out w5).mono ?_); rintro e w6 ⟨rfl, hb6⟩))
 go_ret
 exact ⟨rfl, below_step HB7.out hb6⟩
end Go.Proofs.YtimejkbmfbjomaaGreat
namespace Go.Proofs.YtimejkbmfbjomaaGreat
open Go.ChangeShapes Go.WideShapes Go.ChangeAt Go.RowKit Go.Deep
set_option linter.unusedVariables false
set_option linter.unusedSimpArgs false
theorem fstB_zero {f : S → Bool} {L : List S} (hz : ∀ s ∈ L, s.id ≠ 0) (h : fstB f L = 0) : ∀ s ∈ L, f s = false := by
 intro s hs
 unfold fstB at h
 cases hf : L.find? f with
 | none => simpa using (List.find?_eq_none.1 hf) s hs
 | some x =>
  rw [hf] at h
  exact absurd h (hz x (List.mem_of_find?_eq_some hf))
theorem alL_ok {p : Pg} : ∀ l : List Pr, (∀ q ∈ l, ∀ s ∈ preSL q.body, s.id ≠ 0) → (alL p l).1 = 0 → ∀ q ∈ l, ∀ s ∈ preSL q.body, alB p s = false
 | [], _, _ => fun q hq => by cases hq
 | x :: l, hz, h => by
  rw [alL] at h
  split at h
  ·rename_i h0
   intro q hq s hs
   rcases List.mem_cons.1 hq with rfl | hq
   ·exact fstB_zero (hz q (List.mem_cons_self ..)) h0 s hs
   ·exact alL_ok l (fun q hq => hz q (List.mem_cons_of_mem _ hq)) h q hq s hs
  ·cases h
theorem arP_ok {p : Pg} (h : (arP p).1 = 0) : ChOk p := chk_ok (arP_two h).2
theorem alP_ok {p : Pg} (h : (alP p).1 = 0) : ChOk p ∧ (arP p).1 = 0 ∧ ∀ q ∈ p.procs, ∀ s ∈ preSL q.body, s.kind = 4 → apB p s = true := by
 unfold alP at h
 split at h
 ·rename_i ha
  have hok := arP_ok ha
  refine ⟨hok, ha, fun q hq s hs hk => ?_⟩
  have h2 := alL_ok p.procs (fun q hq s hs h0 => by have := may_ids hok.may q hq s hs; omega) h q hq s hs
  unfold alB at h2
  rw [hk] at h2
  simpa using h2
 ·cases h
theorem apL_tk {tk : ByteArray → Bool} {nm : ByteArray} : ∀ (l pre : List ByteArray), apL tk nm pre l = true → ∀ x ∈ l, tk x = false
 | [], _, _ => fun x hx => by cases hx
 | y :: l, pre, h => by
  rw [apL, Bool.and_eq_true] at h
  intro x hx
  rcases List.mem_cons.1 hx with rfl | hx
  ·have h1 := h.1
   simp only [Bool.not_eq_true', Bool.or_eq_false_iff] at h1
   exact h1.2
  ·exact apL_tk l _ h.2 x hx
theorem ref_mem {args : List Ar} {a : Ar} (h : a ∈ args) (hr : a.ref = true) : a.nm ∈ refsOf args := by
 unfold refsOf
 exact List.mem_flatMap.2 ⟨a, h, by unfold refV; rw [if_pos hr]; exact List.mem_cons_self ..⟩
/-- what is picked hands in no global that is touched -/
theorem pick_tk {p : Pg} (h : (alP p).1 = 0) {id : Int} (hi : (idsOf 4 (allOf p) = [] ∧ id = 0) ∨ id ∈ idsOf 4 (allOf p)) : ∀ a ∈ (stP p id).args, a.ref = true → tkB p (stP p id).proc a.nm = false := by
 obtain ⟨hok, ha, hap⟩ := alP_ok h
 rcases hi with ⟨_, rfl⟩ | hi
 ·have hn : rfL p.procs 0 = none := rfL_none p.procs 0 (fun q hq => ((may_flat hok.may).1 q hq).1) (fun q hq s hs => by have := may_ids hok.may q hq s hs; omega)
  have e : (stP p 0).args = [] := by unfold stP; rw [hn]; rfl
  rw [e]
  intro a ha
  cases ha
 ·obtain ⟨q, s, hat, hk, _⟩ := ids_at hok.may hi
  rw [hat.st]
  rcases hk with hk | hk
  ·cases hk
  ·have hb := hap q hat.mem s hat.stm hk
   intro a ha hr
   unfold apB at hb
   exact apL_tk _ _ hb _ (ref_mem ha hr)
end Go.Proofs.YtimejkbmfbjomaaGreat
