/- Texts, merged by a program; only what is used. -/
import Derived.Test.YtimejkbmfbjomaaGreatKX1
import Derived.Test.YtimejkbmfbjomaaGreatKX2
import Derived.Test.YtimejkbmfbjomaaGreatKX3
import Derived.Test.YtimejkbmfbjomaaGreatKX4
import Derived.Test.YtimejkbmfbjomaaGreatKX5
import Derived.Test.YtimejkbmfbjomaaGreatKX6
import Derived.Test.YtimejkbmfbjomaaGreatKX7
import Derived.Test.YtimejkbmfbjomaaGreatKX8
import Derived.Test.YtimejkbmfbjomaaGreatKX9
import Derived.Test.YtimejkbmfbjomaaGreatKX10
import Derived.Test.YtimejkbmfbjomaaGreatKX11
import Derived.Test.YtimejkbmfbjomaaGreatKX12
import Derived.Test.YtimejkbmfbjomaaGreatKX13
import Derived.Test.YtimejkbmfbjomaaGreatKX14
import Derived.Test.YtimejkbmfbjomaaGreatKX15
import Derived.Test.YtimejkbmfbjomaaGreatKX16
import Derived.Test.YtimejkbmfbjomaaGreatKX17
import Derived.Test.YtimejkbmfbjomaaGreatKX18
import Derived.Test.YtimejkbmfbjomaaGreatKX19
import Derived.Test.YtimejkbmfbjomaaGreatKX20
import Derived.Test.YtimejkbmfbjomaaGreatKX21
import Derived.Test.YtimejkbmfbjomaaGreatKX22
import Derived.Test.YtimejkbmfbjomaaGreatKX23
import Derived.Test.YtimejkbmfbjomaaGreatKX24
import Derived.Test.YtimejkbmfbjomaaGreatKX28
import Derived.Test.YtimejkbmfbjomaaGreatKX29
import Derived.Test.YtimejkbmfbjomaaGreatKX30
namespace Go.Proofs.YtimejkbmfbjomaaGreat
open Go.ChangeShapes Go.WideShapes Go.ChangeAt Go.RowKit Go.Deep
set_option linter.unusedVariables false
set_option linter.unusedSimpArgs false
theorem callsOf_snoc (l : List S) (s : S) : callsOf (l ++ [s]) = callsOf l ++ (if s.kind = 4 then [s.proc] else []) := by
 rw [callsOf_app]
 congr 1
 unfold callsOf
 by_cases h : s.kind = 4 <;> simp [h]
def rcP (p : Pg) (nm : ByteArray) : List ByteArray := callsOf ((flatOf (namP p nm).1).map It.s)
set_option maxHeartbeats 4000000 in
set_option maxRecDepth 100000 in
theorem rcalls_any {w : World} {Q : Nat → Prop} {p : Pg} {c0 c1 : Value} (h : ProgI w Q p [c0, c1]) (nm : ByteArray) (W : World) (hI : In Q w W) :
 Calls Tryz.prog 45 #[.agg #[c0, c1], .string nm] W (NewRow (srt (rcP p nm)) W) := by
 have HNa := Lib.hid (fun V hV => rnamed_any h nm V hV)
 obtain ⟨Ag, cg, Ap, cp, rfl, rfl, _⟩ := prog_open h
 have HI := Lib.hid hI
 have HK : Hid (rcP p nm = callsOf ((flatOf (namP p nm).1).map It.s)) := Lib.hid rfl
 obtain ⟨i0, hi0, hz0, hz1, hz2⟩ := info_parts string_info
 clear h hI
 generalize rcP p nm = res at HK
 generalize namP p nm = r at HNa HK
 obtain ⟨q, ok⟩ := r
 simp only at HK
 go_enter Tryz.func45, Tryz.ntmps45
 go_upto_region 1 with fail
 have HB0 : Hid (Below W.heap.size W (W.alloc (.cells #[.slice Ag p.globals.length cg, .slice Ap p.procs.length cp] 25))) := Lib.hid (below_box _)
 have HBp : Hid (Blk (W.alloc (.cells #[.slice Ag p.globals.length cg, .slice Ap p.procs.length cp] 25)) W.heap.size 25 #[.slice Ag p.globals.length cg, .slice Ap p.procs.length cp]) := Lib.hid (Blk.new _ _ _)
 generalize World.alloc _ _ = V at HB0 HBp ⊢
 generalize W.heap.size = b at HBp ⊢
 have HI0 := Lib.hid (HI.out.on HB0.out)
 have q0 : V.cell? ⟨b, 0, none⟩ = some (.slice Ag p.globals.length cg) := by rw [HBp.out.cell]; rfl
 have q1 : V.cell? ⟨b, 1, none⟩ = some (.slice Ap p.procs.length cp) := by rw [HBp.out.cell]; rfl
 go_upto_region 2 with (go_at_call 87; refine (HNa.out V HI0.out).mono ?_; rintro e' W1 ⟨d0, d1, d2, d3, d4, rfl, hb1, hp1⟩; have HPq := Lib.hid hp1; obtain ⟨vp, vv, vb, ve, hc, hn', hpp, hvv, hbb, hee⟩ := hp1; simp only [List.cons.injEq, and_true] at hc; obtain ⟨rfl, rfl, rfl, rfl, rfl⟩ := hc; obtain ⟨M1, k1, rfl, _, _⟩ := hpp.shape; obtain ⟨M2, k2, rfl, _, _⟩ := hvv.shape; obtain ⟨M3, k3, rfl, _⟩ := hbb.shape; obtain ⟨M4, k4, rfl, _⟩ := hee.shape; clear hn' hpp hvv hbb hee)
 (try simp only at HPq)
 have HB1 : Hid (Below W.heap.size W (W1.alloc (.cells #[.string q.nm, .slice M1 q.params.length k1, .slice M2 q.vars.length k2, .slice M3 q.body.length k3, .slice M4 q.end_.length k4] 39))) := Lib.hid (below_stepA (below_step HB0.out hb1) _)
 have HBq : Hid (Blk (W1.alloc (.cells #[.string q.nm, .slice M1 q.params.length k1, .slice M2 q.vars.length k2, .slice M3 q.body.length k3, .slice M4 q.end_.length k4] 39)) W1.heap.size 39 #[.string q.nm, .slice M1 q.params.length k1, .slice M2 q.vars.length k2, .slice M3 q.body.length k3, .slice M4 q.end_.length k4]) := Lib.hid (Blk.new _ _ _)
 have HI1 : Hid (In Q w (W1.alloc (.cells #[.string q.nm, .slice M1 q.params.length k1, .slice M2 q.vars.length k2, .slice M3 q.body.length k3, .slice M4 q.end_.length k4] 39))) := Lib.hid ((HI0.out.on hb1).alloc _)
 have HFl := Lib.hid (fun V hV => Flat_any (W := V) HPq.out hV hV.1)
 clear hb1 q0 q1 HNa HPq HBp HB0 HI0
 generalize World.alloc W1 _ = V1 at HB1 HBq HI1 ⊢
 generalize W1.heap.size = bq at HBq ⊢
 have z0 : V1.cell? ⟨bq, 0, none⟩ = some (.string q.nm) := by rw [HBq.out.cell]; rfl
 have z1 : V1.cell? ⟨bq, 1, none⟩ = some (.slice M1 q.params.length k1) := by rw [HBq.out.cell]; rfl
 have z2 : V1.cell? ⟨bq, 2, none⟩ = some (.slice M2 q.vars.length k2) := by rw [HBq.out.cell]; rfl
 have z3 : V1.cell? ⟨bq, 3, none⟩ = some (.slice M3 q.body.length k3) := by rw [HBq.out.cell]; rfl
 have z4 : V1.cell? ⟨bq, 4, none⟩ = some (.slice M4 q.end_.length k4) := by rw [HBq.out.cell]; rfl
 have HFn : Hid ((flatOf q).length ≤ 201) := Lib.hid (flatOf_len q)
 generalize hits : flatOf q = its at HFl HK HFn ⊢
 clear hits
 go_upto_region 4 with (go_at_call 20; refine (HFl.out V1 HI1.out).mono ?_; rintro e' W9 ⟨v9, rows9, rfl, ho9, ha9, hb9⟩; obtain ⟨X9, cx9, rfl, hx9, hx9'⟩ := own_shape ho9)
 have HSl := Lib.hid (slice_of_own ho9 ha9 (fun x cs h => by obtain ⟨c, rfl, hc⟩ := h; obtain ⟨_, _, _, _, _, _, _, _, _, _, _, _, _, _, _, _, _, _, _, _, _, _, _, _, _, rfl, _⟩ := stmt_open hc; rfl))
 have HB9 := Lib.hid (below_step HB1.out hb9)
 clear ho9 ha9 hb9 z0 z1 z2 z3 z4 HFl HBq HI1 HB1
 go_loopg [7, 19] its.length (fun kk ov iv wr => ∃ (k : Nat) (Xr : Option Addr) (n c : Nat), k + kk = its.length ∧ iv = .int .i64 k ∧ ov = .slice Xr n c ∧ n = (callsOf ((its.take k).map It.s)).length ∧ Hid (NmI W9 wr (callsOf ((its.take k).map It.s)) Xr n c) ∧ Hid (∀ s ∈ callsOf ((its.take k).map It.s), small s))
 case atStart => exact ⟨0, none, 0, 0, by omega, rfl, rfl, rfl, Lib.hid ⟨World.ownsRow_nil _ _ _ _, Below.refl _ _⟩, Lib.hid (fun s hs => by cases hs)⟩
 case round =>
  obtain ⟨k, Xr, n, c, hk, rfl, rfl, hnl, HR, HSm⟩ := hrel
  by_cases hlt : k < its.length
  ·obtain ⟨a2, id, kind, labels, nm2, proc, x, has, args, th, el, L, lc, y0, y1, y2, X, xn, xc, R, rc, T, tc, U, uc, dp, inn, els, rfl, hq2, hmk, hrow2, hid, hkind, hst, hdp, hinn, hels⟩ := item_at2 HSl.out (W := wr) ⟨fun b h => Nat.lt_of_lt_of_le h.2 HR.out.below.size, fun p hp => HR.out.below.cell hp.2⟩ hlt
   have HT : Hid (callsOf ((its.take (k + 1)).map It.s) = callsOf ((its.take k).map It.s) ++ (if kind = 4 then [proc] else [])) := Lib.hid (by rw [List.take_succ_eq_append_getElem hlt, List.map_append, List.map_singleton, callsOf_snoc, hmk]; rfl)
   have HPs : Hid (small proc) := Lib.hid (by obtain ⟨_, _, _, _, _, _, _, _, _, _, _, _, _, _, _, _, _, _, _, _, _, _, _, _, e1, e2, _, _, _, hp, _⟩ := stmt_open hst; cases e1; exact hp)
   have hnk : n ≤ 201 := by rw [hnl]; have h1 := callsOf_len ((its.take k).map It.s); have h2 := HFn.out; rw [List.length_map, List.length_take] at h1; omega
   have HNl := Lib.hid hnl
   have hkb := hkind
   unfold i64 at hkb
   obtain ⟨p0, p1, p2, p3, p4, p5, p6, p7, p8, p9, p10, p11, p12, p13, p14, p15, _⟩ := hrow2
   generalize callsOf ((its.take k).map It.s) = pre at HR HT HNl HSm
   clear hmk hst hid hkind hq2 hdp hinn hels hnl
   go_upto_region 6 with fail
   have HBi : Hid (Blk (wr.alloc (.cells #[.int .i64 id, .int .i64 kind, .slice L labels.length lc, .string nm2, .string proc, .int .i64 y0, .int .i64 y1, .string y2, .slice X xn xc, .bool has, .slice R args.length rc, .slice T th.length tc, .slice U el.length uc, .int .i64 dp, .int .i64 inn, .bool els] 51)) wr.heap.size 51 #[.int .i64 id, .int .i64 kind, .slice L labels.length lc, .string nm2, .string proc, .int .i64 y0, .int .i64 y1, .string y2, .slice X xn xc, .bool has, .slice R args.length rc, .slice T th.length tc, .slice U el.length uc, .int .i64 dp, .int .i64 inn, .bool els]) := Lib.hid (Blk.new _ _ _)
   have HO4 : Hid ((wr.alloc (.cells #[.int .i64 id, .int .i64 kind, .slice L labels.length lc, .string nm2, .string proc, .int .i64 y0, .int .i64 y1, .string y2, .slice X xn xc, .bool has, .slice R args.length rc, .slice T th.length tc, .slice U el.length uc, .int .i64 dp, .int .i64 inn, .bool els] 51)).ownsRow W9.heap.size 9 1 (.slice Xr n c) n (strs pre)) := Lib.hid (HR.out.row.alloc _)
   have HB4 : Hid (Below W9.heap.size W9 (wr.alloc (.cells #[.int .i64 id, .int .i64 kind, .slice L labels.length lc, .string nm2, .string proc, .int .i64 y0, .int .i64 y1, .string y2, .slice X xn xc, .bool has, .slice R args.length rc, .slice T th.length tc, .slice U el.length uc, .int .i64 dp, .int .i64 inn, .bool els] 51))) := Lib.hid (below_stepA HR.out.below _)
   clear p0 p1 p2 p3 p4 p5 p6 p7 p8 p9 p10 p11 p12 p13 p14 p15 HR
   generalize World.alloc wr _ = V4 at HBi HO4 HB4 ⊢
   generalize wr.heap.size = bi at HBi ⊢
   have s1 : V4.cell? ⟨bi, 1, none⟩ = some (.int .i64 kind) := by rw [HBi.out.cell]; rfl
   have s4 : V4.cell? ⟨bi, 4, none⟩ = some (.string proc) := by rw [HBi.out.cell]; rfl
   by_cases hk4 : kind = 4
   ·subst hk4
    have HK2 : Hid (callsOf ((its.take (k + 1)).map It.s) = pre ++ [proc]) := Lib.hid HT.out
    have HW := Lib.hid (new_one V4 proc)
    have HO5 : Hid ((V4.alloc (.cells #[.string proc] 9)).ownsRow W9.heap.size 9 1 (.slice Xr n c) n (strs pre)) := Lib.hid (HO4.out.alloc _)
    have HB5 : Hid (Below W9.heap.size W9 (V4.alloc (.cells #[.string proc] 9))) := Lib.hid (below_stepA HB4.out _)
    go_wp2_with (at_builtin; refine wpList_append_own_at _ rfl (.tmp 27) (.tmp 31) 22 rfl W9.heap.size 9 i0 _ 1 16 Tryz.underlying22 hi0 hz0 hz1 hz2 rfl (by decide) _ n (strs pre) rfl HO5.out ⟨V4.heap.size, 0, none⟩ 1 1 [.string proc] rfl rfl HW.out (by simp [Value.oneCell']) (by unfold maxLen; omega) (by omega) HB5.out.size ?_; intro v6 w7 hown6 hg6 _ hat6; obtain ⟨X6, k6, rfl, _, _⟩ := own_shape hown6; have HS : Hid (NmI W9 w7 (callsOf ((its.take (k + 1)).map It.s)) X6 (n + 1) k6) := Lib.hid ⟨by rw [HK2.out, strs_append]; exact hown6, HB5.out.grown hg6 HB5.out.size (fun j hj => (HO5.out.lt j hj).1)⟩; clear hown6 hg6 hat6)
    go_roundg (its.length - k - 1)
    case measure => omega
    case rel => exact ⟨k + 1, X6, n + 1, k6, by omega, by go_num, rfl, by rw [HK2.out, List.length_append, ← HNl.out]; rfl, HS, Lib.hid (by
     rw [HK2.out]
     intro s hs
     rcases List.mem_append.1 hs with hs | hs
     ·exact HSm.out s hs
     ·rw [List.mem_singleton.1 hs]; exact HPs.out)⟩
   ·have hk5 : (kind == 4) = false := beq_eq_false_iff_ne.2 hk4
    have HK2 : Hid (callsOf ((its.take (k + 1)).map It.s) = pre) := Lib.hid (by rw [HT.out, if_neg hk4, List.append_nil])
    clear hk4
    go_wp2_with fail
    go_roundg (its.length - k - 1)
    case measure => omega
    case rel => exact ⟨k + 1, Xr, n, c, by omega, by go_num, rfl, by rw [HK2.out]; exact HNl.out, Lib.hid (by rw [HK2.out]; exact ⟨HO4.out, HB4.out⟩), Lib.hid (by rw [HK2.out]; exact HSm.out)⟩
  ·obtain rfl : k = its.length := by omega
   rw [List.take_length] at HR hnl HSm
   rw [← HK.out] at HR hnl HSm
   have HTx := Lib.hid (texts_of_own HSm.out HR.out.row).2
   rw [hnl] at HTx HR ⊢
   have hrl : res.length ≤ 1000000000000 := by
    have h1 := callsOf_len (its.map It.s)
    have h2 := HFn.out
    rw [List.length_map] at h1
    rw [HK.out]
    omega
   have HSr := Lib.hid (rSorted_any HTx.out hrl (in_slf _ wr))
   go_wp2_with (go_at_call 91; refine HSr.out.mono ?_; rintro e' W12 ⟨v12, rfl, ho12, hb12⟩; have HO12 := Lib.hid ho12; have HB12 := Lib.hid (below_step (below_step HB9.out HR.out.below) hb12); have HWl : Hid (W.heap.size ≤ wr.heap.size) := Lib.hid (below_step HB9.out HR.out.below).size; clear ho12 hb12)
   go_ret
   exact ⟨v12, rfl, own_lower HO12.out HWl.out, HB12.out⟩
end Go.Proofs.YtimejkbmfbjomaaGreat
namespace Go.Proofs.YtimejkbmfbjomaaGreat
open Go.ChangeShapes Go.WideShapes Go.ChangeAt Go.RowKit Go.Deep
set_option linter.unusedVariables false
set_option linter.unusedSimpArgs false
theorem rcP_at {p : Pg} (hok : ChOk p) {f : Pr} (hf : f ∈ p.procs) : rcP p f.nm = callsOf (preSL f.body) := by
 unfold rcP namP
 rw [find_own _ hok.procs _ hf]
 show callsOf ((flatOf f).map It.s) = _
 rw [((may_flat hok.may).1 f hf).1]
/-- while callers are followed: who is there, of whom the first n are done -/
structure CdI (p : Pg) (q : Pr) (L : List ByteArray) (n : Nat) : Prop where
 nd : L.Nodup
 rch : ∀ s ∈ L, ∃ f ∈ p.procs, RchP p.procs q f ∧ f.nm = s
 own : q.nm ∈ L
 done : ∀ f ∈ p.procs, f.nm ∈ L.take n → ∀ s ∈ callsOf (preSL f.body), s ∈ L
theorem CdI.len {p : Pg} {q : Pr} {L : List ByteArray} {n : Nat} (h : CdI p q L n) : L.length ≤ p.procs.length := by
 have := nodup_leA L (p.procs.map Pr.nm) h.nd (fun s hs => by obtain ⟨f, hf, _, e⟩ := h.rch s hs; exact List.mem_map.2 ⟨f, hf, e⟩)
 rwa [List.length_map] at this
theorem CdI.end_ {p : Pg} (hok : ChOk p) {q : Pr} (hq : q ∈ p.procs) {L : List ByteArray} {n : Nat} (h : CdI p q L n) (hn : L.length ≤ n) (s : ByteArray) : s ∈ L ↔ ∃ f ∈ p.procs, RchP p.procs q f ∧ f.nm = s := by
 refine ⟨h.rch s, ?_⟩
 have key : ∀ f, RchP p.procs q f → f ∈ p.procs → f.nm ∈ L := by
  intro f hr
  induction hr with
  | refl => exact fun _ => h.own
  | step hr1 hf1 hc ih =>
   rename_i g x
   intro hx
   have hg : g ∈ p.procs := by
    cases hr1 with
    | refl => exact hq
    | step _ hf2 _ => exact hf2
   exact h.done g hg (by rw [List.take_of_length_le hn]; exact ih hg) _ hc
 rintro ⟨f, hf, hr, rfl⟩
 exact key f hr hf
/-- while the calls of one are looked at -/
structure CeI (p : Pg) (q : Pr) (L0 L cs : List ByteArray) : Prop where
 pre : ∃ A, L = L0 ++ A
 nd : L.Nodup
 rch : ∀ s ∈ L, ∃ f ∈ p.procs, RchP p.procs q f ∧ f.nm = s
 seen : ∀ s ∈ cs, s ∈ L
theorem CeI.done {p : Pg} (hok : ChOk p) {q f : Pr} {L0 L cs : List ByteArray} {n : Nat} (h : CeI p q L0 L cs) (h0 : CdI p q L0 n) (hn : n < L0.length) (hf : f ∈ p.procs) (hfn : L0[n] = f.nm) (hcs : ∀ s, s ∈ cs ↔ s ∈ callsOf (preSL f.body)) : CdI p q L (n + 1) := by
 obtain ⟨A, rfl⟩ := h.pre
 refine ⟨h.nd, h.rch, List.mem_append_left _ h0.own, fun f2 hf2 hm s hs => ?_⟩
 rw [List.take_append_of_le_length (by omega), List.take_succ_eq_append_getElem hn, List.mem_append, List.mem_singleton] at hm
 rcases hm with hm | hm
 ·exact List.mem_append_left _ (h0.done f2 hf2 hm s hs)
 ·have e := nm_inj hok.procs hf2 hf (hm.trans hfn)
  subst e
  exact h.seen s ((hcs s).2 hs)
theorem CeI.step {p : Pg} (hok : ChOk p) {q f : Pr} {L0 L cs : List ByteArray} (h : CeI p q L0 L cs) (hf : f ∈ p.procs) (hr : RchP p.procs q f) {s : ByteArray} (hs : s ∈ callsOf (preSL f.body)) (hn : s ∉ L) : CeI p q L0 (L ++ [s]) (cs ++ [s]) := by
 obtain ⟨A, rfl⟩ := h.pre
 obtain ⟨x, hx, e⟩ := called_there hok hf hs
 refine ⟨⟨A ++ [s], by rw [List.append_assoc]⟩, List.nodup_append.2 ⟨h.nd, by simp, fun a ha b hb e2 => hn (by rw [List.mem_singleton] at hb; subst hb; subst e2; exact ha)⟩, fun t ht => ?_, fun t ht => ?_⟩
 ·rcases List.mem_append.1 ht with ht | ht
  ·exact h.rch t ht
  ·rw [List.mem_singleton] at ht
   subst ht
   exact ⟨x, hx, .step hr hx (e ▸ hs), e⟩
 ·rcases List.mem_append.1 ht with ht | ht
  ·exact List.mem_append_left _ (h.seen t ht)
  ·exact List.mem_append_right _ ht
theorem CeI.skip {p : Pg} {q : Pr} {L0 L cs : List ByteArray} (h : CeI p q L0 L cs) {s : ByteArray} (hn : s ∈ L) : CeI p q L0 L (cs ++ [s]) := by
 refine ⟨h.pre, h.nd, h.rch, fun t ht => ?_⟩
 rcases List.mem_append.1 ht with ht | ht
 ·exact h.seen t ht
 ·rw [List.mem_singleton] at ht; subst ht; exact hn
def CdRes (p : Pg) (q : Pr) (l : List ByteArray) : Prop := ∃ L : List ByteArray, l = srt L ∧ ∀ s, s ∈ L ↔ ∃ f ∈ p.procs, RchP p.procs q f ∧ f.nm = s
set_option maxHeartbeats 8000000 in
set_option maxRecDepth 100000 in
theorem rcalled_any {w : World} {Q : Nat → Prop} {p : Pg} {c0 c1 : Value} (h : ProgI w Q p [c0, c1]) (hok : ChOk p) {q : Pr} (hq : q ∈ p.procs) (W : World) (hI : In Q w W) :
 Calls Tryz.prog 47 #[.agg #[c0, c1], .string q.nm] W (OrdRow (CdRes p q) W) := by
 have HCl := Lib.hid (fun nm V hV => rcalls_any h nm V hV)
 obtain ⟨Ag, cg, Ap, cp, rfl, rfl, _, _, _, _, _, hpr⟩ := prog_open h
 have HI := Lib.hid hI
 have HOk := Lib.hid hok
 have HQ := Lib.hid hq
 have HNs : Hid (∀ f ∈ p.procs, small f.nm) := Lib.hid (fun f hf => by
  obtain ⟨cs, _, _, _, _, _, hn, _⟩ := slice_mem hpr f hf
  exact hn)
 have HLs : Hid (∀ L n, CdI p q L n → ∀ s ∈ L, small s) := Lib.hid (fun L n hL s hs => by
  obtain ⟨f, hf, _, rfl⟩ := hL.rch s hs
  exact HNs.out f hf)
 have hpl := (may_lens hok.may).2.1
 obtain ⟨i0, hi0, hz0, hz1, hz2⟩ := info_parts string_info
 clear h hI hok hpr
 go_enter Tryz.func47, Tryz.ntmps47
 go_upto_region 1 with fail
 have HB0 : Hid (Below W.heap.size W (W.alloc (.cells #[.slice Ag p.globals.length cg, .slice Ap p.procs.length cp] 25))) := Lib.hid (below_box _)
 have HBp : Hid (Blk (W.alloc (.cells #[.slice Ag p.globals.length cg, .slice Ap p.procs.length cp] 25)) W.heap.size 25 #[.slice Ag p.globals.length cg, .slice Ap p.procs.length cp]) := Lib.hid (Blk.new _ _ _)
 generalize World.alloc _ _ = V at HB0 HBp ⊢
 generalize W.heap.size = b at HBp ⊢
 have HI0 := Lib.hid (HI.out.on HB0.out)
 have hbl := HBp.out.lt
 go_upto_region 3 with fail
 have HO1 : Hid ((V.alloc (.cells #[.string q.nm] 9)).ownsRow V.heap.size 9 1 (.slice (some ⟨V.heap.size, 0, none⟩) [q.nm].length 1) [q.nm].length (strs [q.nm])) := Lib.hid (World.ownsRow_lit V #[.string q.nm] 1 (Nat.le_refl _) (by decide) rfl)
 have HB1 : Hid (Below V.heap.size V (V.alloc (.cells #[.string q.nm] 9))) := Lib.hid (below_box _)
 have HD1 : Hid (CdI p q [q.nm] 0) := Lib.hid ⟨by simp, fun s hs => ⟨q, HQ.out, .refl, (List.mem_singleton.1 hs).symm⟩, List.mem_singleton.2 rfl, fun f _ hm => by simp at hm⟩
 generalize World.alloc V _ = V1 at HO1 HB1 ⊢
 go_loopg [5, 6] p.procs.length (fun kk o5 o6 wr => ∃ (n : Nat) (X : Option Addr) (c : Nat) (L : List ByteArray), n + kk = p.procs.length ∧ o6 = .int .i64 n ∧ o5 = .slice X L.length c ∧ Hid (wr.ownsRow V.heap.size 9 1 (.slice X L.length c) L.length (strs L)) ∧ Hid (Below V.heap.size V wr) ∧ Hid (CdI p q L n))
 case atStart => exact ⟨0, _, 1, [q.nm], by omega, rfl, rfl, HO1, HB1, HD1⟩
 case round =>
  obtain ⟨n, X, c, L, hn, rfl, rfl, HO, HB, HD⟩ := hrel
  have HIr := Lib.hid (HI0.out.on HB.out)
  have HBpr := Lib.hid (HBp.out.below HB.out hbl)
  have hLl := HD.out.len
  have HLn := Lib.hid hLl
  by_cases hlt : n < L.length
  ·obtain ⟨g, cap5, he5, hcl5, _, hge⟩ := own_at HO.out hlt
   injection he5 with h51 _ h53
   subst h51 h53
   have pt := hcl5 (.string L[n]) (by simp [strs, List.getElem?_map, List.getElem?_eq_getElem hlt])
   obtain ⟨f, hf, hrf, hfn⟩ := HD.out.rch L[n] (List.getElem_mem hlt)
   have HFn : Hid (L[n] = f.nm) := Lib.hid hfn.symm
   rw [← hfn] at pt
   have HF := Lib.hid hf
   have HRf := Lib.hid hrf
   have HC1 := Lib.hid (fun V hV => HCl.out f.nm V hV)
   rw [rcP_at HOk.out hf] at HC1
   have hgl : (g.add n).block < wr.heap.size := by
    have := HO.out.lt g.block
    rw [block_add]
    rcases HO.out.2 with ⟨e, _⟩ | ⟨g2, cap2, cur, e, _, hh, _⟩
    ·cases e
    ·injection e with e _ _
     injection e with e
     rw [e]
     exact (Array.getElem?_eq_some_iff.1 hh).1
   have hbl2 := HBpr.out.lt
   clear hcl5 hfn hf hrf
   have q0 : wr.cell? ⟨b, 0, none⟩ = some (.slice Ag p.globals.length cg) := by rw [HBpr.out.cell]; rfl
   have q1 : wr.cell? ⟨b, 1, none⟩ = some (.slice Ap p.procs.length cp) := by rw [HBpr.out.cell]; rfl
   go_upto_region 5 with fail
   have HSw : Hid (∀ w' : World, Below wr.heap.size wr w' → (w'.cell? ⟨b, 0, none⟩ = some (.slice Ag p.globals.length cg) ∧ w'.cell? ⟨b, 1, none⟩ = some (.slice Ap p.procs.length cp) ∧ w'.cell? (g.add n) = some (.string f.nm))) := Lib.hid (fun w' hb => ⟨(hb.cell (p := ⟨b, 0, none⟩) hbl2).trans q0, (hb.cell (p := ⟨b, 1, none⟩) hbl2).trans q1, (hb.cell hgl).trans pt⟩)
   have hBD : Below wr.heap.size wr wr.drew := (Below.refl _ _).drew
   have hdr : In Q w wr.drew := HIr.out
   have h0n : (0 : Int) ≤ (n : Int) := by omega
   have hdn : decide ((0 : Int) ≤ (n : Int)) = true := decide_eq_true h0n
   have hln : (n : Int) < (L.length : Int) := by omega
   have hdl : decide ((n : Int) < (L.length : Int)) = true := decide_eq_true hln
   go_region_held3 (fun w' => w'.cell? ⟨b, 0, none⟩ = some (.slice Ag p.globals.length cg) ∧ w'.cell? ⟨b, 1, none⟩ = some (.slice Ap p.procs.length cp) ∧ w'.cell? (g.add n) = some (.string f.nm))
    ((refine HSw.out _ ?_; with_reducible assumption))
    (first
     | (go_at_call 45; (with_reducible refine (HC1.out wr.drew hdr).mono ?_); rintro e' W8 ⟨v8, rfl, ho8, hb8⟩; obtain ⟨X8, k8, rfl, h81, h82⟩ := own_shape ho8; have g8 : Below wr.heap.size wr W8 := hBD.trans hb8; have HO8 := Lib.hid ho8; clear ho8 hb8))
   have hwd : wr.drew.heap.size = wr.heap.size := rfl
   rw [hwd] at HO8
   have HCm : Hid (∀ s, s ∈ srt (callsOf (preSL f.body)) ↔ s ∈ callsOf (preSL f.body)) := Lib.hid (srt_mem _)
   generalize srt (callsOf (preSL f.body)) = cs at HO8 HCm h81 ⊢
   have HO9 : Hid (W8.ownsRow V.heap.size 9 1 (.slice (some g) L.length c) L.length (strs L)) := Lib.hid ((Below.moves g8).row HO.out (fun j hj e => Nat.not_lt.2 e (HO.out.lt j hj).2))
   have HB9 := Lib.hid (below_step HB.out g8)
   have HE9 : Hid (CeI p q L L []) := Lib.hid ⟨⟨[], by simp⟩, HD.out.nd, HD.out.rch, fun s hs => by cases hs⟩
   obtain ⟨T, hT⟩ : ∃ T : Nat → Prop, T = (fun b => wr.heap.size ≤ b ∧ b < W8.heap.size) := ⟨_, rfl⟩
   have HT9 : Hid (In T W8 W8) := Lib.hid (by rw [hT]; exact in_slf _ W8)
   have HOf : Hid (∀ j, (Value.slice (some g) L.length c).ownBlock = some j → ¬ T j) := Lib.hid (fun j hj => by rw [hT]; intro h; have := (HO.out.lt j hj).2; omega)
   have hVw : V.heap.size ≤ wr.heap.size := HB.out.size
   have HCs : Hid (∀ s ∈ cs, small s) := Lib.hid (fun s hs => by
    obtain ⟨x, hx, e⟩ := called_there HOk.out HF.out ((HCm.out s).1 hs)
    rw [← e]
    exact HNs.out x hx)
   have HTx8 := Lib.hid (texts_of_own HCs.out HO8.out).2
   rw [← hT] at HTx8
   clear hT g8 HO HB HIr HBpr HSw hBD hdr q0 q1 pt HC1 HO8 hgl hbl2 hwd
   generalize hcl : cs.length = cn at *
   go_upto_region 6 with fail
   go_loopg [5, 24] cn (fun kk o5 iv wr => ∃ (j : Nat) (X : Option Addr) (c : Nat) (L2 : List ByteArray), j + kk = cn ∧ iv = .int .i64 j ∧ o5 = .slice X L2.length c ∧ Hid (wr.ownsRow V.heap.size 9 1 (.slice X L2.length c) L2.length (strs L2)) ∧ Hid (Below V.heap.size V wr) ∧ Hid (In T W8 wr) ∧ Hid (∀ j, (Value.slice X L2.length c).ownBlock = some j → ¬ T j) ∧ Hid (CeI p q L L2 (cs.take j)))
   case atStart => exact ⟨0, _, c, L, by omega, rfl, rfl, HO9, HB9, HT9, HOf, HE9⟩
   case round =>
    obtain ⟨j, X2, c2, L2, hj, rfl, rfl, HO2, HB2, HT2, HOf2, HE⟩ := hrel
    by_cases hjt : j < cn
    ·have hjc : j < cs.length := by omega
     obtain ⟨a, e8, _, p1, hsz⟩ := text_at (n := cs.length) (by rw [hcl]; exact HTx8.out) HT2.out hjc
     subst e8
     have HCj : Hid (cs.take (j + 1) = cs.take j ++ [cs[j]]) := Lib.hid (List.take_succ_eq_append_getElem hjc)
     have HMj : Hid (cs[j] ∈ callsOf (preSL f.body)) := Lib.hid ((HCm.out _).1 (List.getElem_mem hjc))
     have hL2 : L2.length ≤ p.procs.length := by
      have := nodup_leA L2 (p.procs.map Pr.nm) HE.out.nd (fun s hs => by obtain ⟨f, hf, _, e⟩ := HE.out.rch s hs; exact List.mem_map.2 ⟨f, hf, e⟩)
      rwa [List.length_map] at this
     have HTL := Lib.hid (texts_of_own (fun s hs => by obtain ⟨x, hx, _, e⟩ := HE.out.rch s hs; rw [← e]; exact HNs.out x hx) HO2.out).2
     have HI2 := Lib.hid (rIn_any HTL.out (in_slf _ wr) cs[j])
     generalize cs[j] = t at p1 HCj HMj HI2 hsz
     cases ho : L2.any (isT t) with
     | true =>
      have HEn : Hid (CeI p q L L2 (cs.take (j + 1))) := Lib.hid (by rw [HCj.out]; exact HE.out.skip (any_isT.1 ho))
      rw [ho] at HI2
      clear ho
      go_wp2_with (go_at_call 22; refine HI2.out.mono ?_; rintro e' W' ⟨rfl, rfl⟩)
      go_roundg (cn - j - 1)
      case measure => omega
      case rel => exact ⟨j + 1, X2, c2, L2, by omega, by go_num, rfl, HO2, HB2, HT2, HOf2, HEn⟩
     | false =>
      have HEn : Hid (CeI p q L (L2 ++ [t]) (cs.take (j + 1))) := Lib.hid (by rw [HCj.out]; exact HE.out.step HOk.out HF.out HRf.out HMj.out (any_isT0.1 ho))
      rw [ho] at HI2
      clear ho
      have HW := Lib.hid (new_one wr t)
      have HO5 : Hid ((wr.alloc (.cells #[.string t] 9)).ownsRow V.heap.size 9 1 (.slice X2 L2.length c2) L2.length (strs L2)) := Lib.hid (HO2.out.alloc _)
      have HB5 : Hid (Below V.heap.size V (wr.alloc (.cells #[.string t] 9))) := Lib.hid (below_stepA HB2.out _)
      have HT5 : Hid (In T W8 (wr.alloc (.cells #[.string t] 9))) := Lib.hid (HT2.out.alloc _)
      go_wp2_with (first
       | (go_at_call 22; refine HI2.out.mono ?_; rintro e' W' ⟨rfl, rfl⟩)
       | (at_builtin; refine wpList_append_own_at _ rfl (.tmp 32) (.tmp 34) 22 rfl V.heap.size 9 i0 _ 1 16 Tryz.underlying22 hi0 hz0 hz1 hz2 rfl (by decide) _ L2.length (strs L2) rfl HO5.out ⟨wr.heap.size, 0, none⟩ 1 1 [.string t] rfl rfl HW.out (by simp [Value.oneCell']) (by unfold maxLen; omega) (by omega) HB5.out.size ?_; intro v6 w7 hown6 hg6 _ hat6; obtain ⟨X6, k6, rfl, _, _⟩ := own_shape hown6; have HO6 : Hid (w7.ownsRow V.heap.size 9 1 (.slice X6 (L2 ++ [t]).length k6) (L2 ++ [t]).length (strs (L2 ++ [t]))) := Lib.hid (by rw [strs_append, List.length_append]; exact hown6); have HB6 : Hid (Below V.heap.size V w7) := Lib.hid (HB5.out.grown hg6 HB5.out.size (fun j hj => (HO5.out.lt j hj).1)); have HT6 := Lib.hid (HT5.out.moves (moves_grown hg6) (fun j hj => HOf2.out j hj)); have HOf6 : Hid (∀ j, (Value.slice X6 (L2 ++ [t]).length k6).ownBlock = some j → ¬ T j) := Lib.hid (by rw [List.length_append]; exact off_new HT5.out HOf2.out hat6); clear hown6 hg6 hat6))
      go_roundg (cn - j - 1)
      case measure => omega
      case rel => exact ⟨j + 1, X6, k6, L2 ++ [t], by omega, by go_num, by rw [List.length_append]; rfl, HO6, HB6, HT6, HOf6, HEn⟩
    ·have HEe : Hid (CdI p q L2 (n + 1)) := Lib.hid (by
      have h := HE.out
      rw [List.take_of_length_le (by omega)] at h
      exact h.done HOk.out HD.out hlt HF.out HFn.out HCm.out)
     go_wp2_with fail
     go_roundg (p.procs.length - n - 1)
     case measure => omega
     case rel => exact ⟨n + 1, X2, c2, L2, by omega, by go_num, rfl, HO2, HB2, HEe⟩
  ·have HTx := Lib.hid (texts_of_own (HLs.out L n HD.out) HO.out).2
   have HSr := Lib.hid (rSorted_any HTx.out (by omega) (in_slf _ wr))
   have HRs : Hid (CdRes p q (srt L)) := Lib.hid ⟨L, rfl, fun s => HD.out.end_ HOk.out HQ.out (by omega) s⟩
   have HVw : Hid (W.heap.size ≤ wr.heap.size) := Lib.hid (below_step HB0.out HB.out).size
   go_wp2_with (go_at_call 91; refine HSr.out.mono ?_; rintro e' W12 ⟨v12, rfl, ho12, hb12⟩; have HO12 := Lib.hid ho12; have HB12 := Lib.hid (below_step (below_step HB0.out HB.out) hb12); clear ho12 hb12)
   go_ret
   exact ⟨srt L, v12, rfl, own_lower HO12.out HVw.out, HB12.out, HRs.out⟩
end Go.Proofs.YtimejkbmfbjomaaGreat
