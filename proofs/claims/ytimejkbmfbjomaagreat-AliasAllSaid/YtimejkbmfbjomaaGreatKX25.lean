/- Texts, merged by a program; only what is used. -/
import Derived.Test.YtimejkbmfbjomaaGreatKX1
import Derived.Test.YtimejkbmfbjomaaGreatKX2
import Derived.Test.YtimejkbmfbjomaaGreatKX3
import Derived.Test.YtimejkbmfbjomaaGreatKX4
import Derived.Test.YtimejkbmfbjomaaGreatKX5
import Derived.Test.YtimejkbmfbjomaaGreatKX6
import Derived.Test.YtimejkbmfbjomaaGreatKX7
import Derived.Test.YtimejkbmfbjomaaGreatKX8
import Derived.Test.YtimejkbmfbjomaaGreatKX9
import Derived.Test.YtimejkbmfbjomaaGreatKX10
import Derived.Test.YtimejkbmfbjomaaGreatKX11
import Derived.Test.YtimejkbmfbjomaaGreatKX12
import Derived.Test.YtimejkbmfbjomaaGreatKX13
import Derived.Test.YtimejkbmfbjomaaGreatKX14
import Derived.Test.YtimejkbmfbjomaaGreatKX15
import Derived.Test.YtimejkbmfbjomaaGreatKX16
import Derived.Test.YtimejkbmfbjomaaGreatKX17
namespace Go.Proofs.YtimejkbmfbjomaaGreat
open Go.ChangeShapes Go.WideShapes Go.ChangeAt Go.RowKit Go.Deep
set_option linter.unusedVariables false
set_option linter.unusedSimpArgs false
set_option maxHeartbeats 1000000 in
theorem IndexV_any {w W : World} {Q : Nat → Prop} {l : List Pr} {v : Value} (h : SliceI w Q 5 (ProcI w Q) l v) (hI : In Q w W) (s : ByteArray) (b : Nat) (hb : W.cell? ⟨b, 4, none⟩ = some (.string s)) :
  Calls Tryz.prog 80 #[v, .func (.func 136) #[] #[.pointer (some ⟨b, 0, none⟩)]] W fun e w' => e = .returned (.int .i64 (idxL (isQ s) l 0)) ∧ Below W.heap.size W w' := by
 obtain ⟨A, cap, rfl, hl1, hl2⟩ := h.shape
 have H := Lib.hid h
 have HI := Lib.hid hI
 have HB := Lib.hid hb
 clear h hI hb
 go_enter Tryz.func80, Tryz.ntmps80
 go_wp2_with fail
 go_loopg [8] l.length (fun kk i wr => ∃ k : Nat, k + kk = l.length ∧ i = .int .i64 k ∧ Hid (idxL (isQ s) (l.drop k) k = idxL (isQ s) l 0) ∧ Hid (Below W.heap.size W wr))
 case atStart => exact ⟨0, by omega, rfl, Lib.hid (by rw [List.drop_zero]), Lib.hid (Below.refl _ _)⟩
 case round =>
  obtain ⟨k, hk, rfl, HW, HR⟩ := hrel
  by_cases hlt : k < l.length
  ·obtain ⟨a, Cp, kp, Cv, kv, Cb, kb, Ce, ke, rfl, _, ⟨p0, p1, p2, p3, p4, _⟩, _⟩ := proc_at H.out (HI.out.on HR.out) hlt
   have HD := Lib.hid (idxL_drop (f := isQ s) hlt)
   rw [HW.out] at HD
   have hv : isQ s l[k] = (l[k].nm.toList == s.toList) := (dec_bytes _ _).symm
   generalize l[k] = y at p0 p1 p2 p3 p4 HD hv
   obtain ⟨yn, yp, yv, yb, ye⟩ := y
   simp only at p0 p1 p2 p3 p4 hv
   have q0 : wr.cell? ⟨b, 4, none⟩ = some (.string s) := (HR.out.cell (p := ⟨b, 4, none⟩) (World.block_lt_of_cell? W _ HB.out)).trans HB.out
   have hbl := World.block_lt_of_cell? wr _ q0
   cases hb : isQ s ⟨yn, yp, yv, yb, ye⟩ with
   | true =>
    rw [hb, if_pos rfl] at HD
    have hv2 : (yn.toList == s.toList) = true := by rw [← hv]; exact hb
    clear hv hb
    go_wp2_with (go_at_call 136; go_in)
    go_ret
    exact ⟨ret_int HD.out.symm, below_step HR.out (below_box _)⟩
   | false =>
    rw [hb, if_neg (by simp)] at HD
    have hv2 : (yn.toList == s.toList) = false := by rw [← hv]; exact hb
    clear hv hb
    go_wp2_with (go_at_call 136; go_in)
    go_roundg (l.length - k - 1)
    case measure => omega
    case rel => exact ⟨k + 1, by omega, by go_num, Lib.hid HD.out.symm, Lib.hid (below_step HR.out (below_box _))⟩
  ·have HD : Hid (idxL (isQ s) l 0 = -1) := Lib.hid (by rw [← HW.out, List.drop_of_length_le (by omega), idxL])
   go_wp2_with fail
   go_ret
   exact ⟨ret_int HD.out.symm, HR.out⟩
def tks (ps : List Pa) (l : List Ar) : Bool := decide (ps.map Pa.ref = l.map Ar.ref)
set_option maxHeartbeats 2000000 in
theorem EqualV_any {w W : World} {Q : Nat → Prop} {ps : List Pa} {l : List Ar} {v u : Value} (h : SliceI w Q 2 ParI ps v) (k : SliceI w Q 6 (ArgI w Q) l u) (hI : In Q w W) :
 Calls Tryz.prog 137 #[v, u, .func (.func 138) #[] #[]] W (MayOk (tks ps l) W) := by
 obtain ⟨A, k1, rfl, hlc1, hc1⟩ := h.shape
 obtain ⟨B, k2, rfl, hlc2, hc2⟩ := k.shape
 have H1 := Lib.hid h
 have H2 := Lib.hid k
 have HI := Lib.hid hI
 clear h k hI
 cases hl : (((ps.length : Nat) : Int) == ((l.length : Nat) : Int)) with
 | false =>
  have hne : ps.length ≠ l.length := by intro e; rw [e] at hl; simp at hl
  have HM : Hid (tks ps l = false) := Lib.hid (decide_eq_false (fun e => hne (by have := congrArg List.length e; simpa using this)))
  have hb : (((ps.length : Nat) : Int) != ((l.length : Nat) : Int)) = true := by rw [bne, hl]; rfl
  clear hl hne
  go_enter Tryz.func137, Tryz.ntmps137
  go_wp2_with fail
  go_ret
  exact ⟨ret_bool HM.out.symm, Below.refl _ _⟩
 | true =>
  have heq : ps.length = l.length := by have := eq_of_beq hl; omega
  have hb : (((ps.length : Nat) : Int) != ((l.length : Nat) : Int)) = false := by rw [bne, hl]; rfl
  have he1 : ps.length ≤ l.length := by omega
  have he2 : l.length ≤ ps.length := by omega
  clear hl heq
  go_enter Tryz.func137, Tryz.ntmps137
  go_wp2_with fail
  go_loopw [17] (fun i wr => ∃ k : Nat, k ≤ ps.length ∧ i = .int .i64 k ∧ Hid ((ps.map Pa.ref).take k = (l.map Ar.ref).take k) ∧ Hid (Below W.heap.size W wr)) (fun i _ => ps.length - (intOf i).toNat)
  case atStart => exact ⟨0, Nat.zero_le _, rfl, Lib.hid (by simp), Lib.hid (Below.refl _ _)⟩
  case round =>
   obtain ⟨k, hk, rfl, HT, HR⟩ := hrel
   by_cases hlt : k < ps.length
   ·have hk2 : k < l.length := by omega
    have hk3 : (k : Int) < (l.length : Int) := by omega
    obtain ⟨a1, rfl, _, ⟨p0, p1, _⟩, _⟩ := par_at H1.out (HI.out.on HR.out) hlt
    have hm1 : k < (ps.map Pa.ref).length := by simpa using hlt
    have hm2 : k < (l.map Ar.ref).length := by simpa using hk2
    have HSt : Hid (ps[k].ref = l[k].ref → (ps.map Pa.ref).take (k + 1) = (l.map Ar.ref).take (k + 1)) := Lib.hid (fun e => take_eq_step hm1 hm2 HT.out (by simpa using e))
    have HNe : Hid (ps[k].ref ≠ l[k].ref → tks ps l = false) := Lib.hid (fun e => decide_eq_false (ne_of_at hm1 hm2 (by simpa using e)))
    generalize ps[k] = x at p0 p1 HSt HNe
    obtain ⟨xn, xr⟩ := x
    simp only at p0 p1 HSt HNe
    have HIr := Lib.hid (HI.out.on HR.out)
    go_upto_region 6 with fail
    have HBx : Hid (Blk (wr.alloc (.cells #[.string xn, .bool xr] 68)) wr.heap.size 68 #[.string xn, .bool xr]) := Lib.hid (Blk.new _ _ _)
    have HB4 : Hid (Below W.heap.size W (wr.alloc (.cells #[.string xn, .bool xr] 68))) := Lib.hid (below_stepA HR.out _)
    have HI4 : Hid (In Q w (wr.alloc (.cells #[.string xn, .bool xr] 68))) := Lib.hid (HIr.out.alloc _)
    clear p0 p1
    generalize World.alloc wr _ = V4 at HBx HB4 HI4 ⊢
    generalize wr.heap.size = bx at HBx ⊢
    obtain ⟨a2, o1, n1, s1, A1, l1, c1, rfl, _, ⟨r0, r1, r2, r3, r4, r5, _⟩, _, _⟩ := arg_at H2.out HI4.out hk2
    generalize l[k] = y at r0 r1 HSt HNe
    obtain ⟨yr, yn, yx⟩ := y
    simp only at r0 r1 HSt HNe
    go_upto_region 7 with fail
    have HBy : Hid (Blk (V4.alloc (.cells #[.bool yr, .string yn, .int .i64 o1, .int .i64 n1, .string s1, .slice A1 l1 c1] 61)) V4.heap.size 61 #[.bool yr, .string yn, .int .i64 o1, .int .i64 n1, .string s1, .slice A1 l1 c1]) := Lib.hid (Blk.new _ _ _)
    have HB5 : Hid (Below W.heap.size W (V4.alloc (.cells #[.bool yr, .string yn, .int .i64 o1, .int .i64 n1, .string s1, .slice A1 l1 c1] 61))) := Lib.hid (below_stepA HB4.out _)
    have HBx5 : Hid (Blk (V4.alloc (.cells #[.bool yr, .string yn, .int .i64 o1, .int .i64 n1, .string s1, .slice A1 l1 c1] 61)) bx 68 #[.string xn, .bool xr]) := Lib.hid (HBx.out.alloc _)
    clear r0 r1 r2 r3 r4 r5 HI4 HB4 HBx
    generalize World.alloc V4 _ = V5 at HBy HB5 HBx5 ⊢
    generalize V4.heap.size = by_ at HBy ⊢
    have z0 : V5.cell? ⟨bx, 0, none⟩ = some (.string xn) := by rw [HBx5.out.cell]; rfl
    have z1 : V5.cell? ⟨bx, 1, none⟩ = some (.bool xr) := by rw [HBx5.out.cell]; rfl
    have y0_ : V5.cell? ⟨by_, 0, none⟩ = some (.bool yr) := by rw [HBy.out.cell]; rfl
    have y1_ : V5.cell? ⟨by_, 1, none⟩ = some (.string yn) := by rw [HBy.out.cell]; rfl
    have y2_ : V5.cell? ⟨by_, 2, none⟩ = some (.int .i64 o1) := by rw [HBy.out.cell]; rfl
    have y3_ : V5.cell? ⟨by_, 3, none⟩ = some (.int .i64 n1) := by rw [HBy.out.cell]; rfl
    have y4_ : V5.cell? ⟨by_, 4, none⟩ = some (.string s1) := by rw [HBy.out.cell]; rfl
    have y5_ : V5.cell? ⟨by_, 5, none⟩ = some (.slice A1 l1 c1) := by rw [HBy.out.cell]; rfl
    clear hm1 hm2
    by_cases hr : xr = yr
    ·subst hr
     have HS2 := Lib.hid (HSt.out rfl)
     have hrr : (xr == xr) = true := by cases xr <;> rfl
     clear HSt HNe
     cases xr
     all_goals
      go_wp2_with (go_at_call 138; go_in)
      go_roundw
      case rel => exact ⟨k + 1, by omega, by go_num, HS2, Lib.hid (below_stepA (below_stepA HB5.out _) _)⟩
      case measure => simp [intOf]; omega
    ·have HN2 := Lib.hid (HNe.out hr)
     clear HSt HNe
     cases xr
     all_goals
      cases yr
      all_goals first
       | exact absurd rfl hr
       | (clear hr
          go_wp2_with (go_at_call 138; go_in)
          go_ret
          exact ⟨ret_bool HN2.out.symm, below_stepA (below_stepA HB5.out _) _⟩)
   ·have HN : Hid (tks ps l = true) := Lib.hid (by
     have := HT.out
     rw [List.take_of_length_le (by simp; omega), List.take_of_length_le (by simp; omega)] at this
     exact decide_eq_true this)
    go_wp2_with fail
    go_ret
    exact ⟨ret_bool HN.out.symm, HR.out⟩
end Go.Proofs.YtimejkbmfbjomaaGreat
namespace Go.Proofs.YtimejkbmfbjomaaGreat
open Go.ChangeShapes Go.WideShapes Go.ChangeAt Go.RowKit Go.Deep
set_option linter.unusedVariables false
set_option linter.unusedSimpArgs false
def fitsB (l : List Pr) (s : S) : Bool := s.kind == 4 && (l.find? (isQ s.proc)).elim false (fun q => tks q.params s.args)
set_option maxHeartbeats 4000000 in
set_option maxRecDepth 100000 in
theorem fitsOne_any {w W : World} {Q : Nat → Prop} {l : List Pr} {v : Value} {s : S} {cs : List Value} (h : SliceI w Q 5 (ProcI w Q) l v) (hs : StmtI w Q s cs) (hI : In Q w W) :
 Calls Tryz.prog 105 #[v, .agg cs.toArray] W (MayOk (fitsB l s) W) := by
 obtain ⟨id, kind, labels, nm, proc, x, has, args, th, el, L, lc, y0, y1, y2, X, xn, xc, R, rc, T, tc, U, uc, rfl, rfl, hid, hkind, hnm, hproc, hl, hx, ha, hth, hel⟩ := stmt_open hs
 obtain ⟨A, cap, rfl, hl1, hl2⟩ := h.shape
 have H := Lib.hid h
 have HA := Lib.hid ha
 have HI := Lib.hid hI
 have HF : Hid (fitsB l (.mk id kind labels nm proc x has args th el) = (kind == 4 && (l.find? (isQ proc)).elim false (fun q => tks q.params args))) := Lib.hid rfl
 have HX := Lib.hid (fun V hV b hb => IndexV_any (W := V) h hV proc b hb)
 have hfd := idxL_get (isQ proc) l 0
 obtain ⟨_, ha1, ha2, _⟩ := slice_len ha
 have hkb := hkind
 unfold i64 at hkb
 clear h hs hI hid hkind hnm hproc hl hx ha hth hel
 generalize idxL (isQ proc) l 0 = z at HX hfd
 simp only [List.toArray]
 go_enter Tryz.func105, Tryz.ntmps105
 go_upto_region 1 with fail
 have HBs : Hid (Blk (W.alloc (.cells #[.int .i64 id, .int .i64 kind, .slice L labels.length lc, .string nm, .string proc, .int .i64 y0, .int .i64 y1, .string y2, .slice X xn xc, .bool has, .slice R args.length rc, .slice T th.length tc, .slice U el.length uc] 49)) W.heap.size 49 #[.int .i64 id, .int .i64 kind, .slice L labels.length lc, .string nm, .string proc, .int .i64 y0, .int .i64 y1, .string y2, .slice X xn xc, .bool has, .slice R args.length rc, .slice T th.length tc, .slice U el.length uc]) := Lib.hid (Blk.new _ _ _)
 have HB0 : Hid (Below W.heap.size W (W.alloc (.cells #[.int .i64 id, .int .i64 kind, .slice L labels.length lc, .string nm, .string proc, .int .i64 y0, .int .i64 y1, .string y2, .slice X xn xc, .bool has, .slice R args.length rc, .slice T th.length tc, .slice U el.length uc] 49))) := Lib.hid (below_box _)
 generalize World.alloc _ _ = V at HBs HB0 ⊢
 generalize hbe : W.heap.size = b at HBs ⊢
 clear hbe
 have HI0 := Lib.hid (HI.out.on HB0.out)
 have q1 : V.cell? ⟨b, 1, none⟩ = some (.int .i64 kind) := by rw [HBs.out.cell]; rfl
 have q4 : V.cell? ⟨b, 4, none⟩ = some (.string proc) := by rw [HBs.out.cell]; rfl
 have hbl := HBs.out.lt
 by_cases hk : kind = 4
 ·subst hk
  go_upto_region 4 with (go_at_call 80; refine (HX.out V HI0.out _ q4).mono ?_; rintro e w1 ⟨rfl, hb1⟩)
  have HB1 := Lib.hid (below_step HB0.out hb1)
  have HI1 := Lib.hid (HI0.out.on hb1)
  have HBs1 := Lib.hid (HBs.out.below hb1 hbl)
  clear q1 q4 hbl hb1 HX
  have q10 : w1.cell? ⟨b, 10, none⟩ = some (.slice R args.length rc) := by rw [HBs1.out.cell]; rfl
  have hbl := HBs1.out.lt
  rcases hfd with ⟨rfl, hf⟩ | ⟨j, hj, rfl, _, hf⟩
  ·have HF2 : Hid (fitsB l (.mk id 4 labels nm proc x has args th el) = false) := Lib.hid (by rw [HF.out, hf]; rfl)
   clear HF hf
   go_quiet (fail)
   go_wp2_with fail
   go_ret
   exact ⟨ret_bool HF2.out.symm, below_drewN HB1.out _⟩
  ·rw [Nat.zero_add]
   obtain ⟨a, Bp, kp, Bv, kv, Bb, kb, Be, ke, rfl, hqa, ⟨p0, p1, p2, p3, p4, _⟩, hnm, hpp, hvv, hbody, hee⟩ := proc_at H.out HI1.out hj
   have HF2 : Hid (fitsB l (.mk id 4 labels nm proc x has args th el) = tks l[j].params args) := Lib.hid (by rw [HF.out, hf]; rfl)
   have HC := Lib.hid (fun V hV => EqualV_any (W := V) hpp HA.out hV)
   have HQa : Hid (Q (a.add (j * 5)).block) := Lib.hid (by rw [block_add]; exact hqa)
   clear HF hf hqa hnm hpp hvv hbody hee p0 p2 p3 p4
   generalize tks l[j].params args = r at HC HF2
   generalize l[j].params.length = x1 at p1 HC
   have h0j : (0 : Int) ≤ (j : Int) := by omega
   have hdj : decide ((0 : Int) ≤ (j : Int)) = true := decide_eq_true h0j
   have hdr : ∀ V : World, In Q w V → In Q w V.drew := fun V h => h
   have hBD : Below w1.heap.size w1 w1.drew := (Below.refl _ _).drew
   go_region_held3 (fun w' : World => w'.cell? ⟨b, 10, none⟩ = some (.slice R args.length rc) ∧ w'.cell? ⟨(a.add (j * 5)).block, (a.add (j * 5)).off + 1, none⟩ = some (.slice Bp x1 kp))
    (go_keep)
    ((go_at_call 137; refine (HC.out _ (hdr _ HI1.out)).mono ?_; rintro e' w2 ⟨rfl, hb2⟩; have hb2' := hBD.trans hb2; have HI2 := Lib.hid (HI1.out.on hb2'); have k0 := (hb2'.cell (p := ⟨b, 10, none⟩) hbl).trans q10; have r1 := (HI2.out.cell (p := ⟨(a.add (j * 5)).block, (a.add (j * 5)).off + 1, none⟩) HQa.out).trans ((HI1.out.cell (p := ⟨(a.add (j * 5)).block, (a.add (j * 5)).off + 1, none⟩) HQa.out).symm.trans p1)))
   go_wp2_with fail
   go_ret
   exact ⟨by rw [HF2.out]; rfl, below_step HB1.out hb2'⟩
 ·have hk1 : (kind == 4) = false := beq_eq_false_iff_ne.2 hk
  have hk2 : (kind != 4) = true := by simp [bne, hk1]
  have HF2 : Hid (fitsB l (.mk id kind labels nm proc x has args th el) = false) := Lib.hid (by rw [HF.out, hk1]; rfl)
  clear hk HF
  go_wp2_with fail
  go_ret
  exact ⟨ret_bool HF2.out.symm, HB0.out⟩
end Go.Proofs.YtimejkbmfbjomaaGreat
namespace Go.Proofs.YtimejkbmfbjomaaGreat
open Go.ChangeShapes Go.WideShapes Go.ChangeAt Go.RowKit Go.Deep
set_option linter.unusedVariables false
set_option linter.unusedSimpArgs false
def misB (l : List Pr) (s : S) : Bool := s.kind == 4 && !fitsB l s
theorem preS_in : ∀ (l : List S) (k : Nat) (h : k < l.length), ∀ s ∈ preS l[k], s ∈ preSL l := by
 intro l
 induction l with
 | nil => intro k h; cases h
 | cons x l ih =>
  intro k h s hs
  rw [preSL]
  cases k with
  | zero => exact List.mem_append_left _ hs
  | succ k => exact List.mem_append_right _ (ih k (by simpa using h) s (by simpa using hs))
set_option maxHeartbeats 4000000 in
set_option maxRecDepth 100000 in
theorem misfit_any {w : World} {Q : Nat → Prop} {ps : List Pr} {vp : Value} (hp : SliceI w Q 5 (ProcI w Q) ps vp) : ∀ (N : Nat) (l : List S), (preSL l).length < N → ∀ {W : World} {A : Option Addr} {cap : Nat}, StmtsI w Q l (.slice A l.length cap) → In Q w W → (∀ s ∈ preSL l, s.id ≠ 0) →
 Calls Tryz.prog 73 #[vp, .slice A l.length cap] W (WrOk (fstB (misB ps) (preSL l)) W) := by
 have HFi := Lib.hid (fun s cs (h : StmtI w Q s cs) V hV => fitsOne_any (W := V) hp h hV)
 obtain ⟨Ap, cp, rfl, _⟩ := hp.shape
 clear hp
 intro N
 induction N with
 | zero => intro l h; omega
 | succ N ih =>
  intro l hN W A cap hl hI hz
  obtain ⟨_, hlc, hcap, _⟩ := slice_len hl
  have IH := Lib.hid @ih
  have HN := Lib.hid hN
  have HL := Lib.hid hl
  have HI := Lib.hid hI
  have HZ := Lib.hid hz
  clear ih hN hl hI hz
  go_enter Tryz.func73, Tryz.ntmps73
  go_upto_region 2 with fail
  go_loopg [11] l.length (fun kk iv wr => ∃ (k : Nat), k + kk = l.length ∧ iv = .int .i64 k ∧ Hid (Below W.heap.size W wr) ∧ Hid (fstB (misB ps) (preSL (l.drop k)) = fstB (misB ps) (preSL l)))
  case atStart => exact ⟨0, by omega, rfl, Lib.hid (Below.refl _ _), Lib.hid rfl⟩
  case round =>
   obtain ⟨k, hk, rfl, HBr, HA⟩ := hrel
   have HIr := Lib.hid (HI.out.on HBr.out)
   by_cases hlt : k < l.length
   ·obtain ⟨a, id, kind, labels, nm, proc, x, has, args, th, el, L, lc, x0, x1, x2, X, xn, xc, R, rc, T, tc, U, uc, rfl, hqa, hlk, ⟨p0, p1, p2, p3, p4, p5, p6, p7, p8, p9, p10, p11, p12, _⟩, hid, hkind, hnm, hproc, htx, hx, ha, hth, hel, hst⟩ := stmt_at HL.out HIr.out hlt
    have HAk : Hid (fstB (misB ps) (preSL l) = if misB ps (.mk id kind labels nm proc x has args th el) = true then id else if fstB (misB ps) (preSL th) = 0 then (if fstB (misB ps) (preSL el) = 0 then fstB (misB ps) (preSL (l.drop (k + 1))) else fstB (misB ps) (preSL el)) else fstB (misB ps) (preSL th)) := Lib.hid (by
     have h := fstB_step (f := misB ps) hlt HZ.out
     rw [HA.out, hlk] at h
     exact h)
    have hsub := preSL_at hlt
    have hmem : ∀ s ∈ preS l[k], s ∈ preSL l := preS_in l k hlt
    rw [hlk, subS_eq] at hsub
    rw [hlk, preS_eq, subS_eq] at hmem
    rw [List.length_append] at hsub
    rw [hlk] at hst
    have HR := Lib.hid (fun V hV => HFi.out _ _ hst V hV)
    have HT := Lib.hid (fun V hV => IH.out th (by have := HN.out; simp only [S.th, S.el] at hsub; omega) (W := V) hth hV (fun s hs => HZ.out s (hmem s (List.mem_cons_of_mem _ (List.mem_append_left _ hs)))))
    have HE := Lib.hid (fun V hV => IH.out el (by have := HN.out; simp only [S.th, S.el] at hsub; omega) (W := V) hel hV (fun s hs => HZ.out s (hmem s (List.mem_cons_of_mem _ (List.mem_append_right _ hs)))))
    simp only [List.toArray] at HR
    have hidb := hid
    have hkb := hkind
    unfold i64 at hidb hkb
    obtain ⟨r, hr⟩ : ∃ r, r = fitsB ps (.mk id kind labels nm proc x has args th el) := ⟨_, rfl⟩
    have HB : Hid (misB ps (.mk id kind labels nm proc x has args th el) = (kind == 4 && !r)) := Lib.hid (by rw [hr]; rfl)
    rw [← hr] at HR
    obtain ⟨d, hd⟩ : ∃ d, d = misB ps (.mk id kind labels nm proc x has args th el) := ⟨_, rfl⟩
    rw [← hd] at HAk HB
    clear hr hd hlk hsub hmem hst hid hkind hnm hproc htx hx ha hth hel hqa
    generalize fstB (misB ps) (preSL th) = r1 at HT HAk
    generalize fstB (misB ps) (preSL el) = r2 at HE HAk
    go_upto_region 4 with fail
    have HBx : Hid (Blk (wr.alloc (.cells #[.int .i64 id, .int .i64 kind, .slice L labels.length lc, .string nm, .string proc, .int .i64 x0, .int .i64 x1, .string x2, .slice X xn xc, .bool has, .slice R args.length rc, .slice T th.length tc, .slice U el.length uc] 49)) wr.heap.size 49 #[.int .i64 id, .int .i64 kind, .slice L labels.length lc, .string nm, .string proc, .int .i64 x0, .int .i64 x1, .string x2, .slice X xn xc, .bool has, .slice R args.length rc, .slice T th.length tc, .slice U el.length uc]) := Lib.hid (Blk.new _ _ _)
    have HB4 : Hid (Below W.heap.size W (wr.alloc (.cells #[.int .i64 id, .int .i64 kind, .slice L labels.length lc, .string nm, .string proc, .int .i64 x0, .int .i64 x1, .string x2, .slice X xn xc, .bool has, .slice R args.length rc, .slice T th.length tc, .slice U el.length uc] 49))) := Lib.hid (below_stepA HBr.out _)
    have HI4 : Hid (In Q w (wr.alloc (.cells #[.int .i64 id, .int .i64 kind, .slice L labels.length lc, .string nm, .string proc, .int .i64 x0, .int .i64 x1, .string x2, .slice X xn xc, .bool has, .slice R args.length rc, .slice T th.length tc, .slice U el.length uc] 49))) := Lib.hid (HIr.out.alloc _)
    clear p0 p1 p2 p3 p4 p5 p6 p7 p8 p9 p10 p11 p12 HIr
    generalize World.alloc wr _ = V4 at HBx HB4 HI4 ⊢
    generalize wr.heap.size = bx at HBx ⊢
    have hx4 := HBx.out.lt
    have y0 : V4.cell? ⟨bx, 0, none⟩ = some (.int .i64 id) := by rw [HBx.out.cell]; rfl
    have y1 : V4.cell? ⟨bx, 1, none⟩ = some (.int .i64 kind) := by rw [HBx.out.cell]; rfl
    have y2 : V4.cell? ⟨bx, 2, none⟩ = some (.slice L labels.length lc) := by rw [HBx.out.cell]; rfl
    have y3 : V4.cell? ⟨bx, 3, none⟩ = some (.string nm) := by rw [HBx.out.cell]; rfl
    have y4 : V4.cell? ⟨bx, 4, none⟩ = some (.string proc) := by rw [HBx.out.cell]; rfl
    have y5 : V4.cell? ⟨bx, 5, none⟩ = some (.int .i64 x0) := by rw [HBx.out.cell]; rfl
    have y6 : V4.cell? ⟨bx, 6, none⟩ = some (.int .i64 x1) := by rw [HBx.out.cell]; rfl
    have y7 : V4.cell? ⟨bx, 7, none⟩ = some (.string x2) := by rw [HBx.out.cell]; rfl
    have y8 : V4.cell? ⟨bx, 8, none⟩ = some (.slice X xn xc) := by rw [HBx.out.cell]; rfl
    have y9 : V4.cell? ⟨bx, 9, none⟩ = some (.bool has) := by rw [HBx.out.cell]; rfl
    have y10 : V4.cell? ⟨bx, 10, none⟩ = some (.slice R args.length rc) := by rw [HBx.out.cell]; rfl
    have y11 : V4.cell? ⟨bx, 11, none⟩ = some (.slice T th.length tc) := by rw [HBx.out.cell]; rfl
    have y12 : V4.cell? ⟨bx, 12, none⟩ = some (.slice U el.length uc) := by rw [HBx.out.cell]; rfl
    go_cut [23] from 15 to 22 (fun s wx => s = .bool d ∧ Hid (Below V4.heap.size V4 wx))
    case first =>
     by_cases hk4 : kind = 4
     ·subst hk4
      have HB2 : Hid (d = !r) := Lib.hid HB.out
      clear HB
      go_wp2_with (go_at_call 105; refine (HR.out V4 HI4.out).mono ?_; rintro e w5 ⟨rfl, hb5⟩)
      go_meet
      exact ⟨by rw [HB2.out], Lib.hid hb5⟩
     ·have hk5 : (kind == 4) = false := beq_eq_false_iff_ne.2 hk4
      have HB2 : Hid (d = false) := Lib.hid (by rw [HB.out, hk5]; rfl)
      clear hk4 HB
      go_wp2_with fail
      go_meet
      exact ⟨by rw [HB2.out], Lib.hid (Below.refl _ _)⟩
    case rest =>
     obtain ⟨rfl, HC⟩ := hcut
     have HBx5 := Lib.hid (HBx.out.below HC.out hx4)
     have HB5 := Lib.hid (below_step HB4.out HC.out)
     have HI5 := Lib.hid (HI4.out.on HC.out)
     clear y0 y1 y2 y3 y4 y5 y6 y7 y8 y9 y10 y11 y12 HC HB4 HI4 HBx HR hx4 HB
     have hx5 := HBx5.out.lt
     cases d with
     | true =>
      have HAn : Hid (fstB (misB ps) (preSL l) = id) := Lib.hid (by rw [HAk.out]; rfl)
      clear HAk
      have y0 : wc.cell? ⟨bx, 0, none⟩ = some (.int .i64 id) := by rw [HBx5.out.cell]; rfl
      go_wp2_with fail
      go_ret
      exact ⟨ret_int HAn.out.symm, HB5.out⟩
     | false =>
      have y11 : wc.cell? ⟨bx, 11, none⟩ = some (.slice T th.length tc) := by rw [HBx5.out.cell]; rfl
      go_upto_region 7 with (go_at_call 73; refine (HT.out wc HI5.out).mono ?_; rintro e w6 ⟨rfl, hb6⟩)
      have HBx6 := Lib.hid (HBx5.out.below hb6 hx5)
      have HB6 := Lib.hid (below_step HB5.out hb6)
      have HI6 := Lib.hid (HI5.out.on hb6)
      clear y11 hb6 HB5 HI5 HBx5 hx5 HT
      by_cases h1 : r1 = 0
      ·subst h1
       have HAn : Hid (fstB (misB ps) (preSL l) = if r2 = 0 then fstB (misB ps) (preSL (l.drop (k + 1))) else r2) := Lib.hid (by rw [HAk.out]; rfl)
       clear HAk
       have y12 : w6.cell? ⟨bx, 12, none⟩ = some (.slice U el.length uc) := by rw [HBx6.out.cell]; rfl
       by_cases h2 : r2 = 0
       ·subst h2
        rw [if_pos rfl] at HAn
        go_wp2_with (go_at_call 73; refine (HE.out w6 HI6.out).mono ?_; rintro e w7 ⟨rfl, hb7⟩; have HB7 := Lib.hid (below_step HB6.out hb7); clear hb7)
        go_roundg (l.length - k - 1)
        case measure => omega
        case rel => exact ⟨k + 1, by omega, by go_num, HB7, Lib.hid HAn.out.symm⟩
       ·rw [if_neg h2] at HAn
        have h2' : (r2 == 0) = false := beq_eq_false_iff_ne.2 h2
        clear h2
        go_wp2_with (go_at_call 73; refine (HE.out w6 HI6.out).mono ?_; rintro e w7 ⟨rfl, hb7⟩; have HB7 := Lib.hid (below_step HB6.out hb7); clear hb7)
        go_ret
        exact ⟨ret_int HAn.out.symm, HB7.out⟩
      ·have HAn : Hid (fstB (misB ps) (preSL l) = r1) := Lib.hid (by rw [HAk.out, if_neg h1]; rfl)
       have h1' : (r1 == 0) = false := beq_eq_false_iff_ne.2 h1
       clear h1 HAk
       go_wp2_with fail
       go_ret
       exact ⟨ret_int HAn.out.symm, HB6.out⟩
   ·have HAe : Hid (fstB (misB ps) (preSL l) = 0) := Lib.hid (by rw [← HA.out, List.drop_of_length_le (by omega), preSL]; rfl)
    go_wp2_with fail
    go_ret
    exact ⟨ret_int HAe.out.symm, HBr.out⟩
end Go.Proofs.YtimejkbmfbjomaaGreat
