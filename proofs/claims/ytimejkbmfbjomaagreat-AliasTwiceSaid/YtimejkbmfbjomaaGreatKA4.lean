/- Texts, merged by a program; only what is used. -/
import Derived.Test.YtimejkbmfbjomaaGreatK1
import Derived.Test.YtimejkbmfbjomaaGreatK2
import Derived.Test.YtimejkbmfbjomaaGreatK3
import Derived.Test.YtimejkbmfbjomaaGreatK4
import Derived.Test.YtimejkbmfbjomaaGreatK5
import Derived.Test.YtimejkbmfbjomaaGreatK6
import Derived.Test.YtimejkbmfbjomaaGreatK7
import Derived.Test.YtimejkbmfbjomaaGreatK8
import Derived.Test.YtimejkbmfbjomaaGreatK9
import Derived.Test.YtimejkbmfbjomaaGreatK10
import Derived.Test.YtimejkbmfbjomaaGreatK11
import Derived.Test.YtimejkbmfbjomaaGreatK12
import Derived.Test.YtimejkbmfbjomaaGreatK13
import Derived.Test.YtimejkbmfbjomaaGreatK14
import Derived.Test.YtimejkbmfbjomaaGreatK15
import Derived.Test.YtimejkbmfbjomaaGreatK16
import Derived.Test.YtimejkbmfbjomaaGreatK17
import Derived.Test.YtimejkbmfbjomaaGreatK18
import Derived.Test.YtimejkbmfbjomaaGreatK19
import Derived.Test.YtimejkbmfbjomaaGreatK20
import Derived.Test.YtimejkbmfbjomaaGreatK21
import Derived.Test.YtimejkbmfbjomaaGreatK22
import Derived.Test.YtimejkbmfbjomaaGreatK23
import Derived.Test.YtimejkbmfbjomaaGreatK24
import Derived.Test.YtimejkbmfbjomaaGreatK25
import Derived.Test.YtimejkbmfbjomaaGreatK26
import Derived.Test.YtimejkbmfbjomaaGreatK27
import Derived.Test.YtimejkbmfbjomaaGreatK28
import Derived.Test.YtimejkbmfbjomaaGreatK29
import Derived.Test.YtimejkbmfbjomaaGreatK30
import Derived.Test.YtimejkbmfbjomaaGreatKA1
import Derived.Test.YtimejkbmfbjomaaGreatKA3
namespace Go.Proofs.YtimejkbmfbjomaaGreat
open Go.ChangeShapes Go.WideShapes Go.ChangeAt Go.RowKit Go.Deep
set_option linter.unusedVariables false
set_option linter.unusedSimpArgs false
def misB (l : List Pr) (s : S) : Bool := s.kind == 4 && !fitsB l s
theorem preS_in : ∀ (l : List S) (k : Nat) (h : k < l.length), ∀ s ∈ preS l[k], s ∈ preSL l := by
 intro l
 induction l with
 | nil => intro k h; cases h
 | cons x l ih =>
  intro k h s hs
  rw [preSL]
  cases k with
  | zero => exact List.mem_append_left _ hs
  | succ k => exact List.mem_append_right _ (ih k (by simpa using h) s (by simpa using hs))
set_option maxHeartbeats 4000000 in
set_option maxRecDepth 100000 in
theorem misfit_any {w : World} {Q : Nat → Prop} {ps : List Pr} {vp : Value} (hp : SliceI w Q 5 (ProcI w Q) ps vp) : ∀ (N : Nat) (l : List S), (preSL l).length < N → ∀ {W : World} {A : Option Addr} {cap : Nat}, StmtsI w Q l (.slice A l.length cap) → In Q w W → (∀ s ∈ preSL l, s.id ≠ 0) →
 Calls Tryz.prog 73 #[vp, .slice A l.length cap] W (WrOk (fstB (misB ps) (preSL l)) W) := by
 have HFi := Lib.hid (fun s cs (h : StmtI w Q s cs) V hV => fitsOne_any (W := V) hp h hV)
 obtain ⟨Ap, cp, rfl, _⟩ := hp.shape
 clear hp
 intro N
 induction N with
 | zero => intro l h; omega
 | succ N ih =>
  intro l hN W A cap hl hI hz
  obtain ⟨_, hlc, hcap, _⟩ := slice_len hl
  have IH := Lib.hid @ih
  have HN := Lib.hid hN
  have HL := Lib.hid hl
  have HI := Lib.hid hI
  have HZ := Lib.hid hz
  clear ih hN hl hI hz
  go_enter Tryz.func73, Tryz.ntmps73
  go_upto_region 2 with fail
  go_loopg [11] l.length (fun kk iv wr => ∃ (k : Nat), k + kk = l.length ∧ iv = .int .i64 k ∧ Hid (Below W.heap.size W wr) ∧ Hid (fstB (misB ps) (preSL (l.drop k)) = fstB (misB ps) (preSL l)))
  case atStart => exact ⟨0, by omega, rfl, Lib.hid (Below.refl _ _), Lib.hid rfl⟩
  case round =>
   obtain ⟨k, hk, rfl, HBr, HA⟩ := hrel
   have HIr := Lib.hid (HI.out.on HBr.out)
   by_cases hlt : k < l.length
   ·obtain ⟨a, id, kind, labels, nm, proc, x, has, args, th, el, L, lc, x0, x1, x2, X, xn, xc, R, rc, T, tc, U, uc, rfl, hqa, hlk, ⟨p0, p1, p2, p3, p4, p5, p6, p7, p8, p9, p10, p11, p12, _⟩, hid, hkind, hnm, hproc, htx, hx, ha, hth, hel, hst⟩ := stmt_at HL.out HIr.out hlt
    have HAk : Hid (fstB (misB ps) (preSL l) = if misB ps (.mk id kind labels nm proc x has args th el) = true then id else if fstB (misB ps) (preSL th) = 0 then (if fstB (misB ps) (preSL el) = 0 then fstB (misB ps) (preSL (l.drop (k + 1))) else fstB (misB ps) (preSL el)) else fstB (misB ps) (preSL th)) := Lib.hid (by
     have h := fstB_step (f := misB ps) hlt HZ.out
     rw [HA.out, hlk] at h
     exact h)
    have hsub := preSL_at hlt
    have hmem : ∀ s ∈ preS l[k], s ∈ preSL l := preS_in l k hlt
    rw [hlk, subS_eq] at hsub
    rw [hlk, preS_eq, subS_eq] at hmem
    rw [List.length_append] at hsub
    rw [hlk] at hst
    have HR := Lib.hid (fun V hV => HFi.out _ _ hst V hV)
    have HT := Lib.hid (fun V hV => IH.out th (by have := HN.out; simp only [S.th, S.el] at hsub; omega) (W := V) hth hV (fun s hs => HZ.out s (hmem s (List.mem_cons_of_mem _ (List.mem_append_left _ hs)))))
    have HE := Lib.hid (fun V hV => IH.out el (by have := HN.out; simp only [S.th, S.el] at hsub; omega) (W := V) hel hV (fun s hs => HZ.out s (hmem s (List.mem_cons_of_mem _ (List.mem_append_right _ hs)))))
    simp only [List.toArray] at HR
    have hidb := hid
    have hkb := hkind
    unfold i64 at hidb hkb
    obtain ⟨r, hr⟩ : ∃ r, r = fitsB ps (.mk id kind labels nm proc x has args th el) := ⟨_, rfl⟩
    have HB : Hid (misB ps (.mk id kind labels nm proc x has args th el) = (kind == 4 && !r)) := Lib.hid (by rw [hr]; rfl)
    rw [← hr] at HR
    obtain ⟨d, hd⟩ : ∃ d, d = misB ps (.mk id kind labels nm proc x has args th el) := ⟨_, rfl⟩
    rw [← hd] at HAk HB
    clear hr hd hlk hsub hmem hst hid hkind hnm hproc htx hx ha hth hel hqa
    generalize fstB (misB ps) (preSL th) = r1 at HT HAk
    generalize fstB (misB ps) (preSL el) = r2 at HE HAk
    go_upto_region 4 with fail
    have HBx : Hid (Blk (wr.alloc (.cells #[.int .i64 id, .int .i64 kind, .slice L labels.length lc, .string nm, .string proc, .int .i64 x0, .int .i64 x1, .string x2, .slice X xn xc, .bool has, .slice R args.length rc, .slice T th.length tc, .slice U el.length uc] 49)) wr.heap.size 49 #[.int .i64 id, .int .i64 kind, .slice L labels.length lc, .string nm, .string proc, .int .i64 x0, .int .i64 x1, .string x2, .slice X xn xc, .bool has, .slice R args.length rc, .slice T th.length tc, .slice U el.length uc]) := Lib.hid (Blk.new _ _ _)
    have HB4 : Hid (Below W.heap.size W (wr.alloc (.cells #[.int .i64 id, .int .i64 kind, .slice L labels.length lc, .string nm, .string proc, .int .i64 x0, .int .i64 x1, .string x2, .slice X xn xc, .bool has, .slice R args.length rc, .slice T th.length tc, .slice U el.length uc] 49))) := Lib.hid (below_stepA HBr.out _)
    have HI4 : Hid (In Q w (wr.alloc (.cells #[.int .i64 id, .int .i64 kind, .slice L labels.length lc, .string nm, .string proc, .int .i64 x0, .int .i64 x1, .string x2, .slice X xn xc, .bool has, .slice R args.length rc, .slice T th.length tc, .slice U el.length uc] 49))) := Lib.hid (HIr.out.alloc _)
    clear p0 p1 p2 p3 p4 p5 p6 p7 p8 p9 p10 p11 p12 HIr
    generalize World.alloc wr _ = V4 at HBx HB4 HI4 ⊢
    generalize wr.heap.size = bx at HBx ⊢
    have hx4 := HBx.out.lt
    have y0 : V4.cell? ⟨bx, 0, none⟩ = some (.int .i64 id) := by rw [HBx.out.cell]; rfl
    have y1 : V4.cell? ⟨bx, 1, none⟩ = some (.int .i64 kind) := by rw [HBx.out.cell]; rfl
    have y2 : V4.cell? ⟨bx, 2, none⟩ = some (.slice L labels.length lc) := by rw [HBx.out.cell]; rfl
    have y3 : V4.cell? ⟨bx, 3, none⟩ = some (.string nm) := by rw [HBx.out.cell]; rfl
    have y4 : V4.cell? ⟨bx, 4, none⟩ = some (.string proc) := by rw [HBx.out.cell]; rfl
    have y5 : V4.cell? ⟨bx, 5, none⟩ = some (.int .i64 x0) := by rw [HBx.out.cell]; rfl
    have y6 : V4.cell? ⟨bx, 6, none⟩ = some (.int .i64 x1) := by rw [HBx.out.cell]; rfl
    have y7 : V4.cell? ⟨bx, 7, none⟩ = some (.string x2) := by rw [HBx.out.cell]; rfl
    have y8 : V4.cell? ⟨bx, 8, none⟩ = some (.slice X xn xc) := by rw [HBx.out.cell]; rfl
    have y9 : V4.cell? ⟨bx, 9, none⟩ = some (.bool has) := by rw [HBx.out.cell]; rfl
    have y10 : V4.cell? ⟨bx, 10, none⟩ = some (.slice R args.length rc) := by rw [HBx.out.cell]; rfl
    have y11 : V4.cell? ⟨bx, 11, none⟩ = some (.slice T th.length tc) := by rw [HBx.out.cell]; rfl
    have y12 : V4.cell? ⟨bx, 12, none⟩ = some (.slice U el.length uc) := by rw [HBx.out.cell]; rfl
    go_cut [23] from 15 to 22 (fun s wx => s = .bool d ∧ Hid (Below V4.heap.size V4 wx))
    case first =>
     by_cases hk4 : kind = 4
     ·subst hk4
      have HB2 : Hid (d = !r) := Lib.hid HB.out
      clear HB
      go_wp2_with (go_at_call 105; refine (HR.out V4 HI4.out).mono ?_; rintro e w5 ⟨rfl, hb5⟩)
      go_meet
      exact ⟨by rw [HB2.out], Lib.hid hb5⟩
     ·have hk5 : (kind == 4) = false := beq_eq_false_iff_ne.2 hk4
      have HB2 : Hid (d = false) := Lib.hid (by rw [HB.out, hk5]; rfl)
      clear hk4 HB
      go_wp2_with fail
      go_meet
      exact ⟨by rw [HB2.out], Lib.hid (Below.refl _ _)⟩
    case rest =>
     obtain ⟨rfl, HC⟩ := hcut
     have HBx5 := Lib.hid (HBx.out.below HC.out hx4)
     have HB5 := Lib.hid (below_step HB4.out HC.out)
     have HI5 := Lib.hid (HI4.out.on HC.out)
     clear y0 y1 y2 y3 y4 y5 y6 y7 y8 y9 y10 y11 y12 HC HB4 HI4 HBx HR hx4 HB
     have hx5 := HBx5.out.lt
     cases d with
     | true =>
      have HAn : Hid (fstB (misB ps) (preSL l) = id) := Lib.hid (by rw [HAk.out]; rfl)
      clear HAk
      have y0 : wc.cell? ⟨bx, 0, none⟩ = some (.int .i64 id) := by rw [HBx5.out.cell]; rfl
      go_wp2_with fail
      go_ret
      exact ⟨ret_int HAn.out.symm, HB5.out⟩
     | false =>
      have y11 : wc.cell? ⟨bx, 11, none⟩ = some (.slice T th.length tc) := by rw [HBx5.out.cell]; rfl
      go_upto_region 7 with (go_at_call 73; refine (HT.out wc HI5.out).mono ?_; rintro e w6 ⟨rfl, hb6⟩)
      have HBx6 := Lib.hid (HBx5.out.below hb6 hx5)
      have HB6 := Lib.hid (below_step HB5.out hb6)
      have HI6 := Lib.hid (HI5.out.on hb6)
      clear y11 hb6 HB5 HI5 HBx5 hx5 HT
      by_cases h1 : r1 = 0
      ·subst h1
       have HAn : Hid (fstB (misB ps) (preSL l) = if r2 = 0 then fstB (misB ps) (preSL (l.drop (k + 1))) else r2) := Lib.hid (by rw [HAk.out]; rfl)
       clear HAk
       have y12 : w6.cell? ⟨bx, 12, none⟩ = some (.slice U el.length uc) := by rw [HBx6.out.cell]; rfl
       by_cases h2 : r2 = 0
       ·subst h2
        rw [if_pos rfl] at HAn
        go_wp2_with (go_at_call 73; refine (HE.out w6 HI6.out).mono ?_; rintro e w7 ⟨rfl, hb7⟩; have HB7 := Lib.hid (below_step HB6.out hb7); clear hb7)
        go_roundg (l.length - k - 1)
        case measure => omega
        case rel => exact ⟨k + 1, by omega, by go_num, HB7, Lib.hid HAn.out.symm⟩
       ·rw [if_neg h2] at HAn
        have h2' : (r2 == 0) = false := beq_eq_false_iff_ne.2 h2
        clear h2
        go_wp2_with (go_at_call 73; refine (HE.out w6 HI6.out).mono ?_; rintro e w7 ⟨rfl, hb7⟩; have HB7 := Lib.hid (below_step HB6.out hb7); clear hb7)
        go_ret
        exact ⟨ret_int HAn.out.symm, HB7.out⟩
      ·have HAn : Hid (fstB (misB ps) (preSL l) = r1) := Lib.hid (by rw [HAk.out, if_neg h1]; rfl)
       have h1' : (r1 == 0) = false := beq_eq_false_iff_ne.2 h1
       clear h1 HAk
       go_wp2_with fail
       go_ret
       exact ⟨ret_int HAn.out.symm, HB6.out⟩
   ·have HAe : Hid (fstB (misB ps) (preSL l) = 0) := Lib.hid (by rw [← HA.out, List.drop_of_length_le (by omega), preSL]; rfl)
    go_wp2_with fail
    go_ret
    exact ⟨ret_int HAe.out.symm, HBr.out⟩
end Go.Proofs.YtimejkbmfbjomaaGreat
namespace Go.Proofs.YtimejkbmfbjomaaGreat
open Go.ChangeShapes Go.WideShapes Go.ChangeAt Go.RowKit Go.Deep
set_option linter.unusedVariables false
set_option linter.unusedSimpArgs false
def arL (ps : List Pr) : List Pr → Int × Int
 | [] => (0, 0)
 | q :: l => if fstB (misB ps) (preSL q.body) = 0 then arL ps l else (6, fstB (misB ps) (preSL q.body))
theorem arL_drop {ps l : List Pr} {k : Nat} (h : k < l.length) : arL ps (l.drop k) = if fstB (misB ps) (preSL l[k].body) = 0 then arL ps (l.drop (k + 1)) else (6, fstB (misB ps) (preSL l[k].body)) := by
 rw [List.drop_eq_getElem_cons h, arL]
def arP (p : Pg) : Int × Int := if (chkP p).1 = 0 then arL p.procs p.procs else (1, 0)
theorem chk_two {p : Pg} : (chkP p).1 = 0 → chkP p = (0, 0) := fun h => (chk_ok h).chk
set_option maxHeartbeats 8000000 in
set_option maxRecDepth 100000 in
theorem aCheck_any {w : World} {Q : Nat → Prop} {p : Pg} {c0 c1 : Value} (h : ProgI w Q p [c0, c1]) (hsm : SmG p) (W : World) (hI : In Q w W) :
 Calls Tryz.prog 33 #[.agg #[c0, c1]] W (ChRes (arP p) W) := by
 have HC := Lib.hid (fun V hV => Check_any h hsm V hV)
 obtain ⟨Ag, cg, Ap, cp, rfl, rfl, _, _, _, _, hgl, hpr⟩ := prog_open h
 have HP := Lib.hid hpr
 have HI := Lib.hid hI
 have HMi := Lib.hid (fun N l hN V A cap hl hV hz => misfit_any hpr N l hN (W := V) (A := A) (cap := cap) hl hV hz)
 have HK : Hid (arP p = if (chkP p).1 = 0 then arL p.procs p.procs else (1, 0)) := Lib.hid rfl
 have HT2 := Lib.hid (chk_two (p := p))
 have HOk := Lib.hid (chk_ok (p := p))
 clear h hI hgl hpr hsm
 generalize chkP p = r at HC HK HT2 HOk
 obtain ⟨rc, ri⟩ := r
 simp only at HK HT2 HOk
 by_cases hr : rc = 0
 ·have h2 := HT2.out hr
  simp only [Prod.mk.injEq] at h2
  obtain ⟨rfl, rfl⟩ := h2
  have HMy := Lib.hid (may_ids (HOk.out rfl).may)
  have HK2 : Hid (arP p = arL p.procs p.procs) := Lib.hid HK.out
  clear HK HT2 HOk hr
  go_enter Tryz.func33, Tryz.ntmps33
  go_upto_region 1 with fail
  have HB0 : Hid (Below W.heap.size W ((W.alloc (.cells #[.slice Ag p.globals.length cg, .slice Ap p.procs.length cp] 25)).alloc (.cells #[.int .i64 0, .int .i64 0] 34))) := Lib.hid (below_two _ _)
  have HBp : Hid (Blk ((W.alloc (.cells #[.slice Ag p.globals.length cg, .slice Ap p.procs.length cp] 25)).alloc (.cells #[.int .i64 0, .int .i64 0] 34)) W.heap.size 25 #[.slice Ag p.globals.length cg, .slice Ap p.procs.length cp]) := Lib.hid ((Blk.new _ _ _).alloc _)
  have HBf : Hid (Blk ((W.alloc (.cells #[.slice Ag p.globals.length cg, .slice Ap p.procs.length cp] 25)).alloc (.cells #[.int .i64 0, .int .i64 0] 34)) (W.heap.size + 1) 34 #[.int .i64 0, .int .i64 0]) := Lib.hid (by have := Blk.new (W.alloc (.cells #[.slice Ag p.globals.length cg, .slice Ap p.procs.length cp] 25)) 34 #[.int .i64 0, .int .i64 0]; rw [World.size_alloc] at this; exact this)
  generalize World.alloc _ _ = V at HB0 HBp HBf ⊢
  have HI0 := Lib.hid (HI.out.on HB0.out)
  have hwb : W.heap.size ≤ W.heap.size + 1 := by omega
  generalize hbe : W.heap.size = b at HBp HBf hwb ⊢
  generalize hfe : b + 1 = f at HBf hwb ⊢
  have hWf : W.heap.size ≤ f := by omega
  clear hbe hfe
  have q0 : V.cell? ⟨b, 0, none⟩ = some (.slice Ag p.globals.length cg) := by rw [HBp.out.cell]; rfl
  have q1 : V.cell? ⟨b, 1, none⟩ = some (.slice Ap p.procs.length cp) := by rw [HBp.out.cell]; rfl
  have hbl := HBp.out.lt
  have hfl := HBf.out.lt
  go_upto_region 3 with (go_at_call 18; refine (HC.out V HI0.out).mono ?_; rintro e w1 ⟨rfl, hb1⟩)
  have HB1 := Lib.hid (below_step HB0.out hb1)
  have HI1 := Lib.hid (HI0.out.on hb1)
  have HBp1 := Lib.hid (HBp.out.below hb1 hbl)
  have HBf1 := Lib.hid (HBf.out.below hb1 hfl)
  clear q0 q1 hb1 HB0 HBp HBf HI0 hbl hfl HC
  have q1 : w1.cell? ⟨b, 1, none⟩ = some (.slice Ap p.procs.length cp) := by rw [HBp1.out.cell]; rfl
  have hbl := HBp1.out.lt
  have hfl := HBf1.out.lt
  go_upto_region 4 with fail
  clear q1
  go_loopg [14] p.procs.length (fun kk iv wr => ∃ (k : Nat), k + kk = p.procs.length ∧ iv = .int .i64 k ∧ Hid (Below w1.heap.size w1 wr) ∧ Hid (arL p.procs (p.procs.drop k) = arL p.procs p.procs))
  case atStart => exact ⟨0, by omega, rfl, Lib.hid (Below.refl _ _), Lib.hid rfl⟩
  case round =>
   obtain ⟨k, hk, rfl, HBr, HA⟩ := hrel
   have HIr := Lib.hid (HI1.out.on HBr.out)
   have HBpr := Lib.hid (HBp1.out.below HBr.out hbl)
   have HBfr := Lib.hid (HBf1.out.below HBr.out hfl)
   by_cases hlt : k < p.procs.length
   ·obtain ⟨a, Bp, kp, Bv, kv, Bb, kb, Be, ke, rfl, hqa, hrow, hnm, hpp, hvv, hbody, hee⟩ := proc_at HP.out HIr.out hlt
    have hid := HMy.out _ (List.getElem_mem hlt)
    have HWr := Lib.hid (fun V hV => HMi.out _ p.procs[k].body (Nat.lt_succ_self _) V Bb kb hbody hV (fun s hs h0 => by have := hid s hs; omega))
    have HAk := Lib.hid (arL_drop (ps := p.procs) hlt)
    rw [HA.out] at HAk
    have hbB : i64 (fstB (misB p.procs) (preSL p.procs[k].body)) := by
     unfold fstB
     cases hf : (preSL p.procs[k].body).find? (misB p.procs) with
     | none => simp [i64]
     | some s =>
      have := hid s (List.mem_of_find?_eq_some hf)
      simp only [Option.elim_some]
      unfold i64
      omega
    clear hqa hnm hpp hvv hbody hee hid
    generalize fstB (misB p.procs) (preSL p.procs[k].body) = r at HWr HAk hbB
    generalize p.procs[k].nm = x0 at hrow
    generalize p.procs[k].params.length = x1 at hrow
    generalize p.procs[k].vars.length = x2 at hrow
    generalize p.procs[k].body.length = x3 at hrow HWr
    generalize p.procs[k].end_.length = x4 at hrow
    obtain ⟨p0, p1, p2, p3, p4, _⟩ := hrow
    unfold i64 at hbB
    go_upto_region 6 with fail
    have HBx : Hid (Blk (wr.alloc (.cells #[.string x0, .slice Bp x1 kp, .slice Bv x2 kv, .slice Bb x3 kb, .slice Be x4 ke] 39)) wr.heap.size 39 #[.string x0, .slice Bp x1 kp, .slice Bv x2 kv, .slice Bb x3 kb, .slice Be x4 ke]) := Lib.hid (Blk.new _ _ _)
    have HB4 : Hid (Below w1.heap.size w1 (wr.alloc (.cells #[.string x0, .slice Bp x1 kp, .slice Bv x2 kv, .slice Bb x3 kb, .slice Be x4 ke] 39))) := Lib.hid (below_stepA HBr.out _)
    have HI4 : Hid (In Q w (wr.alloc (.cells #[.string x0, .slice Bp x1 kp, .slice Bv x2 kv, .slice Bb x3 kb, .slice Be x4 ke] 39))) := Lib.hid (HIr.out.alloc _)
    clear p0 p1 p2 p3 p4 HIr HBpr HBfr
    generalize World.alloc wr _ = V4 at HBx HB4 HI4 ⊢
    generalize wr.heap.size = bx at HBx ⊢
    have HBp4 := Lib.hid (HBp1.out.below HB4.out hbl)
    have q1 : V4.cell? ⟨b, 1, none⟩ = some (.slice (some a) p.procs.length cp) := by rw [HBp4.out.cell]; rfl
    have z3 : V4.cell? ⟨bx, 3, none⟩ = some (.slice Bb x3 kb) := by rw [HBx.out.cell]; rfl
    go_upto_region 7 with (go_at_call 73; refine (HWr.out V4 HI4.out).mono ?_; rintro e w8 ⟨rfl, hb8⟩)
    have HB8 := Lib.hid (below_step HB4.out hb8)
    clear z3 q1 hb8 HB4 HI4 HBx HBp4 HWr
    by_cases hr : r = 0
    ·subst hr
     rw [if_pos rfl] at HAk
     go_wp2_with fail
     go_roundg (p.procs.length - k - 1)
     case measure => omega
     case rel => exact ⟨k + 1, by omega, by go_num, HB8, Lib.hid HAk.out.symm⟩
    ·rw [if_neg hr] at HAk
     have hr1 : (r == 0) = false := beq_eq_false_iff_ne.2 hr
     have HBf8 := Lib.hid (HBf1.out.below HB8.out hfl)
     have HBW8 := Lib.hid (below_step HB1.out HB8.out)
     clear hr
     have f0_ := HBf8.out.frozen 0
     have f1_ := HBf8.out.frozen 1
     have y0_ : w8.cell? ⟨f, 0, none⟩ = some (.int .i64 0) := by rw [HBf8.out.cell]; rfl
     have y1_ : w8.cell? ⟨f, 1, none⟩ = some (.int .i64 0) := by rw [HBf8.out.cell]; rfl
     go_wp2_with fail
     (try simp only [Exit.inBlock, Exit.then])
     refine bodyPost_ret (results_c1 rfl _ _ f 34 #[.int .i64 6, .int .i64 r] (0, 0) _ rfl (fault_end HBf8.out) Tryz.underlying34 rfl (by kernel_rfl)) rfl ?_
     exact ⟨by rw [HK2.out, HAk.out], below_setc (below_setc HBW8.out hWf _) hWf _⟩
   ·have HAn : Hid (arL p.procs p.procs = (0, 0)) := Lib.hid (by rw [← HA.out, List.drop_of_length_le (by omega)]; rfl)
    have HBWr := Lib.hid (below_step HB1.out HBr.out)
    have f0_ := HBfr.out.frozen 0
    have f1_ := HBfr.out.frozen 1
    have y0_ : wr.cell? ⟨f, 0, none⟩ = some (.int .i64 0) := by rw [HBfr.out.cell]; rfl
    have y1_ : wr.cell? ⟨f, 1, none⟩ = some (.int .i64 0) := by rw [HBfr.out.cell]; rfl
    go_wp2_with fail
    (try simp only [Exit.inBlock, Exit.then])
    refine bodyPost_ret (results_c1 rfl _ _ f 34 #[.int .i64 0, .int .i64 0] (0, 0) _ rfl (fault_end HBfr.out) Tryz.underlying34 rfl (by kernel_rfl)) rfl ?_
    exact ⟨by rw [HK2.out, HAn.out], below_setc (below_setc HBWr.out hWf _) hWf _⟩
 ·have HK2 : Hid (arP p = (1, 0)) := Lib.hid (by rw [HK.out, if_neg hr])
  have hr1 : (rc == 0) = false := beq_eq_false_iff_ne.2 hr
  clear HK HT2 HOk hr
  go_enter Tryz.func33, Tryz.ntmps33
  go_upto_region 1 with fail
  have HB0 : Hid (Below W.heap.size W ((W.alloc (.cells #[.slice Ag p.globals.length cg, .slice Ap p.procs.length cp] 25)).alloc (.cells #[.int .i64 0, .int .i64 0] 34))) := Lib.hid (below_two _ _)
  have HBp : Hid (Blk ((W.alloc (.cells #[.slice Ag p.globals.length cg, .slice Ap p.procs.length cp] 25)).alloc (.cells #[.int .i64 0, .int .i64 0] 34)) W.heap.size 25 #[.slice Ag p.globals.length cg, .slice Ap p.procs.length cp]) := Lib.hid ((Blk.new _ _ _).alloc _)
  have HBf : Hid (Blk ((W.alloc (.cells #[.slice Ag p.globals.length cg, .slice Ap p.procs.length cp] 25)).alloc (.cells #[.int .i64 0, .int .i64 0] 34)) (W.heap.size + 1) 34 #[.int .i64 0, .int .i64 0]) := Lib.hid (by have := Blk.new (W.alloc (.cells #[.slice Ag p.globals.length cg, .slice Ap p.procs.length cp] 25)) 34 #[.int .i64 0, .int .i64 0]; rw [World.size_alloc] at this; exact this)
  generalize World.alloc _ _ = V at HB0 HBp HBf ⊢
  have HI0 := Lib.hid (HI.out.on HB0.out)
  have hwb : W.heap.size ≤ W.heap.size + 1 := by omega
  generalize hbe : W.heap.size = b at HBp HBf hwb ⊢
  generalize hfe : b + 1 = f at HBf hwb ⊢
  have hWf : W.heap.size ≤ f := by omega
  clear hbe hfe
  have q0 : V.cell? ⟨b, 0, none⟩ = some (.slice Ag p.globals.length cg) := by rw [HBp.out.cell]; rfl
  have q1 : V.cell? ⟨b, 1, none⟩ = some (.slice Ap p.procs.length cp) := by rw [HBp.out.cell]; rfl
  have hbl := HBp.out.lt
  have hfl := HBf.out.lt
  go_upto_if 9 with (go_at_call 18; refine (HC.out V HI0.out).mono ?_; rintro e w1 ⟨rfl, hb1⟩)
  have HB1 := Lib.hid (below_step HB0.out hb1)
  have HBf1 := Lib.hid (HBf.out.below hb1 hfl)
  clear q0 q1 hb1
  have f0_ := HBf1.out.frozen 0
  have f1_ := HBf1.out.frozen 1
  have y0_ : w1.cell? ⟨f, 0, none⟩ = some (.int .i64 0) := by rw [HBf1.out.cell]; rfl
  have y1_ : w1.cell? ⟨f, 1, none⟩ = some (.int .i64 0) := by rw [HBf1.out.cell]; rfl
  go_wp2_with fail
  (try simp only [Exit.inBlock, Exit.then])
  refine bodyPost_ret (results_c1 rfl _ _ f 34 #[.int .i64 1, .int .i64 0] (0, 0) _ rfl (fault_end HBf1.out) Tryz.underlying34 rfl (by kernel_rfl)) rfl ?_
  exact ⟨by rw [HK2.out], below_setc (below_setc HB1.out hWf _) hWf _⟩
def fitsA (p : Pg) (s : S) : Bool := decide ((chkP p).1 = 0) && fitsB p.procs s
set_option maxHeartbeats 8000000 in
set_option maxRecDepth 100000 in
theorem aFits_any {w : World} {Q : Nat → Prop} {p : Pg} {c0 c1 : Value} {s : S} {cs : List Value} (h : ProgI w Q p [c0, c1]) (hsm : SmG p) (hs : StmtI w Q s cs) (W : World) (hI : In Q w W) :
 Calls Tryz.prog 70 #[.agg #[c0, c1], .agg cs.toArray] W (MayOk (fitsA p s) W) := by
 have HC := Lib.hid (fun V hV => Check_any h hsm V hV)
 obtain ⟨Ag, cg, Ap, cp, rfl, rfl, _, _, _, _, hgl, hpr⟩ := prog_open h
 have HFo := Lib.hid (fun V hV => fitsOne_any (W := V) hpr hs hV)
 obtain ⟨id, kind, labels, nm, proc, x, has, args, th, el, L, lc, y0, y1, y2, X, xn, xc, R, rc, T, tc, U, uc, rfl, rfl, hid, hkind, _⟩ := stmt_open hs
 have HI := Lib.hid hI
 have HT2 := Lib.hid (chk_two (p := p))
 have HK : Hid (fitsA p (.mk id kind labels nm proc x has args th el) = (decide ((chkP p).1 = 0) && fitsB p.procs (.mk id kind labels nm proc x has args th el))) := Lib.hid rfl
 clear h hI hgl hpr hsm hs hid hkind
 simp only [List.toArray] at HFo ⊢
 generalize fitsB p.procs (.mk id kind labels nm proc x has args th el) = fb at HFo HK
 generalize chkP p = r at HC HK HT2
 obtain ⟨cc, ri⟩ := r
 simp only at HK HT2
 go_enter Tryz.func70, Tryz.ntmps70
 go_upto_region 1 with fail
 have HB0 : Hid (Below W.heap.size W ((W.alloc (.cells #[.slice Ag p.globals.length cg, .slice Ap p.procs.length cp] 25)).alloc (.cells #[.int .i64 id, .int .i64 kind, .slice L labels.length lc, .string nm, .string proc, .int .i64 y0, .int .i64 y1, .string y2, .slice X xn xc, .bool has, .slice R args.length rc, .slice T th.length tc, .slice U el.length uc] 49))) := Lib.hid (below_two _ _)
 have HBp : Hid (Blk ((W.alloc (.cells #[.slice Ag p.globals.length cg, .slice Ap p.procs.length cp] 25)).alloc (.cells #[.int .i64 id, .int .i64 kind, .slice L labels.length lc, .string nm, .string proc, .int .i64 y0, .int .i64 y1, .string y2, .slice X xn xc, .bool has, .slice R args.length rc, .slice T th.length tc, .slice U el.length uc] 49)) W.heap.size 25 #[.slice Ag p.globals.length cg, .slice Ap p.procs.length cp]) := Lib.hid ((Blk.new _ _ _).alloc _)
 have HBs : Hid (Blk ((W.alloc (.cells #[.slice Ag p.globals.length cg, .slice Ap p.procs.length cp] 25)).alloc (.cells #[.int .i64 id, .int .i64 kind, .slice L labels.length lc, .string nm, .string proc, .int .i64 y0, .int .i64 y1, .string y2, .slice X xn xc, .bool has, .slice R args.length rc, .slice T th.length tc, .slice U el.length uc] 49)) (W.heap.size + 1) 49 #[.int .i64 id, .int .i64 kind, .slice L labels.length lc, .string nm, .string proc, .int .i64 y0, .int .i64 y1, .string y2, .slice X xn xc, .bool has, .slice R args.length rc, .slice T th.length tc, .slice U el.length uc]) := Lib.hid (by have := Blk.new (W.alloc (.cells #[.slice Ag p.globals.length cg, .slice Ap p.procs.length cp] 25)) 49 #[.int .i64 id, .int .i64 kind, .slice L labels.length lc, .string nm, .string proc, .int .i64 y0, .int .i64 y1, .string y2, .slice X xn xc, .bool has, .slice R args.length rc, .slice T th.length tc, .slice U el.length uc]; rw [World.size_alloc] at this; exact this)
 generalize World.alloc _ _ = V at HB0 HBp HBs ⊢
 have HI0 := Lib.hid (HI.out.on HB0.out)
 generalize hbe : W.heap.size = b at HBp HBs ⊢
 generalize hfe : b + 1 = f at HBs ⊢
 clear hbe hfe
 have q0 : V.cell? ⟨b, 0, none⟩ = some (.slice Ag p.globals.length cg) := by rw [HBp.out.cell]; rfl
 have q1 : V.cell? ⟨b, 1, none⟩ = some (.slice Ap p.procs.length cp) := by rw [HBp.out.cell]; rfl
 have hbl := HBp.out.lt
 have hfl := HBs.out.lt
 by_cases hr : cc = 0
 ·have h2 := HT2.out hr
  simp only [Prod.mk.injEq] at h2
  obtain ⟨rfl, rfl⟩ := h2
  have HK2 : Hid (fitsA p (.mk id kind labels nm proc x has args th el) = fb) := Lib.hid (by rw [HK.out]; simp)
  clear HK HT2 hr
  go_wp2_with (first
   | (go_at_call 18; refine (HC.out V HI0.out).mono ?_; rintro e w1 ⟨rfl, hb1⟩; have HB1 := Lib.hid (below_step HB0.out hb1); have HI1 := Lib.hid (HI0.out.on hb1); have HBp1 := Lib.hid (HBp.out.below hb1 hbl); have HBs1 := Lib.hid (HBs.out.below hb1 hfl); have q1' : w1.cell? ⟨b, 1, none⟩ = some (.slice Ap p.procs.length cp) := (by rw [HBp1.out.cell]; rfl); have s0' : w1.cell? ⟨f, 0, none⟩ = some (.int .i64 id) := (by rw [HBs1.out.cell]; rfl); have s1' : w1.cell? ⟨f, 1, none⟩ = some (.int .i64 kind) := (by rw [HBs1.out.cell]; rfl); have s2' : w1.cell? ⟨f, 2, none⟩ = some (.slice L labels.length lc) := (by rw [HBs1.out.cell]; rfl); have s3' : w1.cell? ⟨f, 3, none⟩ = some (.string nm) := (by rw [HBs1.out.cell]; rfl); have s4' : w1.cell? ⟨f, 4, none⟩ = some (.string proc) := (by rw [HBs1.out.cell]; rfl); have s5' : w1.cell? ⟨f, 5, none⟩ = some (.int .i64 y0) := (by rw [HBs1.out.cell]; rfl); have s6' : w1.cell? ⟨f, 6, none⟩ = some (.int .i64 y1) := (by rw [HBs1.out.cell]; rfl); have s7' : w1.cell? ⟨f, 7, none⟩ = some (.string y2) := (by rw [HBs1.out.cell]; rfl); have s8' : w1.cell? ⟨f, 8, none⟩ = some (.slice X xn xc) := (by rw [HBs1.out.cell]; rfl); have s9' : w1.cell? ⟨f, 9, none⟩ = some (.bool has) := (by rw [HBs1.out.cell]; rfl); have s10' : w1.cell? ⟨f, 10, none⟩ = some (.slice R args.length rc) := (by rw [HBs1.out.cell]; rfl); have s11' : w1.cell? ⟨f, 11, none⟩ = some (.slice T th.length tc) := (by rw [HBs1.out.cell]; rfl); have s12' : w1.cell? ⟨f, 12, none⟩ = some (.slice U el.length uc) := (by rw [HBs1.out.cell]; rfl); clear hb1)
   | (go_at_call 105; refine (HFo.out w1 HI1.out).mono ?_; rintro e w2 ⟨rfl, hb2⟩))
  go_ret
  exact ⟨by rw [HK2.out]; rfl, below_step HB1.out hb2⟩
 ·have HK2 : Hid (fitsA p (.mk id kind labels nm proc x has args th el) = false) := Lib.hid (by rw [HK.out, decide_eq_false hr]; rfl)
  have hr1 : (cc == 0) = false := beq_eq_false_iff_ne.2 hr
  clear HK HT2 hr
  go_wp2_with (go_at_call 18; refine (HC.out V HI0.out).mono ?_; rintro e w1 ⟨rfl, hb1⟩)
  go_ret
  exact ⟨ret_bool HK2.out.symm, below_step HB0.out hb1⟩
end Go.Proofs.YtimejkbmfbjomaaGreat
