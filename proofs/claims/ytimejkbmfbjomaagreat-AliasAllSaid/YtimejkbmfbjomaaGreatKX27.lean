/- Texts, merged by a program; only what is used. -/
import Derived.Test.YtimejkbmfbjomaaGreatKX1
import Derived.Test.YtimejkbmfbjomaaGreatKX2
import Derived.Test.YtimejkbmfbjomaaGreatKX3
import Derived.Test.YtimejkbmfbjomaaGreatKX4
import Derived.Test.YtimejkbmfbjomaaGreatKX5
import Derived.Test.YtimejkbmfbjomaaGreatKX6
import Derived.Test.YtimejkbmfbjomaaGreatKX7
import Derived.Test.YtimejkbmfbjomaaGreatKX8
import Derived.Test.YtimejkbmfbjomaaGreatKX9
import Derived.Test.YtimejkbmfbjomaaGreatKX10
import Derived.Test.YtimejkbmfbjomaaGreatKX11
import Derived.Test.YtimejkbmfbjomaaGreatKX12
import Derived.Test.YtimejkbmfbjomaaGreatKX13
import Derived.Test.YtimejkbmfbjomaaGreatKX14
import Derived.Test.YtimejkbmfbjomaaGreatKX15
import Derived.Test.YtimejkbmfbjomaaGreatKX16
import Derived.Test.YtimejkbmfbjomaaGreatKX17
import Derived.Test.YtimejkbmfbjomaaGreatKX18
import Derived.Test.YtimejkbmfbjomaaGreatKX19
import Derived.Test.YtimejkbmfbjomaaGreatKX20
import Derived.Test.YtimejkbmfbjomaaGreatKX21
import Derived.Test.YtimejkbmfbjomaaGreatKX22
import Derived.Test.YtimejkbmfbjomaaGreatKX23
import Derived.Test.YtimejkbmfbjomaaGreatKX24
import Derived.Test.YtimejkbmfbjomaaGreatKX25
import Derived.Test.YtimejkbmfbjomaaGreatKX26
namespace Go.Proofs.YtimejkbmfbjomaaGreat
open Go.ChangeShapes Go.WideShapes Go.ChangeAt Go.RowKit Go.Deep
set_option linter.unusedVariables false
set_option linter.unusedSimpArgs false
noncomputable def alB (p : Pg) (s : S) : Bool := s.kind == 4 && !apB p s
theorem preS_len (s : S) : (preS s).length = 1 + (preSL s.th).length + (preSL s.el).length := by
 rw [preS_eq, subS_eq, List.length_cons, List.length_append]
 omega
set_option maxHeartbeats 8000000 in
set_option maxRecDepth 100000 in
theorem alMisfit_any {w : World} {Q : Nat → Prop} {p : Pg} {c0 c1 : Value} {B m : Nat} (h : ProgI w Q p [c0, c1]) (hsm : SmG p) (hck : chkOK p = true → p.procs.length ≤ 16 ∧ ∀ q ∈ p.procs, (saidOf (preSL q.body)).length ≤ 10000000) (hQ : ¬ Q m) : ∀ (N : Nat) (l : List S), (preSL l).length < N → ∀ {W : World} {A : Option Addr} {cap n : Nat}, StmtsI w Q l (.slice A l.length cap) → In Q w W → CkI p B W m n → B ≤ W.heap.size → n + (preSL l).length < 1000000000 → (∀ s ∈ preSL l, s.id ≠ 0) → (∀ s ∈ preSL l, s.args.length ≤ 1000000) →
 Calls Tryz.prog 61 #[.agg #[c0, c1, .map (some m)], .slice A l.length cap] W fun e W' => e = .returned (.int .i64 (fstB (alB p) (preSL l))) ∧ CkI p B W' m (n + (preSL l).length) ∧ Moves (fun j => j = m) W W' := by
 have HFi := Lib.hid (fun s cs (hs : StmtI w Q s cs) (ha : s.args.length ≤ 1000000) (V : World) (k : Nat) (hC : CkI p B V m k) (hB : B ≤ V.heap.size) (hk : k < maxLen) (hV : In Q w V) => alFits_any h hsm hck hs ha hC hB hk hV hQ hV)
 have HQ := Lib.hid hQ
 obtain ⟨Ag, cg, Ap, cp, rfl, rfl, _⟩ := prog_open h
 clear h hsm hck hQ
 intro N
 induction N with
 | zero => intro l h; omega
 | succ N ih =>
  intro l hN W A cap n hl hI hC hB hn hz ha
  obtain ⟨_, hlc, hcap, _⟩ := slice_len hl
  have IH := Lib.hid @ih
  have HN := Lib.hid hN
  have HL := Lib.hid hl
  have HI := Lib.hid hI
  have HZ := Lib.hid hz
  have HAr := Lib.hid ha
  have HC := Lib.hid hC
  have HNn := Lib.hid hn
  have hml := hC.lt
  clear ih hN hl hI hz ha hC hn
  go_enter Tryz.func61, Tryz.ntmps61
  go_upto_region 1 with fail
  have HB0 : Hid (Below W.heap.size W (W.alloc (.cells #[.slice Ag p.globals.length cg, .slice Ap p.procs.length cp, .map (some m)] 89))) := Lib.hid (below_box _)
  have HBp : Hid (Blk (W.alloc (.cells #[.slice Ag p.globals.length cg, .slice Ap p.procs.length cp, .map (some m)] 89)) W.heap.size 89 #[.slice Ag p.globals.length cg, .slice Ap p.procs.length cp, .map (some m)]) := Lib.hid (Blk.new _ _ _)
  generalize World.alloc _ _ = V at HB0 HBp ⊢
  have HBV : Hid (B ≤ V.heap.size) := Lib.hid (Nat.le_trans hB HB0.out.size)
  generalize hbe : W.heap.size = b at HBp hml ⊢
  have hmb : b ≠ m := by omega
  clear hbe
  have HI0 := Lib.hid (HI.out.on HB0.out)
  have HC0 := Lib.hid (HC.out.step HB0.out)
  have HMV : Hid (Moves (fun j => j = m) W V) := Lib.hid (below_mv HB0.out)
  clear HC HI HB0
  go_upto_region 2 with fail
  go_loopg [11] l.length (fun kk iv wr => ∃ (k : Nat), k + kk = l.length ∧ iv = .int .i64 k ∧ Hid (Moves (fun j => j = m) V wr) ∧ Hid (CkI p B wr m (n + (preSL (l.take k)).length)) ∧ Hid (fstB (alB p) (preSL (l.drop k)) = fstB (alB p) (preSL l)))
  case atStart => exact ⟨0, by omega, rfl, Lib.hid (Moves.refl _ _), Lib.hid (by simpa [preSL] using HC0.out), Lib.hid rfl⟩
  case round =>
   obtain ⟨k, hk, rfl, HMr, HCr, HA⟩ := hrel
   have HIr := Lib.hid (HI0.out.moves HMr.out (fun j hj hq => HQ.out (hj ▸ hq)))
   have HBpr := Lib.hid (HMr.out.blk HBp.out hmb)
   have HBr : Hid (B ≤ wr.heap.size) := Lib.hid (Nat.le_trans HBV.out HMr.out.size)
   by_cases hlt : k < l.length
   ·obtain ⟨a, id, kind, labels, nm, proc, x, has, args, th, el, L, lc, x0, x1, x2, X, xn, xc, R, rc, T, tc, U, uc, rfl, hqa, hlk, ⟨p0, p1, p2, p3, p4, p5, p6, p7, p8, p9, p10, p11, p12, _⟩, hid, hkind, hnm, hproc, htx, hx, ha, hth, hel, hst⟩ := stmt_at HL.out HIr.out hlt
    have HAk : Hid (fstB (alB p) (preSL l) = if alB p (.mk id kind labels nm proc x has args th el) = true then id else if fstB (alB p) (preSL th) = 0 then (if fstB (alB p) (preSL el) = 0 then fstB (alB p) (preSL (l.drop (k + 1))) else fstB (alB p) (preSL el)) else fstB (alB p) (preSL th)) := Lib.hid (by
     have h := fstB_step (f := alB p) hlt HZ.out
     rw [HA.out, hlk] at h
     exact h)
    have hsub := preSL_at hlt
    have hmem : ∀ s ∈ preS l[k], s ∈ preSL l := preS_in l k hlt
    have hpl : (preSL (l.take (k + 1))).length = (preSL (l.take k)).length + (1 + (preSL th).length + (preSL el).length) := by
     rw [preSL_take hlt, List.length_append, preS_len, hlk]
     rfl
    have hpm := preSL_take_le l (k + 1)
    rw [hlk, subS_eq] at hsub
    rw [hlk, preS_eq, subS_eq] at hmem
    rw [List.length_append] at hsub
    rw [hlk] at hst
    have hn := HNn.out
    obtain ⟨n1, hn1⟩ : ∃ n1, n1 = n + (preSL (l.take k)).length := ⟨_, rfl⟩
    rw [← hn1] at HCr
    have HNe : Hid (n + (preSL (l.take (k + 1))).length = n1 + 1 + (preSL th).length + (preSL el).length) := Lib.hid (by omega)
    have HNl : Hid (n1 + 1 + (preSL th).length + (preSL el).length ≤ n + (preSL l).length) := Lib.hid (by omega)
    have HNz : Hid (n1 + 1 + (preSL th).length + (preSL el).length < 1000000000) := Lib.hid (by omega)
    have HR := Lib.hid (fun V hC hB hV => HFi.out _ _ hst (HAr.out _ (hmem _ (List.mem_cons_self ..))) V n1 hC hB (by have := HNz.out; unfold maxLen; omega) hV)
    have HT := Lib.hid (fun V hV hC hB => IH.out th (by have := HN.out; simp only [S.th, S.el] at hsub; omega) (W := V) (n := n1 + 1) hth hV hC hB (by have := HNz.out; omega) (fun s hs => HZ.out s (hmem s (List.mem_cons_of_mem _ (List.mem_append_left _ hs)))) (fun s hs => HAr.out s (hmem s (List.mem_cons_of_mem _ (List.mem_append_left _ hs)))))
    have HE := Lib.hid (fun V hV hC hB => IH.out el (by have := HN.out; simp only [S.th, S.el] at hsub; omega) (W := V) (n := n1 + 1 + (preSL th).length) hel hV hC hB (by have := HNz.out; omega) (fun s hs => HZ.out s (hmem s (List.mem_cons_of_mem _ (List.mem_append_right _ hs)))) (fun s hs => HAr.out s (hmem s (List.mem_cons_of_mem _ (List.mem_append_right _ hs)))))
    simp only [List.toArray] at HR
    have hidb := hid
    have hkb := hkind
    unfold i64 at hidb hkb
    obtain ⟨r, hr⟩ : ∃ r, r = apB p (.mk id kind labels nm proc x has args th el) := ⟨_, rfl⟩
    have HB : Hid (alB p (.mk id kind labels nm proc x has args th el) = (kind == 4 && !r)) := Lib.hid (by rw [hr]; rfl)
    rw [← hr] at HR
    obtain ⟨d, hd⟩ : ∃ d, d = alB p (.mk id kind labels nm proc x has args th el) := ⟨_, rfl⟩
    rw [← hd] at HAk HB
    clear hr hd hlk hsub hmem hst hid hkind hnm hproc htx hx ha hth hel hqa hpl hpm hn hn1
    generalize fstB (alB p) (preSL th) = r1 at HT HAk
    generalize fstB (alB p) (preSL el) = r2 at HE HAk
    generalize (preSL th).length = t1 at HT HE HNe HNl HNz
    generalize (preSL el).length = t2 at HE HNe HNl HNz
    go_upto_region 4 with fail
    have HBx : Hid (Blk (wr.alloc (.cells #[.int .i64 id, .int .i64 kind, .slice L labels.length lc, .string nm, .string proc, .int .i64 x0, .int .i64 x1, .string x2, .slice X xn xc, .bool has, .slice R args.length rc, .slice T th.length tc, .slice U el.length uc] 49)) wr.heap.size 49 #[.int .i64 id, .int .i64 kind, .slice L labels.length lc, .string nm, .string proc, .int .i64 x0, .int .i64 x1, .string x2, .slice X xn xc, .bool has, .slice R args.length rc, .slice T th.length tc, .slice U el.length uc]) := Lib.hid (Blk.new _ _ _)
    have HM4 : Hid (Moves (fun j => j = m) V (wr.alloc (.cells #[.int .i64 id, .int .i64 kind, .slice L labels.length lc, .string nm, .string proc, .int .i64 x0, .int .i64 x1, .string x2, .slice X xn xc, .bool has, .slice R args.length rc, .slice T th.length tc, .slice U el.length uc] 49))) := Lib.hid (HMr.out.alloc _)
    have HC4 : Hid (CkI p B (wr.alloc (.cells #[.int .i64 id, .int .i64 kind, .slice L labels.length lc, .string nm, .string proc, .int .i64 x0, .int .i64 x1, .string x2, .slice X xn xc, .bool has, .slice R args.length rc, .slice T th.length tc, .slice U el.length uc] 49)) m n1) := Lib.hid (HCr.out.step (below_box _))
    have HI4 : Hid (In Q w (wr.alloc (.cells #[.int .i64 id, .int .i64 kind, .slice L labels.length lc, .string nm, .string proc, .int .i64 x0, .int .i64 x1, .string x2, .slice X xn xc, .bool has, .slice R args.length rc, .slice T th.length tc, .slice U el.length uc] 49))) := Lib.hid (HIr.out.alloc _)
    have HBp4 : Hid (Blk (wr.alloc (.cells #[.int .i64 id, .int .i64 kind, .slice L labels.length lc, .string nm, .string proc, .int .i64 x0, .int .i64 x1, .string x2, .slice X xn xc, .bool has, .slice R args.length rc, .slice T th.length tc, .slice U el.length uc] 49)) b 89 #[.slice Ag p.globals.length cg, .slice Ap p.procs.length cp, .map (some m)]) := Lib.hid (HBpr.out.alloc _)
    have HB4 : Hid (B ≤ (wr.alloc (.cells #[.int .i64 id, .int .i64 kind, .slice L labels.length lc, .string nm, .string proc, .int .i64 x0, .int .i64 x1, .string x2, .slice X xn xc, .bool has, .slice R args.length rc, .slice T th.length tc, .slice U el.length uc] 49)).heap.size) := Lib.hid (Nat.le_trans HBr.out (below_box (W := wr) _).size)
    have hmr := HCr.out.lt
    clear p0 p1 p2 p3 p4 p5 p6 p7 p8 p9 p10 p11 p12 HIr HBr HBpr HCr HMr
    generalize World.alloc wr _ = V4 at HBx HM4 HC4 HI4 HBp4 HB4 ⊢
    generalize hbx : wr.heap.size = bx at HBx hmr ⊢
    have hmx : bx ≠ m := by omega
    clear hbx hmr
    have y0 : V4.cell? ⟨bx, 0, none⟩ = some (.int .i64 id) := by rw [HBx.out.cell]; rfl
    have y1 : V4.cell? ⟨bx, 1, none⟩ = some (.int .i64 kind) := by rw [HBx.out.cell]; rfl
    have y2 : V4.cell? ⟨bx, 2, none⟩ = some (.slice L labels.length lc) := by rw [HBx.out.cell]; rfl
    have y3 : V4.cell? ⟨bx, 3, none⟩ = some (.string nm) := by rw [HBx.out.cell]; rfl
    have y4 : V4.cell? ⟨bx, 4, none⟩ = some (.string proc) := by rw [HBx.out.cell]; rfl
    have y5 : V4.cell? ⟨bx, 5, none⟩ = some (.int .i64 x0) := by rw [HBx.out.cell]; rfl
    have y6 : V4.cell? ⟨bx, 6, none⟩ = some (.int .i64 x1) := by rw [HBx.out.cell]; rfl
    have y7 : V4.cell? ⟨bx, 7, none⟩ = some (.string x2) := by rw [HBx.out.cell]; rfl
    have y8 : V4.cell? ⟨bx, 8, none⟩ = some (.slice X xn xc) := by rw [HBx.out.cell]; rfl
    have y9 : V4.cell? ⟨bx, 9, none⟩ = some (.bool has) := by rw [HBx.out.cell]; rfl
    have y10 : V4.cell? ⟨bx, 10, none⟩ = some (.slice R args.length rc) := by rw [HBx.out.cell]; rfl
    have y11 : V4.cell? ⟨bx, 11, none⟩ = some (.slice T th.length tc) := by rw [HBx.out.cell]; rfl
    have y12 : V4.cell? ⟨bx, 12, none⟩ = some (.slice U el.length uc) := by rw [HBx.out.cell]; rfl
    have q0 : V4.cell? ⟨b, 0, none⟩ = some (.slice Ag p.globals.length cg) := by rw [HBp4.out.cell]; rfl
    have q1 : V4.cell? ⟨b, 1, none⟩ = some (.slice Ap p.procs.length cp) := by rw [HBp4.out.cell]; rfl
    have q2 : V4.cell? ⟨b, 2, none⟩ = some (.map (some m)) := by rw [HBp4.out.cell]; rfl
    go_cut [23] from 15 to 22 (fun s wx => s = .bool d ∧ Hid (CkI p B wx m (n1 + 1)) ∧ Hid (Moves (fun j => j = m) V4 wx))
    case first =>
     by_cases hk4 : kind = 4
     ·subst hk4
      have HB2 : Hid (d = !r) := Lib.hid HB.out
      clear HB
      go_wp2_with (go_at_call 71; refine (HR.out V4 HC4.out HB4.out HI4.out).mono ?_; rintro e w5 ⟨rfl, hc5, hm5⟩)
      go_meet
      exact ⟨by rw [HB2.out], Lib.hid hc5, Lib.hid hm5⟩
     ·have hk5 : (kind == 4) = false := beq_eq_false_iff_ne.2 hk4
      have HB2 : Hid (d = false) := Lib.hid (by rw [HB.out, hk5]; rfl)
      clear hk4 HB
      go_wp2_with fail
      go_meet
      exact ⟨by rw [HB2.out], Lib.hid (HC4.out.mono (by omega)), Lib.hid (Moves.refl _ _)⟩
    case rest =>
     obtain ⟨rfl, HC5, HMc⟩ := hcut
     have HBx5 := Lib.hid (HMc.out.blk HBx.out hmx)
     have HBp5 := Lib.hid (HMc.out.blk HBp4.out hmb)
     have HM5 : Hid (Moves (fun j => j = m) V wc) := Lib.hid (HM4.out.trans HMc.out (fun j hj => .inr hj))
     have HI5 := Lib.hid (HI4.out.moves HMc.out (fun j hj hq => HQ.out (hj ▸ hq)))
     have HB5 : Hid (B ≤ wc.heap.size) := Lib.hid (Nat.le_trans HB4.out HMc.out.size)
     clear y0 y1 y2 y3 y4 y5 y6 y7 y8 y9 y10 y11 y12 q0 q1 q2 HMc HM4 HC4 HI4 HBx HBp4 HB4 HR HB
     cases d with
     | true =>
      have HAn : Hid (fstB (alB p) (preSL l) = id) := Lib.hid (by rw [HAk.out]; rfl)
      clear HAk
      have y0 : wc.cell? ⟨bx, 0, none⟩ = some (.int .i64 id) := by rw [HBx5.out.cell]; rfl
      go_wp2_with fail
      go_ret
      exact ⟨ret_int HAn.out.symm, HC5.out.mono (by have := HNl.out; omega), HMV.out.trans HM5.out (fun j hj => .inr hj)⟩
     | false =>
      have y11 : wc.cell? ⟨bx, 11, none⟩ = some (.slice T th.length tc) := by rw [HBx5.out.cell]; rfl
      have q0 : wc.cell? ⟨b, 0, none⟩ = some (.slice Ag p.globals.length cg) := by rw [HBp5.out.cell]; rfl
      have q1 : wc.cell? ⟨b, 1, none⟩ = some (.slice Ap p.procs.length cp) := by rw [HBp5.out.cell]; rfl
      have q2 : wc.cell? ⟨b, 2, none⟩ = some (.map (some m)) := by rw [HBp5.out.cell]; rfl
      go_upto_region 7 with (go_at_call 61; refine (HT.out wc HI5.out HC5.out HB5.out).mono ?_; rintro e w6 ⟨rfl, hc6, hm6⟩)
      have HC6 := Lib.hid hc6
      have HBx6 := Lib.hid (hm6.blk HBx5.out hmx)
      have HBp6 := Lib.hid (hm6.blk HBp5.out hmb)
      have HM6 : Hid (Moves (fun j => j = m) V w6) := Lib.hid (HM5.out.trans hm6 (fun j hj => .inr hj))
      have HI6 := Lib.hid (HI5.out.moves hm6 (fun j hj hq => HQ.out (hj ▸ hq)))
      have HB6 : Hid (B ≤ w6.heap.size) := Lib.hid (Nat.le_trans HB5.out hm6.size)
      clear y11 q0 q1 q2 hc6 hm6 HC5 HBx5 HBp5 HM5 HI5 HB5 HT
      by_cases h1 : r1 = 0
      ·subst h1
       have HAn : Hid (fstB (alB p) (preSL l) = if r2 = 0 then fstB (alB p) (preSL (l.drop (k + 1))) else r2) := Lib.hid (by rw [HAk.out]; rfl)
       clear HAk
       have y12 : w6.cell? ⟨bx, 12, none⟩ = some (.slice U el.length uc) := by rw [HBx6.out.cell]; rfl
       have q0 : w6.cell? ⟨b, 0, none⟩ = some (.slice Ag p.globals.length cg) := by rw [HBp6.out.cell]; rfl
       have q1 : w6.cell? ⟨b, 1, none⟩ = some (.slice Ap p.procs.length cp) := by rw [HBp6.out.cell]; rfl
       have q2 : w6.cell? ⟨b, 2, none⟩ = some (.map (some m)) := by rw [HBp6.out.cell]; rfl
       by_cases h2 : r2 = 0
       ·subst h2
        rw [if_pos rfl] at HAn
        go_wp2_with (go_at_call 61; refine (HE.out w6 HI6.out HC6.out HB6.out).mono ?_; rintro e w7 ⟨rfl, hc7, hm7⟩; have HC7 : Hid (CkI p B w7 m (n + (preSL (l.take (k + 1))).length)) := Lib.hid (by rw [HNe.out]; exact hc7); have HM7 : Hid (Moves (fun j => j = m) V w7) := Lib.hid (HM6.out.trans hm7 (fun j hj => .inr hj)); clear hc7 hm7)
        go_roundg (l.length - k - 1)
        case measure => omega
        case rel => exact ⟨k + 1, by omega, by go_num, HM7, HC7, Lib.hid HAn.out.symm⟩
       ·rw [if_neg h2] at HAn
        have h2' : (r2 == 0) = false := beq_eq_false_iff_ne.2 h2
        clear h2
        go_wp2_with (go_at_call 61; refine (HE.out w6 HI6.out HC6.out HB6.out).mono ?_; rintro e w7 ⟨rfl, hc7, hm7⟩; have HC7 := Lib.hid hc7; have HM7 : Hid (Moves (fun j => j = m) V w7) := Lib.hid (HM6.out.trans hm7 (fun j hj => .inr hj)); clear hc7 hm7)
        go_ret
        exact ⟨ret_int HAn.out.symm, HC7.out.mono (by have := HNl.out; omega), HMV.out.trans HM7.out (fun j hj => .inr hj)⟩
      ·have HAn : Hid (fstB (alB p) (preSL l) = r1) := Lib.hid (by rw [HAk.out, if_neg h1]; rfl)
       have h1' : (r1 == 0) = false := beq_eq_false_iff_ne.2 h1
       clear HAk h1
       go_wp2_with fail
       go_ret
       exact ⟨ret_int HAn.out.symm, HC6.out.mono (by have := HNl.out; omega), HMV.out.trans HM6.out (fun j hj => .inr hj)⟩
   ·have HAn : Hid (fstB (alB p) (preSL l) = 0) := Lib.hid (by rw [← HA.out, List.drop_of_length_le (by omega)]; rfl)
    have hkl : k = l.length := by omega
    clear hlt
    go_wp2_with fail
    go_ret
    exact ⟨ret_int HAn.out.symm, (by have h := HCr.out; rw [hkl, List.take_length] at h; exact h), HMV.out.trans HMr.out (fun j hj => .inr hj)⟩
end Go.Proofs.YtimejkbmfbjomaaGreat
namespace Go.Proofs.YtimejkbmfbjomaaGreat
open Go.ChangeShapes Go.WideShapes Go.ChangeAt Go.RowKit Go.Deep
set_option linter.unusedVariables false
set_option linter.unusedSimpArgs false
def NcRes (p : Pg) (c0 c1 : Value) (W : World) (e : Ending) (W' : World) : Prop := ∃ m, e = .returned (.agg #[c0, c1, .map (some m)]) ∧ W.heap.size ≤ m ∧ CkI p W.heap.size W' m 0 ∧ Below W.heap.size W W'
theorem chk_end {w : World} {f : Nat} {d0 d1 d2 : Value} (h : Blk w f 89 #[.slice none 0 0, .slice none 0 0, .map none]) : Blk (((w.setCell ⟨f, 0, none⟩ d0).setCell ⟨f, 1, none⟩ d1).setCell ⟨f, 2, none⟩ d2) f 89 #[d0, d1, d2] := by
 have h := ((h.set_ 0 d0).set_ 1 d1).set_ 2 d2
 simp only [List.setIfInBounds_toArray, List.set_cons_zero, List.set_cons_succ] at h
 exact h
theorem map_made3 (V : World) {f : Nat} {d0 d1 d2 : Value} : MapI ((((V.setCell ⟨f, 0, none⟩ d0).setCell ⟨f, 1, none⟩ d1).setCell ⟨f, 2, none⟩ d2).alloc (.map #[] 0)) V.heap.size 0 (fun _ => none) := by
 have h := MapI.made (((V.setCell ⟨f, 0, none⟩ d0).setCell ⟨f, 1, none⟩ d1).setCell ⟨f, 2, none⟩ d2)
 rwa [show (((V.setCell ⟨f, 0, none⟩ d0).setCell ⟨f, 1, none⟩ d1).setCell ⟨f, 2, none⟩ d2).heap.size = V.heap.size by simp] at h
set_option maxHeartbeats 4000000 in
set_option maxRecDepth 100000 in
theorem newChecker_any {w : World} {Q : Nat → Prop} {p : Pg} {c0 c1 : Value} (h : ProgI w Q p [c0, c1]) (W : World) :
 Calls Tryz.prog 60 #[.agg #[c0, c1]] W (NcRes p c0 c1 W) := by
 obtain ⟨Ag, cg, Ap, cp, rfl, rfl, _⟩ := prog_open h
 clear h
 have hmm := @run_makeMap Tryz.prog
 go_enter Tryz.func60, Tryz.ntmps60
 go_upto_region 1 with fail
 have HB0 : Hid (Below W.heap.size W ((W.alloc (.cells #[.slice Ag p.globals.length cg, .slice Ap p.procs.length cp] 25)).alloc (.cells #[.slice none 0 0, .slice none 0 0, .map none] 89))) := Lib.hid (below_two _ _)
 have HBp : Hid (Blk ((W.alloc (.cells #[.slice Ag p.globals.length cg, .slice Ap p.procs.length cp] 25)).alloc (.cells #[.slice none 0 0, .slice none 0 0, .map none] 89)) W.heap.size 25 #[.slice Ag p.globals.length cg, .slice Ap p.procs.length cp]) := Lib.hid ((Blk.new _ _ _).alloc _)
 have HBf : Hid (Blk ((W.alloc (.cells #[.slice Ag p.globals.length cg, .slice Ap p.procs.length cp] 25)).alloc (.cells #[.slice none 0 0, .slice none 0 0, .map none] 89)) (W.heap.size + 1) 89 #[.slice none 0 0, .slice none 0 0, .map none]) := Lib.hid (by have := Blk.new (W.alloc (.cells #[.slice Ag p.globals.length cg, .slice Ap p.procs.length cp] 25)) 89 #[.slice none 0 0, .slice none 0 0, .map none]; rw [World.size_alloc] at this; exact this)
 generalize World.alloc _ _ = V at HB0 HBp HBf ⊢
 generalize hbe : W.heap.size = b at HBp HBf ⊢
 generalize hfe : b + 1 = f at HBf ⊢
 have hWf : W.heap.size ≤ f := by omega
 clear hfe
 have hfl := HBf.out.lt
 have q0 : V.cell? ⟨b, 0, none⟩ = some (.slice Ag p.globals.length cg) := by rw [HBp.out.cell]; rfl
 have q1 : V.cell? ⟨b, 1, none⟩ = some (.slice Ap p.procs.length cp) := by rw [HBp.out.cell]; rfl
 have f0_ := HBf.out.frozen 0
 have f1_ := HBf.out.frozen 1
 have f2_ := HBf.out.frozen 2
 have y0_ : V.cell? ⟨f, 0, none⟩ = some (.slice none 0 0) := by rw [HBf.out.cell]; rfl
 have y1_ : V.cell? ⟨f, 1, none⟩ = some (.slice none 0 0) := by rw [HBf.out.cell]; rfl
 have y2_ : V.cell? ⟨f, 2, none⟩ = some (.map none) := by rw [HBf.out.cell]; rfl
 have hbV : b ≤ V.heap.size := by rw [← hbe]; exact HB0.out.size
 have hne : V.heap.size ≠ f := by omega
 subst hbe
 go_wp2_with fail
 (try simp only [Exit.inBlock, Exit.then])
 refine bodyPost_ret (results_c1 rfl _ _ f 89 #[.slice Ag p.globals.length cg, .slice Ap p.procs.length cp, .map (some V.heap.size)] (0, 0) _ rfl ((chk_end HBf.out).alloc _) Tryz.underlying89 rfl (by kernel_rfl)) rfl ?_
 exact ⟨V.heap.size, rfl, hbV, ⟨_, map_made3 V, fun s v h => by cases h⟩, below_stepA (below_setc (below_setc (below_setc HB0.out hWf _) hWf _) hWf _) _⟩
noncomputable def alL (p : Pg) : List Pr → Int × Int
 | [] => (0, 0)
 | q :: l => if fstB (alB p) (preSL q.body) = 0 then alL p l else (8, fstB (alB p) (preSL q.body))
theorem alL_drop {p : Pg} {l : List Pr} {k : Nat} (h : k < l.length) : alL p (l.drop k) = if fstB (alB p) (preSL l[k].body) = 0 then alL p (l.drop (k + 1)) else (8, fstB (alB p) (preSL l[k].body)) := by
 rw [List.drop_eq_getElem_cons h, alL]
noncomputable def alP (p : Pg) : Int × Int := if (arP p).1 = 0 then alL p p.procs else (1, 0)
theorem arL_two {ps : List Pr} : ∀ l : List Pr, (arL ps l).1 = 0 → arL ps l = (0, 0)
 | [], _ => rfl
 | q :: l, h => by
  rw [arL] at h ⊢
  split at h
  ·rw [if_pos (by assumption)]
   exact arL_two l h
  ·cases h
theorem arP_two {p : Pg} (h : (arP p).1 = 0) : arP p = (0, 0) ∧ (chkP p).1 = 0 := by
 unfold arP at h ⊢
 split at h
 ·rename_i hc
  rw [if_pos hc]
  exact ⟨arL_two _ h, hc⟩
 ·cases h
theorem args_w : ∀ s : S, s.args.length ≤ wS s
 | .mk id kind labels nm proc x has args th el => by
  have h : ∀ l : List Ar, l.length ≤ wAr l := by
   intro l
   induction l with
   | nil => exact Nat.zero_le _
   | cons a l ih => rw [wAr, List.length_cons]; omega
  have := h args
  rw [wS]
  simp only [S.args]
  omega
theorem may_args {p : Pg} (hs : SmG p) : ∀ q ∈ p.procs, ∀ s ∈ preSL q.body, s.args.length ≤ 1000000 := fun q hq s h =>
 Nat.le_trans (args_w s) (Nat.le_trans (preSL_w _ _ h) (hs.proc q hq).1)
set_option maxHeartbeats 8000000 in
set_option maxRecDepth 100000 in
theorem alCheck_any {w : World} {Q : Nat → Prop} {p : Pg} {c0 c1 : Value} (h : ProgI w Q p [c0, c1]) (hsm : SmG p) (hck : chkOK p = true → p.procs.length ≤ 16 ∧ ∀ q ∈ p.procs, (saidOf (preSL q.body)).length ≤ 10000000) (W : World) (hI : In Q w W) :
 Calls Tryz.prog 25 #[.agg #[c0, c1]] W (ChRes (alP p) W) := by
 have HC := Lib.hid (fun V hV => aCheck_any h hsm V hV)
 have HNc := Lib.hid (fun V => newChecker_any h V)
 have HMi := Lib.hid (fun (B m : Nat) (hQ : ¬ Q m) N l hN V A cap n hl hV hC hB hn hz ha => alMisfit_any h hsm hck (B := B) hQ N l hN (W := V) (A := A) (cap := cap) (n := n) hl hV hC hB hn hz ha)
 obtain ⟨Ag, cg, Ap, cp, rfl, rfl, _, _, _, _, hgl, hpr⟩ := prog_open h
 have HP := Lib.hid hpr
 have HI := Lib.hid hI
 have HMg0 := Lib.hid (may_args hsm)
 have HK : Hid (alP p = if (arP p).1 = 0 then alL p p.procs else (1, 0)) := Lib.hid rfl
 have HT2 := Lib.hid (arP_two (p := p))
 have HOk := Lib.hid (fun h2 => (chk_ok (p := p) h2).may)
 clear h hI hgl hpr hsm hck
 generalize arP p = r at HC HK HT2
 obtain ⟨rc, ri⟩ := r
 simp only at HK HT2
 by_cases hr : rc = 0
 ·have h2 := HT2.out hr
  have hmay := HOk.out h2.2
  simp only [Prod.mk.injEq] at h2
  obtain ⟨⟨rfl, rfl⟩, _⟩ := h2
  have HMy := Lib.hid (may_ids hmay)
  have HMg := HMg0
  have HMf := Lib.hid (fun q hq => ((may_flat hmay).1 q hq).2)
  have HPl := Lib.hid (may_lens hmay).2.1
  have HK2 : Hid (alP p = alL p p.procs) := Lib.hid HK.out
  clear HK HT2 HOk hr hmay
  go_enter Tryz.func25, Tryz.ntmps25
  go_upto_region 1 with fail
  have HB0 : Hid (Below W.heap.size W ((W.alloc (.cells #[.slice Ag p.globals.length cg, .slice Ap p.procs.length cp] 25)).alloc (.cells #[.int .i64 0, .int .i64 0] 34))) := Lib.hid (below_two _ _)
  have HBp : Hid (Blk ((W.alloc (.cells #[.slice Ag p.globals.length cg, .slice Ap p.procs.length cp] 25)).alloc (.cells #[.int .i64 0, .int .i64 0] 34)) W.heap.size 25 #[.slice Ag p.globals.length cg, .slice Ap p.procs.length cp]) := Lib.hid ((Blk.new _ _ _).alloc _)
  have HBf : Hid (Blk ((W.alloc (.cells #[.slice Ag p.globals.length cg, .slice Ap p.procs.length cp] 25)).alloc (.cells #[.int .i64 0, .int .i64 0] 34)) (W.heap.size + 1) 34 #[.int .i64 0, .int .i64 0]) := Lib.hid (by have := Blk.new (W.alloc (.cells #[.slice Ag p.globals.length cg, .slice Ap p.procs.length cp] 25)) 34 #[.int .i64 0, .int .i64 0]; rw [World.size_alloc] at this; exact this)
  generalize World.alloc _ _ = V at HB0 HBp HBf ⊢
  have HI0 := Lib.hid (HI.out.on HB0.out)
  generalize hbe : W.heap.size = b at HBp HBf ⊢
  generalize hfe : b + 1 = f at HBf ⊢
  have hWb : W.heap.size ≤ b := by omega
  have hWf : W.heap.size ≤ f := by omega
  clear hbe hfe
  have hbl := HBp.out.lt
  have hfl := HBf.out.lt
  have q0 : V.cell? ⟨b, 0, none⟩ = some (.slice Ag p.globals.length cg) := by rw [HBp.out.cell]; rfl
  have q1 : V.cell? ⟨b, 1, none⟩ = some (.slice Ap p.procs.length cp) := by rw [HBp.out.cell]; rfl
  go_upto_region 3 with (go_at_call 33; refine (HC.out V HI0.out).mono ?_; rintro e w1 ⟨rfl, hb1⟩)
  have HB1 := Lib.hid (below_step HB0.out hb1)
  have HI1 := Lib.hid (HI0.out.on hb1)
  have HBp1 := Lib.hid (HBp.out.below hb1 hbl)
  have HBf1 := Lib.hid (HBf.out.below hb1 hfl)
  clear q0 q1 hb1 HB0 HBp HBf HI0 hbl hfl HC
  have hbl := HBp1.out.lt
  have hfl := HBf1.out.lt
  have q0 : w1.cell? ⟨b, 0, none⟩ = some (.slice Ag p.globals.length cg) := by rw [HBp1.out.cell]; rfl
  have q1 : w1.cell? ⟨b, 1, none⟩ = some (.slice Ap p.procs.length cp) := by rw [HBp1.out.cell]; rfl
  go_upto_region 4 with (go_at_call 60; refine (HNc.out w1).mono ?_; rintro e w2 ⟨m, rfl, hm, hc2, hb2⟩)
  have HB2 : Hid (Below w1.heap.size w1 (w2.alloc (.cells #[.slice Ag p.globals.length cg, .slice Ap p.procs.length cp, .map (some m)] 89))) := Lib.hid (below_stepA hb2 _)
  have HBk : Hid (Blk (w2.alloc (.cells #[.slice Ag p.globals.length cg, .slice Ap p.procs.length cp, .map (some m)] 89)) w2.heap.size 89 #[.slice Ag p.globals.length cg, .slice Ap p.procs.length cp, .map (some m)]) := Lib.hid (Blk.new _ _ _)
  have HC2 : Hid (CkI p w1.heap.size (w2.alloc (.cells #[.slice Ag p.globals.length cg, .slice Ap p.procs.length cp, .map (some m)] 89)) m 0) := Lib.hid (hc2.step (below_box _))
  have hmk : w2.heap.size ≠ m := by have := hc2.lt; omega
  have hQm : ¬ Q m := fun hq => by have := HI1.out.1 m hq; omega
  have HMj := Lib.hid (HMi.out w1.heap.size m hQm)
  have hmb : b ≠ m := by omega
  have hmf : f ≠ m := by omega
  clear q0 q1 hb2 hc2 HNc HMi
  generalize World.alloc w2 _ = V2 at HB2 HBk HC2 ⊢
  generalize w2.heap.size = bk at HBk hmk ⊢
  have HBV2 : Hid (w1.heap.size ≤ V2.heap.size) := Lib.hid HB2.out.size
  have HI2 := Lib.hid (HI1.out.on HB2.out)
  have HBp2 := Lib.hid (HBp1.out.below HB2.out hbl)
  have HBf2 := Lib.hid (HBf1.out.below HB2.out hfl)
  have HBW2 := Lib.hid (below_step HB1.out HB2.out)
  have hWm : W.heap.size ≤ m := Nat.le_trans HB1.out.size hm
  clear HBp1 HBf1 HI1 HB1 HB2 hbl hfl hm
  have q1 : V2.cell? ⟨b, 1, none⟩ = some (.slice Ap p.procs.length cp) := by rw [HBp2.out.cell]; rfl
  go_upto_region 5 with fail
  clear q1
  go_loopg [17] p.procs.length (fun kk iv wr => ∃ (k : Nat), k + kk = p.procs.length ∧ iv = .int .i64 k ∧ Hid (Moves (fun j => j = m) V2 wr) ∧ Hid (CkI p w1.heap.size wr m (k * 200)) ∧ Hid (alL p (p.procs.drop k) = alL p p.procs))
  case atStart => exact ⟨0, by omega, rfl, Lib.hid (Moves.refl _ _), HC2, Lib.hid rfl⟩
  case round =>
   obtain ⟨k, hk, rfl, HMr, HCr, HA⟩ := hrel
   have HIr := Lib.hid (HI2.out.moves HMr.out (fun j hj hq => hQm (hj ▸ hq)))
   have HBfr := Lib.hid (HMr.out.blk HBf2.out hmf)
   have HBkr := Lib.hid (HMr.out.blk HBk.out hmk)
   have HBr : Hid (w1.heap.size ≤ wr.heap.size) := Lib.hid (Nat.le_trans HBV2.out HMr.out.size)
   by_cases hlt : k < p.procs.length
   ·obtain ⟨a, Bp, kp, Bv, kv, Bb, kb, Be, ke, rfl, hqa, hrow, hnm, hpp, hvv, hbody, hee⟩ := proc_at HP.out HIr.out hlt
    have hmem := List.getElem_mem hlt
    have hid := HMy.out _ hmem
    have hfl2 := HMf.out _ hmem
    have hk16 := HPl.out
    have HWr := Lib.hid (fun V hV hC hB => HMj.out _ p.procs[k].body (Nat.lt_succ_self _) V Bb kb (k * 200) hbody hV hC hB (by omega) (fun s hs h0 => by have := hid s hs; omega) (HMg.out _ hmem))
    have HAk := Lib.hid (alL_drop (p := p) (l := p.procs) hlt)
    rw [HA.out] at HAk
    have HNe : Hid (k * 200 + (preSL p.procs[k].body).length ≤ (k + 1) * 200) := Lib.hid (by rw [Nat.add_mul]; omega)
    have hbB : i64 (fstB (alB p) (preSL p.procs[k].body)) := by
     unfold fstB
     cases hf : (preSL p.procs[k].body).find? (alB p) with
     | none => simp [i64]
     | some s =>
      have := hid s (List.mem_of_find?_eq_some hf)
      simp only [Option.elim_some]
      unfold i64
      omega
    clear hqa hnm hpp hvv hbody hee hid hmem hfl2 hk16
    generalize fstB (alB p) (preSL p.procs[k].body) = r at HWr HAk hbB
    generalize (preSL p.procs[k].body).length = pn at HWr HNe
    generalize p.procs[k].nm = x0 at hrow
    generalize p.procs[k].params.length = x1 at hrow
    generalize p.procs[k].vars.length = x2 at hrow
    generalize p.procs[k].body.length = x3 at hrow HWr
    generalize p.procs[k].end_.length = x4 at hrow
    obtain ⟨p0, p1, p2, p3, p4, _⟩ := hrow
    unfold i64 at hbB
    go_upto_region 7 with fail
    have HBx : Hid (Blk (wr.alloc (.cells #[.string x0, .slice Bp x1 kp, .slice Bv x2 kv, .slice Bb x3 kb, .slice Be x4 ke] 39)) wr.heap.size 39 #[.string x0, .slice Bp x1 kp, .slice Bv x2 kv, .slice Bb x3 kb, .slice Be x4 ke]) := Lib.hid (Blk.new _ _ _)
    have HM4 : Hid (Moves (fun j => j = m) V2 (wr.alloc (.cells #[.string x0, .slice Bp x1 kp, .slice Bv x2 kv, .slice Bb x3 kb, .slice Be x4 ke] 39))) := Lib.hid (HMr.out.alloc _)
    have HC4 : Hid (CkI p w1.heap.size (wr.alloc (.cells #[.string x0, .slice Bp x1 kp, .slice Bv x2 kv, .slice Bb x3 kb, .slice Be x4 ke] 39)) m (k * 200)) := Lib.hid (HCr.out.step (below_box _))
    have HI4 : Hid (In Q w (wr.alloc (.cells #[.string x0, .slice Bp x1 kp, .slice Bv x2 kv, .slice Bb x3 kb, .slice Be x4 ke] 39))) := Lib.hid (HIr.out.alloc _)
    have HBk4 : Hid (Blk (wr.alloc (.cells #[.string x0, .slice Bp x1 kp, .slice Bv x2 kv, .slice Bb x3 kb, .slice Be x4 ke] 39)) bk 89 #[.slice Ag p.globals.length cg, .slice (some a) p.procs.length cp, .map (some m)]) := Lib.hid (HBkr.out.alloc _)
    have HB4 : Hid (w1.heap.size ≤ (wr.alloc (.cells #[.string x0, .slice Bp x1 kp, .slice Bv x2 kv, .slice Bb x3 kb, .slice Be x4 ke] 39)).heap.size) := Lib.hid (Nat.le_trans HBr.out (below_box (W := wr) _).size)
    clear p0 p1 p2 p3 p4 HIr HBkr HBfr HCr HMr HBr
    generalize World.alloc wr _ = V4 at HBx HM4 HC4 HI4 HBk4 HB4 ⊢
    generalize wr.heap.size = bx at HBx ⊢
    have q0 : V4.cell? ⟨bk, 0, none⟩ = some (.slice Ag p.globals.length cg) := by rw [HBk4.out.cell]; rfl
    have q1 : V4.cell? ⟨bk, 1, none⟩ = some (.slice (some a) p.procs.length cp) := by rw [HBk4.out.cell]; rfl
    have q2 : V4.cell? ⟨bk, 2, none⟩ = some (.map (some m)) := by rw [HBk4.out.cell]; rfl
    have z3 : V4.cell? ⟨bx, 3, none⟩ = some (.slice Bb x3 kb) := by rw [HBx.out.cell]; rfl
    go_upto_region 8 with (go_at_call 61; refine (HWr.out V4 HI4.out HC4.out HB4.out).mono ?_; rintro e w8 ⟨rfl, hc8, hm8⟩)
    have HM8 : Hid (Moves (fun j => j = m) V2 w8) := Lib.hid (HM4.out.trans hm8 (fun j hj => .inr hj))
    have HC8 : Hid (CkI p w1.heap.size w8 m ((k + 1) * 200)) := Lib.hid (hc8.mono HNe.out)
    clear z3 q0 q1 q2 hm8 hc8 HM4 HC4 HI4 HBx HBk4 HB4 HWr
    by_cases hr : r = 0
    ·subst hr
     rw [if_pos rfl] at HAk
     go_wp2_with fail
     go_roundg (p.procs.length - k - 1)
     case measure => omega
     case rel => exact ⟨k + 1, by omega, by go_num, HM8, HC8, Lib.hid HAk.out.symm⟩
    ·rw [if_neg hr] at HAk
     have hr1 : (r == 0) = false := beq_eq_false_iff_ne.2 hr
     have HBf8 := Lib.hid (HM8.out.blk HBf2.out hmf)
     have HBW8 : Hid (Below W.heap.size W w8) := Lib.hid (HBW2.out.trans (HM8.out.below HBW2.out.size (fun j hj => by subst hj; exact hWm)))
     clear hr
     have f0_ := HBf8.out.frozen 0
     have f1_ := HBf8.out.frozen 1
     have y0_ : w8.cell? ⟨f, 0, none⟩ = some (.int .i64 0) := by rw [HBf8.out.cell]; rfl
     have y1_ : w8.cell? ⟨f, 1, none⟩ = some (.int .i64 0) := by rw [HBf8.out.cell]; rfl
     go_wp2_with fail
     (try simp only [Exit.inBlock, Exit.then])
     refine bodyPost_ret (results_c1 rfl _ _ f 34 #[.int .i64 8, .int .i64 r] (0, 0) _ rfl (fault_end HBf8.out) Tryz.underlying34 rfl (by kernel_rfl)) rfl ?_
     exact ⟨by rw [HK2.out, HAk.out], below_setc (below_setc HBW8.out hWf _) hWf _⟩
   ·have HAn : Hid (alL p p.procs = (0, 0)) := Lib.hid (by rw [← HA.out, List.drop_of_length_le (by omega)]; rfl)
    have HBWr : Hid (Below W.heap.size W wr) := Lib.hid (HBW2.out.trans (HMr.out.below HBW2.out.size (fun j hj => by subst hj; exact hWm)))
    have f0_ := HBfr.out.frozen 0
    have f1_ := HBfr.out.frozen 1
    have y0_ : wr.cell? ⟨f, 0, none⟩ = some (.int .i64 0) := by rw [HBfr.out.cell]; rfl
    have y1_ : wr.cell? ⟨f, 1, none⟩ = some (.int .i64 0) := by rw [HBfr.out.cell]; rfl
    go_wp2_with fail
    (try simp only [Exit.inBlock, Exit.then])
    refine bodyPost_ret (results_c1 rfl _ _ f 34 #[.int .i64 0, .int .i64 0] (0, 0) _ rfl (fault_end HBfr.out) Tryz.underlying34 rfl (by kernel_rfl)) rfl ?_
    exact ⟨by rw [HK2.out, HAn.out], below_setc (below_setc HBWr.out hWf _) hWf _⟩
 ·have HK2 : Hid (alP p = (1, 0)) := Lib.hid (by rw [HK.out, if_neg hr])
  have hr1 : (rc == 0) = false := beq_eq_false_iff_ne.2 hr
  clear HK HT2 HOk hr HMi HNc
  go_enter Tryz.func25, Tryz.ntmps25
  go_upto_region 1 with fail
  have HB0 : Hid (Below W.heap.size W ((W.alloc (.cells #[.slice Ag p.globals.length cg, .slice Ap p.procs.length cp] 25)).alloc (.cells #[.int .i64 0, .int .i64 0] 34))) := Lib.hid (below_two _ _)
  have HBp : Hid (Blk ((W.alloc (.cells #[.slice Ag p.globals.length cg, .slice Ap p.procs.length cp] 25)).alloc (.cells #[.int .i64 0, .int .i64 0] 34)) W.heap.size 25 #[.slice Ag p.globals.length cg, .slice Ap p.procs.length cp]) := Lib.hid ((Blk.new _ _ _).alloc _)
  have HBf : Hid (Blk ((W.alloc (.cells #[.slice Ag p.globals.length cg, .slice Ap p.procs.length cp] 25)).alloc (.cells #[.int .i64 0, .int .i64 0] 34)) (W.heap.size + 1) 34 #[.int .i64 0, .int .i64 0]) := Lib.hid (by have := Blk.new (W.alloc (.cells #[.slice Ag p.globals.length cg, .slice Ap p.procs.length cp] 25)) 34 #[.int .i64 0, .int .i64 0]; rw [World.size_alloc] at this; exact this)
  generalize World.alloc _ _ = V at HB0 HBp HBf ⊢
  have HI0 := Lib.hid (HI.out.on HB0.out)
  generalize hbe : W.heap.size = b at HBp HBf ⊢
  generalize hfe : b + 1 = f at HBf ⊢
  have hWf : W.heap.size ≤ f := by omega
  clear hbe hfe
  have hbl := HBp.out.lt
  have hfl := HBf.out.lt
  have q0 : V.cell? ⟨b, 0, none⟩ = some (.slice Ag p.globals.length cg) := by rw [HBp.out.cell]; rfl
  have q1 : V.cell? ⟨b, 1, none⟩ = some (.slice Ap p.procs.length cp) := by rw [HBp.out.cell]; rfl
  go_upto_if 10 with (go_at_call 33; refine (HC.out V HI0.out).mono ?_; rintro e w1 ⟨rfl, hb1⟩)
  have HB1 := Lib.hid (below_step HB0.out hb1)
  have HBf1 := Lib.hid (HBf.out.below hb1 hfl)
  clear q0 q1 hb1
  have f0_ := HBf1.out.frozen 0
  have f1_ := HBf1.out.frozen 1
  have y0_ : w1.cell? ⟨f, 0, none⟩ = some (.int .i64 0) := by rw [HBf1.out.cell]; rfl
  have y1_ : w1.cell? ⟨f, 1, none⟩ = some (.int .i64 0) := by rw [HBf1.out.cell]; rfl
  go_wp2_with fail
  (try simp only [Exit.inBlock, Exit.then])
  refine bodyPost_ret (results_c1 rfl _ _ f 34 #[.int .i64 1, .int .i64 0] (0, 0) _ rfl (fault_end HBf1.out) Tryz.underlying34 rfl (by kernel_rfl)) rfl ?_
  exact ⟨by rw [HK2.out], below_setc (below_setc HB1.out hWf _) hWf _⟩
end Go.Proofs.YtimejkbmfbjomaaGreat
namespace Go.Proofs.YtimejkbmfbjomaaGreat
open Go.ChangeShapes Go.WideShapes Go.ChangeAt Go.RowKit Go.Deep
set_option linter.unusedVariables false
set_option linter.unusedSimpArgs false
theorem fstB_zero {f : S → Bool} {L : List S} (hz : ∀ s ∈ L, s.id ≠ 0) (h : fstB f L = 0) : ∀ s ∈ L, f s = false := by
 intro s hs
 unfold fstB at h
 cases hf : L.find? f with
 | none => simpa using (List.find?_eq_none.1 hf) s hs
 | some x =>
  rw [hf] at h
  exact absurd h (hz x (List.mem_of_find?_eq_some hf))
theorem arP_ok {p : Pg} (h : (arP p).1 = 0) : ChOk p := chk_ok (arP_two h).2
end Go.Proofs.YtimejkbmfbjomaaGreat
