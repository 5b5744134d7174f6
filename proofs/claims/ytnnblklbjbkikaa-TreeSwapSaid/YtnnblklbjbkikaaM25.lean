/- Texts, merged by a program; only what is used. -/
import Derived.Test.YtnnblklbjbkikaaM1
import Derived.Test.YtnnblklbjbkikaaM2
import Derived.Test.YtnnblklbjbkikaaM3
import Derived.Test.YtnnblklbjbkikaaM4
import Derived.Test.YtnnblklbjbkikaaM5
import Derived.Test.YtnnblklbjbkikaaM6
import Derived.Test.YtnnblklbjbkikaaM7
import Derived.Test.YtnnblklbjbkikaaM8
import Derived.Test.YtnnblklbjbkikaaM9
import Derived.Test.YtnnblklbjbkikaaM10
import Derived.Test.YtnnblklbjbkikaaM11
import Derived.Test.YtnnblklbjbkikaaM12
import Derived.Test.YtnnblklbjbkikaaM13
import Derived.Test.YtnnblklbjbkikaaM15
import Derived.Test.YtnnblklbjbkikaaM20
import Derived.Test.YtnnblklbjbkikaaM21
import Derived.Test.YtnnblklbjbkikaaM22
import Derived.Test.YtnnblklbjbkikaaM23
import Derived.Test.YtnnblklbjbkikaaM24
namespace Go.Proofs.Ytnnblklbjbkikaa
open Go.ChangeShapes Go.WideShapes Go.ChangeAt Go.RowKit Go.Deep
set_option linter.unusedVariables false
set_option linter.unusedSimpArgs false
set_option maxHeartbeats 8000000 in
set_option maxRecDepth 100000 in
theorem SwapStmts_any {w : World} {Q : Nat → Prop} {sa sb : ByteArray} (hsa : sa.size ≤ 9223372036854775807) (hsb : sb.size ≤ 9223372036854775807) : ∀ (N : Nat) (l : List S), (preSL l).length < N → ∀ {A : Option Addr} {cap : Nat} {W : World}, StmtsI w Q l (.slice A l.length cap) → In Q w W → wSL l ≤ 1000000 →
    Calls Try.prog 66 #[.slice A l.length cap, .string sa, .string sb] W (PutOk (swSL sa sb l) W) := by
  intro N
  induction N with
  | zero => intro l h; omega
  | succ N ih =>
    intro l hN A cap W hl hI hw
    obtain ⟨i0, hi0, hz0, hz1, hz2⟩ := info_parts stmt_info
    obtain ⟨_, hlc, hcap, _⟩ := slice_len hl
    have hll : l.length ≤ 1000000 := Nat.le_trans (wSL_len l) hw
    have IH := Lib.hid @ih
    have HN := Lib.hid hN
    have HL := Lib.hid hl
    have HQ : Hid (∀ j, Q j → j < W.heap.size) := Lib.hid hI.1
    have HWm : Hid (∀ k (h : k < l.length), wS l[k] ≤ 1000000) := Lib.hid (fun k h => Nat.le_trans (wSL_mem (List.getElem_mem h)) hw)
    have HS : Hid (RoI w Q W W W.heap.size ((swSL sa sb l).take 0) none 0 0) := Lib.hid ⟨BuildI.nil _ _ _ _ _, hI, Nat.le_refl _, Below.refl _ _⟩
    obtain ⟨j0, hj0, hv0, hv1, hv2⟩ := info_parts arg_info
    clear ih hN hl hI hw
    go_enter Try.func66, Try.ntmps66
    go_wp2_with fail
    go_loopw [7, 15] (fun ov iv wr => ∃ (k : Nat) (Xo : Option Addr) (co : Nat), k ≤ l.length ∧ iv = .int .i64 k ∧ ov = .slice Xo k co ∧ Hid (RoI w Q W wr W.heap.size ((swSL sa sb l).take k) Xo k co)) (fun _ iv _ => l.length - (intOf iv).toNat)
    case atStart => exact ⟨0, none, 0, Nat.zero_le _, rfl, rfl, HS⟩
    case round =>
      clear HS
      obtain ⟨k, Xo, co, hk, rfl, rfl, HR⟩ := hrel
      have htk : ((swSL sa sb l).take k).length = k := by rw [List.length_take, swSL_len]; omega
      obtain ⟨rows, hO, hAl⟩ := HR.out.row
      obtain ⟨_, _, hXe, hko, hco⟩ := own_form hO
      rw [htk] at hXe hko
      injection hXe with hX1 hX2 hX3
      subst hX1 hX3
      have HO := Lib.hid hO
      have HAl := Lib.hid hAl
      clear hO hAl hX2
      by_cases hlt : k < l.length
      · obtain ⟨a, id, kind, labels, nm, proc, x, has, args, th, el, L, lc, x0, x1, x2, X, xn, xc, R, rc, T, tc, U, uc, rfl, hqa, hmk, ⟨p0, p1, p2, p3, p4, p5, p6, p7, p8, p9, p10, p11, p12, _⟩, hid, hkind, hnm, hproc, hlab, hx, har, hth, hel, hst⟩ := stmt_at HL.out HR.out.inn hlt
        have hsub := preSL_at hlt
        have hwk := HWm.out k hlt
        have htake := swSL_take sa sb hlt
        rw [hmk] at hsub hst hwk htake
        simp only [subS, List.length_append] at hsub
        rw [wS] at hwk
        have hal : args.length ≤ 1000000 := Nat.le_trans (wAr_len args) (by omega)
        have HWa : Hid (∀ k (h : k < args.length), wE args[k].x ≤ 1000000) := Lib.hid (fun k h => by have := wAr_mem (List.getElem_mem h); omega)
        have HLb := Lib.hid (fun V hV => SwapTexts_at (W := V) hlab (by have := wT_len labels; omega) hsa hsb hV)
        have HX := Lib.hid (fun V hV => SwapExpr_any sa sb hx _ _ _ _ rfl V hV (by omega) hsa hsb)
        have HOn1 := Lib.hid (fun V => other_any nm sa sb V)
        have HOp1 := Lib.hid (fun V => other_any proc sa sb V)
        have HOa := Lib.hid (fun s V => other_any s sa sb V)
        have HT := Lib.hid (fun V h1 => IH.out th (by have := HN.out; omega) (W := V) hth h1 (by omega))
        have HE := Lib.hid (fun V h1 => IH.out el (by have := HN.out; omega) (W := V) hel h1 (by omega))
        have HA := Lib.hid har
        have HSab := Lib.hid (And.intro hsa hsb)
        have hnz : (oth sa sb nm).size ≤ 9223372036854775807 := oth_le hsa hsb hnm
        have hpz : (oth sa sb proc).size ≤ 9223372036854775807 := oth_le hsa hsb hproc
        obtain ⟨_, _, e0, har_, hrc⟩ := har.shape
        injection e0 with e1 e2 e3
        subst e1 e3
        rw [swS] at htake
        have HTk := Lib.hid htake
        obtain ⟨nz, hnz_⟩ : ∃ z, z = oth sa sb nm := ⟨_, rfl⟩
        obtain ⟨pz, hpz_⟩ : ∃ z, z = oth sa sb proc := ⟨_, rfl⟩
        obtain ⟨lz, hlz_⟩ : ∃ z, z = labels.map (oth sa sb) := ⟨_, rfl⟩
        obtain ⟨xz, hxz_⟩ : ∃ z, z = swE sa sb x := ⟨_, rfl⟩
        obtain ⟨az, haz_⟩ : ∃ z, z = args.map (swA sa sb) := ⟨_, rfl⟩
        have hazl : az.length = args.length := by rw [haz_, List.length_map]
        have HAz : Hid (∀ k (h : k < az.length) (h' : k < args.length), az[k] = swA sa sb args[k]) := Lib.hid (by subst haz_; intro k h h'; exact List.getElem_map _)
        rw [← hnz_] at HOn1 hnz HTk
        rw [← hpz_] at HOp1 hpz HTk
        rw [← hlz_] at HLb HTk
        rw [← hxz_] at HX HTk
        rw [← haz_] at HTk
        have HNm := Lib.hid (And.intro hid (And.intro hkind (And.intro hnz hpz)))
        have HSz := Lib.hid HR.out.size
        clear hmk hsub hst hth hel hx hlab har hid hkind hnm hproc hqa hwk htake hnz_ hpz_ hlz_ hxz_ haz_ e2 hnz hpz
        go_upto_region 5 with fail
        have HBx : Hid (Blk (wr.alloc (.cells #[.int .i64 id, .int .i64 kind, .slice L labels.length lc, .string nm, .string proc, .int .i64 x0, .int .i64 x1, .string x2, .slice X xn xc, .bool has, .slice R args.length rc, .slice T th.length tc, .slice U el.length uc] 55)) wr.heap.size 55 #[.int .i64 id, .int .i64 kind, .slice L labels.length lc, .string nm, .string proc, .int .i64 x0, .int .i64 x1, .string x2, .slice X xn xc, .bool has, .slice R args.length rc, .slice T th.length tc, .slice U el.length uc]) := Lib.hid (Blk.new _ _ _)
        have HBa : Hid (Below wr.heap.size wr (wr.alloc (.cells #[.int .i64 id, .int .i64 kind, .slice L labels.length lc, .string nm, .string proc, .int .i64 x0, .int .i64 x1, .string x2, .slice X xn xc, .bool has, .slice R args.length rc, .slice T th.length tc, .slice U el.length uc] 55))) := Lib.hid (below_box _)
        clear p0 p1 p2 p3 p4 p5 p6 p7 p8 p9 p10 p11 p12
        generalize World.alloc _ _ = wa at HBx HBa ⊢
        obtain ⟨xb, hxb⟩ : ∃ xb, xb = wr.heap.size := ⟨_, rfl⟩
        rw [← hxb] at HBx ⊢
        have hxge : wr.heap.size ≤ xb := by omega
        have HQb : Hid (∀ j, Q j → j < xb) := Lib.hid (by rw [hxb]; exact HR.out.inn.1)
        clear hxb
        have HK : Hid (xb < wa.heap.size ∧ wa.cell? ⟨xb, 0, none⟩ = some (.int .i64 id) ∧ wa.cell? ⟨xb, 1, none⟩ = some (.int .i64 kind) ∧ wa.cell? ⟨xb, 2, none⟩ = some (.slice L labels.length lc) ∧ wa.cell? ⟨xb, 3, none⟩ = some (.string nm) ∧ wa.cell? ⟨xb, 4, none⟩ = some (.string proc) ∧ wa.cell? ⟨xb, 5, none⟩ = some (.int .i64 x0) ∧ wa.cell? ⟨xb, 6, none⟩ = some (.int .i64 x1) ∧ wa.cell? ⟨xb, 7, none⟩ = some (.string x2) ∧ wa.cell? ⟨xb, 8, none⟩ = some (.slice X xn xc) ∧ wa.cell? ⟨xb, 9, none⟩ = some (.bool has)) := Lib.hid ⟨HBx.out.lt, by rw [HBx.out.cell]; rfl, by rw [HBx.out.cell]; rfl, by rw [HBx.out.cell]; rfl, by rw [HBx.out.cell]; rfl, by rw [HBx.out.cell]; rfl, by rw [HBx.out.cell]; rfl, by rw [HBx.out.cell]; rfl, by rw [HBx.out.cell]; rfl, by rw [HBx.out.cell]; rfl, by rw [HBx.out.cell]; rfl⟩
        have L0 := HBx.out.lt
        have HIV := Lib.hid (HR.out.inn.on HBa.out)
        have hBD : Below wa.heap.size wa wa.drew := (Below.refl _ _).drew
        have hBA : Below wa.heap.size wa (wa.alloc (.cells zS 55)).drew := (below_box _).drew
        go_cut [10] from 19 to 45 (fun s wx => ∃ yb L' lc' y0 y1 y2 Y yn yc, s = .pointer (some ⟨yb, 0, none⟩) ∧ Hid (CoA wa wx yb id kind lz nz pz xz has (.slice L' lz.length lc') (.int .i64 y0) (.int .i64 y1) (.string y2) (.slice Y yn yc)))
        case first =>
          go_region_held3 (fun w' => w'.cell? ⟨xb, 0, none⟩ = some (.int .i64 id) ∧ w'.cell? ⟨xb, 1, none⟩ = some (.int .i64 kind) ∧ w'.cell? ⟨xb, 2, none⟩ = some (.slice L labels.length lc) ∧ w'.cell? ⟨xb, 3, none⟩ = some (.string nm) ∧ w'.cell? ⟨xb, 4, none⟩ = some (.string proc) ∧ w'.cell? ⟨xb, 5, none⟩ = some (.int .i64 x0) ∧ w'.cell? ⟨xb, 6, none⟩ = some (.int .i64 x1) ∧ w'.cell? ⟨xb, 7, none⟩ = some (.string x2) ∧ w'.cell? ⟨xb, 8, none⟩ = some (.slice X xn xc) ∧ w'.cell? ⟨xb, 9, none⟩ = some (.bool has) ∧ Below wa.heap.size wa w')
            ((refine ss_of ?_ HK.out; first | (with_reducible assumption) | (go_split_ands; with_reducible assumption) | (go_split_ands; (with_reducible refine below_stepA ?_ _); with_reducible assumption) | (go_split_ands; (iterate 13 (with_reducible refine below_setc ?_ (by first | exact Nat.le_refl _ | exact hB1.size | exact hB2.size) _)); with_reducible assumption) | (exact (Below.refl _ _).drew)))
            (first
              | ((go_at_call 65; with_reducible refine (HOn1.out _).mono ?_; rintro e' w' ⟨rfl, rfl⟩))
              | ((go_at_call 65; with_reducible refine (HOp1.out _).mono ?_; rintro e' w' ⟨rfl, rfl⟩))
              | ((go_at_call 36; have hBU1 := below_step (V := wa) (by go_split_ands; assumption) (Below.refl _ _); refine (HLb.out _ (HIV.out.on hBU1)).mono ?_; rintro e q1 ⟨v1, rfl, hb1, ht1⟩; obtain ⟨L', lc', rfl, hl1, hl2⟩ := ht1.shape; have hB1 := below_step (V := wa) (by go_split_ands; assumption) hb1; try (have z1 : Hid (Blk q1 wa.heap.size 55 zS) := Lib.hid ((Blk.new wa.drew 55 zS).below hb1 (by simp)))))
              | ((go_at_call 110; have hBU2 := below_step (V := wa) (by go_split_ands; assumption) (Below.refl _ _); refine (HX.out _ (HIV.out.on hBU2)).mono ?_; rintro e q2 ⟨d0, d1, d2, d3, rfl, hb2, hx2⟩; obtain ⟨y0, y1, y2, Y, yn, yc, hg⟩ := hx2.form; (simp only [List.cons.injEq, and_true] at hg); obtain ⟨rfl, rfl, rfl, rfl⟩ := hg; have hB2 := below_step (V := wa) (by go_split_ands; assumption) hb2; try (first | (have z2 : Hid (Blk q2 wa.heap.size 55 zS) := Lib.hid (z1.out.below hb2 z1.out.lt)) | (have z2 : Hid (Blk q2 q1.heap.size 55 zS) := Lib.hid ((Blk.new q1 55 zS).below hb2 (by simp)))); try (obtain ⟨⟨z0_, z1_, z2_, z3_, z4_, z5_, z6_, z7_, z8_, z9_, z10_, z11_, z12_⟩, f0_, f1_, f2_, f3_, f4_, f5_, f6_, f7_, f8_, f9_, f10_, f11_, f12_⟩ := newS_of z2.out))))
          · go_wp2_with fail
            go_meet
            exact ⟨_, L', lc', y0, y1, y2, Y, yn, yc, rfl, Lib.hid (coA_alloc hB1 hBU1.size ht1 hb2 hx2)⟩
          · go_wp2_with fail
            go_meet
            exact ⟨_, L', lc', y0, y1, y2, Y, yn, yc, rfl, Lib.hid (coA_set z2.out hB2 hB1.size hBU1.size ht1 (below_new hb2) (.inr (Nat.le_refl _)) hBU2.size hx2 (by simp))⟩
          · go_wp2_with fail
            go_meet
            exact ⟨_, L', lc', y0, y1, y2, Y, yn, yc, rfl, Lib.hid (coA_set z2.out hB2 hB1.size hBU1.size ht1 (below_new hb2) (.inr (Nat.le_refl _)) hBU2.size hx2 (by simp))⟩
          · go_wp2_with fail
            go_meet
            exact ⟨_, L', lc', y0, y1, y2, Y, yn, yc, rfl, Lib.hid (coA_set z2.out hB2 hB1.size hBU1.size ht1 (below_new hb2) (.inr (Nat.le_refl _)) hBU2.size hx2 (by simp))⟩
          · go_wp2_with fail
            go_meet
            exact ⟨_, L', lc', y0, y1, y2, Y, yn, yc, rfl, Lib.hid (coA_set z2.out hB2 (Nat.le_refl _) hBU1.size ht1 hb2 (.inl (by simp)) hBU2.size hx2 z1.out.lt)⟩
        case rest =>
        obtain ⟨yb, L', lc', y0, y1, y2, Y, yn, yc, rfl, HC⟩ := hcut
        generalize wr = wo at *
        have HCx : Hid (CwI w Q wo wa wc wc xb yb #[.int .i64 id, .int .i64 kind, .slice L labels.length lc, .string nm, .string proc, .int .i64 x0, .int .i64 x1, .string x2, .slice X xn xc, .bool has, .slice R args.length rc, .slice T th.length tc, .slice U el.length uc] id kind lz nz pz xz has (.slice L' lz.length lc') (.int .i64 y0) (.int .i64 y1) (.string y2) (.slice Y yn yc) az 0 none 0) := Lib.hid ⟨HBx.out.below HC.out.below HBx.out.lt, HC.out.blk, BuildI.nil _ _ _ _ _, HIV.out.on HC.out.below, Nat.le_refl _, HBa.out.trans (HC.out.below.mono HBa.out.size), HC.out.lab, HC.out.ex⟩
        have hyl : yb < wc.heap.size := HC.out.blk.lt
        have hyV : wa.heap.size ≤ yb := HC.out.le
        have hxa : xb < wa.heap.size := HBx.out.lt
        have a10 : wc.cell? ⟨xb, 10, none⟩ = some (.slice R args.length rc) := by rw [HCx.out.bx.cell]; rfl
        clear HX HLb HOn1 HOp1 HIV HBx HBa HK HC hBD hBA L0
        go_wp2_with fail
        go_loopw [49] (fun i wr => ∃ (kk : Nat) (Xa : Option Addr) (ca : Nat), kk ≤ args.length ∧ i = .int .i64 kk ∧ Hid (CwI w Q wo wa wc wr xb yb #[.int .i64 id, .int .i64 kind, .slice L labels.length lc, .string nm, .string proc, .int .i64 x0, .int .i64 x1, .string x2, .slice X xn xc, .bool has, .slice R args.length rc, .slice T th.length tc, .slice U el.length uc] id kind lz nz pz xz has (.slice L' lz.length lc') (.int .i64 y0) (.int .i64 y1) (.string y2) (.slice Y yn yc) az kk Xa ca)) (fun i _ => args.length - (intOf i).toNat)
        case atStart => exact ⟨0, none, 0, Nat.zero_le _, rfl, HCx⟩
        case round =>
          obtain ⟨kk, Xa, ca, hkk, rfl, HRi⟩ := hrel
          by_cases hlt2 : kk < args.length
          · obtain ⟨ia, o1, n1, s1, A1, l1, k1, rfl, hqa, hrow, hnma, hxa_⟩ := arg_at HA.out HRi.out.inn hlt2
            have HC := Lib.hid (fun V h1 => SwapExpr_any sa sb hxa_ _ _ _ _ rfl V h1 (HWa.out kk hlt2) HSab.out.1 HSab.out.2)
            have HOq := Lib.hid (fun V => HOa.out args[kk].nm V)
            have hnz2 := oth_le HSab.out.1 HSab.out.2 hnma
            obtain ⟨qz, hqz⟩ : ∃ z, z = oth sa sb args[kk].nm := ⟨_, rfl⟩
            obtain ⟨ez, hez⟩ : ∃ z, z = swE sa sb args[kk].x := ⟨_, rfl⟩
            have HAk : Hid (∀ h : kk < az.length, az[kk] = ⟨args[kk].ref, qz, ez⟩) := Lib.hid (fun h => by rw [HAz.out kk h hlt2, hqz, hez]; rfl)
            rw [← hqz] at HOq hnz2
            rw [← hez] at HC
            have HNa := Lib.hid hnz2
            obtain ⟨p0, p1, p2, p3, p4, p5, _⟩ := hrow
            clear hqa hxa_ hnma hnz2 hqz hez
            go_wp2_with fail
            have HR2 := Lib.hid (HRi.out.on (below_box (.cells #[.bool args[kk].ref, .string args[kk].nm, .int .i64 o1, .int .i64 n1, .string s1, .slice A1 l1 k1] 72)))
            have HB5 := Lib.hid (Blk.new wr 72 #[.bool args[kk].ref, .string args[kk].nm, .int .i64 o1, .int .i64 n1, .string s1, .slice A1 l1 k1])
            have HRb : Hid (∀ j, (Value.slice Xa kk ca).ownBlock = some j → j < wr.heap.size) := Lib.hid (by obtain ⟨_, r1, _⟩ := HRi.out.row; exact fun j hj => (r1.lt j hj).2)
            have hsz5 := HRi.out.size
            clear p0 p1 p2 p3 p4 p5 HRi
            generalize hg5 : wr.heap.size = g5 at HB5 HRb hsz5 ⊢
            generalize World.alloc _ _ = wq at HR2 HB5 ⊢
            clear hg5
            have y10 : wq.cell? ⟨yb, 10, none⟩ = some (.slice Xa kk ca) := by rw [HR2.out.by_.cell]; rfl
            have x0_ : wq.cell? ⟨g5, 0, none⟩ = some (.bool args[kk].ref) := by rw [HB5.out.cell]; rfl
            have x1_ : wq.cell? ⟨g5, 1, none⟩ = some (.string args[kk].nm) := by rw [HB5.out.cell]; rfl
            have x2_ : wq.cell? ⟨g5, 2, none⟩ = some (.int .i64 o1) := by rw [HB5.out.cell]; rfl
            have x3_ : wq.cell? ⟨g5, 3, none⟩ = some (.int .i64 n1) := by rw [HB5.out.cell]; rfl
            have x4_ : wq.cell? ⟨g5, 4, none⟩ = some (.string s1) := by rw [HB5.out.cell]; rfl
            have x5_ : wq.cell? ⟨g5, 5, none⟩ = some (.slice A1 l1 k1) := by rw [HB5.out.cell]; rfl
            have hgl := HB5.out.lt
            have hyq := HR2.out.by_.lt
            have hsq := HR2.out.size
            have f10 := HR2.out.by_.frozen 10
            obtain ⟨rows2, hO2, hAl2⟩ := HR2.out.row
            have HOi := Lib.hid hO2
            have HAli := Lib.hid hAl2
            have htk2 : (az.take kk).length = kk := by rw [List.length_take]; omega
            have HO2 : Hid (wq.ownsRow wc.heap.size 72 6 (.slice Xa kk ca) kk rows2.flatten) := Lib.hid (by have := HOi.out; rw [htk2] at this; exact this)
            clear hO2 hAl2 htk2
            have hdr : ∀ {Q : Nat → Prop} {w V : World}, In Q w V → In Q w V.drew := fun h => h
            have hgy : g5 ≠ yb := by omega
            have HOn : Hid (∀ j, j < wc.heap.size ∨ g5 ≤ j → ¬ (Value.slice Xa kk ca).ownBlock = some j) := Lib.hid (fun j hj h => by have := (HOi.out.lt j h).1; have := HRb.out j h; omega)
            refine wp_region_last (fun w' : World => w'.cell? ⟨yb, 10, none⟩ = some (.slice Xa kk ca) ∧ w'.cell? ⟨g5, 0, none⟩ = some (.bool args[kk].ref) ∧ w'.cell? ⟨g5, 1, none⟩ = some (.string args[kk].nm) ∧ w'.cell? ⟨g5, 2, none⟩ = some (.int .i64 o1) ∧ w'.cell? ⟨g5, 3, none⟩ = some (.int .i64 n1) ∧ w'.cell? ⟨g5, 4, none⟩ = some (.string s1) ∧ w'.cell? ⟨g5, 5, none⟩ = some (.slice A1 l1 k1)) 18 (by kernel_rfl) ?_
            have hS0 : (fun w' : World => w'.cell? ⟨yb, 10, none⟩ = some (.slice Xa kk ca) ∧ w'.cell? ⟨g5, 0, none⟩ = some (.bool args[kk].ref) ∧ w'.cell? ⟨g5, 1, none⟩ = some (.string args[kk].nm) ∧ w'.cell? ⟨g5, 2, none⟩ = some (.int .i64 o1) ∧ w'.cell? ⟨g5, 3, none⟩ = some (.int .i64 n1) ∧ w'.cell? ⟨g5, 4, none⟩ = some (.string s1) ∧ w'.cell? ⟨g5, 5, none⟩ = some (.slice A1 l1 k1)) wq.drew := ⟨y10, x0_, x1_, x2_, x3_, x4_, x5_⟩
            change wpAnyL _ _ _ _ _ _ 19 _ _ wq.drew
            refine wpAnyL_take (i := 0) (v := ?_) rfl (by kernel_rfl) (by decide) (by kernel_rfl) (by kernel_rfl) (by kernel_rfl) (fun _ _ _ h => h) (Or.inl ⟨by rfl, ?_⟩) (by assumption) ?_
            rotate_left
            · intro w hSw
              (try dsimp only at hSw)
              go_split_ands
              go_simp
              (try (with_reducible rfl))
            (try simp only [Act.put, List.setIfInBounds_toArray, List.set_cons_zero, List.set_cons_succ])
            refine wpAnyL_take (i := 1) (v := ?_) rfl (by kernel_rfl) (by decide) (by kernel_rfl) (by kernel_rfl) (by kernel_rfl) (fun _ _ _ h => h) (Or.inl ⟨by rfl, ?_⟩) (by assumption) ?_
            rotate_left
            · intro w hSw
              (try dsimp only at hSw)
              go_split_ands
              go_simp
              (try (with_reducible rfl))
            (try simp only [Act.put, List.setIfInBounds_toArray, List.set_cons_zero, List.set_cons_succ])
            refine wpAnyL_take (i := 2) (v := ?_) rfl (by kernel_rfl) (by decide) (by kernel_rfl) (by kernel_rfl) (by kernel_rfl) (fun _ _ _ h => h) (Or.inl ⟨by rfl, ?_⟩) (by assumption) ?_
            rotate_left
            · intro w hSw
              (try dsimp only at hSw)
              go_split_ands
              go_simp
              (try (with_reducible rfl))
            (try simp only [Act.put, List.setIfInBounds_toArray, List.set_cons_zero, List.set_cons_succ])
            refine wpAnyL_take (i := 3) (v := ?_) rfl (by kernel_rfl) (by decide) (by kernel_rfl) (by kernel_rfl) (by kernel_rfl) (fun _ _ _ h => h) (Or.inl ⟨by rfl, ?_⟩) (by assumption) ?_
            rotate_left
            · intro w hSw
              (try dsimp only at hSw)
              go_split_ands
              go_simp
              (try (with_reducible rfl))
            (try simp only [Act.put, List.setIfInBounds_toArray, List.set_cons_zero, List.set_cons_succ])
            refine wpAnyL_take (i := 4) (v := ?_) rfl (by kernel_rfl) (by decide) (by kernel_rfl) (by kernel_rfl) (by kernel_rfl) (fun _ _ _ h => h) (Or.inl ⟨by rfl, ?_⟩) (by assumption) ?_
            rotate_left
            · intro w hSw
              (try dsimp only at hSw)
              go_split_ands
              go_simp
              (try (with_reducible rfl))
            (try simp only [Act.put, List.setIfInBounds_toArray, List.set_cons_zero, List.set_cons_succ])
            refine wpAnyL_take (i := 5) (v := ?_) rfl (by kernel_rfl) (by decide) (by kernel_rfl) (by kernel_rfl) (by kernel_rfl) (fun _ _ _ h => h) (Or.inl ⟨by rfl, ?_⟩) (by assumption) ?_
            rotate_left
            · intro w hSw
              (try dsimp only at hSw)
              go_split_ands
              go_simp
              (try (with_reducible rfl))
            (try simp only [Act.put, List.setIfInBounds_toArray, List.set_cons_zero, List.set_cons_succ])
            refine wpAnyL_take (i := 6) (v := ?_) rfl (by kernel_rfl) (by decide) (by kernel_rfl) (by kernel_rfl) (by kernel_rfl) (fun _ _ _ h => h) (Or.inl ⟨by rfl, ?_⟩) (by assumption) ?_
            rotate_left
            · intro w hSw
              (try dsimp only at hSw)
              go_split_ands
              go_simp
              (try (with_reducible rfl))
            (try simp only [Act.put, List.setIfInBounds_toArray, List.set_cons_zero, List.set_cons_succ])
            refine wpAnyL_take (i := 7) (v := ?_) rfl (by kernel_rfl) (by decide) (by kernel_rfl) (by kernel_rfl) (by kernel_rfl) (fun _ _ _ h => h) (Or.inl ⟨by rfl, ?_⟩) (by assumption) ?_
            rotate_left
            · intro w hSw
              (try dsimp only at hSw)
              go_split_ands
              go_simp
              (try (with_reducible rfl))
            (try simp only [Act.put, List.setIfInBounds_toArray, List.set_cons_zero, List.set_cons_succ])
            refine wpAnyL_take (i := 9) (v := ?_) rfl (by kernel_rfl) (by decide) (by kernel_rfl) (by kernel_rfl) (by kernel_rfl) (fun _ _ _ h => h) (Or.inl ⟨by rfl, ?_⟩) (by assumption) ?_
            rotate_left
            · intro w hSw
              (try dsimp only at hSw)
              go_split_ands
              go_simp
              (try (with_reducible rfl))
            (try simp only [Act.put, List.setIfInBounds_toArray, List.set_cons_zero, List.set_cons_succ])
            refine wpAnyL_take (i := 10) (v := ?_) rfl (by kernel_rfl) (by decide) (by kernel_rfl) (by kernel_rfl) (by kernel_rfl) (fun _ _ _ h => h) (Or.inl ⟨by rfl, ?_⟩) (by assumption) ?_
            rotate_left
            · intro w hSw
              (try dsimp only at hSw)
              go_split_ands
              go_simp
              (try (with_reducible rfl))
            (try simp only [Act.put, List.setIfInBounds_toArray, List.set_cons_zero, List.set_cons_succ])
            refine wpAnyL_take (i := 11) (v := ?_) rfl (by kernel_rfl) (by decide) (by kernel_rfl) (by kernel_rfl) (by kernel_rfl) (fun _ _ _ h => h) (Or.inl ⟨by rfl, ?_⟩) (by assumption) ?_
            rotate_left
            · intro w hSw
              (try dsimp only at hSw)
              go_split_ands
              go_simp
              (try (with_reducible rfl))
            (try simp only [Act.put, List.setIfInBounds_toArray, List.set_cons_zero, List.set_cons_succ])
            refine wpAnyL_take (i := 12) (v := ?_) rfl (by kernel_rfl) (by decide) (by kernel_rfl) (by kernel_rfl) (by kernel_rfl) (fun _ _ _ h => h) (Or.inl ⟨by rfl, ?_⟩) (by assumption) ?_
            rotate_left
            · intro w hSw
              (try dsimp only at hSw)
              go_split_ands
              go_simp
              (try (with_reducible rfl))
            (try simp only [Act.put, List.setIfInBounds_toArray, List.set_cons_zero, List.set_cons_succ])
            refine wpAnyL_step (i := 8) (by kernel_rfl) rfl (fun K hK => ?_)
            go_simp
            refine (HOq.out _).mono ?_
            rintro e' w' ⟨rfl, rfl⟩
            refine hK.out _ _ (fun _ => ⟨y10, x0_, x1_, x2_, x3_, x4_, x5_⟩) ?_
            clear hK K
            (try simp only [Act.put, List.setIfInBounds_toArray, List.set_cons_zero, List.set_cons_succ])
            refine wpAnyL_step (i := 13) (by kernel_rfl) rfl (fun K hK => ?_)
            go_simp
            refine (HC.out _ (hdr HR2.out.inn)).mono ?_
            rintro e' w3 ⟨d0, d1, d2, d3, rfl, hb3, he3⟩
            have hb3' : Below wq.heap.size wq w3 := (show Below wq.heap.size wq wq.drew from (Below.refl _ _).drew).trans hb3
            obtain ⟨g0, g1, g2, g3, m3, n3, hg⟩ := he3.form
            (simp only [List.cons.injEq, and_true] at hg)
            obtain ⟨rfl, rfl, rfl, rfl⟩ := hg
            have hgl3 := Nat.lt_of_lt_of_le hgl hb3'.size
            have hyq3 := Nat.lt_of_lt_of_le hyq hb3'.size
            have yy3 : w3.cell? ⟨yb, 10, none⟩ = some (.slice Xa kk ca) := (hb3'.cell (p := ⟨yb, 10, none⟩) hyq).trans y10
            have ff3 : w3.frozen? ⟨yb, 10, none⟩ = false := (hb3'.frozen (p := ⟨yb, 10, none⟩) hyq).trans f10
            have u0 : w3.cell? ⟨g5, 0, none⟩ = some (.bool args[kk].ref) := (hb3'.cell (p := ⟨g5, 0, none⟩) hgl).trans x0_
            have u1 : w3.cell? ⟨g5, 1, none⟩ = some (.string args[kk].nm) := (hb3'.cell (p := ⟨g5, 1, none⟩) hgl).trans x1_
            have u2 : w3.cell? ⟨g5, 2, none⟩ = some (.int .i64 o1) := (hb3'.cell (p := ⟨g5, 2, none⟩) hgl).trans x2_
            have u3 : w3.cell? ⟨g5, 3, none⟩ = some (.int .i64 n1) := (hb3'.cell (p := ⟨g5, 3, none⟩) hgl).trans x3_
            have u4 : w3.cell? ⟨g5, 4, none⟩ = some (.string s1) := (hb3'.cell (p := ⟨g5, 4, none⟩) hgl).trans x4_
            have u5 : w3.cell? ⟨g5, 5, none⟩ = some (.slice A1 l1 k1) := (hb3'.cell (p := ⟨g5, 5, none⟩) hgl).trans x5_
            have HO3 := Lib.hid ((Below.moves hb3').row HO2.out (fun j hj e => Nat.not_lt.2 e (HO2.out.lt j hj).2))
            have HNw := Lib.hid (new16 w3 72 [.bool args[kk].ref, .string qz, .int .i64 g0, .int .i64 g1, .string g2, .slice g3 m3 n3])
            have hcb : wc.heap.size ≤ w3.heap.size + 1 := (by have := hb3'.size; omega)
            refine hK.out _ _ (fun _ => ⟨yy3, u0, u1, u2, u3, u4, u5⟩) ?_
            clear hK K
            (try simp only [Act.put, List.setIfInBounds_toArray, List.set_cons_zero, List.set_cons_succ])
            refine wpAnyL_step (i := 14) (by kernel_rfl) rfl (fun K hK => ?_)
            go_simp
            refine hK.out _ _ (fun _ => ⟨yy3, u0, u1, u2, u3, u4, u5⟩) ?_
            clear hK K
            (try simp only [Act.put, List.setIfInBounds_toArray, List.set_cons_zero, List.set_cons_succ])
            refine wpAnyL_step (i := 15) (by kernel_rfl) rfl (fun K hK => ?_)
            go_simp
            refine hK.out _ _ (fun _ => ⟨cell_new yy3, cell_new u0, cell_new u1, cell_new u2, cell_new u3, cell_new u4, cell_new u5⟩) ?_
            clear hK K
            (try simp only [Act.put, List.setIfInBounds_toArray, List.set_cons_zero, List.set_cons_succ])
            refine wpAnyL_step (i := 16) (by kernel_rfl) rfl (fun K hK => ?_)
            refine step_append_lies _ (by rfl) _ _ _ (by rfl) wc.heap.size 72 j0 _ 6 80 Try.underlying52 hj0 hv0 hv1 hv2 rfl (by decide) (.slice Xa kk ca) kk rows2.flatten (by rfl) (HO3.out.alloc _) ⟨w3.heap.size, 0, none⟩ 1 1 [.bool args[kk].ref, .string qz, .int .i64 g0, .int .i64 g1, .string g2, .slice g3 m3 n3] (by rfl) rfl HNw.out (by simp [Value.oneCell']) (by decide) (by unfold maxLen; omega) (by omega) (by rw [World.size_alloc]; exact hcb) (w3.heap.size + 1) (by simp) ?_
            intro g cap5 w4 hown4 hgrow hat hlt4
            have hm4 : Moves (fun j => (Value.slice Xa kk ca).ownBlock = some j) w3 w4 := ((Moves.refl _ w3).alloc _).trans (moves_grown hgrow) (fun j hj => .inr hj)
            have hown_ := HOn.out
            have v0 : w4.cell? ⟨g5, 0, none⟩ = some (.bool args[kk].ref) := (hm4.cell (p := ⟨g5, 0, none⟩) hgl3 (hown_ g5 (.inr (Nat.le_refl _)))).trans u0
            have v1 : w4.cell? ⟨g5, 1, none⟩ = some (.string args[kk].nm) := (hm4.cell (p := ⟨g5, 1, none⟩) hgl3 (hown_ g5 (.inr (Nat.le_refl _)))).trans u1
            have v2 : w4.cell? ⟨g5, 2, none⟩ = some (.int .i64 o1) := (hm4.cell (p := ⟨g5, 2, none⟩) hgl3 (hown_ g5 (.inr (Nat.le_refl _)))).trans u2
            have v3 : w4.cell? ⟨g5, 3, none⟩ = some (.int .i64 n1) := (hm4.cell (p := ⟨g5, 3, none⟩) hgl3 (hown_ g5 (.inr (Nat.le_refl _)))).trans u3
            have v4 : w4.cell? ⟨g5, 4, none⟩ = some (.string s1) := (hm4.cell (p := ⟨g5, 4, none⟩) hgl3 (hown_ g5 (.inr (Nat.le_refl _)))).trans u4
            have v5 : w4.cell? ⟨g5, 5, none⟩ = some (.slice A1 l1 k1) := (hm4.cell (p := ⟨g5, 5, none⟩) hgl3 (hown_ g5 (.inr (Nat.le_refl _)))).trans u5
            have yy4 : w4.cell? ⟨yb, 10, none⟩ = some (.slice Xa kk ca) := (hm4.cell (p := ⟨yb, 10, none⟩) hyq3 (hown_ yb (.inl hyl))).trans yy3
            have ff4 : w4.frozen? ⟨yb, 10, none⟩ = false := (hm4.blk (HR2.out.by_.below hb3' hyq) (hown_ yb (.inl hyl))).frozen 10
            refine hK.out _ _ (fun _ => ⟨yy4, v0, v1, v2, v3, v4, v5⟩) ?_
            clear hK K
            (try simp only [Act.put, List.setIfInBounds_toArray, List.set_cons_zero, List.set_cons_succ])
            refine wpAnyL_step (i := 17) (by kernel_rfl) rfl (fun K hK => ?_)
            go_simp
            refine hK.out _ _ (fun _ => ⟨yy4, v0, v1, v2, v3, v4, v5⟩) ?_
            clear hK K
            (try simp only [Act.put, List.setIfInBounds_toArray, List.set_cons_zero, List.set_cons_succ])
            refine wpAnyL_step (i := 18) (by kernel_rfl) rfl (fun K hK => ?_)
            go_simp
            refine hK.out _ _ (fun h => absurd rfl h) ?_
            clear hK K
            (try simp only [Act.put, List.setIfInBounds_toArray, List.set_cons_zero, List.set_cons_succ])
            refine wpAnyL_done (by kernel_rfl) ?_ 0
            go_wp2_with fail
            go_roundw
            case rel => exact ⟨kk + 1, _, _, by omega, by go_num, Lib.hid (cw_step (HR2.out.on hb3') (by omega) hyl (by omega) hxge HQb.out hsq (fun j hj => by have := HRb.out j hj; omega) (by rw [HAk.out (by omega)]; exact ⟨_, rfl, HNa.out, he3⟩) ((Below.moves hb3').row HOi.out (fun j hj e => Nat.not_lt.2 e (HOi.out.lt j hj).2)) (HAli.out.imp fun x cs h => h.keep (fun j h => ⟨⟨h.1.1, Nat.lt_of_lt_of_le h.1.2 hb3'.size⟩, h.2⟩) (fun p hp => hb3'.cell hp.1.2)) hown4 hgrow hat)⟩
            case measure => simp [intOf]; omega
          · have hke2 : kk = args.length := by omega
            subst hke2
            have hfull : az.take args.length = az := List.take_of_length_le (by omega)
            have HSl := Lib.hid (BuildI.done (R := fun w Q => ArgI w Q) stayA (fun h => (argCk _ _ _ _ h).1) HRi.out.row)
            rw [hfull] at HSl
            have HByd := Lib.hid HRi.out.by_
            have HBxd := Lib.hid HRi.out.bx
            have HBd := Lib.hid HRi.out.below
            have HLx := Lib.hid HRi.out.lab
            have HEx := Lib.hid HRi.out.ex
            have hsq := HRi.out.size
            have hwy : wo.heap.size ≤ yb := by omega
            have hyx : xb ≠ yb := by omega
            clear HRi HCx hfull
            have x11_ : wr.cell? ⟨xb, 11, none⟩ = some (.slice T th.length tc) := by rw [HBxd.out.cell]; rfl
            have x12_ : wr.cell? ⟨xb, 12, none⟩ = some (.slice U el.length uc) := by rw [HBxd.out.cell]; rfl
            go_upto_region 11 with fail
            have hxl := HBxd.out.lt
            have hyl := HByd.out.lt
            have hdr : ∀ {Q : Nat → Prop} {w V : World}, In Q w V → In Q w V.drew := fun h => h
            refine wp_region_last (fun w' : World => w'.cell? ⟨xb, 11, none⟩ = some (.slice T th.length tc) ∧ w'.cell? ⟨xb, 12, none⟩ = some (.slice U el.length uc)) 13 (by kernel_rfl) ?_
            have hS0 : (fun w' : World => w'.cell? ⟨xb, 11, none⟩ = some (.slice T th.length tc) ∧ w'.cell? ⟨xb, 12, none⟩ = some (.slice U el.length uc)) wr.drew := ⟨x11_, x12_⟩
            change wpAnyL _ _ _ _ _ _ 14 _ _ wr.drew
            refine wpAnyL_take (i := 0) (v := ?_) rfl (by kernel_rfl) (by decide) (by kernel_rfl) (by kernel_rfl) (by kernel_rfl) (fun _ _ _ h => h) (Or.inl ⟨by rfl, ?_⟩) (by assumption) ?_
            rotate_left
            · intro w hSw
              (try dsimp only at hSw)
              go_split_ands
              go_simp
              (try (with_reducible rfl))
            (try simp only [Act.put, List.setIfInBounds_toArray, List.set_cons_zero, List.set_cons_succ])
            refine wpAnyL_take (i := 1) (v := ?_) rfl (by kernel_rfl) (by decide) (by kernel_rfl) (by kernel_rfl) (by kernel_rfl) (fun _ _ _ h => h) (Or.inl ⟨by rfl, ?_⟩) (by assumption) ?_
            rotate_left
            · intro w hSw
              (try dsimp only at hSw)
              go_split_ands
              go_simp
              (try (with_reducible rfl))
            (try simp only [Act.put, List.setIfInBounds_toArray, List.set_cons_zero, List.set_cons_succ])
            refine wpAnyL_take (i := 2) (v := ?_) rfl (by kernel_rfl) (by decide) (by kernel_rfl) (by kernel_rfl) (by kernel_rfl) (fun _ _ _ h => h) (Or.inl ⟨by rfl, ?_⟩) (by assumption) ?_
            rotate_left
            · intro w hSw
              (try dsimp only at hSw)
              go_split_ands
              go_simp
              (try (with_reducible rfl))
            (try simp only [Act.put, List.setIfInBounds_toArray, List.set_cons_zero, List.set_cons_succ])
            refine wpAnyL_take (i := 3) (v := ?_) rfl (by kernel_rfl) (by decide) (by kernel_rfl) (by kernel_rfl) (by kernel_rfl) (fun _ _ _ h => h) (Or.inl ⟨by rfl, ?_⟩) (by assumption) ?_
            rotate_left
            · intro w hSw
              (try dsimp only at hSw)
              go_split_ands
              go_simp
              (try (with_reducible rfl))
            (try simp only [Act.put, List.setIfInBounds_toArray, List.set_cons_zero, List.set_cons_succ])
            refine wpAnyL_take (i := 5) (v := ?_) rfl (by kernel_rfl) (by decide) (by kernel_rfl) (by kernel_rfl) (by kernel_rfl) (fun _ _ _ h => h) (Or.inl ⟨by rfl, ?_⟩) (by assumption) ?_
            rotate_left
            · intro w hSw
              (try dsimp only at hSw)
              go_split_ands
              go_simp
              (try (with_reducible rfl))
            (try simp only [Act.put, List.setIfInBounds_toArray, List.set_cons_zero, List.set_cons_succ])
            refine wpAnyL_take (i := 6) (v := ?_) rfl (by kernel_rfl) (by decide) (by kernel_rfl) (by kernel_rfl) (by kernel_rfl) (fun _ _ _ h => h) (Or.inl ⟨by rfl, ?_⟩) (by assumption) ?_
            rotate_left
            · intro w hSw
              (try dsimp only at hSw)
              go_split_ands
              go_simp
              (try (with_reducible rfl))
            (try simp only [Act.put, List.setIfInBounds_toArray, List.set_cons_zero, List.set_cons_succ])
            refine wpAnyL_take (i := 7) (v := ?_) rfl (by kernel_rfl) (by decide) (by kernel_rfl) (by kernel_rfl) (by kernel_rfl) (fun _ _ _ h => h) (Or.inl ⟨by rfl, ?_⟩) (by assumption) ?_
            rotate_left
            · intro w hSw
              (try dsimp only at hSw)
              go_split_ands
              go_simp
              (try (with_reducible rfl))
            (try simp only [Act.put, List.setIfInBounds_toArray, List.set_cons_zero, List.set_cons_succ])
            refine wpAnyL_take (i := 8) (v := ?_) rfl (by kernel_rfl) (by decide) (by kernel_rfl) (by kernel_rfl) (by kernel_rfl) (fun _ _ _ h => h) (Or.inl ⟨by rfl, ?_⟩) (by assumption) ?_
            rotate_left
            · intro w hSw
              (try dsimp only at hSw)
              go_split_ands
              go_simp
              (try (with_reducible rfl))
            (try simp only [Act.put, List.setIfInBounds_toArray, List.set_cons_zero, List.set_cons_succ])
            refine wpAnyL_step (i := 4) (by kernel_rfl) rfl (fun K hK => ?_)
            go_simp
            refine (HT.out _ (hdr (HR.out.inn.on HBd.out))).mono ?_
            rintro e' w3 ⟨v3, rfl, hb3, hs3⟩
            obtain ⟨T3, tc3, rfl, hl3, hc3⟩ := hs3.shape
            have hb3' : Below wr.heap.size wr w3 := (show Below wr.heap.size wr wr.drew from (Below.refl _ _).drew).trans hb3
            have ux11 : w3.cell? ⟨xb, 11, none⟩ = some (.slice T th.length tc) := (hb3'.cell (p := ⟨xb, 11, none⟩) hxl).trans x11_
            have ux12 : w3.cell? ⟨xb, 12, none⟩ = some (.slice U el.length uc) := (hb3'.cell (p := ⟨xb, 12, none⟩) hxl).trans x12_
            refine hK.out _ _ (fun _ => ⟨ux11, ux12⟩) ?_
            clear hK K
            (try simp only [Act.put, List.setIfInBounds_toArray, List.set_cons_zero, List.set_cons_succ])
            refine wpAnyL_take (i := 10) (v := ?_) rfl (by kernel_rfl) (by decide) (by kernel_rfl) (by kernel_rfl) (by kernel_rfl) (fun _ _ _ h => h) (Or.inl ⟨by rfl, ?_⟩) ⟨ux11, ux12⟩ ?_
            rotate_left
            · intro w hSw
              (try dsimp only at hSw)
              go_split_ands
              go_simp
              (try (with_reducible rfl))
            (try simp only [Act.put, List.setIfInBounds_toArray, List.set_cons_zero, List.set_cons_succ])
            refine wpAnyL_step (i := 9) (by kernel_rfl) rfl (fun K hK => ?_)
            go_simp
            refine (HE.out _ (HR.out.inn.on (below_step HBd.out hb3'))).mono ?_
            rintro e' w4 ⟨v4, rfl, hb4, hs4⟩
            obtain ⟨U4, uc4, rfl, hl4, hc4⟩ := hs4.shape
            have hb4' : Below wr.heap.size wr w4 := below_step hb3' hb4
            have HBy4 := Lib.hid (HByd.out.below hb4' hyl)
            have vx11 : w4.cell? ⟨xb, 11, none⟩ = some (.slice T th.length tc) := (hb4'.cell (p := ⟨xb, 11, none⟩) hxl).trans x11_
            have vx12 : w4.cell? ⟨xb, 12, none⟩ = some (.slice U el.length uc) := (hb4'.cell (p := ⟨xb, 12, none⟩) hxl).trans x12_
            have y11 : w4.cell? ⟨yb, 11, none⟩ = some (.slice none 0 0) := (by rw [HBy4.out.cell]; rfl)
            have y12 : w4.cell? ⟨yb, 12, none⟩ = some (.slice none 0 0) := (by rw [HBy4.out.cell]; rfl)
            have f11 := HBy4.out.frozen 11
            have f12 := HBy4.out.frozen 12
            have hyl4 := HBy4.out.lt
            have hxl4 := Nat.lt_of_lt_of_le hxl hb4'.size
            refine hK.out _ _ (fun _ => ⟨vx11, vx12⟩) ?_
            clear hK K
            (try simp only [Act.put, List.setIfInBounds_toArray, List.set_cons_zero, List.set_cons_succ])
            refine wpAnyL_step (i := 11) (by kernel_rfl) rfl (fun K hK => ?_)
            go_simp
            refine hK.out _ _ (fun _ => ⟨set_far (by exact hyx) _ vx11, set_far (by exact hyx) _ vx12⟩) ?_
            clear hK K
            (try simp only [Act.put, List.setIfInBounds_toArray, List.set_cons_zero, List.set_cons_succ])
            refine wpAnyL_step (i := 12) (by kernel_rfl) rfl (fun K hK => ?_)
            go_simp
            refine hK.out _ _ (fun _ => ⟨set_far (by exact hyx) _ vx11, set_far (by exact hyx) _ vx12⟩) ?_
            clear hK K
            (try simp only [Act.put, List.setIfInBounds_toArray, List.set_cons_zero, List.set_cons_succ])
            refine wpAnyL_step (i := 13) (by kernel_rfl) rfl (fun K hK => ?_)
            go_simp
            refine hK.out _ _ (fun h => absurd rfl h) ?_
            clear hK K
            (try simp only [Act.put, List.setIfInBounds_toArray, List.set_cons_zero, List.set_cons_succ])
            refine wpAnyL_done (by kernel_rfl) ?_ 0
            have HBy5 : Hid (Blk ((w4.setCell ⟨yb, 11, none⟩ (.slice T3 (swSL sa sb th).length tc3)).setCell ⟨yb, 12, none⟩ (.slice U4 (swSL sa sb el).length uc4)) yb 55 #[.int .i64 id, .int .i64 kind, .slice L' lz.length lc', .string nz, .string pz, .int .i64 y0, .int .i64 y1, .string y2, .slice Y yn yc, .bool has, .slice Xa args.length ca, .slice T3 (swSL sa sb th).length tc3, .slice U4 (swSL sa sb el).length uc4]) := Lib.hid ((HBy4.out.set_ 11 _).set_ 12 _)
            have HB5 : Hid (Below wo.heap.size wo ((w4.setCell ⟨yb, 11, none⟩ (.slice T3 (swSL sa sb th).length tc3)).setCell ⟨yb, 12, none⟩ (.slice U4 (swSL sa sb el).length uc4))) := Lib.hid (below_setc (below_setc (below_step HBd.out hb4') hwy _) hwy _)
            have hz4 : wr.heap.size ≤ w4.heap.size := hb4'.size
            have hzr : wo.heap.size ≤ wr.heap.size := HBd.out.size
            have hsz5 : ((w4.setCell ⟨yb, 11, none⟩ (.slice T3 (swSL sa sb th).length tc3)).setCell ⟨yb, 12, none⟩ (.slice U4 (swSL sa sb el).length uc4)).heap.size = w4.heap.size := by simp only [size_set]
            have hc5 : ∀ p : Addr, p.block ≠ yb → ((w4.setCell ⟨yb, 11, none⟩ (.slice T3 (swSL sa sb th).length tc3)).setCell ⟨yb, 12, none⟩ (.slice U4 (swSL sa sb el).length uc4)).cell? p = w4.cell? p := fun p hp => by rw [cell_set_ne _ (fun e => hp (by rw [e])), cell_set_ne _ (fun e => hp (by rw [e]))]
            have hz3 : wr.heap.size ≤ w3.heap.size := hb3'.size
            have HEl : Hid (StmtI ((w4.setCell ⟨yb, 11, none⟩ (.slice T3 (swSL sa sb th).length tc3)).setCell ⟨yb, 12, none⟩ (.slice U4 (swSL sa sb el).length uc4)) (fun j => wo.heap.size ≤ j ∧ j < ((w4.setCell ⟨yb, 11, none⟩ (.slice T3 (swSL sa sb th).length tc3)).setCell ⟨yb, 12, none⟩ (.slice U4 (swSL sa sb el).length uc4)).heap.size) (S.mk id kind lz nz pz xz has az (swSL sa sb th) (swSL sa sb el)) [.int .i64 id, .int .i64 kind, .slice L' lz.length lc', .string nz, .string pz, .int .i64 y0, .int .i64 y1, .string y2, .slice Y yn yc, .bool has, .slice Xa args.length ca, .slice T3 (swSL sa sb th).length tc3, .slice U4 (swSL sa sb el).length uc4]) := Lib.hid (StmtI.of_slice HNm.out.1 HNm.out.2.1 HNm.out.2.2.1 HNm.out.2.2.2 (SliceI.keep HLx.out (fun j hj => ⟨by have := hj.1.1; omega, by rw [hsz5]; have := hj.1.2; omega⟩) (fun p hp => (hc5 p hp.2).trans (hb4'.cell (Nat.lt_of_lt_of_le hp.1.2 hsq))) (fun _ _ _ h => h)) (HEx.out.keep (fun j hj => ⟨by have := hj.1.1; omega, by rw [hsz5]; have := hj.1.2; omega⟩) (fun p hp => (hc5 p hp.2).trans (hb4'.cell (Nat.lt_of_lt_of_le hp.1.2 hsq)))) (SliceI.keep HSl.out (fun j hj => ⟨by have := hj.1; omega, by rw [hsz5]; have := hj.2; omega⟩) (fun p hp => (hc5 p (by have := hp.1; omega)).trans (hb4'.cell hp.2)) (fun a cs _ h => h.keep (fun j hj => ⟨by have := hj.1; omega, by rw [hsz5]; have := hj.2; omega⟩) (fun p hp => (hc5 p (by have := hp.1; omega)).trans (hb4'.cell hp.2)))) (SliceI.keep hs3 (fun j hj => ⟨by have : wr.heap.size ≤ j := hj.1; omega, by rw [hsz5]; have := hj.2; have := hb4.size; omega⟩) (fun p hp => (hc5 p (by have : wr.heap.size ≤ p.block := hp.1; omega)).trans (hb4.cell hp.2)) (fun s cs _ h => h.keep (fun j hj => ⟨by have : wr.heap.size ≤ j := hj.1; omega, by rw [hsz5]; have := hj.2; have := hb4.size; omega⟩) (fun p hp => (hc5 p (by have : wr.heap.size ≤ p.block := hp.1; omega)).trans (hb4.cell hp.2)))) (SliceI.keep hs4 (fun j hj => ⟨by have := hj.1; omega, by rw [hsz5]; exact hj.2⟩) (fun p hp => hc5 p (by have := hp.1; omega)) (fun s cs _ h => h.keep (fun j hj => ⟨by have := hj.1; omega, by rw [hsz5]; exact hj.2⟩) (fun p hp => hc5 p (by have := hp.1; omega)))))
            clear hc5 hsz5 hs3 hs4 hb3 hb4 hb3' hb4' HBy4 y11 y12 f11 f12 hS0 ux11 ux12 vx11 vx12 x11_ x12_
            generalize (World.setCell (World.setCell w4 _ _) _ _) = we at HBy5 HB5 HEl ⊢
            have y0_ : we.cell? ⟨yb, 0, none⟩ = some (.int .i64 id) := by rw [HBy5.out.cell]; rfl
            have y1_ : we.cell? ⟨yb, 1, none⟩ = some (.int .i64 kind) := by rw [HBy5.out.cell]; rfl
            have y2_ : we.cell? ⟨yb, 2, none⟩ = some (.slice L' lz.length lc') := by rw [HBy5.out.cell]; rfl
            have y3_ : we.cell? ⟨yb, 3, none⟩ = some (.string nz) := by rw [HBy5.out.cell]; rfl
            have y4_ : we.cell? ⟨yb, 4, none⟩ = some (.string pz) := by rw [HBy5.out.cell]; rfl
            have y5_ : we.cell? ⟨yb, 5, none⟩ = some (.int .i64 y0) := by rw [HBy5.out.cell]; rfl
            have y6_ : we.cell? ⟨yb, 6, none⟩ = some (.int .i64 y1) := by rw [HBy5.out.cell]; rfl
            have y7_ : we.cell? ⟨yb, 7, none⟩ = some (.string y2) := by rw [HBy5.out.cell]; rfl
            have y8_ : we.cell? ⟨yb, 8, none⟩ = some (.slice Y yn yc) := by rw [HBy5.out.cell]; rfl
            have y9_ : we.cell? ⟨yb, 9, none⟩ = some (.bool has) := by rw [HBy5.out.cell]; rfl
            have y10_ : we.cell? ⟨yb, 10, none⟩ = some (.slice Xa args.length ca) := by rw [HBy5.out.cell]; rfl
            have y11_ : we.cell? ⟨yb, 11, none⟩ = some (.slice T3 (swSL sa sb th).length tc3) := by rw [HBy5.out.cell]; rfl
            have y12_ : we.cell? ⟨yb, 12, none⟩ = some (.slice U4 (swSL sa sb el).length uc4) := by rw [HBy5.out.cell]; rfl
            have HR5 := Lib.hid (HR.out.on HB5.out)
            have hO5 := (Below.moves HB5.out).row HO.out (fun j hj e => Nat.not_lt.2 e (HO.out.lt j hj).2)
            have HO5 := Lib.hid hO5
            rw [htk] at hO5
            have HO5k := Lib.hid hO5
            clear hO5
            have HAl5 := Lib.hid (HAl.out.imp fun x cs h => h.keep (Q' := fun j => (W.heap.size ≤ j ∧ j < we.heap.size) ∧ (Value.slice Xo k co).ownBlock ≠ some j) (fun j h => ⟨⟨h.1.1, Nat.lt_of_lt_of_le h.1.2 HB5.out.size⟩, h.2⟩) (fun p hp => HB5.out.cell hp.1.2))
            have HNw := Lib.hid (new16 we 55 [.int .i64 id, .int .i64 kind, .slice L' lz.length lc', .string nz, .string pz, .int .i64 y0, .int .i64 y1, .string y2, .slice Y yn yc, .bool has, .slice Xa args.length ca, .slice T3 (swSL sa sb th).length tc3, .slice U4 (swSL sa sb el).length uc4])
            have hcb : W.heap.size ≤ we.heap.size + 1 := by have := HB5.out.size; have := HSz.out; omega
            have HRl : Hid (∀ j, (Value.slice Xo k co).ownBlock = some j → j < wo.heap.size) := Lib.hid (fun j hj => (HO.out.lt j hj).2)
            go_wp2_with (at_builtin; refine wpList_append_own_at _ rfl (.tmp 84) (.tmp 86) 53 rfl W.heap.size 55 i0 _ 13 208 Try.underlying53 hi0 hz0 hz1 hz2 rfl (by decide) _ k rows.flatten rfl (HO5k.out.alloc _) ⟨we.heap.size, 0, none⟩ 1 1 [.int .i64 id, .int .i64 kind, .slice L' lz.length lc', .string nz, .string pz, .int .i64 y0, .int .i64 y1, .string y2, .slice Y yn yc, .bool has, .slice Xa args.length ca, .slice T3 (swSL sa sb th).length tc3, .slice U4 (swSL sa sb el).length uc4] rfl rfl HNw.out (by simp [Value.oneCell']) (by unfold maxLen; omega) (by omega) (by rw [World.size_alloc]; exact hcb) ?_)
            intro v' w6 hown6 hg6 _ hat6
            obtain ⟨X6, c6, rfl, hP6⟩ := ro_step HR5.out htk.symm (Nat.le_refl _) HQ.out HSz.out HRl.out HEl.out HO5.out HAl5.out hown6 hg6 (hat6.imp Eq.symm (fun h => by rw [h, World.size_alloc]))
            have HP6 := Lib.hid hP6
            clear hown6 hg6 hat6 hP6
            go_wp2_with fail
            go_roundw
            case rel => exact ⟨k + 1, X6, c6, by omega, by go_num, rfl, Lib.hid (by rw [HTk.out]; exact HP6.out)⟩
            case measure => simp [intOf]; omega
      · have hke : k = l.length := by omega
        subst hke
        have HSl := Lib.hid (BuildI.done (R := fun w Q => StmtI w Q) stayS (fun h => (stmtCk _ _ _ _ h).1) HR.out.row)
        rw [List.take_of_length_le (by rw [swSL_len]; omega)] at HSl
        go_wp2_with fail
        go_ret
        exact ⟨_, rfl, HR.out.below, SliceI.keep HSl.out (fun j hj => ⟨by have := hj.1; omega, hj.2⟩) (fun p hp => rfl) (fun s cs _ h => h.keep (fun j hj => ⟨by have := hj.1; omega, hj.2⟩) (fun p hp => rfl))⟩
end Go.Proofs.Ytnnblklbjbkikaa
