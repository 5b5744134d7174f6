/- Texts, merged by a program; only what is used. -/
import Derived.Deep.Cut
import Derived.Deep.CutRange
import Derived.Deep.LoopGhost
import Derived.Test.YtimejkbmfbjomaaGreatKX1
import Derived.Test.YtimejkbmfbjomaaGreatKX2
import Derived.Test.YtimejkbmfbjomaaGreatKX3
import Derived.Test.YtimejkbmfbjomaaGreatKX4
import Derived.Test.YtimejkbmfbjomaaGreatKX5
import Derived.Test.YtimejkbmfbjomaaGreatKX6
import Derived.Test.YtimejkbmfbjomaaGreatKX7
import Derived.Test.YtimejkbmfbjomaaGreatKX8
import Derived.Test.YtimejkbmfbjomaaGreatKX9
import Derived.Test.YtimejkbmfbjomaaGreatKX22
import Derived.Test.YtimejkbmfbjomaaGreatKX23
import Derived.Test.YtimejkbmfbjomaaGreatKX28
namespace Go.Proofs.YtimejkbmfbjomaaGreat
open Go.ChangeShapes Go.WideShapes Go.ChangeAt Go.RowKit Go.Deep
set_option linter.unusedVariables false
set_option linter.unusedSimpArgs false
def hxK (kind : Int) (has : Bool) : Bool := kind == 1 || kind == 3 || kind == 5 || kind == 6 || (kind == 9 && has)
def hnK (kind : Int) : Bool := kind == 1 || kind == 2 || kind == 10
def r4K (b1 hx b2 b3 has n9 : Bool) : Bool := !b1 || (hx && !b2) || (!hx && !b3) || (has && n9)
def r6K (hn bN bE cl : Bool) : Bool := (hn && !bN) || (!hn && !bE && !(cl && bN))
def r8K (cl bQ bP z : Bool) : Bool := (cl != !bQ) || (cl && !bP) || (!cl && !z)
def r16K (kind : Int) (zt ze : Bool) : Bool := (zt || kind == 5 || kind == 6) && (ze || kind == 5)
theorem z_eq {n : Nat} {z : Bool} (h : (((n : Nat) : Int) == 0) = z) : decide (0 < n) = !z := by
 subst h
 rcases Nat.eq_zero_or_pos n with rfl | h
 ·rfl
 ·have h1 : (((n : Nat) : Int) == 0) = false := by simp; omega
  rw [h1, decide_eq_true h]; rfl
theorem kinds {kind : Int} (h1 : 1 ≤ kind) (h2 : kind ≤ 10) : kind = 1 ∨ kind = 2 ∨ kind = 3 ∨ kind = 4 ∨ kind = 5 ∨ kind = 6 ∨ kind = 7 ∨ kind = 8 ∨ kind = 9 ∨ kind = 10 := by omega
theorem stmtOk_out (id kind : Int) (labels : List ByteArray) (nm proc : ByteArray) (x : E) (has : Bool) (args : List Ar) (th el : List S) (h : kind < 1 ∨ 10 < kind) : stmtOk (.mk id kind labels nm proc x has args th el) = false := by
 rw [stmtOk_eq]
 have : (shp kind (!nm.toList.isEmpty) has).ok = false := by
  unfold shp
  rw [if_neg (by omega), if_neg (by omega), if_neg (by omega), if_neg (by omega), if_neg (by omega), if_neg (by omega), if_neg (by omega), if_neg (by omega)]
 rw [this]; rfl
theorem stmtOk_in (id kind : Int) (labels : List ByteArray) (nm proc : ByteArray) (x : E) (has : Bool) (args : List Ar) (th el : List S) (h1 : 1 ≤ kind) (h2 : kind ≤ 10) :
  stmtOk (.mk id kind labels nm proc x has args th el) = (!r4K (allN labels) (hxK kind has) (mayE 20 x) (noneE x) has (kind != 9) && !r6K (hnK kind) (isNm (bl nm)) nm.toList.isEmpty (kind == 4) && !r8K (kind == 4) proc.toList.isEmpty (isNm (bl proc)) (((args.length : Nat) : Int) == 0) && argsOk args && r16K kind (((th.length : Nat) : Int) == 0) (((el.length : Nat) : Int) == 0)) := by
 rw [stmtOk_eq]
 have hp : proc.toList.isEmpty = true → isNm (bl proc) = false := fun h => by
  rw [toList_emp, decide_eq_true_eq] at h
  exact nm_zero proc h
 simp only [nmOk, xOk]
 generalize isNm (bl proc) = bP at *
 generalize proc.toList.isEmpty = bQ at *
 generalize isNm (bl nm) = bN at *
 generalize nm.toList.isEmpty = bE at *
 generalize allN labels = b1
 generalize mayE 20 x = b2
 generalize noneE x = b3
 generalize (((args.length : Nat) : Int) == 0) = z
 generalize argsOk args = bA
 generalize (((th.length : Nat) : Int) == 0) = zt
 generalize (((el.length : Nat) : Int) == 0) = ze
 rcases kinds h1 h2 with rfl | rfl | rfl | rfl | rfl | rfl | rfl | rfl | rfl | rfl <;> clear h1 h2 <;>
  simp [shp, hxK, hnK, r4K, r6K, r8K, r16K]
 all_goals (cases has <;> cases b1 <;> cases bN <;> cases bE <;> cases bQ <;> simp_all <;> ac_rfl)
set_option maxHeartbeats 4000000 in
set_option maxRecDepth 100000 in
theorem one_any {w : World} {Q : Nat → Prop} {s : S} {cs : List Value} (h : StmtI w Q s cs) (W : World) (hI : In Q w W) :
  Calls Tryz.prog 115 #[.agg cs.toArray] W (MayOk (stmtOk s) W) := by
 obtain ⟨id, kind, labels, nm, proc, x, has, args, th, el, L, lc, x0, x1, x2, X, xn, xc, R, rc, T, tc, U, uc, rfl, rfl, hid, hkind, hnm, hproc, hl, hx, ha, hth, hel⟩ := stmt_open h
 obtain ⟨_, hl1, hl2, _⟩ := slice_len hl
 obtain ⟨_, ha1, ha2, _⟩ := slice_len ha
 obtain ⟨_, ht1, ht2, _⟩ := slice_len hth
 obtain ⟨_, hu1, hu2, _⟩ := slice_len hel
 unfold i64 at hkind
 have HI := Lib.hid hI
 have HA := Lib.hid ha
 have HL := Lib.hid (fun W h1 => rnames_any (W := W) hl h1)
 have HX := Lib.hid (fun W h1 => rMayExpr_any hx W h1)
 have HZ := Lib.hid (fun W => none_any hx W)
 have HN1 : Hid (∀ W, Calls Tryz.prog 114 #[.string nm] W (MayOk (isNm (bl nm)) W)) := Lib.hid (fun W => rName_any nm W (by unfold maxLen; omega))
 have HN2 : Hid (∀ W, Calls Tryz.prog 114 #[.string proc] W (MayOk (isNm (bl proc)) W)) := Lib.hid (fun W => rName_any proc W (by unfold maxLen; omega))
 have HV : Hid (Blk (W.alloc (.cells #[.int .i64 id, .int .i64 kind, .slice L labels.length lc, .string nm, .string proc, .int .i64 x0, .int .i64 x1, .string x2, .slice X xn xc, .bool has, .slice R args.length rc, .slice T th.length tc, .slice U el.length uc] 49)) W.heap.size 49 #[.int .i64 id, .int .i64 kind, .slice L labels.length lc, .string nm, .string proc, .int .i64 x0, .int .i64 x1, .string x2, .slice X xn xc, .bool has, .slice R args.length rc, .slice T th.length tc, .slice U el.length uc]) := Lib.hid (Blk.new _ _ _)
 have HB0 : Hid (Below W.heap.size W (W.alloc (.cells #[.int .i64 id, .int .i64 kind, .slice L labels.length lc, .string nm, .string proc, .int .i64 x0, .int .i64 x1, .string x2, .slice X xn xc, .bool has, .slice R args.length rc, .slice T th.length tc, .slice U el.length uc] 49))) := Lib.hid (below_box _)
 clear hl hx ha hth hel h hI
 by_cases hout : kind < 1 ∨ 10 < kind
 ·have HM := Lib.hid (stmtOk_out id kind labels nm proc x has args th el hout)
  have e1 : (kind == 1) = false := by simp; omega
  have e2 : (kind == 2) = false := by simp; omega
  have e3 : (kind == 3) = false := by simp; omega
  have e4 : (kind == 4) = false := by simp; omega
  have e5 : (kind == 5) = false := by simp; omega
  have e6 : (kind == 6) = false := by simp; omega
  have e9 : (kind == 9) = false := by simp; omega
  have e10 : (kind == 10) = false := by simp; omega
  rcases hout with hout | hout
  all_goals
   go_enter Tryz.func115, Tryz.ntmps115
   go_wp2_with fail
   go_ret
   exact ⟨ret_bool HM.out.symm, HB0.out⟩
 ·have hk1 : 1 ≤ kind := by omega
  have hk2 : kind ≤ 10 := by omega
  have HM := Lib.hid (stmtOk_in id kind labels nm proc x has args th el hk1 hk2)
  clear hout
  go_enter Tryz.func115, Tryz.ntmps115
  go_upto_region 1 with fail
  generalize World.alloc _ _ = V at HV HB0 ⊢
  generalize W.heap.size = b at HV ⊢
  have q0 : V.cell? ⟨b, 0, none⟩ = some (.int .i64 id) := by rw [HV.out.cell]; rfl
  have q1 : V.cell? ⟨b, 1, none⟩ = some (.int .i64 kind) := by rw [HV.out.cell]; rfl
  have q9 : V.cell? ⟨b, 9, none⟩ = some (.bool has) := by rw [HV.out.cell]; rfl
  have hbl := HV.out.lt
  go_cut [3] from 8 to 34 (fun s wx => s = .bool (hxK kind has) ∧ wx = V)
  case first =>
   rcases kinds hk1 hk2 with rfl | rfl | rfl | rfl | rfl | rfl | rfl | rfl | rfl | rfl
   all_goals
    go_wp2_with fail
    go_meet
    exact ⟨rfl, rfl⟩
  case rest =>
   obtain ⟨rfl, rfl⟩ := hcut
   go_upto_region 2 with fail
   go_cut [4] from 35 to 47 (fun s wx => s = .bool (hnK kind) ∧ wx = wc)
   case first =>
    rcases kinds hk1 hk2 with rfl | rfl | rfl | rfl | rfl | rfl | rfl | rfl | rfl | rfl
    all_goals
     go_wp2_with fail
     go_meet
     exact ⟨rfl, rfl⟩
   case rest =>
    obtain ⟨rfl, rfl⟩ := hcut
    go_upto_region 3 with fail
    go_cut [5] from 48 to 50 (fun s wx => s = .bool (kind == 4) ∧ wx = wc)
    case first =>
     go_wp2_with fail
     go_meet
     exact ⟨rfl, rfl⟩
    case rest =>
     obtain ⟨rfl, rfl⟩ := hcut
     have HVc := HV
     generalize hxK kind has = hx at HM ⊢
     generalize hnK kind = hn at HM ⊢
     generalize (kind == 4) = cl at HM ⊢
     obtain ⟨n9, e9⟩ : ∃ b, (kind != 9) = b := ⟨_, rfl⟩
     rw [e9] at HM
     generalize allN labels = b1 at HM HL
     generalize mayE 20 x = b2 at HM HX
     generalize noneE x = b3 at HM HZ
     generalize isNm (bl nm) = bN at HM HN1
     generalize isNm (bl proc) = bP at HM HN2
     have HIv := Lib.hid (HI.out.on HB0.out)
     have c1 : ¬ kind < 1 := by omega
     have c2 : ¬ 10 < kind := by omega
     have q2 : wc.cell? ⟨b, 2, none⟩ = some (.slice L labels.length lc) := by rw [HV.out.cell]; rfl
     have q5 : wc.cell? ⟨b, 5, none⟩ = some (.int .i64 x0) := by rw [HV.out.cell]; rfl
     have q6 : wc.cell? ⟨b, 6, none⟩ = some (.int .i64 x1) := by rw [HV.out.cell]; rfl
     have q7 : wc.cell? ⟨b, 7, none⟩ = some (.string x2) := by rw [HV.out.cell]; rfl
     have q8 : wc.cell? ⟨b, 8, none⟩ = some (.slice X xn xc) := by rw [HV.out.cell]; rfl
     go_upto_region 4 with fail
     go_cut [92] from 51 to 91 (fun s wx => s = .bool (r4K b1 hx b2 b3 has n9) ∧ Hid (Below wc.heap.size wc wx))
     case first =>
      clear HM HN1 HN2 HA
      cases b1 with
      | false =>
       go_wp2_with (first
        | (go_at_call 113; (with_reducible refine (HL.out _ HIv.out).mono ?_); rintro e w1 ⟨rfl, hb1⟩; have hc1 := (bcell hb1).1; have hz1 : b < w1.heap.size := Nat.lt_of_lt_of_le hbl hb1.size; have HB1 := Lib.hid hb1; clear hb1)
        | (go_at_call 100; (with_reducible refine (HX.out _ (HIv.out.on HB1.out)).mono ?_); rintro e w2 ⟨rfl, hb2⟩; have hc2 := (bcell hb2).1; have HB2 := Lib.hid (below_step HB1.out hb2); clear hb2)
        | (go_at_call 154; (with_reducible refine (HZ.out _).mono ?_); rintro e w2 ⟨rfl, hb2⟩; have hc2 := (bcell hb2).1; have HB2 := Lib.hid (below_step HB1.out hb2); clear hb2))
       go_meet
       first
        | exact ⟨rfl, HB2⟩
        | exact ⟨rfl, HB1⟩
      | true =>
       cases hx with
       | false =>
        cases b3 with
        | false =>
         go_wp2_with (first
          | (go_at_call 113; (with_reducible refine (HL.out _ HIv.out).mono ?_); rintro e w1 ⟨rfl, hb1⟩; have hc1 := (bcell hb1).1; have hz1 : b < w1.heap.size := Nat.lt_of_lt_of_le hbl hb1.size; have HB1 := Lib.hid hb1; clear hb1)
          | (go_at_call 100; (with_reducible refine (HX.out _ (HIv.out.on HB1.out)).mono ?_); rintro e w2 ⟨rfl, hb2⟩; have hc2 := (bcell hb2).1; have HB2 := Lib.hid (below_step HB1.out hb2); clear hb2)
          | (go_at_call 154; (with_reducible refine (HZ.out _).mono ?_); rintro e w2 ⟨rfl, hb2⟩; have hc2 := (bcell hb2).1; have HB2 := Lib.hid (below_step HB1.out hb2); clear hb2))
         go_meet
         first
          | exact ⟨rfl, HB2⟩
          | exact ⟨rfl, HB1⟩
        | true =>
         cases has with
         | false =>
          go_wp2_with (first
           | (go_at_call 113; (with_reducible refine (HL.out _ HIv.out).mono ?_); rintro e w1 ⟨rfl, hb1⟩; have hc1 := (bcell hb1).1; have hz1 : b < w1.heap.size := Nat.lt_of_lt_of_le hbl hb1.size; have HB1 := Lib.hid hb1; clear hb1)
           | (go_at_call 100; (with_reducible refine (HX.out _ (HIv.out.on HB1.out)).mono ?_); rintro e w2 ⟨rfl, hb2⟩; have hc2 := (bcell hb2).1; have HB2 := Lib.hid (below_step HB1.out hb2); clear hb2)
           | (go_at_call 154; (with_reducible refine (HZ.out _).mono ?_); rintro e w2 ⟨rfl, hb2⟩; have hc2 := (bcell hb2).1; have HB2 := Lib.hid (below_step HB1.out hb2); clear hb2))
          go_meet
          first
           | exact ⟨rfl, HB2⟩
           | exact ⟨rfl, HB1⟩
         | true =>
          cases n9 with
          | false =>
           go_wp2_with (first
            | (go_at_call 113; (with_reducible refine (HL.out _ HIv.out).mono ?_); rintro e w1 ⟨rfl, hb1⟩; have hc1 := (bcell hb1).1; have hz1 : b < w1.heap.size := Nat.lt_of_lt_of_le hbl hb1.size; have HB1 := Lib.hid hb1; clear hb1)
            | (go_at_call 100; (with_reducible refine (HX.out _ (HIv.out.on HB1.out)).mono ?_); rintro e w2 ⟨rfl, hb2⟩; have hc2 := (bcell hb2).1; have HB2 := Lib.hid (below_step HB1.out hb2); clear hb2)
            | (go_at_call 154; (with_reducible refine (HZ.out _).mono ?_); rintro e w2 ⟨rfl, hb2⟩; have hc2 := (bcell hb2).1; have HB2 := Lib.hid (below_step HB1.out hb2); clear hb2))
           go_meet
           first
            | exact ⟨rfl, HB2⟩
            | exact ⟨rfl, HB1⟩
          | true =>
           go_wp2_with (first
            | (go_at_call 113; (with_reducible refine (HL.out _ HIv.out).mono ?_); rintro e w1 ⟨rfl, hb1⟩; have hc1 := (bcell hb1).1; have hz1 : b < w1.heap.size := Nat.lt_of_lt_of_le hbl hb1.size; have HB1 := Lib.hid hb1; clear hb1)
            | (go_at_call 100; (with_reducible refine (HX.out _ (HIv.out.on HB1.out)).mono ?_); rintro e w2 ⟨rfl, hb2⟩; have hc2 := (bcell hb2).1; have HB2 := Lib.hid (below_step HB1.out hb2); clear hb2)
            | (go_at_call 154; (with_reducible refine (HZ.out _).mono ?_); rintro e w2 ⟨rfl, hb2⟩; have hc2 := (bcell hb2).1; have HB2 := Lib.hid (below_step HB1.out hb2); clear hb2))
           go_meet
           first
            | exact ⟨rfl, HB2⟩
            | exact ⟨rfl, HB1⟩
       | true =>
        cases b2 with
        | false =>
         go_wp2_with (first
          | (go_at_call 113; (with_reducible refine (HL.out _ HIv.out).mono ?_); rintro e w1 ⟨rfl, hb1⟩; have hc1 := (bcell hb1).1; have hz1 : b < w1.heap.size := Nat.lt_of_lt_of_le hbl hb1.size; have HB1 := Lib.hid hb1; clear hb1)
          | (go_at_call 100; (with_reducible refine (HX.out _ (HIv.out.on HB1.out)).mono ?_); rintro e w2 ⟨rfl, hb2⟩; have hc2 := (bcell hb2).1; have HB2 := Lib.hid (below_step HB1.out hb2); clear hb2)
          | (go_at_call 154; (with_reducible refine (HZ.out _).mono ?_); rintro e w2 ⟨rfl, hb2⟩; have hc2 := (bcell hb2).1; have HB2 := Lib.hid (below_step HB1.out hb2); clear hb2))
         go_meet
         first
          | exact ⟨rfl, HB2⟩
          | exact ⟨rfl, HB1⟩
        | true =>
         cases has with
         | false =>
          go_wp2_with (first
           | (go_at_call 113; (with_reducible refine (HL.out _ HIv.out).mono ?_); rintro e w1 ⟨rfl, hb1⟩; have hc1 := (bcell hb1).1; have hz1 : b < w1.heap.size := Nat.lt_of_lt_of_le hbl hb1.size; have HB1 := Lib.hid hb1; clear hb1)
           | (go_at_call 100; (with_reducible refine (HX.out _ (HIv.out.on HB1.out)).mono ?_); rintro e w2 ⟨rfl, hb2⟩; have hc2 := (bcell hb2).1; have HB2 := Lib.hid (below_step HB1.out hb2); clear hb2)
           | (go_at_call 154; (with_reducible refine (HZ.out _).mono ?_); rintro e w2 ⟨rfl, hb2⟩; have hc2 := (bcell hb2).1; have HB2 := Lib.hid (below_step HB1.out hb2); clear hb2))
          go_meet
          first
           | exact ⟨rfl, HB2⟩
           | exact ⟨rfl, HB1⟩
         | true =>
          cases n9 with
          | false =>
           go_wp2_with (first
            | (go_at_call 113; (with_reducible refine (HL.out _ HIv.out).mono ?_); rintro e w1 ⟨rfl, hb1⟩; have hc1 := (bcell hb1).1; have hz1 : b < w1.heap.size := Nat.lt_of_lt_of_le hbl hb1.size; have HB1 := Lib.hid hb1; clear hb1)
            | (go_at_call 100; (with_reducible refine (HX.out _ (HIv.out.on HB1.out)).mono ?_); rintro e w2 ⟨rfl, hb2⟩; have hc2 := (bcell hb2).1; have HB2 := Lib.hid (below_step HB1.out hb2); clear hb2)
            | (go_at_call 154; (with_reducible refine (HZ.out _).mono ?_); rintro e w2 ⟨rfl, hb2⟩; have hc2 := (bcell hb2).1; have HB2 := Lib.hid (below_step HB1.out hb2); clear hb2))
           go_meet
           first
            | exact ⟨rfl, HB2⟩
            | exact ⟨rfl, HB1⟩
          | true =>
           go_wp2_with (first
            | (go_at_call 113; (with_reducible refine (HL.out _ HIv.out).mono ?_); rintro e w1 ⟨rfl, hb1⟩; have hc1 := (bcell hb1).1; have hz1 : b < w1.heap.size := Nat.lt_of_lt_of_le hbl hb1.size; have HB1 := Lib.hid hb1; clear hb1)
            | (go_at_call 100; (with_reducible refine (HX.out _ (HIv.out.on HB1.out)).mono ?_); rintro e w2 ⟨rfl, hb2⟩; have hc2 := (bcell hb2).1; have HB2 := Lib.hid (below_step HB1.out hb2); clear hb2)
            | (go_at_call 154; (with_reducible refine (HZ.out _).mono ?_); rintro e w2 ⟨rfl, hb2⟩; have hc2 := (bcell hb2).1; have HB2 := Lib.hid (below_step HB1.out hb2); clear hb2))
           go_meet
           first
            | exact ⟨rfl, HB2⟩
            | exact ⟨rfl, HB1⟩
     case rest =>
      obtain ⟨rfl, HBc⟩ := hcut
      generalize r4K b1 hx b2 b3 has n9 = r4 at HM ⊢
      have HV4 := Lib.hid (HV.out.below HBc.out hbl)
      have HB4 := Lib.hid (below_step HB0.out HBc.out)
      clear HVc HV HB0 HIv q0 q1 q9 q2 q5 q6 q7 q8 hbl HBc HL HX HZ c1 c2
      have HI4 := Lib.hid (HI.out.on HB4.out)
      cases r4 with
      | true =>
       go_wp2_with fail
       go_ret
       exact ⟨ret_bool (by rw [HM.out]; rfl), HB4.out⟩
      | false =>
       rw [Bool.not_false, Bool.true_and] at HM
       go_upto_region 6 with fail
       obtain ⟨bE, eE⟩ : ∃ c, nm.toList.isEmpty = c := ⟨_, rfl⟩
       have hbn : (nm.toList != []) = !bE := by rw [toList_bne, ← toList_emp, eE]
       rw [eE] at HM
       have hbl := HV4.out.lt
       have q3 : wc.cell? ⟨b, 3, none⟩ = some (.string nm) := by rw [HV4.out.cell]; rfl
       go_cut [117] from 93 to 116 (fun s wx => s = .bool (r6K hn bN bE cl) ∧ Hid (Below wc.heap.size wc wx))
       case first =>
        clear HM HN2 HA
        cases hn with
        | false =>
         cases bE with
         | false =>
          cases cl with
          | false =>
           cases bN with
           | false =>
            (try rw [Bool.not_false] at hbn)
            (try rw [Bool.not_true] at hbn)
            go_wp2_with (go_at_call 114; (with_reducible refine (HN1.out _).mono ?_); rintro e w1 ⟨rfl, hb1⟩; have HB1 := Lib.hid hb1; clear hb1)
            go_meet
            first
             | exact ⟨rfl, HB1⟩
             | exact ⟨rfl, Lib.hid (Below.refl _ _)⟩
           | true =>
            (try rw [Bool.not_false] at hbn)
            (try rw [Bool.not_true] at hbn)
            go_wp2_with (go_at_call 114; (with_reducible refine (HN1.out _).mono ?_); rintro e w1 ⟨rfl, hb1⟩; have HB1 := Lib.hid hb1; clear hb1)
            go_meet
            first
             | exact ⟨rfl, HB1⟩
             | exact ⟨rfl, Lib.hid (Below.refl _ _)⟩
          | true =>
           cases bN with
           | false =>
            (try rw [Bool.not_false] at hbn)
            (try rw [Bool.not_true] at hbn)
            go_wp2_with (go_at_call 114; (with_reducible refine (HN1.out _).mono ?_); rintro e w1 ⟨rfl, hb1⟩; have HB1 := Lib.hid hb1; clear hb1)
            go_meet
            first
             | exact ⟨rfl, HB1⟩
             | exact ⟨rfl, Lib.hid (Below.refl _ _)⟩
           | true =>
            (try rw [Bool.not_false] at hbn)
            (try rw [Bool.not_true] at hbn)
            go_wp2_with (go_at_call 114; (with_reducible refine (HN1.out _).mono ?_); rintro e w1 ⟨rfl, hb1⟩; have HB1 := Lib.hid hb1; clear hb1)
            go_meet
            first
             | exact ⟨rfl, HB1⟩
             | exact ⟨rfl, Lib.hid (Below.refl _ _)⟩
         | true =>
          cases cl with
          | false =>
           cases bN with
           | false =>
            (try rw [Bool.not_false] at hbn)
            (try rw [Bool.not_true] at hbn)
            go_wp2_with (go_at_call 114; (with_reducible refine (HN1.out _).mono ?_); rintro e w1 ⟨rfl, hb1⟩; have HB1 := Lib.hid hb1; clear hb1)
            go_meet
            first
             | exact ⟨rfl, HB1⟩
             | exact ⟨rfl, Lib.hid (Below.refl _ _)⟩
           | true =>
            (try rw [Bool.not_false] at hbn)
            (try rw [Bool.not_true] at hbn)
            go_wp2_with (go_at_call 114; (with_reducible refine (HN1.out _).mono ?_); rintro e w1 ⟨rfl, hb1⟩; have HB1 := Lib.hid hb1; clear hb1)
            go_meet
            first
             | exact ⟨rfl, HB1⟩
             | exact ⟨rfl, Lib.hid (Below.refl _ _)⟩
          | true =>
           cases bN with
           | false =>
            (try rw [Bool.not_false] at hbn)
            (try rw [Bool.not_true] at hbn)
            go_wp2_with (go_at_call 114; (with_reducible refine (HN1.out _).mono ?_); rintro e w1 ⟨rfl, hb1⟩; have HB1 := Lib.hid hb1; clear hb1)
            go_meet
            first
             | exact ⟨rfl, HB1⟩
             | exact ⟨rfl, Lib.hid (Below.refl _ _)⟩
           | true =>
            (try rw [Bool.not_false] at hbn)
            (try rw [Bool.not_true] at hbn)
            go_wp2_with (go_at_call 114; (with_reducible refine (HN1.out _).mono ?_); rintro e w1 ⟨rfl, hb1⟩; have HB1 := Lib.hid hb1; clear hb1)
            go_meet
            first
             | exact ⟨rfl, HB1⟩
             | exact ⟨rfl, Lib.hid (Below.refl _ _)⟩
        | true =>
         cases bE with
         | false =>
          cases cl with
          | false =>
           cases bN with
           | false =>
            (try rw [Bool.not_false] at hbn)
            (try rw [Bool.not_true] at hbn)
            go_wp2_with (go_at_call 114; (with_reducible refine (HN1.out _).mono ?_); rintro e w1 ⟨rfl, hb1⟩; have HB1 := Lib.hid hb1; clear hb1)
            go_meet
            first
             | exact ⟨rfl, HB1⟩
             | exact ⟨rfl, Lib.hid (Below.refl _ _)⟩
           | true =>
            (try rw [Bool.not_false] at hbn)
            (try rw [Bool.not_true] at hbn)
            go_wp2_with (go_at_call 114; (with_reducible refine (HN1.out _).mono ?_); rintro e w1 ⟨rfl, hb1⟩; have HB1 := Lib.hid hb1; clear hb1)
            go_meet
            first
             | exact ⟨rfl, HB1⟩
             | exact ⟨rfl, Lib.hid (Below.refl _ _)⟩
          | true =>
           cases bN with
           | false =>
            (try rw [Bool.not_false] at hbn)
            (try rw [Bool.not_true] at hbn)
            go_wp2_with (go_at_call 114; (with_reducible refine (HN1.out _).mono ?_); rintro e w1 ⟨rfl, hb1⟩; have HB1 := Lib.hid hb1; clear hb1)
            go_meet
            first
             | exact ⟨rfl, HB1⟩
             | exact ⟨rfl, Lib.hid (Below.refl _ _)⟩
           | true =>
            (try rw [Bool.not_false] at hbn)
            (try rw [Bool.not_true] at hbn)
            go_wp2_with (go_at_call 114; (with_reducible refine (HN1.out _).mono ?_); rintro e w1 ⟨rfl, hb1⟩; have HB1 := Lib.hid hb1; clear hb1)
            go_meet
            first
             | exact ⟨rfl, HB1⟩
             | exact ⟨rfl, Lib.hid (Below.refl _ _)⟩
         | true =>
          cases cl with
          | false =>
           cases bN with
           | false =>
            (try rw [Bool.not_false] at hbn)
            (try rw [Bool.not_true] at hbn)
            go_wp2_with (go_at_call 114; (with_reducible refine (HN1.out _).mono ?_); rintro e w1 ⟨rfl, hb1⟩; have HB1 := Lib.hid hb1; clear hb1)
            go_meet
            first
             | exact ⟨rfl, HB1⟩
             | exact ⟨rfl, Lib.hid (Below.refl _ _)⟩
           | true =>
            (try rw [Bool.not_false] at hbn)
            (try rw [Bool.not_true] at hbn)
            go_wp2_with (go_at_call 114; (with_reducible refine (HN1.out _).mono ?_); rintro e w1 ⟨rfl, hb1⟩; have HB1 := Lib.hid hb1; clear hb1)
            go_meet
            first
             | exact ⟨rfl, HB1⟩
             | exact ⟨rfl, Lib.hid (Below.refl _ _)⟩
          | true =>
           cases bN with
           | false =>
            (try rw [Bool.not_false] at hbn)
            (try rw [Bool.not_true] at hbn)
            go_wp2_with (go_at_call 114; (with_reducible refine (HN1.out _).mono ?_); rintro e w1 ⟨rfl, hb1⟩; have HB1 := Lib.hid hb1; clear hb1)
            go_meet
            first
             | exact ⟨rfl, HB1⟩
             | exact ⟨rfl, Lib.hid (Below.refl _ _)⟩
           | true =>
            (try rw [Bool.not_false] at hbn)
            (try rw [Bool.not_true] at hbn)
            go_wp2_with (go_at_call 114; (with_reducible refine (HN1.out _).mono ?_); rintro e w1 ⟨rfl, hb1⟩; have HB1 := Lib.hid hb1; clear hb1)
            go_meet
            first
             | exact ⟨rfl, HB1⟩
             | exact ⟨rfl, Lib.hid (Below.refl _ _)⟩
       case rest =>
        obtain ⟨rfl, HBc⟩ := hcut
        clear eE hbn
        generalize r6K hn bN bE cl = r6 at HM ⊢
        have HV6 := Lib.hid (HV4.out.below HBc.out hbl)
        have HB6 := Lib.hid (below_step HB4.out HBc.out)
        have HI6 := Lib.hid (HI.out.on HB6.out)
        clear HV4 HB4 HI4 HBc hbl q3 HN1
        cases r6 with
        | true =>
         go_wp2_with fail
         go_ret
         exact ⟨ret_bool (by rw [HM.out]; rfl), HB6.out⟩
        | false =>
         rw [Bool.not_false, Bool.true_and] at HM
         go_upto_region 8 with fail
         obtain ⟨bQ, eQ⟩ : ∃ c, proc.toList.isEmpty = c := ⟨_, rfl⟩
         have hbq : (proc.toList != []) = !bQ := by rw [toList_bne, ← toList_emp, eQ]
         obtain ⟨z, ez⟩ : ∃ c, (((args.length : Nat) : Int) == 0) = c := ⟨_, rfl⟩
         rw [eQ, ez] at HM
         have hbl := HV6.out.lt
         have q4 : wc.cell? ⟨b, 4, none⟩ = some (.string proc) := by rw [HV6.out.cell]; rfl
         have q7 : wc.cell? ⟨b, 10, none⟩ = some (.slice R args.length rc) := by rw [HV6.out.cell]; rfl
         have HIf : Hid (In Q w wc) := HI6
         go_cut [141] from 118 to 140 (fun s wx => s = .bool (r8K cl bQ bP z) ∧ Hid (Below wc.heap.size wc wx))
         case first =>
          clear HM HA
          cases cl with
          | false =>
           cases bQ with
           | false =>
            cases bP with
            | false =>
             cases z with
             | false =>
              (try rw [Bool.not_false] at hbq)
              (try rw [Bool.not_true] at hbq)
              have hz0 : args.length = 0 ∨ ¬ args.length = 0 := by omega
              have hz1 : ¬ ((args.length : Nat) : Int) = 0 ↔ 0 < args.length := by omega
              go_wp2_with (go_at_call 114; (with_reducible refine (HN2.out _).mono ?_); rintro e w1 ⟨rfl, hb1⟩; have HB1 := Lib.hid hb1; clear hb1)
              all_goals
               go_meet
               first
                | exact ⟨rfl, HB1⟩
                | exact ⟨rfl, Lib.hid (Below.refl _ _)⟩
                | exact ⟨congrArg Value.bool (z_eq ez), HB1⟩
                | exact ⟨congrArg Value.bool (z_eq ez), Lib.hid (Below.refl _ _)⟩
             | true =>
              (try rw [Bool.not_false] at hbq)
              (try rw [Bool.not_true] at hbq)
              have hz0 : args.length = 0 ∨ ¬ args.length = 0 := by omega
              have hz1 : ¬ ((args.length : Nat) : Int) = 0 ↔ 0 < args.length := by omega
              go_wp2_with (go_at_call 114; (with_reducible refine (HN2.out _).mono ?_); rintro e w1 ⟨rfl, hb1⟩; have HB1 := Lib.hid hb1; clear hb1)
              all_goals
               go_meet
               first
                | exact ⟨rfl, HB1⟩
                | exact ⟨rfl, Lib.hid (Below.refl _ _)⟩
                | exact ⟨congrArg Value.bool (z_eq ez), HB1⟩
                | exact ⟨congrArg Value.bool (z_eq ez), Lib.hid (Below.refl _ _)⟩
            | true =>
             cases z with
             | false =>
              (try rw [Bool.not_false] at hbq)
              (try rw [Bool.not_true] at hbq)
              have hz0 : args.length = 0 ∨ ¬ args.length = 0 := by omega
              have hz1 : ¬ ((args.length : Nat) : Int) = 0 ↔ 0 < args.length := by omega
              go_wp2_with (go_at_call 114; (with_reducible refine (HN2.out _).mono ?_); rintro e w1 ⟨rfl, hb1⟩; have HB1 := Lib.hid hb1; clear hb1)
              all_goals
               go_meet
               first
                | exact ⟨rfl, HB1⟩
                | exact ⟨rfl, Lib.hid (Below.refl _ _)⟩
                | exact ⟨congrArg Value.bool (z_eq ez), HB1⟩
                | exact ⟨congrArg Value.bool (z_eq ez), Lib.hid (Below.refl _ _)⟩
             | true =>
              (try rw [Bool.not_false] at hbq)
              (try rw [Bool.not_true] at hbq)
              have hz0 : args.length = 0 ∨ ¬ args.length = 0 := by omega
              have hz1 : ¬ ((args.length : Nat) : Int) = 0 ↔ 0 < args.length := by omega
              go_wp2_with (go_at_call 114; (with_reducible refine (HN2.out _).mono ?_); rintro e w1 ⟨rfl, hb1⟩; have HB1 := Lib.hid hb1; clear hb1)
              all_goals
               go_meet
               first
                | exact ⟨rfl, HB1⟩
                | exact ⟨rfl, Lib.hid (Below.refl _ _)⟩
                | exact ⟨congrArg Value.bool (z_eq ez), HB1⟩
                | exact ⟨congrArg Value.bool (z_eq ez), Lib.hid (Below.refl _ _)⟩
           | true =>
            cases bP with
            | false =>
             cases z with
             | false =>
              (try rw [Bool.not_false] at hbq)
              (try rw [Bool.not_true] at hbq)
              have hz0 : args.length = 0 ∨ ¬ args.length = 0 := by omega
              have hz1 : ¬ ((args.length : Nat) : Int) = 0 ↔ 0 < args.length := by omega
              go_wp2_with (go_at_call 114; (with_reducible refine (HN2.out _).mono ?_); rintro e w1 ⟨rfl, hb1⟩; have HB1 := Lib.hid hb1; clear hb1)
              all_goals
               go_meet
               first
                | exact ⟨rfl, HB1⟩
                | exact ⟨rfl, Lib.hid (Below.refl _ _)⟩
                | exact ⟨congrArg Value.bool (z_eq ez), HB1⟩
                | exact ⟨congrArg Value.bool (z_eq ez), Lib.hid (Below.refl _ _)⟩
             | true =>
              (try rw [Bool.not_false] at hbq)
              (try rw [Bool.not_true] at hbq)
              have hz0 : args.length = 0 ∨ ¬ args.length = 0 := by omega
              have hz1 : ¬ ((args.length : Nat) : Int) = 0 ↔ 0 < args.length := by omega
              go_wp2_with (go_at_call 114; (with_reducible refine (HN2.out _).mono ?_); rintro e w1 ⟨rfl, hb1⟩; have HB1 := Lib.hid hb1; clear hb1)
              all_goals
               go_meet
               first
                | exact ⟨rfl, HB1⟩
                | exact ⟨rfl, Lib.hid (Below.refl _ _)⟩
                | exact ⟨congrArg Value.bool (z_eq ez), HB1⟩
                | exact ⟨congrArg Value.bool (z_eq ez), Lib.hid (Below.refl _ _)⟩
            | true =>
             cases z with
             | false =>
              (try rw [Bool.not_false] at hbq)
              (try rw [Bool.not_true] at hbq)
              have hz0 : args.length = 0 ∨ ¬ args.length = 0 := by omega
              have hz1 : ¬ ((args.length : Nat) : Int) = 0 ↔ 0 < args.length := by omega
              go_wp2_with (go_at_call 114; (with_reducible refine (HN2.out _).mono ?_); rintro e w1 ⟨rfl, hb1⟩; have HB1 := Lib.hid hb1; clear hb1)
              all_goals
               go_meet
               first
                | exact ⟨rfl, HB1⟩
                | exact ⟨rfl, Lib.hid (Below.refl _ _)⟩
                | exact ⟨congrArg Value.bool (z_eq ez), HB1⟩
                | exact ⟨congrArg Value.bool (z_eq ez), Lib.hid (Below.refl _ _)⟩
             | true =>
              (try rw [Bool.not_false] at hbq)
              (try rw [Bool.not_true] at hbq)
              have hz0 : args.length = 0 ∨ ¬ args.length = 0 := by omega
              have hz1 : ¬ ((args.length : Nat) : Int) = 0 ↔ 0 < args.length := by omega
              go_wp2_with (go_at_call 114; (with_reducible refine (HN2.out _).mono ?_); rintro e w1 ⟨rfl, hb1⟩; have HB1 := Lib.hid hb1; clear hb1)
              all_goals
               go_meet
               first
                | exact ⟨rfl, HB1⟩
                | exact ⟨rfl, Lib.hid (Below.refl _ _)⟩
                | exact ⟨congrArg Value.bool (z_eq ez), HB1⟩
                | exact ⟨congrArg Value.bool (z_eq ez), Lib.hid (Below.refl _ _)⟩
          | true =>
           cases bQ with
           | false =>
            cases bP with
            | false =>
             cases z with
             | false =>
              (try rw [Bool.not_false] at hbq)
              (try rw [Bool.not_true] at hbq)
              have hz0 : args.length = 0 ∨ ¬ args.length = 0 := by omega
              have hz1 : ¬ ((args.length : Nat) : Int) = 0 ↔ 0 < args.length := by omega
              go_wp2_with (go_at_call 114; (with_reducible refine (HN2.out _).mono ?_); rintro e w1 ⟨rfl, hb1⟩; have HB1 := Lib.hid hb1; clear hb1)
              all_goals
               go_meet
               first
                | exact ⟨rfl, HB1⟩
                | exact ⟨rfl, Lib.hid (Below.refl _ _)⟩
                | exact ⟨congrArg Value.bool (z_eq ez), HB1⟩
                | exact ⟨congrArg Value.bool (z_eq ez), Lib.hid (Below.refl _ _)⟩
             | true =>
              (try rw [Bool.not_false] at hbq)
              (try rw [Bool.not_true] at hbq)
              have hz0 : args.length = 0 ∨ ¬ args.length = 0 := by omega
              have hz1 : ¬ ((args.length : Nat) : Int) = 0 ↔ 0 < args.length := by omega
              go_wp2_with (go_at_call 114; (with_reducible refine (HN2.out _).mono ?_); rintro e w1 ⟨rfl, hb1⟩; have HB1 := Lib.hid hb1; clear hb1)
              all_goals
               go_meet
               first
                | exact ⟨rfl, HB1⟩
                | exact ⟨rfl, Lib.hid (Below.refl _ _)⟩
                | exact ⟨congrArg Value.bool (z_eq ez), HB1⟩
                | exact ⟨congrArg Value.bool (z_eq ez), Lib.hid (Below.refl _ _)⟩
            | true =>
             cases z with
             | false =>
              (try rw [Bool.not_false] at hbq)
              (try rw [Bool.not_true] at hbq)
              have hz0 : args.length = 0 ∨ ¬ args.length = 0 := by omega
              have hz1 : ¬ ((args.length : Nat) : Int) = 0 ↔ 0 < args.length := by omega
              go_wp2_with (go_at_call 114; (with_reducible refine (HN2.out _).mono ?_); rintro e w1 ⟨rfl, hb1⟩; have HB1 := Lib.hid hb1; clear hb1)
              all_goals
               go_meet
               first
                | exact ⟨rfl, HB1⟩
                | exact ⟨rfl, Lib.hid (Below.refl _ _)⟩
                | exact ⟨congrArg Value.bool (z_eq ez), HB1⟩
                | exact ⟨congrArg Value.bool (z_eq ez), Lib.hid (Below.refl _ _)⟩
             | true =>
              (try rw [Bool.not_false] at hbq)
              (try rw [Bool.not_true] at hbq)
              have hz0 : args.length = 0 ∨ ¬ args.length = 0 := by omega
              have hz1 : ¬ ((args.length : Nat) : Int) = 0 ↔ 0 < args.length := by omega
              go_wp2_with (go_at_call 114; (with_reducible refine (HN2.out _).mono ?_); rintro e w1 ⟨rfl, hb1⟩; have HB1 := Lib.hid hb1; clear hb1)
              all_goals
               go_meet
               first
                | exact ⟨rfl, HB1⟩
                | exact ⟨rfl, Lib.hid (Below.refl _ _)⟩
                | exact ⟨congrArg Value.bool (z_eq ez), HB1⟩
                | exact ⟨congrArg Value.bool (z_eq ez), Lib.hid (Below.refl _ _)⟩
           | true =>
            cases bP with
            | false =>
             cases z with
             | false =>
              (try rw [Bool.not_false] at hbq)
              (try rw [Bool.not_true] at hbq)
              have hz0 : args.length = 0 ∨ ¬ args.length = 0 := by omega
              have hz1 : ¬ ((args.length : Nat) : Int) = 0 ↔ 0 < args.length := by omega
              go_wp2_with (go_at_call 114; (with_reducible refine (HN2.out _).mono ?_); rintro e w1 ⟨rfl, hb1⟩; have HB1 := Lib.hid hb1; clear hb1)
              all_goals
               go_meet
               first
                | exact ⟨rfl, HB1⟩
                | exact ⟨rfl, Lib.hid (Below.refl _ _)⟩
                | exact ⟨congrArg Value.bool (z_eq ez), HB1⟩
                | exact ⟨congrArg Value.bool (z_eq ez), Lib.hid (Below.refl _ _)⟩
             | true =>
              (try rw [Bool.not_false] at hbq)
              (try rw [Bool.not_true] at hbq)
              have hz0 : args.length = 0 ∨ ¬ args.length = 0 := by omega
              have hz1 : ¬ ((args.length : Nat) : Int) = 0 ↔ 0 < args.length := by omega
              go_wp2_with (go_at_call 114; (with_reducible refine (HN2.out _).mono ?_); rintro e w1 ⟨rfl, hb1⟩; have HB1 := Lib.hid hb1; clear hb1)
              all_goals
               go_meet
               first
                | exact ⟨rfl, HB1⟩
                | exact ⟨rfl, Lib.hid (Below.refl _ _)⟩
                | exact ⟨congrArg Value.bool (z_eq ez), HB1⟩
                | exact ⟨congrArg Value.bool (z_eq ez), Lib.hid (Below.refl _ _)⟩
            | true =>
             cases z with
             | false =>
              (try rw [Bool.not_false] at hbq)
              (try rw [Bool.not_true] at hbq)
              have hz0 : args.length = 0 ∨ ¬ args.length = 0 := by omega
              have hz1 : ¬ ((args.length : Nat) : Int) = 0 ↔ 0 < args.length := by omega
              go_wp2_with (go_at_call 114; (with_reducible refine (HN2.out _).mono ?_); rintro e w1 ⟨rfl, hb1⟩; have HB1 := Lib.hid hb1; clear hb1)
              all_goals
               go_meet
               first
                | exact ⟨rfl, HB1⟩
                | exact ⟨rfl, Lib.hid (Below.refl _ _)⟩
                | exact ⟨congrArg Value.bool (z_eq ez), HB1⟩
                | exact ⟨congrArg Value.bool (z_eq ez), Lib.hid (Below.refl _ _)⟩
             | true =>
              (try rw [Bool.not_false] at hbq)
              (try rw [Bool.not_true] at hbq)
              have hz0 : args.length = 0 ∨ ¬ args.length = 0 := by omega
              have hz1 : ¬ ((args.length : Nat) : Int) = 0 ↔ 0 < args.length := by omega
              go_wp2_with (go_at_call 114; (with_reducible refine (HN2.out _).mono ?_); rintro e w1 ⟨rfl, hb1⟩; have HB1 := Lib.hid hb1; clear hb1)
              all_goals
               go_meet
               first
                | exact ⟨rfl, HB1⟩
                | exact ⟨rfl, Lib.hid (Below.refl _ _)⟩
                | exact ⟨congrArg Value.bool (z_eq ez), HB1⟩
                | exact ⟨congrArg Value.bool (z_eq ez), Lib.hid (Below.refl _ _)⟩
         case rest =>
          obtain ⟨rfl, HBc⟩ := hcut
          clear eQ hbq ez
          generalize r8K cl bQ bP z = r8 at HM ⊢
          have HV8 := Lib.hid (HV6.out.below HBc.out hbl)
          have HB8 := Lib.hid (below_step HB6.out HBc.out)
          have HI8 := Lib.hid (HI.out.on HB8.out)
          clear HV6 HB6 HI6 HIf HBc hbl q4 q7 HN2
          cases r8 with
          | true =>
           go_wp2_with fail
           go_ret
           exact ⟨ret_bool (by rw [HM.out]; rfl), HB8.out⟩
          | false =>
           rw [Bool.not_false, Bool.true_and] at HM
           have hbl := HV8.out.lt
           have q7 : wc.cell? ⟨b, 10, none⟩ = some (.slice R args.length rc) := by rw [HV8.out.cell]; rfl
           go_wp2_with fail
           clear q7
           have HAr := Lib.hid (show argsOk args = args.all argOk from rfl)
           go_loopw [145] (fun i wr => ∃ k : Nat, k ≤ args.length ∧ i = .int .i64 k ∧ Hid ((args.drop k).all argOk = argsOk args) ∧ Hid (Below wc.heap.size wc wr)) (fun i _ => args.length - (intOf i).toNat)
           case atStart => exact ⟨0, Nat.zero_le _, rfl, Lib.hid (by rw [List.drop_zero]; rfl), Lib.hid (Below.refl _ _)⟩
           case round =>
            obtain ⟨k, hk, rfl, HW, HR⟩ := hrel
            by_cases hlt : k < args.length
            ·obtain ⟨a, o1, n1, s1, A1, l1, c1, rfl, _, ⟨p0, p1, p2, p3, p4, p5, _⟩, hs, hx⟩ := arg_at HA.out (HI8.out.on HR.out) hlt
             have HN : Hid (argsOk args = (argOk args[k] && (args.drop (k + 1)).all argOk)) := Lib.hid (by rw [← all_drop (f := argOk) hlt, HW.out])
             have HIr := Lib.hid (HI8.out.on HR.out)
             obtain ⟨y, hy⟩ : ∃ y, y = args[k] := ⟨_, rfl⟩
             rw [← hy] at p0 p1 hs hx HN
             clear hy
             obtain ⟨xr, xn, xx⟩ := y
             simp only at p0 p1 hs hx
             have HC := Lib.hid (fun V h1 => rarg_any (W := V) (xr := xr) hs hx h1)
             clear hx
             cases hv : argOk ⟨xr, xn, xx⟩ with
             | false =>
              rw [hv] at HC HN
              clear hv
              go_wp2_with (go_at_call 155; refine (HC.out _ (HIr.out.alloc _)).mono ?_; rintro e w2 ⟨rfl, hb2⟩)
              go_ret
              exact ⟨ret_bool (by rw [HM.out, HN.out]; rfl), below_step HB8.out (below_step HR.out (below_new hb2))⟩
             | true =>
              rw [hv] at HC HN
              clear hv
              go_wp2_with (go_at_call 155; refine (HC.out _ (HIr.out.alloc _)).mono ?_; rintro e w2 ⟨rfl, hb2⟩)
              go_roundw
              case rel => exact ⟨k + 1, by omega, by go_num, Lib.hid (by rw [HN.out]; rfl), Lib.hid (below_step HR.out (below_new hb2))⟩
              case measure => simp [intOf]; omega
            ·have HN : Hid (argsOk args = true) := Lib.hid (by
              have h1 := HW.out
              rw [List.drop_of_length_le (by omega), List.all_nil] at h1
              exact h1.symm)
             have HVr := Lib.hid (HV8.out.below HR.out hbl)
             have q1 : wr.cell? ⟨b, 1, none⟩ = some (.int .i64 kind) := by rw [HVr.out.cell]; rfl
             have q11 : wr.cell? ⟨b, 11, none⟩ = some (.slice T th.length tc) := by rw [HVr.out.cell]; rfl
             have q12 : wr.cell? ⟨b, 12, none⟩ = some (.slice U el.length uc) := by rw [HVr.out.cell]; rfl
             have HBr := Lib.hid (below_step HB8.out HR.out)
             have HR16 : Hid (r16K kind (((th.length : Nat) : Int) == 0) (((el.length : Nat) : Int) == 0) = (((((th.length : Nat) : Int) == 0) || kind == 5 || kind == 6) && ((((el.length : Nat) : Int) == 0) || kind == 5))) := Lib.hid rfl
             rw [HN.out, Bool.true_and, HR16.out] at HM
             clear HR16 HN HW HR HAr HI8 HV8 HB8 HA e9
             cases e5 : (kind == 5) <;> cases e6 : (kind == 6) <;> cases et : (((th.length : Nat) : Int) == 0) <;> cases ee : (((el.length : Nat) : Int) == 0)
             all_goals
              rw [e5, e6, et, ee] at HM
              go_wp2_with fail
              go_ret
              exact ⟨ret_bool HM.out.symm, HBr.out⟩
end Go.Proofs.YtimejkbmfbjomaaGreat
