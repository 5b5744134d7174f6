/- Texts, merged by a program; only what is used. -/
import Derived.Test.YtimejkbmfbjomaaGreatK1
import Derived.Test.YtimejkbmfbjomaaGreatK2
import Derived.Test.YtimejkbmfbjomaaGreatK3
import Derived.Test.YtimejkbmfbjomaaGreatK4
import Derived.Test.YtimejkbmfbjomaaGreatK5
import Derived.Test.YtimejkbmfbjomaaGreatK6
import Derived.Test.YtimejkbmfbjomaaGreatK7
import Derived.Test.YtimejkbmfbjomaaGreatK8
import Derived.Test.YtimejkbmfbjomaaGreatK9
import Derived.Test.YtimejkbmfbjomaaGreatK10
import Derived.Test.YtimejkbmfbjomaaGreatK11
import Derived.Test.YtimejkbmfbjomaaGreatK12
import Derived.Test.YtimejkbmfbjomaaGreatK13
import Derived.Test.YtimejkbmfbjomaaGreatK14
import Derived.Test.YtimejkbmfbjomaaGreatK15
import Derived.Test.YtimejkbmfbjomaaGreatK16
import Derived.Test.YtimejkbmfbjomaaGreatK17
import Derived.Test.YtimejkbmfbjomaaGreatK18
import Derived.Test.YtimejkbmfbjomaaGreatK19
import Derived.Test.YtimejkbmfbjomaaGreatK20
import Derived.Test.YtimejkbmfbjomaaGreatK21
import Derived.Test.YtimejkbmfbjomaaGreatK22
import Derived.Test.YtimejkbmfbjomaaGreatK23
import Derived.Test.YtimejkbmfbjomaaGreatK24
import Derived.Test.YtimejkbmfbjomaaGreatK25
import Derived.Test.YtimejkbmfbjomaaGreatK26
import Derived.Test.YtimejkbmfbjomaaGreatK27
import Derived.Test.YtimejkbmfbjomaaGreatK28
import Derived.Test.YtimejkbmfbjomaaGreatK29
import Derived.Test.YtimejkbmfbjomaaGreatK30
import Derived.Test.YtimejkbmfbjomaaGreatKB1
namespace Go.Proofs.YtimejkbmfbjomaaGreat
open Go.ChangeShapes Go.WideShapes Go.ChangeAt Go.RowKit Go.Deep
set_option linter.unusedVariables false
set_option linter.unusedSimpArgs false
theorem srtK_small {l : List ByteArray} (h : ∀ s ∈ l, small s) (k : Nat) : ∀ s ∈ srtK l k, small s := fun s hs => h s ((srtK_inv l k).1.sub s hs)
theorem srtK_len (l : List ByteArray) (k : Nat) : (srtK l k).length ≤ l.length := nodup_leA _ _ (asc_nd (srtK_inv l k).1.asc) (srtK_inv l k).1.sub
theorem ltK_bytes (a b : ByteArray) : ltK a b = Op.bytesLess a.toList b.toList := by
 rw [bytesLess_eq, Lib.toList_data, Lib.toList_data]; rfl
set_option maxHeartbeats 4000000 in
set_option maxRecDepth 100000 in
theorem rSorted_any {w W : World} {Q : Nat → Prop} {l : List ByteArray} {v : Value} (h : TextsI w Q l v) (hn : l.length ≤ 1000000000000) (hI : In Q w W) :
 Calls Tryz.prog 91 #[v] W (NewRow (srt l) W) := by
 have HSm := Lib.hid (texts_sm h)
 obtain ⟨A, cap, rfl, hl1, hl2⟩ := h.shape
 have H := Lib.hid h
 have HI := Lib.hid hI
 have HLn := Lib.hid hn
 obtain ⟨i0, hi0, hz0, hz1, hz2⟩ := info_parts string_info
 clear h hI hn
 go_enter Tryz.func91, Tryz.ntmps91
 go_upto_region 3 with fail
 go_loopg [3, 10] l.length (fun kk ov iv wr => ∃ (k : Nat) (Xr : Option Addr) (n c : Nat), k + kk = l.length ∧ iv = .int .i64 k ∧ ov = .slice Xr n c ∧ n = (srtK l k).length ∧ Hid (NmI W wr (srtK l k) Xr n c))
 case atStart => exact ⟨0, none, 0, 0, by omega, rfl, rfl, rfl, Lib.hid ⟨World.ownsRow_nil _ _ _ _, Below.refl _ _⟩⟩
 case round =>
  obtain ⟨k, Xr, n, c, hk, rfl, rfl, hnl, HR⟩ := hrel
  have HIr := Lib.hid (HI.out.on HR.out.below)
  by_cases hlt : k < l.length
  ·have HT := Lib.hid (texts_of_own (fun s hs => srtK_small HSm.out k s hs) HR.out.row).2
   have HIn := Lib.hid (fun s => rIn_any HT.out (in_slf _ wr) s)
   have HNk : Hid (n ≤ 1000000000000) := Lib.hid (by have h1 := srtK_len l k; have h2 := HLn.out; omega)
   have HX : Hid (srtK l (k + 1) = if (lst (srtK l k) (false, ⟨#[]⟩) l).1 = true then srtK l k ++ [(lst (srtK l k) (false, ⟨#[]⟩) l).2] else srtK l k) := Lib.hid rfl
   have HNl := Lib.hid hnl
   have HSk := Lib.hid (fun s => srtK_small HSm.out (k + 1) s)
   obtain ⟨out, ho⟩ : ∃ out, out = srtK l k := ⟨_, rfl⟩
   rw [← ho] at HR HIn HX HNl
   clear hnl HT ho
   generalize wr = wo at *
   go_upto_region 6 with fail
   go_loopg [4, 5, 14] l.length (fun kk o4 o5 iv wr => ∃ (j : Nat) (b : Bool) (m : ByteArray), j + kk = l.length ∧ iv = .int .i64 j ∧ o4 = .string m ∧ o5 = .bool b ∧ wo = wr ∧ Hid (lst out (b, m) (l.drop j) = lst out (false, ⟨#[]⟩) l))
   case atStart => exact ⟨0, false, ⟨#[]⟩, by omega, rfl, rfl, rfl, rfl, Lib.hid rfl⟩
   case round =>
    obtain ⟨j, b, m, hj, rfl, rfl, rfl, rfl, HA⟩ := hrel
    by_cases hjt : j < l.length
    ·obtain ⟨a, rfl, _, p1, hsz⟩ := text_at H.out HIr.out hjt
     have HAk := lst_drop (out := out) (r := (b, m)) hjt
     rw [HA.out] at HAk
     have HAk := Lib.hid HAk
     have HI2 := Lib.hid (HIn.out l[j])
     generalize l[j] = t at p1 HAk HI2 hsz
     cases ho : out.any (isT t) with
     | true =>
      have HAn : Hid (lst out (b, m) (l.drop (j + 1)) = lst out (false, ⟨#[]⟩) l) := Lib.hid (by rw [HAk.out, ho, if_neg (by simp)])
      rw [ho] at HI2
      clear HAk ho
      go_wp2_with (go_at_call 22; refine HI2.out.mono ?_; rintro e' W' ⟨rfl, rfl⟩)
      go_roundg (l.length - j - 1)
      case measure => omega
      case rel => exact ⟨j + 1, b, m, by omega, by go_num, rfl, rfl, rfl, HAn⟩
     | false =>
      rw [ho] at HI2
      cases b with
      | false =>
       have HAn : Hid (lst out (true, t) (l.drop (j + 1)) = lst out (false, ⟨#[]⟩) l) := Lib.hid (by rw [HAk.out, ho, if_pos (by simp)])
       clear HAk ho
       go_wp2_with (go_at_call 22; refine HI2.out.mono ?_; rintro e' W' ⟨rfl, rfl⟩)
       go_roundg (l.length - j - 1)
       case measure => omega
       case rel => exact ⟨j + 1, true, t, by omega, by go_num, rfl, rfl, rfl, HAn⟩
      | true =>
       cases hl : ltK t m with
       | true =>
        have HAn : Hid (lst out (true, t) (l.drop (j + 1)) = lst out (false, ⟨#[]⟩) l) := Lib.hid (by rw [HAk.out, ho, hl, if_pos (by simp)])
        rw [ltK_bytes] at hl
        clear HAk ho
        go_wp2_with (go_at_call 22; refine HI2.out.mono ?_; rintro e' W' ⟨rfl, rfl⟩)
        go_roundg (l.length - j - 1)
        case measure => omega
        case rel => exact ⟨j + 1, true, t, by omega, by go_num, rfl, rfl, rfl, HAn⟩
       | false =>
        have HAn : Hid (lst out (true, m) (l.drop (j + 1)) = lst out (false, ⟨#[]⟩) l) := Lib.hid (by rw [HAk.out, ho, hl, if_neg (by simp)])
        rw [ltK_bytes] at hl
        clear HAk ho
        go_wp2_with (go_at_call 22; refine HI2.out.mono ?_; rintro e' W' ⟨rfl, rfl⟩)
        go_roundg (l.length - j - 1)
        case measure => omega
        case rel => exact ⟨j + 1, true, m, by omega, by go_num, rfl, rfl, rfl, HAn⟩
    ·rw [List.drop_of_length_le (by omega)] at HA
     have hA2 : lst out (false, ⟨#[]⟩) l = (b, m) := HA.out.symm
     rw [hA2] at HX
     clear HA hA2
     have HO5 := Lib.hid HR.out.row
     cases b with
     | false =>
      have HS : Hid (NmI W wo (srtK l (k + 1)) Xr n c) := Lib.hid (by rw [HX.out]; exact HR.out)
      have HSl : Hid (n = (srtK l (k + 1)).length) := Lib.hid (by rw [HX.out]; exact HNl.out)
      go_wp2_with fail
      go_roundg (l.length - k - 1)
      case measure => omega
      case rel => exact ⟨k + 1, Xr, n, c, by omega, by go_num, rfl, HSl.out, HS⟩
     | true =>
      have HXn : Hid (srtK l (k + 1) = out ++ [m]) := Lib.hid HX.out
      have HW := Lib.hid (new_one wo m)
      have HO6 : Hid ((wo.alloc (.cells #[.string m] 9)).ownsRow W.heap.size 9 1 (.slice Xr n c) n (strs out)) := Lib.hid (HO5.out.alloc _)
      have HB5 : Hid (Below W.heap.size W (wo.alloc (.cells #[.string m] 9))) := Lib.hid (below_stepA HR.out.below _)
      have hn1 := HNk.out
      go_wp2_with (at_builtin; refine wpList_append_own_at _ rfl (.tmp 34) (.tmp 36) 22 rfl W.heap.size 9 i0 _ 1 16 Tryz.underlying22 hi0 hz0 hz1 hz2 rfl (by decide) _ n (strs out) rfl HO6.out ⟨wo.heap.size, 0, none⟩ 1 1 [.string m] rfl rfl HW.out (by simp [Value.oneCell']) (by unfold maxLen; omega) (by omega) HB5.out.size ?_; intro v6 w7 hown6 hg6 _ hat6; obtain ⟨X6, k6, rfl, _, _⟩ := own_shape hown6; have HS : Hid (NmI W w7 (srtK l (k + 1)) X6 (n + 1) k6) := Lib.hid ⟨by rw [HXn.out, strs_append]; exact hown6, HB5.out.grown hg6 HB5.out.size (fun j hj => (HO6.out.lt j hj).1)⟩; clear hown6 hg6 hat6)
      go_roundg (l.length - k - 1)
      case measure => omega
      case rel => exact ⟨k + 1, X6, n + 1, k6, by omega, by go_num, rfl, by rw [HXn.out, List.length_append, ← HNl.out]; rfl, HS⟩
  ·obtain rfl : k = l.length := by omega
   go_wp2_with fail
   go_ret
   refine ⟨_, rfl, ?_, HR.out.below⟩
   have h := HR.out.row
   rw [hnl] at h ⊢
   exact h
end Go.Proofs.YtimejkbmfbjomaaGreat
namespace Go.Proofs.YtimejkbmfbjomaaGreat
open Go.ChangeShapes Go.WideShapes Go.ChangeAt Go.RowKit Go.Deep
set_option linter.unusedVariables false
set_option linter.unusedSimpArgs false
set_option maxHeartbeats 2000000 in
set_option maxRecDepth 100000 in
theorem rparams_any {w : World} {Q : Nat → Prop} {q : Pr} {c0 c1 c2 c3 c4 : Value} (h : ProcI w Q q [c0, c1, c2, c3, c4]) (hl : q.params.length ≤ 1000) (W : World) (hI : In Q w W) :
  Calls Tryz.prog 89 #[.agg #[c0, c1, c2, c3, c4]] W (NewRow (q.params.map Pa.nm) W) := by
 obtain ⟨vp, vv, vb, ve, hc, hnm, hpp, hvv, hbb, hee⟩ := h
 simp only [List.cons.injEq, and_true] at hc
 obtain ⟨rfl, rfl, rfl, rfl, rfl⟩ := hc
 obtain ⟨Ap, cp, rfl, _, _⟩ := hpp.shape
 obtain ⟨Av, cv, rfl, _, _⟩ := hvv.shape
 obtain ⟨Ab, cb, rfl, _⟩ := hbb.shape
 obtain ⟨Ae, ce, rfl, _⟩ := hee.shape
 have HPp := Lib.hid hpp
 have HI := Lib.hid hI
 obtain ⟨i0, hi0, hz0, hz1, hz2⟩ := info_parts string_info
 clear hpp hvv hbb hee hI
 go_enter Tryz.func89, Tryz.ntmps89
 go_upto_region 1 with fail
 have HBp : Hid (Blk (W.alloc (.cells #[.string q.nm, .slice Ap q.params.length cp, .slice Av q.vars.length cv, .slice Ab q.body.length cb, .slice Ae q.end_.length ce] 39)) W.heap.size 39 #[.string q.nm, .slice Ap q.params.length cp, .slice Av q.vars.length cv, .slice Ab q.body.length cb, .slice Ae q.end_.length ce]) := Lib.hid (Blk.new _ _ _)
 have HB0 : Hid (Below W.heap.size W (W.alloc (.cells #[.string q.nm, .slice Ap q.params.length cp, .slice Av q.vars.length cv, .slice Ab q.body.length cb, .slice Ae q.end_.length ce] 39))) := Lib.hid (below_box _)
 generalize World.alloc _ _ = V at HBp HB0 ⊢
 have q1 : V.cell? ⟨W.heap.size, 1, none⟩ = some (.slice Ap q.params.length cp) := by rw [HBp.out.cell]; rfl
 have HI0 := Lib.hid (HI.out.on HB0.out)
 have HS : Hid (NmI V V ((q.params.take 0).map Pa.nm) none 0 0) := Lib.hid ⟨World.ownsRow_nil _ _ _ _, Below.refl _ _⟩
 go_upto_region 3 with fail
 clear q1
 go_loopw [3, 9] (fun ov iv wr => ∃ (k : Nat) (X : Option Addr) (c : Nat), k ≤ q.params.length ∧ iv = .int .i64 k ∧ ov = .slice X k c ∧ Hid (NmI V wr ((q.params.take k).map Pa.nm) X k c)) (fun _ iv _ => q.params.length - (intOf iv).toNat)
 case atStart => exact ⟨0, none, 0, Nat.zero_le _, rfl, rfl, HS⟩
 case round =>
  clear HS
  obtain ⟨k, X, c, hk, rfl, rfl, HR⟩ := hrel
  have HIr := Lib.hid (HI0.out.on HR.out.below)
  by_cases hlt : k < q.params.length
  ·obtain ⟨a, rfl, _, ⟨p0, p1, _⟩, _⟩ := par_at HPp.out HIr.out hlt
   have HT : Hid (q.params.take (k + 1) = q.params.take k ++ [q.params[k]]) := Lib.hid (List.take_succ_eq_append_getElem hlt)
   generalize q.params[k] = x at p0 p1 HT
   obtain ⟨xn, xr⟩ := x
   simp only at p0 p1
   go_upto_region 5 with fail
   have HBx : Hid (Blk (wr.alloc (.cells #[.string xn, .bool xr] 68)) wr.heap.size 68 #[.string xn, .bool xr]) := Lib.hid (Blk.new _ _ _)
   have HO4 : Hid ((wr.alloc (.cells #[.string xn, .bool xr] 68)).ownsRow V.heap.size 9 1 (.slice X k c) k (strs ((q.params.take k).map Pa.nm))) := Lib.hid (HR.out.row.alloc _)
   have HB4 : Hid (Below V.heap.size V (wr.alloc (.cells #[.string xn, .bool xr] 68))) := Lib.hid (below_stepA HR.out.below _)
   clear p0 p1
   generalize World.alloc wr _ = V4 at HBx HO4 HB4 ⊢
   generalize wr.heap.size = bx at HBx ⊢
   have z0 : V4.cell? ⟨bx, 0, none⟩ = some (.string xn) := by rw [HBx.out.cell]; rfl
   have HW := Lib.hid (new_one V4 xn)
   have HO5 : Hid ((V4.alloc (.cells #[.string xn] 9)).ownsRow V.heap.size 9 1 (.slice X k c) k (strs ((q.params.take k).map Pa.nm))) := Lib.hid (HO4.out.alloc _)
   have HB5 : Hid (Below V.heap.size V (V4.alloc (.cells #[.string xn] 9))) := Lib.hid (below_stepA HB4.out _)
   go_upto_region 6 with (at_builtin; refine wpList_append_own_at _ rfl (.tmp 13) (.tmp 16) 22 rfl V.heap.size 9 i0 _ 1 16 Tryz.underlying22 hi0 hz0 hz1 hz2 rfl (by decide) _ k (strs ((q.params.take k).map Pa.nm)) rfl HO5.out ⟨V4.heap.size, 0, none⟩ 1 1 [.string xn] rfl rfl HW.out (by simp [Value.oneCell']) (by unfold maxLen; omega) (by omega) HB5.out.size ?_; intro v6 w6 hown6 hg6 _ hat6; obtain ⟨X6, k6, rfl, _, _⟩ := own_shape hown6; have HO6 := Lib.hid hown6; have HG6 := Lib.hid hg6; clear hown6 hg6 hat6)
   have HS : Hid (NmI V w6 ((q.params.take (k + 1)).map Pa.nm) X6 (k + 1) k6) := Lib.hid ⟨by rw [HT.out, List.map_append, strs_append]; exact HO6.out, HB5.out.grown HG6.out HB5.out.size (fun j hj => (HO5.out.lt j hj).1)⟩
   clear z0
   go_wp2_with fail
   go_roundw
   case rel => exact ⟨k + 1, X6, k6, by omega, by go_num, rfl, HS⟩
   case measure => simp [intOf]; omega
  ·have hke : k = q.params.length := by omega
   subst hke
   go_wp2_with fail
   go_ret
   refine ⟨_, rfl, own_lower ?_ HB0.out.size, below_step HB0.out HR.out.below⟩
   have h := HR.out.row
   rw [List.take_length] at h
   rw [List.length_map]
   exact h
end Go.Proofs.YtimejkbmfbjomaaGreat
namespace Go.Proofs.YtimejkbmfbjomaaGreat
open Go.ChangeShapes Go.WideShapes Go.ChangeAt Go.RowKit Go.Deep
set_option linter.unusedVariables false
set_option maxHeartbeats 1000000 in
theorem rnames_any {w W : World} {Q : Nat → Prop} {l : List ByteArray} {A : Option Addr} {n cap : Nat} (h : TextsI w Q l (.slice A n cap)) (hI : In Q w W) :
    Calls Tryz.prog 113 #[.slice A n cap] W (MayOk (allN l) W) := by
  obtain ⟨rfl, hlc, hc, _⟩ := slice_len h
  have H := Lib.hid h
  have HI := Lib.hid hI
  clear h hI
  go_enter Tryz.func113, Tryz.ntmps113
  go_wp2_with fail
  go_loopw [7] (fun i wr => ∃ k : Nat, k ≤ l.length ∧ i = .int .i64 k ∧ Hid ((l.drop k).all (fun s => isNm (bl s)) = allN l) ∧ Hid (Below W.heap.size W wr)) (fun i _ => l.length - (intOf i).toNat)
  case atStart => exact ⟨0, Nat.zero_le _, rfl, Lib.hid (by rw [List.drop_zero]; rfl), Lib.hid (Below.refl _ _)⟩
  case round =>
    obtain ⟨k, hk, rfl, HW, HR⟩ := hrel
    by_cases hlt : k < l.length
    · obtain ⟨a, rfl, _, p1, hs⟩ := text_at H.out (HI.out.on HR.out) hlt
      have HN : Hid (allN l = (isNm (bl l[k]) && (l.drop (k + 1)).all (fun s => isNm (bl s)))) := Lib.hid (by rw [← all_drop (f := fun s => isNm (bl s)) hlt, HW.out])
      obtain ⟨x1, hx1⟩ : ∃ x, x = l[k] := ⟨_, rfl⟩
      rw [← hx1] at p1 hs HN
      clear hx1
      have HC : Hid (∀ W, Calls Tryz.prog 114 #[.string x1] W (MayOk (isNm (bl x1)) W)) := Lib.hid (fun W => rName_any x1 W (by unfold maxLen; omega))
      cases hv : isNm (bl x1) with
      | true =>
        rw [hv] at HC HN
        clear hv
        go_wp2_with (go_at_call 114; refine (HC.out _).mono ?_; rintro e w2 ⟨rfl, hb2⟩)
        go_roundw
        case rel => exact ⟨k + 1, by omega, by go_num, Lib.hid (by rw [HN.out, Bool.true_and]), Lib.hid (HR.out.trans (hb2.mono HR.out.size))⟩
        case measure => simp [intOf]; omega
      | false =>
        rw [hv] at HC HN
        clear hv
        go_wp2_with (go_at_call 114; refine (HC.out _).mono ?_; rintro e w2 ⟨rfl, hb2⟩)
        go_ret
        exact ⟨ret_bool (by rw [HN.out]; rfl), HR.out.trans (hb2.mono HR.out.size)⟩
    · have HN : Hid (allN l = true) := Lib.hid (by
        have h1 := HW.out
        rw [List.drop_of_length_le (by omega), List.all_nil] at h1
        exact h1.symm)
      go_wp2_with fail
      go_ret
      exact ⟨ret_bool HN.out.symm, HR.out⟩
theorem none_any {w : World} {Q : Nat → Prop} {e : E} {c0 c1 c2 c3 : Value} (h : ExprI w Q e [c0, c1, c2, c3]) (W : World) :
    Calls Tryz.prog 154 #[.agg #[c0, c1, c2, c3]] W (MayOk (noneE e) W) := by
  cases h with
  | @mk op n nm ks A cap css hop hn hnm hcap hA hk =>
    clear hA hk
    unfold i64 at hop hn
    go_enter Tryz.func154, Tryz.ntmps154
    go_wp2_with fail
    all_goals
      go_ret
      exact ⟨ret_bool (by show _ = noneE _; simp only [noneE]; first | (simp_all; done) | (simp_all; intros; omega)), below_box _⟩
set_option maxHeartbeats 1000000 in
theorem rarg_any {w W : World} {Q : Nat → Prop} {xr : Bool} {xn : ByteArray} {xx : E} {o1 n1 : Int} {s1 : ByteArray} {A1 : Option Addr} {l1 c1 : Nat} (hs : xn.size ≤ 9223372036854775807) (hx : ExprI w Q xx [.int .i64 o1, .int .i64 n1, .string s1, .slice A1 l1 c1]) (hI : In Q w W) :
    Calls Tryz.prog 155 #[.agg #[.bool xr, .string xn, .int .i64 o1, .int .i64 n1, .string s1, .slice A1 l1 c1]] W (MayOk (argOk ⟨xr, xn, xx⟩) W) := by
  have HI := Lib.hid hI
  have HN : Hid (∀ W, Calls Tryz.prog 114 #[.string xn] W (MayOk (isNm (bl xn)) W)) := Lib.hid (fun W => rName_any xn W (by unfold maxLen; omega))
  have HE : Hid (∀ W, Calls Tryz.prog 154 #[.agg #[.int .i64 o1, .int .i64 n1, .string s1, .slice A1 l1 c1]] W (MayOk (noneE xx) W)) := Lib.hid (fun W => none_any hx W)
  have HM : Hid (∀ W, In Q w W → Calls Tryz.prog 100 #[.agg #[.int .i64 o1, .int .i64 n1, .string s1, .slice A1 l1 c1]] W (MayOk (mayE 20 xx) W)) := Lib.hid (fun W h1 => rMayExpr_any hx W h1)
  have HV : Hid (argOk ⟨xr, xn, xx⟩ = (nmOk xn xr && xOk xx (!xr))) := Lib.hid rfl
  clear hI hx
  cases xr with
  | true =>
    simp only [nmOk, xOk, Bool.not_true, if_true, Bool.false_eq_true, if_false] at HV
    generalize isNm (bl xn) = b1 at HV HN
    generalize noneE xx = b2 at HV HE
    cases b1 <;> cases b2
    all_goals
      go_enter Tryz.func155, Tryz.ntmps155
      go_wp2_with (first
        | (go_at_call 114; refine (HN.out _).mono ?_; rintro e w2 ⟨rfl, hb2⟩; have hc2 := (bcell hb2).1; have HB2 := Lib.hid (below_new hb2); clear hb2)
        | (go_at_call 154; refine (HE.out _).mono ?_; rintro e w3 ⟨rfl, hb3⟩))
      go_ret
      first
        | exact ⟨ret_bool (by rw [HV.out]; rfl), HB2.out.trans (hb3.mono HB2.out.size)⟩
        | exact ⟨ret_bool (by rw [HV.out]; rfl), HB2.out⟩
  | false =>
    simp only [nmOk, xOk, Bool.not_false, if_true, Bool.false_eq_true, if_false] at HV
    generalize mayE 20 xx = b2 at HV HM
    cases hb : xn.toList.isEmpty <;> cases b2
    all_goals
      rw [hb] at HV
      go_enter Tryz.func155, Tryz.ntmps155
      go_wp2_with (go_at_call 100; refine (HM.out _ (HI.out.alloc _)).mono ?_; rintro e w3 ⟨rfl, hb3⟩)
      go_ret
      first
        | exact ⟨ret_bool (by rw [HV.out]; rfl), below_new hb3⟩
        | exact ⟨ret_bool (by rw [HV.out]; rfl), below_box _⟩
end Go.Proofs.YtimejkbmfbjomaaGreat
