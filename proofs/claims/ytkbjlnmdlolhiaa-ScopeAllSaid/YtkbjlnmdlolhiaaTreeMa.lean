/- What may be, by the reference: the contracts of names, none, arg (whittlerref3). -/
import Derived.Test.YtkbjlnmdlolhiaaTreeFF
namespace Go.Proofs.Ytkbjlnmdlolhiaa
open Go.ChangeShapes Go.WideShapes Go.ChangeAt Go.RowKit Go.Deep
set_option linter.unusedVariables false

set_option maxHeartbeats 1000000 in
theorem rnames_any {w W : World} {Q : Nat → Prop} {l : List ByteArray} {A : Option Addr} {n cap : Nat} (h : TextsI w Q l (.slice A n cap)) (hI : In Q w W) :
    Calls Try.prog 59 #[.slice A n cap] W (MayOk (allN l) W) := by
  obtain ⟨rfl, hlc, hc, _⟩ := slice_len h
  have H := Lib.hid h
  have HI := Lib.hid hI
  clear h hI
  go_enter Try.func59, Try.ntmps59
  go_wp2_with fail
  go_loopw [7] (fun i wr => ∃ k : Nat, k ≤ l.length ∧ i = .int .i64 k ∧ Hid ((l.drop k).all (fun s => isNm (bl s)) = allN l) ∧ Hid (Below W.heap.size W wr)) (fun i _ => l.length - (intOf i).toNat)
  case atStart => exact ⟨0, Nat.zero_le _, rfl, Lib.hid (by rw [List.drop_zero]; rfl), Lib.hid (Below.refl _ _)⟩
  case round =>
    obtain ⟨k, hk, rfl, HW, HR⟩ := hrel
    by_cases hlt : k < l.length
    · obtain ⟨a, rfl, _, p1, hs⟩ := text_at H.out (HI.out.on HR.out) hlt
      have HN : Hid (allN l = (isNm (bl l[k]) && (l.drop (k + 1)).all (fun s => isNm (bl s)))) := Lib.hid (by rw [← all_drop (f := fun s => isNm (bl s)) hlt, HW.out])
      obtain ⟨x1, hx1⟩ : ∃ x, x = l[k] := ⟨_, rfl⟩
      rw [← hx1] at p1 hs HN
      clear hx1
      have HC : Hid (∀ W, Calls Try.prog 60 #[.string x1] W (MayOk (isNm (bl x1)) W)) := Lib.hid (fun W => rName_any x1 W (by unfold maxLen; omega))
      cases hv : isNm (bl x1) with
      | true =>
        rw [hv] at HC HN
        clear hv
        go_wp2_with (go_at_call 60; refine (HC.out _).mono ?_; rintro e w2 ⟨rfl, hb2⟩)
        go_roundw
        case rel => exact ⟨k + 1, by omega, by go_num, Lib.hid (by rw [HN.out, Bool.true_and]), Lib.hid (HR.out.trans (hb2.mono HR.out.size))⟩
        case measure => simp [intOf]; omega
      | false =>
        rw [hv] at HC HN
        clear hv
        go_wp2_with (go_at_call 60; refine (HC.out _).mono ?_; rintro e w2 ⟨rfl, hb2⟩)
        go_ret
        exact ⟨ret_bool (by rw [HN.out]; rfl), HR.out.trans (hb2.mono HR.out.size)⟩
    · have HN : Hid (allN l = true) := Lib.hid (by
        have h1 := HW.out
        rw [List.drop_of_length_le (by omega), List.all_nil] at h1
        exact h1.symm)
      go_wp2_with fail
      go_ret
      exact ⟨ret_bool HN.out.symm, HR.out⟩
theorem none_any {w : World} {Q : Nat → Prop} {e : E} {c0 c1 c2 c3 : Value} (h : ExprI w Q e [c0, c1, c2, c3]) (W : World) :
    Calls Try.prog 105 #[.agg #[c0, c1, c2, c3]] W (MayOk (noneE e) W) := by
  cases h with
  | @mk op n nm ks A cap css hop hn hnm hcap hA hk =>
    clear hA hk
    unfold i64 at hop hn
    go_enter Try.func105, Try.ntmps105
    go_wp2_with fail
    all_goals
      go_ret
      exact ⟨ret_bool (by show _ = noneE _; simp only [noneE]; first | (simp_all; done) | (simp_all; intros; omega)), below_box _⟩
set_option maxHeartbeats 1000000 in
theorem rarg_any {w W : World} {Q : Nat → Prop} {xr : Bool} {xn : ByteArray} {xx : E} {o1 n1 : Int} {s1 : ByteArray} {A1 : Option Addr} {l1 c1 : Nat} (hs : xn.size ≤ 9223372036854775807) (hx : ExprI w Q xx [.int .i64 o1, .int .i64 n1, .string s1, .slice A1 l1 c1]) (hI : In Q w W) :
    Calls Try.prog 106 #[.agg #[.bool xr, .string xn, .int .i64 o1, .int .i64 n1, .string s1, .slice A1 l1 c1]] W (MayOk (argOk ⟨xr, xn, xx⟩) W) := by
  have HI := Lib.hid hI
  have HN : Hid (∀ W, Calls Try.prog 60 #[.string xn] W (MayOk (isNm (bl xn)) W)) := Lib.hid (fun W => rName_any xn W (by unfold maxLen; omega))
  have HE : Hid (∀ W, Calls Try.prog 105 #[.agg #[.int .i64 o1, .int .i64 n1, .string s1, .slice A1 l1 c1]] W (MayOk (noneE xx) W)) := Lib.hid (fun W => none_any hx W)
  have HM : Hid (∀ W, In Q w W → Calls Try.prog 104 #[.agg #[.int .i64 o1, .int .i64 n1, .string s1, .slice A1 l1 c1]] W (MayOk (mayE 20 xx) W)) := Lib.hid (fun W h1 => rMayExpr_any hx W h1)
  have HV : Hid (argOk ⟨xr, xn, xx⟩ = (nmOk xn xr && xOk xx (!xr))) := Lib.hid rfl
  clear hI hx
  cases xr with
  | true =>
    simp only [nmOk, xOk, Bool.not_true, if_true, Bool.false_eq_true, if_false] at HV
    generalize isNm (bl xn) = b1 at HV HN
    generalize noneE xx = b2 at HV HE
    cases b1 <;> cases b2
    all_goals
      go_enter Try.func106, Try.ntmps106
      go_wp2_with (first
        | (go_at_call 60; refine (HN.out _).mono ?_; rintro e w2 ⟨rfl, hb2⟩; have hc2 := (bcell hb2).1; have HB2 := Lib.hid (below_new hb2); clear hb2)
        | (go_at_call 105; refine (HE.out _).mono ?_; rintro e w3 ⟨rfl, hb3⟩))
      go_ret
      first
        | exact ⟨ret_bool (by rw [HV.out]; rfl), HB2.out.trans (hb3.mono HB2.out.size)⟩
        | exact ⟨ret_bool (by rw [HV.out]; rfl), HB2.out⟩
  | false =>
    simp only [nmOk, xOk, Bool.not_false, if_true, Bool.false_eq_true, if_false] at HV
    generalize mayE 20 xx = b2 at HV HM
    cases hb : xn.toList.isEmpty <;> cases b2
    all_goals
      rw [hb] at HV
      go_enter Try.func106, Try.ntmps106
      go_wp2_with (go_at_call 104; refine (HM.out _ (HI.out.alloc _)).mono ?_; rintro e w3 ⟨rfl, hb3⟩)
      go_ret
      first
        | exact ⟨ret_bool (by rw [HV.out]; rfl), below_new hb3⟩
        | exact ⟨ret_bool (by rw [HV.out]; rfl), below_box _⟩
end Go.Proofs.Ytkbjlnmdlolhiaa
