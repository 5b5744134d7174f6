/- Proof that the law AliasNone of whittlerlaw10 returns true for every input (its arguments read afterwards as before); no condition beside the statement's own. -/
import Derived.Test.YtimejkbmfbjomaaK1
import Derived.Test.YtimejkbmfbjomaaK2
import Derived.Test.YtimejkbmfbjomaaK3
import Derived.Test.YtimejkbmfbjomaaK4
import Derived.Test.YtimejkbmfbjomaaK5
import Derived.Test.YtimejkbmfbjomaaK6
import Derived.Test.YtimejkbmfbjomaaK7
import Derived.Test.YtimejkbmfbjomaaK8
import Derived.Test.YtimejkbmfbjomaaK9
import Derived.Test.YtimejkbmfbjomaaK10
import Derived.Test.YtimejkbmfbjomaaK11
import Derived.Test.YtimejkbmfbjomaaK12
import Derived.Test.YtimejkbmfbjomaaK13
import Derived.Test.YtimejkbmfbjomaaK14
import Derived.Test.YtimejkbmfbjomaaK15
import Derived.Test.YtimejkbmfbjomaaK16
import Derived.Test.YtimejkbmfbjomaaK17
import Derived.Test.YtimejkbmfbjomaaK18
import Derived.Test.YtimejkbmfbjomaaK19
import Derived.Test.YtimejkbmfbjomaaK20
import Derived.Test.YtimejkbmfbjomaaK21
import Derived.Test.YtimejkbmfbjomaaK22
import Derived.Test.YtimejkbmfbjomaaK23
import Derived.Test.YtimejkbmfbjomaaK24
import Derived.Test.YtimejkbmfbjomaaK25
import Derived.Test.YtimejkbmfbjomaaRows
import Derived.WalkKit
import Derived.ProofKit
import Derived.OpenShut
import Derived.ShutString
namespace Go.Proofs.Ytimejkbmfbjomaa.aliasNone
open Go.ChangeShapes Go.WideShapes Go.ChangeAt Go.RowKit Go.Deep
open Go.ChangeMaps (open_string shut_string)
set_option linter.unusedVariables false

theorem own : ownKnob Try.prog.godebug = none := by kernel_rfl
set_option maxRecDepth 100000 in
theorem lifted (os : Os) (started : os.Started) (H : Type) (enc : TypeId × Value → H) :
    ReturnsInHanded {} Try.checked os 5 .any (Rows.aliasNoneSpec.pre6 enc Try.prog Try.f5 Rows.aliasNoneRow.domain false) (Rows.aliasNoneSpec.post enc Try.prog Try.f5 false true false false) := by
  refine returnsInHanded_of_change (C := Try.checked) own started (by kernel_rfl) Try.func5
    (ChangeSpec.witness6 (enc := enc) (C := Try.checked) false ⟨#[], #[.agg #[.slice none 0 0, .slice none 0 0]], []⟩ 8 (by kernel_rfl) (by kernel_rfl) (by kernel_rfl) (by kernel_rfl)) ?_
  intro W base args ds gs before hval0 hW hcnd _
  have hval : ∀ (j : Nat) t v, Try.f5.params[j]? = some t → args[j]? = some v → Value.okWide Try.prog W .any base t v := hval0
  have hW' := hW
  obtain ⟨p, q, hA0, hV, rfl, hfz, hnd⟩ := hW
  have hA : DataW.TrodAll enc Try.prog W 0 (fun _ => true) true Try.f5.params.toList args.toList ds p := hA0
  obtain ⟨rfl, rfl⟩ := trodVars_none hV
  have hlt : ∀ x ∈ p, x.block < W.heap.size := fun x hx => hW'.lt x (by simpa using hx)
  have hAk := hA
  rw [Try.params5] at hA hval
  obtain ⟨v0, vs0, d0, ds0, p0, q0, hargs, rfl, rfl, h0, r0⟩ := trodAll_cons hA
  obtain ⟨rfl, rfl, rfl⟩ := trodAll_nil r0
  obtain rfl : args = #[v0] := by cases args; simp_all
  obtain ⟨a0, b0, e0, rfl, he0⟩ := progArg (hval 0 25 v0 rfl rfl) h0
  clear hA0 hval0
  refine (aliasNone_walk he0 W (In.refl W)).mono fun e W' ⟨he, hg⟩ => ?_
  subst he
  exact ⟨_, rfl, post_of_below (pv := []) hW' (fun _ _ _ => (trodAll_cons_mk (shut_bool Try.underlying4 _) trodAll_mk0)) (fun sp hsp => trodAll_stays laidOut (reads_ok (by rw [Try.params5]; kernel_rfl)) hAk (fun x hx => hg.same (hlt x hx)) (fun x hx => hsp x (by simpa using hx))) (fun _ _ => rfl) rfl
    hg (ok_one (by kernel_rfl) rfl (okWide_bool_mk Try.underlying4 _))⟩
theorem over : Rows.aliasNoneRow.holds Try.pinned (OpenSpec.ofChange Rows.aliasNoneSpec) :=
  OpenClaim.holds_of_wide 5 Try.f5 rfl rfl rfl rfl rfl rfl rfl ⟨rfl, rfl, rfl, rfl, rfl⟩ rfl rfl rfl rfl rfl (by kernel_rfl) Try.func5 (by kernel_rfl)
    (of_decide_eq_true (by kernel_rfl)) (by unfold Func.isWrapper; first | (rw [if_pos (by decide +kernel)]; kernel_rfl) | (rw [if_neg (by decide +kernel)]; exact ⟨rfl, rfl⟩))
    (fun os started H enc _ => lifted os started H enc)

/-- the statement -/
theorem proved : Rows.AliasNoneSaid :=
  over
#print axioms proved
end Go.Proofs.Ytimejkbmfbjomaa.aliasNone
