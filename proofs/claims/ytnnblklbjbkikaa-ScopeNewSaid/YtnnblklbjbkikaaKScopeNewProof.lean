/- Proof that the law ScopeNew of whittlerlaw6 returns true for every input (its arguments read afterwards as before); no condition beside the statement's own. -/
import Derived.Test.YtnnblklbjbkikaaK1
import Derived.Test.YtnnblklbjbkikaaK2
import Derived.Test.YtnnblklbjbkikaaK3
import Derived.Test.YtnnblklbjbkikaaK4
import Derived.Test.YtnnblklbjbkikaaK5
import Derived.Test.YtnnblklbjbkikaaK6
import Derived.Test.YtnnblklbjbkikaaK7
import Derived.Test.YtnnblklbjbkikaaK8
import Derived.Test.YtnnblklbjbkikaaK9
import Derived.Test.YtnnblklbjbkikaaK10
import Derived.Test.YtnnblklbjbkikaaK11
import Derived.Test.YtnnblklbjbkikaaK12
import Derived.Test.YtnnblklbjbkikaaK13
import Derived.Test.YtnnblklbjbkikaaK14
import Derived.Test.YtnnblklbjbkikaaK15
import Derived.Test.YtnnblklbjbkikaaK16
import Derived.Test.YtnnblklbjbkikaaK17
import Derived.Test.YtnnblklbjbkikaaK18
import Derived.Test.YtnnblklbjbkikaaK19
import Derived.Test.YtnnblklbjbkikaaK20
import Derived.Test.YtnnblklbjbkikaaK21
import Derived.Test.YtnnblklbjbkikaaK22
import Derived.Test.YtnnblklbjbkikaaK23
import Derived.Test.YtnnblklbjbkikaaK24
import Derived.Test.YtnnblklbjbkikaaK25
import Derived.Test.YtnnblklbjbkikaaK26
import Derived.Test.YtnnblklbjbkikaaK27
import Derived.Test.YtnnblklbjbkikaaK28
import Derived.Test.YtnnblklbjbkikaaK33
import Derived.Test.YtnnblklbjbkikaaK34
import Derived.Test.YtnnblklbjbkikaaK35
import Derived.Test.YtnnblklbjbkikaaK36
import Derived.Test.YtnnblklbjbkikaaK37
import Derived.Test.YtnnblklbjbkikaaK38
import Derived.Test.YtnnblklbjbkikaaRows
import Derived.WalkKit
import Derived.ProofKit
import Derived.OpenShut
import Derived.ShutString
namespace Go.Proofs.Ytnnblklbjbkikaa.scopeNew
open Go.ChangeShapes Go.WideShapes Go.ChangeAt Go.RowKit Go.Deep
open Go.ChangeMaps (open_string shut_string)
set_option linter.unusedVariables false

theorem own : ownKnob Try.prog.godebug = none := by kernel_rfl
set_option maxRecDepth 100000 in
theorem lifted (os : Os) (started : os.Started) (H : Type) (enc : TypeId × Value → H) :
    ReturnsInHanded {} Try.checked os 5 .any (Rows.scopeNewSpec.pre6 enc Try.prog Try.f5 Rows.scopeNewRow.domain false) (Rows.scopeNewSpec.post enc Try.prog Try.f5 false true false false) := by
  refine returnsInHanded_of_change (C := Try.checked) own started (by kernel_rfl) Try.func5
    (ChangeSpec.witness6 (enc := enc) (C := Try.checked) false ⟨#[], #[.agg #[.slice none 0 0, .slice none 0 0], .int .i64 0, .string ByteArray.empty], []⟩ 8 (by kernel_rfl) (by kernel_rfl) (by kernel_rfl) (by kernel_rfl)) ?_
  intro W base args ds gs before hval0 hW hcnd _
  have hval : ∀ (j : Nat) t v, Try.f5.params[j]? = some t → args[j]? = some v → Value.okWide Try.prog W .any base t v := hval0
  have hW' := hW
  obtain ⟨p, q, hA0, hV, rfl, hfz, hnd⟩ := hW
  have hA : DataW.TrodAll enc Try.prog W 0 (fun _ => true) true Try.f5.params.toList args.toList ds p := hA0
  obtain ⟨rfl, rfl⟩ := trodVars_none hV
  have hlt : ∀ x ∈ p, x.block < W.heap.size := fun x hx => hW'.lt x (by simpa using hx)
  have hAk := hA
  rw [Try.params5] at hA hval
  obtain ⟨v0, vs0, d0, ds0, p0, q0, hargs, rfl, rfl, h0, r0⟩ := trodAll_cons hA
  obtain ⟨v1, vs1, d1, ds1, p1, q1, rfl, rfl, rfl, h1, r1⟩ := trodAll_cons r0
  obtain ⟨v2, vs2, d2, ds2, p2, q2, rfl, rfl, rfl, h2, r2⟩ := trodAll_cons r1
  obtain ⟨rfl, rfl, rfl⟩ := trodAll_nil r2
  obtain rfl : args = #[v0, v1, v2] := by cases args; simp_all
  obtain ⟨a0, b0, e0, rfl, he0⟩ := progArg (hval 0 25 v0 rfl rfl) h0
  obtain ⟨a1, rfl, rfl, rfl, w1⟩ := open_int Try.underlying3 (hval 1 3 v1 rfl rfl) h1
  obtain ⟨a2, rfl, rfl, rfl, w2⟩ := open_string Try.underlying9 (hval 2 9 v2 rfl rfl) h2
  clear hA0 hval0
  refine (scopeNew_walk he0 a1 w1 a2 w2 W (In.refl W)).mono fun e W' ⟨he, hg⟩ => ?_
  subst he
  exact ⟨_, rfl, post_of_below (pv := []) hW' (fun _ _ _ => (trodAll_cons_mk (shut_bool Try.underlying4 _) trodAll_mk0)) (fun sp hsp => trodAll_stays laidOut (reads_ok (by rw [Try.params5]; kernel_rfl)) hAk (fun x hx => hg.same (hlt x hx)) (fun x hx => hsp x (by simpa using hx))) (fun _ _ => rfl) rfl
    hg (ok_one (by kernel_rfl) rfl (okWide_bool_mk Try.underlying4 _))⟩
theorem over : Rows.scopeNewRow.holds Try.pinned (OpenSpec.ofChange Rows.scopeNewSpec) :=
  OpenClaim.holds_of_wide 5 Try.f5 rfl rfl rfl rfl rfl rfl rfl ⟨rfl, rfl, rfl, rfl, rfl⟩ rfl rfl rfl rfl rfl (by kernel_rfl) Try.func5 (by kernel_rfl)
    (of_decide_eq_true (by kernel_rfl)) (by unfold Func.isWrapper; first | (rw [if_pos (by decide +kernel)]; kernel_rfl) | (rw [if_neg (by decide +kernel)]; exact ⟨rfl, rfl⟩))
    (fun os started H enc _ => lifted os started H enc)

/-- the statement -/
theorem proved : Rows.ScopeNewSaid :=
  over
#print axioms proved
end Go.Proofs.Ytnnblklbjbkikaa.scopeNew
