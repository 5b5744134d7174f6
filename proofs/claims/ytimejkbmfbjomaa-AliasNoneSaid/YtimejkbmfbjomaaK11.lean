/- Texts, merged by a program; only what is used. -/
import Derived.Deep.RegionHeld3
import Derived.Deep.AppendLies
import Derived.Deep.LoopGhost
import Derived.Test.YtimejkbmfbjomaaK1
import Derived.Test.YtimejkbmfbjomaaK2
import Derived.Test.YtimejkbmfbjomaaK3
import Derived.Test.YtimejkbmfbjomaaK4
import Derived.Test.YtimejkbmfbjomaaK5
import Derived.Test.YtimejkbmfbjomaaK6
import Derived.Test.YtimejkbmfbjomaaK7
import Derived.Test.YtimejkbmfbjomaaK8
import Derived.Test.YtimejkbmfbjomaaK9
import Derived.Test.YtimejkbmfbjomaaK10
namespace Go.Proofs.Ytimejkbmfbjomaa
open Go.ChangeShapes Go.WideShapes Go.ChangeAt Go.RowKit Go.Deep
set_option linter.unusedVariables false
set_option linter.unusedSimpArgs false
theorem may_lens {p : Pg} (hm : mayP p = true) : p.globals.length ≤ 16 ∧ p.procs.length ≤ 16 ∧ ∀ q ∈ p.procs, q.params.length ≤ 8 ∧ q.vars.length ≤ 16 := by
 have h1 : p.globals.length ≤ 16 ∧ p.procs.length ≤ 16 := by
  have h := hm
  unfold mayP at h
  simp only [Bool.and_eq_true, Bool.not_eq_true', decide_eq_false_iff_not] at h
  omega
 refine ⟨h1.1, h1.2, fun q hq => ?_⟩
 have hh : headOk q = true := by
  rw [← rMayP_eq] at hm
  unfold rMayP at hm
  simp only [Bool.and_eq_true] at hm
  exact List.all_eq_true.1 hm.1.1.2 q hq
 unfold headOk at hh
 simp only [Bool.and_eq_true, Bool.not_eq_true', decide_eq_false_iff_not] at hh
 omega
theorem own_at {w : World} {base n : Nat} {e : TypeId} {v : Value} {xs : List Value} (h : w.ownsRow base e 1 v n xs) {k : Nat} (hk : k < n) :
  ∃ a cap, v = .slice (some a) n cap ∧ (∀ x, xs[k]? = some x → w.cell? (a.add k) = some x) ∧ w.frozen? (a.add k) = false ∧ base ≤ (a.add k).block := by
 obtain ⟨hl, h'⟩ := h
 rcases h' with ⟨_, rfl⟩ | ⟨g, cap, cur, rfl, hb, hg, hnc, hm, hs, ht⟩
 ·omega
 ·refine ⟨⟨g, 0, none⟩, cap, rfl, fun x hx => own_cells (m := n) (cap := cap) (n := n) (w := w) (base := base) (e := e) (size := 1) (xs := xs) ⟨hl, .inr ⟨g, cap, cur, rfl, hb, hg, hnc, hm, hs, ht⟩⟩ k x hx, ?_, ?_⟩
  ·rw [addr0]
   exact (show Blk w g e cur from hg).frozen k
  ·rw [addr0]; exact hb
end Go.Proofs.Ytimejkbmfbjomaa
namespace Go.Proofs.Ytimejkbmfbjomaa
open Go.ChangeShapes Go.WideShapes Go.ChangeAt Go.RowKit Go.Deep
set_option linter.unusedVariables false
set_option linter.unusedSimpArgs false
section
variable {w w2 W wr : World} {Q Q2 : Nat → Prop} {base tb : Nat} {ct : Array Value} {outs : List S} {X : Option Addr} {n c : Nat}
end
end Go.Proofs.Ytimejkbmfbjomaa
namespace Go.Proofs.Ytimejkbmfbjomaa
open Go.ChangeShapes Go.WideShapes Go.ChangeAt Go.RowKit Go.Deep
set_option linter.unusedVariables false
set_option linter.unusedSimpArgs false
theorem proc_info : (Try.prog.info? 45).map (fun i => (i.zero, i.size, i.bytes)) = some (some (.agg #[.string ⟨#[]⟩, .slice none 0 0, .slice none 0 0, .slice none 0 0, .slice none 0 0]), 5, 112) := by kernel_rfl
section
variable {w w2 W W1 wr : World} {Q Q2 : Nat → Prop} {tb rb qb : Nat} {ct : Array Value} {globals : List ByteArray} {vg : Value} {outs : List Pr} {X : Option Addr} {n c : Nat}
end
end Go.Proofs.Ytimejkbmfbjomaa
