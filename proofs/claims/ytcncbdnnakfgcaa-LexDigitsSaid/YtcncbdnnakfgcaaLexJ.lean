/- A scope with several labels: what holds at a label ('At'), and that a scope's body may jump to whatever label holds. -/
import Derived.Scope
import Derived.ScopeJumps
namespace Go.Proofs.Ytcncbdnnakfgcaa

/-- From label l of the scope's body c, in frame a and world w, the run comes out as Q asks. -/
def At (P : Program) (c : Code) (Q : Exit → Act → World → Prop) (l : Nat) (a : Act) (w : World) : Prop :=
  ∃ rest, findLabel c l = some rest ∧ ∀ b k cs, ∃ e a' w', Q e a' w' ∧ Arrives P (lone (b.at a (.code rest :: .inScope c :: k)) cs w) b k cs e a' w'

/-- As Q; by a goto to label l: what holds there. -/
def cps (P : Program) (c : Code) (Q : Exit → Act → World → Prop) : Exit → Act → World → Prop
  | .goto l, a, w => At P c Q l a w
  | e, a, w => Q e a w

section
variable {P : Program} {c rest : Code} {a : Act} {w : World} {Q : Exit → Act → World → Prop}

theorem cps_goto {l : Nat} (h : At P c Q l a w) : cps P c Q (.goto l) a w := h
theorem cps_ret (h : Q .ret a w) : cps P c Q .ret a w := h

theorem come (b : Frame) (k : List Item) (cs : List Frame) (code : Code) (h : code.wp P (cps P c Q) a w) :
    ∃ e a' w', Q e a' w' ∧ Arrives P (lone (b.at a (.code code :: .inScope c :: k)) cs w) b k cs e a' w' := by
  obtain ⟨e, a₁, w₁, hq, harr⟩ := h b (.inScope c :: k) cs
  cases e with
  | normal => exact ⟨.normal, a₁, w₁, hq, Steps.trans harr (.one step_inScope)⟩
  | exit id => exact ⟨.exit id, a₁, w₁, hq, fun k' hk => harr k' (by simp [exitTo, hk])⟩
  | goto l' =>
    obtain ⟨r, hf, hr⟩ := hq
    have hg : gotoIn l' (.inScope c :: k) = some (.code r :: .inScope c :: k) := by simp [gotoIn, hf]
    obtain ⟨e₂, a₂, w₂, hq₂, harr₂⟩ := hr b k cs
    exact ⟨e₂, a₂, w₂, hq₂, .of_steps (harr _ hg) harr₂⟩
  | ret => exact ⟨_, a₁, w₁, hq, harr⟩
  | panic ch => exact ⟨_, a₁, w₁, hq, harr⟩
  | outgrown => exact ⟨_, a₁, w₁, hq, harr⟩

theorem at_of {l : Nat} (hf : findLabel c l = some rest) (h : rest.wp P (cps P c Q) a w) : At P c Q l a w :=
  ⟨rest, hf, fun b k cs => come b k cs rest h⟩

theorem scope_of (h : c.wp P (cps P c Q) a w) : (Code.scope c).wp P Q a w := by
  intro b k cs
  obtain ⟨e, a', w', hq, harr⟩ := come b k cs c h
  cases e with
  | normal => exact ⟨.normal, a', w', hq, .head step_scope harr⟩
  | exit id => exact ⟨.exit id, a', w', hq, fun k' hk => .head step_scope (harr k' hk)⟩
  | goto l' => exact ⟨.goto l', a', w', hq, fun k' hk => .head step_scope (harr k' hk)⟩
  | ret => exact ⟨_, a', w', hq, .of_steps (.one step_scope) harr⟩
  | panic ch => exact ⟨_, a', w', hq, .of_steps (.one step_scope) harr⟩
  | outgrown => exact ⟨_, a', w', hq, .of_steps (.one step_scope) harr⟩
end
end Go.Proofs.Ytcncbdnnakfgcaa
