/- Plain mathematics of the relation Lx, second part: a text moved, cut at a token or behind a fault, a remark behind it. -/
import Derived.Test.YtcncbdnnakfgcaaLexQ
namespace Go.Proofs.Ytcncbdnnakfgcaa
set_option linter.unusedVariables false

def shiftT (d : Nat) (ts : List (Tok × Nat)) : List (Tok × Nat) := ts.map fun q => (q.1, q.2 + d)
def Res.shift (d : Nat) : Res → Res
  | .ok ts => .ok (shiftT d ts)
  | .bad c a => .bad c (a + d)
theorem lx_shift (d : Nat) {l : Bs} {at_ cnt : Nat} {R : Res} (h : Lx l at_ cnt R) : Lx l (at_ + d) cnt (R.shift d) := by
  induction h with
  | nil at_ cnt => exact .nil _ _
  | @sp c r at_ cnt R h t ih =>
    rw [show at_ + 1 + d = at_ + d + 1 by omega] at ih
    exact .sp h ih
  | @rem c r at_ cnt R h h35 t ih =>
    rw [show at_ + 1 + (r.takeWhile notNl).length + d = at_ + d + 1 + (r.takeWhile notNl).length by omega] at ih
    exact .rem h h35 ih
  | bad h h35 e => exact .bad h h35 e
  | full h h35 e hc => exact .full h h35 e hc
  | @tok c r at_ cnt R h h35 e hc t ih =>
    rw [show at_ + (tokT (c :: r)).1.text.length + d = at_ + d + (tokT (c :: r)).1.text.length by omega] at ih
    have := Lx.tok h h35 e hc ih
    cases R with
    | ok ts => exact this
    | bad c a => exact this

theorem lx_tok_cut {c : UInt8} {r : Bs} {at_ cnt : Nat} {R : Res} {m : Nat} (h : isSp c = false) (h35 : c.toNat ≠ 35) (e : (tokT (c :: r)).2 = 0) (hc : cnt < 2000) (hm : (tokT (c :: r)).1.text.length ≤ m)
    (hi : Lx (((c :: r).drop (tokT (c :: r)).1.text.length).take (m - (tokT (c :: r)).1.text.length)) (at_ + (tokT (c :: r)).1.text.length) (cnt + 1) R) :
    Lx ((c :: r).take m) at_ cnt (Res.app [((tokT (c :: r)).1, at_)] R) := by
  have hx := tok_text e
  have hcut := tok_cut (m := m) e hm
  rw [← List.drop_take] at hi
  obtain ⟨m', rfl⟩ : ∃ m', m = m' + 1 := ⟨m - 1, by omega⟩
  rw [List.take_succ_cons] at hcut hi ⊢
  have := Lx.tok (c := c) (r := r.take m') (at_ := at_) (cnt := cnt) (R := R) h h35 (by rw [hcut]; exact e) hc (by rw [hcut]; exact hi)
  rw [hcut] at this
  exact this
/-- ahead of token k -/
theorem lx_front_ok {l : Bs} {at_ cnt : Nat} {R : Res} (h : Lx l at_ cnt R) : ∀ {ts : List (Tok × Nat)}, R = .ok ts → ∀ (k : Nat) (t : Tok) (a : Nat), ts[k]? = some (t, a) → Lx (l.take (a - at_)) at_ cnt (.ok (ts.take k ++ [(zT, a)])) := by
  induction h with
  | nil at_ cnt =>
    intro ts e k t a hk
    injection e with e
    subst e
    cases k with
    | zero =>
      simp at hk
      rw [← hk.2]
      simp
      exact .nil _ _
    | succ k => simp at hk
  | @sp c r at_ cnt R h t' ih =>
    intro ts e k t a hk
    have hb := lx_bound t' (t, a) (by rw [e]; exact List.mem_of_getElem? hk)
    simp only at hb
    have hi := ih e k t a hk
    rw [show a - at_ = (a - (at_ + 1)) + 1 by omega, List.take_succ_cons]
    exact .sp h hi
  | @rem c r at_ cnt R h h35 t' ih =>
    intro ts e k t a hk
    have hb := lx_bound t' (t, a) (by rw [e]; exact List.mem_of_getElem? hk)
    simp only at hb
    have hi := ih e k t a hk
    rw [show a - at_ = (a - (at_ + 1)) + 1 by omega, List.take_succ_cons]
    refine .rem h h35 ?_
    rw [tw_take _ _ (by omega), dw_take _ _ (by omega), show a - (at_ + 1) - (r.takeWhile notNl).length = a - (at_ + 1 + (r.takeWhile notNl).length) by omega]
    exact hi
  | bad h h35 e => intro ts e'; cases e'
  | full h h35 e hc => intro ts e'; cases e'
  | @tok c r at_ cnt R h h35 e hc t' ih =>
    intro ts e' k t a hk
    cases R with
    | bad c2 a2 => cases e'
    | ok ts1 =>
      injection e' with e'
      subst e'
      cases k with
      | zero =>
        simp at hk
        rw [← hk.2]
        simp
        exact .nil _ _
      | succ k =>
        simp only [List.singleton_append, List.getElem?_cons_succ] at hk
        have hb := lx_bound t' (t, a) (by simp only [Res.toks]; exact List.mem_of_getElem? hk)
        simp only at hb
        have hi := ih rfl k t a hk
        have := lx_tok_cut h h35 e hc (m := a - at_) (by omega) (R := .ok (ts1.take k ++ [(zT, a)])) (by rw [Nat.sub_sub]; exact hi)
        exact this
/-- ahead of the fault all is well -/
theorem lx_front_bad {l : Bs} {at_ cnt : Nat} {R : Res} (h : Lx l at_ cnt R) : ∀ {c a : Nat}, R = .bad c a → ∃ ts, Lx (l.take (a - at_)) at_ cnt (.ok ts) := by
  induction h with
  | nil at_ cnt => intro c a e; cases e
  | @sp c r at_ cnt R h t' ih =>
    intro c' a e
    have hb := lx_bad t' e
    obtain ⟨ts, hi⟩ := ih e
    refine ⟨ts, ?_⟩
    rw [show a - at_ = (a - (at_ + 1)) + 1 by omega, List.take_succ_cons]
    exact .sp h hi
  | @rem c r at_ cnt R h h35 t' ih =>
    intro c' a e
    have hb := lx_bad t' e
    obtain ⟨ts, hi⟩ := ih e
    refine ⟨ts, ?_⟩
    rw [show a - at_ = (a - (at_ + 1)) + 1 by omega, List.take_succ_cons]
    refine .rem h h35 ?_
    rw [tw_take _ _ (by omega), dw_take _ _ (by omega), show a - (at_ + 1) - (r.takeWhile notNl).length = a - (at_ + 1 + (r.takeWhile notNl).length) by omega]
    exact hi
  | bad h h35 e =>
    intro c' a e'
    injection e' with _ e'
    subst e'
    simp only [Nat.sub_self, List.take_zero]
    exact ⟨_, .nil _ _⟩
  | full h h35 e hc =>
    intro c' a e'
    injection e' with _ e'
    subst e'
    simp only [Nat.sub_self, List.take_zero]
    exact ⟨_, .nil _ _⟩
  | @tok c r at_ cnt R h h35 e hc t' ih =>
    intro c' a e'
    cases R with
    | ok ts => cases e'
    | bad c2 a2 =>
      have hb := lx_bad t' e'
      obtain ⟨ts, hi⟩ := ih e'
      exact ⟨_, lx_tok_cut h h35 e hc (m := a - at_) (by omega) (R := .ok ts) (by rw [Nat.sub_sub]; exact hi)⟩
/-- what stands far behind the fault says nothing -/
theorem lx_cut_bad {l : Bs} {at_ cnt : Nat} {R : Res} (h : Lx l at_ cnt R) : ∀ {c a : Nat}, R = .bad c a → ∀ m, a - at_ + 21 ≤ m → Lx (l.take m) at_ cnt (.bad c a) := by
  induction h with
  | nil at_ cnt => intro c a e; cases e
  | @sp c r at_ cnt R h t' ih =>
    intro c' a e m hm
    have hb := lx_bad t' e
    have hi := ih e (m - 1) (by omega)
    rw [show m = (m - 1) + 1 by omega, List.take_succ_cons]
    exact .sp h hi
  | @rem c r at_ cnt R h h35 t' ih =>
    intro c' a e m hm
    have hb := lx_bad t' e
    have hi := ih e (m - 1 - (r.takeWhile notNl).length) (by omega)
    rw [show m = (m - 1) + 1 by omega, List.take_succ_cons]
    refine .rem h h35 ?_
    rw [tw_take _ _ (by omega), dw_take _ _ (by omega)]
    exact hi
  | @bad c r at_ cnt h h35 e =>
    intro c' a e' m hm
    injection e' with e1 e2
    have hcut := tok_cut_bad (m := m) e (by omega)
    rw [show m = (m - 1) + 1 by omega, List.take_succ_cons] at hcut ⊢
    have := Lx.bad (c := c) (r := r.take (m - 1)) (at_ := at_) (cnt := cnt) h h35 (by rw [hcut]; exact e)
    rw [hcut, e1] at this
    rw [← e2]
    exact this
  | @full c r at_ cnt h h35 e hc =>
    intro c' a e' m hm
    injection e' with e1 e2
    have hl := tok_len e
    have hcut := tok_cut (m := m) e (by omega)
    rw [show m = (m - 1) + 1 by omega, List.take_succ_cons] at hcut ⊢
    have := Lx.full (c := c) (r := r.take (m - 1)) (at_ := at_) (cnt := cnt) h h35 (by rw [hcut]; exact e) hc
    rw [e1] at this
    rw [← e2]
    exact this
  | @tok c r at_ cnt R h h35 e hc t' ih =>
    intro c' a e' m hm
    cases R with
    | ok ts => cases e'
    | bad c2 a2 =>
      have hb := lx_bad t' e'
      have hi := ih e' (m - (tokT (c :: r)).1.text.length) (by omega)
      exact lx_tok_cut h h35 e hc (m := m) (by omega) (R := .bad c' a) hi

/-- a remark behind a text -/
def extT (d : Nat) : List (Tok × Nat) → List (Tok × Nat)
  | [] => []
  | [q] => [(q.1, q.2 + d)]
  | p :: q :: r => p :: extT d (q :: r)
def Res.ext (d : Nat) : Res → Res
  | .ok ts => .ok (extT d ts)
  | .bad c a => .bad c a
theorem lx_ne {l : Bs} {at_ cnt : Nat} {R : Res} (h : Lx l at_ cnt R) : ∀ {ts : List (Tok × Nat)}, R = .ok ts → ts ≠ [] := by
  induction h with
  | nil => intro ts e; injection e with e; rw [← e]; simp
  | sp h t ih => exact ih
  | rem h h35 t ih => exact ih
  | bad h h35 e => intro ts e'; cases e'
  | full h h35 e hc => intro ts e'; cases e'
  | @tok c r at_ cnt R h h35 e hc t ih =>
    intro ts e'
    cases R with
    | ok ts1 => injection e' with e'; rw [← e']; simp
    | bad c a => cases e'
theorem lx_ext {note : Bs} (hn : note.all notNl = true) {l : Bs} {at_ cnt : Nat} {R : Res} (h : Lx l at_ cnt R) : Lx (l ++ 10 :: 35 :: note) at_ cnt (R.ext (2 + note.length)) := by
  induction h with
  | nil at_ cnt =>
    rw [List.nil_append]
    refine .sp (by decide) (.rem (by decide) (by decide) ?_)
    have ht : note.takeWhile notNl = note := by
      clear at_ cnt
      induction note with
      | nil => rfl
      | cons c r ih =>
        simp only [List.all_cons, Bool.and_eq_true] at hn
        rw [takeWhile_ne hn.1, ih hn.2]
    have hd : note.dropWhile notNl = [] := by rw [← drop_tw, ht, List.drop_length]
    rw [ht, hd, show at_ + 1 + 1 + note.length = at_ + (2 + note.length) by omega]
    exact .nil _ _
  | @sp c r at_ cnt R h t ih => exact .sp h ih
  | @rem c r at_ cnt R h h35 t ih =>
    rw [List.cons_append]
    refine .rem h h35 ?_
    rw [tw_stop (by decide), dw_stop (by decide)]
    exact ih
  | @bad c r at_ cnt h h35 e =>
    rw [List.cons_append]
    have := Lx.bad (c := c) (r := r ++ 10 :: 35 :: note) (at_ := at_) (cnt := cnt) h h35 (by rw [tok_ext stop10]; exact e)
    rw [tok_ext stop10] at this
    exact this
  | @full c r at_ cnt h h35 e hc =>
    rw [List.cons_append]
    exact Lx.full h h35 (by rw [tok_ext stop10]; exact e) hc
  | @tok c r at_ cnt R h h35 e hc t ih =>
    rw [List.cons_append]
    have hx := tok_text e
    have hle : (tokT (c :: r)).1.text.length ≤ (c :: r).length := by
      have h1 := congrArg List.length hx.2
      rw [List.length_take] at h1
      omega
    have := Lx.tok (c := c) (r := r ++ 10 :: 35 :: note) (at_ := at_) (cnt := cnt) (R := R.ext (2 + note.length)) h h35 (by rw [tok_ext stop10]; exact e) hc (by
      rw [tok_ext stop10, ← List.cons_append, List.drop_append_of_le_length hle]
      exact ih)
    rw [tok_ext stop10] at this
    cases R with
    | bad c2 a2 => exact this
    | ok ts =>
      have hne := lx_ne t rfl
      cases ts with
      | nil => exact absurd rfl hne
      | cons q qs => exact this
end Go.Proofs.Ytcncbdnnakfgcaa
