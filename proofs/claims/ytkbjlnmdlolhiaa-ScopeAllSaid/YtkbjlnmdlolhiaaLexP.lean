/- The plain words of the document's chapter lex, over lists of bytes: what a token is, and the relation Lx between a text, where it stands, how many tokens stand ahead, and what is told of it. No model in it. -/
namespace Go.Proofs.Ytkbjlnmdlolhiaa

abbrev Bs := List UInt8
def isSp (c : UInt8) : Bool := c.toNat == 32 || c.toNat == 9 || c.toNat == 10 || c.toNat == 13
def isLo (c : UInt8) : Bool := decide (97 ≤ c.toNat) && decide (c.toNat ≤ 122)
def isDi (c : UInt8) : Bool := decide (48 ≤ c.toNat) && decide (c.toNat ≤ 57)
def isLD (c : UInt8) : Bool := isLo c || isDi c
def notNl (c : UInt8) : Bool := c.toNat != 10
def wds : List Bs := [[103, 108, 111, 98, 97, 108], [112, 114, 111, 99], [118, 97, 114], [114, 101, 102], [105, 102], [101, 108, 115, 101], [119, 104, 105, 108, 101],
  [98, 114, 101, 97, 107], [99, 111, 110, 116, 105, 110, 117, 101], [114, 101, 116, 117, 114, 110], [103, 111, 116, 111], [114, 101, 97, 100], [112, 114, 105, 110, 116]]
def isWd (l : Bs) : Bool := wds.any (l == ·)
def isNm (l : Bs) : Bool := (match l with | [] => false | c :: _ => isLo c) && decide (l.length ≤ 8) && l.all isLD && !isWd l
def pairs : List Bs := [[61, 61], [33, 61], [60, 61], [62, 61], [38, 38], [124, 124]]
def isTwo (l : Bs) : Bool := pairs.any (l == ·)
def ones : List Nat := [40, 41, 123, 125, 44, 59, 58, 61, 33, 60, 62, 43, 45, 42, 47, 37]
def isOne (c : UInt8) : Bool := ones.any (c.toNat == ·)
def sgn (l : Bs) : Nat := if isTwo (l.take 2) then 2 else match l with | [] => 0 | c :: _ => if isOne c then 1 else 0
def val (l : Bs) : Nat := l.foldl (fun n c => 10 * n + (c.toNat - 48)) 0

structure Tok where
  kind : Nat
  text : Bs
  n : Nat

def zT : Tok := ⟨0, [], 0⟩
def wordT (l : Bs) : Tok × Nat := if isWd l then (⟨3, l, 0⟩, 0) else if 8 < l.length then (zT, 4) else (⟨1, l, 0⟩, 0)
def hd0 (l : Bs) : Bool := match l with | [] => false | c :: _ => c.toNat == 48
def numT (l : Bs) : Tok × Nat := if 1 < l.length ∧ hd0 l = true then (zT, 2) else if 9223372036854775807 < val l then (zT, 4) else (⟨2, l, val l⟩, 0)
def signT (l : Bs) : Tok × Nat := if sgn l = 0 then (zT, 2) else (⟨4, l.take (sgn l), 0⟩, 0)
def tokT (l : Bs) : Tok × Nat :=
  match l with
  | [] => (zT, 2)
  | c :: _ => if isLo c then wordT (l.takeWhile isLD) else if isDi c then numT (l.takeWhile isDi) else signT l

inductive Res where
  | ok (ts : List (Tok × Nat))
  | bad (code at_ : Nat)
def Res.app (pre : List (Tok × Nat)) : Res → Res
  | .ok ts => .ok (pre ++ ts)
  | .bad c a => .bad c a
def Res.toks : Res → List (Tok × Nat)
  | .ok ts => ts
  | .bad _ _ => []
def Res.code : Res → Nat
  | .ok _ => 0
  | .bad c _ => c
def Res.fat : Res → Nat
  | .ok _ => 0
  | .bad _ a => a
theorem Res.app_app (p q : List (Tok × Nat)) (R : Res) : Res.app p (Res.app q R) = Res.app (p ++ q) R := by
  cases R <;> simp [Res.app]
theorem Res.app_nil (R : Res) : Res.app [] R = R := by cases R <;> rfl

inductive Lx : Bs → Nat → Nat → Res → Prop where
  | nil (at_ cnt : Nat) : Lx [] at_ cnt (.ok [(zT, at_)])
  | sp {c : UInt8} {r : Bs} {at_ cnt : Nat} {R : Res} (h : isSp c = true) (t : Lx r (at_ + 1) cnt R) : Lx (c :: r) at_ cnt R
  | rem {c : UInt8} {r : Bs} {at_ cnt : Nat} {R : Res} (h : isSp c = false) (h35 : c.toNat = 35) (t : Lx (r.dropWhile notNl) (at_ + 1 + (r.takeWhile notNl).length) cnt R) : Lx (c :: r) at_ cnt R
  | bad {c : UInt8} {r : Bs} {at_ cnt : Nat} (h : isSp c = false) (h35 : c.toNat ≠ 35) (e : (tokT (c :: r)).2 ≠ 0) : Lx (c :: r) at_ cnt (.bad (tokT (c :: r)).2 at_)
  | full {c : UInt8} {r : Bs} {at_ cnt : Nat} (h : isSp c = false) (h35 : c.toNat ≠ 35) (e : (tokT (c :: r)).2 = 0) (hc : 2000 ≤ cnt) : Lx (c :: r) at_ cnt (.bad 4 at_)
  | tok {c : UInt8} {r : Bs} {at_ cnt : Nat} {R : Res} (h : isSp c = false) (h35 : c.toNat ≠ 35) (e : (tokT (c :: r)).2 = 0) (hc : cnt < 2000)
      (t : Lx ((c :: r).drop (tokT (c :: r)).1.text.length) (at_ + (tokT (c :: r)).1.text.length) (cnt + 1) R) : Lx (c :: r) at_ cnt (Res.app [((tokT (c :: r)).1, at_)] R)

theorem takeWhile_ne {p : UInt8 → Bool} {c : UInt8} {r : Bs} (h : p c = true) : (c :: r).takeWhile p = c :: r.takeWhile p := by simp [h]
theorem isLD_of_lo {c : UInt8} (h : isLo c = true) : isLD c = true := by simp [isLD, h]
theorem sgn_le (l : Bs) : sgn l ≤ l.length := by
  unfold sgn
  split
  · rename_i h
    have h2 : (l.take 2).length = 2 := by
      simp only [isTwo, pairs, List.any_cons, List.any_nil, Bool.or_false, Bool.or_eq_true, beq_iff_eq] at h
      rcases h with h | h | h | h | h | h <;> rw [h] <;> rfl
    rw [List.length_take] at h2
    omega
  · cases l with
    | nil => simp
    | cons c r => simp only; split <;> simp
/-- what is told of a good token: its text is the text's front, and it is not empty -/
theorem tok_text {c : UInt8} {r : Bs} (e : (tokT (c :: r)).2 = 0) : 1 ≤ (tokT (c :: r)).1.text.length ∧ (tokT (c :: r)).1.text = (c :: r).take (tokT (c :: r)).1.text.length := by
  have htw : ∀ (p : UInt8 → Bool) (l : Bs), l.takeWhile p = l.take (l.takeWhile p).length := by
    intro p l
    exact (List.prefix_iff_eq_take.1 (List.takeWhile_prefix p))
  unfold tokT at e ⊢
  simp only at e ⊢
  split
  · rename_i h
    rw [if_pos h] at e
    unfold wordT at e ⊢
    have hne : 1 ≤ ((c :: r).takeWhile isLD).length := by rw [takeWhile_ne (isLD_of_lo h)]; simp
    split
    · exact ⟨hne, htw _ _⟩
    · rename_i h1
      rw [if_neg h1] at e
      split
      · rename_i h2
        rw [if_pos h2] at e
        simp at e
      · exact ⟨hne, htw _ _⟩
  · rename_i h
    rw [if_neg h] at e
    split
    · rename_i hd
      rw [if_pos hd] at e
      have hne : 1 ≤ ((c :: r).takeWhile isDi).length := by rw [takeWhile_ne hd]; simp
      unfold numT at e ⊢
      split
      · rename_i h1
        rw [if_pos h1] at e
        simp at e
      · rename_i h1
        rw [if_neg h1] at e
        split
        · rename_i h2
          rw [if_pos h2] at e
          simp at e
        · exact ⟨hne, htw _ _⟩
    · rename_i hd
      rw [if_neg hd] at e
      unfold signT at e ⊢
      split
      · rename_i h1
        rw [if_pos h1] at e
        simp at e
      · rename_i h1
        have := sgn_le (c :: r)
        simp only [List.length_take]
        refine ⟨by simp at this ⊢; omega, ?_⟩
        rw [Nat.min_eq_left this]
/-- of each text something is told -/
theorem lx_total : ∀ (n : Nat) (l : Bs) (at_ cnt : Nat), l.length ≤ n → ∃ R, Lx l at_ cnt R := by
  intro n
  induction n with
  | zero => intro l at_ cnt h; obtain rfl : l = [] := List.eq_nil_of_length_eq_zero (by omega); exact ⟨_, .nil _ _⟩
  | succ n ih =>
    intro l at_ cnt h
    cases l with
    | nil => exact ⟨_, .nil _ _⟩
    | cons c r =>
      simp only [List.length_cons] at h
      cases hs : isSp c with
      | true => obtain ⟨R, hR⟩ := ih r (at_ + 1) cnt (by omega); exact ⟨R, .sp hs hR⟩
      | false =>
        by_cases h35 : c.toNat = 35
        · obtain ⟨R, hR⟩ := ih (r.dropWhile notNl) (at_ + 1 + (r.takeWhile notNl).length) cnt (by have := (List.dropWhile_suffix (l := r) notNl).length_le; omega)
          exact ⟨R, .rem hs h35 hR⟩
        · by_cases e : (tokT (c :: r)).2 = 0
          · by_cases hc : cnt < 2000
            · obtain ⟨R, hR⟩ := ih ((c :: r).drop (tokT (c :: r)).1.text.length) (at_ + (tokT (c :: r)).1.text.length) (cnt + 1) (by have := (tok_text e).1; rw [List.length_drop, List.length_cons]; omega)
              exact ⟨_, .tok hs h35 e hc hR⟩
            · exact ⟨_, .full hs h35 e (by omega)⟩
          · exact ⟨_, .bad hs h35 e⟩
theorem lx_det {l : Bs} {at_ cnt : Nat} {R : Res} (h : Lx l at_ cnt R) : ∀ {R' : Res}, Lx l at_ cnt R' → R' = R := by
  induction h with
  | nil => intro R' h'; cases h'; rfl
  | sp hs t ih =>
    intro R' h'
    cases h' with
    | sp _ t' => exact ih t'
    | rem h _ _ => rw [h] at hs; cases hs
    | bad h _ _ => rw [h] at hs; cases hs
    | full h _ _ _ => rw [h] at hs; cases hs
    | tok h _ _ _ _ => rw [h] at hs; cases hs
  | rem hs h35 t ih =>
    intro R' h'
    cases h' with
    | sp h _ => rw [h] at hs; cases hs
    | rem _ _ t' => exact ih t'
    | bad _ h _ => exact absurd h35 h
    | full _ h _ _ => exact absurd h35 h
    | tok _ h _ _ _ => exact absurd h35 h
  | bad hs h35 e =>
    intro R' h'
    cases h' with
    | sp h _ => rw [h] at hs; cases hs
    | rem _ h _ => exact absurd h h35
    | bad _ _ _ => rfl
    | full _ _ e' _ => exact absurd e' e
    | tok _ _ e' _ _ => exact absurd e' e
  | full hs h35 e hc =>
    intro R' h'
    cases h' with
    | sp h _ => rw [h] at hs; cases hs
    | rem _ h _ => exact absurd h h35
    | bad _ _ e' => exact absurd e e'
    | full _ _ _ _ => rfl
    | tok _ _ _ hc' _ => omega
  | tok hs h35 e hc t ih =>
    intro R' h'
    cases h' with
    | sp h _ => rw [h] at hs; cases hs
    | rem _ h _ => exact absurd h h35
    | bad _ _ e' => exact absurd e e'
    | full _ _ _ hc' => omega
    | tok _ _ _ _ t' => rw [ih t']
end Go.Proofs.Ytkbjlnmdlolhiaa
