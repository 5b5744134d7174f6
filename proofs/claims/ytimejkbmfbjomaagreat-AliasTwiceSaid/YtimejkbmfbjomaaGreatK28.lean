/- Texts, merged by a program; only what is used. -/
import Derived.Deep.RegionHeld3
import Derived.Test.YtimejkbmfbjomaaGreatK1
import Derived.Test.YtimejkbmfbjomaaGreatK2
import Derived.Test.YtimejkbmfbjomaaGreatK3
import Derived.Test.YtimejkbmfbjomaaGreatK4
import Derived.Test.YtimejkbmfbjomaaGreatK5
import Derived.Test.YtimejkbmfbjomaaGreatK6
import Derived.Test.YtimejkbmfbjomaaGreatK7
import Derived.Test.YtimejkbmfbjomaaGreatK8
import Derived.Test.YtimejkbmfbjomaaGreatK9
import Derived.Test.YtimejkbmfbjomaaGreatK10
import Derived.Test.YtimejkbmfbjomaaGreatK11
import Derived.Test.YtimejkbmfbjomaaGreatK12
import Derived.Test.YtimejkbmfbjomaaGreatK13
import Derived.Test.YtimejkbmfbjomaaGreatK14
import Derived.Test.YtimejkbmfbjomaaGreatK15
import Derived.Test.YtimejkbmfbjomaaGreatK16
import Derived.Test.YtimejkbmfbjomaaGreatK17
import Derived.Test.YtimejkbmfbjomaaGreatK18
import Derived.Test.YtimejkbmfbjomaaGreatK19
import Derived.Test.YtimejkbmfbjomaaGreatK20
import Derived.Test.YtimejkbmfbjomaaGreatK21
import Derived.Test.YtimejkbmfbjomaaGreatK22
import Derived.Test.YtimejkbmfbjomaaGreatK23
import Derived.Test.YtimejkbmfbjomaaGreatK24
import Derived.Test.YtimejkbmfbjomaaGreatK25
import Derived.Test.YtimejkbmfbjomaaGreatK26
import Derived.Test.YtimejkbmfbjomaaGreatK27
namespace Go.Proofs.YtimejkbmfbjomaaGreat
open Go.ChangeShapes Go.WideShapes Go.ChangeAt Go.RowKit Go.Deep
set_option linter.unusedVariables false
set_option linter.unusedSimpArgs false
theorem run_append_texts2 {P : Program} {w : World} (base : Nat) (t ty e : TypeId) (i : TypeInfo) (z : Value) (ht : P.underlying t = some (.slice e)) (hi : P.info? e = some i) (hz : i.zero = some z)
 (hsize : i.size = 1) (hby : i.bytes = 16) (hzs : z.cells.size = 1)
 (v : Value) (n : Nat) (xs : List Value) (hown : w.ownsRow base e 1 v n xs)
 (w0 : World) (Q0 : Nat → Prop) (X : Option Addr) (l : List ByteArray) (m c : Nat) (hm : m = l.length) (hT : TextsI w0 Q0 l (.slice X m c)) (hI : In Q0 w0 w)
 (h63 : n + m ≤ 4000000000000) (hbase : base ≤ w.heap.size) :
 ∃ v' w', (Builtin.append_ #[t, t] ty #[v, .slice X m c]).run P w = .ok v' w' ∧ w'.ownsRow base e 1 v' (n + m) (xs ++ strs l) ∧ w.grownBy w' v.ownBlock ∧ (v'.ownBlock = v.ownBlock ∨ v'.ownBlock = some w.heap.size) := by
 cases X with
 | some ad =>
  obtain ⟨v', w', hr, h2, h3, _, h4⟩ := run_append_own_at (P := P) w base t ty e i z 1 16 ht hi hz hsize hby hzs (by decide) v n xs hown ad m c (strs l) (by simp [strs, hm]) (texts_cells hT hI) (by simp [strs, Value.oneCell']) (by unfold maxLen; omega) (by omega) hbase
  exact ⟨v', w', hr, h2, h3, h4⟩
 | none =>
  obtain ⟨rfl, rfl⟩ := texts_none hT
  obtain ⟨Xf, cf, rfl, hoc, hcx⟩ := own_form hown
  have hXn : Xf = none → n = 0 ∧ cf = 0 := fun e' => by
   subst e'
   rcases hown.2 with ⟨h1, h2⟩ | ⟨g, cap', cur, h1, _⟩
   ·injection h1 with _ h3 h4; exact ⟨h3, h4⟩
   ·cases h1
  refine ⟨_, _, run_append_nil (P := P) (w := w) t ty e i ht hi Xf n cf c hoc hXn, ?_, World.grownBy.refl _ _, ?_⟩
  ·rw [Nat.add_zero]
   simpa [strs] using hown
  ·left
   cases Xf <;> rfl
theorem wpList_append_texts2 {P : Program} {w : World} {ops : Array Oper} {rest : List Oper} {o : Oper} {a : Act} {Q : Exit → Act → World → Prop} (hgd : o.guard = none) (s x : Operand) (t : TypeId)
 (ho : o.op = .call { callee := .builtin .append, args := #[s, x], argTypes := #[t, t] })
 (base : Nat) (e : TypeId) (i : TypeInfo) (z : Value) (ht : P.underlying t = some (.slice e)) (hi : P.info? e = some i) (hz : i.zero = some z)
 (hsize : i.size = 1) (hby : i.bytes = 16) (hzs : z.cells.size = 1)
 (v : Value) (n : Nat) (xs : List Value) (hs : a.eval s = v) (hown : w.ownsRow base e 1 v n xs)
 (w0 : World) (Q0 : Nat → Prop) (X : Option Addr) (l : List ByteArray) (m c : Nat) (hx : a.eval x = .slice X m c) (hm : m = l.length) (hT : TextsI w0 Q0 l (.slice X m c)) (hI : In Q0 w0 w)
 (h63 : n + m ≤ 4000000000000) (hbase : base ≤ w.heap.size)
 (h : ∀ v' w', w'.ownsRow base e 1 v' (n + m) (xs ++ strs l) → w.grownBy w' v.ownBlock → (v'.ownBlock = v.ownBlock ∨ v'.ownBlock = some w.heap.size) → wpList P ops Q rest (a.put o.dst v') w') :
 wpList P ops Q (o :: rest) a w := by
 obtain ⟨v', w', hr, h2, h3, h4⟩ := run_append_texts2 (P := P) (w := w) base t o.type e i z ht hi hz hsize hby hzs v n xs hown w0 Q0 X l m c hm hT hI h63 hbase
 refine wpList_plain hgd fun K hK => ?_
 unfold Oper.wp execOp
 simp only [ho, resolve, invoke, builtin, Sem.run_bind, Sem.run_pure, Result.andThen_ok, List.map_toArray, List.map_cons, List.map_nil, hs, hx, hr]
 exact hK _ _ (h v' w' h2 h3 h4)
theorem in_slf (A : Nat) (W9 : World) : In (fun b => A ≤ b ∧ b < W9.heap.size) W9 W9 := ⟨fun j h => h.2, fun _ _ => rfl⟩
/-- two rows of texts, made since V, in blocks of their own -/
structure TwI (V wr : World) (l m : List ByteArray) (v u : Value) : Prop where
 one : wr.ownsRow V.heap.size 9 1 v l.length (strs l)
 two : wr.ownsRow V.heap.size 9 1 u m.length (strs m)
 dis : ∀ g, v.ownBlock = some g → ¬ u.ownBlock = some g
 below : Below V.heap.size V wr
theorem TwI.nil (V : World) : TwI V V [] [] (.slice none 0 0) (.slice none 0 0) := ⟨World.ownsRow_nil _ _ _ _, World.ownsRow_nil _ _ _ _, fun g h => (by cases h), Below.refl _ _⟩
theorem TwI.step {V wr w' : World} {l m : List ByteArray} {v u : Value} (h : TwI V wr l m v u) (hb : Below wr.heap.size wr w') : TwI V w' l m v u :=
 ⟨(Below.moves hb).row h.one (fun j hj e => Nat.not_lt.2 e (h.one.lt j hj).2), (Below.moves hb).row h.two (fun j hj e => Nat.not_lt.2 e (h.two.lt j hj).2), h.dis, below_step h.below hb⟩
theorem TwI.first {V wr w' : World} {l m a : List ByteArray} {v u v' : Value} (h : TwI V wr l m v u) (hown : w'.ownsRow V.heap.size 9 1 v' (l.length + a.length) (strs l ++ strs a)) (hg : wr.grownBy w' v.ownBlock) (hv : v'.ownBlock = v.ownBlock ∨ v'.ownBlock = some wr.heap.size) : TwI V w' (l ++ a) m v' u := by
 refine ⟨by rw [List.length_append, strs_append]; exact hown, h.two.kept hg ?_, fun g h1 h2 => ?_, h.below.grown hg h.below.size (fun j hj => (h.one.lt j hj).1)⟩
 ·cases hu : u.ownBlock with
  | none => exact .inl rfl
  | some g => exact .inr (fun e => h.dis g e.symm hu)
 ·rcases hv with hv | hv
  ·exact h.dis g (hv.symm.trans h1) h2
  ·rw [hv] at h1
   injection h1 with h1
   exact Nat.lt_irrefl _ (h1 ▸ (h.two.lt g h2).2)
theorem TwI.second {V wr w' : World} {l m a : List ByteArray} {v u u' : Value} (h : TwI V wr l m v u) (hown : w'.ownsRow V.heap.size 9 1 u' (m.length + a.length) (strs m ++ strs a)) (hg : wr.grownBy w' u.ownBlock) (hv : u'.ownBlock = u.ownBlock ∨ u'.ownBlock = some wr.heap.size) : TwI V w' l (m ++ a) v u' := by
 refine ⟨h.one.kept hg ?_, by rw [List.length_append, strs_append]; exact hown, fun g h1 h2 => ?_, h.below.grown hg h.below.size (fun j hj => (h.two.lt j hj).1)⟩
 ·cases hu : v.ownBlock with
  | none => exact .inl rfl
  | some g => exact .inr (fun e => h.dis g hu e.symm)
 ·rcases hv with hv | hv
  ·exact h.dis g h1 (hv.symm.trans h2)
  ·rw [hv] at h2
   injection h2 with h2
   exact Nat.lt_irrefl _ (h2 ▸ (h.one.lt g h1).2)
/-- each but the first is called by one that is there -/
theorem least_called {p : Pg} (h : ChOk p) (hn : ∀ q ∈ p.procs, q.nm.size ≤ maxLen) {q : Pr} (hq : q ∈ p.procs) {l : List ByteArray} (hl : ∀ s, s ∈ l ↔ s.size ≤ maxLen ∧ ∃ f ∈ p.procs, RchP p.procs q f ∧ f.nm = s) {s : ByteArray} (hs : s ∈ l) (hne : s ≠ q.nm) : ∃ f ∈ p.procs, f.nm ∈ l ∧ s ∈ callsOf (preSL f.body) ∧ s.size ≤ maxLen := by
 obtain ⟨hz, f, hf, hr, rfl⟩ := (hl s).1 hs
 cases hr with
 | refl => exact absurd rfl hne
 | step hr1 hf1 hc =>
  rename_i g
  have hg : g ∈ p.procs := by
   cases hr1 with
   | refl => exact hq
   | step _ hf2 _ => exact hf2
  exact ⟨g, hg, (hl _).2 ⟨hn g hg, g, hg, hr1, rfl⟩, hc, hz⟩
end Go.Proofs.YtimejkbmfbjomaaGreat
namespace Go.Proofs.YtimejkbmfbjomaaGreat
open Go.ChangeShapes Go.WideShapes Go.ChangeAt Go.RowKit Go.Deep
set_option linter.unusedVariables false
set_option linter.unusedSimpArgs false
theorem fits_nm {p : Pg} (hf : fitsP p = true) : ∀ q ∈ p.procs, q.nm.size ≤ 281474976710656 := fun q hq => by
 unfold fitsP weighP at hf
 have h := (weighQs_all p.procs _ (of_decide_eq_true hf)).2 q hq
 omega
theorem ck_ok9 {p : Pg} (hc : chkOK p = true) : ChOk p := chk_ok (of_decide_eq_true hc)
theorem fits_hck {p : Pg} (hf : fitsP p = true) (hc : chkOK p = true) : p.procs.length ≤ 16 ∧ ∀ q ∈ p.procs, (saidOf (preSL q.body)).length ≤ 10000000 := by
 have hok := ck_ok9 hc
 obtain ⟨hl1, hl2, hl3⟩ := may_lens hok.may
 refine ⟨hl2, fun q hq => ?_⟩
 unfold fitsP weighP at hf
 have h0 := of_decide_eq_true hf
 obtain ⟨_, h2⟩ := weighQs_full p.procs _ h0
 have hw := (h2 q hq).1
 have hlen := ((may_flat hok.may).1 q hq).2
 have key : ∀ L : List S, (∀ s ∈ L, (saidS s).length ≤ 20000) → (saidOf L).length ≤ L.length * 20000 := by
  intro L
  induction L with
  | nil => intro _; simp [saidOf]
  | cons s L ih =>
   intro h
   have h1 := h s (List.mem_cons_self ..)
   have h2 := ih (fun x hx => h x (List.mem_cons_of_mem _ hx))
   rw [show saidOf (s :: L) = saidS s ++ saidOf L by simp [saidOf], List.length_append, List.length_cons]
   omega
 have h3 := key (preSL q.body) (fun s hs => Nat.le_trans (saidS_w (may_stm hok.may q hq s hs)) (Nat.le_trans (preSL_w _ _ hs) hw))
 have h4 : (preSL q.body).length * 20000 ≤ 200 * 20000 := Nat.mul_le_mul_right _ hlen
 omega
end Go.Proofs.YtimejkbmfbjomaaGreat
namespace Go.Proofs.YtimejkbmfbjomaaGreat
open Go.ChangeShapes Go.WideShapes Go.ChangeAt Go.RowKit
set_option linter.unusedVariables false
theorem small_any (c : UInt8) (w : World) :
    Calls Tryz.prog 151 #[.int .u8 c.toNat] w fun e w' => e = .returned (.bool (isLo c)) ∧ w = w' := by
  go_enter Tryz.func151, Tryz.ntmps151
  go_wp2
  all_goals
    go_ret
    refine ⟨ret_bool ?_, rfl⟩
    simp only [isLo]
    rw [Bool.eq_iff_iff]
    simp only [Bool.and_eq_true, decide_eq_true_eq, Bool.false_eq_true]
    first | omega | (simp only [false_iff, not_and]; intro _; omega)
theorem rdigit_any (c : UInt8) (w : World) :
    Calls Tryz.prog 152 #[.int .u8 c.toNat] w fun e w' => e = .returned (.bool (isDi c)) ∧ w = w' := by
  go_enter Tryz.func152, Tryz.ntmps152
  go_wp2
  all_goals
    go_ret
    refine ⟨ret_bool ?_, rfl⟩
    simp only [isDi]
    rw [Bool.eq_iff_iff]
    simp only [Bool.and_eq_true, decide_eq_true_eq, Bool.false_eq_true]
    first | omega | (simp only [false_iff, not_and]; intro _; omega)
theorem Words_any (w : World) : Calls Tryz.prog 173 #[] w fun e w' => e = .returned (.slice (some ⟨w.heap.size, 0, none⟩) 13 13) ∧ w' = w.alloc (.cells (strCells wds) 9) := by
  go_enter Tryz.func173, Tryz.ntmps173
  go_wp2
  go_ret
  exact ⟨rfl, rfl⟩
set_option maxHeartbeats 4000000 in
theorem rWord_any (s : ByteArray) (w : World) :
    Calls Tryz.prog 153 #[.string s] w fun e w' => e = .returned (.bool (isWd (bl s))) ∧ Below w.heap.size w w' := by
  have hb0 : Below w.heap.size w (w.alloc (.cells (strCells wds) 9)) := (Below.refl _ _).alloc (Nat.le_refl _) _
  have hcell : ∀ k, k < 13 → (w.alloc (.cells (strCells wds) 9)).cell? ⟨w.heap.size, k, none⟩ = some (.string (bs (wdAt wds k))) := fun k hk => str_cell w wds _ k hk
  obtain ⟨W, hW⟩ : ∃ W, W = w.alloc (.cells (strCells wds) 9) := ⟨_, rfl⟩
  have HC := Lib.hid hcell
  have HB := Lib.hid hb0
  rw [← hW] at HC HB
  have HW := Lib.hid hW
  clear hW hcell hb0
  go_enter Tryz.func153, Tryz.ntmps153
  go_wp2_with (go_at_call 173; refine (Words_any _).mono ?_; rintro e w' ⟨rfl, hw'⟩; rw [← HW.out] at hw'; subst hw')
  go_loop [4, 7] (fun _ i => ∃ k : Nat, k ≤ 13 ∧ i = .int .i64 k ∧ Hid ((wds.take k).any (bl s == ·) = false)) (fun _ i => 13 - (intOf i).toNat)
  case atStart => exact ⟨0, Nat.zero_le _, rfl, Lib.hid rfl⟩
  case round =>
    obtain ⟨k, hk, rfl, HA⟩ := hrel
    by_cases hlt : k < 13
    · have hc := HC.out k hlt
      cases he : (bl s == wdAt wds k) with
      | true =>
        have q : ((bs (wdAt wds k)).toList == s.toList) = true := by rw [beq_bytes]; exact he
        have HR := Lib.hid (any_hit (l := wds) hlt he)
        clear he
        go_wp2
        go_ret
        exact ⟨ret_bool HR.out.symm, HB.out⟩
      | false =>
        have q : ((bs (wdAt wds k)).toList == s.toList) = false := by rw [beq_bytes]; exact he
        have HR := Lib.hid (any_take (l := wds) hlt HA.out he)
        clear he
        go_wp2
        go_round
        case rel => exact ⟨k + 1, by omega, by go_num, HR⟩
        case measure => simp [intOf]; omega
    · go_wp2
      go_ret
      refine ⟨ret_bool ?_, HB.out⟩
      have := HA.out
      rw [List.take_of_length_le (by show 13 ≤ k; omega)] at this
      exact this.symm
set_option maxHeartbeats 4000000 in
theorem rName_any (s : ByteArray) (w : World) (hs : s.size ≤ maxLen) :
    Calls Tryz.prog 114 #[.string s] w fun e w' => e = .returned (.bool (isNm (bl s))) ∧ Below w.heap.size w w' := by
  unfold maxLen at hs
  by_cases h0 : s.size = 0
  · rw [nm_zero s h0]
    have hs0 : s = ⟨#[]⟩ := by apply ByteArray.ext; exact Array.eq_empty_of_size_eq_zero h0
    subst hs0
    go_enter Tryz.func114, Tryz.ntmps114
    go_wp2
    go_ret
    exact ⟨rfl, Below.refl _ _⟩
  · have hp : 0 < s.size := by omega
    have q0 : (s.toList == []) = false := by
      rw [bl_toList]
      have hc := bl_at s 0 hp
      rw [List.drop_zero] at hc
      rw [hc]
      rfl
    by_cases h8 : 8 < s.size
    · rw [nm_long s h8]
      clear h0
      go_enter Tryz.func114, Tryz.ntmps114
      go_wp2
      go_ret
      exact ⟨rfl, Below.refl _ _⟩
    · clear h0
      cases hl : isLo s[0] with
      | false =>
        rw [nm_head s hp hl]
        go_enter Tryz.func114, Tryz.ntmps114
        go_wp2_with (go_at_call 151; refine (small_any _ _).mono ?_; rintro e w' ⟨rfl, rfl⟩)
        go_ret
        exact ⟨rfl, Below.refl _ _⟩
      | true =>
        go_enter Tryz.func114, Tryz.ntmps114
        go_wp2_with (go_at_call 151; refine (small_any _ _).mono ?_; rintro e w' ⟨rfl, rfl⟩)
        go_loop [3] (fun i => ∃ k : Nat, 1 ≤ k ∧ k ≤ s.size ∧ i = .int .i64 k ∧ Hid (∀ j (hj : j < s.size), j < k → isLD s[j] = true)) (fun i => s.size - (intOf i).toNat)
        case atStart => exact ⟨1, Nat.le_refl _, by omega, rfl, Lib.hid (fun j hj h => by
          obtain rfl : j = 0 := by omega
          exact isLD_of_lo hl)⟩
        case round =>
          obtain ⟨k, hk1, hk, rfl, HA⟩ := hrel
          by_cases hlt : k < s.size
          · cases hld : isLD s[k] with
            | true =>
              have HA' : Hid (∀ j (hj : j < s.size), j < k + 1 → isLD s[j] = true) := Lib.hid (fun j hj h => by
                by_cases e : j = k
                · subst e; exact hld
                · exact HA.out j hj (by omega))
              rcases ld_cases hld with hl1 | ⟨hl1, hd1⟩
              all_goals
                clear hld
                go_wp2_with (first
                  | (go_at_call 151; refine (small_any _ _).mono ?_; rintro e w' ⟨rfl, rfl⟩)
                  | (go_at_call 152; refine (rdigit_any _ _).mono ?_; rintro e w' ⟨rfl, rfl⟩))
                go_round
                case rel => exact ⟨k + 1, by omega, by omega, by go_num, HA'⟩
                case measure => simp [intOf]; omega
            | false =>
              have HN := Lib.hid (nm_in s k hlt hld)
              obtain ⟨hl1, hd1⟩ := ld_false hld
              clear hld
              go_wp2_with (first
                | (go_at_call 151; refine (small_any _ _).mono ?_; rintro e w' ⟨rfl, rfl⟩)
                | (go_at_call 152; refine (rdigit_any _ _).mono ?_; rintro e w' ⟨rfl, rfl⟩))
              go_ret
              exact ⟨ret_bool HN.out.symm, Below.refl _ _⟩
          · have HN := Lib.hid (nm_all s hp (by omega) hl (fun j hj => HA.out j hj (by omega)))
            go_wp2_with (go_at_call 153; refine (rWord_any _ _).mono ?_; rintro e w' ⟨rfl, hb⟩)
            go_ret
            exact ⟨ret_bool HN.out.symm, hb⟩
end Go.Proofs.YtimejkbmfbjomaaGreat
namespace Go.Proofs.YtimejkbmfbjomaaGreat
open Go.ChangeShapes Go.WideShapes Go.ChangeAt Go.RowKit Go.Deep
set_option linter.unusedVariables false
theorem Arity_any (op : Int) (w : World) : Calls Tryz.prog 166 #[.int .i64 op] w fun e w' => e = .returned (.int .i64 (arN op)) ∧ w = w' := by
  unfold arN opN
  by_cases h1 : op = 1
  · subst h1
    go_enter Tryz.func166, Tryz.ntmps166
    go_wp2
    go_ret
    exact ⟨rfl, rfl⟩
  · by_cases h2 : op = 2
    · subst h2
      go_enter Tryz.func166, Tryz.ntmps166
      go_wp2
      go_ret
      exact ⟨rfl, rfl⟩
    · by_cases h3 : op = 3
      · subst h3
        go_enter Tryz.func166, Tryz.ntmps166
        go_wp2
        go_ret
        exact ⟨rfl, rfl⟩
      · by_cases h4 : op = 4
        · subst h4
          go_enter Tryz.func166, Tryz.ntmps166
          go_wp2
          go_ret
          exact ⟨rfl, rfl⟩
        · rw [if_neg (by omega), if_neg (by omega)]
          have q1 : (op == 1) = false := beq_eq_false_iff_ne.2 h1
          have q2 : (op == 2) = false := beq_eq_false_iff_ne.2 h2
          have q3 : (op == 3) = false := beq_eq_false_iff_ne.2 h3
          have q4 : (op == 4) = false := beq_eq_false_iff_ne.2 h4
          clear h1 h2 h3 h4
          by_cases h5 : 5 ≤ op ∧ op ≤ 17
          · rw [if_pos h5]
            obtain ⟨h5, h6⟩ := h5
            go_enter Tryz.func166, Tryz.ntmps166
            go_wp2
            go_ret
            exact ⟨rfl, rfl⟩
          · rw [if_neg h5]
            by_cases h6 : 5 ≤ op
            · have h7 : ¬ op ≤ 17 := by omega
              clear h5
              go_enter Tryz.func166, Tryz.ntmps166
              go_wp2
              go_ret
              exact ⟨rfl, rfl⟩
            · clear h5
              go_enter Tryz.func166, Tryz.ntmps166
              go_wp2
              go_ret
              exact ⟨rfl, rfl⟩
set_option maxHeartbeats 1000000 in
theorem deep_any {w : World} {Q : Nat → Prop} {e : E} {cs : List Value} (h : ExprI w Q e cs) : ∀ (c0 c1 c2 c3 : Value), cs = [c0, c1, c2, c3] → ∀ (d : Int) (W : World), 0 ≤ d → d ≤ 100 → In Q w W →
    Calls Tryz.prog 126 #[.agg #[c0, c1, c2, c3], .int .i64 d] W (IntOk (deepN d.toNat e) W) := by
  induction h with
  | @mk op n nm ks A cap css hop hn hnm hcap hA hk ih =>
    intro c0 c1 c2 c3 hcs d W hdl hd hI
    simp only [List.cons.injEq, and_true] at hcs
    obtain ⟨rfl, rfl, rfl, rfl⟩ := hcs
    unfold i64 at hop hn
    have HA := Lib.hid hA
    have HK := Lib.hid hk
    have IH := Lib.hid ih
    have HI := Lib.hid hI
    clear hA hk ih hI
    by_cases hd0 : d = 0
    · subst hd0
      have HM : Hid (deepN (0 : Int).toNat (.mk op n nm ks) = 1) := Lib.hid (by have := depE_pos (.mk op n nm ks); simp only [deepN]; omega)
      go_enter Tryz.func126, Tryz.ntmps126
      go_wp2_with fail
      go_ret
      exact ⟨ret_int (by rw [HM.out]; rfl), below_box _⟩
    · have qd : (d == 0) = false := beq_eq_false_iff_ne.2 hd0
      have hd1 : 1 ≤ d := by omega
      clear hd0
      go_enter Tryz.func126, Tryz.ntmps126
      go_wp2_with fail
      have HB1 : Hid (Below W.heap.size W (W.alloc (.cells #[.int .i64 op, .int .i64 n, .string nm, .slice A ks.length cap] 46))) := Lib.hid (below_box _)
      have HQ3 : Hid ((W.alloc (.cells #[.int .i64 op, .int .i64 n, .string nm, .slice A ks.length cap] 46)).cell? ⟨W.heap.size, 3, none⟩ = some (.slice A ks.length cap)) := Lib.hid (by simp)
      have hsz : W.heap.size < (W.alloc (.cells #[.int .i64 op, .int .i64 n, .string nm, .slice A ks.length cap] 46)).heap.size := by simp
      generalize W.alloc _ = W1 at HB1 HQ3 hsz ⊢
      go_loopw [5, 6] (fun m i wr => ∃ (k : Nat) (q : Int), k ≤ ks.length ∧ i = .int .i64 k ∧ m = .int .i64 q ∧ 0 ≤ q ∧ q ≤ d ∧ Hid (max q.toNat (min (depL (ks.drop k)) d.toNat) = min (depL ks) d.toNat) ∧ Hid (Below W1.heap.size W1 wr)) (fun _ i _ => ks.length - (intOf i).toNat)
      case atStart => exact ⟨0, 0, Nat.zero_le _, rfl, rfl, by omega, by omega, Lib.hid (by rw [List.drop_zero]; simp), Lib.hid (Below.refl _ _)⟩
      case round =>
        obtain ⟨k, q, hk, rfl, rfl, hq0, hqd, HW, HR⟩ := hrel
        have q3 : wr.cell? ⟨W.heap.size, 3, none⟩ = some (.slice A ks.length cap) := (HR.out.cell (p := ⟨W.heap.size, 3, none⟩) hsz).trans HQ3.out
        have hrz := HR.out.size
        by_cases hlt : k < ks.length
        · by_cases hq2 : q < d
          · have hIr : In Q w wr := HI.out.on (HB1.out.trans (HR.out.mono HB1.out.size))
            obtain ⟨a, o1, n1, s1, A1, l1, k1, rfl, hd', p0, p1, p2, p3⟩ := kid_at HA.out HK.out hIr hlt
            have HC := Lib.hid (IH.out k hlt _ _ _ _ hd' (d - 1))
            have HIr := Lib.hid hIr
            clear hd' hIr
            have HN : Hid (max q.toNat (min (depL (ks.drop k)) d.toNat) = max (max q.toNat (deepN (d - 1).toNat ks[k])) (min (depL (ks.drop (k + 1))) d.toNat)) := Lib.hid (by rw [depL_drop hlt, deepN]; omega)
            obtain ⟨v, hv⟩ : ∃ v : Nat, v = deepN (d - 1).toNat ks[k] := ⟨_, rfl⟩
            have hv2 : v ≤ d.toNat := by rw [hv, deepN]; omega
            rw [← hv] at HC HN
            clear hv
            by_cases hvq : q < (v : Int)
            · go_wp2_with (go_at_call 126; refine (HC.out _ (by omega) (by omega) HIr.out).mono ?_; rintro e w2 ⟨rfl, hb2⟩)
              go_roundw
              case rel => exact ⟨k + 1, v, by omega, by go_num, rfl, by omega, by omega, Lib.hid (by rw [← HW.out, HN.out]; omega), Lib.hid (HR.out.trans (hb2.mono HR.out.size))⟩
              case measure => simp [intOf]; omega
            · go_wp2_with (go_at_call 126; refine (HC.out _ (by omega) (by omega) HIr.out).mono ?_; rintro e w2 ⟨rfl, hb2⟩)
              go_roundw
              case rel => exact ⟨k + 1, q, by omega, by go_num, rfl, by omega, by omega, Lib.hid (by rw [← HW.out, HN.out]; omega), Lib.hid (HR.out.trans (hb2.mono HR.out.size))⟩
              case measure => simp [intOf]; omega
          · have HN : Hid ((deepN d.toNat (.mk op n nm ks) : Int) = q + 1) := Lib.hid (by have := HW.out; rw [deepN, depE]; omega)
            go_wp2_with fail
            go_ret
            exact ⟨ret_int (by rw [HN.out]), HB1.out.trans (HR.out.mono HB1.out.size)⟩
        · have HN : Hid ((deepN d.toNat (.mk op n nm ks) : Int) = q + 1) := Lib.hid (by have := HW.out; rw [List.drop_of_length_le (by omega), depL] at this; rw [deepN, depE]; omega)
          go_wp2_with fail
          go_ret
          exact ⟨ret_int (by rw [HN.out]), HB1.out.trans (HR.out.mono HB1.out.size)⟩
set_option maxHeartbeats 2000000 in
theorem form_any {w : World} {Q : Nat → Prop} {e : E} {cs : List Value} (h : ExprI w Q e cs) : ∀ (c0 c1 c2 c3 : Value), cs = [c0, c1, c2, c3] → ∀ (W : World), In Q w W →
    Calls Tryz.prog 127 #[.agg #[c0, c1, c2, c3]] W (MayOk (formE e) W) := by
  induction h with
  | @mk op n nm ks A cap css hop hn hnm hcap hA hk ih =>
    intro c0 c1 c2 c3 hcs W hI
    simp only [List.cons.injEq, and_true] at hcs
    obtain ⟨rfl, rfl, rfl, rfl⟩ := hcs
    unfold i64 at hop hn
    have HA := Lib.hid hA
    have HK := Lib.hid hk
    have IH := Lib.hid ih
    have HI := Lib.hid hI
    clear hA hk ih hI
    have he := toList_emp nm
    have hbn := toList_bne nm
    cases b1 : (arN op == ((ks.length : Nat) : Int)) with
    | false =>
      have HM : Hid (formE (.mk op n nm ks) = false) := Lib.hid (form_of (b := false) (by simp at b1; simp [b1]))
      have c1 := bne_of b1
      rw [Bool.not_false] at c1
      clear he hbn
      go_enter Tryz.func127, Tryz.ntmps127
      go_wp2_with fail
      go_quiet ((go_at_call 166; exact quiet_same (Arity_any _ _)))
      go_wp2_with fail
      go_ret
      exact ⟨ret_bool HM.out.symm, below_drewN (below_box _) _⟩
    | true =>
      have c1 := bne_of b1
      rw [Bool.not_true] at c1
      cases b23 : ((op != 1) && (n != 0)) with
      | true =>
        have HM : Hid (formE (.mk op n nm ks) = false) := Lib.hid (form_of (b := false) (by simp at b23; simp [b23]))
        rw [Bool.and_eq_true] at b23
        obtain ⟨b2, b3⟩ := b23
        clear he hbn
        go_enter Tryz.func127, Tryz.ntmps127
        go_wp2_with fail
        go_quiet ((go_at_call 166; exact quiet_same (Arity_any _ _)))
        go_wp2_with fail
        go_ret
        exact ⟨ret_bool HM.out.symm, below_drewN (below_box _) _⟩
      | false =>
        have hon : op = 1 ∨ n = 0 := by simp at b23; omega
        cases b4 : decide (n < 0) with
        | true =>
          have HM : Hid (formE (.mk op n nm ks) = false) := Lib.hid (form_of (b := false) (by
            have : ¬ 0 ≤ n := by simpa using b4
            simp [this]))
          cases b2 : (op != 1) with
          | true =>
            have b3 : (n != 0) = false := by rw [b2] at b23; simpa using b23
            clear he hbn b23 hon
            go_enter Tryz.func127, Tryz.ntmps127
            go_wp2_with fail
            go_quiet ((go_at_call 166; exact quiet_same (Arity_any _ _)))
            go_wp2_with fail
            go_ret
            exact ⟨ret_bool HM.out.symm, below_drewN (below_box _) _⟩
          | false =>
            clear he hbn b23 hon
            go_enter Tryz.func127, Tryz.ntmps127
            go_wp2_with fail
            go_quiet ((go_at_call 166; exact quiet_same (Arity_any _ _)))
            go_wp2_with fail
            go_ret
            exact ⟨ret_bool HM.out.symm, below_drewN (below_box _) _⟩
        | false =>
          have hn0 : 0 ≤ n := by simpa using b4
          have hn1 : decide (0 ≤ n) = true := by simpa using hn0
          cases b6 : decide (nm.size = 0) with
          | true =>
            rw [b6] at he hbn
            rw [Bool.not_true] at hbn
            cases b5 : (op == 2) with
            | true =>
              have HM : Hid (formE (.mk op n nm ks) = false) := Lib.hid (form_of (b := false) (by simp at b5 b6; simp [b5, b6]))
              have b2 : (op != 1) = true := by simp at b5; subst b5; rfl
              have b3 : (n != 0) = false := by rw [b2] at b23; simpa using b23
              clear b23 hon b6
              go_enter Tryz.func127, Tryz.ntmps127
              go_wp2_with fail
              go_quiet ((go_at_call 166; exact quiet_same (Arity_any _ _)))
              go_wp2_with fail
              go_ret
              exact ⟨ret_bool HM.out.symm, below_drewN (below_box _) _⟩
            | false =>
              have HM : Hid (formE (.mk op n nm ks) = formL ks) := Lib.hid (by rw [form_of (b := true) (by simp at b5 b6 b1; simp [b5, b6, b1, hon, hn0])]; rfl)
              cases b2 : (op != 1) with
              | true =>
                have b3 : (n != 0) = false := by rw [b2] at b23; simpa using b23
                clear b23 hon b6
                go_enter Tryz.func127, Tryz.ntmps127
                go_wp2_with fail
                go_quiet ((go_at_call 166; exact quiet_same (Arity_any _ _)))
                have HB1 : Hid (Below W.heap.size W ((W.alloc (.cells #[.int .i64 op, .int .i64 n, .string nm, .slice A ks.length cap] 46)).drewN nq)) := Lib.hid (below_drewN (below_box _) _)
                have HQ3 : Hid (((W.alloc (.cells #[.int .i64 op, .int .i64 n, .string nm, .slice A ks.length cap] 46)).drewN nq).cell? ⟨W.heap.size, 3, none⟩ = some (.slice A ks.length cap)) := Lib.hid (by simp)
                have hsz : W.heap.size < ((W.alloc (.cells #[.int .i64 op, .int .i64 n, .string nm, .slice A ks.length cap] 46)).drewN nq).heap.size := by simp
                generalize World.drewN _ nq = W1 at HB1 HQ3 hsz ⊢
                have q3' := HQ3.out
                go_wp2_with fail
                clear q3'
                go_loopw [49] (fun i wr => ∃ k : Nat, k ≤ ks.length ∧ i = .int .i64 k ∧ Hid (formL (ks.drop k) = formL ks) ∧ Hid (Below W1.heap.size W1 wr)) (fun i _ => ks.length - (intOf i).toNat)
                case atStart => exact ⟨0, Nat.zero_le _, rfl, Lib.hid (by rw [List.drop_zero]), Lib.hid (Below.refl _ _)⟩
                case round =>
                  obtain ⟨k, hk, rfl, HW, HR⟩ := hrel
                  have q3 : wr.cell? ⟨W.heap.size, 3, none⟩ = some (.slice A ks.length cap) := (HR.out.cell (p := ⟨W.heap.size, 3, none⟩) hsz).trans HQ3.out
                  have hrz := HR.out.size
                  by_cases hlt : k < ks.length
                  · have hIr : In Q w wr := HI.out.on (HB1.out.trans (HR.out.mono HB1.out.size))
                    obtain ⟨a, o1, n1, s1, A1, l1, k1, rfl, hd', p0, p1, p2, p3⟩ := kid_at HA.out HK.out hIr hlt
                    have HC := Lib.hid (IH.out k hlt _ _ _ _ hd')
                    have HIr := Lib.hid hIr
                    clear hd' hIr
                    have HN : Hid (formL ks = (formE ks[k] && formL (ks.drop (k + 1)))) := Lib.hid (by rw [← formL_drop hlt, HW.out])
                    cases hv : formE ks[k] with
                    | true =>
                      rw [hv] at HC HN
                      clear hv
                      go_wp2_with (go_at_call 127; refine (HC.out _ HIr.out).mono ?_; rintro e w2 ⟨rfl, hb2⟩)
                      go_roundw
                      case rel => exact ⟨k + 1, by omega, by go_num, Lib.hid (by rw [HN.out, Bool.true_and]), Lib.hid (HR.out.trans (hb2.mono HR.out.size))⟩
                      case measure => simp [intOf]; omega
                    | false =>
                      rw [hv] at HC HN
                      clear hv
                      go_wp2_with (go_at_call 127; refine (HC.out _ HIr.out).mono ?_; rintro e w2 ⟨rfl, hb2⟩)
                      go_ret
                      exact ⟨ret_bool (by rw [HM.out, HN.out]; rfl), HB1.out.trans ((HR.out.trans (hb2.mono HR.out.size)).mono HB1.out.size)⟩
                  · have HN : Hid (formL ks = true) := Lib.hid (by
                      have h1 := HW.out
                      rw [List.drop_of_length_le (by omega), formL] at h1
                      exact h1.symm)
                    go_wp2_with fail
                    go_ret
                    exact ⟨ret_bool (by rw [HM.out, HN.out]), HB1.out.trans (HR.out.mono HB1.out.size)⟩
              | false =>
                clear b23 hon b6
                go_enter Tryz.func127, Tryz.ntmps127
                go_wp2_with fail
                go_quiet ((go_at_call 166; exact quiet_same (Arity_any _ _)))
                have HB1 : Hid (Below W.heap.size W ((W.alloc (.cells #[.int .i64 op, .int .i64 n, .string nm, .slice A ks.length cap] 46)).drewN nq)) := Lib.hid (below_drewN (below_box _) _)
                have HQ3 : Hid (((W.alloc (.cells #[.int .i64 op, .int .i64 n, .string nm, .slice A ks.length cap] 46)).drewN nq).cell? ⟨W.heap.size, 3, none⟩ = some (.slice A ks.length cap)) := Lib.hid (by simp)
                have hsz : W.heap.size < ((W.alloc (.cells #[.int .i64 op, .int .i64 n, .string nm, .slice A ks.length cap] 46)).drewN nq).heap.size := by simp
                generalize World.drewN _ nq = W1 at HB1 HQ3 hsz ⊢
                have q3' := HQ3.out
                go_wp2_with fail
                clear q3'
                go_loopw [49] (fun i wr => ∃ k : Nat, k ≤ ks.length ∧ i = .int .i64 k ∧ Hid (formL (ks.drop k) = formL ks) ∧ Hid (Below W1.heap.size W1 wr)) (fun i _ => ks.length - (intOf i).toNat)
                case atStart => exact ⟨0, Nat.zero_le _, rfl, Lib.hid (by rw [List.drop_zero]), Lib.hid (Below.refl _ _)⟩
                case round =>
                  obtain ⟨k, hk, rfl, HW, HR⟩ := hrel
                  have q3 : wr.cell? ⟨W.heap.size, 3, none⟩ = some (.slice A ks.length cap) := (HR.out.cell (p := ⟨W.heap.size, 3, none⟩) hsz).trans HQ3.out
                  have hrz := HR.out.size
                  by_cases hlt : k < ks.length
                  · have hIr : In Q w wr := HI.out.on (HB1.out.trans (HR.out.mono HB1.out.size))
                    obtain ⟨a, o1, n1, s1, A1, l1, k1, rfl, hd', p0, p1, p2, p3⟩ := kid_at HA.out HK.out hIr hlt
                    have HC := Lib.hid (IH.out k hlt _ _ _ _ hd')
                    have HIr := Lib.hid hIr
                    clear hd' hIr
                    have HN : Hid (formL ks = (formE ks[k] && formL (ks.drop (k + 1)))) := Lib.hid (by rw [← formL_drop hlt, HW.out])
                    cases hv : formE ks[k] with
                    | true =>
                      rw [hv] at HC HN
                      clear hv
                      go_wp2_with (go_at_call 127; refine (HC.out _ HIr.out).mono ?_; rintro e w2 ⟨rfl, hb2⟩)
                      go_roundw
                      case rel => exact ⟨k + 1, by omega, by go_num, Lib.hid (by rw [HN.out, Bool.true_and]), Lib.hid (HR.out.trans (hb2.mono HR.out.size))⟩
                      case measure => simp [intOf]; omega
                    | false =>
                      rw [hv] at HC HN
                      clear hv
                      go_wp2_with (go_at_call 127; refine (HC.out _ HIr.out).mono ?_; rintro e w2 ⟨rfl, hb2⟩)
                      go_ret
                      exact ⟨ret_bool (by rw [HM.out, HN.out]; rfl), HB1.out.trans ((HR.out.trans (hb2.mono HR.out.size)).mono HB1.out.size)⟩
                  · have HN : Hid (formL ks = true) := Lib.hid (by
                      have h1 := HW.out
                      rw [List.drop_of_length_le (by omega), formL] at h1
                      exact h1.symm)
                    go_wp2_with fail
                    go_ret
                    exact ⟨ret_bool (by rw [HM.out, HN.out]), HB1.out.trans (HR.out.mono HB1.out.size)⟩
          | false =>
            rw [b6] at he hbn
            rw [Bool.not_false] at hbn
            cases b5 : (op == 2) with
            | false =>
              have HM : Hid (formE (.mk op n nm ks) = false) := Lib.hid (form_of (b := false) (by simp at b5 b6; simp [b5, b6]))
              cases b2 : (op != 1) with
              | true =>
                have b3 : (n != 0) = false := by rw [b2] at b23; simpa using b23
                clear b23 hon b6
                go_enter Tryz.func127, Tryz.ntmps127
                go_wp2_with fail
                go_quiet ((go_at_call 166; exact quiet_same (Arity_any _ _)))
                go_wp2_with fail
                go_ret
                exact ⟨ret_bool HM.out.symm, below_drewN (below_box _) _⟩
              | false =>
                clear b23 hon b6
                go_enter Tryz.func127, Tryz.ntmps127
                go_wp2_with fail
                go_quiet ((go_at_call 166; exact quiet_same (Arity_any _ _)))
                go_wp2_with fail
                go_ret
                exact ⟨ret_bool HM.out.symm, below_drewN (below_box _) _⟩
            | true =>
              have b2 : (op != 1) = true := by simp at b5; subst b5; rfl
              have b3 : (n != 0) = false := by rw [b2] at b23; simpa using b23
              have hl0 : ks.length = 0 := by
                have h1 : arN op = (ks.length : Int) := by simpa using b1
                have h2 : op = 2 := by simpa using b5
                rw [h2] at h1
                have h3 : arN 2 = 0 := rfl
                omega
              have hl1 : ks.length ≤ 0 := by omega
              clear hl0
              have HM : Hid (formE (.mk op n nm ks) = (isNm (bl nm) && formL ks)) := Lib.hid (form_of (b := isNm (bl nm)) (by
                rw [decide_eq_true (by simpa using b1), decide_eq_true hon, decide_eq_true hn0, b6, decide_eq_true (by simpa using b5)]; simp))
              clear b23 hon b6
              go_enter Tryz.func127, Tryz.ntmps127
              go_wp2_with fail
              go_region_held3 (fun w' => w'.cell? ⟨W.heap.size, 0, none⟩ = some (.int .i64 op) ∧ w'.cell? ⟨W.heap.size, 1, none⟩ = some (.int .i64 n) ∧ w'.cell? ⟨W.heap.size, 2, none⟩ = some (.string nm) ∧ w'.cell? ⟨W.heap.size, 3, none⟩ = some (.slice A ks.length cap))
                (go_keep)
                (first
                  | ((go_at_call 166; refine (Arity_any _ _).mono ?_; rintro e w' ⟨rfl, rfl⟩))
                  | ((go_at_call 114; refine (rName_any _ _ (by unfold maxLen; omega)).mono ?_; rintro e w2 ⟨rfl, hb2⟩; have hc2 := (bcell hb2).1)))
              have HB1 : Hid (Below W.heap.size W w2) := Lib.hid ((below_drewN (below_box _) 1).trans (hb2.mono (by simp)))
              have HQ3 : Hid (w2.cell? ⟨W.heap.size, 3, none⟩ = some (.slice A ks.length cap)) := Lib.hid (by rename_i hh; exact hh.2.2.2)
              have hsz : W.heap.size < w2.heap.size := World.block_lt_of_cell? w2 _ HQ3.out
              clear hb2 hc2
              generalize w2 = W1 at *
              cases hv : isNm (bl nm) with
              | false =>
                go_wp2_with fail
                go_ret
                exact ⟨ret_bool (by rw [HM.out, hv]; rfl), HB1.out⟩
              | true =>
                rw [hv, Bool.true_and] at HM
                go_wp2_with fail
                go_loopw [49] (fun i wr => ∃ k : Nat, k ≤ ks.length ∧ i = .int .i64 k ∧ Hid (formL (ks.drop k) = formL ks) ∧ Hid (Below W1.heap.size W1 wr)) (fun i _ => ks.length - (intOf i).toNat)
                case atStart => exact ⟨0, Nat.zero_le _, rfl, Lib.hid (by rw [List.drop_zero]), Lib.hid (Below.refl _ _)⟩
                case round =>
                  obtain ⟨k, hk, rfl, HW, HR⟩ := hrel
                  have q3 : wr.cell? ⟨W.heap.size, 3, none⟩ = some (.slice A ks.length cap) := (HR.out.cell (p := ⟨W.heap.size, 3, none⟩) hsz).trans HQ3.out
                  have hrz := HR.out.size
                  have hlt : ¬ k < ks.length := by omega
                  have HN : Hid (formL ks = true) := Lib.hid (by
                    have h1 := HW.out
                    rw [List.drop_of_length_le (by omega), formL] at h1
                    exact h1.symm)
                  go_wp2_with fail
                  go_ret
                  exact ⟨ret_bool (by rw [HM.out, HN.out]), HB1.out.trans (HR.out.mono HB1.out.size)⟩
theorem rMayExpr_any {w : World} {Q : Nat → Prop} {e : E} {c0 c1 c2 c3 : Value} (h : ExprI w Q e [c0, c1, c2, c3]) (W : World) (hI : In Q w W) :
    Calls Tryz.prog 100 #[.agg #[c0, c1, c2, c3]] W (MayOk (mayE 20 e) W) := by
  have HC := Lib.hid (deep_any h c0 c1 c2 c3 rfl 20)
  have HF := Lib.hid (form_any h c0 c1 c2 c3 rfl)
  have HI := Lib.hid hI
  have HM := Lib.hid (mayE_eq e 20)
  obtain ⟨d0, d1, d2, d3, l3, k3, hd'⟩ := h.form
  simp only [List.cons.injEq, and_true] at hd'
  obtain ⟨rfl, rfl, rfl, rfl⟩ := hd'
  clear h hI
  have hdd : deepN (20 : Int).toNat e = min (depE e) 21 := rfl
  rw [hdd] at HC
  by_cases hd : depE e ≤ 20
  · rw [decide_eq_true hd, Bool.true_and] at HM
    rw [Nat.min_eq_left (by omega)] at HC
    generalize depE e = dd at *
    clear hdd
    go_enter Tryz.func100, Tryz.ntmps100
    go_wp2_with (first
      | (go_at_call 126; refine (HC.out _ (by omega) (by omega) (HI.out.alloc _)).mono ?_; rintro e' w2 ⟨rfl, hb2⟩; have hc2 := (bcell hb2).1)
      | (go_at_call 127; refine (HF.out _ ((HI.out.alloc _).on hb2)).mono ?_; rintro e' w3 ⟨rfl, hb3⟩))
    go_ret
    exact ⟨ret_bool HM.out.symm, below_new (hb2.trans (hb3.mono hb2.size))⟩
  · rw [decide_eq_false hd, Bool.false_and] at HM
    rw [Nat.min_eq_right (by omega)] at HC
    clear hdd hd
    go_enter Tryz.func100, Tryz.ntmps100
    go_wp2_with (first
      | (go_at_call 126; refine (HC.out _ (by omega) (by omega) (HI.out.alloc _)).mono ?_; rintro e' w2 ⟨rfl, hb2⟩; have hc2 := (bcell hb2).1))
    go_ret
    exact ⟨ret_bool HM.out.symm, below_new hb2⟩
end Go.Proofs.YtimejkbmfbjomaaGreat
