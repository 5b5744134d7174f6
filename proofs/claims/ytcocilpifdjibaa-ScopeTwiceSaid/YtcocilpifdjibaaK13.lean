/- Texts, merged by a program; only what is used. -/
import Derived.Deep.RegionHeld3
import Derived.Test.YtcocilpifdjibaaK1
import Derived.Test.YtcocilpifdjibaaK2
import Derived.Test.YtcocilpifdjibaaK3
import Derived.Test.YtcocilpifdjibaaK4
import Derived.Test.YtcocilpifdjibaaK5
import Derived.Test.YtcocilpifdjibaaK6
import Derived.Test.YtcocilpifdjibaaK7
import Derived.Test.YtcocilpifdjibaaK8
import Derived.Test.YtcocilpifdjibaaK9
import Derived.Test.YtcocilpifdjibaaK10
import Derived.Test.YtcocilpifdjibaaK11
import Derived.Test.YtcocilpifdjibaaK12
namespace Go.Proofs.Ytcocilpifdjibaa
open Go.ChangeShapes Go.WideShapes Go.ChangeAt Go.RowKit Go.Deep
set_option linter.unusedVariables false
theorem flat_at {C : Nat} : ∀ {rows : List (List Value)}, (∀ r ∈ rows, r.length = C) → ∀ i j, i < rows.length → j < C → rows.flatten[i * C + j]? = (rows.getD i [])[j]?
  | [], _, i, j, hi, _ => absurd hi (by simp)
  | r :: rs, h, 0, j, _, hj => by
    have hr := h r (List.mem_cons_self ..)
    rw [List.flatten_cons, Nat.zero_mul, Nat.zero_add, List.getElem?_append_left (by omega)]
    rfl
  | r :: rs, h, i + 1, j, hi, hj => by
    have hr := h r (List.mem_cons_self ..)
    rw [List.flatten_cons, List.getElem?_append_right (by rw [hr, Nat.succ_mul]; omega)]
    have he : (i + 1) * C + j - r.length = i * C + j := by rw [hr, Nat.succ_mul]; omega
    rw [he, flat_at (fun q hq => h q (List.mem_cons_of_mem _ hq)) i j (by simpa using hi) hj]
    rfl
theorem All2.mem_len {α : Type} {R : α → List Value → Prop} {C : Nat} (hC : ∀ x cs, R x cs → cs.length = C) : ∀ {l : List α} {rows : List (List Value)}, All2 R l rows → ∀ r ∈ rows, r.length = C
  | [], [], _, r, hr => absurd hr (by simp)
  | x :: l, c :: cs, h, r, hr => by
    rcases List.mem_cons.1 hr with rfl | hr
    · exact hC _ _ h.1
    · exact All2.mem_len hC h.2 r hr
theorem All2.imp {α : Type} {R R' : α → List Value → Prop} (hi : ∀ x cs, R x cs → R' x cs) : ∀ {l : List α} {rows : List (List Value)}, All2 R l rows → All2 R' l rows
  | [], [], _ => trivial
  | x :: l, c :: cs, h => ⟨hi _ _ h.1, All2.imp hi h.2⟩
theorem All2.snoc {α : Type} {R : α → List Value → Prop} {y : α} {cy : List Value} (hy : R y cy) : ∀ {l : List α} {rows : List (List Value)}, All2 R l rows → All2 R (l ++ [y]) (rows ++ [cy])
  | [], [], _ => ⟨hy, trivial⟩
  | x :: l, c :: cs, h => ⟨h.1, All2.snoc hy h.2⟩
/-- a row of the call's own whose elements read: a slice -/
theorem slice_of_own {α : Type} {w : World} {base : Nat} {e : TypeId} {C : Nat} {v : Value} {l : List α} {rows : List (List Value)} {R : α → List Value → Prop} (h : w.ownsRow base e C v l.length rows.flatten) (hr : All2 R l rows) (hC : ∀ x cs, R x cs → cs.length = C) :
    SliceI w (fun b => base ≤ b ∧ b < w.heap.size) C R l v := by
  rcases h.2 with ⟨rfl, hn⟩ | ⟨g, cap, cur, rfl, hb, hg, hnc, hcm, hcs, htk⟩
  · obtain rfl : l = [] := List.eq_nil_of_length_eq_zero hn
    exact ⟨none, 0, fun _ => [], rfl, ⟨Nat.le_refl _, by omega⟩, fun h => absurd h (by simp), fun i h => absurd h (by simp)⟩
  · unfold maxLen at hcm
    refine ⟨some ⟨g, 0, none⟩, cap, fun i => rows.getD i [], rfl, ⟨hnc, by omega⟩, fun h0 => ⟨_, rfl, ⟨hb, ?_⟩, fun i hi j u hu => ?_⟩, hr.at_⟩
    · have hb' : Blk w g e cur := hg
      exact hb'.lt
    · have hm := hr.mem_len hC
      have hlen := hr.len
      have hrl : (rows.getD i []).length = C := by
        have : rows.getD i [] ∈ rows := by
          rw [List.getD_eq_getElem?_getD, List.getElem?_eq_getElem (by omega)]
          exact List.getElem_mem _
        exact hm _ this
      have hj : j < C := by have := (List.getElem?_eq_some_iff.1 hu).1; rw [← hrl]; exact this
      have h1 := flat_at hm i j (by omega) hj
      rw [← htk, hu] at h1
      have h2 : i * C + j < l.length * C := by
        have : (i + 1) * C ≤ l.length * C := Nat.mul_le_mul_right C (by omega)
        rw [Nat.succ_mul] at this
        omega
      rw [List.getElem?_take_of_lt h2] at h1
      have hb' : Blk w g e cur := hg
      have hadd : (⟨g, 0, none⟩ : Addr).add (i * C + j) = ⟨g, i * C + j, none⟩ := by
        by_cases hz : i * C + j = 0
        · rw [hz, add_zero_]
        · rw [add_ne _ hz]; simp
      rw [hadd, hb'.cell]
      simpa using h1
section
variable {α : Type}
/-- a relation that holds on where its blocks stay -/
def Stays (R : World → (Nat → Prop) → α → List Value → Prop) : Prop := ∀ {w w' : World} {Q Q' : Nat → Prop} {x : α} {cs : List Value}, R w Q x cs → (∀ b, Q b → Q' b) → (∀ p : Addr, Q p.block → w'.cell? p = w.cell? p) → R w' Q' x cs
def BuildI (w : World) (base : Nat) (e : TypeId) (C : Nat) (R : World → (Nat → Prop) → α → List Value → Prop) (l : List α) (v : Value) : Prop :=
  ∃ rows : List (List Value), w.ownsRow base e C v l.length rows.flatten ∧ All2 (R w (fun b => (base ≤ b ∧ b < w.heap.size) ∧ v.ownBlock ≠ some b)) l rows
variable {R : World → (Nat → Prop) → α → List Value → Prop} {w w' : World} {base C : Nat} {e : TypeId} {l : List α} {v : Value}
theorem BuildI.nil (w : World) (base : Nat) (e : TypeId) (C : Nat) (R : World → (Nat → Prop) → α → List Value → Prop) : BuildI w base e C R [] (.slice none 0 0) := ⟨[], World.ownsRow_nil _ _ _ _, trivial⟩
theorem BuildI.below (hR : Stays R) (h : BuildI w base e C R l v) (hb : Below w.heap.size w w') : BuildI w' base e C R l v := by
  obtain ⟨rows, h1, h2⟩ := h
  exact ⟨rows, (Below.moves hb).row h1 (fun j hj e => Nat.not_lt.2 e (h1.lt j hj).2), h2.imp fun x cs h => hR h (fun b h => ⟨⟨h.1.1, Nat.lt_of_lt_of_le h.1.2 hb.size⟩, h.2⟩) (fun p hp => hb.cell hp.1.2)⟩
theorem BuildI.done (hR : Stays R) (hC : ∀ {w Q x cs}, R w Q x cs → cs.length = C) (h : BuildI w base e C R l v) : SliceI w (fun b => base ≤ b ∧ b < w.heap.size) C (R w (fun b => base ≤ b ∧ b < w.heap.size)) l v := by
  obtain ⟨rows, h1, h2⟩ := h
  exact slice_of_own h1 (h2.imp fun x cs h => hR h (fun b h => h.1) (fun p hp => rfl)) (fun x cs h => hC h)
/-- one more element, whose blocks are younger than the row's -/
theorem BuildI.push (hR : Stays R) {rows : List (List Value)} (h1 : w.ownsRow base e C v l.length rows.flatten) (h2 : All2 (R w (fun b => (base ≤ b ∧ b < w.heap.size) ∧ v.ownBlock ≠ some b)) l rows) {x : α} {cs : List Value} {B : Nat} (hx : R w (fun b => B ≤ b ∧ b < w.heap.size) x cs) (hB : base ≤ B) (hv : ∀ j, v.ownBlock = some j → j < B)
    {o : Obj} {w3 : World} {v' : Value} {n : Nat} (hn : n = l.length + 1) {xs : List Value} (hxs : xs = rows.flatten ++ cs) (h3 : w3.ownsRow base e C v' n xs) (hg : (w.alloc o).grownBy w3 v.ownBlock) (hat : v.ownBlock = v'.ownBlock ∨ v'.ownBlock = some (w.alloc o).heap.size) : BuildI w3 base e C R (l ++ [x]) v' := by
  subst hn hxs
  have hm : Moves (fun j => v.ownBlock = some j) w w3 := ((Moves.refl _ w).alloc o).trans (moves_grown hg) (fun j hj => .inr hj)
  have hsz := hm.size
  have key : ∀ b, (base ≤ b ∧ b < w.heap.size) ∧ v.ownBlock ≠ some b → (base ≤ b ∧ b < w3.heap.size) ∧ v'.ownBlock ≠ some b := by
    rintro b ⟨⟨h5, h6⟩, h7⟩
    refine ⟨⟨h5, by omega⟩, fun h => ?_⟩
    rcases hat with h8 | h8
    · exact h7 (h8.trans h)
    · rw [h8] at h; injection h with h; rw [World.size_alloc] at h; omega
  refine ⟨rows ++ [cs], by rw [List.length_append, List.flatten_append, List.flatten_cons, List.flatten_nil, List.append_nil]; exact h3, ?_⟩
  refine All2.snoc (hR hx (fun b hb => key b ⟨⟨by omega, hb.2⟩, fun h => by have := hv b h; omega⟩) (fun p hp => hm.cell hp.2 (fun h => by have := hv p.block h; omega))) (h2.imp fun y cy h => hR h key (fun p hp => hm.cell hp.1.2 hp.2))
end
end Go.Proofs.Ytcocilpifdjibaa
namespace Go.Proofs.Ytcocilpifdjibaa
open Go.ChangeShapes Go.WideShapes Go.ChangeAt Go.RowKit Go.Deep
set_option linter.unusedVariables false
structure It where
  s : S
  deep : Int
  inn : Int
  els : Bool
mutual
def flatL : List S → Nat → Int → Bool → List It → List It
  | [], _, _, _, out => out
  | s :: l, d, i, e, out => if out.length ≤ 200 then flatL l d i e (flatS s d i e out) else out
def flatS : S → Nat → Int → Bool → List It → List It
  | .mk id kind labels nm proc x has args th el, d, i, e, out =>
    if d ≤ 12 then flatL el (d + 1) id true (flatL th (d + 1) id false (out ++ [⟨.mk id kind labels nm proc x has args th el, d, i, e⟩])) else out ++ [⟨.mk id kind labels nm proc x has args th el, d, i, e⟩]
end
theorem new16 (w : World) (t : TypeId) (cs : List Value) : ∀ j u, cs[j]? = some u → (w.alloc (.cells cs.toArray t)).cell? ((⟨w.heap.size, 0, none⟩ : Addr).add j) = some u := by
  intro j u hu
  have ha : (⟨w.heap.size, 0, none⟩ : Addr).add j = ⟨w.heap.size, j, none⟩ := by
    by_cases hz : j = 0
    · rw [hz, add_zero_]
    · rw [add_ne _ hz]; simp
  rw [ha, (Blk.new w t cs.toArray).cell]
  simpa using hu
end Go.Proofs.Ytcocilpifdjibaa
namespace Go.Proofs.Ytcocilpifdjibaa
open Go.ChangeShapes Go.WideShapes Go.ChangeAt Go.RowKit Go.Deep
set_option linter.unusedVariables false
mutual
theorem flatL_pre : ∀ (l : List S) (d c c' : Nat), blkOk l d c = some c' → c' = c + (preSL l).length ∧ (∀ j (h : j < (preSL l).length), (preSL l)[j].id = ((c + 1 + j : Nat) : Int)) ∧ ∀ (i : Int) (e : Bool) (out : List It), out.length + (preSL l).length ≤ 200 → (flatL l d i e out).map It.s = out.map It.s ++ preSL l
  | [], d, c, c', h => by
    rw [blkOk] at h
    injection h with h
    subst h
    rw [preSL]
    exact ⟨rfl, fun j h => absurd h (by simp), fun i e out _ => by rw [flatL, List.append_nil]⟩
  | s :: l, d, c, c', h => by
    rw [blkOk] at h
    cases h1 : oneOk s d c with
    | none => rw [h1] at h; simp at h
    | some c1 =>
      rw [h1] at h
      simp only [Option.bind_some] at h
      obtain ⟨a1, a2, a3⟩ := flatS_pre s d c c1 h1
      obtain ⟨b1, b2, b3⟩ := flatL_pre l d c1 c' h
      rw [preSL]
      refine ⟨by rw [List.length_append]; omega, fun j hj => ?_, fun i e out ho => ?_⟩
      · rw [List.length_append] at hj
        by_cases hjs : j < (preS s).length
        · rw [List.getElem_append_left hjs]; exact a2 j hjs
        · rw [List.getElem_append_right (by omega), b2 _ (by omega)]; congr 1; omega
      · rw [List.length_append] at ho
        have hl1 : 1 ≤ (preS s).length := by rw [preS_eq]; simp
        rw [flatL, if_pos (by omega)]
        have h4 := a3 i e out (by omega)
        have h5 : (flatS s d i e out).length = out.length + (preS s).length := by
          have := congrArg List.length h4
          rw [List.length_map, List.length_append, List.length_map] at this
          exact this
        rw [b3 i e _ (by omega), h4, List.append_assoc]
theorem flatS_pre : ∀ (s : S) (d c c' : Nat), oneOk s d c = some c' → c' = c + (preS s).length ∧ (∀ j (h : j < (preS s).length), (preS s)[j].id = ((c + 1 + j : Nat) : Int)) ∧ ∀ (i : Int) (e : Bool) (out : List It), out.length + (preS s).length ≤ 200 → (flatS s d i e out).map It.s = out.map It.s ++ preS s
  | .mk id kind labels nm proc x has args th el, d, c, c', h => by
    rw [oneOk] at h
    split at h
    · rename_i hc
      obtain ⟨h12, _, hid, _⟩ := hc
      cases h1 : blkOk th (d + 1) (c + 1) with
      | none => rw [h1] at h; simp at h
      | some c1 =>
        rw [h1] at h
        simp only [Option.bind_some] at h
        obtain ⟨a1, a2, a3⟩ := flatL_pre th (d + 1) (c + 1) c1 h1
        obtain ⟨b1, b2, b3⟩ := flatL_pre el (d + 1) c1 c' h
        rw [preS]
        refine ⟨by rw [List.length_cons, List.length_append]; omega, fun j hj => ?_, fun i e out ho => ?_⟩
        · rw [List.length_cons, List.length_append] at hj
          cases j with
          | zero => rw [List.getElem_cons_zero]; exact hid
          | succ j =>
            rw [List.getElem_cons_succ]
            by_cases hjs : j < (preSL th).length
            · rw [List.getElem_append_left hjs, a2 j hjs]; congr 1; omega
            · rw [List.getElem_append_right (by omega), b2 _ (by omega)]; congr 1; omega
        · rw [List.length_cons, List.length_append] at ho
          rw [flatS, if_pos h12]
          have h4 := a3 id false (out ++ [⟨.mk id kind labels nm proc x has args th el, d, i, e⟩]) (by rw [List.length_append, List.length_cons, List.length_nil]; omega)
          have h5 : (flatL th (d + 1) id false (out ++ [⟨.mk id kind labels nm proc x has args th el, d, i, e⟩])).length = out.length + 1 + (preSL th).length := by
            have := congrArg List.length h4
            rw [List.length_map, List.length_append, List.length_map, List.length_append] at this
            simpa using this
          rw [b3 id true _ (by omega), h4, List.map_append, List.append_assoc, List.append_assoc]
          rfl
    · cases h
end
def flatOf (q : Pr) : List It := flatL q.body 1 0 false []
/-- of procedures that may be: what their rows are, and that each number has its statement -/
theorem prOk_flat : ∀ (l : List Pr) (c c' : Nat), prOk l c = some c' → c ≤ 200 → (∀ q ∈ l, (flatOf q).map It.s = preSL q.body ∧ (preSL q.body).length ≤ 200) ∧ c' = c + cntL l ∧ c' ≤ 200 ∧ ∀ n : Nat, c < n → n ≤ c' → (findL l (n : Int)).2.2 = true
  | [], c, c', h, h200 => by
    rw [prOk] at h
    injection h with h
    subst h
    exact ⟨fun q hq => by simp at hq, by rw [cntL]; omega, h200, fun n h1 h2 => absurd h1 (by omega)⟩
  | q :: l, c, c', h, h200 => by
    rw [prOk] at h
    split at h
    · cases h1 : blkOk q.body 1 c with
      | none => rw [h1] at h; simp at h
      | some c1 =>
        rw [h1] at h
        simp only [Option.bind_some] at h
        obtain ⟨a1, a2, a3⟩ := flatL_pre q.body 1 c c1 h1
        have hc1 := blkOk_le q.body 1 c c1 h200 h1
        obtain ⟨b1, b2, b3, b4⟩ := prOk_flat l c1 c' h hc1
        refine ⟨fun y hy => ?_, by rw [cntL]; omega, b3, fun n h5 h6 => ?_⟩
        · rcases List.mem_cons.1 hy with rfl | hy
          · have := a3 0 false [] (by simp; omega)
            rw [List.map_nil, List.nil_append] at this
            exact ⟨this, by omega⟩
          · exact b1 y hy
        · rw [findL]
          by_cases hn : n ≤ c1
          · have hj : n - c - 1 < (preSL q.body).length := by omega
            have hid := a2 (n - c - 1) hj
            have hs : ((preSL q.body).find? (fun s => s.id == (n : Int))).isSome = true := by
              rw [List.find?_isSome]
              exact ⟨_, List.getElem_mem hj, by rw [hid]; simp; omega⟩
            cases hf : (preSL q.body).find? (fun s => s.id == (n : Int)) with
            | none => rw [hf] at hs; cases hs
            | some s => rfl
          · cases hf : (preSL q.body).find? (fun s => s.id == (n : Int)) with
            | none => exact b4 n (by omega) h6
            | some s => rfl
    · cases h
theorem may_flat {p : Pg} (h : mayP p = true) : (∀ q ∈ p.procs, (flatOf q).map It.s = preSL q.body ∧ (preSL q.body).length ≤ 200) ∧ cntP p ≤ 200 ∧ ∀ n : Int, 1 ≤ n → n ≤ (cntP p : Int) → (findP p n).2.2 = true := by
  unfold mayP at h
  rw [Bool.and_eq_true] at h
  obtain ⟨_, h⟩ := h
  cases hp : prOk p.procs 0 with
  | none => rw [hp] at h; cases h
  | some c' =>
    obtain ⟨a1, a2, a3, a4⟩ := prOk_flat p.procs 0 c' hp (by omega)
    refine ⟨a1, by unfold cntP; omega, fun n h1 h2 => ?_⟩
    have := a4 n.toNat (by omega) (by unfold cntP at h2; omega)
    rw [show ((n.toNat : Nat) : Int) = n by omega] at this
    exact this
end Go.Proofs.Ytcocilpifdjibaa
namespace Go.Proofs.Ytcocilpifdjibaa
open Go
set_option linter.unusedVariables false
section
variable {P : Program} {md : Region.Mode} {ops : Array Oper} {Q : Exit → Act → World → Prop} {S : World → Prop} {z : Nat}
/-- as wpAnyH, but behind z nothing is asked of the world -/
def wpAnyL (P : Program) (md : Region.Mode) (ops : Array Oper) (Q : Exit → Act → World → Prop) (S : World → Prop) (z : Nat) : Nat → Array Bool → Act → World → Prop
  | 0, listed, a, w => Region.ready md ops listed = [] ∧ Q .normal a w
  | fuel + 1, listed, a, w =>
    (Region.ready md ops listed = [] → Q .normal a w) ∧
    ∀ i ∈ Region.ready md ops listed, wpOp P ops Q i (fun a' w' => (i ≠ z → S w') ∧ wpAnyL P md ops Q S z fuel (listed.setIfInBounds i true) a' w') a w
theorem wpAny_of_last : ∀ (fuel : Nat) (listed : Array Bool) (a : Act) (w : World), wpAnyL P md ops Q S z fuel listed a w → wpAny P md ops Q fuel listed a w
  | 0, _, _, _, h => h
  | fuel + 1, _, _, _, h => ⟨h.1, fun i hi => wpOp_mono (fun a' w' h' => wpAny_of_last fuel _ a' w' h'.2) (h.2 i hi)⟩
/-- the last one waits for every other -/
def waitsAll (md : Region.Mode) (ops : Array Oper) (z : Nat) : Bool := (List.range ops.size).all fun i => i == z || ((ops[z]?).map (·.after.any fun e => Region.binds md e && e.on == i)).getD false
theorem waits_spec (h : waitsAll md ops z = true) {i : Nat} (hi : i < ops.size) (hne : i ≠ z) : ∃ oz, ops[z]? = some oz ∧ ∃ e ∈ oz.after, Region.binds md e = true ∧ e.on = i := by
  have h1 := List.all_eq_true.1 h i (List.mem_range.2 hi)
  rw [Bool.or_eq_true] at h1
  rcases h1 with h1 | h1
  · exact absurd (by simpa using h1) hne
  · cases hz : ops[z]? with
    | none => rw [hz] at h1; cases h1
    | some oz =>
      rw [hz] at h1
      simp only [Option.map_some, Option.getD_some, Array.any_eq_true, Bool.and_eq_true, beq_iff_eq] at h1
      obtain ⟨k, hk, h2, h3⟩ := h1
      exact ⟨oz, rfl, _, Array.getElem_mem hk, h2, h3⟩
theorem lastTake {i : Nat} {oi : Oper} {v : Value} (hi : ops[i]? = some oi) (hz : waitsAll md ops z = true) (hiz : i ≠ z) (hsel : ∀ (j : Nat) (o : Oper) cs b, ops[j]? = some o → o.op ≠ .select cs b)
    (hQ : ∀ c a w, Q (.panic c) (a.put oi.dst v) w → Q (.panic c) a w) :
    ∀ (fuel : Nat) (listed : Array Bool) (a : Act) (w : World),
      (∀ j oj, ops[j]? = some oj → j ≠ i → listed.getD j true = false → (∀ e ∈ oj.after, Region.binds md e = true → e.on ≠ i) → oi.apart ops oj = true) →
      i ∈ Region.ready md ops listed → YieldsIf P ops S oi v a → S w →
      wpAnyL P md ops Q S z fuel (listed.setIfInBounds i true) (a.put oi.dst v) w → wpAnyL P md ops Q S z (fuel + 1) listed a w := by
  have hlt : i < ops.size := (Array.getElem?_eq_some_iff.1 hi).1
  -- one that may come up beside i does not wait for it
  have key : ∀ (listed : Array Bool) (j : Nat), i ∈ Region.ready md ops listed → j ∈ Region.ready md ops listed → j ≠ i → ∃ oj, ops[j]? = some oj ∧ listed.getD j true = false ∧ ∀ e ∈ oj.after, Region.binds md e = true → e.on ≠ i := by
    intro listed j hr hj hji
    obtain ⟨hjun, oj, hoj, hall⟩ := mem_ready.1 hj
    refine ⟨oj, hoj, hjun, fun e he hb heq => ?_⟩
    have h1 := hall e he hb
    have h0 := (mem_ready.1 hr).1
    rw [heq] at h1
    rcases Nat.lt_or_ge i listed.size with h' | h'
    · simp [h'] at h0 h1; rw [h0] at h1; cases h1
    · simp [Array.getElem?_eq_none h'] at h1
  intro fuel
  induction fuel with
  | zero =>
    intro listed a w _ hr hy hS H
    refine ⟨fun h => (by rw [h] at hr; cases hr), fun j hj => ?_⟩
    by_cases hji : j = i
    · subst hji; exact hy.wpOp hi hS ⟨fun _ => hS, H⟩
    · have := ready_mono hj hji
      rw [H.1] at this
      cases this
  | succ fuel ih =>
    intro listed a w hfree hr hy hS H
    refine ⟨fun h => (by rw [h] at hr; cases hr), fun j hj => ?_⟩
    by_cases hji : j = i
    · subst hji; exact hy.wpOp hi hS ⟨fun _ => hS, H⟩
    · obtain ⟨oj, hoj, hjun, hnot⟩ := key listed j hr hj hji
      have hjz : j ≠ z := by
        rintro rfl
        obtain ⟨oz, hoz, e, he, hb, heq⟩ := waits_spec hz hlt hiz
        rw [hoj] at hoz
        injection hoz with hoz
        subst hoz
        exact hnot e he hb heq
      have h2 := wpOp_putIf hoj (hfree j oj hoj hji hjun hnot) (fun cs b => hsel i oi cs b hi) (fun cs b => hsel j oj cs b hoj) hQ hy (H.2 j (ready_mono hj hji))
      refine wpOp_mono (fun a' w' h3 => ⟨h3.2.1, ih (listed.setIfInBounds j true) a' w' (fun k ok hk hki hun hno => hfree k ok hk hki ?_ hno) (ready_mono hr (Ne.symm hji)) h3.1 (h3.2.1 hjz) ?_⟩) h2
      · by_cases hjk : j = k
        · subst hjk; exact hjun
        · rw [getD_set_ne true hjk] at hun; exact hun
      · rw [Array.setIfInBounds_comm _ _ hji]
        exact h3.2.2
theorem wpAnyL_take {i : Nat} {oi : Oper} {v : Value} {fuel : Nat} {listed : Array Bool} {a : Act} {w : World} (hi : ops[i]? = some oi) (hz : waitsAll md ops z = true) (hiz : i ≠ z)
    (hs : Region.noSelect ops = true) (hf : Region.free md ops listed i = true) (hr : (Region.ready md ops listed).contains i = true)
    (hQ : ∀ c a w, Q (.panic c) (a.put oi.dst v) w → Q (.panic c) a w) (hy : YieldsIf P ops S oi v a) (hS : S w)
    (h : wpAnyL P md ops Q S z fuel (listed.setIfInBounds i true) (a.put oi.dst v) w) : wpAnyL P md ops Q S z (fuel + 1) listed a w :=
  lastTake hi hz hiz (Region.noSelect_spec hs) hQ fuel listed a w (Region.free_spec hi hf) (by simpa using hr) hy hS h
/-- one alone may come up -/
theorem wpAnyL_one {i : Nat} {fuel : Nat} {listed : Array Bool} {a : Act} {w : World} (hr : Region.ready md ops listed = [i])
    (h : wpOp P ops Q i (fun a' w' => (i ≠ z → S w') ∧ wpAnyL P md ops Q S z fuel (listed.setIfInBounds i true) a' w') a w) : wpAnyL P md ops Q S z (fuel + 1) listed a w :=
  ⟨fun h0 => absurd (hr.symm.trans h0) (by simp), fun j hj => by rw [hr] at hj; rw [List.mem_singleton.1 hj]; exact h⟩
theorem wpAnyL_step {i : Nat} {o : Oper} {fuel : Nat} {listed : Array Bool} {a : Act} {w : World} (hr : Region.ready md ops listed = [i]) (ho : ops[i]? = some o)
    (h : ∀ K' : Act → World → Prop, Shut (∀ a w, (i ≠ z → S w) → wpAnyL P md ops Q S z fuel (listed.setIfInBounds i true) a w → K' a w) → if Region.wanted o (yielded ops a.tmps) = true then Oper.wp P o a w K' Q else K' (a.put o.dst undef) w) : wpAnyL P md ops Q S z (fuel + 1) listed a w :=
  wpAnyL_one hr (wpOp_step ho (fun K' hK => h K' (fun a w h1 h2 => hK a w ⟨h1, h2⟩)))
theorem wpAnyL_done {listed : Array Bool} {a : Act} {w : World} (hr : Region.ready md ops listed = []) (h : Q .normal a w) : ∀ fuel, wpAnyL P md ops Q S z fuel listed a w
  | 0 => ⟨hr, h⟩
  | _ + 1 => ⟨fun _ => h, by rw [hr]; simp⟩
theorem wp_region_last {id : Nat} {a : Act} {w : World} (S : World → Prop) (z : Nat) (hm : P.follows .mixedOrders = true)
    (h : wpAnyL P .any ops Q S z ops.size (Array.replicate ops.size false) a { w with drawn := w.drawn + 1 }) : (Code.region id ops true).wp P Q a w :=
  wp_region_any hm (wpAny_of_last _ _ _ _ h)
end
end Go.Proofs.Ytcocilpifdjibaa
