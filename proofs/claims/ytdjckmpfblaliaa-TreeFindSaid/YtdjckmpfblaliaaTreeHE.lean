/- Expressions copied: the cursor over the copy itself, and one node. -/
import Derived.Test.YtdjckmpfblaliaaTreeH
import Derived.Test.YtdjckmpfblaliaaTreeCE
import Derived.Test.YtdjckmpfblaliaaTreeV
import Derived.Test.YtdjckmpfblaliaaTreeU
namespace Go.Proofs.Ytdjckmpfblaliaa
open Go.ChangeShapes Go.WideShapes Go.ChangeAt Go.RowKit Go.Deep
set_option linter.unusedVariables false

theorem exprOk (w : World) (Q : Nat → Prop) (x : E) (cs : List Value) (h : ExprI w Q x cs) : CellsOk 4 cs := by cases h; exact ⟨rfl, by simp [Value.oneCell']⟩
theorem ExprI.of_slice {V : World} {Q : Nat → Prop} {op n : Int} {nm : ByteArray} {ks : List E} {v : Value} (h : SliceI V Q 4 (ExprI V Q) ks v) (hop : i64 op) (hn : i64 n) (hnm : nm.size ≤ 9223372036854775807) : ExprI V Q (.mk op n nm ks) [.int .i64 op, .int .i64 n, .string nm, v] := by
  obtain ⟨A, cap, css, rfl, h2, h3, h4⟩ := h
  exact .mk hop hn hnm h2 h3 h4
theorem ExprI.to_slice {V : World} {Q : Nat → Prop} {op n : Int} {nm : ByteArray} {ks : List E} {cs : List Value} (h : ExprI V Q (.mk op n nm ks) cs) : ∃ v, cs = [.int .i64 op, .int .i64 n, .string nm, v] ∧ SliceI V Q 4 (ExprI V Q) ks v ∧ i64 op ∧ i64 n ∧ nm.size ≤ 9223372036854775807 := by
  cases h with
  | mk hop hn hnm hcap hA hk => exact ⟨_, rfl, ⟨_, _, _, rfl, hcap, hA, hk⟩, hop, hn, hnm⟩
mutual
/-- how much an expression is: each node, each byte of a name -/
def wE : E → Nat
  | .mk _ _ nm ks => wL ks + nm.size + 1
def wL : List E → Nat
  | [] => 0
  | k :: ks => wE k + wL ks
end
theorem wL_mem {ks : List E} {k : E} (h : k ∈ ks) : wE k ≤ wL ks := by
  induction ks with
  | nil => simp at h
  | cons x ks ih =>
    rw [wL]
    rcases List.mem_cons.1 h with rfl | h
    · omega
    · have := ih h; omega
theorem wL_len (ks : List E) : ks.length ≤ wL ks := by
  induction ks with
  | nil => exact Nat.zero_le _
  | cons x ks ih => rw [wL, List.length_cons]; cases x; rw [wE]; omega
mutual
theorem sizE_w : ∀ e : E, sizE e ≤ wE e
  | .mk _ _ nm ks => by rw [sizE, wE]; have := sizL_w ks; omega
theorem sizL_w : ∀ ks : List E, sizL ks ≤ wL ks
  | [] => by rw [sizL]; exact Nat.zero_le _
  | k :: ks => by rw [sizL, wL]; have := sizE_w k; have := sizL_w ks; omega
end
/-- an expression that is not too great -/
def RE (w : World) (Q : Nat → Prop) (x : E) (cs : List Value) : Prop := ExprI w Q x cs ∧ wE x ≤ 1000000
theorem reOk (w : World) (Q : Nat → Prop) (x : E) (cs : List Value) (h : RE w Q x cs) : CellsOk 4 cs := exprOk w Q x cs h.1
abbrev CopyE := Copy (α := E) 4 RE
/-- how many nodes are ahead -/
def szH : List (Hole E) → Nat
  | [] => 0
  | h :: hs => sizL h.ts + szH hs
/-- the cursor over the copy: its answer p, what is ahead -/
def AtCE (w : World) (Q : Nat → Prop) (base bs c : Nat) (G : World → Prop) (W : World) (p : Option Addr) (n : Nat) : Prop :=
  ∃ v hs T, CurE W bs c v p (hs.map slH) ∧ (∀ b, T b → ¬ ownE c v b) ∧
    ((p = none ∧ hs = [] ∧ CopyE w Q base G W [] T ∧ n = 0) ∨ ∃ b o t, p = some ⟨b, o, none⟩ ∧ CopyE w Q base G W (⟨b, o, [t], 1⟩ :: hs) T ∧ n = sizE t + szH hs)
theorem pop_copyE {w W w' : World} {Q : Nat → Prop} {base bs c : Nat} {G : World → Prop} {v v' : Value} {last : Option Addr} {hs : List (Hole E)} {T : Nat → Prop} (h0 : CurE W bs c v last (hs.map slH) ∨ ∀ x ∈ hs.map slH, goodS x) (h : CopyE w Q base G W hs T) (hd : ∀ b, T b → ¬ ownE c v b)
    (hc : CurE w' bs c v' (popSE (hs.map slH)).1 (popSE (hs.map slH)).2) (hm : Moves (ownE c v) W w') (hl : ∀ j, v'.ownBlock = some j → W.heap.size ≤ j ∨ v.ownBlock = some j) : AtCE w Q base bs c G w' (popSE (hs.map slH)).1 (szH hs) := by
  have hg : ∀ x ∈ hs.map slH, goodS x := by rcases h0 with h0 | h0; exact h0.good; exact h0
  have h' := h.moves hm hd
  have hd' : ∀ b, T b → ¬ ownE c v' b := fun b ht e => by
    rcases e with rfl | e
    · exact hd _ ht (.inl rfl)
    · rcases hl b e with h1 | h1
      · have := (h.tb b ht).2; omega
      · exact hd b ht (.inr h1)
  cases hs with
  | nil => exact ⟨v', [], T, by simpa [popSE] using hc, hd', .inl ⟨rfl, rfl, h', rfl⟩⟩
  | cons k hs =>
    obtain ⟨b, o, ts, cap⟩ := k
    cases ts with
    | nil => have := (hg (slH ⟨b, o, [], cap⟩) (List.mem_map.2 ⟨_, List.mem_cons_self .., rfl⟩)).1; simp [slH] at this
    | cons t ts =>
      have e : (popSE (List.map slH (⟨b, o, t :: ts, cap⟩ :: hs))) = (some ⟨b, o, none⟩, (if ts.length = 0 then hs else ⟨b, o + 4, ts, cap - 1⟩ :: hs).map slH) := by
        simp only [List.map_cons, popSE, slH, List.length_cons, Nat.add_eq_right]
        by_cases h0 : ts.length = 0
        · rw [if_pos h0, if_pos h0]
        · rw [if_neg h0, if_neg h0, List.map_cons, add_ne _ (by decide)]; rfl
      rw [e] at hc ⊢
      refine ⟨v', _, T, hc, hd', .inr ⟨b, o, t, rfl, h'.pop, ?_⟩⟩
      rw [szH, sizL]
      split
      · rename_i h0
        have : ts = [] := List.length_eq_zero_iff.1 h0
        subst this; simp [sizL]
      · rw [szH]; simp; omega

theorem cell_set_ne {w : World} {p q : Addr} (u : Value) (h : q ≠ p) : (w.setCell p u).cell? q = w.cell? q := World.cell?_setCell_other _ _ _ _ (fun e => h e.symm)
theorem slice_re {V : World} {Q : Nat → Prop} {ks : List E} {v : Value} (h : SliceI V Q 4 (ExprI V Q) ks v) (hw : wL ks ≤ 1000000) : SliceI V Q 4 (RE V Q) ks v := by
  obtain ⟨A, cap, css, h1, h2, h3, h4⟩ := h
  exact ⟨A, cap, css, h1, h2, h3, fun i hi => ⟨h4 i hi, Nat.le_trans (wL_mem (List.getElem_mem hi)) hw⟩⟩
theorem slice_er {V : World} {Q : Nat → Prop} {ks : List E} {v : Value} (h : SliceI V Q 4 (RE V Q) ks v) : SliceI V Q 4 (ExprI V Q) ks v := by
  obtain ⟨A, cap, css, h1, h2, h3, h4⟩ := h
  exact ⟨A, cap, css, h1, h2, h3, fun i hi => (h4 i hi).1⟩
/-- one node: its kids lie in a new row -/
theorem fillE {w W w1 w3 : World} {Q : Nat → Prop} {base : Nat} {G : World → Prop} {hs : List (Hole E)} {T : Nat → Prop} {b o : Nat} {op n : Int} {nm : ByteArray} {ks : List E} {vk v' : Value} {e : Ending}
    (h : CopyE w Q base G W (⟨b, o, [.mk op n nm ks], 1⟩ :: hs) T) (hbase : base ≤ W.heap.size) (hop : i64 op) (hn : i64 n) (hnm : nm.size ≤ 9223372036854775807) (hw : wE (.mk op n nm ks) ≤ 1000000)
    (p0 : W.cell? ⟨b, o, none⟩ = some (.int .i64 op)) (p1 : W.cell? ⟨b, o + 1, none⟩ = some (.int .i64 n)) (p2 : W.cell? ⟨b, o + 2, none⟩ = some (.string nm)) (p3 : W.cell? ⟨b, o + 3, none⟩ = some vk)
    (hb1 : Below W.heap.size W w1) (hf : FreshP 24 (RE w Q) ks (w1.setCell ⟨b, o + 2, none⟩ (.string nm)) (.returned v') w3) :
    ∃ new T' A cap, v' = .slice A ks.length cap ∧ (0 < ks.length → A ≠ none) ∧ ks.length ≤ cap ∧ cap ≤ 9223372036854775807 ∧ CopyE w Q base G (w3.setCell ⟨b, o + 3, none⟩ v') (new ++ hs) T' ∧ pushS (hs.map slH) A ks.length cap = (new ++ hs).map slH ∧ szH (new ++ hs) = sizL ks + szH hs ∧
      (∀ k, T' k → T k ∨ W.heap.size ≤ k) ∧ Moves (fun k => k = b) W (w3.setCell ⟨b, o + 3, none⟩ v') ∧ (w3.setCell ⟨b, o + 3, none⟩ v').cell? ⟨b, o + 3, none⟩ = some v' := by
  obtain ⟨hTb, ⟨bt, bc, hBk⟩, hraw⟩ := h.raw _ (List.mem_cons_self ..)
  have hblt : b < W.heap.size := hBk.lt
  have hwL : wL ks ≤ 1000000 := by rw [wE] at hw; omega
  have hlen : ks.length ≤ 1000000 := Nat.le_trans (wL_len ks) hwL
  obtain ⟨w2, hw2⟩ : ∃ w2, w2 = w1.setCell ⟨b, o + 2, none⟩ (.string nm) := ⟨_, rfl⟩
  rw [← hw2] at hf
  have hm2 : Moves (fun k => k = b) W w2 := by
    rw [hw2]
    exact ⟨hb1.os, hb1.tape, hb1.output, by simp only [World.setCell, Array.size_modify]; exact hb1.size, fun k hk hn => (Below.heap_setCell _ _ _ _ hn).trans (hb1.block k hk)⟩
  have hB1 : Blk w1 b bt bc := hBk.below hb1 hblt
  have hB2 : Blk w2 b bt (bc.setIfInBounds (o + 2) (.string nm)) := by rw [hw2]; exact hB1.set_ (o + 2) _
  have hbc : bc[o + 2]? = some (.string nm) := by rw [← hBk.cell]; exact p2
  rw [set_same hbc] at hB2
  have hc2 : ∀ p : Addr, p.block < W.heap.size → w2.cell? p = W.cell? p := fun p hb' => by
    by_cases e : p.block = b
    · exact World.cell?_of_block (w := W) (by rw [e]; exact hB2.trans hBk.symm)
    · exact hm2.cell hb' e
  have hk2 : ∀ b', b' < W.heap.size → (∃ t cs, Blk W b' t cs) → ∃ t cs, Blk w2 b' t cs := fun b' hb' ⟨t, cs, hB⟩ => by
    by_cases e : b' = b
    · subst e; exact ⟨_, _, hB2⟩
    · exact ⟨t, cs, hm2.blk hB e⟩
  have D : ∃ A cap b3 css, v' = .slice A ks.length cap ∧ ks.length ≤ cap ∧ cap ≤ 9223372036854775807 ∧ Moves (fun _ => False) w2 w3 ∧ (ks.length = 0 ∨ (A = some ⟨b3, 0, none⟩ ∧ cap = ks.length ∧ W.heap.size ≤ b3 ∧ Blk w3 b3 24 (flatN css ks.length).toArray ∧ ∀ i (h : i < ks.length), RE w Q ks[i] (css i))) := by
    rcases hf with ⟨rfl, e1, rfl⟩ | ⟨css, e1, rfl, hr⟩
    · injection e1 with e1
      exact ⟨none, 0, 0, fun _ => [], e1, Nat.le_refl _, by omega, Moves.refl _ _, .inl rfl⟩
    · injection e1 with e1
      exact ⟨_, ks.length, w2.heap.size, css, e1, Nat.le_refl _, by omega, (Moves.refl _ _).alloc _, .inr ⟨rfl, rfl, hm2.size, Blk.new _ _ _, hr⟩⟩
  obtain ⟨A, cap, b3, css, hv, hlc, hcap, hm3, hD⟩ := D
  clear hf hw2
  have hsz : W.heap.size ≤ w2.heap.size := hm2.size
  have hc3 : ∀ p : Addr, p.block < W.heap.size → w3.cell? p = W.cell? p := fun p hb' => (hm3.cell (Nat.lt_of_lt_of_le hb' hsz) (fun h => h)).trans (hc2 p hb')
  have hB3 : Blk w3 b bt bc := hm3.blk hB2 (fun h => h)
  have hk3 : ∀ b', b' < W.heap.size → (∃ t cs, Blk W b' t cs) → ∃ t cs, Blk w3 b' t cs := fun b' hb' hB => by
    obtain ⟨t, cs, hB⟩ := hk2 b' hb' hB
    exact ⟨t, cs, hm3.blk hB (fun h => h)⟩
  have hm03 : Moves (fun k => k = b) W w3 := hm2.trans hm3 (fun _ h => h.elim)
  obtain ⟨w4, hw4⟩ : ∃ w4, w4 = w3.setCell ⟨b, o + 3, none⟩ v' := ⟨_, rfl⟩
  rw [← hw4]
  have hm4 : Moves (fun k => k = b) W w4 := by rw [hw4]; exact hm03.set_ (.inl rfl) _
  have hs4 : w4.heap.size = w3.heap.size := by rw [hw4]; simp [World.setCell]
  have hB4 : Blk w4 b bt (bc.setIfInBounds (o + 3) v') := by rw [hw4]; exact hB3.set_ (o + 3) _
  have hbc3 : o + 3 < bc.size := by
    have : bc[o + 3]? = some vk := by rw [← hBk.cell]; exact p3
    exact (Array.getElem?_eq_some_iff.1 this).1
  have q3 : w4.cell? ⟨b, o + 3, none⟩ = some v' := by rw [hB4.cell, Array.getElem?_setIfInBounds_self_of_lt hbc3]
  have hc4 : ∀ p : Addr, p.block < W.heap.size → ¬ (p.block = b ∧ p.off = o + 3) → w4.cell? p = W.cell? p := fun p hb' hn => by
    rw [hw4, cell_set_ne _ (fun e => hn (by rw [e]; exact ⟨rfl, rfl⟩))]
    exact hc3 p hb'
  have hk4 : ∀ b', b' < W.heap.size → (∃ t cs, Blk W b' t cs) → ∃ t cs, Blk w4 b' t cs := fun b' hb' hB => by
    by_cases e : b' = b
    · subst e; exact ⟨_, _, hB4⟩
    · obtain ⟨t, cs, hB⟩ := hk3 b' hb' hB
      exact ⟨t, cs, by rw [hw4]; exact hB.far e _⟩
  have hnode : ∀ V, (∀ off, o ≤ off → off < o + 4 → V.cell? ⟨b, off, none⟩ = w4.cell? ⟨b, off, none⟩) → SliceI V (nb base V) 4 (RE V (nb base V)) ks v' → ∃ cs, RE V (nb base V) (.mk op n nm ks) cs ∧ ∀ j u, cs[j]? = some u → V.cell? ⟨b, o + j, none⟩ = some u := fun V hV hk => by
    refine ⟨_, ⟨ExprI.of_slice (slice_er hk) hop hn hnm, hw⟩, fun j u hu => ?_⟩
    match j, hu with
    | 0, hu => rw [Nat.add_zero, hV o (by omega) (by omega), hc4 ⟨b, o, none⟩ hblt (fun e => by have := e.2; simp at this), p0]; simpa using hu
    | 1, hu => rw [hV _ (by omega) (by omega), hc4 ⟨b, o + 1, none⟩ hblt (fun e => by have := e.2; simp at this), p1]; simpa using hu
    | 2, hu => rw [hV _ (by omega) (by omega), hc4 ⟨b, o + 2, none⟩ hblt (fun e => by have := e.2; simp at this), p2]; simpa using hu
    | 3, hu => rw [hV _ (by omega) (by omega), q3]; simpa using hu
    | j + 4, hu => simp at hu
  have hfl := fun (new : List (Hole E)) hnew hdn hfill => Copy.fill (new := new) (W' := w4) reOk h hbase hm4.size (fun p ht hn => hc4 p (h.tb _ ht).2 (fun e => hn ⟨e.1, by omega, by omega⟩)) (fun b' ht hB => hk4 b' (h.tb b' ht).2 hB) hnew hdn hfill
  have hT' : ∀ k, (T k ∨ nw W w4 k) → T k ∨ W.heap.size ≤ k := fun k hk => hk.imp id (fun h => h.1)
  rcases hD with h0 | ⟨rfl, rfl, hb3, hB5, hr⟩
  · have hks : ks = [] := List.length_eq_zero_iff.1 h0
    have hV0 : ∀ V, SliceI V (nb base V) 4 (RE V (nb base V)) ks v' := fun V => ⟨A, cap, fun _ => [], hv, ⟨hlc, hcap⟩, fun h => absurd h (by omega), fun i h => absurd h (by omega)⟩
    refine ⟨[], _, A, cap, hv, fun h => absurd h (by omega), hlc, hcap, hfl [] (fun _ h => absurd h (by simp)) .nil (fun V _ hv hd hap => hnode V (fun off h1 h2 => hv ⟨b, off, none⟩ (.inl hTb) (hap off h1 h2)) (hV0 V)), ?_, ?_, hT', hm4, q3⟩
    · rw [h0, pushS_zero]; rfl
    · rw [hks, sizL, Nat.zero_add]; rfl
  · by_cases h0 : ks.length = 0
    · have hks : ks = [] := List.length_eq_zero_iff.1 h0
      have hV0 : ∀ V, SliceI V (nb base V) 4 (RE V (nb base V)) ks v' := fun V => ⟨_, ks.length, fun _ => [], hv, ⟨hlc, hcap⟩, fun h => absurd h (by omega), fun i h => absurd h (by omega)⟩
      refine ⟨[], _, _, ks.length, hv, fun h => absurd h (by omega), hlc, hcap, hfl [] (fun _ h => absurd h (by simp)) .nil (fun V _ hv hd hap => hnode V (fun off h1 h2 => hv ⟨b, off, none⟩ (.inl hTb) (hap off h1 h2)) (hV0 V)), ?_, ?_, hT', hm4, q3⟩
      · rw [h0, pushS_zero]; rfl
      · rw [hks, sizL, Nat.zero_add]; rfl
    · have hB6 : Blk w4 b3 24 (flatN css ks.length).toArray := by rw [hw4]; exact hB5.far (show b3 ≠ b by omega) _
      have hat : atH 4 (RE w Q) w4 ⟨b3, 0, ks, ks.length⟩ := fun i hi => ⟨css i, hr i hi, fun j u hu => by
        have hj : j < 4 := by rw [← (reOk _ _ _ _ (hr i hi)).1]; exact (List.getElem?_eq_some_iff.1 hu).1
        rw [hB6.cell]
        simp only [List.getElem?_toArray, Nat.zero_add]
        rw [flatN_get (fun i hi => (reOk _ _ _ _ (hr i hi)).1) hi hj]
        exact hu⟩
      refine ⟨[⟨b3, 0, ks, ks.length⟩], _, _, ks.length, hv, fun _ => by simp, hlc, hcap, hfl [⟨b3, 0, ks, ks.length⟩] (fun k hk => ?_) (List.pairwise_singleton _ _) (fun V _ hv' hd hap => hnode V (fun off h1 h2 => hv' ⟨b, off, none⟩ (.inl hTb) (hap off h1 h2)) ?_), ?_, ?_, hT', hm4, q3⟩
      · have : k = ⟨b3, 0, ks, ks.length⟩ := by simpa using hk
        subst this
        exact ⟨⟨hb3, hB6.lt⟩, ⟨_, _, hB6⟩, hat⟩
      · rw [hv]
        exact slice_of_at (hd _ (List.mem_singleton.2 rfl)) (reOk _ _) (by omega) (Nat.le_trans hbase hb3) hlen
      · rw [pushS_pos _ _ _ (by omega)]; rfl
      · rfl
end Go.Proofs.Ytdjckmpfblaliaa
