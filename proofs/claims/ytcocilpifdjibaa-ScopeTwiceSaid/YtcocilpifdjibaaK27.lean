/- Texts, merged by a program; only what is used. -/
import Derived.Test.YtcocilpifdjibaaK1
import Derived.Test.YtcocilpifdjibaaK2
import Derived.Test.YtcocilpifdjibaaK3
import Derived.Test.YtcocilpifdjibaaK4
import Derived.Test.YtcocilpifdjibaaK5
import Derived.Test.YtcocilpifdjibaaK6
import Derived.Test.YtcocilpifdjibaaK7
import Derived.Test.YtcocilpifdjibaaK8
import Derived.Test.YtcocilpifdjibaaK9
import Derived.Test.YtcocilpifdjibaaK10
import Derived.Test.YtcocilpifdjibaaK25
import Derived.Test.YtcocilpifdjibaaK26
namespace Go.Proofs.Ytcocilpifdjibaa.U
open Go.ChangeShapes Go.WideShapes Go.ChangeAt Go.RowKit Go.Deep
set_option linter.unusedVariables false
set_option maxHeartbeats 4000000 in
theorem cloneArgs_any {w W : World} {Q : Nat → Prop} {l : List Ar} {v : Value} (h : SliceI w Q 6 (ArgI w Q) l v) (hI : In Q w W) (hw : wAr l ≤ 1000000) :
    Calls Try.prog 178 #[v] W fun e w' => ∃ v', e = .returned v' ∧ Below W.heap.size W w' ∧ SliceI w' (nw W w') 6 (ArgI w' (nw W w')) l v' := by
  obtain ⟨A, cap, rfl, _, _⟩ := h.shape
  have hlen : l.length ≤ 1000000 := Nat.le_trans (wAr_len l) hw
  have HF := Lib.hid (freshA_any h hI (argCk w Q) hlen)
  have HI := Lib.hid hI
  clear h hI
  go_enter Try.func178, Try.ntmps178
  go_wp2_with fail
  refine HF.out.mono ?_
  rintro e w1 (⟨rfl, rfl, rfl⟩ | ⟨css, rfl, hw1, hr⟩)
  · clear HF
    go_wp2_with fail
    go_loopw [9] (fun i wr => i = .int .i64 0 ∧ Hid (wr = w1)) (fun i _ => 0)
    case atStart => exact ⟨rfl, Lib.hid rfl⟩
    case round =>
      obtain ⟨rfl, HR⟩ := hrel
      go_wp2_with fail
      go_ret
      exact ⟨_, rfl, by rw [HR.out]; exact Below.refl _ _, nil_slice⟩
  · have HB : Hid (Blk w1 W.heap.size 137 (flatN css l.length).toArray) := Lib.hid (by rw [hw1]; exact Blk.new _ _ _)
    have HW : Hid (Below W.heap.size W w1) := Lib.hid (by rw [hw1]; exact below_box _)
    have HR := Lib.hid hr
    obtain ⟨a, ha⟩ : ∃ a : Addr, a = ⟨W.heap.size, 0, none⟩ := ⟨_, rfl⟩
    have HA := Lib.hid ha
    rw [← ha]
    clear HF hw1 hr ha
    go_wp2_with fail
    go_loopw [9] (fun i wr => ∃ (k : Nat) (css : Nat → List Value), k ≤ l.length ∧ i = .int .i64 k ∧ Hid (Below W.heap.size W wr) ∧ Hid (Blk wr W.heap.size 137 (flatN css l.length).toArray) ∧ Hid (∀ i (h : i < l.length), i < k → ArgI wr (nb (W.heap.size + 1) wr) l[i] (css i)) ∧ Hid (∀ i (h : i < l.length), k ≤ i → ArgI w Q l[i] (css i))) (fun i _ => l.length - (intOf i).toNat)
    case atStart => exact ⟨0, css, Nat.zero_le _, rfl, HW, HB, Lib.hid (fun i h h0 => absurd h0 (by omega)), Lib.hid (fun i h _ => HR.out i h)⟩
    case round =>
      clear HR HB HW
      obtain ⟨k, css, hk, rfl, HWr, HBr, HDn, HRw⟩ := hrel
      by_cases hlt : k < l.length
      · have HC6 : Hid (∀ i, i < l.length → (css i).length = 6) := Lib.hid (fun i hi => by by_cases h : i < k; exact (argCk _ _ _ _ (HDn.out i hi h)).1; exact (argCk _ _ _ _ (HRw.out i hi (by omega))).1)
        obtain ⟨o1, n1, s1, A1, l1, c1, hcs, hnm, hx⟩ := (HRw.out k hlt (Nat.le_refl _)).open_
        have hc : a.add (k * 6) = ⟨W.heap.size, k * 6, none⟩ := by rw [HA.out, addr0]
        have HC := Lib.hid hc
        have hget := fun j (hj : j < 6) => HBr.out.getN HC6.out hlt hj
        rw [hcs] at hget
        have p1 : wr.cell? ⟨(a.add (k * 6)).block, (a.add (k * 6)).off + 1, none⟩ = some (.string l[k].nm) := by rw [hc]; exact hget 1 (by omega)
        have p2 : wr.cell? ⟨(a.add (k * 6)).block, (a.add (k * 6)).off + 2, none⟩ = some (.int .i64 o1) := by rw [hc]; exact hget 2 (by omega)
        have p3 : wr.cell? ⟨(a.add (k * 6)).block, (a.add (k * 6)).off + 3, none⟩ = some (.int .i64 n1) := by rw [hc]; exact hget 3 (by omega)
        have p4 : wr.cell? ⟨(a.add (k * 6)).block, (a.add (k * 6)).off + 4, none⟩ = some (.string s1) := by rw [hc]; exact hget 4 (by omega)
        have p5 : wr.cell? ⟨(a.add (k * 6)).block, (a.add (k * 6)).off + 5, none⟩ = some (.slice A1 l1 c1) := by rw [hc]; exact hget 5 (by omega)
        have hwk := wAr_mem (List.getElem_mem hlt)
        have HCl := Lib.hid (fun V => Clone_any l[k].nm V (by omega))
        have HCx := Lib.hid (fun V hV => cloneExpr_any (W := V) hx hV (by omega))
        have HIr := Lib.hid (HI.out.on HWr.out)
        have HQ : Hid (¬ Q W.heap.size) := Lib.hid (fun hq => by have := HI.out.1 _ hq; omega)
        have HNm := Lib.hid hnm
        have HCs := Lib.hid hcs
        have hbl : (a.add (k * 6)).block < wr.heap.size := by rw [hc]; exact HBr.out.lt
        clear hget hx hc hnm hcs hwk
        go_wp2_with (first
          | ((go_at_call 108; (with_reducible refine (HCl.out _).mono ?_); rintro e q1 ⟨rfl, hb1⟩; have HK1 := Lib.hid (HBr.out.below hb1 HBr.out.lt); have r1 := (hb1.cell (p := ⟨(a.add (k * 6)).block, (a.add (k * 6)).off + 1, none⟩) hbl).trans p1; have r2 := (hb1.cell (p := ⟨(a.add (k * 6)).block, (a.add (k * 6)).off + 2, none⟩) hbl).trans p2; have r3 := (hb1.cell (p := ⟨(a.add (k * 6)).block, (a.add (k * 6)).off + 3, none⟩) hbl).trans p3; have r4 := (hb1.cell (p := ⟨(a.add (k * 6)).block, (a.add (k * 6)).off + 4, none⟩) hbl).trans p4; have r5 := (hb1.cell (p := ⟨(a.add (k * 6)).block, (a.add (k * 6)).off + 5, none⟩) hbl).trans p5; have f1 : q1.frozen? ⟨(a.add (k * 6)).block, (a.add (k * 6)).off + 1, none⟩ = false := (by rw [HC.out]; exact HK1.out.frozen _); have HB1 := Lib.hid hb1; clear hb1)))
        have hb2 : Below W.heap.size W (q1.setCell ⟨(a.add (k * 6)).block, (a.add (k * 6)).off + 1, none⟩ (.string l[k].nm)) := below_setc (HWr.out.trans (HB1.out.mono HWr.out.size)) (by rw [HC.out]; exact Nat.le_refl _) _
        have hk2 : Blk (q1.setCell ⟨(a.add (k * 6)).block, (a.add (k * 6)).off + 1, none⟩ (.string l[k].nm)) W.heap.size 137 (flatN css l.length).toArray := by
          have h1 := HK1.out.setN HC6.out hlt (show 1 < 6 by omega) (.string l[k].nm)
          have e1 : (css k).set 1 (.string l[k].nm) = css k := by rw [HCs.out]; rfl
          rw [e1, upd_self] at h1
          rw [HC.out]
          exact h1
        have hd2 : ∀ p : Addr, p.block ≠ W.heap.size → p.block < wr.heap.size → (q1.setCell ⟨(a.add (k * 6)).block, (a.add (k * 6)).off + 1, none⟩ (.string l[k].nm)).cell? p = wr.cell? p := fun p hp hl => by
          rw [cell_set_ne _ (fun e => hp (by rw [e, HC.out]))]
          exact HB1.out.cell hl
        have hz2 : wr.heap.size ≤ (q1.setCell ⟨(a.add (k * 6)).block, (a.add (k * 6)).off + 1, none⟩ (.string l[k].nm)).heap.size := by simp only [World.setCell, Array.size_modify]; exact HB1.out.size
        have hu2 : ∀ b, Unf wr b → Unf (q1.setCell ⟨(a.add (k * 6)).block, (a.add (k * 6)).off + 1, none⟩ (.string l[k].nm)) b := fun b hb => (hb.on HB1.out).set_ _ _
        generalize World.setCell q1 _ _ = q2 at hb2 hk2 hd2 hz2 hu2 ⊢
        refine (HCx.out _ (HI.out.on hb2)).mono ?_
        rintro e q3 ⟨v0, v1, v2, v3, rfl, hb3, hx3⟩
        have HK3 := Lib.hid (hk2.below hb3 hk2.lt)
        have HB3 := Lib.hid (hb2.trans (hb3.mono hb2.size))
        have hget := fun j (hj : j < 6) => HK3.out.getN HC6.out hlt hj
        rw [HCs.out] at hget
        have s2 : q3.cell? ⟨(a.add (k * 6)).block, (a.add (k * 6)).off + 2, none⟩ = some (.int .i64 o1) := by rw [HC.out]; exact hget 2 (by omega)
        have s3 : q3.cell? ⟨(a.add (k * 6)).block, (a.add (k * 6)).off + 3, none⟩ = some (.int .i64 n1) := by rw [HC.out]; exact hget 3 (by omega)
        have s4 : q3.cell? ⟨(a.add (k * 6)).block, (a.add (k * 6)).off + 4, none⟩ = some (.string s1) := by rw [HC.out]; exact hget 4 (by omega)
        have s5 : q3.cell? ⟨(a.add (k * 6)).block, (a.add (k * 6)).off + 5, none⟩ = some (.slice A1 l1 c1) := by rw [HC.out]; exact hget 5 (by omega)
        have t2 : q3.frozen? ⟨(a.add (k * 6)).block, (a.add (k * 6)).off + 2, none⟩ = false := by rw [HC.out]; exact HK3.out.frozen _
        have t3 : q3.frozen? ⟨(a.add (k * 6)).block, (a.add (k * 6)).off + 3, none⟩ = false := by rw [HC.out]; exact HK3.out.frozen _
        have t4 : q3.frozen? ⟨(a.add (k * 6)).block, (a.add (k * 6)).off + 4, none⟩ = false := by rw [HC.out]; exact HK3.out.frozen _
        have t5 : q3.frozen? ⟨(a.add (k * 6)).block, (a.add (k * 6)).off + 5, none⟩ = false := by rw [HC.out]; exact HK3.out.frozen _
        obtain ⟨x0, x1, x2, X, xn, xc, hxe⟩ := hx3.form
        simp only [List.cons.injEq, and_true] at hxe
        obtain ⟨rfl, rfl, rfl, rfl⟩ := hxe
        have HX3 := Lib.hid hx3
        have HU3 : Hid (∀ b, Unf wr b → Unf q3 b) := Lib.hid (fun b hb => (hu2 b hb).on hb3)
        have HZ3 : Hid (wr.heap.size ≤ q3.heap.size) := Lib.hid (Nat.le_trans hz2 hb3.size)
        have HD3 : Hid (∀ p : Addr, p.block ≠ W.heap.size → p.block < wr.heap.size → q3.cell? p = wr.cell? p) := Lib.hid (fun p hp hl => (hb3.cell (Nat.lt_of_lt_of_le hl hz2)).trans (hd2 p hp hl))
        have HNw : Hid (∀ b, nw q2 q3 b → nb (W.heap.size + 1) q3 b) := Lib.hid (fun b hb => ⟨by have := hk2.lt; have := hb.1; omega, hb.2⟩)
        clear hget hx3 hb3 hb2 hk2 hd2 hz2 hu2
        go_wp2_with fail
        go_roundw
        case rel =>
          rw [HC.out]
          have L0 := HC6.out
          have b0 := HK3.out
          have b1 := b0.setN L0 hlt (show 2 < 6 by omega) (.int .i64 x0)
          have L1 := fun i hi => upd_len (css := css) (k := k) (cs := (css k).set 2 (.int .i64 x0)) L0 (by rw [List.length_set]; exact L0 k hlt) i hi
          have b2 := b1.setN L1 hlt (show 3 < 6 by omega) (.int .i64 x1)
          rw [upd_same, upd_upd] at b2
          have L2 := fun i hi => upd_len (css := css) (k := k) (cs := ((css k).set 2 (.int .i64 x0)).set 3 (.int .i64 x1)) L0 (by rw [List.length_set, List.length_set]; exact L0 k hlt) i hi
          have b3 := b2.setN L2 hlt (show 4 < 6 by omega) (.string x2)
          rw [upd_same, upd_upd] at b3
          have L3 := fun i hi => upd_len (css := css) (k := k) (cs := (((css k).set 2 (.int .i64 x0)).set 3 (.int .i64 x1)).set 4 (.string x2)) L0 (by rw [List.length_set, List.length_set, List.length_set]; exact L0 k hlt) i hi
          have b4 := b3.setN L3 hlt (show 5 < 6 by omega) (.slice X xn xc)
          rw [upd_same, upd_upd] at b4
          have e1 : ((((css k).set 2 (.int .i64 x0)).set 3 (.int .i64 x1)).set 4 (.string x2)).set 5 (.slice X xn xc) = [.bool l[k].ref, .string l[k].nm, .int .i64 x0, .int .i64 x1, .string x2, .slice X xn xc] := by rw [HCs.out]; rfl
          rw [e1] at b4
          have hset := set4_cells q3 (b := W.heap.size) (o := k * 6 + 2) (.int .i64 x0) (.int .i64 x1) (.string x2) (.slice X xn xc)
          have hbl4 : Below W.heap.size W ((((q3.setCell ⟨W.heap.size, k * 6 + 2, none⟩ (.int .i64 x0)).setCell ⟨W.heap.size, k * 6 + 2 + 1, none⟩ (.int .i64 x1)).setCell ⟨W.heap.size, k * 6 + 2 + 2, none⟩ (.string x2)).setCell ⟨W.heap.size, k * 6 + 2 + 3, none⟩ (.slice X xn xc)) :=
            below_setc (below_setc (below_setc (below_setc HB3.out (Nat.le_refl _) _) (Nat.le_refl _) _) (Nat.le_refl _) _) (Nat.le_refl _) _
          refine ⟨k + 1, _, by omega, by go_num, Lib.hid hbl4, Lib.hid b4, Lib.hid (fun i hi hik => ?_), Lib.hid (fun i hi hik => ?_)⟩
          · have hN : ∀ b, nb (W.heap.size + 1) q3 b → nb (W.heap.size + 1) ((((q3.setCell ⟨W.heap.size, k * 6 + 2, none⟩ (.int .i64 x0)).setCell ⟨W.heap.size, k * 6 + 2 + 1, none⟩ (.int .i64 x1)).setCell ⟨W.heap.size, k * 6 + 2 + 2, none⟩ (.string x2)).setCell ⟨W.heap.size, k * 6 + 2 + 3, none⟩ (.slice X xn xc)) b := fun b hb => ⟨hb.1, (((hb.2.set_ _ _).set_ _ _).set_ _ _).set_ _ _⟩
            by_cases e : i = k
            · subst e
              rw [upd_same]
              exact ⟨_, rfl, HNm.out, HX3.out.keep (fun b hb => hN b (HNw.out b hb)) (fun p hp => hset.2 p (by have := (HNw.out _ hp).1; omega))⟩
            · rw [upd_ne _ _ e]
              exact (HDn.out i hi (by omega)).keep (fun b hb => hN b ⟨hb.1, HU3.out b hb.2⟩) (fun p hp => (hset.2 p (by have := hp.1; omega)).trans (HD3.out p (by have := hp.1; omega) hp.2.lt))
          · rw [upd_ne _ _ (by omega)]
            exact HRw.out i hi (by omega)
        case measure => simp [intOf]; omega
      · go_wp2_with fail
        go_ret
        refine ⟨_, rfl, HWr.out, ?_⟩
        rw [HA.out]
        exact row_slice HBr.out (fun i hi => (HDn.out i hi (by omega)).keep (fun b hb => ⟨by have := hb.1; omega, hb.2⟩) (fun _ _ => rfl)) (argCk _ _) ⟨Nat.le_refl _, ⟨_, _, HBr.out⟩⟩ hlen
abbrev CopyS := Copy (α := S) 13 RS
/-- the cursor over the copy: its answer p, what is ahead -/
def AtCS (w : World) (Q : Nat → Prop) (base bs c : Nat) (G : World → Prop) (W : World) (p : Option Addr) (n : Nat) : Prop :=
  ∃ v hs T, CurS W bs c v p (hs.map slH) ∧ (∀ b, T b → ¬ ownS c v b) ∧
    ((p = none ∧ hs = [] ∧ CopyS w Q base G W [] T ∧ n = 0) ∨ ∃ b o t, p = some ⟨b, o, none⟩ ∧ CopyS w Q base G W (⟨b, o, [t], 1⟩ :: hs) T ∧ n = sizS t + szHS hs)
theorem pop_copyS {w W w' : World} {Q : Nat → Prop} {base bs c : Nat} {G : World → Prop} {v v' : Value} {hs : List (Hole S)} {T : Nat → Prop} (hg : ∀ x ∈ hs.map slH, goodS x) (h : CopyS w Q base G W hs T) (hd : ∀ b, T b → ¬ ownS c v b)
    (hc : CurS w' bs c v' (popSS (hs.map slH)).1 (popSS (hs.map slH)).2) (hm : Moves (ownS c v) W w') (hl : ∀ j, v'.ownBlock = some j → W.heap.size ≤ j ∨ v.ownBlock = some j) : AtCS w Q base bs c G w' (popSS (hs.map slH)).1 (szHS hs) := by
  have h' := h.moves hm hd
  have hd' : ∀ b, T b → ¬ ownS c v' b := fun b ht e => by
    rcases e with rfl | e
    · exact hd _ ht (.inl rfl)
    · rcases hl b e with h1 | h1
      · have := (h.tb b ht).2; omega
      · exact hd b ht (.inr h1)
  cases hs with
  | nil => exact ⟨v', [], T, by simpa [popSS] using hc, hd', .inl ⟨rfl, rfl, h', rfl⟩⟩
  | cons k hs =>
    obtain ⟨b, o, ts, cap⟩ := k
    cases ts with
    | nil => have := (hg (slH ⟨b, o, [], cap⟩) (List.mem_map.2 ⟨_, List.mem_cons_self .., rfl⟩)).1; simp [slH] at this
    | cons t ts =>
      have e : (popSS (List.map slH (⟨b, o, t :: ts, cap⟩ :: hs))) = (some ⟨b, o, none⟩, (if ts.length = 0 then hs else ⟨b, o + 13, ts, cap - 1⟩ :: hs).map slH) := by
        simp only [List.map_cons, popSS, slH, List.length_cons, Nat.add_eq_right]
        by_cases h0 : ts.length = 0
        · rw [if_pos h0, if_pos h0]
        · rw [if_neg h0, if_neg h0, List.map_cons, add_ne _ (by decide)]; rfl
      rw [e] at hc ⊢
      refine ⟨v', _, T, hc, hd', .inr ⟨b, o, t, rfl, h'.pop, ?_⟩⟩
      rw [szHS, sizSL]
      split
      · rename_i h0
        have : ts = [] := List.length_eq_zero_iff.1 h0
        subst this; simp [sizSL]
      · rw [szHS]; simp; omega
/-- the cursor's answer, while the copy is under way -/
def NextCS (w : World) (Q : Nat → Prop) (base bs c : Nat) (G : World → Prop) (n : Nat) (W : World) (e : Ending) (w' : World) : Prop :=
  ∃ p, e = .returned (.pointer p) ∧ AtCS w Q base bs c G w' p n ∧ Below bs W w'
theorem nextCS_first {w W : World} {Q : Nat → Prop} {base bs c : Nat} {G : World → Prop} {v : Value} {hs : List (Hole S)} {T : Nat → Prop} (hc : CurS W bs c v none (hs.map slH)) (hcp : CopyS w Q base G W hs T) (hd : ∀ b, T b → ¬ ownS c v b) (hbc : bs ≤ c) (hbW : bs ≤ W.heap.size) (hl : szHS hs ≤ 1000000) :
    Calls Try.prog 63 #[.pointer (some ⟨c, 0, none⟩)] W (NextCS w Q base bs c G (szHS hs) W) := by
  refine (nextS_none bs c v _ W hc (by have := len_szHS hc.good; rw [List.length_map]; omega)).mono ?_
  rintro e w' ⟨v', rfl, hc', hm, hj⟩
  exact ⟨_, rfl, pop_copyS hc.good hcp hd hc' hm hj, hm.below hbW (fun j hj => by rcases hj with rfl | hj; exact hbc; exact own_ge hc.row hj)⟩
theorem nextCS_again {w W : World} {Q : Nat → Prop} {base bs c : Nat} {G : World → Prop} {v : Value} {hs new : List (Hole S)} {T : Nat → Prop} {b o : Nat} {A A2 : Option Addr} {n cap n2 cap2 : Nat} (hc : CurS W bs c v (some ⟨b, o, none⟩) (hs.map slH)) (hk : W.cell? ⟨b, o + 11, none⟩ = some (.slice A n cap)) (hk2 : W.cell? ⟨b, o + 12, none⟩ = some (.slice A2 n2 cap2)) (hA : 0 < n → A ≠ none) (hn : n ≤ cap) (hcap : cap ≤ 9223372036854775807) (hA2 : 0 < n2 → A2 ≠ none) (hn2 : n2 ≤ cap2) (hcap2 : cap2 ≤ 9223372036854775807)
    (hp : pushS (pushS (hs.map slH) A2 n2 cap2) A n cap = (new ++ hs).map slH) (hcp : CopyS w Q base G W (new ++ hs) T) (hd : ∀ b, T b → ¬ ownS c v b) (hbc : bs ≤ c) (hbW : bs ≤ W.heap.size) (hl : szHS hs ≤ 1000000) :
    Calls Try.prog 63 #[.pointer (some ⟨c, 0, none⟩)] W (NextCS w Q base bs c G (szHS (new ++ hs)) W) := by
  refine (nextS_some bs c v _ ⟨b, o, none⟩ A A2 n cap n2 cap2 W hc hk hk2 hA hn hcap hA2 hn2 hcap2 hbW (by have := len_szHS hc.good; rw [List.length_map]; omega)).mono ?_
  rintro e w' ⟨v', rfl, hc', hm, hj⟩
  rw [hp] at hc' ⊢
  exact ⟨_, rfl, pop_copyS (by rw [← hp]; exact pushS_goodS (pushS_goodS hc.good hn2 hcap2) hn hcap) hcp hd hc' hm hj, hm.below hbW (fun j hj => by rcases hj with rfl | hj; exact hbc; exact own_ge hc.row hj)⟩
theorem row_holes {w W : World} {Q : Nat → Prop} {l : List S} {A : Option Addr} {cap M M' : Nat} (h : RowS' w Q l A cap M M' W) (hl : l.length ≤ 1000000) :
    ∃ new : List (Hole S), (∀ s, pushS s A l.length cap = new.map slH ++ s) ∧ szHS new = sizSL l ∧ (∀ k ∈ new, M ≤ k.b ∧ k.b < M' ∧ (∃ t cs, Blk W k.b t cs) ∧ atH 13 (RS w Q) W k) ∧ new.Pairwise (disH 13) ∧ (0 < l.length → A ≠ none) ∧
      ∀ V base, base ≤ M → (∀ b, M ≤ b → b < M' → Unf W b → Unf V b) → (∀ k ∈ new, atH 13 (RS V (nb base V)) V k) → StmtsI V (nb base V) l (.slice A l.length cap) := by
  obtain ⟨h1, h2⟩ := h
  rcases h2 with rfl | ⟨b, css, rfl, rfl, h3, h4, h5, h6⟩
  · exact ⟨[], fun s => by rw [List.length_nil, pushS_zero]; rfl, by rw [szHS, sizSL], fun _ h => absurd h (by simp), .nil, fun h => absurd h (by simp), fun V base _ _ _ => ⟨A, cap, fun _ => [], rfl, h1, fun h => absurd h (by simp), fun i h => absurd h (by simp)⟩⟩
  · by_cases h0 : l.length = 0
    · have hn : l = [] := List.length_eq_zero_iff.1 h0
      subst hn
      exact ⟨[], fun s => by rw [List.length_nil, pushS_zero]; rfl, by rw [szHS, sizSL], fun _ h => absurd h (by simp), .nil, fun h => absurd h (by simp), fun V base _ _ _ => ⟨_, _, fun _ => [], rfl, h1, fun h => absurd h (by simp), fun i h => absurd h (by simp)⟩⟩
    · refine ⟨[⟨b, 0, l, l.length⟩], fun s => by rw [pushS_pos _ _ _ (by omega)]; rfl, by rw [szHS, szHS]; simp, fun k hk => ?_, List.pairwise_singleton _ _, fun _ => by simp, fun V base hb hu hd => ?_⟩
      · have : k = ⟨b, 0, l, l.length⟩ := by simpa using hk
        subst this
        refine ⟨h3, h4, ⟨_, _, h5⟩, fun i hi => ⟨css i, h6 i hi, fun j u hu => ?_⟩⟩
        have hj : j < 13 := by rw [← (rsOk _ _ _ _ (h6 i hi)).1]; exact (List.getElem?_eq_some_iff.1 hu).1
        rw [h5.cell]
        simp only [List.getElem?_toArray, Nat.zero_add]
        rw [flatN_get (fun i hi => (rsOk _ _ _ _ (h6 i hi)).1) hi hj]
        exact hu
      · have h7 := slice_of_at (base := base) (hd _ (List.mem_singleton.2 rfl)) (rsOk _ _) (by omega) (Nat.le_trans hb h3) (hu b h3 h4 ⟨_, _, h5⟩) hl
        obtain ⟨A', cap', ds, e1, e2, e3, e4⟩ := h7
        exact ⟨A', cap', ds, e1, e2, e3, fun i hi => (e4 i hi).1⟩
theorem fillS {w W w4 : World} {Q : Nat → Prop} {base M M2 M3 : Nat} {G : World → Prop} {hs : List (Hole S)} {T : Nat → Prop} {b o : Nat} {id kind : Int} {labels : List ByteArray} {nm proc : ByteArray} {x : E} {has : Bool} {args : List Ar} {th el : List S} {vl va x0 x1 x2 x3 : Value} {A1 A2 : Option Addr} {cap1 cap2 : Nat} {K : Nat → Prop}
    (h : CopyS w Q base G W (⟨b, o, [.mk id kind labels nm proc x has args th el], 1⟩ :: hs) T) (hbase : base ≤ W.heap.size) (hid : i64 id) (hkind : i64 kind) (hnm : nm.size ≤ 9223372036854775807) (hproc : proc.size ≤ 9223372036854775807) (hw : wS (.mk id kind labels nm proc x has args th el) ≤ 1000000)
    (hN : NodeW W w4 b o [.int .i64 id, .int .i64 kind, vl, .string nm, .string proc, x0, x1, x2, x3, .bool has, va, .slice A1 th.length cap1, .slice A2 el.length cap2])
    (hM : W.heap.size ≤ M) (hM2 : M ≤ M2) (hM3 : M2 ≤ M3) (hM4 : M3 ≤ w4.heap.size) (hK : ∀ k, K k → W.heap.size ≤ k ∧ k < M ∧ Unf w4 k) (hl : TextsI w4 K labels vl) (hx : ExprI w4 K x [x0, x1, x2, x3]) (ha : SliceI w4 K 6 (ArgI w4 K) args va)
    (hth : RowS' w Q th A1 cap1 M M2 w4) (hel : RowS' w Q el A2 cap2 M2 M3 w4) :
    ∃ new T', CopyS w Q base G w4 (new ++ hs) T' ∧ pushS (pushS (hs.map slH) A2 el.length cap2) A1 th.length cap1 = (new ++ hs).map slH ∧ szHS (new ++ hs) = sizSL th + sizSL el + szHS hs ∧ (∀ k, T' k → T k ∨ W.heap.size ≤ k) ∧ (0 < th.length → A1 ≠ none) ∧ (0 < el.length → A2 ≠ none) := by
  obtain ⟨hTb, _, _⟩ := h.raw _ (List.mem_cons_self ..)
  have hw1 : wSL th ≤ 1000000 ∧ wSL el ≤ 1000000 := by rw [wS] at hw; omega
  obtain ⟨n1, e1, z1, r1, d1, a1, f1⟩ := row_holes hth (Nat.le_trans (wSL_len th) hw1.1)
  obtain ⟨n2, e2, z2, r2, d2, a2, f2⟩ := row_holes hel (Nat.le_trans (wSL_len el) hw1.2)
  refine ⟨n1 ++ n2, _, Copy.fill (new := n1 ++ n2) (W' := w4) rsOk h hbase hN.mv.size (fun p ht hn => ?_) (fun b' ht hB => ?_) (fun k hk => ?_) (List.pairwise_append.2 ⟨d1, d2, fun k hk k' hk' => .inl (by have := (r1 k hk).2.1; have := (r2 k' hk').1; omega)⟩) (fun V hs' hv hu hd hap => ?_), ?_, ?_, fun k hk => hk.imp (fun h => h) (fun h => h.1), a1, a2⟩
  · by_cases e : p.block = b
    · exact hN.oth p e (fun e' => hn ⟨e, e'⟩)
    · exact hN.mv.cell (h.tb _ ht).2 e
  · by_cases e : b' = b
    · subst e; exact hN.blk
    · obtain ⟨t, cs, hB⟩ := hB
      exact ⟨t, cs, hN.mv.blk hB e⟩
  · rcases List.mem_append.1 hk with hk | hk
    · obtain ⟨h1, h2, h3, h4⟩ := r1 k hk
      exact ⟨⟨by omega, by omega⟩, h3, h4⟩
    · obtain ⟨h1, h2, h3, h4⟩ := r2 k hk
      exact ⟨⟨by omega, by omega⟩, h3, h4⟩
  · have hin : ∀ p : Addr, K p.block → V.cell? p = w4.cell? p := fun p hp' => by
      have hp := hK _ hp'
      have hp2 := hp.2.1
      refine hv p (.inr ⟨hp.1, by omega⟩) (fun hc => ?_)
      obtain ⟨k, hk, k1, _⟩ := hc
      rcases List.mem_append.1 hk with hk | hk
      · rcases List.mem_append.1 hk with hk | hk
        · have := (r1 k hk).1; omega
        · have := (r2 k hk).1; omega
      · have := (h.tb _ (h.raw k (by simp [hk])).1).2; omega
    have hQ : ∀ k, K k → nb base V k := fun k hk => by
      obtain ⟨k1, k2, k3⟩ := hK k hk
      exact ⟨by omega, hu k (.inr ⟨k1, by omega⟩) k3⟩
    refine ⟨[.int .i64 id, .int .i64 kind, vl, .string nm, .string proc, x0, x1, x2, x3, .bool has, va, .slice A1 th.length cap1, .slice A2 el.length cap2], ⟨StmtI.of_slice hid hkind hnm hproc (hl.keep hQ hin fun _ _ _ h => h) (hx.keep hQ hin) (ha.keep hQ hin fun _ _ _ h => h.keep hQ hin) (f1 V base (by omega) (fun b h1 h2 h3 => hu b (.inr ⟨by omega, by omega⟩) h3) (fun k hk => hd k (List.mem_append.2 (.inl hk)))) (f2 V base (by omega) (fun b h1 h2 h3 => hu b (.inr ⟨by omega, by omega⟩) h3) (fun k hk => hd k (List.mem_append.2 (.inr hk)))), hw⟩, fun j u hu => ?_⟩
    · have hj : j < 13 := by have := (List.getElem?_eq_some_iff.1 hu).1; simpa using this
      rw [hv ⟨b, o + j, none⟩ (.inl hTb) (hap (o + j) (by omega) (by omega))]
      exact hN.at_ j u hu
  · rw [e2, e1, List.map_append, List.map_append, List.append_assoc]
  · rw [szHS_append, szHS_append, z1, z2]
end Go.Proofs.Ytcocilpifdjibaa.U
