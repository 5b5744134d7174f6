/- Arguments copied: cloneArgs (tree). -/
import Derived.Test.YtdjckmpfblaliaaTreeHX
namespace Go.Proofs.Ytdjckmpfblaliaa
open Go.ChangeShapes Go.WideShapes Go.ChangeAt Go.RowKit Go.Deep
set_option linter.unusedVariables false

/-- one piece turned -/
def upd (css : Nat → List Value) (k : Nat) (cs : List Value) : Nat → List Value := fun i => if i = k then cs else css i
theorem upd_same (css : Nat → List Value) (k : Nat) (cs : List Value) : upd css k cs k = cs := by simp [upd]
theorem upd_ne (css : Nat → List Value) {k i : Nat} (cs : List Value) (h : i ≠ k) : upd css k cs i = css i := by simp [upd, h]
theorem upd_upd (css : Nat → List Value) (k : Nat) (cs ds : List Value) : upd (upd css k cs) k ds = upd css k ds := by
  funext i; simp only [upd]; split <;> rfl
theorem upd_self (css : Nat → List Value) (k : Nat) : upd css k (css k) = css := by
  funext i; simp only [upd]; split
  · rename_i h; rw [h]
  · rfl
theorem upd_len {css : Nat → List Value} {k n C : Nat} {cs : List Value} (h : ∀ i, i < n → (css i).length = C) (hc : cs.length = C) (i : Nat) (hi : i < n) : (upd css k cs i).length = C := by
  unfold upd; split
  · exact hc
  · exact h i hi
theorem flatN_upd_ge (css : Nat → List Value) {k n : Nat} (cs : List Value) (h : n ≤ k) : flatN (upd css k cs) n = flatN css n := by
  induction n with
  | zero => rfl
  | succ n ih => rw [flatN, flatN, ih (by omega), upd_ne _ _ (by omega)]
theorem flatN_set {css : Nat → List Value} {C n : Nat} (h : ∀ i, i < n → (css i).length = C) {i j : Nat} (hi : i < n) (hj : j < C) (u : Value) : (flatN css n).set (i * C + j) u = flatN (upd css i ((css i).set j u)) n := by
  induction n with
  | zero => omega
  | succ n ih =>
    have hl : (flatN css n).length = n * C := flatN_len (fun i hi => h i (by omega))
    rw [flatN, flatN]
    by_cases hin : i < n
    · have : i * C + j < n * C := by
        have := Nat.mul_le_mul_right C (show i + 1 ≤ n by omega)
        rw [Nat.succ_mul] at this
        omega
      rw [List.set_append_left _ _ (by rw [hl]; exact this), ih (fun i hi => h i (by omega)) hin, upd_ne _ _ (by omega)]
    · have e : i = n := by omega
      subst e
      rw [List.set_append_right _ _ (by rw [hl]; omega), hl, flatN_upd_ge _ _ (Nat.le_refl _), upd_same]
      congr 2
      omega
/-- a row of such pieces; a cell of it is set -/
theorem Blk.setN {w : World} {b : Nat} {t : TypeId} {css : Nat → List Value} {n C : Nat} (hB : Blk w b t (flatN css n).toArray) (h : ∀ i, i < n → (css i).length = C) {i j : Nat} (hi : i < n) (hj : j < C) (u : Value) : Blk (w.setCell ⟨b, i * C + j, none⟩ u) b t (flatN (upd css i ((css i).set j u)) n).toArray := by
  have := hB.set_ (i * C + j) u
  rwa [List.setIfInBounds_toArray, flatN_set h hi hj u] at this
theorem Blk.getN {w : World} {b : Nat} {t : TypeId} {css : Nat → List Value} {n C : Nat} (hB : Blk w b t (flatN css n).toArray) (h : ∀ i, i < n → (css i).length = C) {i j : Nat} (hi : i < n) (hj : j < C) : w.cell? ⟨b, i * C + j, none⟩ = (css i)[j]? := by
  rw [hB.cell, List.getElem?_toArray, flatN_get h hi hj]
def wAr : List Ar → Nat
  | [] => 0
  | a :: l => wE a.x + (a.nm.size + 1) + wAr l
theorem wAr_mem {l : List Ar} {a : Ar} (h : a ∈ l) : wE a.x + (a.nm.size + 1) ≤ wAr l := by
  induction l with
  | nil => simp at h
  | cons x l ih =>
    rw [wAr]
    rcases List.mem_cons.1 h with rfl | h
    · omega
    · have := ih h; omega
theorem wAr_len (l : List Ar) : l.length ≤ wAr l := by
  induction l with
  | nil => exact Nat.zero_le _
  | cons x l ih => rw [wAr, List.length_cons]; omega
theorem argCk (w : World) (Q : Nat → Prop) (x : Ar) (cs : List Value) (h : ArgI w Q x cs) : CellsOk 6 cs := by
  obtain ⟨xcs, rfl, _, h⟩ := h
  obtain ⟨h1, h2⟩ := exprOk _ _ _ _ h
  exact ⟨by simp [h1], fun u hu => by rcases List.mem_cons.1 hu with rfl | hu; rfl; rcases List.mem_cons.1 hu with rfl | hu; rfl; exact h2 u hu⟩
theorem ArgI.keep {w w' : World} {Q Q' : Nat → Prop} {a : Ar} {cs : List Value} (h : ArgI w Q a cs) (hQ : ∀ b, Q b → Q' b) (hc : ∀ p : Addr, Q p.block → w'.cell? p = w.cell? p) : ArgI w' Q' a cs := by
  obtain ⟨xcs, h1, h2, h3⟩ := h
  exact ⟨xcs, h1, h2, h3.keep hQ hc⟩
theorem ArgI.open_ {w : World} {Q : Nat → Prop} {a : Ar} {cs : List Value} (h : ArgI w Q a cs) : ∃ o n s A l c, cs = [.bool a.ref, .string a.nm, .int .i64 o, .int .i64 n, .string s, .slice A l c] ∧ a.nm.size ≤ 9223372036854775807 ∧ ExprI w Q a.x [.int .i64 o, .int .i64 n, .string s, .slice A l c] := by
  obtain ⟨xcs, rfl, h2, h3⟩ := h
  obtain ⟨o, n, s, A, l, c, rfl⟩ := h3.form
  exact ⟨o, n, s, A, l, c, rfl, h2, h3⟩
theorem set4_cells (w : World) {b o : Nat} (v0 v1 v2 v3 : Value) : ((((w.setCell ⟨b, o, none⟩ v0).setCell ⟨b, o + 1, none⟩ v1).setCell ⟨b, o + 2, none⟩ v2).setCell ⟨b, o + 3, none⟩ v3).heap.size = w.heap.size ∧ ∀ p : Addr, p.block ≠ b → ((((w.setCell ⟨b, o, none⟩ v0).setCell ⟨b, o + 1, none⟩ v1).setCell ⟨b, o + 2, none⟩ v2).setCell ⟨b, o + 3, none⟩ v3).cell? p = w.cell? p := by
  refine ⟨by simp [World.setCell], fun p hp => ?_⟩
  have hne : ∀ j, p ≠ ⟨b, j, none⟩ := fun j e => hp (by rw [e])
  rw [cell_set_ne _ (hne _), cell_set_ne _ (hne _), cell_set_ne _ (hne _), cell_set_ne _ (hne _)]
set_option maxHeartbeats 4000000 in
theorem cloneArgs_any {w W : World} {Q : Nat → Prop} {l : List Ar} {v : Value} (h : SliceI w Q 6 (ArgI w Q) l v) (hI : In Q w W) (hw : wAr l ≤ 1000000) :
    Calls Try.prog 113 #[v] W fun e w' => ∃ v', e = .returned v' ∧ Below W.heap.size W w' ∧ SliceI w' (nw W w') 6 (ArgI w' (nw W w')) l v' := by
  obtain ⟨A, cap, rfl, _, _⟩ := h.shape
  have hlen : l.length ≤ 1000000 := Nat.le_trans (wAr_len l) hw
  have HF := Lib.hid (freshA_any h hI (argCk w Q) hlen)
  have HI := Lib.hid hI
  clear h hI
  go_enter Try.func113, Try.ntmps113
  go_wp2_with fail
  refine HF.out.mono ?_
  rintro e w1 (⟨rfl, rfl, rfl⟩ | ⟨css, rfl, hw1, hr⟩)
  · clear HF
    go_wp2_with fail
    go_loopw [9] (fun i wr => i = .int .i64 0 ∧ Hid (wr = w1)) (fun i _ => 0)
    case atStart => exact ⟨rfl, Lib.hid rfl⟩
    case round =>
      obtain ⟨rfl, HR⟩ := hrel
      go_wp2_with fail
      go_ret
      exact ⟨_, rfl, by rw [HR.out]; exact Below.refl _ _, nil_slice⟩
  · have HB : Hid (Blk w1 W.heap.size 66 (flatN css l.length).toArray) := Lib.hid (by rw [hw1]; exact Blk.new _ _ _)
    have HW : Hid (Below W.heap.size W w1) := Lib.hid (by rw [hw1]; exact below_box _)
    have HR := Lib.hid hr
    obtain ⟨a, ha⟩ : ∃ a : Addr, a = ⟨W.heap.size, 0, none⟩ := ⟨_, rfl⟩
    have HA := Lib.hid ha
    rw [← ha]
    clear HF hw1 hr ha
    go_wp2_with fail
    go_loopw [9] (fun i wr => ∃ (k : Nat) (css : Nat → List Value), k ≤ l.length ∧ i = .int .i64 k ∧ Hid (Below W.heap.size W wr) ∧ Hid (Blk wr W.heap.size 66 (flatN css l.length).toArray) ∧ Hid (∀ i (h : i < l.length), i < k → ArgI wr (nb (W.heap.size + 1) wr) l[i] (css i)) ∧ Hid (∀ i (h : i < l.length), k ≤ i → ArgI w Q l[i] (css i))) (fun i _ => l.length - (intOf i).toNat)
    case atStart => exact ⟨0, css, Nat.zero_le _, rfl, HW, HB, Lib.hid (fun i h h0 => absurd h0 (by omega)), Lib.hid (fun i h _ => HR.out i h)⟩
    case round =>
      clear HR HB HW
      obtain ⟨k, css, hk, rfl, HWr, HBr, HDn, HRw⟩ := hrel
      by_cases hlt : k < l.length
      · have HC6 : Hid (∀ i, i < l.length → (css i).length = 6) := Lib.hid (fun i hi => by by_cases h : i < k; exact (argCk _ _ _ _ (HDn.out i hi h)).1; exact (argCk _ _ _ _ (HRw.out i hi (by omega))).1)
        obtain ⟨o1, n1, s1, A1, l1, c1, hcs, hnm, hx⟩ := (HRw.out k hlt (Nat.le_refl _)).open_
        have hc : a.add (k * 6) = ⟨W.heap.size, k * 6, none⟩ := by rw [HA.out, addr0]
        have HC := Lib.hid hc
        have hget := fun j (hj : j < 6) => HBr.out.getN HC6.out hlt hj
        rw [hcs] at hget
        have p1 : wr.cell? ⟨(a.add (k * 6)).block, (a.add (k * 6)).off + 1, none⟩ = some (.string l[k].nm) := by rw [hc]; exact hget 1 (by omega)
        have p2 : wr.cell? ⟨(a.add (k * 6)).block, (a.add (k * 6)).off + 2, none⟩ = some (.int .i64 o1) := by rw [hc]; exact hget 2 (by omega)
        have p3 : wr.cell? ⟨(a.add (k * 6)).block, (a.add (k * 6)).off + 3, none⟩ = some (.int .i64 n1) := by rw [hc]; exact hget 3 (by omega)
        have p4 : wr.cell? ⟨(a.add (k * 6)).block, (a.add (k * 6)).off + 4, none⟩ = some (.string s1) := by rw [hc]; exact hget 4 (by omega)
        have p5 : wr.cell? ⟨(a.add (k * 6)).block, (a.add (k * 6)).off + 5, none⟩ = some (.slice A1 l1 c1) := by rw [hc]; exact hget 5 (by omega)
        have hwk := wAr_mem (List.getElem_mem hlt)
        have HCl := Lib.hid (fun V => Clone_any l[k].nm V (by omega))
        have HCx := Lib.hid (fun V hV => cloneExpr_any (W := V) hx hV (by omega))
        have HIr := Lib.hid (HI.out.on HWr.out)
        have HQ : Hid (¬ Q W.heap.size) := Lib.hid (fun hq => by have := HI.out.1 _ hq; omega)
        have HNm := Lib.hid hnm
        have HCs := Lib.hid hcs
        have hbl : (a.add (k * 6)).block < wr.heap.size := by rw [hc]; exact HBr.out.lt
        clear hget hx hc hnm hcs hwk
        go_wp2_with (first
          | ((go_at_call 44; (with_reducible refine (HCl.out _).mono ?_); rintro e q1 ⟨rfl, hb1⟩; have HK1 := Lib.hid (HBr.out.below hb1 HBr.out.lt); have r1 := (hb1.cell (p := ⟨(a.add (k * 6)).block, (a.add (k * 6)).off + 1, none⟩) hbl).trans p1; have r2 := (hb1.cell (p := ⟨(a.add (k * 6)).block, (a.add (k * 6)).off + 2, none⟩) hbl).trans p2; have r3 := (hb1.cell (p := ⟨(a.add (k * 6)).block, (a.add (k * 6)).off + 3, none⟩) hbl).trans p3; have r4 := (hb1.cell (p := ⟨(a.add (k * 6)).block, (a.add (k * 6)).off + 4, none⟩) hbl).trans p4; have r5 := (hb1.cell (p := ⟨(a.add (k * 6)).block, (a.add (k * 6)).off + 5, none⟩) hbl).trans p5; have f1 : q1.frozen? ⟨(a.add (k * 6)).block, (a.add (k * 6)).off + 1, none⟩ = false := (by rw [HC.out]; exact HK1.out.frozen _); have HB1 := Lib.hid hb1; clear hb1)))
        have hb2 : Below W.heap.size W (q1.setCell ⟨(a.add (k * 6)).block, (a.add (k * 6)).off + 1, none⟩ (.string l[k].nm)) := below_setc (HWr.out.trans (HB1.out.mono HWr.out.size)) (by rw [HC.out]; exact Nat.le_refl _) _
        have hk2 : Blk (q1.setCell ⟨(a.add (k * 6)).block, (a.add (k * 6)).off + 1, none⟩ (.string l[k].nm)) W.heap.size 66 (flatN css l.length).toArray := by
          have h1 := HK1.out.setN HC6.out hlt (show 1 < 6 by omega) (.string l[k].nm)
          have e1 : (css k).set 1 (.string l[k].nm) = css k := by rw [HCs.out]; rfl
          rw [e1, upd_self] at h1
          rw [HC.out]
          exact h1
        have hd2 : ∀ p : Addr, p.block ≠ W.heap.size → p.block < wr.heap.size → (q1.setCell ⟨(a.add (k * 6)).block, (a.add (k * 6)).off + 1, none⟩ (.string l[k].nm)).cell? p = wr.cell? p := fun p hp hl => by
          rw [cell_set_ne _ (fun e => hp (by rw [e, HC.out]))]
          exact HB1.out.cell hl
        have hz2 : wr.heap.size ≤ (q1.setCell ⟨(a.add (k * 6)).block, (a.add (k * 6)).off + 1, none⟩ (.string l[k].nm)).heap.size := by simp only [World.setCell, Array.size_modify]; exact HB1.out.size
        generalize World.setCell q1 _ _ = q2 at hb2 hk2 hd2 hz2 ⊢
        refine (HCx.out _ (HI.out.on hb2)).mono ?_
        rintro e q3 ⟨v0, v1, v2, v3, rfl, hb3, hx3⟩
        have HK3 := Lib.hid (hk2.below hb3 hk2.lt)
        have HB3 := Lib.hid (hb2.trans (hb3.mono hb2.size))
        have hget := fun j (hj : j < 6) => HK3.out.getN HC6.out hlt hj
        rw [HCs.out] at hget
        have s2 : q3.cell? ⟨(a.add (k * 6)).block, (a.add (k * 6)).off + 2, none⟩ = some (.int .i64 o1) := by rw [HC.out]; exact hget 2 (by omega)
        have s3 : q3.cell? ⟨(a.add (k * 6)).block, (a.add (k * 6)).off + 3, none⟩ = some (.int .i64 n1) := by rw [HC.out]; exact hget 3 (by omega)
        have s4 : q3.cell? ⟨(a.add (k * 6)).block, (a.add (k * 6)).off + 4, none⟩ = some (.string s1) := by rw [HC.out]; exact hget 4 (by omega)
        have s5 : q3.cell? ⟨(a.add (k * 6)).block, (a.add (k * 6)).off + 5, none⟩ = some (.slice A1 l1 c1) := by rw [HC.out]; exact hget 5 (by omega)
        have t2 : q3.frozen? ⟨(a.add (k * 6)).block, (a.add (k * 6)).off + 2, none⟩ = false := by rw [HC.out]; exact HK3.out.frozen _
        have t3 : q3.frozen? ⟨(a.add (k * 6)).block, (a.add (k * 6)).off + 3, none⟩ = false := by rw [HC.out]; exact HK3.out.frozen _
        have t4 : q3.frozen? ⟨(a.add (k * 6)).block, (a.add (k * 6)).off + 4, none⟩ = false := by rw [HC.out]; exact HK3.out.frozen _
        have t5 : q3.frozen? ⟨(a.add (k * 6)).block, (a.add (k * 6)).off + 5, none⟩ = false := by rw [HC.out]; exact HK3.out.frozen _
        obtain ⟨x0, x1, x2, X, xn, xc, hxe⟩ := hx3.form
        simp only [List.cons.injEq, and_true] at hxe
        obtain ⟨rfl, rfl, rfl, rfl⟩ := hxe
        have HX3 := Lib.hid hx3
        have HZ3 : Hid (wr.heap.size ≤ q3.heap.size) := Lib.hid (Nat.le_trans hz2 hb3.size)
        have HD3 : Hid (∀ p : Addr, p.block ≠ W.heap.size → p.block < wr.heap.size → q3.cell? p = wr.cell? p) := Lib.hid (fun p hp hl => (hb3.cell (Nat.lt_of_lt_of_le hl hz2)).trans (hd2 p hp hl))
        have HNw : Hid (∀ b, nw q2 q3 b → nb (W.heap.size + 1) q3 b) := Lib.hid (fun b hb => ⟨by have := hk2.lt; have := hb.1; omega, hb.2⟩)
        clear hget hx3 hb3 hb2 hk2 hd2 hz2
        go_wp2_with fail
        go_roundw
        case rel =>
          rw [HC.out]
          have L0 := HC6.out
          have b0 := HK3.out
          have b1 := b0.setN L0 hlt (show 2 < 6 by omega) (.int .i64 x0)
          have L1 := fun i hi => upd_len (css := css) (k := k) (cs := (css k).set 2 (.int .i64 x0)) L0 (by rw [List.length_set]; exact L0 k hlt) i hi
          have b2 := b1.setN L1 hlt (show 3 < 6 by omega) (.int .i64 x1)
          rw [upd_same, upd_upd] at b2
          have L2 := fun i hi => upd_len (css := css) (k := k) (cs := ((css k).set 2 (.int .i64 x0)).set 3 (.int .i64 x1)) L0 (by rw [List.length_set, List.length_set]; exact L0 k hlt) i hi
          have b3 := b2.setN L2 hlt (show 4 < 6 by omega) (.string x2)
          rw [upd_same, upd_upd] at b3
          have L3 := fun i hi => upd_len (css := css) (k := k) (cs := (((css k).set 2 (.int .i64 x0)).set 3 (.int .i64 x1)).set 4 (.string x2)) L0 (by rw [List.length_set, List.length_set, List.length_set]; exact L0 k hlt) i hi
          have b4 := b3.setN L3 hlt (show 5 < 6 by omega) (.slice X xn xc)
          rw [upd_same, upd_upd] at b4
          have e1 : ((((css k).set 2 (.int .i64 x0)).set 3 (.int .i64 x1)).set 4 (.string x2)).set 5 (.slice X xn xc) = [.bool l[k].ref, .string l[k].nm, .int .i64 x0, .int .i64 x1, .string x2, .slice X xn xc] := by rw [HCs.out]; rfl
          rw [e1] at b4
          have hset := set4_cells q3 (b := W.heap.size) (o := k * 6 + 2) (.int .i64 x0) (.int .i64 x1) (.string x2) (.slice X xn xc)
          have hbl4 : Below W.heap.size W ((((q3.setCell ⟨W.heap.size, k * 6 + 2, none⟩ (.int .i64 x0)).setCell ⟨W.heap.size, k * 6 + 2 + 1, none⟩ (.int .i64 x1)).setCell ⟨W.heap.size, k * 6 + 2 + 2, none⟩ (.string x2)).setCell ⟨W.heap.size, k * 6 + 2 + 3, none⟩ (.slice X xn xc)) :=
            below_setc (below_setc (below_setc (below_setc HB3.out (Nat.le_refl _) _) (Nat.le_refl _) _) (Nat.le_refl _) _) (Nat.le_refl _) _
          refine ⟨k + 1, _, by omega, by go_num, Lib.hid hbl4, Lib.hid b4, Lib.hid (fun i hi hik => ?_), Lib.hid (fun i hi hik => ?_)⟩
          · have hN : ∀ b, nb (W.heap.size + 1) q3 b → nb (W.heap.size + 1) ((((q3.setCell ⟨W.heap.size, k * 6 + 2, none⟩ (.int .i64 x0)).setCell ⟨W.heap.size, k * 6 + 2 + 1, none⟩ (.int .i64 x1)).setCell ⟨W.heap.size, k * 6 + 2 + 2, none⟩ (.string x2)).setCell ⟨W.heap.size, k * 6 + 2 + 3, none⟩ (.slice X xn xc)) b := fun b hb => ⟨hb.1, by rw [hset.1]; exact hb.2⟩
            by_cases e : i = k
            · subst e
              rw [upd_same]
              exact ⟨_, rfl, HNm.out, HX3.out.keep (fun b hb => hN b (HNw.out b hb)) (fun p hp => hset.2 p (by have := (HNw.out _ hp).1; omega))⟩
            · rw [upd_ne _ _ e]
              exact (HDn.out i hi (by omega)).keep (fun b hb => hN b ⟨hb.1, Nat.lt_of_lt_of_le hb.2 HZ3.out⟩) (fun p hp => (hset.2 p (by have := hp.1; omega)).trans (HD3.out p (by have := hp.1; omega) hp.2))
          · rw [upd_ne _ _ (by omega)]
            exact HRw.out i hi (by omega)
        case measure => simp [intOf]; omega
      · go_wp2_with fail
        go_ret
        refine ⟨_, rfl, HWr.out, ?_⟩
        rw [HA.out]
        exact row_slice HBr.out (fun i hi => (HDn.out i hi (by omega)).keep (fun b hb => ⟨by have := hb.1; omega, hb.2⟩) (fun _ _ => rfl)) (argCk _ _) ⟨Nat.le_refl _, HBr.out.lt⟩ hlen
end Go.Proofs.Ytdjckmpfblaliaa
