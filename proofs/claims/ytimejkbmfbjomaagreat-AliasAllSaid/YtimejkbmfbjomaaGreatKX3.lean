/- Texts, merged by a program; only what is used. -/
import Derived.Deep.QuietTactic
import Derived.BigQuiet
import Derived.Maps.Own
import Derived.Maps.OwnOps
import Derived.Maps.OwnSet
import Derived.Maps.OwnIn
import Derived.Maps.Views
import Derived.Deep.AppendLies
import Derived.Maps.AppendAt
import Derived.Maps.Range
import Derived.Test.YtimejkbmfbjomaaGreatKX1
import Derived.Test.YtimejkbmfbjomaaGreatKX2
namespace Go.Proofs.YtimejkbmfbjomaaGreat
open Go.ChangeShapes Go.WideShapes Go.ChangeAt Go.RowKit Go.Deep
set_option linter.unusedVariables false
theorem operands_any (op : Int) (w : World) : Calls Tryz.prog 181 #[.int .i64 op] w fun e w' => e = .returned (.int .i64 (opN op)) ∧ w = w' := by
  unfold opN
  by_cases h3 : op = 3
  · subst h3
    go_enter Tryz.func181, Tryz.ntmps181
    go_wp2
    go_ret
    exact ⟨rfl, rfl⟩
  · by_cases h4 : op = 4
    · subst h4
      go_enter Tryz.func181, Tryz.ntmps181
      go_wp2
      go_ret
      exact ⟨rfl, rfl⟩
    · rw [if_neg (by omega)]
      have q3 : (op == 3) = false := beq_eq_false_iff_ne.2 h3
      have q4 : (op == 4) = false := beq_eq_false_iff_ne.2 h4
      clear h3 h4
      by_cases h5 : 5 ≤ op
      · by_cases h6 : op ≤ 17
        · rw [if_pos ⟨h5, h6⟩]
          go_enter Tryz.func181, Tryz.ntmps181
          go_wp2
          go_ret
          exact ⟨rfl, rfl⟩
        · rw [if_neg (by omega)]
          go_enter Tryz.func181, Tryz.ntmps181
          go_wp2
          go_ret
          exact ⟨rfl, rfl⟩
      · rw [if_neg (by omega)]
        go_enter Tryz.func181, Tryz.ntmps181
        go_wp2
        go_ret
        exact ⟨rfl, rfl⟩
theorem opN_le (op : Int) : -1 ≤ opN op ∧ opN op ≤ 2 := by unfold opN; split <;> (try split) <;> omega
theorem below_box {W : World} (o : Obj) : Below W.heap.size W (W.alloc o) := (Below.refl _ _).alloc (Nat.le_refl _) o
theorem quiet_same {P : Program} {f : FuncId} {args : Array Value} {w : World} {n : Nat} {v : Value}
    (h : Calls P f args (w.drewN n) fun e w' => e = .returned v ∧ w.drewN n = w') : Calls P f args (w.drewN n) fun e w'' => e = .returned v ∧ ∃ m, w'' = w.drewN m :=
  h.mono fun _ _ ⟨he, hm⟩ => ⟨he, n, hm.symm⟩
theorem below_drewN {B : Nat} {a w : World} (h : Below B a w) (k : Nat) : Below B a (w.drewN k) := ⟨h.os, h.tape, h.output, h.size, h.block⟩
def MayOk (b : Bool) (W : World) (e : Ending) (w' : World) : Prop := e = .returned (.bool b) ∧ Below W.heap.size W w'
set_option maxHeartbeats 1000000 in
theorem mayExprWithin_any {w : World} {Q : Nat → Prop} {e : E} {cs : List Value} (h : ExprI w Q e cs) : ∀ (c0 c1 c2 c3 : Value), cs = [c0, c1, c2, c3] → ∀ (d : Int) (W : World), 0 ≤ d → d ≤ 100 → In Q w W →
    Calls Tryz.prog 174 #[.agg #[c0, c1, c2, c3], .int .i64 d] W (MayOk (mayE d.toNat e) W) := by
  induction h with
  | @mk op n nm ks A cap css hop hn hnm hcap hA hk ih =>
    intro c0 c1 c2 c3 hcs d W hdl hd hI
    simp only [List.cons.injEq, and_true] at hcs
    obtain ⟨rfl, rfl, rfl, rfl⟩ := hcs
    unfold i64 at hop hn
    have HA := Lib.hid hA
    have HK := Lib.hid hk
    have IH := Lib.hid ih
    have HI := Lib.hid hI
    clear hA hk ih hI
    by_cases hd0 : d = 0
    · have qd : (d == 0) = true := by simp [hd0]
      have HM : Hid (mayE d.toNat (.mk op n nm ks) = false) := Lib.hid (by rw [mayE]; simp [hd0])
      clear hd0
      go_enter Tryz.func174, Tryz.ntmps174
      go_wp2_with fail
      go_ret
      exact ⟨ret_bool HM.out.symm, below_box _⟩
    · have qd : (d == 0) = false := beq_eq_false_iff_ne.2 (by omega)
      by_cases h1 : op = 1
      · have q1 : (op == 1) = true := by simp [h1]
        have HM : Hid (mayE d.toNat (.mk op n nm ks) = (decide (n ≥ 0) && nm.toList.isEmpty && (((ks.length : Nat) : Int) == 0))) := Lib.hid (by
          rw [mayE, if_pos h1, toList_emp, decide_eq_true (show 0 < d.toNat by omega), Bool.true_and]
          congr 1
          rw [Bool.eq_iff_iff]; simp)
        clear h1 hd0
        go_enter Tryz.func174, Tryz.ntmps174
        go_wp2_with fail
        all_goals
          go_ret
          exact ⟨ret_bool (by rw [HM.out]; first | (simp_all; done) | (simp_all; intros; omega)), below_box _⟩
      · by_cases h2 : op = 2
        · have q1 : (op == 1) = false := beq_eq_false_iff_ne.2 h1
          have q2 : (op == 2) = true := by simp [h2]
          have HM : Hid (mayE d.toNat (.mk op n nm ks) = ((n == 0) && isNm (bl nm) && (((ks.length : Nat) : Int) == 0))) := Lib.hid (by
            rw [mayE, if_neg h1, if_pos h2, decide_eq_true (show 0 < d.toNat by omega), Bool.true_and]
            congr 1
            all_goals (rw [Bool.eq_iff_iff]; simp))
          clear h1 h2 hd0
          go_enter Tryz.func174, Tryz.ntmps174
          go_wp2_with (go_at_call 103; refine (Name_any _ _ (by unfold maxLen; omega)).mono ?_; rintro e w' ⟨rfl, rfl⟩)
          all_goals
            go_ret
            exact ⟨ret_bool (by rw [HM.out]; first | (simp_all; done) | (simp_all; intros; omega)), below_box _⟩
        · have q1 : (op == 1) = false := beq_eq_false_iff_ne.2 h1
          have q2 : (op == 2) = false := beq_eq_false_iff_ne.2 h2
          have HM : Hid (mayE d.toNat (.mk op n nm ks) = ((n == 0) && nm.toList.isEmpty && (((ks.length : Nat) : Int) == opN op) && mayL (d.toNat - 1) ks)) := Lib.hid (by
            rw [mayE, if_neg h1, if_neg h2, toList_emp, decide_eq_true (show 0 < d.toNat by omega), Bool.true_and]
            congr 1
            all_goals (rw [Bool.eq_iff_iff]; simp))
          have hd1 : 1 ≤ d := by omega
          clear h1 h2 hd0
          cases hn0 : (n == 0) with
          | false =>
            have hn1 : (n != 0) = true := by rw [bne, hn0]; rfl
            go_enter Tryz.func174, Tryz.ntmps174
            go_wp2_with fail
            go_quiet (fail)
            go_wp2_with fail
            go_ret
            exact ⟨ret_bool (by rw [HM.out]; simp_all), below_drewN (below_box _) _⟩
          | true =>
            have hn1 : (n != 0) = false := by rw [bne, hn0]; rfl
            cases hm0 : nm.toList.isEmpty with
            | false =>
              have hm1 : (nm.toList != []) = true := by rw [toList_bne]; rw [toList_emp] at hm0; rw [hm0]; rfl
              go_enter Tryz.func174, Tryz.ntmps174
              go_wp2_with fail
              go_quiet (fail)
              go_wp2_with fail
              go_ret
              exact ⟨ret_bool (by rw [HM.out]; simp_all), below_drewN (below_box _) _⟩
            | true =>
              have hm1 : (nm.toList != []) = false := by rw [toList_bne]; rw [toList_emp] at hm0; rw [hm0]; rfl
              cases hk0 : (((ks.length : Nat) : Int) == opN op) with
              | false =>
                have hk1 : (((ks.length : Nat) : Int) != opN op) = true := by rw [bne, hk0]; rfl
                go_enter Tryz.func174, Tryz.ntmps174
                go_wp2_with fail
                go_quiet ((go_at_call 181; exact quiet_same (operands_any _ _)))
                go_wp2_with fail
                go_ret
                exact ⟨ret_bool (by rw [HM.out]; simp_all), below_drewN (below_box _) _⟩
              | true =>
                have hk1 : (((ks.length : Nat) : Int) != opN op) = false := by rw [bne, hk0]; rfl
                go_enter Tryz.func174, Tryz.ntmps174
                go_wp2_with fail
                go_quiet ((go_at_call 181; exact quiet_same (operands_any _ _)))
                go_wp2_with fail
                have HB1 : Hid (Below W.heap.size W ((W.alloc (.cells #[.int .i64 op, .int .i64 n, .string nm, .slice A ks.length cap] 46)).drewN nq)) := Lib.hid (below_drewN (below_box _) _)
                generalize World.drewN _ nq = W1 at HB1 ⊢
                rw [hk0, hm0, hn0] at HM
                go_loopw [66] (fun i wr => ∃ k : Nat, k ≤ ks.length ∧ i = .int .i64 k ∧ Hid (mayL (d.toNat - 1) (ks.drop k) = mayL (d.toNat - 1) ks) ∧ Hid (Below W1.heap.size W1 wr)) (fun i _ => ks.length - (intOf i).toNat)
                case atStart => exact ⟨0, Nat.zero_le _, rfl, Lib.hid (by rw [List.drop_zero]), Lib.hid (Below.refl _ _)⟩
                case round =>
                  obtain ⟨k, hk, rfl, HW, HR⟩ := hrel
                  by_cases hlt : k < ks.length
                  · obtain ⟨a, rfl, hab, hcell⟩ := HA.out (by omega)
                    obtain ⟨d0, d1, d2, d3, l3, c3, hd'⟩ := (HK.out k hlt).form
                    have hIr : In Q w wr := HI.out.on (HB1.out.trans (HR.out.mono HB1.out.size))
                    have p0 : wr.cell? (a.add (k * 4)) = some (.int .i64 d0) := (hIr.cell (by rw [block_add]; exact hab)).trans (hcell k hlt 0 _ (by rw [hd']; rfl))
                    have p1 := cell_off (by decide) (show wr.cell? (a.add (k * 4 + 1)) = some (.int .i64 d1) from (hIr.cell (by rw [block_add]; exact hab)).trans (hcell k hlt 1 _ (by rw [hd']; rfl)))
                    have p2 := cell_off (by decide) (show wr.cell? (a.add (k * 4 + 2)) = some (.string d2) from (hIr.cell (by rw [block_add]; exact hab)).trans (hcell k hlt 2 _ (by rw [hd']; rfl)))
                    have p3 := cell_off (by decide) (show wr.cell? (a.add (k * 4 + 3)) = some (.slice d3 l3 c3) from (hIr.cell (by rw [block_add]; exact hab)).trans (hcell k hlt 3 _ (by rw [hd']; rfl)))
                    have HC := Lib.hid (IH.out k hlt _ _ _ _ hd' (d - 1))
                    have HIr := Lib.hid hIr
                    clear hcell hd' hIr hab
                    have HN : Hid (mayL (d.toNat - 1) ks = (mayE (d - 1).toNat ks[k] && mayL (d.toNat - 1) (ks.drop (k + 1)))) := Lib.hid (by
                      have h1 := HW.out
                      rw [mayL_drop hlt] at h1
                      rw [← h1, show (d - 1).toNat = d.toNat - 1 by omega])
                    cases hv : mayE (d - 1).toNat ks[k] with
                    | true =>
                      rw [hv] at HC HN
                      clear hv
                      go_wp2_with (go_at_call 174; refine (HC.out _ (by omega) (by omega) (HIr.out.alloc _)).mono ?_; rintro e w2 ⟨rfl, hb2⟩)
                      go_roundw
                      case rel => exact ⟨k + 1, by omega, by go_num, Lib.hid (by rw [HN.out, Bool.true_and]), Lib.hid (HR.out.trans ((below_new hb2).mono HR.out.size))⟩
                      case measure => simp [intOf]; omega
                    | false =>
                      rw [hv] at HC HN
                      clear hv
                      go_wp2_with (go_at_call 174; refine (HC.out _ (by omega) (by omega) (HIr.out.alloc _)).mono ?_; rintro e w2 ⟨rfl, hb2⟩)
                      go_ret
                      exact ⟨ret_bool (by rw [HM.out, HN.out]; rfl), HB1.out.trans ((HR.out.trans ((below_new hb2).mono HR.out.size)).mono HB1.out.size)⟩
                  · have HN : Hid (mayL (d.toNat - 1) ks = true) := Lib.hid (by
                      have h1 := HW.out
                      rw [List.drop_of_length_le (by omega), mayL] at h1
                      exact h1.symm)
                    go_wp2_with fail
                    go_ret
                    exact ⟨ret_bool (by rw [HM.out, HN.out]; rfl), HB1.out.trans (HR.out.mono HB1.out.size)⟩
theorem MayExpr_any {w : World} {Q : Nat → Prop} {e : E} {c0 c1 c2 c3 : Value} (h : ExprI w Q e [c0, c1, c2, c3]) (W : World) (hI : In Q w W) :
    Calls Tryz.prog 156 #[.agg #[c0, c1, c2, c3]] W (MayOk (mayE 20 e) W) := by
  have HC := Lib.hid (mayExprWithin_any h c0 c1 c2 c3 rfl 20)
  have HI := Lib.hid hI
  obtain ⟨d0, d1, d2, d3, l3, k3, hd'⟩ := h.form
  simp only [List.cons.injEq, and_true] at hd'
  obtain ⟨rfl, rfl, rfl, rfl⟩ := hd'
  clear h hI
  go_enter Tryz.func156, Tryz.ntmps156
  go_wp2_with (go_at_call 174; refine (HC.out _ (by omega) (by omega) (HI.out.alloc _)).mono ?_; rintro e w2 ⟨rfl, hb2⟩)
  go_ret
  exact ⟨rfl, below_new hb2⟩
end Go.Proofs.YtimejkbmfbjomaaGreat
namespace Go.Proofs.YtimejkbmfbjomaaGreat
open Go.ChangeShapes Go.WideShapes Go.ChangeAt Go.RowKit Go.Deep
open Go.Maps (Keyed has IsMap)
set_option linter.unusedVariables false
set_option linter.unusedSimpArgs false
theorem und_s : Tryz.prog.underlying 9 = some .string := by kernel_rfl
theorem und_b : Tryz.prog.underlying 4 = some .bool := by kernel_rfl
theorem zero_b (w : World) : (zeroValue 4).run Tryz.prog w = .ok (.bool false) w := by kernel_rfl
def kS (s : ByteArray) : Lit := .string s.data.toList
theorem kS_ne {s t : ByteArray} (h : s ≠ t) : kS s ≠ kS t := by
 intro e
 apply h
 unfold kS at e
 injection e with e
 have : s.data = t.data := Array.toList_inj.1 e
 cases s; cases t; simpa using this
theorem kS_key (s : ByteArray) (hs : s.size ≤ maxLen) : keyOf Tryz.prog 9 (.string s) = some (kS s) := WideMaps.keyOf_string_mk und_s hs
/-- block b is a set of at most n texts: those of which f holds -/
def SetI (W : World) (b n : Nat) (f : ByteArray → Bool) : Prop := ∃ D : DataW Unit, W.ownsMap Tryz.prog 9 (plainElem Tryz.prog 4) b n D ∧ ∀ s : ByteArray, s.size ≤ maxLen → D.atKey (kS s) (.lit (.bool false)) = .lit (.bool (f s)) ∧ has D (kS s) = f s
theorem SetI.lt {W : World} {b n : Nat} {f : ByteArray → Bool} (h : SetI W b n f) : b < W.heap.size := by obtain ⟨D, h1, _⟩ := h; exact h1.lt
theorem SetI.mono {W : World} {b n m : Nat} {f : ByteArray → Bool} (h : SetI W b n f) (hm : n ≤ m) : SetI W b m f := by obtain ⟨D, h1, h2⟩ := h; exact ⟨D, h1.mono hm, h2⟩
theorem SetI.eq {W : World} {b n : Nat} {f g : ByteArray → Bool} (h : SetI W b n f) (hg : ∀ s : ByteArray, s.size ≤ maxLen → f s = g s) : SetI W b n g := by
 obtain ⟨D, h1, h2⟩ := h
 exact ⟨D, h1, fun s hs => by rw [← hg s hs]; exact h2 s hs⟩
theorem SetI.made (W : World) : SetI (W.alloc (.map #[] 0)) W.heap.size 0 (fun _ => false) := ⟨.map [], World.ownsMap_made _ _ _ _, fun s _ => ⟨rfl, rfl⟩⟩
theorem SetI.kept {W W' : World} {b n : Nat} {f : ByteArray → Bool} {row : Option Nat} (h : SetI W b n f) (hg : W.grownBy W' row) (hne : some b ≠ row) : SetI W' b n f := by
 obtain ⟨D, h1, h2⟩ := h
 exact ⟨D, h1.kept hg hne, h2⟩
theorem SetI.same {W W' : World} {b n : Nat} {f : ByteArray → Bool} (h : SetI W b n f) (hb : W'.heap[b]? = W.heap[b]?) : SetI W' b n f := by
 obtain ⟨D, ⟨es, clock, h1, h3⟩, h2⟩ := h
 exact ⟨D, ⟨es, clock, hb.trans h1, h3⟩, h2⟩
theorem SetI.below {W W' : World} {b n B : Nat} {f : ByteArray → Bool} (h : SetI W b n f) (hb : Below B W W') (hB : b < B) : SetI W' b n f := h.same (hb.block b hB)
theorem SetI.alloc {W : World} {b n : Nat} {f : ByteArray → Bool} (h : SetI W b n f) (o : Obj) : SetI (W.alloc o) b n f := h.kept (World.grownBy_alloc W o none) (by simp)
theorem plainB_inv {v : Value} {d : Bool} {ps : List MemPlace} (h : plainElem (H := Unit) Tryz.prog 4 v = some (.lit (.bool d), ps)) : v = .bool d := by
 unfold plainElem at h
 rw [und_b] at h
 cases v <;> simp at h
 rw [h.1]
theorem SetI.look {W : World} {b n : Nat} {f : ByteArray → Bool} (h : SetI W b n f) {t : TypeId} (ht : Tryz.prog.underlying t = some (.map 9 4)) (s : ByteArray) (hs : s.size ≤ maxLen) : (Instr.lookup t (.map (some b)) (.string s) false).run Tryz.prog W = .ok (.bool (f s)) W := by
 obtain ⟨D, h1, h2⟩ := h
 obtain ⟨v, ps, h3, h4⟩ := h1.lookup (Maps.string_keyed und_s) ht (zero_b W) (plainElem_bool und_b false) (kS_key s hs)
 rw [(h2 s hs).1] at h4
 rw [plainB_inv h4] at h3
 exact h3
theorem SetI.put {W : World} {b n : Nat} {f : ByteArray → Bool} (h : SetI W b n f) {t : TypeId} (ht : Tryz.prog.underlying t = some (.map 9 4)) (hn : n < maxLen) (s : ByteArray) (hs : s.size ≤ maxLen) : ∃ W', (Instr.mapUpdate t (.map (some b)) (.string s) (.bool true)).run Tryz.prog W = .ok () W' ∧ SetI W' b (n + 1) (fun x => f x || decide (x = s)) ∧ W.grownBy W' (some b) := by
 obtain ⟨D, h1, h2⟩ := h
 have him : IsMap D := by obtain ⟨es, clock, _, _, _, rfl⟩ := h1; exact ⟨_, rfl⟩
 obtain ⟨W', h3, h4, h5⟩ := h1.update (Maps.string_keyed und_s) ht hn (kS_key s hs) (plainElem_bool und_b true)
 refine ⟨W', h3, ⟨_, h4, fun x hx => ?_⟩, h5⟩
 by_cases hxs : x = s
 ·subst hxs
  rw [Maps.atKey_put_same him (show WideAt.IsKeyLit (kS x) from trivial), Maps.has_put_same him (show WideAt.IsKeyLit (kS x) from trivial)]
  simp
 ·rw [Maps.atKey_put_other (kS_ne hxs), Maps.has_put_other (kS_ne hxs), (h2 x hx).1, (h2 x hx).2]
  simp [hxs]
/-- 'm[k] = true' at the operation -/
theorem wpList_setPut {W : World} {ops : Array Oper} {rest : List Oper} {o : Oper} {a : Act} {R : Exit → Act → World → Prop}
 (hg : o.guard = none) (m x v : Operand) (t : TypeId) (hop : o.op = Op.mapUpdate t m x v) (ht : Tryz.prog.underlying t = some (.map 9 4)) (b n : Nat) (f : ByteArray → Bool)
 (hm : a.eval m = .map (some b)) (hown : SetI W b n f) (hn : n < maxLen) (s : ByteArray) (hs : s.size ≤ maxLen) (hx : a.eval x = .string s) (hv : a.eval v = .bool true)
 (hK : ∀ W', SetI W' b (n + 1) (fun x => f x || decide (x = s)) → W.grownBy W' (some b) → wpList Tryz.prog ops R rest (a.put o.dst undef) W') :
 wpList Tryz.prog ops R (o :: rest) a W := by
 refine wpList_plain hg fun K' hK' => ?_
 obtain ⟨W', hrun, r1, r2⟩ := hown.put ht hn s hs
 unfold Oper.wp
 simp [execOp, hop, hm, hx, hv, hrun, Result.andThen]
 exact hK' _ _ (hK W' r1 r2)
end Go.Proofs.YtimejkbmfbjomaaGreat
namespace Go.Proofs.YtimejkbmfbjomaaGreat
open Go.ChangeShapes Go.WideShapes Go.ChangeAt Go.RowKit Go.Deep
set_option linter.unusedVariables false
theorem SliceI.shape {α : Type} {w : World} {Q : Nat → Prop} {C : Nat} {R : α → List Value → Prop} {l : List α} {v : Value} (h : SliceI w Q C R l v) : ∃ A cap, v = .slice A l.length cap ∧ l.length ≤ cap ∧ cap ≤ 9223372036854775807 := by
  obtain ⟨A, cap, css, h1, h2, h3, h4⟩ := h
  exact ⟨A, cap, h1, h2.1, h2.2⟩
theorem text_at {w W : World} {Q : Nat → Prop} {l : List ByteArray} {A : Option Addr} {n cap : Nat} (h : TextsI w Q l (.slice A n cap)) (hI : In Q w W) {k : Nat} (hk : k < l.length) :
    ∃ a, A = some a ∧ Q a.block ∧ W.cell? (a.add k) = some (.string l[k]) ∧ l[k].size ≤ 9223372036854775807 := by
  obtain ⟨A', cap', css, h1, h2, h3, h4⟩ := h
  injection h1 with hA hn hc
  subst hA
  obtain ⟨a, rfl, hq, hc⟩ := h3 (by omega)
  obtain ⟨h5, h6⟩ := h4 k hk
  refine ⟨a, rfl, hq, ?_, h6⟩
  have := hc k hk 0 (.string l[k]) (by rw [h5]; rfl)
  rw [Nat.mul_one, Nat.add_zero] at this
  exact (hI.cell (by rw [block_add]; exact hq)).trans this
def strs (l : List ByteArray) : List Value := l.map Value.string
theorem strs_append (a b : List ByteArray) : strs (a ++ b) = strs a ++ strs b := by simp [strs]
/-- a row of the call's own, of texts, reads as a list of texts -/
theorem texts_of_own {w : World} {base n : Nat} {l : List ByteArray} {v : Value} (hl : ∀ s ∈ l, s.size ≤ 9223372036854775807) (h : w.ownsRow base 9 1 v n (strs l)) : n = l.length ∧ TextsI w (fun b => base ≤ b ∧ b < w.heap.size) l v := by
  obtain ⟨h1, h2⟩ := h
  have hn : n = l.length := by simp [strs] at h1; omega
  refine ⟨hn, ?_⟩
  subst hn
  rcases h2 with ⟨rfl, h0⟩ | ⟨g, cap, cur, rfl, hb, hg, hnc, hcm, hsz, htk⟩
  · refine ⟨none, 0, fun _ => [], ?_, ⟨by omega, by omega⟩, fun h => absurd h (by omega), fun i h => absurd h (by omega)⟩
    rw [h0]
  · unfold maxLen at hcm
    refine ⟨some ⟨g, 0, none⟩, cap, fun i => [.string (l.getD i ⟨#[]⟩)], rfl, ⟨hnc, by omega⟩, fun h0 => ⟨_, rfl, ⟨hb, (Array.getElem?_eq_some_iff.1 hg).1⟩, fun i hi j u hu => ?_⟩, fun i hi => ⟨by simp [hi], hl _ (List.getElem_mem hi)⟩⟩
    have hj : j = 0 := by have := (List.getElem?_eq_some_iff.1 hu).1; simp at this; exact this
    subst hj
    simp only [List.getElem?_cons_zero, Option.some.injEq] at hu
    subst hu
    have hc : w.cell? ⟨g, i, none⟩ = cur[i]? := cell_of_row w g i cur _ (0, 0) hg
    have ha : (⟨g, 0, none⟩ : Addr).add (i * 1 + 0) = ⟨g, i, none⟩ := by
      unfold Addr.add
      by_cases h0 : i * 1 + 0 = 0
      · rw [if_pos (by simpa using h0)]; simp at h0; rw [h0]
      · rw [if_neg (by simpa using h0)]; simp
    rw [ha, hc]
    have h5 : (cur.toList.take (l.length * 1))[i]? = (strs l)[i]? := by rw [htk]
    rw [List.getElem?_take, if_pos (by omega)] at h5
    rw [Array.getElem?_toList] at h5
    rw [h5]
    simp [strs, hi]
theorem dec_bytes (a b : ByteArray) : (a.toList == b.toList) = decide (a = b) := by
  rw [Bool.eq_iff_iff]
  simp only [beq_iff_eq, decide_eq_true_eq]
  constructor
  · intro h
    rw [bl_toList, bl_toList] at h
    rw [← bs_bl a, ← bs_bl b, h]
  · intro h; rw [h]
theorem take_eq_step {α : Type} {a b : List α} {k : Nat} (ha : k < a.length) (hb : k < b.length) (h : a.take k = b.take k) (he : a[k] = b[k]) : a.take (k + 1) = b.take (k + 1) := by
  rw [List.take_succ_eq_append_getElem ha, List.take_succ_eq_append_getElem hb, h, he]
theorem ne_of_at {α : Type} {a b : List α} {k : Nat} (ha : k < a.length) (hb : k < b.length) (he : a[k] ≠ b[k]) : a ≠ b := by
  rintro rfl; exact he rfl
end Go.Proofs.YtimejkbmfbjomaaGreat
namespace Go.Proofs.YtimejkbmfbjomaaGreat
open Go.ChangeShapes Go.WideShapes Go.ChangeAt Go.RowKit Go.Deep
set_option linter.unusedVariables false
/-- nothing has turned but the blocks of own, and new ones -/
structure Moves (own : Nat → Prop) (w w' : World) : Prop where
  os : w'.os = w.os
  tape : w'.tape = w.tape
  output : w'.output = w.output
  size : w.heap.size ≤ w'.heap.size
  block : ∀ k, k < w.heap.size → ¬ own k → w'.heap[k]? = w.heap[k]?
section
variable {own own' : Nat → Prop} {a b c w w' : World}
theorem Moves.refl (own : Nat → Prop) (w : World) : Moves own w w := ⟨rfl, rfl, rfl, Nat.le_refl _, fun _ _ _ => rfl⟩
theorem Moves.trans (h : Moves own a b) (k : Moves own' b c) (hr : ∀ j, own' j → a.heap.size ≤ j ∨ own j) : Moves own a c :=
  ⟨k.os.trans h.os, k.tape.trans h.tape, k.output.trans h.output, Nat.le_trans h.size k.size, fun i hi hn => (k.block i (Nat.lt_of_lt_of_le hi h.size) (fun e => by rcases hr i e with h1 | h1; omega; exact hn h1)).trans (h.block i hi hn)⟩
theorem Moves.mono (h : Moves own a b) (hr : ∀ j, own j → own' j) : Moves own' a b := ⟨h.os, h.tape, h.output, h.size, fun k hk hn => h.block k hk (fun e => hn (hr k e))⟩
theorem Moves.below {B : Nat} (h : Moves own a b) (hB : B ≤ a.heap.size) (hr : ∀ j, own j → B ≤ j) : Below B a b := ⟨h.os, h.tape, h.output, h.size, fun k hk => h.block k (by omega) (fun e => by have := hr k e; omega)⟩
theorem Below.moves {B : Nat} (h : Below B a b) : Moves (B ≤ ·) a b := ⟨h.os, h.tape, h.output, h.size, fun k _ hn => h.block k (by omega)⟩
theorem moves_grown {row : Option Nat} (h : a.grownBy b row) : Moves (fun k => row = some k) a b := ⟨h.os, h.tape, h.output, h.size, fun k hk hn => h.block k hk (fun e => hn e.symm)⟩
theorem Moves.alloc (h : Moves own a b) (o : Obj) : Moves own a (b.alloc o) := h.trans (own' := fun _ => False) ⟨rfl, rfl, rfl, by simp, fun k hk _ => Below.heap_alloc _ _ _ hk⟩ (fun _ h => h.elim)
theorem Moves.set_ (h : Moves own a b) {p : Addr} (hp : own p.block ∨ a.heap.size ≤ p.block) (u : Value) : Moves own a (b.setCell p u) :=
  h.trans (own' := fun k => k = p.block) ⟨rfl, rfl, rfl, by simp [World.setCell], fun k hk hn => Below.heap_setCell _ _ _ _ hn⟩ (fun j hj => by subst hj; exact hp.symm)
theorem setMoves (w : World) (p : Addr) (u : Value) : Moves (fun k => k = p.block) w (w.setCell p u) := ⟨rfl, rfl, rfl, by simp [World.setCell], fun k hk hn => Below.heap_setCell _ _ _ _ hn⟩
theorem Moves.drewN (h : Moves own a b) (k : Nat) : Moves own a (b.drewN k) := ⟨h.os, h.tape, h.output, h.size, h.block⟩
theorem Moves.cell (h : Moves own a b) {p : Addr} (hp : p.block < a.heap.size) (hn : ¬ own p.block) : b.cell? p = a.cell? p := World.cell?_of_block (w := a) (h.block _ hp hn)
theorem Moves.blk {g : Nat} {t : TypeId} {cs : Array Value} (h : Moves own a b) (hb : Blk a g t cs) (hn : ¬ own g) : Blk b g t cs := (h.block g hb.lt hn).trans hb
theorem Moves.row {base : Nat} {e : TypeId} {size : Nat} {v : Value} {n : Nat} {xs : List Value} (h : Moves own a b) (ho : a.ownsRow base e size v n xs) (hn : ∀ j, v.ownBlock = some j → ¬ own j) : b.ownsRow base e size v n xs := by
  refine ⟨ho.1, ?_⟩
  rcases ho.2 with h1 | ⟨g, cap, cur, h1, h2, h3, r⟩
  · exact .inl h1
  · refine .inr ⟨g, cap, cur, h1, h2, (h.block g (Array.getElem?_eq_some_iff.1 h3).1 (hn g (by rw [h1]; rfl))).trans h3, r⟩
theorem In.moves {Q : Nat → Prop} {w : World} (h : In Q w a) (hm : Moves own a b) (hr : ∀ j, own j → ¬ Q j) : In Q w b :=
  ⟨fun k hk => Nat.lt_of_lt_of_le (h.1 k hk) hm.size, fun p hp => (hm.cell (h.1 _ hp) (fun e => hr _ e hp)).trans (h.2 p hp)⟩
end
theorem Blk.ne_ {w : World} {g : Nat} {t : TypeId} {cs : Array Value} {g' : Nat} {t' : TypeId} {cs' : Array Value} (h : Blk w g t cs) (h' : Blk w g' t' cs') (hne : t ≠ t') : g ≠ g' := by
  rintro rfl
  unfold Blk at h h'
  rw [h] at h'
  injection h' with h'
  injection h' with _ ht
  exact hne ht
theorem own_blk_ne {w : World} {g : Nat} {t : TypeId} {cs : Array Value} {base : Nat} {e : TypeId} {size n : Nat} {v : Value} {xs : List Value} (h : w.ownsRow base e size v n xs) (hg : Blk w g t cs) (hne : e ≠ t) : v.ownBlock ≠ some g := by
  rcases h.2 with ⟨rfl, _⟩ | ⟨g', cap, cur, rfl, _, hh, _⟩
  · simp [Value.ownBlock]
  · intro he
    have : g' = g := by simpa [Value.ownBlock] using he
    subst this
    exact Blk.ne_ (t := e) hh hg hne rfl
theorem Blk.drewN {w : World} {g : Nat} {t : TypeId} {cs : Array Value} (h : Blk w g t cs) (k : Nat) : Blk (w.drewN k) g t cs := h
theorem own_form {w : World} {base n : Nat} {e : TypeId} {size : Nat} {v : Value} {xs : List Value} (h : w.ownsRow base e size v n xs) : ∃ A cap, v = .slice A n cap ∧ n ≤ cap ∧ cap ≤ 9223372036854775807 := by
  rcases h.2 with ⟨rfl, rfl⟩ | ⟨g, cap, cur, rfl, _, _, h1, h2, _⟩
  · exact ⟨none, 0, rfl, by omega, by omega⟩
  · unfold maxLen at h2; exact ⟨_, cap, rfl, h1, by omega⟩
/-- a list of nodes on the stack: where it lies, how many, its capacity -/
abbrev SL := Addr × Nat × Nat
def sl (x : SL) : Value := .slice (some x.1) x.2.1 x.2.2
def goodS (x : SL) : Prop := 0 < x.2.1 ∧ x.2.1 ≤ x.2.2 ∧ x.2.2 ≤ 9223372036854775807
def rowS (s : List SL) : List Value := (s.map sl).reverse
theorem rowS_cons (x : SL) (s : List SL) : rowS (x :: s) = rowS s ++ [sl x] := by simp [rowS]
theorem rowS_len (s : List SL) : (rowS s).length = s.length := by simp [rowS]
def pushS (s : List SL) (A : Option Addr) (n cap : Nat) : List SL := match A, n with
  | some a, n + 1 => (a, n + 1, cap) :: s
  | _, _ => s
theorem pushS_zero (s : List SL) (A : Option Addr) (cap : Nat) : pushS s A 0 cap = s := by unfold pushS; cases A <;> rfl
theorem pushS_pos (s : List SL) (a : Addr) {n : Nat} (cap : Nat) (h : 0 < n) : pushS s (some a) n cap = (a, n, cap) :: s := by
  cases n with
  | zero => omega
  | succ n => rfl
/-- the first k of a row of the call's own -/
theorem own_cut {w : World} {base n k cap g : Nat} {e : TypeId} {xs : List Value} (h : w.ownsRow base e 1 (.slice (some ⟨g, 0, none⟩) n cap) n xs) (hk : k ≤ n) : w.ownsRow base e 1 (.slice (some ⟨g, 0, none⟩) k cap) k (xs.take k) := by
  obtain ⟨h1, h2⟩ := h
  rcases h2 with ⟨h', _⟩ | ⟨g', cap', cur, h', hb, hg, hnc, hcm, hcs, htake⟩
  · simp at h'
  · simp only [Value.slice.injEq, Option.some.injEq, Addr.mk.injEq, and_true, true_and] at h'
    obtain ⟨rfl, rfl⟩ := h'
    refine ⟨by rw [List.length_take, h1]; omega, .inr ⟨g, cap, cur, rfl, hb, hg, by omega, hcm, hcs, ?_⟩⟩
    rw [← htake, List.take_take]
    congr 1
    omega
theorem below_drewN_moves {own : Nat → Prop} {a b : World} (h : Moves own a b) : Moves own a b.drew := ⟨h.os, h.tape, h.output, h.size, h.block⟩
theorem add_ne (a : Addr) {k : Nat} (h : k ≠ 0) : a.add k = ⟨a.block, a.off + k, none⟩ := by unfold Addr.add; rw [if_neg (by simpa using h)]
theorem add_zero_ (a : Addr) : a.add 0 = a := by unfold Addr.add; simp
end Go.Proofs.YtimejkbmfbjomaaGreat
