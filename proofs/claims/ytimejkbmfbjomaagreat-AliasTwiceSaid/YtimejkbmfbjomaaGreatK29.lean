/- Texts, merged by a program; only what is used. -/
import Derived.Maps.AppendAt
import Derived.Maps.Range
import Derived.Test.YtimejkbmfbjomaaGreatK1
import Derived.Test.YtimejkbmfbjomaaGreatK2
import Derived.Test.YtimejkbmfbjomaaGreatK3
import Derived.Test.YtimejkbmfbjomaaGreatK4
import Derived.Test.YtimejkbmfbjomaaGreatK5
import Derived.Test.YtimejkbmfbjomaaGreatK6
import Derived.Test.YtimejkbmfbjomaaGreatK7
import Derived.Test.YtimejkbmfbjomaaGreatK8
import Derived.Test.YtimejkbmfbjomaaGreatK9
import Derived.Test.YtimejkbmfbjomaaGreatK10
import Derived.Test.YtimejkbmfbjomaaGreatK11
import Derived.Test.YtimejkbmfbjomaaGreatK12
import Derived.Test.YtimejkbmfbjomaaGreatK13
import Derived.Test.YtimejkbmfbjomaaGreatK14
import Derived.Test.YtimejkbmfbjomaaGreatK15
import Derived.Test.YtimejkbmfbjomaaGreatK16
import Derived.Test.YtimejkbmfbjomaaGreatK17
import Derived.Test.YtimejkbmfbjomaaGreatK18
import Derived.Test.YtimejkbmfbjomaaGreatK19
import Derived.Test.YtimejkbmfbjomaaGreatK20
import Derived.Test.YtimejkbmfbjomaaGreatK21
import Derived.Test.YtimejkbmfbjomaaGreatK22
import Derived.Test.YtimejkbmfbjomaaGreatK23
import Derived.Test.YtimejkbmfbjomaaGreatK24
import Derived.Test.YtimejkbmfbjomaaGreatK25
import Derived.Test.YtimejkbmfbjomaaGreatK26
import Derived.Test.YtimejkbmfbjomaaGreatK27
import Derived.Test.YtimejkbmfbjomaaGreatK28
namespace Go.Proofs.YtimejkbmfbjomaaGreat
open Go.ChangeShapes Go.WideShapes Go.ChangeAt Go.RowKit Go.Deep
set_option linter.unusedVariables false
theorem spoken_any (l : List ByteArray) (s : ByteArray) (v : Value) (base : Nat) (w : World) (hl : ∀ t ∈ l, small t) (hs : small s) (hown : w.ownsRow base 9 1 v l.length (strs l)) (hbase : base ≤ w.heap.size) (hlen : l.length ≤ 1073741824) :
    Calls Tryz.prog 128 #[v, .string s] w (RowOk base v (spoke l s) w) := by
  obtain ⟨i0, hi0, hz0, hz1, hz2⟩ := info_parts string_info
  obtain ⟨A, cap, rfl, hc1, hc2⟩ := own_shape hown
  have HT := Lib.hid (texts_of_own hl hown).2
  have HI : Hid (In (fun b => base ≤ b ∧ b < w.heap.size) w w) := Lib.hid ⟨fun b h => h.2, fun _ _ => rfl⟩
  have HO := Lib.hid hown
  have HL := Lib.hid hl
  clear hown hl
  go_enter Tryz.func128, Tryz.ntmps128
  go_wp2_with fail
  go_loop [9] (fun i => ∃ k : Nat, k ≤ l.length ∧ i = .int .i64 k ∧ Hid (s ∉ l.take k)) (fun i => l.length - (intOf i).toNat)
  case atStart => exact ⟨0, Nat.zero_le _, rfl, Lib.hid (by simp)⟩
  case round =>
    obtain ⟨k, hk, rfl, HN⟩ := hrel
    by_cases hlt : k < l.length
    · obtain ⟨a, rfl, _, p1, _⟩ := text_at HT.out HI.out hlt
      cases hv : (l[k].toList == s.toList) with
      | true =>
        have HM : Hid (spoke l s = l) := Lib.hid (by
          rw [dec_bytes] at hv
          have : l[k] = s := by simpa using hv
          unfold spoke
          rw [if_pos (hasB_iff.2 (this ▸ List.getElem_mem hlt))])
        obtain ⟨x1, hx1⟩ : ∃ x, x = l[k] := ⟨_, rfl⟩
        rw [← hx1] at p1 hv
        clear hx1
        go_wp2_with fail
        go_ret
        exact ⟨_, rfl, by rw [HM.out]; exact HO.out, World.grownBy.refl _ _, fun j hj => .inr hj⟩
      | false =>
        have HM : Hid (s ∉ l.take (k + 1)) := Lib.hid (by
          rw [dec_bytes] at hv
          have : l[k] ≠ s := by simpa using hv
          rw [List.take_succ_eq_append_getElem hlt]
          intro h
          rcases List.mem_append.1 h with h | h
          · exact HN.out h
          · simp at h; exact this h.symm)
        obtain ⟨x1, hx1⟩ : ∃ x, x = l[k] := ⟨_, rfl⟩
        rw [← hx1] at p1 hv
        clear hx1
        go_wp2_with fail
        go_round
        case rel => exact ⟨k + 1, by omega, by go_num, HM⟩
        case measure => simp [intOf]; omega
    · have HM : Hid (spoke l s = l ++ [s]) := Lib.hid (by
        have := HN.out
        rw [List.take_of_length_le (by omega)] at this
        unfold spoke
        rw [if_neg (fun h => this (hasB_iff.1 h))])
      have hnew : ∀ j u, [Value.string s][j]? = some u → (w.alloc (.cells #[.string s] 9)).cell? ((⟨w.heap.size, 0, none⟩ : Addr).add j) = some u := by
        intro j u hu
        have hj : j = 0 := by have := (List.getElem?_eq_some_iff.1 hu).1; simp at this; exact this
        subst hj
        simp at hu
        subst hu
        simp [Addr.add]
      have HW := Lib.hid hnew
      clear hnew
      go_wp2_with (at_builtin; refine wpList_append_own_at _ rfl (.tmp 18) (.tmp 20) 22 rfl base 9 i0 _ 1 16 Tryz.underlying22 hi0 hz0 hz1 hz2 rfl (by decide) _ l.length (strs l) rfl (HO.out.alloc _) ⟨w.heap.size, 0, none⟩ 1 1 [.string s] rfl rfl HW.out (by simp [Value.oneCell']) (by unfold maxLen; omega) (by omega) (by simp; omega) ?_)
      intro v' w1 hown1 hg1 _ hat
      go_wp2_with fail
      go_ret
      refine ⟨v', rfl, ?_, (World.grownBy_alloc w _ _).andThen hg1 (fun j hj => .inr hj), fun j hj => ?_⟩
      · rw [HM.out, strs_append, List.length_append]
        exact hown1
      · rcases hat with h | h
        · exact .inr (h.symm.trans hj)
        · rw [h] at hj; injection hj with hj; left; rw [← hj]; simp
set_option maxHeartbeats 1000000 in
theorem walk_any {w : World} {Q : Nat → Prop} {e : E} {cs : List Value} (h : ExprI w Q e cs) : ∀ (c0 c1 c2 c3 : Value), cs = [c0, c1, c2, c3] → ∀ (l : List ByteArray) (v : Value) (base : Nat) (W : World), (∀ t ∈ l, small t) →
    W.ownsRow base 9 1 v l.length (strs l) → base ≤ W.heap.size → (∀ b, Q b → b < base) → l.length + sizE e ≤ 1073741824 → In Q w W →
    Calls Tryz.prog 101 #[.agg #[c0, c1, c2, c3], v] W (RowOk base v (walkE e l) W) := by
  induction h with
  | @mk op n nm ks A cap css hop hn hnm hcap hA hk ih =>
    intro c0 c1 c2 c3 hcs l v base W hl hown hbase hQ hlen hI
    simp only [List.cons.injEq, and_true] at hcs
    obtain ⟨rfl, rfl, rfl, rfl⟩ := hcs
    unfold i64 at hop hn
    rw [sizE] at hlen
    obtain ⟨A0, cap0, rfl, hcc1, hcc2⟩ := own_shape hown
    have HA := Lib.hid hA
    have HK := Lib.hid hk
    have IH := Lib.hid ih
    have HI := Lib.hid hI
    have HO := Lib.hid hown
    have HS0 := Lib.hid hl
    have HQ := Lib.hid hQ
    clear hA hk ih hI hown hl hQ
    have HB1 : Hid (Below W.heap.size W (W.alloc (.cells #[.int .i64 op, .int .i64 n, .string nm, .slice A ks.length cap] 46))) := Lib.hid (below_box _)
    have HO1 : Hid ((W.alloc (.cells #[.int .i64 op, .int .i64 n, .string nm, .slice A ks.length cap] 46)).ownsRow base 9 1 (.slice A0 l.length cap0) l.length (strs l)) := Lib.hid (HO.out.alloc _)
    have HQ3 : Hid ((W.alloc (.cells #[.int .i64 op, .int .i64 n, .string nm, .slice A ks.length cap] 46)).cell? ⟨W.heap.size, 3, none⟩ = some (.slice A ks.length cap)) := Lib.hid (by simp)
    have hsz : W.heap.size < (W.alloc (.cells #[.int .i64 op, .int .i64 n, .string nm, .slice A ks.length cap] 46)).heap.size := by simp
    have HNE : Hid (some W.heap.size ≠ Value.ownBlock (.slice A0 l.length cap0)) := Lib.hid (fun e => by have := (HO.out.lt _ e.symm).2; omega)
    have HGW : Hid (W.grownBy (W.alloc (.cells #[.int .i64 op, .int .i64 n, .string nm, .slice A ks.length cap] 46)) (Value.ownBlock (.slice A0 l.length cap0))) := Lib.hid (World.grownBy_alloc W _ _)
    by_cases h2 : op = 2
    · have q2 : (op == 2) = true := by simp [h2]
      have HW0 : Hid (walkE (.mk op n nm ks) l = walkL ks (spoke l nm)) := Lib.hid (by rw [walkE, if_pos h2])
      clear h2
      have hsl := spoke_len l nm
      have HSp := Lib.hid (spoke_all HS0.out (p := small) hnm)
      go_enter Tryz.func101, Tryz.ntmps101
      go_wp2_with (go_at_call 128; refine (spoken_any l nm (.slice A0 l.length cap0) base _ HS0.out hnm HO1.out (by simp; omega) (by omega)).mono ?_; rintro e w1 ⟨x1, rfl, ho1, hg1, hj1⟩; obtain ⟨X1, cx1, rfl, _, _⟩ := own_shape ho1; have HO3 := Lib.hid ho1; have HG1 := Lib.hid hg1; have HJ1 := Lib.hid hj1; have hc1 : w1.cell? ⟨W.heap.size, 3, none⟩ = some (.slice A ks.length cap) := (hg1.cell_far ⟨W.heap.size, 3, none⟩ hsz HNE.out).trans HQ3.out; clear ho1 hg1 hj1)
      clear hc1
      generalize W.alloc _ = Wb at *
      go_loopw [1, 16] (fun u i wr => ∃ (k : Nat) (l' : List ByteArray) (X : Option Addr) (cx : Nat), k ≤ ks.length ∧ u = .slice X l'.length cx ∧ i = .int .i64 k ∧ l'.length + sizL (ks.drop k) ≤ 1073741824 ∧ Hid (walkL (ks.drop k) l' = walkE (.mk op n nm ks) l) ∧ Hid (∀ t ∈ l', small t) ∧
          Hid (wr.ownsRow base 9 1 (.slice X l'.length cx) l'.length (strs l')) ∧ Hid (Wb.grownBy wr (Value.ownBlock (.slice A0 l.length cap0))) ∧ Hid (∀ j, Value.ownBlock (.slice X l'.length cx) = some j → Wb.heap.size ≤ j ∨ Value.ownBlock (.slice A0 l.length cap0) = some j)) (fun _ i _ => ks.length - (intOf i).toNat)
      case atStart => exact ⟨0, spoke l nm, X1, cx1, Nat.zero_le _, rfl, rfl, by rw [List.drop_zero]; omega, Lib.hid (by rw [List.drop_zero, HW0.out]), HSp, HO3, HG1, HJ1⟩
      case round =>
        obtain ⟨k, l', X, cx, hk, rfl, rfl, hsz2, HW, HS, HO2, HG, HJ⟩ := hrel
        have q3 : wr.cell? ⟨W.heap.size, 3, none⟩ = some (.slice A ks.length cap) := (HG.out.cell_far ⟨W.heap.size, 3, none⟩ hsz HNE.out).trans HQ3.out
        have hrz := HG.out.size
        have hrz2 : W.heap.size < wr.heap.size := by omega
        by_cases hlt : k < ks.length
        · have hIr : In Q w wr := (HI.out.on HB1.out).grown HG.out (fun j hj hq => absurd (HQ.out j hq) (by have := (HO.out.lt j hj).1; omega))
          obtain ⟨a, o1, n1, s1, A1, l1, k1, rfl, hd', p0, p1, p2, p3⟩ := kid_at HA.out HK.out hIr hlt
          have hd2 := sizL_drop hlt
          have hsz3 : l'.length + sizE ks[k] ≤ 1073741824 := by omega
          have hlen2 : (walkE ks[k] l').length + sizL (ks.drop (k + 1)) ≤ 1073741824 := by have := walkE_len ks[k] l'; omega
          have HC := Lib.hid (IH.out k hlt _ _ _ _ hd' l' (.slice X l'.length cx) base wr HS.out HO2.out (by have := HB1.out.size; omega) HQ.out hsz3 hIr)
          have HN : Hid (walkL (ks.drop (k + 1)) (walkE ks[k] l') = walkE (.mk op n nm ks) l) := Lib.hid (by rw [← walkL_drop hlt]; exact HW.out)
          have HS2 : Hid (∀ t ∈ walkE ks[k] l', small t) := Lib.hid (walkE_all (HK.out k hlt) HS.out)
          obtain ⟨l2, hl2⟩ : ∃ l2, l2 = walkE ks[k] l' := ⟨_, rfl⟩
          rw [← hl2] at HC HN HS2 hlen2
          clear hd' hIr hd2 hsz3 hl2
          go_wp2_with (go_at_call 101; refine HC.out.mono ?_; rintro e w2 ⟨x2, rfl, ho2, hg2, hj2⟩; obtain ⟨X2, cx2, rfl, _, _⟩ := own_shape ho2)
          go_roundw
          case rel => exact ⟨k + 1, l2, X2, cx2, by omega, rfl, by go_num, hlen2, HN, HS2, Lib.hid ho2, Lib.hid (HG.out.andThen hg2 HJ.out), Lib.hid (lies_then HG.out HJ.out hj2)⟩
          case measure => simp [intOf]; omega
        · have HN : Hid (walkE (.mk op n nm ks) l = l') := Lib.hid (by
            have h1 := HW.out
            rw [List.drop_of_length_le (by omega), walkL] at h1
            exact h1.symm)
          go_wp2_with fail
          go_ret
          exact ⟨.slice X l'.length cx, rfl, by rw [HN.out]; exact HO2.out, HGW.out.andThen HG.out (fun j hj => .inr hj), fun j hj => (HJ.out j hj).imp (fun h => by omega) id⟩
    · have q2 : (op == 2) = false := beq_eq_false_iff_ne.2 h2
      have HW0 : Hid (walkE (.mk op n nm ks) l = walkL ks l) := Lib.hid (by rw [walkE, if_neg h2])
      clear h2
      go_enter Tryz.func101, Tryz.ntmps101
      go_wp2_with fail
      generalize W.alloc _ = Wb at *
      go_loopw [1, 16] (fun u i wr => ∃ (k : Nat) (l' : List ByteArray) (X : Option Addr) (cx : Nat), k ≤ ks.length ∧ u = .slice X l'.length cx ∧ i = .int .i64 k ∧ l'.length + sizL (ks.drop k) ≤ 1073741824 ∧ Hid (walkL (ks.drop k) l' = walkE (.mk op n nm ks) l) ∧ Hid (∀ t ∈ l', small t) ∧
          Hid (wr.ownsRow base 9 1 (.slice X l'.length cx) l'.length (strs l')) ∧ Hid (Wb.grownBy wr (Value.ownBlock (.slice A0 l.length cap0))) ∧ Hid (∀ j, Value.ownBlock (.slice X l'.length cx) = some j → Wb.heap.size ≤ j ∨ Value.ownBlock (.slice A0 l.length cap0) = some j)) (fun _ i _ => ks.length - (intOf i).toNat)
      case atStart => exact ⟨0, l, A0, cap0, Nat.zero_le _, rfl, rfl, by rw [List.drop_zero]; omega, Lib.hid (by rw [List.drop_zero, HW0.out]), HS0, HO1, Lib.hid (World.grownBy.refl _ _), Lib.hid (fun j hj => .inr hj)⟩
      case round =>
        obtain ⟨k, l', X, cx, hk, rfl, rfl, hsz2, HW, HS, HO2, HG, HJ⟩ := hrel
        have q3 : wr.cell? ⟨W.heap.size, 3, none⟩ = some (.slice A ks.length cap) := (HG.out.cell_far ⟨W.heap.size, 3, none⟩ hsz HNE.out).trans HQ3.out
        have hrz := HG.out.size
        have hrz2 : W.heap.size < wr.heap.size := by omega
        by_cases hlt : k < ks.length
        · have hIr : In Q w wr := (HI.out.on HB1.out).grown HG.out (fun j hj hq => absurd (HQ.out j hq) (by have := (HO.out.lt j hj).1; omega))
          obtain ⟨a, o1, n1, s1, A1, l1, k1, rfl, hd', p0, p1, p2, p3⟩ := kid_at HA.out HK.out hIr hlt
          have hd2 := sizL_drop hlt
          have hsz3 : l'.length + sizE ks[k] ≤ 1073741824 := by omega
          have hlen2 : (walkE ks[k] l').length + sizL (ks.drop (k + 1)) ≤ 1073741824 := by have := walkE_len ks[k] l'; omega
          have HC := Lib.hid (IH.out k hlt _ _ _ _ hd' l' (.slice X l'.length cx) base wr HS.out HO2.out (by have := HB1.out.size; omega) HQ.out hsz3 hIr)
          have HN : Hid (walkL (ks.drop (k + 1)) (walkE ks[k] l') = walkE (.mk op n nm ks) l) := Lib.hid (by rw [← walkL_drop hlt]; exact HW.out)
          have HS2 : Hid (∀ t ∈ walkE ks[k] l', small t) := Lib.hid (walkE_all (HK.out k hlt) HS.out)
          obtain ⟨l2, hl2⟩ : ∃ l2, l2 = walkE ks[k] l' := ⟨_, rfl⟩
          rw [← hl2] at HC HN HS2 hlen2
          clear hd' hIr hd2 hsz3 hl2
          go_wp2_with (go_at_call 101; refine HC.out.mono ?_; rintro e w2 ⟨x2, rfl, ho2, hg2, hj2⟩; obtain ⟨X2, cx2, rfl, _, _⟩ := own_shape ho2)
          go_roundw
          case rel => exact ⟨k + 1, l2, X2, cx2, by omega, rfl, by go_num, hlen2, HN, HS2, Lib.hid ho2, Lib.hid (HG.out.andThen hg2 HJ.out), Lib.hid (lies_then HG.out HJ.out hj2)⟩
          case measure => simp [intOf]; omega
        · have HN : Hid (walkE (.mk op n nm ks) l = l') := Lib.hid (by
            have h1 := HW.out
            rw [List.drop_of_length_le (by omega), walkL] at h1
            exact h1.symm)
          go_wp2_with fail
          go_ret
          exact ⟨.slice X l'.length cx, rfl, by rw [HN.out]; exact HO2.out, HGW.out.andThen HG.out (fun j hj => .inr hj), fun j hj => (HJ.out j hj).imp (fun h => by omega) id⟩
theorem rNames_any {w : World} {Q : Nat → Prop} {e : E} {c0 c1 c2 c3 : Value} (h : ExprI w Q e [c0, c1, c2, c3]) (W : World) (hI : In Q w W) :
    Calls Tryz.prog 59 #[.agg #[c0, c1, c2, c3]] W (NewRow (namesE e) W) := by
  have HM := Lib.hid (fun W h1 => rMayExpr_any h W h1)
  have HF := Lib.hid (walk_any h c0 c1 c2 c3 rfl [] (.slice none 0 0))
  have HI := Lib.hid hI
  unfold namesE
  have hz := mayE_siz e 20
  obtain ⟨d0, d1, d2, d3, l3, k3, hd'⟩ := h.form
  simp only [List.cons.injEq, and_true] at hd'
  obtain ⟨rfl, rfl, rfl, rfl⟩ := hd'
  clear h hI
  cases hm : mayE 20 e with
  | false =>
    rw [hm] at HM
    clear hm hz
    go_enter Tryz.func59, Tryz.ntmps59
    go_wp2_with (go_at_call 100; refine (HM.out _ (HI.out.alloc _)).mono ?_; rintro e' w2 ⟨rfl, hb2⟩)
    go_ret
    exact ⟨.slice none 0 0, rfl, World.ownsRow_nil _ _ _ _, below_new hb2⟩
  | true =>
    have hz2 := hz hm
    rw [hm] at HM
    clear hm hz
    go_enter Tryz.func59, Tryz.ntmps59
    go_wp2_with (first
      | (go_at_call 100; refine (HM.out _ (HI.out.alloc _)).mono ?_; rintro e' w2 ⟨rfl, hb2⟩; have hc2 := (bcell hb2).1; have hz3 := hb2.size; rw [World.size_alloc] at hz3)
      | (go_at_call 101; refine (HF.out w2.heap.size _ (by simp) (World.ownsRow_nil _ _ _ _) (Nat.le_refl _) (fun b hb => ((HI.out.alloc _).on hb2).1 b hb) (by simp; omega) ((HI.out.alloc _).on hb2)).mono ?_; rintro e' w3 ⟨v, rfl, ho, hg, hj⟩))
    go_ret
    have hb3 : Below w2.heap.size w2 w3 := (Below.refl _ _).grown hg (Nat.le_refl _) (by simp [Value.ownBlock])
    exact ⟨v, rfl, own_lower ho (by have := (below_new hb2).size; omega), (below_new hb2).trans (hb3.mono (below_new hb2).size)⟩
end Go.Proofs.YtimejkbmfbjomaaGreat
namespace Go.Proofs.YtimejkbmfbjomaaGreat
open Go.ChangeShapes Go.WideShapes Go.ChangeAt Go.RowKit Go.Deep
set_option linter.unusedVariables false
set_option linter.unusedSimpArgs false
set_option maxHeartbeats 4000000 in
set_option maxRecDepth 100000 in
theorem rSaid_any {w : World} {Q : Nat → Prop} {s : S} {cs : List Value} (h : StmtI w Q s cs) (hn : (saidS s).length ≤ 1000000) (W : World) (hI : In Q w W) :
 Calls Tryz.prog 21 #[.agg cs.toArray] W (NewRow (saidS s) W) := by
 obtain ⟨id, kind, labels, nm, proc, x, has, args, th, el, L, lc, x0, x1, x2, X, xn, xc, R, rc, T, tc, U, uc, rfl, rfl, hid, hkind, hnm, hproc, hl, hx, ha, hth, hel⟩ := stmt_open h
 have HNa := Lib.hid (fun V hV => rNames_any hx V hV)
 have HNs := Lib.hid (namesE_small hx)
 have HA := Lib.hid ha
 have HI := Lib.hid hI
 have HV : Hid (saidS (.mk id kind labels nm proc x has args th el) = ownV kind nm ++ namesE x ++ args.flatMap saidV) := Lib.hid rfl
 have HN : Hid ((ownV kind nm).length + (namesE x).length + (args.flatMap saidV).length ≤ 1000000) := Lib.hid (by rw [HV.out] at hn; simp only [List.length_append] at hn; exact hn)
 have hok := hkind
 unfold i64 at hok
 obtain ⟨i0, hi0, hz0, hz1, hz2⟩ := info_parts string_info
 obtain ⟨_, har, hrc, _⟩ := slice_len ha
 clear h hn hI hl hx ha hth hel hid hkind hnm hproc
 simp only [List.toArray]
 go_enter Tryz.func21, Tryz.ntmps21
 go_upto_region 1 with fail
 have HBp : Hid (Blk (W.alloc (.cells #[.int .i64 id, .int .i64 kind, .slice L labels.length lc, .string nm, .string proc, .int .i64 x0, .int .i64 x1, .string x2, .slice X xn xc, .bool has, .slice R args.length rc, .slice T th.length tc, .slice U el.length uc] 49)) W.heap.size 49 #[.int .i64 id, .int .i64 kind, .slice L labels.length lc, .string nm, .string proc, .int .i64 x0, .int .i64 x1, .string x2, .slice X xn xc, .bool has, .slice R args.length rc, .slice T th.length tc, .slice U el.length uc]) := Lib.hid (Blk.new _ _ _)
 have HB0 : Hid (Below W.heap.size W (W.alloc (.cells #[.int .i64 id, .int .i64 kind, .slice L labels.length lc, .string nm, .string proc, .int .i64 x0, .int .i64 x1, .string x2, .slice X xn xc, .bool has, .slice R args.length rc, .slice T th.length tc, .slice U el.length uc] 49))) := Lib.hid (below_box _)
 generalize World.alloc _ _ = V at HBp HB0 ⊢
 generalize W.heap.size = b at HBp ⊢
 have HI0 := Lib.hid (HI.out.on HB0.out)
 have hbl := HBp.out.lt
 have q1 : V.cell? ⟨b, 1, none⟩ = some (.int .i64 kind) := by rw [HBp.out.cell]; rfl
 have q3 : V.cell? ⟨b, 3, none⟩ = some (.string nm) := by rw [HBp.out.cell]; rfl
 go_upto_region 2 with fail
 obtain ⟨bb, hbb⟩ : ∃ bb, bb = (!nm.toList.isEmpty && kind != 10) := ⟨_, rfl⟩
 have HK : Hid (ownV kind nm = if bb = true then [nm] else []) := Lib.hid (by rw [hbb]; rfl)
 have Hbb := Lib.hid hbb
 clear hbb
 go_cut [13] from 6 to 12 (fun s wx => s = .bool bb ∧ wx = V)
 case first =>
  cases he : nm.toList.isEmpty with
  | true =>
   have he2 : (nm.toList == []) = true := by simpa using he
   have H2 : Hid (bb = false) := Lib.hid (by rw [Hbb.out, he]; rfl)
   go_wp2_with fail
   go_meet
   exact ⟨by rw [H2.out]; try rfl, rfl⟩
  | false =>
   have he2 : (nm.toList == []) = false := by simpa using he
   have H2 : Hid (bb = (kind != 10)) := Lib.hid (by rw [Hbb.out, he]; rfl)
   go_wp2_with fail
   go_meet
   exact ⟨by rw [H2.out]; try rfl, rfl⟩
 case rest =>
 obtain ⟨rfl, hw⟩ := hcut
 replace hw := hw.symm
 subst hw
 go_upto_if 13 with fail
 have HLn : Hid ((ownV kind nm).length ≤ 1) := Lib.hid (by unfold ownV; split <;> simp)
 go_cut [3] from 14 to 18 (fun s wx => ∃ (X2 : Option Addr) (k2 : Nat), s = .slice X2 (ownV kind nm).length k2 ∧ Hid (NmI V wx (ownV kind nm) X2 (ownV kind nm).length k2))
 case first =>
  have HO1a : Hid ((V.alloc (.cells #[.string nm] 9)).ownsRow V.heap.size 9 1 (.slice none 0 0) 0 (strs [])) := Lib.hid (World.ownsRow_nil _ _ _ _)
  have HB1a : Hid (Below V.heap.size V (V.alloc (.cells #[.string nm] 9))) := Lib.hid (below_box _)
  have HW := Lib.hid (new_one V nm)
  cases bb with
  | false =>
   have HK2 : Hid (ownV kind nm = []) := Lib.hid (by rw [HK.out]; rfl)
   go_wp2_with fail
   go_meet
   exact ⟨none, 0, by rw [HK2.out]; rfl, Lib.hid (by rw [HK2.out]; exact ⟨World.ownsRow_nil _ _ _ _, Below.refl _ _⟩)⟩
  | true =>
   have HK2 : Hid (ownV kind nm = [nm]) := Lib.hid (by rw [HK.out]; rfl)
   go_wp2_with (at_builtin; refine wpList_append_own_at _ rfl (.tmp 14) (.tmp 17) 22 rfl V.heap.size 9 i0 _ 1 16 Tryz.underlying22 hi0 hz0 hz1 hz2 rfl (by decide) _ 0 (strs []) rfl HO1a.out ⟨V.heap.size, 0, none⟩ 1 1 [.string nm] rfl rfl HW.out (by simp [Value.oneCell']) (by unfold maxLen; omega) (by omega) HB1a.out.size ?_; intro v6 w6 hown6 hg6 _ hat6; obtain ⟨X6, k6, rfl, _, _⟩ := own_shape hown6; have HO6 := Lib.hid hown6; have HG6 := Lib.hid hg6; clear hown6 hg6 hat6)
   go_meet
   exact ⟨X6, k6, by rw [HK2.out]; rfl, Lib.hid (by rw [HK2.out]; exact ⟨HO6.out, HB1a.out.grown HG6.out HB1a.out.size (fun j hj => (HO1a.out.lt j hj).1)⟩)⟩
 case rest =>
  obtain ⟨X1, k1, rfl, HS1⟩ := hcut
  clear q1 q3
  have HBp1 := Lib.hid (HBp.out.below HS1.out.below hbl)
  have HI1 := Lib.hid (HI0.out.on HS1.out.below)
  have q5 : wc.cell? ⟨b, 5, none⟩ = some (.int .i64 x0) := by rw [HBp1.out.cell]; rfl
  have q6 : wc.cell? ⟨b, 6, none⟩ = some (.int .i64 x1) := by rw [HBp1.out.cell]; rfl
  have q7 : wc.cell? ⟨b, 7, none⟩ = some (.string x2) := by rw [HBp1.out.cell]; rfl
  have q8 : wc.cell? ⟨b, 8, none⟩ = some (.slice X xn xc) := by rw [HBp1.out.cell]; rfl
  have HNn : Hid ((ownV kind nm).length + (namesE x).length ≤ 1000000) := Lib.hid (by have := HN.out; omega)
  go_upto_region 5 with (first
   | (go_at_call 59; refine (HNa.out wc HI1.out).mono ?_; rintro e w5 ⟨v5, rfl, ho5, hb5⟩; obtain ⟨X5, k5, rfl, _, _⟩ := own_shape ho5; have HT5 := Lib.hid (new_small HNs.out ho5); have HO5 : Hid (w5.ownsRow V.heap.size 9 1 (.slice X1 (ownV kind nm).length k1) (ownV kind nm).length (strs (ownV kind nm))) := Lib.hid ((Below.moves hb5).row HS1.out.row (fun j hj e => Nat.not_lt.2 e (HS1.out.row.lt j hj).2)); have HB5 := Lib.hid (below_step HS1.out.below hb5); clear ho5 hb5)
   | (at_builtin; refine wpList_append_texts rfl (.tmp 19) (.tmp 22) 22 rfl V.heap.size 9 i0 _ Tryz.underlying22 hi0 hz0 hz1 hz2 rfl _ (ownV kind nm).length (strs (ownV kind nm)) rfl HO5.out w5 (nw wc w5) X5 (namesE x) (namesE x).length k5 rfl rfl HT5.out ⟨fun j h => h.2, fun _ _ => rfl⟩ HNn.out HB5.out.size ?_; intro v6 w6 hown6 hg6; obtain ⟨X2, k2, rfl, _, _⟩ := own_shape hown6; have HO6 := Lib.hid hown6; have HG6 := Lib.hid hg6; clear hown6 hg6))
  have HS2 : Hid (NmI V w6 (ownV kind nm ++ namesE x) X2 ((ownV kind nm).length + (namesE x).length) k2) := Lib.hid ⟨by rw [strs_append]; exact HO6.out, HB5.out.grown HG6.out HB5.out.size (fun j hj => (HO5.out.lt j hj).1)⟩
  clear q5 q6 q7 q8 HNa HO5 HO6 HG6 HT5 HB5 HS1 HBp1 HI1 HNn
  have hl0 : (ownV kind nm).length + (namesE x).length = (ownV kind nm ++ namesE x).length := (List.length_append).symm
  have HN2 : Hid ((ownV kind nm ++ namesE x).length + (args.flatMap saidV).length ≤ 1000000) := Lib.hid (by have := HN.out; simp only [List.length_append]; omega)
  rw [hl0] at HS2 ⊢
  clear hl0 HN
  generalize ownV kind nm ++ namesE x = l0 at HS2 HV HN2 ⊢
  have HBp2 := Lib.hid (HBp.out.below HS2.out.below hbl)
  have q10 : w6.cell? ⟨b, 10, none⟩ = some (.slice R args.length rc) := by rw [HBp2.out.cell]; rfl
  go_upto_region 6 with fail
  clear q10 HBp2
  go_loopg [3, 27] args.length (fun kk ov iv wr => ∃ (k : Nat) (Xr : Option Addr) (n c : Nat), k + kk = args.length ∧ iv = .int .i64 k ∧ ov = .slice Xr n c ∧ n = (l0 ++ (args.take k).flatMap saidV).length ∧ Hid (NmI V wr (l0 ++ (args.take k).flatMap saidV) Xr n c))
  case atStart => exact ⟨0, X2, _, k2, by omega, rfl, rfl, by simp, Lib.hid (by simpa using HS2.out)⟩
  case round =>
   clear HS2
   obtain ⟨k, Xr, n, c, hk, rfl, rfl, hnl, HR⟩ := hrel
   have HIr := Lib.hid (HI0.out.on HR.out.below)
   by_cases hlt : k < args.length
   ·obtain ⟨a, o1, n1, s1, A1, l1, k1, rfl, _, ⟨p0, p1, p2, p3, p4, p5, _⟩, hs, hxa⟩ := arg_at HA.out HIr.out hlt
    have HC := Lib.hid (fun V hV => rNames_any hxa V hV)
    have HCs := Lib.hid (namesE_small hxa)
    have HT : Hid ((args.take (k + 1)).flatMap saidV = (args.take k).flatMap saidV ++ saidV args[k]) := Lib.hid (flat_take hlt)
    have HNk : Hid (n + (saidV args[k]).length ≤ 1000000) := Lib.hid (by
     have h1 := flat_take_le (f := saidV) (l := args) (k := k + 1)
     rw [HT.out] at h1
     have h2 := HN2.out
     rw [hnl]
     simp only [List.length_append] at h1 ⊢
     omega)
    have HLk : Hid (n = (l0 ++ (args.take k).flatMap saidV).length) := Lib.hid hnl
    generalize (args.take k).flatMap saidV = pre at HR HT HLk
    have HV2 : Hid (saidV args[k] = (if args[k].ref = true then [args[k].nm] else []) ++ namesE args[k].x) := Lib.hid rfl
    generalize args[k] = y at p0 p1 hs HC HCs HT HNk HV2
    obtain ⟨xr, xnm, xx⟩ := y
    simp only at p0 p1 hs HV2
    clear hnl
    go_upto_region 8 with fail
    have HBx : Hid (Blk (wr.alloc (.cells #[.bool xr, .string xnm, .int .i64 o1, .int .i64 n1, .string s1, .slice A1 l1 k1] 61)) wr.heap.size 61 #[.bool xr, .string xnm, .int .i64 o1, .int .i64 n1, .string s1, .slice A1 l1 k1]) := Lib.hid (Blk.new _ _ _)
    have HO4 : Hid ((wr.alloc (.cells #[.bool xr, .string xnm, .int .i64 o1, .int .i64 n1, .string s1, .slice A1 l1 k1] 61)).ownsRow V.heap.size 9 1 (.slice Xr n c) n (strs (l0 ++ pre))) := Lib.hid (HR.out.row.alloc _)
    have HB4 : Hid (Below V.heap.size V (wr.alloc (.cells #[.bool xr, .string xnm, .int .i64 o1, .int .i64 n1, .string s1, .slice A1 l1 k1] 61))) := Lib.hid (below_stepA HR.out.below _)
    have HI4 : Hid (In Q w (wr.alloc (.cells #[.bool xr, .string xnm, .int .i64 o1, .int .i64 n1, .string s1, .slice A1 l1 k1] 61))) := Lib.hid (HIr.out.alloc _)
    clear p0 p1 p2 p3 p4 p5
    generalize World.alloc wr _ = V4 at HBx HO4 HB4 HI4 ⊢
    generalize wr.heap.size = bx at HBx ⊢
    have z0 : V4.cell? ⟨bx, 0, none⟩ = some (.bool xr) := by rw [HBx.out.cell]; rfl
    have z1 : V4.cell? ⟨bx, 1, none⟩ = some (.string xnm) := by rw [HBx.out.cell]; rfl
    have z2 : V4.cell? ⟨bx, 2, none⟩ = some (.int .i64 o1) := by rw [HBx.out.cell]; rfl
    have z3 : V4.cell? ⟨bx, 3, none⟩ = some (.int .i64 n1) := by rw [HBx.out.cell]; rfl
    have z4 : V4.cell? ⟨bx, 4, none⟩ = some (.string s1) := by rw [HBx.out.cell]; rfl
    have z5 : V4.cell? ⟨bx, 5, none⟩ = some (.slice A1 l1 k1) := by rw [HBx.out.cell]; rfl
    obtain ⟨rp, hrp⟩ : ∃ rp : List ByteArray, rp = if xr = true then [xnm] else [] := ⟨_, rfl⟩
    rw [← hrp] at HV2
    rw [HV2.out] at HT HNk
    have HRp := Lib.hid hrp
    have HN1 : Hid (n + rp.length + (namesE xx).length ≤ 1000000) := Lib.hid (by have := HNk.out; rw [List.length_append] at this; omega)
    have HRl : Hid (n + rp.length ≤ 1000001) := Lib.hid (by have := HN1.out; omega)
    clear hrp
    have hxl := HBx.out.lt
    go_upto_if 32 with fail
    go_cut [3] from 33 to 37 (fun s wx => ∃ (X2 : Option Addr) (k2 : Nat), s = .slice X2 (n + rp.length) k2 ∧ Hid (wx.ownsRow V.heap.size 9 1 (.slice X2 (n + rp.length) k2) (n + rp.length) (strs (l0 ++ pre ++ rp))) ∧ Hid (V4.grownBy wx (Value.slice Xr n c).ownBlock))
    case first =>
     cases xr with
     | false =>
      have HK2 : Hid (rp = []) := Lib.hid HRp.out
      go_wp2_with fail
      go_meet
      exact ⟨Xr, c, by rw [HK2.out]; rfl, Lib.hid (by rw [HK2.out, List.append_nil]; exact HO4.out), Lib.hid (World.grownBy.refl _ _)⟩
     | true =>
      have HK2 : Hid (rp = [xnm]) := Lib.hid HRp.out
      have hn1 : n + 1 ≤ 1000001 := by have := HRl.out; rw [HK2.out] at this; exact this
      have HW := Lib.hid (new_one V4 xnm)
      have HO5 : Hid ((V4.alloc (.cells #[.string xnm] 9)).ownsRow V.heap.size 9 1 (.slice Xr n c) n (strs (l0 ++ pre))) := Lib.hid (HO4.out.alloc _)
      have HB5 : Hid (Below V.heap.size V (V4.alloc (.cells #[.string xnm] 9))) := Lib.hid (below_stepA HB4.out _)
      go_wp2_with (at_builtin; refine wpList_append_own_at _ rfl (.tmp 33) (.tmp 36) 22 rfl V.heap.size 9 i0 _ 1 16 Tryz.underlying22 hi0 hz0 hz1 hz2 rfl (by decide) _ n (strs (l0 ++ pre)) rfl HO5.out ⟨V4.heap.size, 0, none⟩ 1 1 [.string xnm] rfl rfl HW.out (by simp [Value.oneCell']) (by unfold maxLen; omega) (by omega) HB5.out.size ?_; intro v6 w7 hown6 hg6 _ hat6; obtain ⟨X6, k6, rfl, _, _⟩ := own_shape hown6; have HO6 := Lib.hid hown6; have HG6 := Lib.hid hg6; clear hown6 hg6 hat6)
      go_meet
      exact ⟨X6, k6, by rw [HK2.out]; rfl, Lib.hid (by rw [HK2.out, strs_append]; exact HO6.out), Lib.hid (grown_box HG6.out)⟩
    case rest =>
     obtain ⟨X7, k7, rfl, HO7, HG7⟩ := hcut
     have HB7 : Hid (Below V.heap.size V wc) := Lib.hid (HB4.out.grown HG7.out HB4.out.size (fun j hj => (HO4.out.lt j hj).1))
     have HI7 := Lib.hid (HI0.out.on HB7.out)
     have HBx7 : Hid (Blk wc bx 61 #[.bool xr, .string xnm, .int .i64 o1, .int .i64 n1, .string s1, .slice A1 l1 k1]) := Lib.hid (HBx.out.grown HG7.out (fun e => own_blk_ne HO4.out HBx.out (by decide) e.symm))
     clear z0 z1 z2 z3 z4 z5 HO4 HB4 HI4 HBx HG7
     have z2 : wc.cell? ⟨bx, 2, none⟩ = some (.int .i64 o1) := by rw [HBx7.out.cell]; rfl
     have z3 : wc.cell? ⟨bx, 3, none⟩ = some (.int .i64 n1) := by rw [HBx7.out.cell]; rfl
     have z4 : wc.cell? ⟨bx, 4, none⟩ = some (.string s1) := by rw [HBx7.out.cell]; rfl
     have z5 : wc.cell? ⟨bx, 5, none⟩ = some (.slice A1 l1 k1) := by rw [HBx7.out.cell]; rfl
     go_wp2_with (first
      | (go_at_call 59; refine (HC.out wc HI7.out).mono ?_; rintro e w8 ⟨v8, rfl, ho8, hb8⟩; obtain ⟨X8, k8, rfl, _, _⟩ := own_shape ho8; have HT8 := Lib.hid (new_small HCs.out ho8); have HO8 : Hid (w8.ownsRow V.heap.size 9 1 (.slice X7 (n + rp.length) k7) (n + rp.length) (strs (l0 ++ pre ++ rp))) := Lib.hid ((Below.moves hb8).row HO7.out (fun j hj e => Nat.not_lt.2 e (HO7.out.lt j hj).2)); have HB8 := Lib.hid (below_step HB7.out hb8); clear ho8 hb8)
      | (at_builtin; refine wpList_append_texts rfl (.tmp 38) (.tmp 41) 22 rfl V.heap.size 9 i0 _ Tryz.underlying22 hi0 hz0 hz1 hz2 rfl _ (n + rp.length) (strs (l0 ++ pre ++ rp)) rfl HO8.out w8 (nw wc w8) X8 (namesE xx) (namesE xx).length k8 rfl rfl HT8.out ⟨fun j h => h.2, fun _ _ => rfl⟩ HN1.out HB8.out.size ?_; intro v9 w9 hown9 hg9; obtain ⟨X9, k9, rfl, _, _⟩ := own_shape hown9; have HO9 := Lib.hid hown9; have HG9 := Lib.hid hg9; clear hown9 hg9))
     have HS : Hid (NmI V w9 (l0 ++ (args.take (k + 1)).flatMap saidV) X9 (n + rp.length + (namesE xx).length) k9) := Lib.hid ⟨by rw [HT.out, ← List.append_assoc, ← List.append_assoc, strs_append]; exact HO9.out, HB8.out.grown HG9.out HB8.out.size (fun j hj => (HO8.out.lt j hj).1)⟩
     go_roundg (args.length - k - 1)
     case measure => omega
     case rel => exact ⟨k + 1, X9, _, k9, by omega, by go_num, rfl, by rw [HT.out, ← List.append_assoc, ← List.append_assoc, List.length_append, List.length_append, ← HLk.out], HS⟩
   ·have hke : k = args.length := by omega
    subst hke
    go_wp2_with fail
    go_ret
    refine ⟨_, rfl, own_lower ?_ HB0.out.size, below_step HB0.out HR.out.below⟩
    have h := HR.out.row
    rw [List.take_length] at h hnl
    rw [HV.out]
    rw [hnl] at h ⊢
    exact h
end Go.Proofs.YtimejkbmfbjomaaGreat
namespace Go.Proofs.YtimejkbmfbjomaaGreat
open Go.ChangeShapes Go.WideShapes Go.ChangeAt Go.RowKit Go.Deep
set_option linter.unusedVariables false
set_option linter.unusedSimpArgs false
theorem said_small {w : World} {Q : Nat → Prop} {s : S} {cs : List Value} (h : StmtI w Q s cs) : ∀ t ∈ saidS s, small t := by
 obtain ⟨id, kind, labels, nm, proc, x, has, args, th, el, L, lc, x0, x1, x2, X, xn, xc, R, rc, T, tc, U, uc, rfl, rfl, hid, hkind, hnm, hproc, hl, hx, ha, hth, hel⟩ := stmt_open h
 intro t ht
 unfold saidS at ht
 simp only [List.mem_append, S.x, S.nm, S.kind, S.args, List.mem_flatMap] at ht
 rcases ht with (ht | ht) | ⟨a, ham, ht⟩
 ·unfold ownV at ht
  split at ht
  ·rw [List.mem_singleton.1 ht]; exact hnm
  ·cases ht
 ·exact namesE_small hx t ht
 ·obtain ⟨cs, xcs, _, h1, h2⟩ := slice_mem ha a ham
  unfold saidV at ht
  rw [List.mem_append] at ht
  rcases ht with ht | ht
  ·split at ht
   ·rw [List.mem_singleton.1 ht]; exact h1
   ·cases ht
  ·exact namesE_small h2 t ht
end Go.Proofs.YtimejkbmfbjomaaGreat
namespace Go.Proofs.YtimejkbmfbjomaaGreat
open Go.ChangeShapes Go.WideShapes Go.ChangeAt Go.RowKit Go.Deep
set_option linter.unusedVariables false
set_option linter.unusedSimpArgs false
theorem InOrd.le {f : ByteArray → Bool} {l : List ByteArray} (h : InOrd f l) {L : List ByteArray} (hs : ∀ s, f s = true → s ∈ L) : l.length ≤ L.length := by
 obtain ⟨ss, rfl, h1, h2⟩ := h.out
 rw [List.length_map, List.length_mergeSort]
 have := nodup_leA ss (L.map (fun s => s.data.toList)) h1 (fun x hx => List.mem_map.2 ⟨_, hs _ ((h2 x).1 hx).2, by simp [toBA]⟩)
 rwa [List.length_map] at this
theorem calls_len {p : Pg} (hok : ChOk p) (hc : chkOK p = true) {q : Pr} (hq : q ∈ p.procs) {l : List ByteArray} (ha : OrdOf p (jfP p q.nm) callF l) : l.length ≤ 200 := by
 obtain ⟨m, hm, h1, h2⟩ := jf_at hc hok.procs hq
 rw [h1] at ha
 rcases ha with ⟨h3, _⟩ | ⟨m2, hm2, h3, hi⟩
 ·omega
 ·obtain rfl : m = m2 := by omega
  rw [h2] at hi
  exact Nat.le_trans (hi.le (L := callsOf (preSL q.body)) (fun s hs => setF_mem2.1 hs)) (Nat.le_trans (callsOf_len _) ((may_flat hok.may).1 q hq).2)
theorem fits_said {p : Pg} (hf : fitsP p = true) (hm : mayP p = true) : ∀ q ∈ p.procs, ∀ s ∈ preSL q.body, (saidS s).length ≤ 20000 := fun q hq s hs => by
 unfold fitsP weighP at hf
 obtain ⟨_, h2⟩ := weighQs_full p.procs _ (of_decide_eq_true hf)
 have hw := (h2 q hq).1
 exact Nat.le_trans (saidS_w (may_stm hm q hq s hs)) (Nat.le_trans (preSL_w _ _ hs) hw)
theorem off_new {T : Nat → Prop} {W9 W10 : World} {v v' : Value} (h : In T W9 W10) (ho : ∀ j, v.ownBlock = some j → ¬ T j) (hv : v'.ownBlock = v.ownBlock ∨ v'.ownBlock = some W10.heap.size) : ∀ j, v'.ownBlock = some j → ¬ T j := by
 intro j hj ht
 rcases hv with hv | hv
 ·exact ho j (hv.symm.trans hj) ht
 ·rw [hv] at hj
  injection hj with hj
  exact Nat.lt_irrefl _ (h.1 _ (hj ▸ ht))
end Go.Proofs.YtimejkbmfbjomaaGreat
