/- Texts, merged by a program; only what is used. -/
import Derived.Maps.AppendAt
import Derived.Maps.Range
import Derived.Test.YtddfpmdbndakgaaK8
namespace Go.Proofs.Ytddfpmdbndakgaa
open Go.ChangeShapes Go.WideShapes Go.ChangeAt Go.RowKit Go.Deep
set_option linter.unusedVariables false
theorem spoken_any (l : List ByteArray) (s : ByteArray) (v : Value) (base : Nat) (w : World) (hl : ∀ t ∈ l, small t) (hs : small s) (hown : w.ownsRow base 9 1 v l.length (strs l)) (hbase : base ≤ w.heap.size) (hlen : l.length ≤ 1073741824) :
    Calls Try.prog 157 #[v, .string s] w (RowOk base v (spoke l s) w) := by
  obtain ⟨i0, hi0, hz0, hz1, hz2⟩ := info_parts string_info
  obtain ⟨A, cap, rfl, hc1, hc2⟩ := own_shape hown
  have HT := Lib.hid (texts_of_own hl hown).2
  have HI : Hid (In (fun b => base ≤ b ∧ b < w.heap.size) w w) := Lib.hid ⟨fun b h => h.2, fun _ _ => rfl⟩
  have HO := Lib.hid hown
  have HL := Lib.hid hl
  clear hown hl
  go_enter Try.func157, Try.ntmps157
  go_wp2_with fail
  go_loop [9] (fun i => ∃ k : Nat, k ≤ l.length ∧ i = .int .i64 k ∧ Hid (s ∉ l.take k)) (fun i => l.length - (intOf i).toNat)
  case atStart => exact ⟨0, Nat.zero_le _, rfl, Lib.hid (by simp)⟩
  case round =>
    obtain ⟨k, hk, rfl, HN⟩ := hrel
    by_cases hlt : k < l.length
    · obtain ⟨a, rfl, _, p1, _⟩ := text_at HT.out HI.out hlt
      cases hv : (l[k].toList == s.toList) with
      | true =>
        have HM : Hid (spoke l s = l) := Lib.hid (by
          rw [dec_bytes] at hv
          have : l[k] = s := by simpa using hv
          unfold spoke
          rw [if_pos (hasB_iff.2 (this ▸ List.getElem_mem hlt))])
        obtain ⟨x1, hx1⟩ : ∃ x, x = l[k] := ⟨_, rfl⟩
        rw [← hx1] at p1 hv
        clear hx1
        go_wp2_with fail
        go_ret
        exact ⟨_, rfl, by rw [HM.out]; exact HO.out, World.grownBy.refl _ _, fun j hj => .inr hj⟩
      | false =>
        have HM : Hid (s ∉ l.take (k + 1)) := Lib.hid (by
          rw [dec_bytes] at hv
          have : l[k] ≠ s := by simpa using hv
          rw [List.take_succ_eq_append_getElem hlt]
          intro h
          rcases List.mem_append.1 h with h | h
          · exact HN.out h
          · simp at h; exact this h.symm)
        obtain ⟨x1, hx1⟩ : ∃ x, x = l[k] := ⟨_, rfl⟩
        rw [← hx1] at p1 hv
        clear hx1
        go_wp2_with fail
        go_round
        case rel => exact ⟨k + 1, by omega, by go_num, HM⟩
        case measure => simp [intOf]; omega
    · have HM : Hid (spoke l s = l ++ [s]) := Lib.hid (by
        have := HN.out
        rw [List.take_of_length_le (by omega)] at this
        unfold spoke
        rw [if_neg (fun h => this (hasB_iff.1 h))])
      have hnew : ∀ j u, [Value.string s][j]? = some u → (w.alloc (.cells #[.string s] 9)).cell? ((⟨w.heap.size, 0, none⟩ : Addr).add j) = some u := by
        intro j u hu
        have hj : j = 0 := by have := (List.getElem?_eq_some_iff.1 hu).1; simp at this; exact this
        subst hj
        simp at hu
        subst hu
        simp [Addr.add]
      have HW := Lib.hid hnew
      clear hnew
      go_wp2_with (at_builtin; refine wpList_append_own_at _ rfl (.tmp 18) (.tmp 20) 22 rfl base 9 i0 _ 1 16 Try.underlying22 hi0 hz0 hz1 hz2 rfl (by decide) _ l.length (strs l) rfl (HO.out.alloc _) ⟨w.heap.size, 0, none⟩ 1 1 [.string s] rfl rfl HW.out (by simp [Value.oneCell']) (by unfold maxLen; omega) (by omega) (by simp; omega) ?_)
      intro v' w1 hown1 hg1 _ hat
      go_wp2_with fail
      go_ret
      refine ⟨v', rfl, ?_, (World.grownBy_alloc w _ _).andThen hg1 (fun j hj => .inr hj), fun j hj => ?_⟩
      · rw [HM.out, strs_append, List.length_append]
        exact hown1
      · rcases hat with h | h
        · exact .inr (h.symm.trans hj)
        · rw [h] at hj; injection hj with hj; left; rw [← hj]; simp
set_option maxHeartbeats 1000000 in
theorem walk_any {w : World} {Q : Nat → Prop} {e : E} {cs : List Value} (h : ExprI w Q e cs) : ∀ (c0 c1 c2 c3 : Value), cs = [c0, c1, c2, c3] → ∀ (l : List ByteArray) (v : Value) (base : Nat) (W : World), (∀ t ∈ l, small t) →
    W.ownsRow base 9 1 v l.length (strs l) → base ≤ W.heap.size → (∀ b, Q b → b < base) → l.length + sizE e ≤ 1073741824 → In Q w W →
    Calls Try.prog 128 #[.agg #[c0, c1, c2, c3], v] W (RowOk base v (walkE e l) W) := by
  induction h with
  | @mk op n nm ks A cap css hop hn hnm hcap hA hk ih =>
    intro c0 c1 c2 c3 hcs l v base W hl hown hbase hQ hlen hI
    simp only [List.cons.injEq, and_true] at hcs
    obtain ⟨rfl, rfl, rfl, rfl⟩ := hcs
    unfold i64 at hop hn
    rw [sizE] at hlen
    obtain ⟨A0, cap0, rfl, hcc1, hcc2⟩ := own_shape hown
    have HA := Lib.hid hA
    have HK := Lib.hid hk
    have IH := Lib.hid ih
    have HI := Lib.hid hI
    have HO := Lib.hid hown
    have HS0 := Lib.hid hl
    have HQ := Lib.hid hQ
    clear hA hk ih hI hown hl hQ
    have HB1 : Hid (Below W.heap.size W (W.alloc (.cells #[.int .i64 op, .int .i64 n, .string nm, .slice A ks.length cap] 41))) := Lib.hid (below_box _)
    have HO1 : Hid ((W.alloc (.cells #[.int .i64 op, .int .i64 n, .string nm, .slice A ks.length cap] 41)).ownsRow base 9 1 (.slice A0 l.length cap0) l.length (strs l)) := Lib.hid (HO.out.alloc _)
    have HQ3 : Hid ((W.alloc (.cells #[.int .i64 op, .int .i64 n, .string nm, .slice A ks.length cap] 41)).cell? ⟨W.heap.size, 3, none⟩ = some (.slice A ks.length cap)) := Lib.hid (by simp)
    have hsz : W.heap.size < (W.alloc (.cells #[.int .i64 op, .int .i64 n, .string nm, .slice A ks.length cap] 41)).heap.size := by simp
    have HNE : Hid (some W.heap.size ≠ Value.ownBlock (.slice A0 l.length cap0)) := Lib.hid (fun e => by have := (HO.out.lt _ e.symm).2; omega)
    have HGW : Hid (W.grownBy (W.alloc (.cells #[.int .i64 op, .int .i64 n, .string nm, .slice A ks.length cap] 41)) (Value.ownBlock (.slice A0 l.length cap0))) := Lib.hid (World.grownBy_alloc W _ _)
    by_cases h2 : op = 2
    · have q2 : (op == 2) = true := by simp [h2]
      have HW0 : Hid (walkE (.mk op n nm ks) l = walkL ks (spoke l nm)) := Lib.hid (by rw [walkE, if_pos h2])
      clear h2
      have hsl := spoke_len l nm
      have HSp := Lib.hid (spoke_all HS0.out (p := small) hnm)
      go_enter Try.func128, Try.ntmps128
      go_wp2_with (go_at_call 157; refine (spoken_any l nm (.slice A0 l.length cap0) base _ HS0.out hnm HO1.out (by simp; omega) (by omega)).mono ?_; rintro e w1 ⟨x1, rfl, ho1, hg1, hj1⟩; obtain ⟨X1, cx1, rfl, _, _⟩ := own_shape ho1; have HO3 := Lib.hid ho1; have HG1 := Lib.hid hg1; have HJ1 := Lib.hid hj1; have hc1 : w1.cell? ⟨W.heap.size, 3, none⟩ = some (.slice A ks.length cap) := (hg1.cell_far ⟨W.heap.size, 3, none⟩ hsz HNE.out).trans HQ3.out; clear ho1 hg1 hj1)
      clear hc1
      generalize W.alloc _ = Wb at *
      go_loopw [1, 16] (fun u i wr => ∃ (k : Nat) (l' : List ByteArray) (X : Option Addr) (cx : Nat), k ≤ ks.length ∧ u = .slice X l'.length cx ∧ i = .int .i64 k ∧ l'.length + sizL (ks.drop k) ≤ 1073741824 ∧ Hid (walkL (ks.drop k) l' = walkE (.mk op n nm ks) l) ∧ Hid (∀ t ∈ l', small t) ∧
          Hid (wr.ownsRow base 9 1 (.slice X l'.length cx) l'.length (strs l')) ∧ Hid (Wb.grownBy wr (Value.ownBlock (.slice A0 l.length cap0))) ∧ Hid (∀ j, Value.ownBlock (.slice X l'.length cx) = some j → Wb.heap.size ≤ j ∨ Value.ownBlock (.slice A0 l.length cap0) = some j)) (fun _ i _ => ks.length - (intOf i).toNat)
      case atStart => exact ⟨0, spoke l nm, X1, cx1, Nat.zero_le _, rfl, rfl, by rw [List.drop_zero]; omega, Lib.hid (by rw [List.drop_zero, HW0.out]), HSp, HO3, HG1, HJ1⟩
      case round =>
        obtain ⟨k, l', X, cx, hk, rfl, rfl, hsz2, HW, HS, HO2, HG, HJ⟩ := hrel
        have q3 : wr.cell? ⟨W.heap.size, 3, none⟩ = some (.slice A ks.length cap) := (HG.out.cell_far ⟨W.heap.size, 3, none⟩ hsz HNE.out).trans HQ3.out
        have hrz := HG.out.size
        have hrz2 : W.heap.size < wr.heap.size := by omega
        by_cases hlt : k < ks.length
        · have hIr : In Q w wr := (HI.out.on HB1.out).grown HG.out (fun j hj hq => absurd (HQ.out j hq) (by have := (HO.out.lt j hj).1; omega))
          obtain ⟨a, o1, n1, s1, A1, l1, k1, rfl, hd', p0, p1, p2, p3⟩ := kid_at HA.out HK.out hIr hlt
          have hd2 := sizL_drop hlt
          have hsz3 : l'.length + sizE ks[k] ≤ 1073741824 := by omega
          have hlen2 : (walkE ks[k] l').length + sizL (ks.drop (k + 1)) ≤ 1073741824 := by have := walkE_len ks[k] l'; omega
          have HC := Lib.hid (IH.out k hlt _ _ _ _ hd' l' (.slice X l'.length cx) base wr HS.out HO2.out (by have := HB1.out.size; omega) HQ.out hsz3 hIr)
          have HN : Hid (walkL (ks.drop (k + 1)) (walkE ks[k] l') = walkE (.mk op n nm ks) l) := Lib.hid (by rw [← walkL_drop hlt]; exact HW.out)
          have HS2 : Hid (∀ t ∈ walkE ks[k] l', small t) := Lib.hid (walkE_all (HK.out k hlt) HS.out)
          obtain ⟨l2, hl2⟩ : ∃ l2, l2 = walkE ks[k] l' := ⟨_, rfl⟩
          rw [← hl2] at HC HN HS2 hlen2
          clear hd' hIr hd2 hsz3 hl2
          go_wp2_with (go_at_call 128; refine HC.out.mono ?_; rintro e w2 ⟨x2, rfl, ho2, hg2, hj2⟩; obtain ⟨X2, cx2, rfl, _, _⟩ := own_shape ho2)
          go_roundw
          case rel => exact ⟨k + 1, l2, X2, cx2, by omega, rfl, by go_num, hlen2, HN, HS2, Lib.hid ho2, Lib.hid (HG.out.andThen hg2 HJ.out), Lib.hid (lies_then HG.out HJ.out hj2)⟩
          case measure => simp [intOf]; omega
        · have HN : Hid (walkE (.mk op n nm ks) l = l') := Lib.hid (by
            have h1 := HW.out
            rw [List.drop_of_length_le (by omega), walkL] at h1
            exact h1.symm)
          go_wp2_with fail
          go_ret
          exact ⟨.slice X l'.length cx, rfl, by rw [HN.out]; exact HO2.out, HGW.out.andThen HG.out (fun j hj => .inr hj), fun j hj => (HJ.out j hj).imp (fun h => by omega) id⟩
    · have q2 : (op == 2) = false := beq_eq_false_iff_ne.2 h2
      have HW0 : Hid (walkE (.mk op n nm ks) l = walkL ks l) := Lib.hid (by rw [walkE, if_neg h2])
      clear h2
      go_enter Try.func128, Try.ntmps128
      go_wp2_with fail
      generalize W.alloc _ = Wb at *
      go_loopw [1, 16] (fun u i wr => ∃ (k : Nat) (l' : List ByteArray) (X : Option Addr) (cx : Nat), k ≤ ks.length ∧ u = .slice X l'.length cx ∧ i = .int .i64 k ∧ l'.length + sizL (ks.drop k) ≤ 1073741824 ∧ Hid (walkL (ks.drop k) l' = walkE (.mk op n nm ks) l) ∧ Hid (∀ t ∈ l', small t) ∧
          Hid (wr.ownsRow base 9 1 (.slice X l'.length cx) l'.length (strs l')) ∧ Hid (Wb.grownBy wr (Value.ownBlock (.slice A0 l.length cap0))) ∧ Hid (∀ j, Value.ownBlock (.slice X l'.length cx) = some j → Wb.heap.size ≤ j ∨ Value.ownBlock (.slice A0 l.length cap0) = some j)) (fun _ i _ => ks.length - (intOf i).toNat)
      case atStart => exact ⟨0, l, A0, cap0, Nat.zero_le _, rfl, rfl, by rw [List.drop_zero]; omega, Lib.hid (by rw [List.drop_zero, HW0.out]), HS0, HO1, Lib.hid (World.grownBy.refl _ _), Lib.hid (fun j hj => .inr hj)⟩
      case round =>
        obtain ⟨k, l', X, cx, hk, rfl, rfl, hsz2, HW, HS, HO2, HG, HJ⟩ := hrel
        have q3 : wr.cell? ⟨W.heap.size, 3, none⟩ = some (.slice A ks.length cap) := (HG.out.cell_far ⟨W.heap.size, 3, none⟩ hsz HNE.out).trans HQ3.out
        have hrz := HG.out.size
        have hrz2 : W.heap.size < wr.heap.size := by omega
        by_cases hlt : k < ks.length
        · have hIr : In Q w wr := (HI.out.on HB1.out).grown HG.out (fun j hj hq => absurd (HQ.out j hq) (by have := (HO.out.lt j hj).1; omega))
          obtain ⟨a, o1, n1, s1, A1, l1, k1, rfl, hd', p0, p1, p2, p3⟩ := kid_at HA.out HK.out hIr hlt
          have hd2 := sizL_drop hlt
          have hsz3 : l'.length + sizE ks[k] ≤ 1073741824 := by omega
          have hlen2 : (walkE ks[k] l').length + sizL (ks.drop (k + 1)) ≤ 1073741824 := by have := walkE_len ks[k] l'; omega
          have HC := Lib.hid (IH.out k hlt _ _ _ _ hd' l' (.slice X l'.length cx) base wr HS.out HO2.out (by have := HB1.out.size; omega) HQ.out hsz3 hIr)
          have HN : Hid (walkL (ks.drop (k + 1)) (walkE ks[k] l') = walkE (.mk op n nm ks) l) := Lib.hid (by rw [← walkL_drop hlt]; exact HW.out)
          have HS2 : Hid (∀ t ∈ walkE ks[k] l', small t) := Lib.hid (walkE_all (HK.out k hlt) HS.out)
          obtain ⟨l2, hl2⟩ : ∃ l2, l2 = walkE ks[k] l' := ⟨_, rfl⟩
          rw [← hl2] at HC HN HS2 hlen2
          clear hd' hIr hd2 hsz3 hl2
          go_wp2_with (go_at_call 128; refine HC.out.mono ?_; rintro e w2 ⟨x2, rfl, ho2, hg2, hj2⟩; obtain ⟨X2, cx2, rfl, _, _⟩ := own_shape ho2)
          go_roundw
          case rel => exact ⟨k + 1, l2, X2, cx2, by omega, rfl, by go_num, hlen2, HN, HS2, Lib.hid ho2, Lib.hid (HG.out.andThen hg2 HJ.out), Lib.hid (lies_then HG.out HJ.out hj2)⟩
          case measure => simp [intOf]; omega
        · have HN : Hid (walkE (.mk op n nm ks) l = l') := Lib.hid (by
            have h1 := HW.out
            rw [List.drop_of_length_le (by omega), walkL] at h1
            exact h1.symm)
          go_wp2_with fail
          go_ret
          exact ⟨.slice X l'.length cx, rfl, by rw [HN.out]; exact HO2.out, HGW.out.andThen HG.out (fun j hj => .inr hj), fun j hj => (HJ.out j hj).imp (fun h => by omega) id⟩
theorem rNames_any {w : World} {Q : Nat → Prop} {e : E} {c0 c1 c2 c3 : Value} (h : ExprI w Q e [c0, c1, c2, c3]) (W : World) (hI : In Q w W) :
    Calls Try.prog 87 #[.agg #[c0, c1, c2, c3]] W (NewRow (namesE e) W) := by
  have HM := Lib.hid (fun W h1 => rMayExpr_any h W h1)
  have HF := Lib.hid (walk_any h c0 c1 c2 c3 rfl [] (.slice none 0 0))
  have HI := Lib.hid hI
  unfold namesE
  have hz := mayE_siz e 20
  obtain ⟨d0, d1, d2, d3, l3, k3, hd'⟩ := h.form
  simp only [List.cons.injEq, and_true] at hd'
  obtain ⟨rfl, rfl, rfl, rfl⟩ := hd'
  clear h hI
  cases hm : mayE 20 e with
  | false =>
    rw [hm] at HM
    clear hm hz
    go_enter Try.func87, Try.ntmps87
    go_wp2_with (go_at_call 127; refine (HM.out _ (HI.out.alloc _)).mono ?_; rintro e' w2 ⟨rfl, hb2⟩)
    go_ret
    exact ⟨.slice none 0 0, rfl, World.ownsRow_nil _ _ _ _, below_new hb2⟩
  | true =>
    have hz2 := hz hm
    rw [hm] at HM
    clear hm hz
    go_enter Try.func87, Try.ntmps87
    go_wp2_with (first
      | (go_at_call 127; refine (HM.out _ (HI.out.alloc _)).mono ?_; rintro e' w2 ⟨rfl, hb2⟩; have hc2 := (bcell hb2).1; have hz3 := hb2.size; rw [World.size_alloc] at hz3)
      | (go_at_call 128; refine (HF.out w2.heap.size _ (by simp) (World.ownsRow_nil _ _ _ _) (Nat.le_refl _) (fun b hb => ((HI.out.alloc _).on hb2).1 b hb) (by simp; omega) ((HI.out.alloc _).on hb2)).mono ?_; rintro e' w3 ⟨v, rfl, ho, hg, hj⟩))
    go_ret
    have hb3 : Below w2.heap.size w2 w3 := (Below.refl _ _).grown hg (Nat.le_refl _) (by simp [Value.ownBlock])
    exact ⟨v, rfl, own_lower ho (by have := (below_new hb2).size; omega), (below_new hb2).trans (hb3.mono (below_new hb2).size)⟩
end Go.Proofs.Ytddfpmdbndakgaa
