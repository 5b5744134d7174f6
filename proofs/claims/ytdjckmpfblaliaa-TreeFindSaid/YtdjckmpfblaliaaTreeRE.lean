/- Equality of expressions: the contract of EqExpr (whittlerref3). -/
import Derived.Test.YtdjckmpfblaliaaTreeZ5
import Derived.Test.YtdjckmpfblaliaaTreeHX
import Derived.Deep.RegionHeld3
namespace Go.Proofs.Ytdjckmpfblaliaa
open Go.ChangeShapes Go.WideShapes Go.ChangeAt Go.RowKit Go.Deep
set_option linter.unusedVariables false

theorem eqB_false {α : Type} {a b : α} (h : a ≠ b) : eqB a b = false := eqB_ne h
theorem eqE_ne {op op' n n' : Int} {nm nm' : ByteArray} {ks ks' : List E} (h : ¬ (op = op' ∧ n = n' ∧ nm = nm' ∧ ks = ks')) : eqB (E.mk op n nm ks) (.mk op' n' nm' ks') = false :=
  eqB_ne (fun e => by injection e with e1 e2 e3 e4; exact h ⟨e1, e2, e3, e4⟩)
theorem blkTwo (W : World) (t u : TypeId) (cs ds : Array Value) : Blk ((W.alloc (.cells cs t)).alloc (.cells ds u)) W.heap.size t cs ∧ Blk ((W.alloc (.cells cs t)).alloc (.cells ds u)) (W.heap.size + 1) u ds :=
  ⟨(Blk.new _ _ _).alloc _, by have := Blk.new (W.alloc (.cells cs t)) u ds; simpa using this⟩
set_option maxHeartbeats 2000000 in
theorem EqExpr_any {w1 : World} {Q1 : Nat → Prop} {x : E} {cs : List Value} (h1 : ExprI w1 Q1 x cs) : ∀ {w2 : World} {Q2 : Nat → Prop} {y : E} {ds : List Value}, ExprI w2 Q2 y ds → ∀ (c0 c1 c2 c3 d0 d1 d2 d3 : Value), cs = [c0, c1, c2, c3] → ds = [d0, d1, d2, d3] →
    ∀ (W : World), In Q1 w1 W → In Q2 w2 W → Calls Try.prog 95 #[.agg #[c0, c1, c2, c3], .agg #[d0, d1, d2, d3]] W (MayOk (eqB x y) W) := by
  induction h1 with
  | @mk op n nm ks A cap css hop hn hnm hcap hA hk ih =>
    intro w2 Q2 y ds h2 c0 c1 c2 c3 d0 d1 d2 d3 hcs hds W hI1 hI2
    cases h2 with
    | @mk op' n' nm' ks' A' cap' css' hop' hn' hnm' hcap' hA' hk' =>
    simp only [List.cons.injEq, and_true] at hcs hds
    obtain ⟨rfl, rfl, rfl, rfl⟩ := hcs
    obtain ⟨rfl, rfl, rfl, rfl⟩ := hds
    have HA := Lib.hid hA
    have HK := Lib.hid hk
    have HA' := Lib.hid hA'
    have HK' := Lib.hid hk'
    have IH := Lib.hid @ih
    have HI1 := Lib.hid hI1
    have HI2 := Lib.hid hI2
    clear hA hk hA' hk' ih hI1 hI2
    by_cases e1 : op = op'
    · have g1 : (op != op') = false := by rw [e1]; simp
      by_cases e2 : n = n'
      · have g2 : (n != n') = false := by rw [e2]; simp
        by_cases e3 : nm = nm'
        · have g3 : (nm.toList == nm'.toList) = true := by rw [e3]; simp
          by_cases e4 : ks.length = ks'.length
          · have g4 : (((ks.length : Nat) : Int) != ((ks'.length : Nat) : Int)) = false := by rw [e4]; simp
            have HE : Hid (eqB (E.mk op n nm ks) (.mk op' n' nm' ks') = eqB ks ks') := Lib.hid (by rw [Bool.eq_iff_iff, eqB_iff, eqB_iff, E.mk.injEq]; simp [e1, e2, e3])
            have e4' : ks'.length ≤ ks.length := by omega
            have e4'' : ks.length ≤ ks'.length := by omega
            clear e1 e2 e3 e4
            go_enter Try.func95, Try.ntmps95
            go_wp2_with fail
            have HBx := Lib.hid (blkTwo W 24 24 #[.int .i64 op, .int .i64 n, .string nm, .slice A ks.length cap] #[.int .i64 op', .int .i64 n', .string nm', .slice A' ks'.length cap']).1
            have HBy := Lib.hid (blkTwo W 24 24 #[.int .i64 op, .int .i64 n, .string nm, .slice A ks.length cap] #[.int .i64 op', .int .i64 n', .string nm', .slice A' ks'.length cap']).2
            have HB0 : Hid (Below W.heap.size W ((W.alloc (.cells #[.int .i64 op, .int .i64 n, .string nm, .slice A ks.length cap] 24)).alloc (.cells #[.int .i64 op', .int .i64 n', .string nm', .slice A' ks'.length cap'] 24))) := Lib.hid (below_two _ _)
            generalize World.alloc _ _ = W1 at HBx HBy HB0 ⊢
            generalize hb2 : W.heap.size + 1 = b2 at HBy ⊢
            generalize hb1 : W.heap.size = b at HBx ⊢
            clear hb1 hb2 g1 g2 g3 g4
            go_loopw [37] (fun i wr => ∃ k : Nat, k ≤ ks.length ∧ i = .int .i64 k ∧ Hid (ks.take k = ks'.take k) ∧ Hid (Below W1.heap.size W1 wr)) (fun i _ => ks.length - (intOf i).toNat)
            case atStart => exact ⟨0, Nat.zero_le _, rfl, Lib.hid rfl, Lib.hid (Below.refl _ _)⟩
            case round =>
              obtain ⟨k, hk, rfl, HT, HR⟩ := hrel
              by_cases hlt : k < ks.length
              · have hlt' : k < ks'.length := by omega
                have hI1r : In Q1 w1 wr := HI1.out.on (below_step HB0.out HR.out)
                have hI2r : In Q2 w2 wr := HI2.out.on (below_step HB0.out HR.out)
                obtain ⟨a, o1, n1, s1, A1, l1, k1, rfl, hd, p0, p1, p2, p3⟩ := kid_at HA.out HK.out hI1r hlt
                obtain ⟨a', o1', n1', s1', A1', l1', k1', rfl, hd', p0', p1', p2', p3'⟩ := kid_at HA'.out HK'.out hI2r hlt'
                have HC := Lib.hid (fun V h1 h2 => IH.out k hlt (HK'.out k hlt') _ _ _ _ _ _ _ _ hd hd' V h1 h2)
                have HI1r := Lib.hid hI1r
                have HI2r := Lib.hid hI2r
                have HBxr := Lib.hid (HBx.out.below HR.out HBx.out.lt)
                have HByr := Lib.hid (HBy.out.below HR.out HBy.out.lt)
                have q3 : wr.cell? ⟨b, 3, none⟩ = some (.slice (some a) ks.length cap) := by rw [HBxr.out.cell]; rfl
                have r3 : wr.cell? ⟨b2, 3, none⟩ = some (.slice (some a') ks'.length cap') := by rw [HByr.out.cell]; rfl
                have hbl := HBxr.out.lt
                have hbl2 := HByr.out.lt
                have hab : (a.add (k * 4)).block < wr.heap.size := World.block_lt_of_cell? _ _ p0
                have hab' : (a'.add (k * 4)).block < wr.heap.size := World.block_lt_of_cell? _ _ p0'
                obtain ⟨v, hv⟩ : ∃ v, v = eqB ks[k] ks'[k] := ⟨_, rfl⟩
                rw [← hv] at HC
                have HV := Lib.hid hv
                have hdr : ∀ {Q : Nat → Prop} {w V : World}, In Q w V → In Q w V.drew := fun h => h
                clear hd hd' hI1r hI2r hv
                go_wp2_with fail
                go_region_held3 (fun w' => w'.cell? ⟨b, 3, none⟩ = some (.slice (some a) ks.length cap) ∧ w'.cell? ⟨b2, 3, none⟩ = some (.slice (some a') ks'.length cap') ∧ w'.cell? (a.add (k * 4)) = some (.int .i64 o1) ∧ w'.cell? ⟨(a.add (k * 4)).block, (a.add (k * 4)).off + 1, none⟩ = some (.int .i64 n1) ∧ w'.cell? ⟨(a.add (k * 4)).block, (a.add (k * 4)).off + 2, none⟩ = some (.string s1) ∧ w'.cell? ⟨(a.add (k * 4)).block, (a.add (k * 4)).off + 3, none⟩ = some (.slice A1 l1 k1) ∧ w'.cell? (a'.add (k * 4)) = some (.int .i64 o1') ∧ w'.cell? ⟨(a'.add (k * 4)).block, (a'.add (k * 4)).off + 1, none⟩ = some (.int .i64 n1') ∧ w'.cell? ⟨(a'.add (k * 4)).block, (a'.add (k * 4)).off + 2, none⟩ = some (.string s1') ∧ w'.cell? ⟨(a'.add (k * 4)).block, (a'.add (k * 4)).off + 3, none⟩ = some (.slice A1' l1' k1'))
                  (go_keep)
                  ((go_at_call 95; refine (HC.out _ (hdr HI1r.out) (hdr HI2r.out)).mono ?_; rintro e w3 ⟨rfl, hb3⟩; have hb3' : Below wr.heap.size wr w3 := (show Below wr.heap.size wr wr.drew from (Below.refl _ _).drew).trans hb3; have hc3 := (bcell hb3').1; have s0 := (hb3'.cell hab).trans p0; have s0' := (hb3'.cell hab').trans p0'))
                cases v with
                | true =>
                  go_wp2_with fail
                  go_roundw
                  case rel => exact ⟨k + 1, by omega, by go_num, Lib.hid (take_eq_step hlt hlt' HT.out (eqB_iff.1 HV.out.symm)), Lib.hid (below_step HR.out hb3')⟩
                  case measure => simp [intOf]; omega
                | false =>
                  have HN : Hid (eqB ks ks' = false) := Lib.hid (eqB_ne (ne_of_at hlt hlt' (fun e => by rw [e, eqB_self] at HV; exact absurd HV.out (by simp))))
                  go_wp2_with fail
                  go_ret
                  exact ⟨ret_bool (by rw [HE.out, HN.out]), below_step HB0.out (below_step HR.out hb3')⟩
              · have HN : Hid (eqB ks ks' = true) := Lib.hid (eqB_iff.2 (by have := HT.out; rw [List.take_of_length_le (by omega), List.take_of_length_le (by omega)] at this; exact this))
                go_wp2_with fail
                go_ret
                exact ⟨ret_bool (by rw [HE.out, HN.out]), below_step HB0.out HR.out⟩
          · have HE := Lib.hid (eqE_ne (op := op) (op' := op') (nm := nm) (nm' := nm') (ks := ks) (ks' := ks') (n := n) (n' := n') (fun h => e4 (by rw [h.2.2.2])))
            have g4 : (((ks.length : Nat) : Int) != ((ks'.length : Nat) : Int)) = true := bne_iff_ne.2 (fun h => e4 (by omega))
            clear e1 e2 e3 e4
            go_enter Try.func95, Try.ntmps95
            go_wp2_with fail
            go_ret
            exact ⟨ret_bool HE.out.symm, below_two _ _⟩
        · have HE := Lib.hid (eqE_ne (op := op) (op' := op') (nm := nm) (nm' := nm') (ks := ks) (ks' := ks') (n := n) (n' := n') (fun h => e3 h.2.2.1))
          have g3 : (nm.toList == nm'.toList) = false := by rw [dec_bytes]; exact decide_eq_false e3
          clear e1 e2 e3
          go_enter Try.func95, Try.ntmps95
          go_wp2_with fail
          go_ret
          exact ⟨ret_bool HE.out.symm, below_two _ _⟩
      · have HE := Lib.hid (eqE_ne (op := op) (op' := op') (nm := nm) (nm' := nm') (ks := ks) (ks' := ks') (n := n) (n' := n') (fun h => e2 h.2.1))
        have g2 : (n != n') = true := by simpa using e2
        clear e1 e2
        go_enter Try.func95, Try.ntmps95
        go_wp2_with fail
        go_ret
        exact ⟨ret_bool HE.out.symm, below_two _ _⟩
    · have g1 : (op != op') = true := by simpa using e1
      have HE := Lib.hid (eqE_ne (nm := nm) (nm' := nm') (ks := ks) (ks' := ks') (n := n) (n' := n') (fun h => e1 h.1))
      clear e1
      go_enter Try.func95, Try.ntmps95
      go_wp2_with fail
      go_ret
      exact ⟨ret_bool HE.out.symm, below_two _ _⟩
end Go.Proofs.Ytdjckmpfblaliaa
