/- Sameness of arguments: sameArg, slices.EqualFunc over them. -/
import Derived.Test.YtdjckmpfblaliaaTreeZ
namespace Go.Proofs.Ytdjckmpfblaliaa
open Go.ChangeShapes Go.WideShapes Go.ChangeAt Go.RowKit Go.Deep
set_option linter.unusedVariables false

theorem eqB_arg (r r' : Bool) (n n' : ByteArray) (x x' : E) : eqB (⟨r, n, x⟩ : Ar) ⟨r', n', x'⟩ = ((r == r') && (n.toList == n'.toList) && eqB x x') := by
  rw [dec_bytes]
  symm
  apply eqB_of
  simp only [Bool.and_eq_true, beq_iff_eq, decide_eq_true_eq, eqB_iff, Ar.mk.injEq, and_assoc]
def szA (l : List Ar) : Prop := ∀ a ∈ l, sizE a.x ≤ 1000000000
set_option maxHeartbeats 1000000 in
theorem sameArg_any {w1 w2 W : World} {Q1 Q2 : Nat → Prop} {r r' : Bool} {nm nm' : ByteArray} {x x' : E} {o1 n1 : Int} {s1 : ByteArray} {A1 : Option Addr} {l1 c1 : Nat} {o2 n2 : Int} {s2 : ByteArray} {A2 : Option Addr} {l2 c2 : Nat}
    (h1 : ExprI w1 Q1 x [.int .i64 o1, .int .i64 n1, .string s1, .slice A1 l1 c1]) (h2 : ExprI w2 Q2 x' [.int .i64 o2, .int .i64 n2, .string s2, .slice A2 l2 c2]) (hI1 : In Q1 w1 W) (hI2 : In Q2 w2 W) (hx : sizE x ≤ 1000000000) (hy : sizE x' ≤ 1000000000) :
    Calls Try.prog 116 #[.agg #[.bool r, .string nm, .int .i64 o1, .int .i64 n1, .string s1, .slice A1 l1 c1], .agg #[.bool r', .string nm', .int .i64 o2, .int .i64 n2, .string s2, .slice A2 l2 c2]] W (MayOk (eqB (⟨r, nm, x⟩ : Ar) ⟨r', nm', x'⟩) W) := by
  have HC := Lib.hid (fun V hV hV' => sameExpr_any (W := V) h1 h2 hV hV' hx hy)
  have HI1 := Lib.hid hI1
  have HI2 := Lib.hid hI2
  rw [eqB_arg]
  clear h1 h2 hI1 hI2 hx hy
  obtain ⟨b3, hb3⟩ : ∃ b, b = eqB x x' := ⟨_, rfl⟩
  rw [← hb3] at HC ⊢
  clear hb3
  cases b1 : (r == r') with
  | false =>
    go_enter Try.func116, Try.ntmps116
    go_wp2_with fail
    go_ret
    exact ⟨rfl, below_two _ _⟩
  | true =>
    cases b2 : (nm.toList == nm'.toList) with
    | false =>
      go_enter Try.func116, Try.ntmps116
      go_wp2_with fail
      go_ret
      exact ⟨rfl, below_two _ _⟩
    | true =>
      go_enter Try.func116, Try.ntmps116
      go_wp2_with (go_at_call 114; refine (HC.out _ ((HI1.out.alloc _).alloc _) ((HI2.out.alloc _).alloc _)).mono ?_; rintro e w3 ⟨rfl, hb3⟩)
      go_ret
      exact ⟨rfl, (below_two _ _).trans (hb3.mono (by simp; omega))⟩
set_option maxHeartbeats 2000000 in
theorem EqualA_any {w1 w2 W : World} {Q1 Q2 : Nat → Prop} {l1 l2 : List Ar} {v1 v2 : Value} (h1 : SliceI w1 Q1 6 (ArgI w1 Q1) l1 v1) (h2 : SliceI w2 Q2 6 (ArgI w2 Q2) l2 v2) (hI1 : In Q1 w1 W) (hI2 : In Q2 w2 W) (hz1 : szA l1) (hz2 : szA l2) :
    Calls Try.prog 115 #[v1, v2, .func (.func 116) #[] #[]] W (MayOk (eqB l1 l2) W) := by
  obtain ⟨A1, k1, rfl, hlc1, hc1⟩ := h1.shape
  obtain ⟨A2, k2, rfl, hlc2, hc2⟩ := h2.shape
  have H1 := Lib.hid h1
  have H2 := Lib.hid h2
  have HI1 := Lib.hid hI1
  have HI2 := Lib.hid hI2
  have HZ1 := Lib.hid hz1
  have HZ2 := Lib.hid hz2
  clear h1 h2 hI1 hI2 hz1 hz2
  cases hl : (((l1.length : Nat) : Int) == ((l2.length : Nat) : Int)) with
  | false =>
    have hne : l1.length ≠ l2.length := by intro e; rw [e] at hl; simp at hl
    have HM : Hid (eqB l1 l2 = false) := Lib.hid (eqB_ne (by rintro rfl; exact hne rfl))
    have hb : (((l1.length : Nat) : Int) != ((l2.length : Nat) : Int)) = true := by rw [bne, hl]; rfl
    clear hl hne
    go_enter Try.func115, Try.ntmps115
    go_wp2_with fail
    go_ret
    exact ⟨ret_bool HM.out.symm, Below.refl _ _⟩
  | true =>
    have heq : l1.length = l2.length := by have := eq_of_beq hl; omega
    have hb : (((l1.length : Nat) : Int) != ((l2.length : Nat) : Int)) = false := by rw [bne, hl]; rfl
    have he1 : l1.length ≤ l2.length := by omega
    have he2 : l2.length ≤ l1.length := by omega
    clear hl heq
    go_enter Try.func115, Try.ntmps115
    go_wp2_with fail
    go_loopw [17] (fun i wr => ∃ k : Nat, k ≤ l1.length ∧ i = .int .i64 k ∧ Hid (l1.take k = l2.take k) ∧ Hid (Below W.heap.size W wr)) (fun i _ => l1.length - (intOf i).toNat)
    case atStart => exact ⟨0, Nat.zero_le _, rfl, Lib.hid (by simp), Lib.hid (Below.refl _ _)⟩
    case round =>
      obtain ⟨k, hk, rfl, HT, HR⟩ := hrel
      by_cases hlt : k < l1.length
      · have hlt2 : k < l2.length := by omega
        obtain ⟨a1, o1, n1, s1, B1, m1, d1, rfl, hqa, ⟨p0, p1, p2, p3, p4, p5, _⟩, _, hx1⟩ := arg_at H1.out (HI1.out.on HR.out) hlt
        obtain ⟨a2, o2, n2, s2, B2, m2, d2, rfl, hqb, ⟨r0, r1, r2, r3, r4, r5, _⟩, _, hx2⟩ := arg_at H2.out (HI2.out.on HR.out) hlt2
        have hlb : (a2.add (k * 6)).block < wr.heap.size := by rw [block_add]; exact (HI2.out.on HR.out).1 _ hqb
        have hk2 : (k : Int) < (l2.length : Int) := by omega
        have HC := Lib.hid (fun V hV hV' => sameArg_any (W := V) (r := l1[k].ref) (r' := l2[k].ref) (nm := l1[k].nm) (nm' := l2[k].nm) hx1 hx2 hV hV' (HZ1.out _ (List.getElem_mem hlt)) (HZ2.out _ (List.getElem_mem hlt2)))
        obtain ⟨x, hx⟩ : ∃ x, x = l1[k] := ⟨_, rfl⟩
        obtain ⟨y, hy⟩ : ∃ y, y = l2[k] := ⟨_, rfl⟩
        have HX : Hid (x = y → l1.take (k + 1) = l2.take (k + 1)) := Lib.hid (fun e => take_eq_step hlt hlt2 HT.out (by rw [← hx, ← hy]; exact e))
        have HY : Hid (x ≠ y → eqB l1 l2 = false) := Lib.hid (fun e => eqB_ne (ne_of_at hlt hlt2 (by rw [← hx, ← hy]; exact e)))
        rw [← hx] at p0 p1 HC
        rw [← hy] at r0 r1 HC
        have HIr1 := Lib.hid (HI1.out.on HR.out)
        have HIr2 := Lib.hid (HI2.out.on HR.out)
        clear hx hy hx1 hx2 hqa hqb
        obtain ⟨xr, xn, xx⟩ := x
        obtain ⟨yr, yn, yy⟩ := y
        simp only at p0 p1 r0 r1 HC
        cases hv : eqB (⟨xr, xn, xx⟩ : Ar) ⟨yr, yn, yy⟩ with
        | false =>
          have HN := Lib.hid (HY.out (fun e => by rw [e, eqB_self] at hv; cases hv))
          rw [hv] at HC
          clear hv
          go_wp2_with (go_at_call 116; refine (HC.out _ ((HIr1.out.alloc _).alloc _) ((HIr2.out.alloc _).alloc _)).mono ?_; rintro e w3 ⟨rfl, hb3⟩)
          go_ret
          exact ⟨ret_bool HN.out.symm, HR.out.trans (((below_two _ _).trans (hb3.mono (by simp; omega))).mono HR.out.size)⟩
        | true =>
          have HN := Lib.hid (HX.out (eqB_iff.1 hv))
          rw [hv] at HC
          clear hv
          go_wp2_with (go_at_call 116; refine (HC.out _ ((HIr1.out.alloc _).alloc _) ((HIr2.out.alloc _).alloc _)).mono ?_; rintro e w3 ⟨rfl, hb3⟩)
          go_roundw
          case rel => exact ⟨k + 1, by omega, by go_num, HN, Lib.hid (HR.out.trans (((below_two _ _).trans (hb3.mono (by simp; omega))).mono HR.out.size))⟩
          case measure => simp [intOf]; omega
      · have HN : Hid (eqB l1 l2 = true) := Lib.hid (by
          have := HT.out
          rw [List.take_of_length_le (by omega), List.take_of_length_le (by omega)] at this
          exact eqB_iff.2 this)
        go_wp2_with fail
        go_ret
        exact ⟨ret_bool HN.out.symm, HR.out⟩
end Go.Proofs.Ytdjckmpfblaliaa
