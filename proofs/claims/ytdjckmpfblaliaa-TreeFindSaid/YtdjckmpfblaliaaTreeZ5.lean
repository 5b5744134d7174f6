/- Sameness of lists of procedures and of programs: slices.EqualFunc over procedures, Eq (tree). -/
import Derived.Test.YtdjckmpfblaliaaTreeZ4
namespace Go.Proofs.Ytdjckmpfblaliaa
open Go.ChangeShapes Go.WideShapes Go.ChangeAt Go.RowKit Go.Deep
set_option linter.unusedVariables false
set_option linter.unusedSimpArgs false
def szQ (l : List Pr) : Prop := ∀ q ∈ l, szB q.body
set_option maxHeartbeats 2000000 in
theorem EqualQ_any {w1 w2 W : World} {Q1 Q2 : Nat → Prop} {l1 l2 : List Pr} {v1 v2 : Value} (h1 : SliceI w1 Q1 5 (ProcI w1 Q1) l1 v1) (h2 : SliceI w2 Q2 5 (ProcI w2 Q2) l2 v2) (hI1 : In Q1 w1 W) (hI2 : In Q2 w2 W) (hz1 : szQ l1) (hz2 : szQ l2) :
    Calls Try.prog 63 #[v1, v2, .func (.func 64) #[] #[]] W (MayOk (eqB l1 l2) W) := by
  obtain ⟨A1, k1, rfl, hlc1, hc1⟩ := h1.shape
  obtain ⟨A2, k2, rfl, hlc2, hc2⟩ := h2.shape
  have H1 := Lib.hid h1
  have H2 := Lib.hid h2
  have HI1 := Lib.hid hI1
  have HI2 := Lib.hid hI2
  have HZ1 := Lib.hid hz1
  have HZ2 := Lib.hid hz2
  clear h1 h2 hI1 hI2 hz1 hz2
  cases hl : (((l1.length : Nat) : Int) == ((l2.length : Nat) : Int)) with
  | false =>
    have hne : l1.length ≠ l2.length := by intro e; rw [e] at hl; simp at hl
    have HM : Hid (eqB l1 l2 = false) := Lib.hid (eqB_ne (by rintro rfl; exact hne rfl))
    have hb : (((l1.length : Nat) : Int) != ((l2.length : Nat) : Int)) = true := by rw [bne, hl]; rfl
    clear hl hne
    go_enter Try.func63, Try.ntmps63
    go_wp2_with fail
    go_ret
    exact ⟨ret_bool HM.out.symm, Below.refl _ _⟩
  | true =>
    have heq : l1.length = l2.length := by have := eq_of_beq hl; omega
    have hb : (((l1.length : Nat) : Int) != ((l2.length : Nat) : Int)) = false := by rw [bne, hl]; rfl
    have he1 : l1.length ≤ l2.length := by omega
    have he2 : l2.length ≤ l1.length := by omega
    clear hl heq
    go_enter Try.func63, Try.ntmps63
    go_wp2_with fail
    go_loopw [17] (fun i wr => ∃ k : Nat, k ≤ l1.length ∧ i = .int .i64 k ∧ Hid (l1.take k = l2.take k) ∧ Hid (Below W.heap.size W wr)) (fun i _ => l1.length - (intOf i).toNat)
    case atStart => exact ⟨0, Nat.zero_le _, rfl, Lib.hid (by simp), Lib.hid (Below.refl _ _)⟩
    case round =>
      obtain ⟨k, hk, rfl, HT, HR⟩ := hrel
      by_cases hlt : k < l1.length
      · have hlt2 : k < l2.length := by omega
        obtain ⟨a1, Ap, cp, Av, cv, Ab, cb, Ae, ce, rfl, hqa, ⟨p0, p1, p2, p3, p4, _⟩, _, g1, g2, g3, g4⟩ := proc_at H1.out (HI1.out.on HR.out) hlt
        obtain ⟨a2, Ap', cp', Av', cv', Ab', cb', Ae', ce', rfl, hqb, ⟨r0, r1, r2, r3, r4, _⟩, _, g1', g2', g3', g4'⟩ := proc_at H2.out (HI2.out.on HR.out) hlt2
        have hlb : (a2.add (k * 5)).block < wr.heap.size := by rw [block_add]; exact (HI2.out.on HR.out).1 _ hqb
        have hk2 : (k : Int) < (l2.length : Int) := by omega
        have HC := Lib.hid (fun V hV hV' => sameProc_any (W := V) (nm := l1[k].nm) (nm' := l2[k].nm) g1 g2 g3 g4 g1' g2' g3' g4' hV hV' (HZ1.out _ (List.getElem_mem hlt)) (HZ2.out _ (List.getElem_mem hlt2)))
        obtain ⟨x, hx⟩ : ∃ x, x = l1[k] := ⟨_, rfl⟩
        obtain ⟨y, hy⟩ : ∃ y, y = l2[k] := ⟨_, rfl⟩
        have HX : Hid (x = y → l1.take (k + 1) = l2.take (k + 1)) := Lib.hid (fun e => take_eq_step hlt hlt2 HT.out (by rw [← hx, ← hy]; exact e))
        have HY : Hid (x ≠ y → eqB l1 l2 = false) := Lib.hid (fun e => eqB_ne (ne_of_at hlt hlt2 (by rw [← hx, ← hy]; exact e)))
        rw [← hx] at p0 p1 p2 p3 p4 HC
        rw [← hy] at r0 r1 r2 r3 r4 HC
        have HIr1 := Lib.hid (HI1.out.on HR.out)
        have HIr2 := Lib.hid (HI2.out.on HR.out)
        clear hx hy g1 g2 g3 g4 g1' g2' g3' g4' hqa hqb
        obtain ⟨xn, xp, xv, xb, xe⟩ := x
        obtain ⟨yn, yp, yv, yb, ye⟩ := y
        simp only at p0 p1 p2 p3 p4 r0 r1 r2 r3 r4 HC
        cases hv : eqB (⟨xn, xp, xv, xb, xe⟩ : Pr) ⟨yn, yp, yv, yb, ye⟩ with
        | false =>
          have HN := Lib.hid (HY.out (fun e => by rw [e, eqB_self] at hv; cases hv))
          rw [hv] at HC
          clear hv
          go_wp2_with (go_at_call 64; refine (HC.out _ ((HIr1.out.alloc _).alloc _) ((HIr2.out.alloc _).alloc _)).mono ?_; rintro e w3 ⟨rfl, hb3⟩)
          go_ret
          exact ⟨ret_bool HN.out.symm, HR.out.trans (((below_two _ _).trans (hb3.mono (by simp; omega))).mono HR.out.size)⟩
        | true =>
          have HN := Lib.hid (HX.out (eqB_iff.1 hv))
          rw [hv] at HC
          clear hv
          go_wp2_with (go_at_call 64; refine (HC.out _ ((HIr1.out.alloc _).alloc _) ((HIr2.out.alloc _).alloc _)).mono ?_; rintro e w3 ⟨rfl, hb3⟩)
          go_roundw
          case rel => exact ⟨k + 1, by omega, by go_num, HN, Lib.hid (HR.out.trans (((below_two _ _).trans (hb3.mono (by simp; omega))).mono HR.out.size))⟩
          case measure => simp [intOf]; omega
      · have HN : Hid (eqB l1 l2 = true) := Lib.hid (by
          have := HT.out
          rw [List.take_of_length_le (by omega), List.take_of_length_le (by omega)] at this
          exact eqB_iff.2 this)
        go_wp2_with fail
        go_ret
        exact ⟨ret_bool HN.out.symm, HR.out⟩

theorem eqB_prog (p q : Pg) : eqB p q = (eqB p.globals q.globals && eqB p.procs q.procs) := by
  symm
  apply eqB_of
  cases p; cases q
  simp only [Bool.and_eq_true, eqB_iff, Pg.mk.injEq]
set_option maxHeartbeats 2000000 in
theorem Eq_any {w1 w2 W : World} {Q1 Q2 : Nat → Prop} {p q : Pg} {a0 a1 b0 b1 : Value} (h1 : ProgI w1 Q1 p [a0, a1]) (h2 : ProgI w2 Q2 q [b0, b1]) (hI1 : In Q1 w1 W) (hI2 : In Q2 w2 W) (hz1 : szQ p.procs) (hz2 : szQ q.procs) :
    Calls Try.prog 33 #[.agg #[a0, a1], .agg #[b0, b1]] W (MayOk (eqB p q) W) := by
  obtain ⟨Ag, cg, Ap, cp, rfl, rfl, _, _, _, _, g1, g2⟩ := prog_open h1
  obtain ⟨Ag', cg', Ap', cp', rfl, rfl, _, _, _, _, g1', g2'⟩ := prog_open h2
  have HT := Lib.hid (fun V hV hV' => EqualT_any (W := V) g1 g1' hV hV')
  have HQ := Lib.hid (fun V hV hV' => EqualQ_any (W := V) g2 g2' hV hV' hz1 hz2)
  rw [eqB_prog]
  simp only [eqB_dec] at HT
  have HI1 := Lib.hid hI1
  have HI2 := Lib.hid hI2
  clear h1 h2 hI1 hI2 g1 g2 g1' g2' hz1 hz2
  obtain ⟨b, hb⟩ : ∃ b, b = eqB p.globals q.globals := ⟨_, rfl⟩
  rw [← hb] at HT ⊢
  clear hb
  cases b with
  | false =>
    go_enter Try.func33, Try.ntmps33
    go_wp2_with (first
      | ((go_at_call 62; (with_reducible refine (HT.out _ ((HI1.out.alloc _).alloc _) ((HI2.out.alloc _).alloc _)).mono ?_); rintro e q1 ⟨rfl, hb1⟩)))
    go_ret
    exact ⟨ret_bool (by simp), (below_two _ _).trans (hb1.mono (by simp; omega))⟩
  | true =>
    have k1 : ((W.alloc (.cells #[.slice Ag p.globals.length cg, .slice Ap p.procs.length cp] 32)).alloc (.cells #[.slice Ag' q.globals.length cg', .slice Ap' q.procs.length cp'] 32)).cell? ⟨W.heap.size, 1, none⟩ = some (.slice Ap p.procs.length cp) := by rw [((Blk.new W 32 #[.slice Ag p.globals.length cg, .slice Ap p.procs.length cp]).alloc _).cell 1]; rfl
    have k2 : ((W.alloc (.cells #[.slice Ag p.globals.length cg, .slice Ap p.procs.length cp] 32)).alloc (.cells #[.slice Ag' q.globals.length cg', .slice Ap' q.procs.length cp'] 32)).cell? ⟨W.heap.size + 1, 1, none⟩ = some (.slice Ap' q.procs.length cp') := by simp
    go_enter Try.func33, Try.ntmps33
    go_wp2_with (first
      | ((go_at_call 62; (with_reducible refine (HT.out _ ((HI1.out.alloc _).alloc _) ((HI2.out.alloc _).alloc _)).mono ?_); rintro e q1 ⟨rfl, hb1⟩; have k1' := (hb1.cell (p := ⟨W.heap.size, 1, none⟩) (by simp; omega)).trans k1; have k2' := (hb1.cell (p := ⟨W.heap.size + 1, 1, none⟩) (by simp)).trans k2))
      | ((go_at_call 63; (with_reducible refine (HQ.out _ (((HI1.out.alloc _).alloc _).on hb1) (((HI2.out.alloc _).alloc _).on hb1)).mono ?_); rintro e q2 ⟨rfl, hb2⟩)))
    go_ret
    exact ⟨ret_bool (by simp), (below_two _ _).trans ((hb1.trans (hb2.mono hb1.size)).mono (by simp; omega))⟩
end Go.Proofs.Ytdjckmpfblaliaa
