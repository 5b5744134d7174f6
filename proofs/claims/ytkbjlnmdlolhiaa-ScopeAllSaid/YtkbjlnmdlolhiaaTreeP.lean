/- Rows of structs in memory: a procedure's, a statement's, an argument's, a parameter's cells, as the walk spells them. Count (tree). -/
import Derived.Test.YtkbjlnmdlolhiaaTreeN5
namespace Go.Proofs.Ytkbjlnmdlolhiaa
open Go.ChangeShapes Go.WideShapes Go.ChangeAt Go.RowKit Go.Deep
set_option linter.unusedVariables false

section
variable {w W : World} {Q : Nat → Prop}
theorem slice_at {α : Type} {C : Nat} {RI : α → List Value → Prop} {l : List α} {A : Option Addr} {n cap : Nat} (h : SliceI w Q C RI l (.slice A n cap)) (hI : In Q w W) {k : Nat} (hk : k < l.length) :
    ∃ a cs, A = some a ∧ Q a.block ∧ RI l[k] cs ∧ ∀ j u, cs[j]? = some u → W.cell? (a.add (k * C + j)) = some u := by
  obtain ⟨A', cap', css, h1, h2, h3, h4⟩ := h
  injection h1 with hA hn hc
  subst hA
  obtain ⟨a, rfl, hq, hc⟩ := h3 (by omega)
  exact ⟨a, css k, rfl, hq, h4 k hk, fun j u hu => (hI.cell (by rw [block_add]; exact hq)).trans (hc k hk j u hu)⟩
/-- the cells of a row's element k, of C cells, at a -/
def CellsAt (W : World) (a : Addr) : List Value → Nat → Prop
  | [], _ => True
  | v :: vs, j => W.cell? ⟨a.block, a.off + j, none⟩ = some v ∧ CellsAt W a vs (j + 1)
/-- v at the address itself, the rest behind it -/
def RowAt (W : World) (a : Addr) (v : Value) (vs : List Value) : Prop := W.cell? a = some v ∧ CellsAt W a vs 1
theorem cellsAt_of {a : Addr} {vs : List Value} : ∀ {j : Nat}, 0 < j → (∀ i u, vs[i]? = some u → W.cell? (a.add (j + i)) = some u) → CellsAt W a vs j := by
  induction vs with
  | nil => intros; exact trivial
  | cons v vs ih =>
    intro j hj h
    refine ⟨?_, ih (by omega) fun i u hu => ?_⟩
    · rw [← add_ne a (by omega)]; exact h 0 v rfl
    · have := h (i + 1) u (by simpa using hu)
      rwa [show j + 1 + i = j + (i + 1) by omega]
theorem rowAt_of {a : Addr} {v : Value} {vs : List Value} (h : ∀ j u, (v :: vs)[j]? = some u → W.cell? (a.add j) = some u) : RowAt W a v vs :=
  ⟨by have := h 0 v rfl; rwa [add_zero_] at this, cellsAt_of (by omega) fun i u hu => by rw [Nat.add_comm]; exact h (i + 1) u (by simpa using hu)⟩
theorem rowAt_elem {a : Addr} {b : Nat} {v : Value} {vs : List Value} (h : ∀ j u, (v :: vs)[j]? = some u → W.cell? (a.add (b + j)) = some u) : RowAt W (a.add b) v vs :=
  rowAt_of fun j u hu => by rw [add_add]; exact h j u hu
theorem proc_at {l : List Pr} {A : Option Addr} {n cap : Nat} (h : SliceI w Q 5 (ProcI w Q) l (.slice A n cap)) (hI : In Q w W) {k : Nat} (hk : k < l.length) :
    ∃ a Ap cp Av cv Ab cb Ae ce, A = some a ∧ Q a.block ∧ RowAt W (a.add (k * 5)) (.string l[k].nm) [.slice Ap l[k].params.length cp, .slice Av l[k].vars.length cv, .slice Ab l[k].body.length cb, .slice Ae l[k].end_.length ce] ∧
      l[k].nm.size ≤ 9223372036854775807 ∧ SliceI w Q 2 ParI l[k].params (.slice Ap l[k].params.length cp) ∧ TextsI w Q l[k].vars (.slice Av l[k].vars.length cv) ∧ StmtsI w Q l[k].body (.slice Ab l[k].body.length cb) ∧ TextsI w Q l[k].end_ (.slice Ae l[k].end_.length ce) := by
  obtain ⟨a, cs, rfl, hq, ⟨vp, vv, vb, ve, rfl, h2, h3, h4, h5, h6⟩, hc⟩ := slice_at h hI hk
  obtain ⟨Ap, cp, rfl, _⟩ := h3.shape
  obtain ⟨Av, cv, rfl, _⟩ := h4.shape
  obtain ⟨Ab, cb, rfl, _⟩ := h5.shape
  obtain ⟨Ae, ce, rfl, _⟩ := h6.shape
  exact ⟨a, Ap, cp, Av, cv, Ab, cb, Ae, ce, rfl, hq, rowAt_elem hc, h2, h3, h4, h5, h6⟩
theorem prog_open {p : Pg} {c0 c1 : Value} (h : ProgI w Q p [c0, c1]) : ∃ Ag cg Ap cp, c0 = .slice Ag p.globals.length cg ∧ c1 = .slice Ap p.procs.length cp ∧ p.globals.length ≤ cg ∧ cg ≤ 9223372036854775807 ∧ p.procs.length ≤ cp ∧ cp ≤ 9223372036854775807 ∧ TextsI w Q p.globals (.slice Ag p.globals.length cg) ∧ SliceI w Q 5 (ProcI w Q) p.procs (.slice Ap p.procs.length cp) := by
  obtain ⟨vg, vp, h1, h2, h3⟩ := h
  obtain ⟨Ag, cg, rfl, h4, h5⟩ := h2.shape
  obtain ⟨Ap, cp, rfl, h6, h7⟩ := h3.shape
  simp only [List.cons.injEq, and_true] at h1
  exact ⟨Ag, cg, Ap, cp, h1.1, h1.2, h4, h5, h6, h7, h2, h3⟩
end
def cntL : List Pr → Nat
  | [] => 0
  | q :: qs => (preSL q.body).length + cntL qs
def cntP (p : Pg) : Nat := cntL p.procs
theorem cntL_drop {l : List Pr} {k : Nat} (h : k < l.length) : cntL (l.drop k) = (preSL l[k].body).length + cntL (l.drop (k + 1)) := by rw [List.drop_eq_getElem_cons h, cntL]
theorem below_in {Q : Nat → Prop} {w W W' : World} {B : Nat} (hI : In Q w W) (hB : ∀ b, Q b → b < B) (h : Below B W W') : In Q w W' := hI.below hB h
set_option maxHeartbeats 1000000 in
theorem Count_any {w : World} {Q : Nat → Prop} {p : Pg} {c0 c1 : Value} (h : ProgI w Q p [c0, c1]) (W : World) (hI : In Q w W) (hn : cntP p ≤ 1000000000) :
    Calls Try.prog 23 #[.agg #[c0, c1]] W fun e w' => e = .returned (.int .i64 (cntP p)) ∧ Below W.heap.size W w' := by
  obtain ⟨Ag, cg, Ap, cp, rfl, rfl, hg1, hg2, hp1, hp2, _, hpr⟩ := prog_open h
  have HI := Lib.hid hI
  have HP := Lib.hid hpr
  clear h hI hpr
  unfold cntP at hn ⊢
  go_enter Try.func23, Try.ntmps23
  go_wp2_with fail
  have HB1 : Hid (Below W.heap.size W (W.alloc (.cells #[.slice Ag p.globals.length cg, .slice Ap p.procs.length cp] 25))) := Lib.hid (below_box _)
  generalize W.alloc _ = W1 at HB1 ⊢
  go_loopw [3, 11] (fun m i wr => ∃ (k q : Nat), k ≤ p.procs.length ∧ i = .int .i64 k ∧ m = .int .i64 q ∧ q + cntL (p.procs.drop k) = cntL p.procs ∧ Hid (Below W1.heap.size W1 wr)) (fun _ i _ => p.procs.length - (intOf i).toNat)
  case atStart => exact ⟨0, 0, Nat.zero_le _, rfl, rfl, by rw [List.drop_zero]; omega, Lib.hid (Below.refl _ _)⟩
  case round =>
    obtain ⟨k, q, hk, rfl, rfl, hq, HR⟩ := hrel
    generalize wr = wo at *
    by_cases hlt : k < p.procs.length
    · have hIr : In Q w wo := HI.out.on (HB1.out.trans (HR.out.mono HB1.out.size))
      obtain ⟨a, Bp, bp, Bv, bv, Bb, bb, Be, be, rfl, _, ⟨p0, p1, p2, p3, p4, _⟩, _, _, _, hbody, _⟩ := proc_at HP.out hIr hlt
      have HBd := Lib.hid hbody
      have HIr := Lib.hid hIr
      rw [cntL_drop hlt] at hq
      clear hbody hIr
      go_wp2_with fail
      refine (stmts_any (W := _) HBd.out).mono ?_
      rintro e w2 ⟨v, rfl, hw2, hb2, hj2⟩
      have hz2 : wo.heap.size + 1 < w2.heap.size := by have := hw2; obtain ⟨_, _, _, hc, _⟩ := this; have := hc.blk.lt; simp at this; omega
      have hb2' : Below wo.heap.size wo w2 := below_new hb2
      have HI2 := Lib.hid (HIr.out.on hb2')
      have HB2 := Lib.hid hb2'
      have HW2 := Lib.hid hw2
      have HJ2 := Lib.hid hj2
      clear hw2 hb2 hb2' hj2
      simp only [World.size_alloc] at HW2 HJ2 ⊢
      generalize hc : wo.heap.size + 1 = c at *
      have hLn : (preSL p.procs[k].body).length ≤ 1000000000 := by omega
      have HN2 : Hid (∀ (v : Value) (R : List S) (W' : World), WalkS w W' Q c c v R → In Q w W' → R.length ≤ 1000000000 → Calls Try.prog 65 #[.pointer (some ⟨c, 0, none⟩)] W' fun e w' => ∃ o, e = .returned (.pointer o) ∧ AtS w w' Q c c o R ∧ Below c W' w') :=
        Lib.hid (fun v R W' h1 h2 h3 => nextS_at h1 h2 (by have := h1.lt.1; omega) (Nat.le_refl _) (by omega))
      obtain ⟨L, hL⟩ : ∃ L, L = preSL p.procs[k].body := ⟨_, rfl⟩
      rw [← hL] at HW2 hq hLn
      clear hL
      go_wp2_with fail
      refine (HN2.out v L w2 HW2.out HI2.out hLn).mono ?_
      rintro e w3 ⟨o, rfl, hat, hb3⟩
      have HA3 := Lib.hid hat
      have HI3 := Lib.hid (HI2.out.below (fun b hb => Nat.lt_trans (HIr.out.1 b hb) (by omega)) hb3)
      have HB3 : Hid (Below wo.heap.size wo w3) := Lib.hid (HB2.out.trans (hb3.mono (by omega)))
      clear hat hb3
      go_wp2_with fail
      go_loopw [3, 7] (fun m i w4 => ∃ (q2 : Nat) (o : Option Addr) (L2 : List S), m = .int .i64 q2 ∧ i = .pointer o ∧ q2 + L2.length = q + L.length ∧ Hid (AtS w w4 Q c c o L2) ∧ Hid (In Q w w4) ∧ Hid (Below wo.heap.size wo w4)) (fun m _ _ => q + L.length - (intOf m).toNat)
      case atStart => exact ⟨q, o, L, rfl, rfl, rfl, HA3, HI3, HB3⟩
      case round =>
        obtain ⟨q2, o, L2, rfl, rfl, hq2, HA4, HI4, HB4⟩ := hrel
        rcases HA4.out with ⟨rfl, rfl⟩ | ⟨a4, x, R, v4, rfl, rfl, hn4, hw4⟩
        · simp only [List.length_nil] at hq2
          go_wp2_with fail
          go_roundw
          case rel => exact ⟨k + 1, q2, by omega, by go_num, rfl, by omega, Lib.hid (HR.out.trans (HB4.out.mono HR.out.size))⟩
          case measure => simp [intOf]; omega
        · simp only [List.length_cons] at hq2
          have HW4 := Lib.hid hw4
          clear hn4 hw4
          go_wp2_with (go_at_call 65; refine (HN2.out v4 R wr HW4.out HI4.out (by omega)).mono ?_; rintro e w5 ⟨o5, rfl, hat5, hb5⟩)
          go_roundw
          case rel => exact ⟨q2 + 1, o5, R, by go_num, rfl, by omega, Lib.hid hat5, Lib.hid (HI4.out.below (fun b hb => Nat.lt_trans (HIr.out.1 b hb) (by omega)) hb5), Lib.hid (HB4.out.trans (hb5.mono (by omega)))⟩
          case measure => simp [intOf]; omega
    · have hq2 : cntL (p.procs.drop k) = 0 := by rw [List.drop_of_length_le (by omega), cntL]
      have HN : Hid (q = cntL p.procs) := Lib.hid (by omega)
      clear hq hq2
      go_wp2_with fail
      go_ret
      exact ⟨ret_int (by rw [HN.out]), HB1.out.trans (HR.out.mono HB1.out.size)⟩
end Go.Proofs.Ytkbjlnmdlolhiaa
