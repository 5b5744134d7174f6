/- Texts, merged by a program; only what is used. -/
import Derived.Test.YtnnblklbjbkikaaM1
import Derived.Test.YtnnblklbjbkikaaM2
import Derived.Test.YtnnblklbjbkikaaM3
import Derived.Test.YtnnblklbjbkikaaM4
namespace Go.Proofs.Ytnnblklbjbkikaa
open Go.ChangeShapes Go.WideShapes Go.ChangeAt Go.RowKit Go.Deep
set_option linter.unusedVariables false
section
variable {w W : World} {Q : Nat → Prop}
theorem slice_at {α : Type} {C : Nat} {RI : α → List Value → Prop} {l : List α} {A : Option Addr} {n cap : Nat} (h : SliceI w Q C RI l (.slice A n cap)) (hI : In Q w W) {k : Nat} (hk : k < l.length) :
    ∃ a cs, A = some a ∧ Q a.block ∧ RI l[k] cs ∧ ∀ j u, cs[j]? = some u → W.cell? (a.add (k * C + j)) = some u := by
  obtain ⟨A', cap', css, h1, h2, h3, h4⟩ := h
  injection h1 with hA hn hc
  subst hA
  obtain ⟨a, rfl, hq, hc⟩ := h3 (by omega)
  exact ⟨a, css k, rfl, hq, h4 k hk, fun j u hu => (hI.cell (by rw [block_add]; exact hq)).trans (hc k hk j u hu)⟩
/-- the cells of a row's element k, of C cells, at a -/
def CellsAt (W : World) (a : Addr) : List Value → Nat → Prop
  | [], _ => True
  | v :: vs, j => W.cell? ⟨a.block, a.off + j, none⟩ = some v ∧ CellsAt W a vs (j + 1)
/-- v at the address itself, the rest behind it -/
def RowAt (W : World) (a : Addr) (v : Value) (vs : List Value) : Prop := W.cell? a = some v ∧ CellsAt W a vs 1
theorem cellsAt_of {a : Addr} {vs : List Value} : ∀ {j : Nat}, 0 < j → (∀ i u, vs[i]? = some u → W.cell? (a.add (j + i)) = some u) → CellsAt W a vs j := by
  induction vs with
  | nil => intros; exact trivial
  | cons v vs ih =>
    intro j hj h
    refine ⟨?_, ih (by omega) fun i u hu => ?_⟩
    · rw [← add_ne a (by omega)]; exact h 0 v rfl
    · have := h (i + 1) u (by simpa using hu)
      rwa [show j + 1 + i = j + (i + 1) by omega]
theorem rowAt_of {a : Addr} {v : Value} {vs : List Value} (h : ∀ j u, (v :: vs)[j]? = some u → W.cell? (a.add j) = some u) : RowAt W a v vs :=
  ⟨by have := h 0 v rfl; rwa [add_zero_] at this, cellsAt_of (by omega) fun i u hu => by rw [Nat.add_comm]; exact h (i + 1) u (by simpa using hu)⟩
theorem rowAt_elem {a : Addr} {b : Nat} {v : Value} {vs : List Value} (h : ∀ j u, (v :: vs)[j]? = some u → W.cell? (a.add (b + j)) = some u) : RowAt W (a.add b) v vs :=
  rowAt_of fun j u hu => by rw [add_add]; exact h j u hu
theorem proc_at {l : List Pr} {A : Option Addr} {n cap : Nat} (h : SliceI w Q 5 (ProcI w Q) l (.slice A n cap)) (hI : In Q w W) {k : Nat} (hk : k < l.length) :
    ∃ a Ap cp Av cv Ab cb Ae ce, A = some a ∧ Q a.block ∧ RowAt W (a.add (k * 5)) (.string l[k].nm) [.slice Ap l[k].params.length cp, .slice Av l[k].vars.length cv, .slice Ab l[k].body.length cb, .slice Ae l[k].end_.length ce] ∧
      l[k].nm.size ≤ 9223372036854775807 ∧ SliceI w Q 2 ParI l[k].params (.slice Ap l[k].params.length cp) ∧ TextsI w Q l[k].vars (.slice Av l[k].vars.length cv) ∧ StmtsI w Q l[k].body (.slice Ab l[k].body.length cb) ∧ TextsI w Q l[k].end_ (.slice Ae l[k].end_.length ce) := by
  obtain ⟨a, cs, rfl, hq, ⟨vp, vv, vb, ve, rfl, h2, h3, h4, h5, h6⟩, hc⟩ := slice_at h hI hk
  obtain ⟨Ap, cp, rfl, _⟩ := h3.shape
  obtain ⟨Av, cv, rfl, _⟩ := h4.shape
  obtain ⟨Ab, cb, rfl, _⟩ := h5.shape
  obtain ⟨Ae, ce, rfl, _⟩ := h6.shape
  exact ⟨a, Ap, cp, Av, cv, Ab, cb, Ae, ce, rfl, hq, rowAt_elem hc, h2, h3, h4, h5, h6⟩
theorem prog_open {p : Pg} {c0 c1 : Value} (h : ProgI w Q p [c0, c1]) : ∃ Ag cg Ap cp, c0 = .slice Ag p.globals.length cg ∧ c1 = .slice Ap p.procs.length cp ∧ p.globals.length ≤ cg ∧ cg ≤ 9223372036854775807 ∧ p.procs.length ≤ cp ∧ cp ≤ 9223372036854775807 ∧ TextsI w Q p.globals (.slice Ag p.globals.length cg) ∧ SliceI w Q 5 (ProcI w Q) p.procs (.slice Ap p.procs.length cp) := by
  obtain ⟨vg, vp, h1, h2, h3⟩ := h
  obtain ⟨Ag, cg, rfl, h4, h5⟩ := h2.shape
  obtain ⟨Ap, cp, rfl, h6, h7⟩ := h3.shape
  simp only [List.cons.injEq, and_true] at h1
  exact ⟨Ag, cg, Ap, cp, h1.1, h1.2, h4, h5, h6, h7, h2, h3⟩
end
def cntL : List Pr → Nat
  | [] => 0
  | q :: qs => (preSL q.body).length + cntL qs
def cntP (p : Pg) : Nat := cntL p.procs
theorem cntL_drop {l : List Pr} {k : Nat} (h : k < l.length) : cntL (l.drop k) = (preSL l[k].body).length + cntL (l.drop (k + 1)) := by rw [List.drop_eq_getElem_cons h, cntL]
set_option maxHeartbeats 1000000 in
theorem Count_any {w : World} {Q : Nat → Prop} {p : Pg} {c0 c1 : Value} (h : ProgI w Q p [c0, c1]) (W : World) (hI : In Q w W) (hn : cntP p ≤ 1000000000) :
    Calls Try.prog 19 #[.agg #[c0, c1]] W fun e w' => e = .returned (.int .i64 (cntP p)) ∧ Below W.heap.size W w' := by
  obtain ⟨Ag, cg, Ap, cp, rfl, rfl, hg1, hg2, hp1, hp2, _, hpr⟩ := prog_open h
  have HI := Lib.hid hI
  have HP := Lib.hid hpr
  clear h hI hpr
  unfold cntP at hn ⊢
  go_enter Try.func19, Try.ntmps19
  go_wp2_with fail
  have HB1 : Hid (Below W.heap.size W (W.alloc (.cells #[.slice Ag p.globals.length cg, .slice Ap p.procs.length cp] 25))) := Lib.hid (below_box _)
  generalize W.alloc _ = W1 at HB1 ⊢
  go_loopw [3, 11] (fun m i wr => ∃ (k q : Nat), k ≤ p.procs.length ∧ i = .int .i64 k ∧ m = .int .i64 q ∧ q + cntL (p.procs.drop k) = cntL p.procs ∧ Hid (Below W1.heap.size W1 wr)) (fun _ i _ => p.procs.length - (intOf i).toNat)
  case atStart => exact ⟨0, 0, Nat.zero_le _, rfl, rfl, by rw [List.drop_zero]; omega, Lib.hid (Below.refl _ _)⟩
  case round =>
    obtain ⟨k, q, hk, rfl, rfl, hq, HR⟩ := hrel
    generalize wr = wo at *
    by_cases hlt : k < p.procs.length
    · have hIr : In Q w wo := HI.out.on (HB1.out.trans (HR.out.mono HB1.out.size))
      obtain ⟨a, Bp, bp, Bv, bv, Bb, bb, Be, be, rfl, _, ⟨p0, p1, p2, p3, p4, _⟩, _, _, _, hbody, _⟩ := proc_at HP.out hIr hlt
      have HBd := Lib.hid hbody
      have HIr := Lib.hid hIr
      rw [cntL_drop hlt] at hq
      clear hbody hIr
      go_wp2_with fail
      refine (stmts_any (W := _) HBd.out).mono ?_
      rintro e w2 ⟨v, rfl, hw2, hb2, hj2⟩
      have hz2 : wo.heap.size + 1 < w2.heap.size := by have := hw2; obtain ⟨_, _, _, hc, _⟩ := this; have := hc.blk.lt; simp at this; omega
      have hb2' : Below wo.heap.size wo w2 := below_new hb2
      have HI2 := Lib.hid (HIr.out.on hb2')
      have HB2 := Lib.hid hb2'
      have HW2 := Lib.hid hw2
      have HJ2 := Lib.hid hj2
      clear hw2 hb2 hb2' hj2
      simp only [World.size_alloc] at HW2 HJ2 ⊢
      generalize hc : wo.heap.size + 1 = c at *
      have hLn : (preSL p.procs[k].body).length ≤ 1000000000 := by omega
      have HN2 : Hid (∀ (v : Value) (R : List S) (W' : World), WalkS w W' Q c c v R → In Q w W' → R.length ≤ 1000000000 → Calls Try.prog 62 #[.pointer (some ⟨c, 0, none⟩)] W' fun e w' => ∃ o, e = .returned (.pointer o) ∧ AtS w w' Q c c o R ∧ Below c W' w') :=
        Lib.hid (fun v R W' h1 h2 h3 => nextS_at h1 h2 (by have := h1.lt.1; omega) (Nat.le_refl _) (by omega))
      obtain ⟨L, hL⟩ : ∃ L, L = preSL p.procs[k].body := ⟨_, rfl⟩
      rw [← hL] at HW2 hq hLn
      clear hL
      go_wp2_with fail
      refine (HN2.out v L w2 HW2.out HI2.out hLn).mono ?_
      rintro e w3 ⟨o, rfl, hat, hb3⟩
      have HA3 := Lib.hid hat
      have HI3 := Lib.hid (HI2.out.below (fun b hb => Nat.lt_trans (HIr.out.1 b hb) (by omega)) hb3)
      have HB3 : Hid (Below wo.heap.size wo w3) := Lib.hid (HB2.out.trans (hb3.mono (by omega)))
      clear hat hb3
      go_wp2_with fail
      go_loopw [3, 7] (fun m i w4 => ∃ (q2 : Nat) (o : Option Addr) (L2 : List S), m = .int .i64 q2 ∧ i = .pointer o ∧ q2 + L2.length = q + L.length ∧ Hid (AtS w w4 Q c c o L2) ∧ Hid (In Q w w4) ∧ Hid (Below wo.heap.size wo w4)) (fun m _ _ => q + L.length - (intOf m).toNat)
      case atStart => exact ⟨q, o, L, rfl, rfl, rfl, HA3, HI3, HB3⟩
      case round =>
        obtain ⟨q2, o, L2, rfl, rfl, hq2, HA4, HI4, HB4⟩ := hrel
        rcases HA4.out with ⟨rfl, rfl⟩ | ⟨a4, x, R, v4, rfl, rfl, hn4, hw4⟩
        · simp only [List.length_nil] at hq2
          go_wp2_with fail
          go_roundw
          case rel => exact ⟨k + 1, q2, by omega, by go_num, rfl, by omega, Lib.hid (HR.out.trans (HB4.out.mono HR.out.size))⟩
          case measure => simp [intOf]; omega
        · simp only [List.length_cons] at hq2
          have HW4 := Lib.hid hw4
          clear hn4 hw4
          go_wp2_with (go_at_call 62; refine (HN2.out v4 R wr HW4.out HI4.out (by omega)).mono ?_; rintro e w5 ⟨o5, rfl, hat5, hb5⟩)
          go_roundw
          case rel => exact ⟨q2 + 1, o5, R, by go_num, rfl, by omega, Lib.hid hat5, Lib.hid (HI4.out.below (fun b hb => Nat.lt_trans (HIr.out.1 b hb) (by omega)) hb5), Lib.hid (HB4.out.trans (hb5.mono (by omega)))⟩
          case measure => simp [intOf]; omega
    · have hq2 : cntL (p.procs.drop k) = 0 := by rw [List.drop_of_length_le (by omega), cntL]
      have HN : Hid (q = cntL p.procs) := Lib.hid (by omega)
      clear hq hq2
      go_wp2_with fail
      go_ret
      exact ⟨ret_int (by rw [HN.out]), HB1.out.trans (HR.out.mono HB1.out.size)⟩
end Go.Proofs.Ytnnblklbjbkikaa
namespace Go.Proofs.Ytnnblklbjbkikaa
open Go.ChangeShapes Go.WideShapes Go.ChangeAt Go.RowKit Go.Deep
set_option linter.unusedVariables false
/-- n pieces one behind the other -/
def flatN (css : Nat → List Value) : Nat → List Value
  | 0 => []
  | n + 1 => flatN css n ++ css n
section
variable {css : Nat → List Value} {C : Nat}
theorem flatN_len {n : Nat} (h : ∀ i, i < n → (css i).length = C) : (flatN css n).length = n * C := by
  induction n with
  | zero => simp [flatN]
  | succ n ih => rw [flatN, List.length_append, ih (fun i hi => h i (by omega)), h n (by omega), Nat.succ_mul]
theorem flatN_get {n : Nat} (h : ∀ i, i < n → (css i).length = C) {i j : Nat} (hi : i < n) (hj : j < C) : (flatN css n)[i * C + j]? = (css i)[j]? := by
  induction n with
  | zero => omega
  | succ n ih =>
    have hl : (flatN css n).length = n * C := flatN_len (fun i hi => h i (by omega))
    rw [flatN]
    by_cases hin : i < n
    · have : i * C + j < n * C := by
        have := Nat.mul_le_mul_right C (show i + 1 ≤ n by omega)
        rw [Nat.succ_mul] at this
        omega
      rw [List.getElem?_append_left (by rw [hl]; exact this)]
      exact ih (fun i hi => h i (by omega)) hin
    · have e : i = n := by omega
      subst e
      rw [List.getElem?_append_right (by rw [hl]; omega), hl]
      congr 1
      omega
theorem flatN_of {n : Nat} (h : ∀ i, i < n → (css i).length = C) {k : Nat} {u : Value} (hk : (flatN css n)[k]? = some u) : ∃ i j, i < n ∧ k = i * C + j ∧ (css i)[j]? = some u := by
  induction n with
  | zero => simp [flatN] at hk
  | succ n ih =>
    have hl : (flatN css n).length = n * C := flatN_len (fun i hi => h i (by omega))
    rw [flatN] at hk
    by_cases hkn : k < n * C
    · rw [List.getElem?_append_left (by rw [hl]; exact hkn)] at hk
      obtain ⟨i, j, h1, h2, h3⟩ := ih (fun i hi => h i (by omega)) hk
      exact ⟨i, j, by omega, h2, h3⟩
    · rw [List.getElem?_append_right (by rw [hl]; omega), hl] at hk
      exact ⟨n, k - n * C, by omega, by omega, hk⟩
end
def CellsOk (C : Nat) (cs : List Value) : Prop := cs.length = C ∧ ∀ u ∈ cs, u.oneCell' = true
theorem flatN_one {css : Nat → List Value} {C n : Nat} (h : ∀ i, i < n → CellsOk C (css i)) : ∀ u ∈ flatN css n, u.oneCell' = true := by
  intro u hu
  obtain ⟨k, hk⟩ := List.getElem?_of_mem hu
  obtain ⟨i, j, hi, _, h3⟩ := flatN_of (fun i hi => (h i hi).1) hk
  exact (h i hi).2 u (List.mem_of_getElem? h3)
/-- 'copy' of a whole row -/
theorem run_copy_all {P : Program} (w : World) (dT sT ty elem : TypeId) (g n cap C : Nat) (a : Addr) (M : Array Value) (t : TypeId) (cs : List Value)
    (hu : P.underlying dT = some (.slice elem)) (hs : (P.info? elem).map (·.size) = some C)
    (hg : w.heap[g]? = some (.cells M t (0, 0))) (hn : cs.length = n * C) (hM : M.size = n * C)
    (hsrc : ∀ j v, cs[j]? = some v → w.cell? (a.add j) = some v) (h1 : ∀ v ∈ cs, v.oneCell' = true) :
    (Builtin.copy_ #[dT, sT] ty #[.slice (some ⟨g, 0, none⟩) n n, .slice (some a) n cap]).run P w = .ok (goInt n) (w.setRow g cs.toArray) := by
  have hl := run_loadCells_list (P := P) w a cs hsrc
  have hst := run_storeCells_at P g 0 t cs 0 M w hg (by omega) h1
  have e : (M.toList.take (0 + 0) ++ cs ++ M.toList.drop (0 + 0 + cs.length)) = cs := by
    rw [List.take_zero, List.nil_append, List.drop_of_length_le (by rw [Array.length_toList]; omega), List.append_nil]
  rw [e] at hst
  cases hq : P.info? elem with
  | none => simp [hq] at hs
  | some i =>
    have hi : i.size = C := by simpa [hq] using hs
    simp [Builtin.copy_, run_underlying hu, Builtin.lenOf, Builtin.firstCells, sizeOf, typeInfo, hq, hi, ← hn, hl, hst]
theorem alloc_setRow (w : World) (M Y : Array Value) (t : TypeId) : (w.alloc (.cells M t)).setRow w.heap.size Y = w.alloc (.cells Y t) := by
  unfold World.setRow World.alloc
  congr 1
  apply Array.ext
  · simp
  · intro k h1 h2
    simp only [Array.getElem_modify]
    by_cases hk : k = w.heap.size
    · subst hk; simp
    · have hlt : k < w.heap.size := by simp at h2; omega
      rw [if_neg (fun e => hk e.symm), Array.getElem_push_lt hlt, Array.getElem_push_lt hlt]
/-- what fresh leaves: nil of nil, else a new row with the same cells -/
def FreshP {α : Type} (t : TypeId) (R : α → List Value → Prop) (l : List α) (W : World) (e : Ending) (w' : World) : Prop :=
  (l = [] ∧ e = .returned (.slice none 0 0) ∧ w' = W) ∨ ∃ css : Nat → List Value, e = .returned (.slice (some ⟨W.heap.size, 0, none⟩) l.length l.length) ∧ w' = W.alloc (.cells (flatN css l.length).toArray t) ∧ ∀ i (h : i < l.length), R l[i] (css i)
theorem slice_cells {α : Type} {w W : World} {Q : Nat → Prop} {C : Nat} {R : α → List Value → Prop} {l : List α} {A : Option Addr} {n cap : Nat} (h : SliceI w Q C R l (.slice A n cap)) (hI : In Q w W) (hR : ∀ x cs, R x cs → CellsOk C cs) :
    n = l.length ∧ (A = none → l = []) ∧ ∃ css : Nat → List Value, (∀ i (h : i < l.length), R l[i] (css i)) ∧ ∀ a, A = some a → ∀ j v, (flatN css l.length)[j]? = some v → W.cell? (a.add j) = some v := by
  obtain ⟨A', cap', css, h1, h2, h3, h4⟩ := h
  simp only [Value.slice.injEq] at h1
  obtain ⟨rfl, rfl, rfl⟩ := h1
  refine ⟨rfl, fun hn => ?_, css, h4, ?_⟩
  · cases l with
    | nil => rfl
    | cons x l => obtain ⟨a, ha, _⟩ := h3 (by simp); rw [hn] at ha; cases ha
  · intro a ha j v hj
    obtain ⟨i, k, hi, rfl, hu⟩ := flatN_of (fun i hi => (hR _ _ (h4 i hi)).1) hj
    obtain ⟨a', ha', hq, hc⟩ := h3 (by omega)
    rw [ha] at ha'
    injection ha' with ha'
    subst ha'
    rw [hI.cell (by rw [block_add]; exact hq)]
    exact hc i hi k v hu
theorem info_frT : ∃ i z, Try.prog.info? 9 = some i ∧ i.zero = some z ∧ i.size = 1 ∧ i.bytes ≤ 1000 := by
  have h : (Try.prog.info? 9).map (fun i => (i.zero.isSome, i.size, decide (i.bytes ≤ 1000))) = some (true, 1, true) := by kernel_rfl
  obtain ⟨i, hi, h2⟩ := Option.map_eq_some_iff.1 h
  simp only [Prod.mk.injEq, decide_eq_true_eq] at h2
  obtain ⟨z, hz⟩ := Option.isSome_iff_exists.1 h2.1
  exact ⟨i, z, hi, hz, h2.2.1, h2.2.2⟩
set_option maxHeartbeats 1000000 in
set_option maxRecDepth 100000 in
theorem freshT_any {α : Type} {w W : World} {Q : Nat → Prop} {R : α → List Value → Prop} {l : List α} {v : Value} (h : SliceI w Q 1 R l v) (hI : In Q w W) (hR : ∀ x cs, R x cs → CellsOk 1 cs) (hl : l.length ≤ 1000000) :
    Calls Try.prog 140 #[v] W (FreshP 9 R l W) := by
  obtain ⟨A, cap, rfl, hl1, hl2⟩ := h.shape
  obtain ⟨_, hnil, css, hr, hc⟩ := slice_cells h hI hR
  clear h hI
  cases A with
  | none =>
    have HN := hnil rfl
    subst HN
    clear hnil hc hr hl1 hl2
    have he : ∀ w : World, (binOp .eql 22 (.slice none 0 cap) (.slice none 0 0)).run Try.prog w = .ok (.bool true) w := fun _ => by kernel_rfl
    go_enter Try.func140, Try.ntmps140
    go_wp2
    go_ret
    exact .inl ⟨rfl, rfl, rfl⟩
  | some a =>
    have hc := hc a rfl
    have HRr := Lib.hid hr
    have hfl : (flatN css l.length).length = l.length * 1 := flatN_len (fun i hi => (hR _ _ (hr i hi)).1)
    have hone := flatN_one (fun i hi => hR _ _ (hr i hi))
    obtain ⟨i0, z0, hi, hz0, hz1, hz2⟩ := info_frT
    have hinfo : (Try.prog.info? 9).map (·.size) = some 1 := by rw [hi]; simp [hz1]
    obtain ⟨M, hM⟩ : ∃ M, M = madeCells z0.cells (((l.length : Nat) : Int).toNat * i0.size) := ⟨_, rfl⟩
    have hMs : M.size = l.length * 1 := by rw [hM, size_madeCells, hz1]; simp
    have hbb : i0.bytes * l.length ≤ 1000 * 1000000 := Nat.mul_le_mul hz2 hl
    have hbi : (i0.bytes : Int) * (l.length : Int) ≤ 281474976710656 := by have h := Int.ofNat_le.2 hbb; rw [Int.natCast_mul] at h; omega
    have hmk : ∀ W : World, (Instr.makeSlice 22 (.int .i64 (l.length : Int)) (.int .i64 (l.length : Int))).run Try.prog W = .ok (.slice (some ⟨W.heap.size, 0, none⟩) l.length l.length) (W.alloc (.cells M 9)) := fun W => by
      have h := run_make (P := Try.prog) W 22 9 i0 z0 Try.underlying22 hi hz0 .i64 .i64 (l.length : Int) (l.length : Int) (by omega) (by omega) hbi (by omega)
      rw [← hM] at h
      simpa using h
    have hba : ∀ j, j < (flatN css l.length).length → a.block < W.heap.size := fun j hj => by have := block_lt_of_cell (hc j _ (List.getElem?_eq_getElem hj)); rwa [block_add] at this
    have hcp := run_copy_all (P := Try.prog) (W.alloc (.cells M 9)) 22 22 3 9 W.heap.size l.length cap 1 a M 9 (flatN css l.length) Try.underlying22 hinfo (heap_alloc_new W _) hfl hMs
      (fun j v hj => by rw [((Below.refl _ W).alloc (Nat.le_refl _) _).cell (by rw [block_add]; exact hba j (List.getElem?_eq_some_iff.1 hj).1)]; exact hc j v hj) hone
    rw [alloc_setRow] at hcp
    obtain ⟨Y, hY⟩ : ∃ Y, Y = (flatN css l.length).toArray := ⟨_, rfl⟩
    rw [← hY] at hcp
    have HY := Lib.hid hY
    have he : ∀ w : World, (binOp .eql 22 (.slice (some a) l.length cap) (.slice none 0 0)).run Try.prog w = .ok (.bool false) w := fun _ => by kernel_rfl
    clear hY hone hfl hc hM hnil hr hR hba hbb hbi
    go_enter Try.func140, Try.ntmps140
    go_wp2
    go_ret
    exact .inr ⟨css, rfl, by rw [HY.out], HRr.out⟩
theorem info_frE : ∃ i z, Try.prog.info? 41 = some i ∧ i.zero = some z ∧ i.size = 4 ∧ i.bytes ≤ 1000 := by
  have h : (Try.prog.info? 41).map (fun i => (i.zero.isSome, i.size, decide (i.bytes ≤ 1000))) = some (true, 4, true) := by kernel_rfl
  obtain ⟨i, hi, h2⟩ := Option.map_eq_some_iff.1 h
  simp only [Prod.mk.injEq, decide_eq_true_eq] at h2
  obtain ⟨z, hz⟩ := Option.isSome_iff_exists.1 h2.1
  exact ⟨i, z, hi, hz, h2.2.1, h2.2.2⟩
set_option maxHeartbeats 1000000 in
set_option maxRecDepth 100000 in
theorem freshE_any {α : Type} {w W : World} {Q : Nat → Prop} {R : α → List Value → Prop} {l : List α} {v : Value} (h : SliceI w Q 4 R l v) (hI : In Q w W) (hR : ∀ x cs, R x cs → CellsOk 4 cs) (hl : l.length ≤ 1000000) :
    Calls Try.prog 151 #[v] W (FreshP 41 R l W) := by
  obtain ⟨A, cap, rfl, hl1, hl2⟩ := h.shape
  obtain ⟨_, hnil, css, hr, hc⟩ := slice_cells h hI hR
  clear h hI
  cases A with
  | none =>
    have HN := hnil rfl
    subst HN
    clear hnil hc hr hl1 hl2
    have he : ∀ w : World, (binOp .eql 39 (.slice none 0 cap) (.slice none 0 0)).run Try.prog w = .ok (.bool true) w := fun _ => by kernel_rfl
    go_enter Try.func151, Try.ntmps151
    go_wp2
    go_ret
    exact .inl ⟨rfl, rfl, rfl⟩
  | some a =>
    have hc := hc a rfl
    have HRr := Lib.hid hr
    have hfl : (flatN css l.length).length = l.length * 4 := flatN_len (fun i hi => (hR _ _ (hr i hi)).1)
    have hone := flatN_one (fun i hi => hR _ _ (hr i hi))
    obtain ⟨i0, z0, hi, hz0, hz1, hz2⟩ := info_frE
    have hinfo : (Try.prog.info? 41).map (·.size) = some 4 := by rw [hi]; simp [hz1]
    obtain ⟨M, hM⟩ : ∃ M, M = madeCells z0.cells (((l.length : Nat) : Int).toNat * i0.size) := ⟨_, rfl⟩
    have hMs : M.size = l.length * 4 := by rw [hM, size_madeCells, hz1]; simp
    have hbb : i0.bytes * l.length ≤ 1000 * 1000000 := Nat.mul_le_mul hz2 hl
    have hbi : (i0.bytes : Int) * (l.length : Int) ≤ 281474976710656 := by have h := Int.ofNat_le.2 hbb; rw [Int.natCast_mul] at h; omega
    have hmk : ∀ W : World, (Instr.makeSlice 39 (.int .i64 (l.length : Int)) (.int .i64 (l.length : Int))).run Try.prog W = .ok (.slice (some ⟨W.heap.size, 0, none⟩) l.length l.length) (W.alloc (.cells M 41)) := fun W => by
      have h := run_make (P := Try.prog) W 39 41 i0 z0 Try.underlying39 hi hz0 .i64 .i64 (l.length : Int) (l.length : Int) (by omega) (by omega) hbi (by omega)
      rw [← hM] at h
      simpa using h
    have hba : ∀ j, j < (flatN css l.length).length → a.block < W.heap.size := fun j hj => by have := block_lt_of_cell (hc j _ (List.getElem?_eq_getElem hj)); rwa [block_add] at this
    have hcp := run_copy_all (P := Try.prog) (W.alloc (.cells M 41)) 39 39 3 41 W.heap.size l.length cap 4 a M 41 (flatN css l.length) Try.underlying39 hinfo (heap_alloc_new W _) hfl hMs
      (fun j v hj => by rw [((Below.refl _ W).alloc (Nat.le_refl _) _).cell (by rw [block_add]; exact hba j (List.getElem?_eq_some_iff.1 hj).1)]; exact hc j v hj) hone
    rw [alloc_setRow] at hcp
    obtain ⟨Y, hY⟩ : ∃ Y, Y = (flatN css l.length).toArray := ⟨_, rfl⟩
    rw [← hY] at hcp
    have HY := Lib.hid hY
    have he : ∀ w : World, (binOp .eql 39 (.slice (some a) l.length cap) (.slice none 0 0)).run Try.prog w = .ok (.bool false) w := fun _ => by kernel_rfl
    clear hY hone hfl hc hM hnil hr hR hba hbb hbi
    go_enter Try.func151, Try.ntmps151
    go_wp2
    go_ret
    exact .inr ⟨css, rfl, by rw [HY.out], HRr.out⟩
theorem info_frA : ∃ i z, Try.prog.info? 72 = some i ∧ i.zero = some z ∧ i.size = 6 ∧ i.bytes ≤ 1000 := by
  have h : (Try.prog.info? 72).map (fun i => (i.zero.isSome, i.size, decide (i.bytes ≤ 1000))) = some (true, 6, true) := by kernel_rfl
  obtain ⟨i, hi, h2⟩ := Option.map_eq_some_iff.1 h
  simp only [Prod.mk.injEq, decide_eq_true_eq] at h2
  obtain ⟨z, hz⟩ := Option.isSome_iff_exists.1 h2.1
  exact ⟨i, z, hi, hz, h2.2.1, h2.2.2⟩
set_option maxHeartbeats 1000000 in
set_option maxRecDepth 100000 in
theorem freshA_any {α : Type} {w W : World} {Q : Nat → Prop} {R : α → List Value → Prop} {l : List α} {v : Value} (h : SliceI w Q 6 R l v) (hI : In Q w W) (hR : ∀ x cs, R x cs → CellsOk 6 cs) (hl : l.length ≤ 1000000) :
    Calls Try.prog 152 #[v] W (FreshP 72 R l W) := by
  obtain ⟨A, cap, rfl, hl1, hl2⟩ := h.shape
  obtain ⟨_, hnil, css, hr, hc⟩ := slice_cells h hI hR
  clear h hI
  cases A with
  | none =>
    have HN := hnil rfl
    subst HN
    clear hnil hc hr hl1 hl2
    have he : ∀ w : World, (binOp .eql 52 (.slice none 0 cap) (.slice none 0 0)).run Try.prog w = .ok (.bool true) w := fun _ => by kernel_rfl
    go_enter Try.func152, Try.ntmps152
    go_wp2
    go_ret
    exact .inl ⟨rfl, rfl, rfl⟩
  | some a =>
    have hc := hc a rfl
    have HRr := Lib.hid hr
    have hfl : (flatN css l.length).length = l.length * 6 := flatN_len (fun i hi => (hR _ _ (hr i hi)).1)
    have hone := flatN_one (fun i hi => hR _ _ (hr i hi))
    obtain ⟨i0, z0, hi, hz0, hz1, hz2⟩ := info_frA
    have hinfo : (Try.prog.info? 72).map (·.size) = some 6 := by rw [hi]; simp [hz1]
    obtain ⟨M, hM⟩ : ∃ M, M = madeCells z0.cells (((l.length : Nat) : Int).toNat * i0.size) := ⟨_, rfl⟩
    have hMs : M.size = l.length * 6 := by rw [hM, size_madeCells, hz1]; simp
    have hbb : i0.bytes * l.length ≤ 1000 * 1000000 := Nat.mul_le_mul hz2 hl
    have hbi : (i0.bytes : Int) * (l.length : Int) ≤ 281474976710656 := by have h := Int.ofNat_le.2 hbb; rw [Int.natCast_mul] at h; omega
    have hmk : ∀ W : World, (Instr.makeSlice 52 (.int .i64 (l.length : Int)) (.int .i64 (l.length : Int))).run Try.prog W = .ok (.slice (some ⟨W.heap.size, 0, none⟩) l.length l.length) (W.alloc (.cells M 72)) := fun W => by
      have h := run_make (P := Try.prog) W 52 72 i0 z0 Try.underlying52 hi hz0 .i64 .i64 (l.length : Int) (l.length : Int) (by omega) (by omega) hbi (by omega)
      rw [← hM] at h
      simpa using h
    have hba : ∀ j, j < (flatN css l.length).length → a.block < W.heap.size := fun j hj => by have := block_lt_of_cell (hc j _ (List.getElem?_eq_getElem hj)); rwa [block_add] at this
    have hcp := run_copy_all (P := Try.prog) (W.alloc (.cells M 72)) 52 52 3 72 W.heap.size l.length cap 6 a M 72 (flatN css l.length) Try.underlying52 hinfo (heap_alloc_new W _) hfl hMs
      (fun j v hj => by rw [((Below.refl _ W).alloc (Nat.le_refl _) _).cell (by rw [block_add]; exact hba j (List.getElem?_eq_some_iff.1 hj).1)]; exact hc j v hj) hone
    rw [alloc_setRow] at hcp
    obtain ⟨Y, hY⟩ : ∃ Y, Y = (flatN css l.length).toArray := ⟨_, rfl⟩
    rw [← hY] at hcp
    have HY := Lib.hid hY
    have he : ∀ w : World, (binOp .eql 52 (.slice (some a) l.length cap) (.slice none 0 0)).run Try.prog w = .ok (.bool false) w := fun _ => by kernel_rfl
    clear hY hone hfl hc hM hnil hr hR hba hbb hbi
    go_enter Try.func152, Try.ntmps152
    go_wp2
    go_ret
    exact .inr ⟨css, rfl, by rw [HY.out], HRr.out⟩
theorem info_frS : ∃ i z, Try.prog.info? 55 = some i ∧ i.zero = some z ∧ i.size = 13 ∧ i.bytes ≤ 1000 := by
  have h : (Try.prog.info? 55).map (fun i => (i.zero.isSome, i.size, decide (i.bytes ≤ 1000))) = some (true, 13, true) := by kernel_rfl
  obtain ⟨i, hi, h2⟩ := Option.map_eq_some_iff.1 h
  simp only [Prod.mk.injEq, decide_eq_true_eq] at h2
  obtain ⟨z, hz⟩ := Option.isSome_iff_exists.1 h2.1
  exact ⟨i, z, hi, hz, h2.2.1, h2.2.2⟩
set_option maxHeartbeats 1000000 in
set_option maxRecDepth 100000 in
theorem freshS_any {α : Type} {w W : World} {Q : Nat → Prop} {R : α → List Value → Prop} {l : List α} {v : Value} (h : SliceI w Q 13 R l v) (hI : In Q w W) (hR : ∀ x cs, R x cs → CellsOk 13 cs) (hl : l.length ≤ 1000000) :
    Calls Try.prog 141 #[v] W (FreshP 55 R l W) := by
  obtain ⟨A, cap, rfl, hl1, hl2⟩ := h.shape
  obtain ⟨_, hnil, css, hr, hc⟩ := slice_cells h hI hR
  clear h hI
  cases A with
  | none =>
    have HN := hnil rfl
    subst HN
    clear hnil hc hr hl1 hl2
    have he : ∀ w : World, (binOp .eql 53 (.slice none 0 cap) (.slice none 0 0)).run Try.prog w = .ok (.bool true) w := fun _ => by kernel_rfl
    go_enter Try.func141, Try.ntmps141
    go_wp2
    go_ret
    exact .inl ⟨rfl, rfl, rfl⟩
  | some a =>
    have hc := hc a rfl
    have HRr := Lib.hid hr
    have hfl : (flatN css l.length).length = l.length * 13 := flatN_len (fun i hi => (hR _ _ (hr i hi)).1)
    have hone := flatN_one (fun i hi => hR _ _ (hr i hi))
    obtain ⟨i0, z0, hi, hz0, hz1, hz2⟩ := info_frS
    have hinfo : (Try.prog.info? 55).map (·.size) = some 13 := by rw [hi]; simp [hz1]
    obtain ⟨M, hM⟩ : ∃ M, M = madeCells z0.cells (((l.length : Nat) : Int).toNat * i0.size) := ⟨_, rfl⟩
    have hMs : M.size = l.length * 13 := by rw [hM, size_madeCells, hz1]; simp
    have hbb : i0.bytes * l.length ≤ 1000 * 1000000 := Nat.mul_le_mul hz2 hl
    have hbi : (i0.bytes : Int) * (l.length : Int) ≤ 281474976710656 := by have h := Int.ofNat_le.2 hbb; rw [Int.natCast_mul] at h; omega
    have hmk : ∀ W : World, (Instr.makeSlice 53 (.int .i64 (l.length : Int)) (.int .i64 (l.length : Int))).run Try.prog W = .ok (.slice (some ⟨W.heap.size, 0, none⟩) l.length l.length) (W.alloc (.cells M 55)) := fun W => by
      have h := run_make (P := Try.prog) W 53 55 i0 z0 Try.underlying53 hi hz0 .i64 .i64 (l.length : Int) (l.length : Int) (by omega) (by omega) hbi (by omega)
      rw [← hM] at h
      simpa using h
    have hba : ∀ j, j < (flatN css l.length).length → a.block < W.heap.size := fun j hj => by have := block_lt_of_cell (hc j _ (List.getElem?_eq_getElem hj)); rwa [block_add] at this
    have hcp := run_copy_all (P := Try.prog) (W.alloc (.cells M 55)) 53 53 3 55 W.heap.size l.length cap 13 a M 55 (flatN css l.length) Try.underlying53 hinfo (heap_alloc_new W _) hfl hMs
      (fun j v hj => by rw [((Below.refl _ W).alloc (Nat.le_refl _) _).cell (by rw [block_add]; exact hba j (List.getElem?_eq_some_iff.1 hj).1)]; exact hc j v hj) hone
    rw [alloc_setRow] at hcp
    obtain ⟨Y, hY⟩ : ∃ Y, Y = (flatN css l.length).toArray := ⟨_, rfl⟩
    rw [← hY] at hcp
    have HY := Lib.hid hY
    have he : ∀ w : World, (binOp .eql 53 (.slice (some a) l.length cap) (.slice none 0 0)).run Try.prog w = .ok (.bool false) w := fun _ => by kernel_rfl
    clear hY hone hfl hc hM hnil hr hR hba hbb hbi
    go_enter Try.func141, Try.ntmps141
    go_wp2
    go_ret
    exact .inr ⟨css, rfl, by rw [HY.out], HRr.out⟩
end Go.Proofs.Ytnnblklbjbkikaa
