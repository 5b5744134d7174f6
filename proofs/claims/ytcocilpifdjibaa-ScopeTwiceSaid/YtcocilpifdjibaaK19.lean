/- Texts, merged by a program; only what is used. -/
import Derived.Test.YtcocilpifdjibaaK1
import Derived.Test.YtcocilpifdjibaaK2
import Derived.Test.YtcocilpifdjibaaK3
import Derived.Test.YtcocilpifdjibaaK4
import Derived.Test.YtcocilpifdjibaaK5
import Derived.Test.YtcocilpifdjibaaK6
import Derived.Test.YtcocilpifdjibaaK7
import Derived.Test.YtcocilpifdjibaaK8
import Derived.Test.YtcocilpifdjibaaK9
import Derived.Test.YtcocilpifdjibaaK10
import Derived.Test.YtcocilpifdjibaaK11
import Derived.Test.YtcocilpifdjibaaK12
import Derived.Test.YtcocilpifdjibaaK13
import Derived.Test.YtcocilpifdjibaaK14
import Derived.Test.YtcocilpifdjibaaK15
import Derived.Test.YtcocilpifdjibaaK16
import Derived.Test.YtcocilpifdjibaaK17
import Derived.Test.YtcocilpifdjibaaK18
namespace Go.Proofs.Ytcocilpifdjibaa
open Go.ChangeShapes Go.WideShapes Go.ChangeAt Go.RowKit Go.Deep
set_option linter.unusedVariables false
theorem weighPa_len : ∀ (l : List Pa) (n : Nat), weighPa l n ≤ 20000 → n + l.length ≤ weighPa l n
  | [], n, h => by rw [weighPa]; simp
  | a :: l, n, h => by
    rw [weighPa] at h ⊢
    split at h
    · rename_i hn
      rw [if_pos hn]
      have h1 := weighPa_len l _ h
      have h2 := weighT_eq (s := a.nm.size) (n := n) (by omega)
      rw [List.length_cons]
      omega
    · omega
theorem weighQs_full : ∀ (l : List Pr) (n : Nat), weighQs l n ≤ 20000 → n + l.length ≤ weighQs l n ∧ ∀ q ∈ l, wSL q.body ≤ 20000 ∧ wT q.vars ≤ 20000 ∧ wT q.end_ ≤ 20000 ∧ q.params.length ≤ 20000
  | [], n, h => by rw [weighQs]; exact ⟨by simp, fun q hq => by simp at hq⟩
  | q :: l, n, h => by
    rw [weighQs] at h ⊢
    split at h
    · rename_i hn
      rw [if_pos hn]
      obtain ⟨h1, h2⟩ := weighQs_full l _ h
      have hq : weighQ q n ≤ 20000 := by omega
      unfold weighQ at hq h1
      have h3 := weighSL_eq q.body _ hq
      have h4 := weighPa_len q.params (weighTs q.end_ (weighTs q.vars (weighT q.nm.size n))) (by omega)
      have h5 := weighTs_eq q.end_ _ (show weighTs q.end_ (weighTs q.vars (weighT q.nm.size n)) ≤ 20000 by omega)
      have h6 := weighTs_eq q.vars _ (show weighTs q.vars (weighT q.nm.size n) ≤ 20000 by omega)
      have h7 := weighT_eq (s := q.nm.size) (n := n) (by omega)
      refine ⟨by unfold weighQ; rw [List.length_cons]; omega, fun y hy => ?_⟩
      rcases List.mem_cons.1 hy with rfl | hy
      · exact ⟨by omega, by omega, by omega, by omega⟩
      · exact h2 y hy
    · omega
theorem fits_smG {p : Pg} (h : fitsP p = true) : SmG p := by
  unfold fitsP weighP at h
  have h0 := of_decide_eq_true h
  obtain ⟨h1, h2⟩ := weighQs_full p.procs _ h0
  have h3 := weighTs_eq p.globals 0 (by omega)
  exact ⟨by omega, by omega, fun q hq => by obtain ⟨a, b, c, d⟩ := h2 q hq; exact ⟨by omega, by omega, by omega, by omega⟩⟩
theorem prOk_ids : ∀ (l : List Pr) (c c' : Nat), prOk l c = some c' → c ≤ c' ∧ ∀ q ∈ l, ∀ s ∈ preSL q.body, (c : Int) < s.id ∧ s.id ≤ c'
  | [], c, c', h => by
    rw [prOk] at h
    injection h with h
    subst h
    exact ⟨Nat.le_refl _, fun q hq => by simp at hq⟩
  | q :: l, c, c', h => by
    rw [prOk] at h
    split at h
    · cases h1 : blkOk q.body 1 c with
      | none => rw [h1] at h; simp at h
      | some c1 =>
        rw [h1] at h
        simp only [Option.bind_some] at h
        obtain ⟨a1, a2, a3⟩ := flatL_pre q.body 1 c c1 h1
        obtain ⟨b1, b2⟩ := prOk_ids l c1 c' h
        refine ⟨by omega, fun y hy s hs => ?_⟩
        rcases List.mem_cons.1 hy with rfl | hy
        · obtain ⟨j, hj, rfl⟩ := List.getElem_of_mem hs
          rw [a2 j hj]
          exact ⟨by omega, by omega⟩
        · have := b2 y hy s hs
          exact ⟨by omega, this.2⟩
    · cases h
theorem may_ids {p : Pg} (h : mayP p = true) : ∀ q ∈ p.procs, ∀ s ∈ preSL q.body, 1 ≤ s.id ∧ s.id ≤ 200 := by
  have hc := (may_flat h).2.1
  unfold mayP at h
  rw [Bool.and_eq_true] at h
  obtain ⟨_, h⟩ := h
  cases hp : prOk p.procs 0 with
  | none => rw [hp] at h; cases h
  | some c' =>
    have h1 := (prOk_ids p.procs 0 c' hp).2
    have h2 := (prOk_flat p.procs 0 c' hp (by omega)).2.2.1
    intro q hq s hs
    have := h1 q hq s hs
    exact ⟨by omega, by omega⟩
end Go.Proofs.Ytcocilpifdjibaa
namespace Go.Proofs.Ytcocilpifdjibaa
open Go.ChangeShapes Go.WideShapes Go.ChangeAt Go.RowKit Go.Deep
set_option linter.unusedVariables false
set_option linter.unusedSimpArgs false
mutual
theorem putS_none (t : S) : ∀ s : S, (∀ x ∈ preS s, x.id ≠ t.id) → putS t s = s
  | .mk id kind labels nm proc x has args th el, h => by
    rw [preS] at h
    have h1 := putSL_none t th (fun x hx => h x (List.mem_cons_of_mem _ (List.mem_append_left _ hx)))
    have h2 := putSL_none t el (fun x hx => h x (List.mem_cons_of_mem _ (List.mem_append_right _ hx)))
    have h3 : id ≠ t.id := h _ (List.mem_cons_self ..)
    obtain ⟨tid, tkind, tlabels, tnm, tproc, tx, thas, targs, tth, tel⟩ := t
    rw [putS, h1, h2]; exact if_neg h3
theorem putSL_none (t : S) : ∀ l : List S, (∀ x ∈ preSL l, x.id ≠ t.id) → putSL t l = l
  | [], _ => by rw [putSL]
  | s :: l, h => by
    rw [preSL] at h
    rw [putSL, putS_none t s (fun x hx => h x (List.mem_append_left _ hx)), putSL_none t l (fun x hx => h x (List.mem_append_right _ hx))]
end
theorem putP_none {t : S} {p : Pg} (h : ∀ q ∈ p.procs, ∀ s ∈ preSL q.body, s.id ≠ t.id) : putP t p = p := by
  obtain ⟨g, ps⟩ := p
  unfold putP
  congr 1
  have : ∀ l : List Pr, (∀ q ∈ l, ∀ s ∈ preSL q.body, s.id ≠ t.id) → l.map (putPr t) = l := by
    intro l
    induction l with
    | nil => intro _; rfl
    | cons q l ih =>
      intro hl
      rw [List.map_cons, ih (fun y hy => hl y (List.mem_cons_of_mem _ hy))]
      congr 1
      obtain ⟨a, b, c, d, e⟩ := q
      have := putSL_none t d (hl _ (List.mem_cons_self ..))
      unfold putPr
      simp only [this]
  exact this ps h
def Sneg : S := .mk (-1) 0 [] ⟨#[]⟩ ⟨#[]⟩ (.mk 0 0 ⟨#[]⟩ []) false [] [] []
abbrev zN : Array Value := #[.int .i64 (-1), .int .i64 0, .slice none 0 0, .string ⟨#[]⟩, .string ⟨#[]⟩, .int .i64 0, .int .i64 0, .string ⟨#[]⟩, .slice none 0 0, .bool false, .slice none 0 0, .slice none 0 0, .slice none 0 0]
theorem neg_stmt (w : World) (Q : Nat → Prop) : StmtI w Q Sneg zN.toList :=
  StmtI.of_slice ⟨by omega, by omega⟩ i64_zero (by decide) (by decide) nil_slice (ExprI.of_slice nil_slice i64_zero i64_zero (by decide)) nil_slice nil_slice nil_slice
end Go.Proofs.Ytcocilpifdjibaa
namespace Go.Proofs.Ytcocilpifdjibaa
open Go.ChangeShapes Go.WideShapes Go.ChangeAt Go.RowKit Go.Deep
set_option linter.unusedVariables false
set_option linter.unusedSimpArgs false
set_option maxHeartbeats 1000000 in
theorem Copy_own {w W : World} {Q : Nat → Prop} {p : Pg} {g0 g1 : Value} (h : ProgI w Q p [g0, g1]) (hI : In Q w W) (hsm : SmG p) (hid : ∀ q ∈ p.procs, ∀ s ∈ preSL q.body, 1 ≤ s.id ∧ s.id ≤ 200) :
    Calls Try.prog 47 #[.agg #[g0, g1]] W fun e w' => ∃ d0 d1, e = .returned (.agg #[d0, d1]) ∧ Below W.heap.size W w' ∧ ∃ base outs, W.heap.size + 1 ≤ base ∧ base ≤ w'.heap.size ∧ w'.ownsRow W.heap.size 9 1 d0 p.globals.length (strs p.globals) ∧ (∀ j, d0.ownBlock = some j → j < base) ∧ outs.map Prod.fst = p.procs ∧ Apart base w'.heap.size outs ∧ BuildI w' base 59 5 PrK outs d1 := by
  have hput : p.procs.map (putPr Sneg) = p.procs := congrArg Pg.procs (putP_none (t := Sneg) (p := p) (fun q hq s hs e => by have := (hid q hq s hs).1; rw [e] at this; simp [Sneg, S.id] at this))
  have HC : Hid (∀ V, In Q w V → Calls Try.prog 106 #[.agg #[g0, g1], .agg zN] V fun e w' => ∃ d0 d1, e = .returned (.agg #[d0, d1]) ∧ Below V.heap.size V w' ∧ ∃ base outs, V.heap.size ≤ base ∧ base ≤ w'.heap.size ∧ w'.ownsRow V.heap.size 9 1 d0 p.globals.length (strs p.globals) ∧ (∀ j, d0.ownBlock = some j → j < base) ∧ outs.map Prod.fst = p.procs ∧ Apart base w'.heap.size outs ∧ BuildI w' base 59 5 PrK outs d1) := Lib.hid (fun V hV => by
    have := Put_own (W := V) (Q2 := fun _ => False) (w2 := V) h (neg_stmt V _) hV ⟨fun _ h => h.elim, fun _ h => h.elim⟩ hsm ⟨by simp only [wE, wL]; decide, by simp, by simp [wAr]⟩
    rw [hput] at this
    exact this)
  have HI := Lib.hid hI
  obtain ⟨Ag, cg, Ap, cp, rfl, rfl, _⟩ := prog_open h
  clear h hI hsm hid hput
  go_enter Try.func47, Try.ntmps47
  go_upto_region 1 with fail
  have HBp : Hid (Blk ((W.alloc (.cells #[.slice Ag p.globals.length cg, .slice Ap p.procs.length cp] 25)).alloc (.cells #[.slice none 0 0, .slice none 0 0] 25)) W.heap.size 25 #[.slice Ag p.globals.length cg, .slice Ap p.procs.length cp]) := Lib.hid ((Blk.new _ _ _).alloc _)
  have HBr : Hid (Blk ((W.alloc (.cells #[.slice Ag p.globals.length cg, .slice Ap p.procs.length cp] 25)).alloc (.cells #[.slice none 0 0, .slice none 0 0] 25)) (W.heap.size + 1) 25 #[.slice none 0 0, .slice none 0 0]) := Lib.hid (blk22 _ _ _ _)
  have HB0 : Hid (Below W.heap.size W ((W.alloc (.cells #[.slice Ag p.globals.length cg, .slice Ap p.procs.length cp] 25)).alloc (.cells #[.slice none 0 0, .slice none 0 0] 25))) := Lib.hid (below_two _ _)
  generalize World.alloc _ _ = V at HBp HBr HB0 ⊢
  have p0 : V.cell? ⟨W.heap.size, 0, none⟩ = some (.slice Ag p.globals.length cg) := by rw [HBp.out.cell]; rfl
  have p1 : V.cell? ⟨W.heap.size, 1, none⟩ = some (.slice Ap p.procs.length cp) := by rw [HBp.out.cell]; rfl
  have hl := HBr.out.lt
  go_wp2_with (go_at_call 106; refine (HC.out _ (HI.out.on HB0.out)).mono ?_; rintro e q1 ⟨d0, d1, rfl, hb1, base, outs, hbase, hbz, hg1, hgb, hfst, hap, hr1⟩; obtain ⟨Bg, dg, rfl, _, _⟩ := own_form hg1; obtain ⟨Bp, dp, rfl, _⟩ := (hr1.choose_spec.1 |> own_form); have HR := Lib.hid (HBr.out.below hb1 hl); have r0 : q1.cell? ⟨W.heap.size + 1, 0, none⟩ = some (.slice none 0 0) := (by rw [HR.out.cell]; rfl); have r1 : q1.cell? ⟨W.heap.size + 1, 1, none⟩ = some (.slice none 0 0) := (by rw [HR.out.cell]; rfl); have f0 := HR.out.frozen 0; have f1 := HR.out.frozen 1; have hl1 := HR.out.lt)
  (try simp only [Exit.inBlock, Exit.then])
  refine bodyPost_ret (results_cell_row rfl _ _ (W.heap.size + 1) 25 _ (0, 0) _ rfl ((HR.out.set_ 0 _).set_ 1 _) Try.underlying25 rfl (by kernel_rfl)) rfl ⟨_, _, rfl, below_setc (below_setc (below_step HB0.out hb1) (by show W.heap.size ≤ W.heap.size + 1; omega) _) (by show W.heap.size ≤ W.heap.size + 1; omega) _, base, outs, by omega, by simp only [size_set]; exact hbz, ?_, hgb, hfst, by simp only [size_set]; exact hap, ?_⟩
  · have hs0 := HB0.out.size
    refine own_stay (own_stay (own_lo hg1 hs0) (fun j hj => heap_set_ne _ ⟨W.heap.size + 1, 0, none⟩ _ (hg1.lt j hj).2 ?_)) (fun j hj => heap_set_ne _ ⟨W.heap.size + 1, 1, none⟩ _ (by simp only [size_set]; exact (hg1.lt j hj).2) ?_)
    · have := (hg1.lt j hj).1; show j ≠ W.heap.size + 1; omega
    · have := (hg1.lt j hj).1; show j ≠ W.heap.size + 1; omega
  · exact BuildI.setH (R := PrK) stayK (BuildI.setH (R := PrK) stayK hr1 (p := ⟨W.heap.size + 1, 0, none⟩) (by show W.heap.size + 1 < base; omega) _) (p := ⟨W.heap.size + 1, 1, none⟩) (by show W.heap.size + 1 < base; omega) _
end Go.Proofs.Ytcocilpifdjibaa
