/- The cursor over expressions: raw contracts of push, pop, exprs and next. -/
import Derived.Test.YtdjckmpfblaliaaTreeC0
import Derived.Deep.QuietTactic
import Derived.BigQuiet
import Derived.Deep.RegionHeld3
namespace Go.Proofs.Ytdjckmpfblaliaa
open Go.ChangeShapes Go.WideShapes Go.ChangeAt Go.RowKit Go.Deep
set_option linter.unusedVariables false

theorem slE_info : (Try.prog.info? 22).map (fun i => (i.zero, i.size, i.bytes)) = some (some (.slice none 0 0), 1, 24) := by kernel_rfl
/-- the cursor at block c: the last node, the stack (its top first), the row v in which that lies -/
structure CurE (w : World) (base c : Nat) (v : Value) (last : Option Addr) (s : List SL) : Prop where
  blk : Blk w c 107 #[.func (.func 76) #[] #[], .pointer last, v]
  row : w.ownsRow base 22 1 v s.length (rowS s)
  good : ∀ x ∈ s, goodS x
theorem CurE.ne {w : World} {base c : Nat} {v : Value} {last : Option Addr} {s : List SL} (h : CurE w base c v last s) : v.ownBlock ≠ some c := own_blk_ne h.row h.blk (by decide)
def ownE (c : Nat) (v : Value) : Nat → Prop := fun k => k = c ∨ v.ownBlock = some k
theorem CurE.keep {own : Nat → Prop} {w w' : World} {base c : Nat} {v : Value} {last : Option Addr} {s : List SL} (h : CurE w base c v last s) (hm : Moves own w w') (hn : ∀ k, ownE c v k → ¬ own k) : CurE w' base c v last s :=
  ⟨hm.blk h.blk (hn c (.inl rfl)), hm.row h.row (fun j hj => hn j (.inr hj)), h.good⟩
/-- what a step of the cursor leaves -/
def StepE (base c : Nat) (v : Value) (r : Value) (last : Option Addr) (s : List SL) (w : World) (e : Ending) (w' : World) : Prop :=
  ∃ v', e = .returned r ∧ CurE w' base c v' last s ∧ Moves (ownE c v) w w' ∧ ∀ j, v'.ownBlock = some j → w.heap.size ≤ j ∨ v.ownBlock = some j
set_option maxHeartbeats 1000000 in
theorem pushE_any (base c : Nat) (v : Value) (last : Option Addr) (s : List SL) (A : Option Addr) (n cap : Nat) (w : World) (h : CurE w base c v last s) (hA : 0 < n → A ≠ none) (hn : n ≤ cap) (hc : cap ≤ 9223372036854775807) (hbase : base ≤ w.heap.size) (hs : s.length ≤ 1099511627776) :
    Calls Try.prog 77 #[.pointer (some ⟨c, 0, none⟩), .slice A n cap] w (StepE base c v (.tuple #[]) last (pushS s A n cap) w) := by
  obtain ⟨i0, hi0, hz0, hz1, hz2⟩ := info_parts slE_info
  obtain ⟨V, vc, rfl, hv1, hv2⟩ := own_form h.row
  have H := Lib.hid h
  by_cases h0 : n = 0
  · have HP := Lib.hid (pushS_zero s A cap)
    have q0 : decide (((n : Nat) : Int) > 0) = false := by simp [h0]
    subst h0
    clear h hA
    go_enter Try.func77, Try.ntmps77
    go_wp2_with fail
    go_end0
    exact ⟨_, rfl, by rw [HP.out]; exact H.out, Moves.refl _ _, fun j hj => .inr hj⟩
  · obtain ⟨a, rfl⟩ : ∃ a, A = some a := by cases A with | none => exact absurd rfl (hA (by omega)) | some a => exact ⟨a, rfl⟩
    have HP := Lib.hid (pushS_pos s a cap (show 0 < n by omega))
    have hn0 : 0 < n := by omega
    have p2 : w.cell? ⟨c, 2, none⟩ = some (.slice V s.length vc) := by rw [h.blk.cell 2]; rfl
    have hcl := h.blk.lt
    have hnew : ∀ j u, [Value.slice (some a) n cap][j]? = some u → (w.alloc (.cells #[.slice (some a) n cap] 22)).cell? ((⟨w.heap.size, 0, none⟩ : Addr).add j) = some u := by
      intro j u hu
      have hj : j = 0 := by have := (List.getElem?_eq_some_iff.1 hu).1; simp at this; exact this
      subst hj
      simp at hu
      subst hu
      simp [Addr.add]
    have HW := Lib.hid hnew
    clear hnew h hA h0
    go_enter Try.func77, Try.ntmps77
    go_wp2_with (at_builtin; refine wpList_append_own_at _ rfl (.tmp 11) (.tmp 13) 105 rfl base 22 i0 _ 1 24 Try.underlying105 hi0 hz0 hz1 hz2 rfl (by decide) _ s.length (rowS s) rfl (H.out.row.alloc _) ⟨w.heap.size, 0, none⟩ 1 1 [.slice (some a) n cap] rfl rfl HW.out (by simp [Value.oneCell']) (by unfold maxLen; omega) (by omega) (by simp; omega) ?_)
    intro v' w1 hown1 hg1 _ hat
    have hb1 : Blk w1 c 107 #[.func (.func 76) #[] #[], .pointer last, .slice V s.length vc] := ((H.out.blk.alloc _).grown hg1 (fun e => H.out.ne e.symm))
    have f1 := hb1.frozen 2
    have p3 : w1.cell? ⟨c, 2, none⟩ = some (.slice V s.length vc) := by rw [hb1.cell 2]; rfl
    have HB1 := Lib.hid hb1
    have HO1 := Lib.hid hown1
    have HG1 := Lib.hid hg1
    have HAT := Lib.hid hat
    clear hb1 hown1 hg1 hat
    obtain ⟨V', vc', rfl, _, _⟩ := own_form HO1.out
    go_wp2_with fail
    go_end0
    have hne : Value.ownBlock (.slice V' (s.length + 1) vc') ≠ some c := own_blk_ne HO1.out HB1.out (by decide)
    refine ⟨.slice V' (s.length + 1) vc', rfl, ⟨HB1.out.set_ 2 _, ?_, ?_⟩, ?_, ?_⟩
    · rw [HP.out, rowS_cons, List.length_cons]
      exact Moves.row (setMoves w1 ⟨c, 2, none⟩ _) HO1.out (fun j hj e => hne (hj.trans (congrArg some e)))
    · rw [HP.out]
      intro x hx
      rcases List.mem_cons.1 hx with rfl | hx
      · exact ⟨hn0, hn, hc⟩
      · exact H.out.good x hx
    · exact Moves.set_ (((Moves.refl _ _).alloc _).trans (moves_grown HG1.out) (fun j hj => .inr (.inr hj))) (.inl (.inl rfl)) _
    · intro j hj
      rcases HAT.out with h | h
      · exact .inr (h.symm.trans hj)
      · rw [h] at hj; injection hj with hj; left; rw [← hj]; simp
def popSE (s : List SL) : Option Addr × List SL := match s with
  | [] => (none, [])
  | (a, n, cap) :: s => (some a, if n = 1 then s else (a.add 4, n - 1, cap - 1) :: s)
set_option maxHeartbeats 1000000 in
theorem popE_any (base c : Nat) (v : Value) (last : Option Addr) (s : List SL) (w : World) (h : CurE w base c v last s) (hs : s.length ≤ 1099511627778) :
    Calls Try.prog 78 #[.pointer (some ⟨c, 0, none⟩)] w (StepE base c v (.pointer (popSE s).1) last (popSE s).2 w) := by
  obtain ⟨V, vc, rfl, hv1, hv2⟩ := own_form h.row
  have H := Lib.hid h
  have p2 : w.cell? ⟨c, 2, none⟩ = some (.slice V s.length vc) := by rw [h.blk.cell 2]; rfl
  have f2 := h.blk.frozen 2
  have hcl := h.blk.lt
  match s with
  | [] =>
    clear h
    go_enter Try.func78, Try.ntmps78
    go_wp2_with fail
    go_ret
    exact ⟨_, rfl, H.out, Moves.refl _ _, fun j hj => .inr hj⟩
  | (a, n, cap) :: s =>
    obtain ⟨hg0, hg1, hg2⟩ := h.good _ (List.mem_cons_self ..)
    simp only at hg0 hg1 hg2
    obtain ⟨g, rfl⟩ : ∃ g, V = some ⟨g, 0, none⟩ := by
      rcases h.row.2 with ⟨_, h1⟩ | ⟨g, cap', cur, hv, _⟩
      · simp at h1
      · injection hv with hv; exact ⟨g, hv⟩
    have hgc : g ≠ c := fun e => h.ne (by rw [e]; rfl)
    have pt : w.cell? ⟨g, s.length, none⟩ = some (.slice (some a) n cap) := by
      rw [h.row.cellAt s.length (by simp), rowS_cons, List.getElem?_append_right (by rw [rowS_len]; exact Nat.le_refl _), rowS_len]
      simp [sl]
    have ft := h.row.frozenAt s.length
    have hgl : g < w.heap.size := (h.row.lt g rfl).2
    rw [List.length_cons] at p2 hv1 hs
    have hlc : ((s.length + 1 : Nat) : Int) - 1 = (s.length : Int) := by omega
    have hnn : ¬ ((s.length : Int) < 0) := by omega
    clear h
    cases hn1 : (((n : Nat) : Int) == 1) with
    | true =>
      have hn2 : n = 1 := by have := eq_of_beq hn1; omega
      have HP : Hid ((popSE ((a, n, cap) :: s)) = (some a, s)) := Lib.hid (by simp [popSE, hn2])
      clear hn2
      go_enter Try.func78, Try.ntmps78
      go_wp2_with fail
      go_ret
      refine ⟨.slice (some ⟨g, 0, none⟩) s.length vc, by rw [HP.out]; rfl, ?_, Moves.set_ (Moves.refl _ _) (.inl (.inl rfl)) _, fun j hj => .inr hj⟩
      rw [HP.out]
      refine ⟨H.out.blk.set_ 2 _, ?_, fun x hx => H.out.good x (List.mem_cons_of_mem _ hx)⟩
      have h1 := own_cut H.out.row (k := s.length) (by simp)
      rw [rowS_cons, List.take_append_of_le_length (by rw [rowS_len]; exact Nat.le_refl _), List.take_of_length_le (by rw [rowS_len]; exact Nat.le_refl _)] at h1
      exact Moves.row (setMoves w ⟨c, 2, none⟩ _) h1 (fun j hj e => hgc (by injection hj with hj; exact hj.trans e))
    | false =>
      have hn2 : n ≠ 1 := by intro e; rw [e] at hn1; simp at hn1
      have HP : Hid ((popSE ((a, n, cap) :: s)) = (some a, (a.add 4, n - 1, cap - 1) :: s)) := Lib.hid (by simp [popSE, hn2])
      have hn3 : 2 ≤ n := by omega
      have hi1 : (0 : Int) ≤ (s.length : Int) := by omega
      have hi2 : (s.length : Int) < ((s.length + 1 : Nat) : Int) := by omega
      have hi3 : (1 : Int) ≤ (n : Int) := by omega
      have hi4 : (n : Int) ≤ (cap : Int) := by omega
      have hi5 : (s.length : Int) < (s.length : Int) + 1 := by omega
      clear hn2
      go_enter Try.func78, Try.ntmps78
      go_wp2_with fail
      go_region_held3 (fun w' => w'.cell? ⟨c, 2, none⟩ = some (.slice (some ⟨g, 0, none⟩) (s.length + 1) vc)) (go_keep) (fail)
      all_goals go_wp2_with fail
      all_goals go_ret
      all_goals
        refine ⟨.slice (some ⟨g, 0, none⟩) (s.length + 1) vc, by rw [HP.out]; rfl, ?_, below_drewN_moves (Moves.set_ (Moves.refl _ _) (.inl (.inr rfl)) _), fun j hj => .inr hj⟩
        rw [HP.out]
        have hst := (H.out.row.stored s.length (sl (a.add 4, n - 1, cap - 1)))
        refine ⟨Blk.drewN ((Blk.far H.out.blk (p := ⟨g, s.length, none⟩) (Ne.symm hgc) _)) 1, ?_, ?_⟩
        · have h1 := hst.1
          rw [rowS_cons, List.set_append_right _ _ (by rw [rowS_len]; exact Nat.le_refl _), rowS_len, Nat.sub_self, List.set_cons_zero, ← rowS_cons] at h1
          rw [show sl (a.add 4, n - 1, cap - 1) = .slice (some ⟨a.block, a.off + 4, none⟩) (n - 1) (cap - 1) from by simp only [sl]; rw [add_ne a (by decide)]] at h1
          exact h1
        · intro x hx
          rcases List.mem_cons.1 hx with rfl | hx
          · exact ⟨by show 0 < n - 1; omega, by show n - 1 ≤ cap - 1; omega, by show cap - 1 ≤ _; omega⟩
          · exact H.out.good x (List.mem_cons_of_mem _ hx)
theorem CurE.drewN {w : World} {base c : Nat} {v : Value} {last : Option Addr} {s : List SL} (h : CurE w base c v last s) (k : Nat) : CurE (w.drewN k) base c v last s := ⟨h.blk, h.row, h.good⟩
def MadeE (s : List SL) (w : World) (e : Ending) (w' : World) : Prop :=
  ∃ v, e = .returned (.pointer (some ⟨w.heap.size, 0, none⟩)) ∧ CurE w' w.heap.size w.heap.size v none s ∧ Below w.heap.size w w' ∧ ∀ j, v.ownBlock = some j → w.heap.size < j
theorem makeE_any (A : Option Addr) (n cap : Nat) (w : World) (hA : 0 < n → A ≠ none) (hn : n ≤ cap) (hc : cap ≤ 9223372036854775807) :
    Calls Try.prog 42 #[.slice A n cap] w (MadeE (pushS [] A n cap) w) := by
  have HC : Hid (CurE (w.alloc (.cells #[.func (.func 76) #[] #[], .pointer none, .slice none 0 0] 107)) w.heap.size w.heap.size (.slice none 0 0) none []) := Lib.hid ⟨Blk.new _ _ _, World.ownsRow_nil _ _ _ _, by simp⟩
  have HP := Lib.hid (pushE_any w.heap.size w.heap.size (.slice none 0 0) none [] A n cap _ HC.out hA hn hc (by simp) (by simp))
  clear hA
  go_enter Try.func42, Try.ntmps42
  go_wp2_with (go_at_call 77; refine HP.out.mono ?_; rintro e w1 ⟨v1, rfl, hc1, hm1, hl1⟩)
  go_ret
  refine ⟨v1, rfl, hc1, ((Moves.refl (fun k => w.heap.size ≤ k) w).alloc _ |>.trans hm1 (fun j hj => .inr ?_)).below (Nat.le_refl _) (fun j hj => hj), fun j hj => ?_⟩
  · rcases hj with rfl | hj
    · exact Nat.le_refl _
    · simp [Value.ownBlock] at hj
  · rcases hl1 j hj with h | h
    · simp at h; omega
    · simp [Value.ownBlock] at h
theorem innerE_any (a : Addr) (A : Option Addr) (n cap : Nat) (w : World) (hk : w.cell? ⟨a.block, a.off + 3, none⟩ = some (.slice A n cap)) :
    Calls Try.prog 76 #[.pointer (some a)] w fun e w' => e = .returned (.tuple #[.slice A n cap, .slice none 0 0]) ∧ ∃ k, w' = w.drewN k := by
  go_enter Try.func76, Try.ntmps76
  go_wp2_with fail
  go_ret2
  exact ⟨rfl, 0, rfl⟩
theorem stepE_bound {s : List SL} {A : Option Addr} {n cap : Nat} : (pushS s A n cap).length ≤ s.length + 1 := by unfold pushS; split <;> simp
theorem pushS_goodE {s : List SL} {A : Option Addr} {n cap : Nat} (hs : ∀ x ∈ s, goodS x) (hn : n ≤ cap) (hc : cap ≤ 9223372036854775807) : ∀ x ∈ pushS s A n cap, goodS x := by
  unfold pushS
  split
  · intro x hx
    rcases List.mem_cons.1 hx with rfl | hx
    · exact ⟨by simp, hn, hc⟩
    · exact hs x hx
  · exact hs
set_option maxHeartbeats 1000000 in
theorem nextE_none (base c : Nat) (v : Value) (s : List SL) (w : World) (h : CurE w base c v none s) (hs : s.length ≤ 1099511627776) :
    Calls Try.prog 43 #[.pointer (some ⟨c, 0, none⟩)] w (StepE base c v (.pointer (popSE s).1) (popSE s).1 (popSE s).2 w) := by
  have p1 : w.cell? ⟨c, 1, none⟩ = some (.pointer none) := by rw [h.blk.cell 1]; rfl
  have hcl := h.blk.lt
  have HP := Lib.hid (popE_any base c v none s w h (by omega))
  have H := Lib.hid h
  obtain ⟨r, hr⟩ : ∃ r, r = popSE s := ⟨_, rfl⟩
  rw [← hr] at HP ⊢
  clear h hr
  go_enter Try.func43, Try.ntmps43
  go_wp2_with (go_at_call 78; refine HP.out.mono ?_; rintro e w1 ⟨v1, rfl, hc1, hm1, hl1⟩; have HC1 := Lib.hid hc1; have HM1 := Lib.hid hm1; have HL1 := Lib.hid hl1; have f1 := hc1.blk.frozen 1; have p2 : w1.cell? ⟨c, 1, none⟩ = some (.pointer none) := (by rw [hc1.blk.cell 1]; rfl); have hz1 := hm1.size; clear hc1 hm1 hl1)
  go_ret
  refine ⟨v1, rfl, ⟨HC1.out.blk.set_ 1 _, Moves.row (setMoves w1 ⟨c, 1, none⟩ _) HC1.out.row (fun j hj e => HC1.out.ne (hj.trans (congrArg some e))), HC1.out.good⟩, Moves.set_ HM1.out (.inl (.inl rfl)) _, HL1.out⟩
set_option maxHeartbeats 1000000 in
theorem nextE_some (base c : Nat) (v : Value) (s : List SL) (a : Addr) (A : Option Addr) (n cap : Nat) (w : World) (h : CurE w base c v (some a) s) (hk : w.cell? ⟨a.block, a.off + 3, none⟩ = some (.slice A n cap)) (hA : 0 < n → A ≠ none) (hn : n ≤ cap) (hc : cap ≤ 9223372036854775807)
    (hbase : base ≤ w.heap.size) (hs : s.length ≤ 1099511627770) :
    Calls Try.prog 43 #[.pointer (some ⟨c, 0, none⟩)] w (StepE base c v (.pointer (popSE (pushS s A n cap)).1) (popSE (pushS s A n cap)).1 (popSE (pushS s A n cap)).2 w) := by
  have p0 : w.cell? ⟨c, 0, none⟩ = some (.func (.func 76) #[] #[]) := by rw [h.blk.cell 0]; rfl
  have p1 : w.cell? ⟨c, 1, none⟩ = some (.pointer (some a)) := by rw [h.blk.cell 1]; rfl
  have hcl := h.blk.lt
  have H := Lib.hid h
  have HA := Lib.hid hA
  have HS := Lib.hid (stepE_bound (s := s) (A := A) (n := n) (cap := cap))
  have HI := Lib.hid (fun W hk => innerE_any a A n cap W hk)
  obtain ⟨s1, hs1⟩ : ∃ s1, s1 = pushS s A n cap := ⟨_, rfl⟩
  have HP1 : Hid (∀ (v : Value) (W : World), CurE W base c v (some a) s → base ≤ W.heap.size → Calls Try.prog 77 #[.pointer (some ⟨c, 0, none⟩), .slice none 0 0] W (StepE base c v (.tuple #[]) (some a) s W)) :=
    Lib.hid (fun v W h1 h2 => pushE_any base c v (some a) s none 0 0 W h1 (by omega) (by omega) (by omega) h2 (by omega))
  have HP2 : Hid (∀ (v : Value) (W : World), CurE W base c v (some a) s → base ≤ W.heap.size → Calls Try.prog 77 #[.pointer (some ⟨c, 0, none⟩), .slice A n cap] W (StepE base c v (.tuple #[]) (some a) s1 W)) :=
    Lib.hid (fun v W h1 h2 => by rw [hs1]; exact pushE_any base c v (some a) s A n cap W h1 hA hn hc h2 (by omega))
  rw [← hs1] at HS ⊢
  have HP3 : Hid (∀ (v : Value) (W : World), CurE W base c v (some a) s1 → Calls Try.prog 78 #[.pointer (some ⟨c, 0, none⟩)] W (StepE base c v (.pointer (popSE s1).1) (some a) (popSE s1).2 W)) :=
    Lib.hid (fun v W h1 => popE_any base c v (some a) s1 W h1 (by have := HS.out; omega))
  obtain ⟨r, hr⟩ : ∃ r, r = popSE s1 := ⟨_, rfl⟩
  rw [← hr] at HP3 ⊢
  clear h hr hA hs1
  go_enter Try.func43, Try.ntmps43
  go_wp2_with fail
  go_quiet ((go_at_call 76; exact Calls.quiet_of (HI.out _ (by simpa using hk))))
  have HC0 := Lib.hid (H.out.drewN nq)
  have hz0 : base ≤ (w.drewN nq).heap.size := hbase
  have HM0 : Hid (Moves (ownE c v) w (w.drewN nq)) := Lib.hid ((Moves.refl _ _).drewN _)
  have hcl0 : c < (w.drewN nq).heap.size := hcl
  have HSZ : Hid ((w.drewN nq).heap.size = w.heap.size) := Lib.hid rfl
  generalize w.drewN nq = w0 at HC0 hz0 HM0 hcl0 HSZ ⊢
  go_wp2_with fail
  refine (HP1.out v w0 HC0.out hz0).mono ?_
  rintro e w1 ⟨v1, rfl, hc1, hm1, hl1⟩
  have hz1 : base ≤ w1.heap.size := Nat.le_trans hz0 hm1.size
  have HC1 := Lib.hid hc1; have HM1 := Lib.hid hm1; have HL1 := Lib.hid hl1
  clear hc1 hm1 hl1
  go_wp2_with fail
  refine (HP2.out v1 w1 HC1.out hz1).mono ?_
  rintro e w2 ⟨v2, rfl, hc2, hm2, hl2⟩
  have hz2 : base ≤ w2.heap.size := Nat.le_trans hz1 hm2.size
  have HC2 := Lib.hid hc2; have HM2 := Lib.hid hm2; have HL2 := Lib.hid hl2
  clear hc2 hm2 hl2
  go_wp2_with fail
  refine (HP3.out v2 w2 HC2.out).mono ?_
  rintro e w3 ⟨v3, rfl, hc3, hm3, hl3⟩
  have f3 := hc3.blk.frozen 1
  have p3 : w3.cell? ⟨c, 1, none⟩ = some (.pointer (some a)) := (by rw [hc3.blk.cell 1]; rfl)
  have hcl3 := hc3.blk.lt
  have HC3 := Lib.hid hc3; have HM3 := Lib.hid hm3; have HL3 := Lib.hid hl3
  clear hc3 hm3 hl3
  go_wp2_with fail
  go_ret
  have k1 : Moves (ownE c v) w w1 := HM0.out.trans HM1.out (fun j hj => .inr hj)
  have l1 : ∀ j, v1.ownBlock = some j → w.heap.size ≤ j ∨ v.ownBlock = some j := fun j hj => by have := HL1.out j hj; rw [HSZ.out] at this; exact this
  have k2 : Moves (ownE c v) w w2 := k1.trans HM2.out (fun j hj => by rcases hj with hj | hj; exact .inr (.inl hj); exact (l1 j hj).imp id .inr)
  have l2 : ∀ j, v2.ownBlock = some j → w.heap.size ≤ j ∨ v.ownBlock = some j := fun j hj => by
    rcases HL2.out j hj with h | h
    · exact .inl (Nat.le_trans k1.size h)
    · exact l1 j h
  have k3 : Moves (ownE c v) w w3 := k2.trans HM3.out (fun j hj => by rcases hj with hj | hj; exact .inr (.inl hj); exact (l2 j hj).imp id .inr)
  have l3 : ∀ j, v3.ownBlock = some j → w.heap.size ≤ j ∨ v.ownBlock = some j := fun j hj => by
    rcases HL3.out j hj with h | h
    · exact .inl (Nat.le_trans k2.size h)
    · exact l2 j h
  refine ⟨v3, rfl, ⟨HC3.out.blk.set_ 1 _, Moves.row (setMoves w3 ⟨c, 1, none⟩ _) HC3.out.row (fun j hj e => HC3.out.ne (hj.trans (congrArg some e))), HC3.out.good⟩, Moves.set_ k3 (.inl (.inl rfl)) _, l3⟩
end Go.Proofs.Ytdjckmpfblaliaa
