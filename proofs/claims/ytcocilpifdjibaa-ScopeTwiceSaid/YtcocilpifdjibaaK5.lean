/- Texts, merged by a program; only what is used. -/
import Derived.Deep.QuietTactic
import Derived.BigQuiet
import Derived.Deep.RegionHeld3
import Derived.Lib.UnsafeStr
import Derived.Lib.BufferWrite
import Derived.Lib.Walk
import Derived.Laws.MakeOwn
import Derived.Laws.CopyRow
import Derived.Test.YtcocilpifdjibaaK1
import Derived.Test.YtcocilpifdjibaaK2
import Derived.Test.YtcocilpifdjibaaK3
import Derived.Test.YtcocilpifdjibaaK4
namespace Go.Proofs.Ytcocilpifdjibaa
open Go.ChangeShapes Go.WideShapes Go.ChangeAt Go.RowKit Go.Deep
set_option linter.unusedVariables false
theorem slE_info : (Try.prog.info? 43).map (fun i => (i.zero, i.size, i.bytes)) = some (some (.slice none 0 0), 1, 24) := by kernel_rfl
/-- the cursor at block c: the last node, the stack (its top first), the row v in which that lies -/
structure CurE (w : World) (base c : Nat) (v : Value) (last : Option Addr) (s : List SL) : Prop where
  blk : Blk w c 185 #[.func (.func 163) #[] #[], .pointer last, v]
  row : w.ownsRow base 43 1 v s.length (rowS s)
  good : ∀ x ∈ s, goodS x
theorem CurE.ne {w : World} {base c : Nat} {v : Value} {last : Option Addr} {s : List SL} (h : CurE w base c v last s) : v.ownBlock ≠ some c := own_blk_ne h.row h.blk (by decide)
def ownE (c : Nat) (v : Value) : Nat → Prop := fun k => k = c ∨ v.ownBlock = some k
theorem CurE.keep {own : Nat → Prop} {w w' : World} {base c : Nat} {v : Value} {last : Option Addr} {s : List SL} (h : CurE w base c v last s) (hm : Moves own w w') (hn : ∀ k, ownE c v k → ¬ own k) : CurE w' base c v last s :=
  ⟨hm.blk h.blk (hn c (.inl rfl)), hm.row h.row (fun j hj => hn j (.inr hj)), h.good⟩
/-- what a step of the cursor leaves -/
def StepE (base c : Nat) (v : Value) (r : Value) (last : Option Addr) (s : List SL) (w : World) (e : Ending) (w' : World) : Prop :=
  ∃ v', e = .returned r ∧ CurE w' base c v' last s ∧ Moves (ownE c v) w w' ∧ ∀ j, v'.ownBlock = some j → w.heap.size ≤ j ∨ v.ownBlock = some j
set_option maxHeartbeats 1000000 in
theorem pushE_any (base c : Nat) (v : Value) (last : Option Addr) (s : List SL) (A : Option Addr) (n cap : Nat) (w : World) (h : CurE w base c v last s) (hA : 0 < n → A ≠ none) (hn : n ≤ cap) (hc : cap ≤ 9223372036854775807) (hbase : base ≤ w.heap.size) (hs : s.length ≤ 1099511627776) :
    Calls Try.prog 164 #[.pointer (some ⟨c, 0, none⟩), .slice A n cap] w (StepE base c v (.tuple #[]) last (pushS s A n cap) w) := by
  obtain ⟨i0, hi0, hz0, hz1, hz2⟩ := info_parts slE_info
  obtain ⟨V, vc, rfl, hv1, hv2⟩ := own_form h.row
  have H := Lib.hid h
  by_cases h0 : n = 0
  · have HP := Lib.hid (pushS_zero s A cap)
    have q0 : decide (((n : Nat) : Int) > 0) = false := by simp [h0]
    subst h0
    clear h hA
    go_enter Try.func164, Try.ntmps164
    go_wp2_with fail
    go_end0
    exact ⟨_, rfl, by rw [HP.out]; exact H.out, Moves.refl _ _, fun j hj => .inr hj⟩
  · obtain ⟨a, rfl⟩ : ∃ a, A = some a := by cases A with | none => exact absurd rfl (hA (by omega)) | some a => exact ⟨a, rfl⟩
    have HP := Lib.hid (pushS_pos s a cap (show 0 < n by omega))
    have hn0 : 0 < n := by omega
    have p2 : w.cell? ⟨c, 2, none⟩ = some (.slice V s.length vc) := by rw [h.blk.cell 2]; rfl
    have hcl := h.blk.lt
    have hnew : ∀ j u, [Value.slice (some a) n cap][j]? = some u → (w.alloc (.cells #[.slice (some a) n cap] 43)).cell? ((⟨w.heap.size, 0, none⟩ : Addr).add j) = some u := by
      intro j u hu
      have hj : j = 0 := by have := (List.getElem?_eq_some_iff.1 hu).1; simp at this; exact this
      subst hj
      simp at hu
      subst hu
      simp [Addr.add]
    have HW := Lib.hid hnew
    clear hnew h hA h0
    go_enter Try.func164, Try.ntmps164
    go_wp2_with (at_builtin; refine wpList_append_own_at _ rfl (.tmp 11) (.tmp 13) 183 rfl base 43 i0 _ 1 24 Try.underlying183 hi0 hz0 hz1 hz2 rfl (by decide) _ s.length (rowS s) rfl (H.out.row.alloc _) ⟨w.heap.size, 0, none⟩ 1 1 [.slice (some a) n cap] rfl rfl HW.out (by simp [Value.oneCell']) (by unfold maxLen; omega) (by omega) (by simp; omega) ?_)
    intro v' w1 hown1 hg1 _ hat
    have hb1 : Blk w1 c 185 #[.func (.func 163) #[] #[], .pointer last, .slice V s.length vc] := ((H.out.blk.alloc _).grown hg1 (fun e => H.out.ne e.symm))
    have f1 := hb1.frozen 2
    have p3 : w1.cell? ⟨c, 2, none⟩ = some (.slice V s.length vc) := by rw [hb1.cell 2]; rfl
    have HB1 := Lib.hid hb1
    have HO1 := Lib.hid hown1
    have HG1 := Lib.hid hg1
    have HAT := Lib.hid hat
    clear hb1 hown1 hg1 hat
    obtain ⟨V', vc', rfl, _, _⟩ := own_form HO1.out
    go_wp2_with fail
    go_end0
    have hne : Value.ownBlock (.slice V' (s.length + 1) vc') ≠ some c := own_blk_ne HO1.out HB1.out (by decide)
    refine ⟨.slice V' (s.length + 1) vc', rfl, ⟨HB1.out.set_ 2 _, ?_, ?_⟩, ?_, ?_⟩
    · rw [HP.out, rowS_cons, List.length_cons]
      exact Moves.row (setMoves w1 ⟨c, 2, none⟩ _) HO1.out (fun j hj e => hne (hj.trans (congrArg some e)))
    · rw [HP.out]
      intro x hx
      rcases List.mem_cons.1 hx with rfl | hx
      · exact ⟨hn0, hn, hc⟩
      · exact H.out.good x hx
    · exact Moves.set_ (((Moves.refl _ _).alloc _).trans (moves_grown HG1.out) (fun j hj => .inr (.inr hj))) (.inl (.inl rfl)) _
    · intro j hj
      rcases HAT.out with h | h
      · exact .inr (h.symm.trans hj)
      · rw [h] at hj; injection hj with hj; left; rw [← hj]; simp
def popSE (s : List SL) : Option Addr × List SL := match s with
  | [] => (none, [])
  | (a, n, cap) :: s => (some a, if n = 1 then s else (a.add 4, n - 1, cap - 1) :: s)
set_option maxHeartbeats 1000000 in
theorem popE_any (base c : Nat) (v : Value) (last : Option Addr) (s : List SL) (w : World) (h : CurE w base c v last s) (hs : s.length ≤ 1099511627778) :
    Calls Try.prog 165 #[.pointer (some ⟨c, 0, none⟩)] w (StepE base c v (.pointer (popSE s).1) last (popSE s).2 w) := by
  obtain ⟨V, vc, rfl, hv1, hv2⟩ := own_form h.row
  have H := Lib.hid h
  have p2 : w.cell? ⟨c, 2, none⟩ = some (.slice V s.length vc) := by rw [h.blk.cell 2]; rfl
  have f2 := h.blk.frozen 2
  have hcl := h.blk.lt
  match s with
  | [] =>
    clear h
    go_enter Try.func165, Try.ntmps165
    go_wp2_with fail
    go_ret
    exact ⟨_, rfl, H.out, Moves.refl _ _, fun j hj => .inr hj⟩
  | (a, n, cap) :: s =>
    obtain ⟨hg0, hg1, hg2⟩ := h.good _ (List.mem_cons_self ..)
    simp only at hg0 hg1 hg2
    obtain ⟨g, rfl⟩ : ∃ g, V = some ⟨g, 0, none⟩ := by
      rcases h.row.2 with ⟨_, h1⟩ | ⟨g, cap', cur, hv, _⟩
      · simp at h1
      · injection hv with hv; exact ⟨g, hv⟩
    have hgc : g ≠ c := fun e => h.ne (by rw [e]; rfl)
    have pt : w.cell? ⟨g, s.length, none⟩ = some (.slice (some a) n cap) := by
      rw [h.row.cellAt s.length (by simp), rowS_cons, List.getElem?_append_right (by rw [rowS_len]; exact Nat.le_refl _), rowS_len]
      simp [sl]
    have ft := h.row.frozenAt s.length
    have hgl : g < w.heap.size := (h.row.lt g rfl).2
    rw [List.length_cons] at p2 hv1 hs
    have hlc : ((s.length + 1 : Nat) : Int) - 1 = (s.length : Int) := by omega
    have hnn : ¬ ((s.length : Int) < 0) := by omega
    clear h
    cases hn1 : (((n : Nat) : Int) == 1) with
    | true =>
      have hn2 : n = 1 := by have := eq_of_beq hn1; omega
      have HP : Hid ((popSE ((a, n, cap) :: s)) = (some a, s)) := Lib.hid (by simp [popSE, hn2])
      clear hn2
      go_enter Try.func165, Try.ntmps165
      go_wp2_with fail
      go_ret
      refine ⟨.slice (some ⟨g, 0, none⟩) s.length vc, by rw [HP.out]; rfl, ?_, Moves.set_ (Moves.refl _ _) (.inl (.inl rfl)) _, fun j hj => .inr hj⟩
      rw [HP.out]
      refine ⟨H.out.blk.set_ 2 _, ?_, fun x hx => H.out.good x (List.mem_cons_of_mem _ hx)⟩
      have h1 := own_cut H.out.row (k := s.length) (by simp)
      rw [rowS_cons, List.take_append_of_le_length (by rw [rowS_len]; exact Nat.le_refl _), List.take_of_length_le (by rw [rowS_len]; exact Nat.le_refl _)] at h1
      exact Moves.row (setMoves w ⟨c, 2, none⟩ _) h1 (fun j hj e => hgc (by injection hj with hj; exact hj.trans e))
    | false =>
      have hn2 : n ≠ 1 := by intro e; rw [e] at hn1; simp at hn1
      have HP : Hid ((popSE ((a, n, cap) :: s)) = (some a, (a.add 4, n - 1, cap - 1) :: s)) := Lib.hid (by simp [popSE, hn2])
      have hn3 : 2 ≤ n := by omega
      have hi1 : (0 : Int) ≤ (s.length : Int) := by omega
      have hi2 : (s.length : Int) < ((s.length + 1 : Nat) : Int) := by omega
      have hi3 : (1 : Int) ≤ (n : Int) := by omega
      have hi4 : (n : Int) ≤ (cap : Int) := by omega
      have hi5 : (s.length : Int) < (s.length : Int) + 1 := by omega
      clear hn2
      go_enter Try.func165, Try.ntmps165
      go_wp2_with fail
      go_region_held3 (fun w' => w'.cell? ⟨c, 2, none⟩ = some (.slice (some ⟨g, 0, none⟩) (s.length + 1) vc)) (go_keep) (fail)
      all_goals go_wp2_with fail
      all_goals go_ret
      all_goals
        refine ⟨.slice (some ⟨g, 0, none⟩) (s.length + 1) vc, by rw [HP.out]; rfl, ?_, below_drewN_moves (Moves.set_ (Moves.refl _ _) (.inl (.inr rfl)) _), fun j hj => .inr hj⟩
        rw [HP.out]
        have hst := (H.out.row.stored s.length (sl (a.add 4, n - 1, cap - 1)))
        refine ⟨Blk.drewN ((Blk.far H.out.blk (p := ⟨g, s.length, none⟩) (Ne.symm hgc) _)) 1, ?_, ?_⟩
        · have h1 := hst.1
          rw [rowS_cons, List.set_append_right _ _ (by rw [rowS_len]; exact Nat.le_refl _), rowS_len, Nat.sub_self, List.set_cons_zero, ← rowS_cons] at h1
          rw [show sl (a.add 4, n - 1, cap - 1) = .slice (some ⟨a.block, a.off + 4, none⟩) (n - 1) (cap - 1) from by simp only [sl]; rw [add_ne a (by decide)]] at h1
          exact h1
        · intro x hx
          rcases List.mem_cons.1 hx with rfl | hx
          · exact ⟨by show 0 < n - 1; omega, by show n - 1 ≤ cap - 1; omega, by show cap - 1 ≤ _; omega⟩
          · exact H.out.good x (List.mem_cons_of_mem _ hx)
theorem CurE.drewN {w : World} {base c : Nat} {v : Value} {last : Option Addr} {s : List SL} (h : CurE w base c v last s) (k : Nat) : CurE (w.drewN k) base c v last s := ⟨h.blk, h.row, h.good⟩
def MadeE (s : List SL) (w : World) (e : Ending) (w' : World) : Prop :=
  ∃ v, e = .returned (.pointer (some ⟨w.heap.size, 0, none⟩)) ∧ CurE w' w.heap.size w.heap.size v none s ∧ Below w.heap.size w w' ∧ ∀ j, v.ownBlock = some j → w.heap.size < j
theorem makeE_any (A : Option Addr) (n cap : Nat) (w : World) (hA : 0 < n → A ≠ none) (hn : n ≤ cap) (hc : cap ≤ 9223372036854775807) :
    Calls Try.prog 112 #[.slice A n cap] w (MadeE (pushS [] A n cap) w) := by
  have HC : Hid (CurE (w.alloc (.cells #[.func (.func 163) #[] #[], .pointer none, .slice none 0 0] 185)) w.heap.size w.heap.size (.slice none 0 0) none []) := Lib.hid ⟨Blk.new _ _ _, World.ownsRow_nil _ _ _ _, by simp⟩
  have HP := Lib.hid (pushE_any w.heap.size w.heap.size (.slice none 0 0) none [] A n cap _ HC.out hA hn hc (by simp) (by simp))
  clear hA
  go_enter Try.func112, Try.ntmps112
  go_wp2_with (go_at_call 164; refine HP.out.mono ?_; rintro e w1 ⟨v1, rfl, hc1, hm1, hl1⟩)
  go_ret
  refine ⟨v1, rfl, hc1, ((Moves.refl (fun k => w.heap.size ≤ k) w).alloc _ |>.trans hm1 (fun j hj => .inr ?_)).below (Nat.le_refl _) (fun j hj => hj), fun j hj => ?_⟩
  · rcases hj with rfl | hj
    · exact Nat.le_refl _
    · simp [Value.ownBlock] at hj
  · rcases hl1 j hj with h | h
    · simp at h; omega
    · simp [Value.ownBlock] at h
theorem innerE_any (a : Addr) (A : Option Addr) (n cap : Nat) (w : World) (hk : w.cell? ⟨a.block, a.off + 3, none⟩ = some (.slice A n cap)) :
    Calls Try.prog 163 #[.pointer (some a)] w fun e w' => e = .returned (.tuple #[.slice A n cap, .slice none 0 0]) ∧ ∃ k, w' = w.drewN k := by
  go_enter Try.func163, Try.ntmps163
  go_wp2_with fail
  go_ret2
  exact ⟨rfl, 0, rfl⟩
theorem stepE_bound {s : List SL} {A : Option Addr} {n cap : Nat} : (pushS s A n cap).length ≤ s.length + 1 := by unfold pushS; split <;> simp
theorem pushS_goodE {s : List SL} {A : Option Addr} {n cap : Nat} (hs : ∀ x ∈ s, goodS x) (hn : n ≤ cap) (hc : cap ≤ 9223372036854775807) : ∀ x ∈ pushS s A n cap, goodS x := by
  unfold pushS
  split
  · intro x hx
    rcases List.mem_cons.1 hx with rfl | hx
    · exact ⟨by simp, hn, hc⟩
    · exact hs x hx
  · exact hs
set_option maxHeartbeats 1000000 in
theorem nextE_none (base c : Nat) (v : Value) (s : List SL) (w : World) (h : CurE w base c v none s) (hs : s.length ≤ 1099511627776) :
    Calls Try.prog 113 #[.pointer (some ⟨c, 0, none⟩)] w (StepE base c v (.pointer (popSE s).1) (popSE s).1 (popSE s).2 w) := by
  have p1 : w.cell? ⟨c, 1, none⟩ = some (.pointer none) := by rw [h.blk.cell 1]; rfl
  have hcl := h.blk.lt
  have HP := Lib.hid (popE_any base c v none s w h (by omega))
  have H := Lib.hid h
  obtain ⟨r, hr⟩ : ∃ r, r = popSE s := ⟨_, rfl⟩
  rw [← hr] at HP ⊢
  clear h hr
  go_enter Try.func113, Try.ntmps113
  go_wp2_with (go_at_call 165; refine HP.out.mono ?_; rintro e w1 ⟨v1, rfl, hc1, hm1, hl1⟩; have HC1 := Lib.hid hc1; have HM1 := Lib.hid hm1; have HL1 := Lib.hid hl1; have f1 := hc1.blk.frozen 1; have p2 : w1.cell? ⟨c, 1, none⟩ = some (.pointer none) := (by rw [hc1.blk.cell 1]; rfl); have hz1 := hm1.size; clear hc1 hm1 hl1)
  go_ret
  refine ⟨v1, rfl, ⟨HC1.out.blk.set_ 1 _, Moves.row (setMoves w1 ⟨c, 1, none⟩ _) HC1.out.row (fun j hj e => HC1.out.ne (hj.trans (congrArg some e))), HC1.out.good⟩, Moves.set_ HM1.out (.inl (.inl rfl)) _, HL1.out⟩
set_option maxHeartbeats 1000000 in
theorem nextE_some (base c : Nat) (v : Value) (s : List SL) (a : Addr) (A : Option Addr) (n cap : Nat) (w : World) (h : CurE w base c v (some a) s) (hk : w.cell? ⟨a.block, a.off + 3, none⟩ = some (.slice A n cap)) (hA : 0 < n → A ≠ none) (hn : n ≤ cap) (hc : cap ≤ 9223372036854775807)
    (hbase : base ≤ w.heap.size) (hs : s.length ≤ 1099511627770) :
    Calls Try.prog 113 #[.pointer (some ⟨c, 0, none⟩)] w (StepE base c v (.pointer (popSE (pushS s A n cap)).1) (popSE (pushS s A n cap)).1 (popSE (pushS s A n cap)).2 w) := by
  have p0 : w.cell? ⟨c, 0, none⟩ = some (.func (.func 163) #[] #[]) := by rw [h.blk.cell 0]; rfl
  have p1 : w.cell? ⟨c, 1, none⟩ = some (.pointer (some a)) := by rw [h.blk.cell 1]; rfl
  have hcl := h.blk.lt
  have H := Lib.hid h
  have HA := Lib.hid hA
  have HS := Lib.hid (stepE_bound (s := s) (A := A) (n := n) (cap := cap))
  have HI := Lib.hid (fun W hk => innerE_any a A n cap W hk)
  obtain ⟨s1, hs1⟩ : ∃ s1, s1 = pushS s A n cap := ⟨_, rfl⟩
  have HP1 : Hid (∀ (v : Value) (W : World), CurE W base c v (some a) s → base ≤ W.heap.size → Calls Try.prog 164 #[.pointer (some ⟨c, 0, none⟩), .slice none 0 0] W (StepE base c v (.tuple #[]) (some a) s W)) :=
    Lib.hid (fun v W h1 h2 => pushE_any base c v (some a) s none 0 0 W h1 (by omega) (by omega) (by omega) h2 (by omega))
  have HP2 : Hid (∀ (v : Value) (W : World), CurE W base c v (some a) s → base ≤ W.heap.size → Calls Try.prog 164 #[.pointer (some ⟨c, 0, none⟩), .slice A n cap] W (StepE base c v (.tuple #[]) (some a) s1 W)) :=
    Lib.hid (fun v W h1 h2 => by rw [hs1]; exact pushE_any base c v (some a) s A n cap W h1 hA hn hc h2 (by omega))
  rw [← hs1] at HS ⊢
  have HP3 : Hid (∀ (v : Value) (W : World), CurE W base c v (some a) s1 → Calls Try.prog 165 #[.pointer (some ⟨c, 0, none⟩)] W (StepE base c v (.pointer (popSE s1).1) (some a) (popSE s1).2 W)) :=
    Lib.hid (fun v W h1 => popE_any base c v (some a) s1 W h1 (by have := HS.out; omega))
  obtain ⟨r, hr⟩ : ∃ r, r = popSE s1 := ⟨_, rfl⟩
  rw [← hr] at HP3 ⊢
  clear h hr hA hs1
  go_enter Try.func113, Try.ntmps113
  go_wp2_with fail
  go_quiet ((go_at_call 163; exact Calls.quiet_of (HI.out _ (by simpa using hk))))
  have HC0 := Lib.hid (H.out.drewN nq)
  have hz0 : base ≤ (w.drewN nq).heap.size := hbase
  have HM0 : Hid (Moves (ownE c v) w (w.drewN nq)) := Lib.hid ((Moves.refl _ _).drewN _)
  have hcl0 : c < (w.drewN nq).heap.size := hcl
  have HSZ : Hid ((w.drewN nq).heap.size = w.heap.size) := Lib.hid rfl
  generalize w.drewN nq = w0 at HC0 hz0 HM0 hcl0 HSZ ⊢
  go_wp2_with fail
  refine (HP1.out v w0 HC0.out hz0).mono ?_
  rintro e w1 ⟨v1, rfl, hc1, hm1, hl1⟩
  have hz1 : base ≤ w1.heap.size := Nat.le_trans hz0 hm1.size
  have HC1 := Lib.hid hc1; have HM1 := Lib.hid hm1; have HL1 := Lib.hid hl1
  clear hc1 hm1 hl1
  go_wp2_with fail
  refine (HP2.out v1 w1 HC1.out hz1).mono ?_
  rintro e w2 ⟨v2, rfl, hc2, hm2, hl2⟩
  have hz2 : base ≤ w2.heap.size := Nat.le_trans hz1 hm2.size
  have HC2 := Lib.hid hc2; have HM2 := Lib.hid hm2; have HL2 := Lib.hid hl2
  clear hc2 hm2 hl2
  go_wp2_with fail
  refine (HP3.out v2 w2 HC2.out).mono ?_
  rintro e w3 ⟨v3, rfl, hc3, hm3, hl3⟩
  have f3 := hc3.blk.frozen 1
  have p3 : w3.cell? ⟨c, 1, none⟩ = some (.pointer (some a)) := (by rw [hc3.blk.cell 1]; rfl)
  have hcl3 := hc3.blk.lt
  have HC3 := Lib.hid hc3; have HM3 := Lib.hid hm3; have HL3 := Lib.hid hl3
  clear hc3 hm3 hl3
  go_wp2_with fail
  go_ret
  have k1 : Moves (ownE c v) w w1 := HM0.out.trans HM1.out (fun j hj => .inr hj)
  have l1 : ∀ j, v1.ownBlock = some j → w.heap.size ≤ j ∨ v.ownBlock = some j := fun j hj => by have := HL1.out j hj; rw [HSZ.out] at this; exact this
  have k2 : Moves (ownE c v) w w2 := k1.trans HM2.out (fun j hj => by rcases hj with hj | hj; exact .inr (.inl hj); exact (l1 j hj).imp id .inr)
  have l2 : ∀ j, v2.ownBlock = some j → w.heap.size ≤ j ∨ v.ownBlock = some j := fun j hj => by
    rcases HL2.out j hj with h | h
    · exact .inl (Nat.le_trans k1.size h)
    · exact l1 j h
  have k3 : Moves (ownE c v) w w3 := k2.trans HM3.out (fun j hj => by rcases hj with hj | hj; exact .inr (.inl hj); exact (l2 j hj).imp id .inr)
  have l3 : ∀ j, v3.ownBlock = some j → w.heap.size ≤ j ∨ v.ownBlock = some j := fun j hj => by
    rcases HL3.out j hj with h | h
    · exact .inl (Nat.le_trans k2.size h)
    · exact l2 j h
  refine ⟨v3, rfl, ⟨HC3.out.blk.set_ 1 _, Moves.row (setMoves w3 ⟨c, 1, none⟩ _) HC3.out.row (fun j hj e => HC3.out.ne (hj.trans (congrArg some e))), HC3.out.good⟩, Moves.set_ k3 (.inl (.inl rfl)) _, l3⟩
end Go.Proofs.Ytcocilpifdjibaa
namespace Go.Proofs.Ytcocilpifdjibaa
open Go.ChangeShapes Go.WideShapes Go.ChangeAt Go.RowKit Go.Deep
set_option linter.unusedVariables false
theorem slS_info : (Try.prog.info? 57).map (fun i => (i.zero, i.size, i.bytes)) = some (some (.slice none 0 0), 1, 24) := by kernel_rfl
/-- the cursor at block c: the last node, the stack (its top first), the row v in which that lies -/
structure CurS (w : World) (base c : Nat) (v : Value) (last : Option Addr) (s : List SL) : Prop where
  blk : Blk w c 154 #[.func (.func 123) #[] #[], .pointer last, v]
  row : w.ownsRow base 57 1 v s.length (rowS s)
  good : ∀ x ∈ s, goodS x
theorem CurS.ne {w : World} {base c : Nat} {v : Value} {last : Option Addr} {s : List SL} (h : CurS w base c v last s) : v.ownBlock ≠ some c := own_blk_ne h.row h.blk (by decide)
def ownS (c : Nat) (v : Value) : Nat → Prop := fun k => k = c ∨ v.ownBlock = some k
theorem CurS.keep {own : Nat → Prop} {w w' : World} {base c : Nat} {v : Value} {last : Option Addr} {s : List SL} (h : CurS w base c v last s) (hm : Moves own w w') (hn : ∀ k, ownS c v k → ¬ own k) : CurS w' base c v last s :=
  ⟨hm.blk h.blk (hn c (.inl rfl)), hm.row h.row (fun j hj => hn j (.inr hj)), h.good⟩
/-- what a step of the cursor leaves -/
def StepS (base c : Nat) (v : Value) (r : Value) (last : Option Addr) (s : List SL) (w : World) (e : Ending) (w' : World) : Prop :=
  ∃ v', e = .returned r ∧ CurS w' base c v' last s ∧ Moves (ownS c v) w w' ∧ ∀ j, v'.ownBlock = some j → w.heap.size ≤ j ∨ v.ownBlock = some j
set_option maxHeartbeats 1000000 in
theorem pushS_any (base c : Nat) (v : Value) (last : Option Addr) (s : List SL) (A : Option Addr) (n cap : Nat) (w : World) (h : CurS w base c v last s) (hA : 0 < n → A ≠ none) (hn : n ≤ cap) (hc : cap ≤ 9223372036854775807) (hbase : base ≤ w.heap.size) (hs : s.length ≤ 1099511627776) :
    Calls Try.prog 124 #[.pointer (some ⟨c, 0, none⟩), .slice A n cap] w (StepS base c v (.tuple #[]) last (pushS s A n cap) w) := by
  obtain ⟨i0, hi0, hz0, hz1, hz2⟩ := info_parts slS_info
  obtain ⟨V, vc, rfl, hv1, hv2⟩ := own_form h.row
  have H := Lib.hid h
  by_cases h0 : n = 0
  · have HP := Lib.hid (pushS_zero s A cap)
    have q0 : decide (((n : Nat) : Int) > 0) = false := by simp [h0]
    subst h0
    clear h hA
    go_enter Try.func124, Try.ntmps124
    go_wp2_with fail
    go_end0
    exact ⟨_, rfl, by rw [HP.out]; exact H.out, Moves.refl _ _, fun j hj => .inr hj⟩
  · obtain ⟨a, rfl⟩ : ∃ a, A = some a := by cases A with | none => exact absurd rfl (hA (by omega)) | some a => exact ⟨a, rfl⟩
    have HP := Lib.hid (pushS_pos s a cap (show 0 < n by omega))
    have hn0 : 0 < n := by omega
    have p2 : w.cell? ⟨c, 2, none⟩ = some (.slice V s.length vc) := by rw [h.blk.cell 2]; rfl
    have hcl := h.blk.lt
    have hnew : ∀ j u, [Value.slice (some a) n cap][j]? = some u → (w.alloc (.cells #[.slice (some a) n cap] 57)).cell? ((⟨w.heap.size, 0, none⟩ : Addr).add j) = some u := by
      intro j u hu
      have hj : j = 0 := by have := (List.getElem?_eq_some_iff.1 hu).1; simp at this; exact this
      subst hj
      simp at hu
      subst hu
      simp [Addr.add]
    have HW := Lib.hid hnew
    clear hnew h hA h0
    go_enter Try.func124, Try.ntmps124
    go_wp2_with (at_builtin; refine wpList_append_own_at _ rfl (.tmp 11) (.tmp 13) 152 rfl base 57 i0 _ 1 24 Try.underlying152 hi0 hz0 hz1 hz2 rfl (by decide) _ s.length (rowS s) rfl (H.out.row.alloc _) ⟨w.heap.size, 0, none⟩ 1 1 [.slice (some a) n cap] rfl rfl HW.out (by simp [Value.oneCell']) (by unfold maxLen; omega) (by omega) (by simp; omega) ?_)
    intro v' w1 hown1 hg1 _ hat
    have hb1 : Blk w1 c 154 #[.func (.func 123) #[] #[], .pointer last, .slice V s.length vc] := ((H.out.blk.alloc _).grown hg1 (fun e => H.out.ne e.symm))
    have f1 := hb1.frozen 2
    have p3 : w1.cell? ⟨c, 2, none⟩ = some (.slice V s.length vc) := by rw [hb1.cell 2]; rfl
    have HB1 := Lib.hid hb1
    have HO1 := Lib.hid hown1
    have HG1 := Lib.hid hg1
    have HAT := Lib.hid hat
    clear hb1 hown1 hg1 hat
    obtain ⟨V', vc', rfl, _, _⟩ := own_form HO1.out
    go_wp2_with fail
    go_end0
    have hne : Value.ownBlock (.slice V' (s.length + 1) vc') ≠ some c := own_blk_ne HO1.out HB1.out (by decide)
    refine ⟨.slice V' (s.length + 1) vc', rfl, ⟨HB1.out.set_ 2 _, ?_, ?_⟩, ?_, ?_⟩
    · rw [HP.out, rowS_cons, List.length_cons]
      exact Moves.row (setMoves w1 ⟨c, 2, none⟩ _) HO1.out (fun j hj e => hne (hj.trans (congrArg some e)))
    · rw [HP.out]
      intro x hx
      rcases List.mem_cons.1 hx with rfl | hx
      · exact ⟨hn0, hn, hc⟩
      · exact H.out.good x hx
    · exact Moves.set_ (((Moves.refl _ _).alloc _).trans (moves_grown HG1.out) (fun j hj => .inr (.inr hj))) (.inl (.inl rfl)) _
    · intro j hj
      rcases HAT.out with h | h
      · exact .inr (h.symm.trans hj)
      · rw [h] at hj; injection hj with hj; left; rw [← hj]; simp
def popSS (s : List SL) : Option Addr × List SL := match s with
  | [] => (none, [])
  | (a, n, cap) :: s => (some a, if n = 1 then s else (a.add 13, n - 1, cap - 1) :: s)
set_option maxHeartbeats 1000000 in
theorem popS_any (base c : Nat) (v : Value) (last : Option Addr) (s : List SL) (w : World) (h : CurS w base c v last s) (hs : s.length ≤ 1099511627778) :
    Calls Try.prog 125 #[.pointer (some ⟨c, 0, none⟩)] w (StepS base c v (.pointer (popSS s).1) last (popSS s).2 w) := by
  obtain ⟨V, vc, rfl, hv1, hv2⟩ := own_form h.row
  have H := Lib.hid h
  have p2 : w.cell? ⟨c, 2, none⟩ = some (.slice V s.length vc) := by rw [h.blk.cell 2]; rfl
  have f2 := h.blk.frozen 2
  have hcl := h.blk.lt
  match s with
  | [] =>
    clear h
    go_enter Try.func125, Try.ntmps125
    go_wp2_with fail
    go_ret
    exact ⟨_, rfl, H.out, Moves.refl _ _, fun j hj => .inr hj⟩
  | (a, n, cap) :: s =>
    obtain ⟨hg0, hg1, hg2⟩ := h.good _ (List.mem_cons_self ..)
    simp only at hg0 hg1 hg2
    obtain ⟨g, rfl⟩ : ∃ g, V = some ⟨g, 0, none⟩ := by
      rcases h.row.2 with ⟨_, h1⟩ | ⟨g, cap', cur, hv, _⟩
      · simp at h1
      · injection hv with hv; exact ⟨g, hv⟩
    have hgc : g ≠ c := fun e => h.ne (by rw [e]; rfl)
    have pt : w.cell? ⟨g, s.length, none⟩ = some (.slice (some a) n cap) := by
      rw [h.row.cellAt s.length (by simp), rowS_cons, List.getElem?_append_right (by rw [rowS_len]; exact Nat.le_refl _), rowS_len]
      simp [sl]
    have ft := h.row.frozenAt s.length
    have hgl : g < w.heap.size := (h.row.lt g rfl).2
    rw [List.length_cons] at p2 hv1 hs
    have hlc : ((s.length + 1 : Nat) : Int) - 1 = (s.length : Int) := by omega
    have hnn : ¬ ((s.length : Int) < 0) := by omega
    clear h
    cases hn1 : (((n : Nat) : Int) == 1) with
    | true =>
      have hn2 : n = 1 := by have := eq_of_beq hn1; omega
      have HP : Hid ((popSS ((a, n, cap) :: s)) = (some a, s)) := Lib.hid (by simp [popSS, hn2])
      clear hn2
      go_enter Try.func125, Try.ntmps125
      go_wp2_with fail
      go_ret
      refine ⟨.slice (some ⟨g, 0, none⟩) s.length vc, by rw [HP.out]; rfl, ?_, Moves.set_ (Moves.refl _ _) (.inl (.inl rfl)) _, fun j hj => .inr hj⟩
      rw [HP.out]
      refine ⟨H.out.blk.set_ 2 _, ?_, fun x hx => H.out.good x (List.mem_cons_of_mem _ hx)⟩
      have h1 := own_cut H.out.row (k := s.length) (by simp)
      rw [rowS_cons, List.take_append_of_le_length (by rw [rowS_len]; exact Nat.le_refl _), List.take_of_length_le (by rw [rowS_len]; exact Nat.le_refl _)] at h1
      exact Moves.row (setMoves w ⟨c, 2, none⟩ _) h1 (fun j hj e => hgc (by injection hj with hj; exact hj.trans e))
    | false =>
      have hn2 : n ≠ 1 := by intro e; rw [e] at hn1; simp at hn1
      have HP : Hid ((popSS ((a, n, cap) :: s)) = (some a, (a.add 13, n - 1, cap - 1) :: s)) := Lib.hid (by simp [popSS, hn2])
      have hn3 : 2 ≤ n := by omega
      have hi1 : (0 : Int) ≤ (s.length : Int) := by omega
      have hi2 : (s.length : Int) < ((s.length + 1 : Nat) : Int) := by omega
      have hi3 : (1 : Int) ≤ (n : Int) := by omega
      have hi4 : (n : Int) ≤ (cap : Int) := by omega
      have hi5 : (s.length : Int) < (s.length : Int) + 1 := by omega
      clear hn2
      go_enter Try.func125, Try.ntmps125
      go_wp2_with fail
      go_region_held3 (fun w' => w'.cell? ⟨c, 2, none⟩ = some (.slice (some ⟨g, 0, none⟩) (s.length + 1) vc)) (go_keep) (fail)
      all_goals go_wp2_with fail
      all_goals go_ret
      all_goals
        refine ⟨.slice (some ⟨g, 0, none⟩) (s.length + 1) vc, by rw [HP.out]; rfl, ?_, below_drewN_moves (Moves.set_ (Moves.refl _ _) (.inl (.inr rfl)) _), fun j hj => .inr hj⟩
        rw [HP.out]
        have hst := (H.out.row.stored s.length (sl (a.add 13, n - 1, cap - 1)))
        refine ⟨Blk.drewN ((Blk.far H.out.blk (p := ⟨g, s.length, none⟩) (Ne.symm hgc) _)) 1, ?_, ?_⟩
        · have h1 := hst.1
          rw [rowS_cons, List.set_append_right _ _ (by rw [rowS_len]; exact Nat.le_refl _), rowS_len, Nat.sub_self, List.set_cons_zero, ← rowS_cons] at h1
          rw [show sl (a.add 13, n - 1, cap - 1) = .slice (some ⟨a.block, a.off + 13, none⟩) (n - 1) (cap - 1) from by simp only [sl]; rw [add_ne a (by decide)]] at h1
          exact h1
        · intro x hx
          rcases List.mem_cons.1 hx with rfl | hx
          · exact ⟨by show 0 < n - 1; omega, by show n - 1 ≤ cap - 1; omega, by show cap - 1 ≤ _; omega⟩
          · exact H.out.good x (List.mem_cons_of_mem _ hx)
theorem CurS.drewN {w : World} {base c : Nat} {v : Value} {last : Option Addr} {s : List SL} (h : CurS w base c v last s) (k : Nat) : CurS (w.drewN k) base c v last s := ⟨h.blk, h.row, h.good⟩
def MadeS (s : List SL) (w : World) (e : Ending) (w' : World) : Prop :=
  ∃ v, e = .returned (.pointer (some ⟨w.heap.size, 0, none⟩)) ∧ CurS w' w.heap.size w.heap.size v none s ∧ Below w.heap.size w w' ∧ ∀ j, v.ownBlock = some j → w.heap.size < j
theorem makeS_any (A : Option Addr) (n cap : Nat) (w : World) (hA : 0 < n → A ≠ none) (hn : n ≤ cap) (hc : cap ≤ 9223372036854775807) :
    Calls Try.prog 62 #[.slice A n cap] w (MadeS (pushS [] A n cap) w) := by
  have HC : Hid (CurS (w.alloc (.cells #[.func (.func 123) #[] #[], .pointer none, .slice none 0 0] 154)) w.heap.size w.heap.size (.slice none 0 0) none []) := Lib.hid ⟨Blk.new _ _ _, World.ownsRow_nil _ _ _ _, by simp⟩
  have HP := Lib.hid (pushS_any w.heap.size w.heap.size (.slice none 0 0) none [] A n cap _ HC.out hA hn hc (by simp) (by simp))
  clear hA
  go_enter Try.func62, Try.ntmps62
  go_wp2_with (go_at_call 124; refine HP.out.mono ?_; rintro e w1 ⟨v1, rfl, hc1, hm1, hl1⟩)
  go_ret
  refine ⟨v1, rfl, hc1, ((Moves.refl (fun k => w.heap.size ≤ k) w).alloc _ |>.trans hm1 (fun j hj => .inr ?_)).below (Nat.le_refl _) (fun j hj => hj), fun j hj => ?_⟩
  · rcases hj with rfl | hj
    · exact Nat.le_refl _
    · simp [Value.ownBlock] at hj
  · rcases hl1 j hj with h | h
    · simp at h; omega
    · simp [Value.ownBlock] at h
theorem innerS_any (a : Addr) (A A2 : Option Addr) (n cap n2 cap2 : Nat) (w : World) (hk : w.cell? ⟨a.block, a.off + 11, none⟩ = some (.slice A n cap)) (hk2 : w.cell? ⟨a.block, a.off + 12, none⟩ = some (.slice A2 n2 cap2)) :
    Calls Try.prog 123 #[.pointer (some a)] w fun e w' => e = .returned (.tuple #[.slice A n cap, .slice A2 n2 cap2]) ∧ ∃ k, w' = w.drewN k := by
  go_enter Try.func123, Try.ntmps123
  go_wp2_with fail
  go_quiet (fail)
  go_wp2_with fail
  go_ret2
  exact ⟨rfl, _, rfl⟩
theorem stepS_bound {s : List SL} {A : Option Addr} {n cap : Nat} : (pushS s A n cap).length ≤ s.length + 1 := by unfold pushS; split <;> simp
theorem pushS_goodS {s : List SL} {A : Option Addr} {n cap : Nat} (hs : ∀ x ∈ s, goodS x) (hn : n ≤ cap) (hc : cap ≤ 9223372036854775807) : ∀ x ∈ pushS s A n cap, goodS x := by
  unfold pushS
  split
  · intro x hx
    rcases List.mem_cons.1 hx with rfl | hx
    · exact ⟨by simp, hn, hc⟩
    · exact hs x hx
  · exact hs
set_option maxHeartbeats 1000000 in
theorem nextS_none (base c : Nat) (v : Value) (s : List SL) (w : World) (h : CurS w base c v none s) (hs : s.length ≤ 1099511627776) :
    Calls Try.prog 63 #[.pointer (some ⟨c, 0, none⟩)] w (StepS base c v (.pointer (popSS s).1) (popSS s).1 (popSS s).2 w) := by
  have p1 : w.cell? ⟨c, 1, none⟩ = some (.pointer none) := by rw [h.blk.cell 1]; rfl
  have hcl := h.blk.lt
  have HP := Lib.hid (popS_any base c v none s w h (by omega))
  have H := Lib.hid h
  obtain ⟨r, hr⟩ : ∃ r, r = popSS s := ⟨_, rfl⟩
  rw [← hr] at HP ⊢
  clear h hr
  go_enter Try.func63, Try.ntmps63
  go_wp2_with (go_at_call 125; refine HP.out.mono ?_; rintro e w1 ⟨v1, rfl, hc1, hm1, hl1⟩; have HC1 := Lib.hid hc1; have HM1 := Lib.hid hm1; have HL1 := Lib.hid hl1; have f1 := hc1.blk.frozen 1; have p2 : w1.cell? ⟨c, 1, none⟩ = some (.pointer none) := (by rw [hc1.blk.cell 1]; rfl); have hz1 := hm1.size; clear hc1 hm1 hl1)
  go_ret
  refine ⟨v1, rfl, ⟨HC1.out.blk.set_ 1 _, Moves.row (setMoves w1 ⟨c, 1, none⟩ _) HC1.out.row (fun j hj e => HC1.out.ne (hj.trans (congrArg some e))), HC1.out.good⟩, Moves.set_ HM1.out (.inl (.inl rfl)) _, HL1.out⟩
set_option maxHeartbeats 1000000 in
theorem nextS_some (base c : Nat) (v : Value) (s : List SL) (a : Addr) (A A2 : Option Addr) (n cap n2 cap2 : Nat) (w : World) (h : CurS w base c v (some a) s) (hk : w.cell? ⟨a.block, a.off + 11, none⟩ = some (.slice A n cap)) (hk2 : w.cell? ⟨a.block, a.off + 12, none⟩ = some (.slice A2 n2 cap2)) (hA : 0 < n → A ≠ none) (hn : n ≤ cap) (hc : cap ≤ 9223372036854775807) (hA2 : 0 < n2 → A2 ≠ none) (hn2 : n2 ≤ cap2) (hc2 : cap2 ≤ 9223372036854775807)
    (hbase : base ≤ w.heap.size) (hs : s.length ≤ 1099511627770) :
    Calls Try.prog 63 #[.pointer (some ⟨c, 0, none⟩)] w (StepS base c v (.pointer (popSS (pushS (pushS s A2 n2 cap2) A n cap)).1) (popSS (pushS (pushS s A2 n2 cap2) A n cap)).1 (popSS (pushS (pushS s A2 n2 cap2) A n cap)).2 w) := by
  have p0 : w.cell? ⟨c, 0, none⟩ = some (.func (.func 123) #[] #[]) := by rw [h.blk.cell 0]; rfl
  have p1 : w.cell? ⟨c, 1, none⟩ = some (.pointer (some a)) := by rw [h.blk.cell 1]; rfl
  have hcl := h.blk.lt
  have H := Lib.hid h
  have HA := Lib.hid hA
  have HS2 := Lib.hid (stepS_bound (s := s) (A := A2) (n := n2) (cap := cap2))
  have HS := Lib.hid (stepS_bound (s := pushS s A2 n2 cap2) (A := A) (n := n) (cap := cap))
  have HI := Lib.hid (fun W hk hk2 => innerS_any a A A2 n cap n2 cap2 W hk hk2)
  obtain ⟨s0, hs0⟩ : ∃ s0, s0 = pushS s A2 n2 cap2 := ⟨_, rfl⟩
  obtain ⟨s1, hs1⟩ : ∃ s1, s1 = pushS s0 A n cap := ⟨_, rfl⟩
  have HP1 : Hid (∀ (v : Value) (W : World), CurS W base c v (some a) s → base ≤ W.heap.size → Calls Try.prog 124 #[.pointer (some ⟨c, 0, none⟩), .slice A2 n2 cap2] W (StepS base c v (.tuple #[]) (some a) s0 W)) :=
    Lib.hid (fun v W h1 h2 => by rw [hs0]; exact pushS_any base c v (some a) s A2 n2 cap2 W h1 hA2 hn2 hc2 h2 (by omega))
  have HP2 : Hid (∀ (v : Value) (W : World), CurS W base c v (some a) s0 → base ≤ W.heap.size → Calls Try.prog 124 #[.pointer (some ⟨c, 0, none⟩), .slice A n cap] W (StepS base c v (.tuple #[]) (some a) s1 W)) :=
    Lib.hid (fun v W h1 h2 => by rw [hs1]; exact pushS_any base c v (some a) s0 A n cap W h1 hA hn hc h2 (by have := HS2.out; rw [← hs0] at this; omega))
  rw [← hs0, ← hs1] at HS ⊢
  rw [← hs0] at HS2
  have HP3 : Hid (∀ (v : Value) (W : World), CurS W base c v (some a) s1 → Calls Try.prog 125 #[.pointer (some ⟨c, 0, none⟩)] W (StepS base c v (.pointer (popSS s1).1) (some a) (popSS s1).2 W)) :=
    Lib.hid (fun v W h1 => popS_any base c v (some a) s1 W h1 (by have := HS.out; have := HS2.out; omega))
  obtain ⟨r, hr⟩ : ∃ r, r = popSS s1 := ⟨_, rfl⟩
  rw [← hr] at HP3 ⊢
  clear h hr hA hs1 hs0 hA2
  go_enter Try.func63, Try.ntmps63
  go_wp2_with fail
  go_quiet ((go_at_call 123; exact Calls.quiet_of (HI.out _ (by simpa using hk) (by simpa using hk2))))
  have HC0 := Lib.hid (H.out.drewN nq)
  have hz0 : base ≤ (w.drewN nq).heap.size := hbase
  have HM0 : Hid (Moves (ownS c v) w (w.drewN nq)) := Lib.hid ((Moves.refl _ _).drewN _)
  have hcl0 : c < (w.drewN nq).heap.size := hcl
  have HSZ : Hid ((w.drewN nq).heap.size = w.heap.size) := Lib.hid rfl
  generalize w.drewN nq = w0 at HC0 hz0 HM0 hcl0 HSZ ⊢
  go_wp2_with fail
  refine (HP1.out v w0 HC0.out hz0).mono ?_
  rintro e w1 ⟨v1, rfl, hc1, hm1, hl1⟩
  have hz1 : base ≤ w1.heap.size := Nat.le_trans hz0 hm1.size
  have HC1 := Lib.hid hc1; have HM1 := Lib.hid hm1; have HL1 := Lib.hid hl1
  clear hc1 hm1 hl1
  go_wp2_with fail
  refine (HP2.out v1 w1 HC1.out hz1).mono ?_
  rintro e w2 ⟨v2, rfl, hc2, hm2, hl2⟩
  have hz2 : base ≤ w2.heap.size := Nat.le_trans hz1 hm2.size
  have HC2 := Lib.hid hc2; have HM2 := Lib.hid hm2; have HL2 := Lib.hid hl2
  clear hc2 hm2 hl2
  go_wp2_with fail
  refine (HP3.out v2 w2 HC2.out).mono ?_
  rintro e w3 ⟨v3, rfl, hc3, hm3, hl3⟩
  have f3 := hc3.blk.frozen 1
  have p3 : w3.cell? ⟨c, 1, none⟩ = some (.pointer (some a)) := (by rw [hc3.blk.cell 1]; rfl)
  have hcl3 := hc3.blk.lt
  have HC3 := Lib.hid hc3; have HM3 := Lib.hid hm3; have HL3 := Lib.hid hl3
  clear hc3 hm3 hl3
  go_wp2_with fail
  go_ret
  have k1 : Moves (ownS c v) w w1 := HM0.out.trans HM1.out (fun j hj => .inr hj)
  have l1 : ∀ j, v1.ownBlock = some j → w.heap.size ≤ j ∨ v.ownBlock = some j := fun j hj => by have := HL1.out j hj; rw [HSZ.out] at this; exact this
  have k2 : Moves (ownS c v) w w2 := k1.trans HM2.out (fun j hj => by rcases hj with hj | hj; exact .inr (.inl hj); exact (l1 j hj).imp id .inr)
  have l2 : ∀ j, v2.ownBlock = some j → w.heap.size ≤ j ∨ v.ownBlock = some j := fun j hj => by
    rcases HL2.out j hj with h | h
    · exact .inl (Nat.le_trans k1.size h)
    · exact l1 j h
  have k3 : Moves (ownS c v) w w3 := k2.trans HM3.out (fun j hj => by rcases hj with hj | hj; exact .inr (.inl hj); exact (l2 j hj).imp id .inr)
  have l3 : ∀ j, v3.ownBlock = some j → w.heap.size ≤ j ∨ v.ownBlock = some j := fun j hj => by
    rcases HL3.out j hj with h | h
    · exact .inl (Nat.le_trans k2.size h)
    · exact l2 j h
  refine ⟨v3, rfl, ⟨HC3.out.blk.set_ 1 _, Moves.row (setMoves w3 ⟨c, 1, none⟩ _) HC3.out.row (fun j hj e => HC3.out.ne (hj.trans (congrArg some e))), HC3.out.good⟩, Moves.set_ k3 (.inl (.inl rfl)) _, l3⟩
end Go.Proofs.Ytcocilpifdjibaa
namespace Go.Proofs.Ytcocilpifdjibaa
open Go.ChangeShapes Go.WideShapes Go.ChangeAt Go.RowKit Go.Deep
set_option linter.unusedVariables false
/-- at the address a lies a node that reads as x -/
def NodeI {α : Type} (w : World) (Q : Nat → Prop) (RI : α → List Value → Prop) (a : Addr) (x : α) : Prop := Q a.block ∧ ∃ cs, RI x cs ∧ ∀ j u, cs[j]? = some u → w.cell? (a.add j) = some u
inductive PendI {α : Type} (w : World) (Q : Nat → Prop) (C : Nat) (RI : α → List Value → Prop) (pre : List α → List α) : List SL → List α → Prop where
  | nil : PendI w Q C RI pre [] []
  | cons {x : SL} {s : List SL} {l R : List α} (h : SliceI w Q C RI l (sl x)) (t : PendI w Q C RI pre s R) : PendI w Q C RI pre (x :: s) (pre l ++ R)
section
variable {α : Type} {w : World} {Q : Nat → Prop} {C : Nat} {RI : α → List Value → Prop} {pre sub : List α → List α}
theorem slice_head {x : α} {l : List α} {a : Addr} {n cap : Nat} (h : SliceI w Q C RI (x :: l) (.slice (some a) n cap)) : NodeI w Q RI a x := by
  obtain ⟨A, cap', css, h1, h2, h3, h4⟩ := h
  injection h1 with hA
  subst hA
  obtain ⟨a', h5, h6, h7⟩ := h3 (by simp)
  injection h5 with h5
  subst h5
  refine ⟨h6, css 0, h4 0 (by simp), fun j u hu => ?_⟩
  have := h7 0 (by simp) j u hu
  rwa [Nat.zero_mul, Nat.zero_add] at this
theorem slice_tail {x : α} {l : List α} {a : Addr} {n cap : Nat} (h : SliceI w Q C RI (x :: l) (.slice (some a) n cap)) : SliceI w Q C RI l (.slice (some (a.add C)) (n - 1) (cap - 1)) := by
  obtain ⟨A, cap', css, h1, h2, h3, h4⟩ := h
  injection h1 with hA hn hc
  subst hA hn hc
  simp only [List.length_cons] at h2 h3
  refine ⟨some (a.add C), cap - 1, fun i => css (i + 1), by simp, ⟨by omega, by omega⟩, fun h0 => ?_, fun i hi => ?_⟩
  · obtain ⟨a', h5, h6, h7⟩ := h3 (by omega)
    injection h5 with h5
    subst h5
    refine ⟨_, rfl, by rw [block_add]; exact h6, fun i hi j u hu => ?_⟩
    have := h7 (i + 1) (by omega) j u hu
    rw [add_add]
    rwa [show C + (i * C + j) = (i + 1) * C + j by rw [Nat.succ_mul]; omega]
  · have := h4 (i + 1) (by simp; omega)
    simpa using this
theorem slice_len {l : List α} {A : Option Addr} {n cap : Nat} (h : SliceI w Q C RI l (.slice A n cap)) : n = l.length ∧ n ≤ cap ∧ cap ≤ 9223372036854775807 ∧ (0 < n → A ≠ none) := by
  obtain ⟨A', cap', css, h1, h2, h3, h4⟩ := h
  injection h1 with hA hn hc
  subst hA hn hc
  refine ⟨rfl, h2.1, h2.2, fun h0 => ?_⟩
  obtain ⟨a, h5, _⟩ := h3 h0
  rw [h5]; simp
theorem pend_push {s : List SL} {R l : List α} {A : Option Addr} {n cap : Nat} (h0 : pre [] = []) (hp : PendI w Q C RI pre s R) (h : SliceI w Q C RI l (.slice A n cap)) : PendI w Q C RI pre (pushS s A n cap) (pre l ++ R) := by
  obtain ⟨rfl, h1, h2, h3⟩ := slice_len h
  rcases Nat.eq_zero_or_pos l.length with hl | hl
  · obtain rfl : l = [] := List.eq_nil_of_length_eq_zero hl
    rw [List.length_nil, pushS_zero, h0]
    exact hp
  · obtain ⟨a, rfl⟩ : ∃ a, A = some a := by cases A with | none => exact absurd rfl (h3 hl) | some a => exact ⟨a, rfl⟩
    rw [pushS_pos s a cap hl]
    exact .cons h hp
theorem pend_len {s : List SL} {R : List α} (hpre : ∀ x l, 1 ≤ (pre (x :: l)).length) (hg : ∀ x ∈ s, goodS x) (hp : PendI w Q C RI pre s R) : s.length ≤ R.length := by
  induction hp with
  | nil => simp
  | @cons x s l R h t ih =>
    have h1 := ih (fun y hy => hg y (List.mem_cons_of_mem _ hy))
    obtain ⟨h2, _⟩ := slice_len h
    have h3 := (hg x (List.mem_cons_self ..)).1
    cases l with
    | nil => simp at h2; omega
    | cons y l => have := hpre y l; simp only [List.length_cons, List.length_append]; omega
theorem pend_none {R : List α} (h : PendI w Q C RI pre [] R) : R = [] := by cases h; rfl
theorem pend_some {x : SL} {s : List SL} {R : List α} (hg : goodS x) (h : PendI w Q C RI pre (x :: s) R) : ∃ e l R', R = pre (e :: l) ++ R' ∧ NodeI w Q RI x.1 e ∧ PendI w Q C RI pre s R' ∧ x.2.1 = l.length + 1 ∧ SliceI w Q C RI l (.slice (some (x.1.add C)) (x.2.1 - 1) (x.2.2 - 1)) := by
  cases h with
  | @cons _ _ l R h t =>
    obtain ⟨h2, _⟩ := slice_len h
    have h3 := hg.1
    cases l with
    | nil => simp at h2; omega
    | cons y l => exact ⟨y, l, _, rfl, slice_head h, t, by simpa using h2, slice_tail h⟩
end
mutual
def preE : E → List E
  | .mk op n nm ks => .mk op n nm ks :: preL ks
def preL : List E → List E
  | [] => []
  | k :: ks => preE k ++ preL ks
end
theorem preE_eq (e : E) : preE e = e :: preL e.ks := by cases e; rw [preE]; rfl
theorem preL_cons (e : E) (l : List E) : preL (e :: l) = e :: (preL e.ks ++ preL l) := by rw [preL, preE_eq]; rfl
/-- the cursor c has the nodes R ahead -/
def WalkE (w W : World) (Q : Nat → Prop) (base c : Nat) (v : Value) (R : List E) : Prop :=
  ∃ last s R0, CurE W base c v last s ∧ PendI w Q 4 (ExprI w Q) preL s R0 ∧ ((last = none ∧ R = R0) ∨ ∃ a e, last = some a ∧ NodeI w Q (ExprI w Q) a e ∧ R = preL e.ks ++ R0)
def NextE (w : World) (Q : Nat → Prop) (base c : Nat) (v : Value) (R : List E) (W : World) (e : Ending) (w' : World) : Prop :=
  ∃ v', Moves (ownE c v) W w' ∧ (∀ j, v'.ownBlock = some j → W.heap.size ≤ j ∨ v.ownBlock = some j) ∧
    ((R = [] ∧ e = .returned (.pointer none)) ∨ ∃ a x R', R = x :: R' ∧ e = .returned (.pointer (some a)) ∧ NodeI w Q (ExprI w Q) a x ∧ WalkE w w' Q base c v' R')
theorem popped {w W w' : World} {Q : Nat → Prop} {base c : Nat} {v : Value} {s : List SL} {R : List E} {e : Ending} (hg : ∀ x ∈ s, goodS x) (hp : PendI w Q 4 (ExprI w Q) preL s R)
    (h : StepE base c v (.pointer (popSE s).1) (popSE s).1 (popSE s).2 W e w') : NextE w Q base c v R W e w' := by
  obtain ⟨v', he, hc, hm, hl⟩ := h
  refine ⟨v', hm, hl, ?_⟩
  match s with
  | [] => exact .inl ⟨pend_none hp, he⟩
  | (a, n, cap) :: s =>
    obtain ⟨x, l, R', rfl, hn, hp', hlen, hsl⟩ := pend_some (hg _ (List.mem_cons_self ..)) hp
    refine .inr ⟨a, x, preL x.ks ++ (preL l ++ R'), by rw [preL_cons]; simp, he, hn, _, _, preL l ++ R', hc, ?_, .inr ⟨a, x, rfl, hn, rfl⟩⟩
    simp only at hlen
    simp only [popSE]
    by_cases h1 : n = 1
    · rw [if_pos h1]
      obtain rfl : l = [] := List.eq_nil_of_length_eq_zero (by omega)
      exact hp'
    · rw [if_neg h1]
      exact .cons (x := (a.add 4, n - 1, cap - 1)) hsl hp'
theorem nextE_any {w W : World} {Q : Nat → Prop} {base c : Nat} {v : Value} {R : List E} (h : WalkE w W Q base c v R) (hI : In Q w W) (hbase : base ≤ W.heap.size) (hR : R.length ≤ 1099511627770) :
    Calls Try.prog 113 #[.pointer (some ⟨c, 0, none⟩)] W (NextE w Q base c v R W) := by
  obtain ⟨last, s, R0, hc, hp, hl⟩ := h
  have hlen := pend_len (pre := preL) (fun x l => by rw [preL_cons]; simp) hc.good hp
  rcases hl with ⟨rfl, rfl⟩ | ⟨a, e, rfl, hn, rfl⟩
  · exact (nextE_none base c v s W hc (by omega)).mono fun e' w' h' => popped hc.good hp h'
  · obtain ⟨hqa, cs, hx, hcell⟩ := hn
    cases hx with
    | @mk op n nm ks A cap css hop hn hnm hcap hA hk =>
      have hsl : SliceI w Q 4 (ExprI w Q) ks (.slice A ks.length cap) := ⟨A, cap, css, rfl, hcap, hA, hk⟩
      have hk3 : W.cell? ⟨a.block, a.off + 3, none⟩ = some (.slice A ks.length cap) := by
        rw [← add_ne a (by decide)]
        exact (hI.cell (by rw [block_add]; exact hqa)).trans (hcell 3 _ rfl)
      obtain ⟨_, _, _, hA'⟩ := slice_len hsl
      simp only [List.length_append] at hR
      refine (nextE_some base c v s a A ks.length cap W hc hk3 hA' hcap.1 hcap.2 hbase (by omega)).mono fun e' w' h' => ?_
      exact popped (pushS_goodE hc.good hcap.1 hcap.2) (pend_push (pre := preL) (by rw [preL]) hp hsl) h'
/-- a new cursor has all nodes ahead -/
theorem exprs_any {w W : World} {Q : Nat → Prop} {l : List E} {A : Option Addr} {n cap : Nat} (h : SliceI w Q 4 (ExprI w Q) l (.slice A n cap)) :
    Calls Try.prog 112 #[.slice A n cap] W fun e w' => ∃ v, e = .returned (.pointer (some ⟨W.heap.size, 0, none⟩)) ∧ WalkE w w' Q W.heap.size W.heap.size v (preL l) ∧ Below W.heap.size W w' ∧ ∀ j, v.ownBlock = some j → W.heap.size < j := by
  obtain ⟨rfl, h1, h2, h3⟩ := slice_len h
  refine (makeE_any A l.length cap W h3 h1 h2).mono fun e w' ⟨v, he, hc, hb, hj⟩ => ⟨v, he, ⟨none, _, _, hc, ?_, .inl ⟨rfl, rfl⟩⟩, hb, hj⟩
  have := pend_push (pre := preL) (s := []) (R := []) (by rw [preL]) .nil h
  rwa [List.append_nil] at this
mutual
def preS : S → List S
  | .mk id kind labels nm proc x has args th el => .mk id kind labels nm proc x has args th el :: (preSL th ++ preSL el)
def preSL : List S → List S
  | [] => []
  | k :: ks => preS k ++ preSL ks
end
def subS : S → List S
  | .mk _ _ _ _ _ _ _ _ th el => preSL th ++ preSL el
theorem preS_eq (e : S) : preS e = e :: subS e := by cases e; rw [preS]; rfl
theorem preSL_cons (e : S) (l : List S) : preSL (e :: l) = e :: (subS e ++ preSL l) := by rw [preSL, preS_eq]; rfl
/-- the cursor c has the nodes R ahead -/
def WalkS (w W : World) (Q : Nat → Prop) (base c : Nat) (v : Value) (R : List S) : Prop :=
  ∃ last s R0, CurS W base c v last s ∧ PendI w Q 13 (StmtI w Q) preSL s R0 ∧ ((last = none ∧ R = R0) ∨ ∃ a e, last = some a ∧ NodeI w Q (StmtI w Q) a e ∧ R = subS e ++ R0)
def NextS (w : World) (Q : Nat → Prop) (base c : Nat) (v : Value) (R : List S) (W : World) (e : Ending) (w' : World) : Prop :=
  ∃ v', Moves (ownS c v) W w' ∧ (∀ j, v'.ownBlock = some j → W.heap.size ≤ j ∨ v.ownBlock = some j) ∧
    ((R = [] ∧ e = .returned (.pointer none)) ∨ ∃ a x R', R = x :: R' ∧ e = .returned (.pointer (some a)) ∧ NodeI w Q (StmtI w Q) a x ∧ WalkS w w' Q base c v' R')
theorem poppedS {w W w' : World} {Q : Nat → Prop} {base c : Nat} {v : Value} {s : List SL} {R : List S} {e : Ending} (hg : ∀ x ∈ s, goodS x) (hp : PendI w Q 13 (StmtI w Q) preSL s R)
    (h : StepS base c v (.pointer (popSS s).1) (popSS s).1 (popSS s).2 W e w') : NextS w Q base c v R W e w' := by
  obtain ⟨v', he, hc, hm, hl⟩ := h
  refine ⟨v', hm, hl, ?_⟩
  match s with
  | [] => exact .inl ⟨pend_none hp, he⟩
  | (a, n, cap) :: s =>
    obtain ⟨x, l, R', rfl, hn, hp', hlen, hsl⟩ := pend_some (hg _ (List.mem_cons_self ..)) hp
    refine .inr ⟨a, x, subS x ++ (preSL l ++ R'), by rw [preSL_cons]; simp, he, hn, _, _, preSL l ++ R', hc, ?_, .inr ⟨a, x, rfl, hn, rfl⟩⟩
    simp only at hlen
    simp only [popSS]
    by_cases h1 : n = 1
    · rw [if_pos h1]
      obtain rfl : l = [] := List.eq_nil_of_length_eq_zero (by omega)
      exact hp'
    · rw [if_neg h1]
      exact .cons (x := (a.add 13, n - 1, cap - 1)) hsl hp'
theorem nextS_any {w W : World} {Q : Nat → Prop} {base c : Nat} {v : Value} {R : List S} (h : WalkS w W Q base c v R) (hI : In Q w W) (hbase : base ≤ W.heap.size) (hR : R.length ≤ 1099511627770) :
    Calls Try.prog 63 #[.pointer (some ⟨c, 0, none⟩)] W (NextS w Q base c v R W) := by
  obtain ⟨last, s, R0, hc, hp, hl⟩ := h
  have hlen := pend_len (pre := preSL) (fun x l => by rw [preSL_cons]; simp) hc.good hp
  rcases hl with ⟨rfl, rfl⟩ | ⟨a, e, rfl, hn, rfl⟩
  · exact (nextS_none base c v s W hc (by omega)).mono fun e' w' h' => poppedS hc.good hp h'
  · obtain ⟨hqa, cs, hx, hcell⟩ := hn
    cases hx with
    | @mk id kind labels nm proc x has args th el vl va x0 x1 x2 x3 A1 A2 cap1 cap2 css1 css2 hid hkind hnm hproc hl hx ha hc1 hc2 hA1 hA2 hk1 hk2 =>
      have hsl1 : SliceI w Q 13 (StmtI w Q) th (.slice A1 th.length cap1) := ⟨A1, cap1, css1, rfl, hc1, hA1, hk1⟩
      have hsl2 : SliceI w Q 13 (StmtI w Q) el (.slice A2 el.length cap2) := ⟨A2, cap2, css2, rfl, hc2, hA2, hk2⟩
      have hk11 : W.cell? ⟨a.block, a.off + 11, none⟩ = some (.slice A1 th.length cap1) := by
        rw [← add_ne a (by decide)]
        exact (hI.cell (by rw [block_add]; exact hqa)).trans (hcell 11 _ rfl)
      have hk12 : W.cell? ⟨a.block, a.off + 12, none⟩ = some (.slice A2 el.length cap2) := by
        rw [← add_ne a (by decide)]
        exact (hI.cell (by rw [block_add]; exact hqa)).trans (hcell 12 _ rfl)
      obtain ⟨_, _, _, hA1'⟩ := slice_len hsl1
      obtain ⟨_, _, _, hA2'⟩ := slice_len hsl2
      simp only [subS, List.length_append] at hR
      refine (nextS_some base c v s a A1 A2 th.length cap1 el.length cap2 W hc hk11 hk12 hA1' hc1.1 hc1.2 hA2' hc2.1 hc2.2 hbase (by omega)).mono fun e' w' h' => ?_
      have hp2 := pend_push (pre := preSL) (by rw [preSL]) (pend_push (pre := preSL) (by rw [preSL]) hp hsl2) hsl1
      rw [← List.append_assoc] at hp2
      exact poppedS (pushS_goodS (pushS_goodS hc.good hc2.1 hc2.2) hc1.1 hc1.2) hp2 h'
/-- a new cursor has all nodes ahead -/
theorem stmts_any {w W : World} {Q : Nat → Prop} {l : List S} {A : Option Addr} {n cap : Nat} (h : SliceI w Q 13 (StmtI w Q) l (.slice A n cap)) :
    Calls Try.prog 62 #[.slice A n cap] W fun e w' => ∃ v, e = .returned (.pointer (some ⟨W.heap.size, 0, none⟩)) ∧ WalkS w w' Q W.heap.size W.heap.size v (preSL l) ∧ Below W.heap.size W w' ∧ ∀ j, v.ownBlock = some j → W.heap.size < j := by
  obtain ⟨rfl, h1, h2, h3⟩ := slice_len h
  refine (makeS_any A l.length cap W h3 h1 h2).mono fun e w' ⟨v, he, hc, hb, hj⟩ => ⟨v, he, ⟨none, _, _, hc, ?_, .inl ⟨rfl, rfl⟩⟩, hb, hj⟩
  have := pend_push (pre := preSL) (s := []) (R := []) (by rw [preSL]) .nil h
  rwa [List.append_nil] at this
theorem WalkE.keep {own : Nat → Prop} {w W W' : World} {Q : Nat → Prop} {base c : Nat} {v : Value} {R : List E} (h : WalkE w W Q base c v R) (hm : Moves own W W') (hn : ∀ k, ownE c v k → ¬ own k) : WalkE w W' Q base c v R := by
  obtain ⟨last, s, R0, hc, hp, hl⟩ := h
  exact ⟨last, s, R0, hc.keep hm hn, hp, hl⟩
theorem WalkE.lt {w W : World} {Q : Nat → Prop} {base c : Nat} {v : Value} {R : List E} (h : WalkE w W Q base c v R) : c < W.heap.size ∧ ∀ j, v.ownBlock = some j → base ≤ j ∧ j < W.heap.size := by
  obtain ⟨last, s, R0, hc, hp, hl⟩ := h
  exact ⟨hc.blk.lt, hc.row.lt⟩
/-- the node at hand, and what is ahead -/
def AtE (w W : World) (Q : Nat → Prop) (base c : Nat) (o : Option Addr) (L : List E) : Prop := (o = none ∧ L = []) ∨ ∃ a x R v, o = some a ∧ L = x :: R ∧ NodeI w Q (ExprI w Q) a x ∧ WalkE w W Q base c v R
theorem WalkS.lt {w W : World} {Q : Nat → Prop} {base c : Nat} {v : Value} {R : List S} (h : WalkS w W Q base c v R) : c < W.heap.size ∧ ∀ j, v.ownBlock = some j → base ≤ j ∧ j < W.heap.size := by
  obtain ⟨last, s, R0, hc, hp, hl⟩ := h
  exact ⟨hc.blk.lt, hc.row.lt⟩
/-- the node at hand, and what is ahead -/
def AtS (w W : World) (Q : Nat → Prop) (base c : Nat) (o : Option Addr) (L : List S) : Prop := (o = none ∧ L = []) ∨ ∃ a x R v, o = some a ∧ L = x :: R ∧ NodeI w Q (StmtI w Q) a x ∧ WalkS w W Q base c v R
theorem nextS_at {w W : World} {Q : Nat → Prop} {base c : Nat} {v : Value} {R : List S} (h : WalkS w W Q base c v R) (hI : In Q w W) (hbase : base ≤ W.heap.size) (hc : base ≤ c) (hR : R.length ≤ 1099511627770) :
    Calls Try.prog 63 #[.pointer (some ⟨c, 0, none⟩)] W fun e w' => ∃ o, e = .returned (.pointer o) ∧ AtS w w' Q base c o R ∧ Below base W w' := by
  refine (nextS_any h hI hbase hR).mono ?_
  rintro e w' ⟨v', hm, hl, hd⟩
  have hb : Below base W w' := hm.below hbase (fun j hj => by rcases hj with rfl | hj; exact hc; exact (h.lt.2 j hj).1)
  rcases hd with ⟨rfl, rfl⟩ | ⟨a, x, R', rfl, rfl, hn, hw⟩
  · exact ⟨none, rfl, .inl ⟨rfl, rfl⟩, hb⟩
  · exact ⟨some a, rfl, .inr ⟨a, x, R', v', rfl, rfl, hn, hw⟩, hb⟩
theorem nextE_mv {w W : World} {Q : Nat → Prop} {base c : Nat} {v : Value} {R : List E} (h : WalkE w W Q base c v R) (hI : In Q w W) (hbase : base ≤ W.heap.size) (hR : R.length ≤ 1099511627770) :
    Calls Try.prog 113 #[.pointer (some ⟨c, 0, none⟩)] W fun e w' => ∃ o, e = .returned (.pointer o) ∧ AtE w w' Q base c o R ∧ Moves (ownE c v) W w' := by
  refine (nextE_any h hI hbase hR).mono ?_
  rintro e w' ⟨v', hm, hl, hd⟩
  rcases hd with ⟨rfl, rfl⟩ | ⟨a, x, R', rfl, rfl, hn, hw⟩
  · exact ⟨none, rfl, .inl ⟨rfl, rfl⟩, hm⟩
  · exact ⟨some a, rfl, .inr ⟨a, x, R', v', rfl, rfl, hn, hw⟩, hm⟩
end Go.Proofs.Ytcocilpifdjibaa
namespace Go.Proofs.Ytcocilpifdjibaa
open Go.ChangeShapes Go.WideShapes Go.ChangeAt Go.RowKit
theorem info_u8 : (Try.prog.info? 5).map (fun i => (i.zero, i.size, i.bytes)) = some (some (.int .u8 0), 1, 1) := by kernel_rfl
set_option maxHeartbeats 4000000 in
set_option maxRecDepth 100000 in
theorem liteClone_any (s : ByteArray) (w : World) (hlim : s.size ≤ 281474976710656) :
    Calls Try.prog 161 #[.string s] w fun e w' => e = .returned (.string s) ∧ Below w.heap.size w w' := by
  by_cases h0 : s.size = 0
  · have hs : s = ⟨#[]⟩ := by
      apply ByteArray.ext
      exact Array.eq_empty_of_size_eq_zero h0
    subst hs
    go_enter Try.func161, Try.ntmps161
    go_wp2
    go_ret
    exact ⟨rfl, Below.refl _ _⟩
  · obtain ⟨i0, hi, hz0, hz1, hz2⟩ := info_parts info_u8
    have hinfo : (Try.prog.info? 5).map (·.size) = some 1 := by rw [hi]; simp [hz1]
    have hco : Try.prog.cellsOf 5 = 1 := by simp [Program.cellsOf, hi, hz1]
    obtain ⟨M, hM⟩ : ∃ M, M = madeCells (Value.int .u8 0).cells (((s.size : Nat) : Int).toNat * i0.size) := ⟨_, rfl⟩
    have hMs : M.size = s.size := by rw [hM, size_madeCells, hz1]; simp
    have hmk : ∀ W : World, (Instr.makeSlice 119 (.int .i64 (s.size : Int)) (.int .i64 (s.size : Int))).run Try.prog W = .ok (.slice (some ⟨W.heap.size, 0, none⟩) s.size s.size) (W.alloc (.cells M 5)) := fun W => by
      have h := run_make (P := Try.prog) W 119 5 i0 (.int .u8 0) Try.underlying119 hi hz0 .i64 .i64 (s.size : Int) (s.size : Int) (by omega) (by omega) (by rw [hz2]; omega) (by omega)
      rw [← hM] at h
      simpa using h
    clear hM
    have hcp := Lib.run_copy_row_string (P := Try.prog) (w.alloc (.cells M 5)) 119 9 3 5 w.heap.size 0 s.size s.size s M 5 Try.underlying119 hinfo (heap_alloc_new w _) (Nat.le_refl _) (by omega)
    obtain ⟨Y, hY⟩ : ∃ Y, Y = (M.toList.take 0 ++ Lib.byteCells s.data.toList ++ M.toList.drop (0 + s.size)).toArray := ⟨_, rfl⟩
    rw [← hY] at hcp
    have hYl : Y.toList = Lib.byteCells s.data.toList := by
      rw [hY, List.toList_toArray, List.take_zero, List.nil_append, List.drop_of_length_le (by rw [Array.length_toList]; omega), List.append_nil]
    have hYs : Y.size = s.size := by rw [← Array.length_toList, hYl, Lib.byteCells_length, ← Lib.size_eq]
    have hgY : ((w.alloc (.cells M 5)).setRow w.heap.size Y).heap[w.heap.size]? = some (.cells Y 5 (0, 0)) := setRow_heap _ _ M _ 5 (0, 0) (heap_alloc_new w _)
    have hne : s.data.toList ≠ [] := fun e => h0 (by rw [Lib.size_eq, e]; rfl)
    have hUS := Lib.run_unsafeString_row (P := Try.prog) ((w.alloc (.cells M 5)).setRow w.heap.size Y) 211 3 9 5 Try.underlying211 hco w.heap.size Y.size (by unfold World.shape?; rw [hgY]) s.data.toList hne (by rw [← Lib.size_eq]; omega) (by rw [← Lib.size_eq]; omega)
      (fun j x hx => Lib.cells_of_row hgY Y.size j _ (by rw [List.take_of_length_le (by rw [Array.length_toList]; exact Nat.le_refl _), hYl]; simp [Lib.byteCells, hx]))
    rw [← Lib.size_eq] at hUS
    clear hY
    go_enter Try.func161, Try.ntmps161
    go_wp2
    go_ret
    have hb1 : Below w.heap.size w (w.alloc (.cells M 5)) := (Below.refl _ w).alloc (Nat.le_refl _) _
    have hb2 : Below w.heap.size (w.alloc (.cells M 5)) ((w.alloc (.cells M 5)).setRow w.heap.size Y) := ⟨rfl, rfl, rfl, by simp, fun k hk => setRow_other _ _ _ _ (by omega)⟩
    exact ⟨rfl, Lib.below_freeze (hb1.trans hb2) (p := ⟨w.heap.size, 0, none⟩) (Nat.le_refl _) _⟩
theorem Clone_any (s : ByteArray) (w : World) (hlim : s.size ≤ 281474976710656) :
    Calls Try.prog 108 #[.string s] w fun e w' => e = .returned (.string s) ∧ Below w.heap.size w w' := by
  go_enter Try.func108, Try.ntmps108
  go_wp2_with (go_at_call 161; refine (liteClone_any _ _ hlim).mono ?_; rintro e w' ⟨rfl, hb⟩)
  go_ret
  exact ⟨rfl, hb⟩
end Go.Proofs.Ytcocilpifdjibaa
