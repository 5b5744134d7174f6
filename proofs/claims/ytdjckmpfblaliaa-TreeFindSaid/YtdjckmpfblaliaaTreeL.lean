/- What may be a program: the words, and the contracts of mayHead, mayBlock, May (tree). -/
import Derived.Test.YtdjckmpfblaliaaTreeK2
namespace Go.Proofs.Ytdjckmpfblaliaa
open Go.ChangeShapes Go.WideShapes Go.ChangeAt Go.RowKit Go.Deep
set_option linter.unusedVariables false

theorem stmt_at {w W : World} {Q : Nat → Prop} {l : List S} {A : Option Addr} {n cap : Nat} (h : StmtsI w Q l (.slice A n cap)) (hI : In Q w W) {k : Nat} (hk : k < l.length) :
    ∃ a id kind labels nm proc x has args th el L lc x0 x1 x2 X xn xc R rc T tc U uc, A = some a ∧ Q a.block ∧ l[k] = .mk id kind labels nm proc x has args th el ∧
      RowAt W (a.add (k * 13)) (.int .i64 id) [.int .i64 kind, .slice L labels.length lc, .string nm, .string proc, .int .i64 x0, .int .i64 x1, .string x2, .slice X xn xc, .bool has, .slice R args.length rc, .slice T th.length tc, .slice U el.length uc] ∧
      i64 id ∧ i64 kind ∧ nm.size ≤ 9223372036854775807 ∧ proc.size ≤ 9223372036854775807 ∧ TextsI w Q labels (.slice L labels.length lc) ∧ ExprI w Q x [.int .i64 x0, .int .i64 x1, .string x2, .slice X xn xc] ∧
      SliceI w Q 6 (ArgI w Q) args (.slice R args.length rc) ∧ StmtsI w Q th (.slice T th.length tc) ∧ StmtsI w Q el (.slice U el.length uc) ∧
      StmtI w Q l[k] [.int .i64 id, .int .i64 kind, .slice L labels.length lc, .string nm, .string proc, .int .i64 x0, .int .i64 x1, .string x2, .slice X xn xc, .bool has, .slice R args.length rc, .slice T th.length tc, .slice U el.length uc] := by
  obtain ⟨a, cs, rfl, hq, hs, hc⟩ := slice_at h hI hk
  obtain ⟨id, kind, labels, nm, proc, x, has, args, th, el, L, lc, x0, x1, x2, X, xn, xc, R, rc, T, tc, U, uc, h1, rfl, h2, h3, h4, h5, h6, h7, h8, h9, h10⟩ := stmt_open hs
  exact ⟨a, id, kind, labels, nm, proc, x, has, args, th, el, L, lc, x0, x1, x2, X, xn, xc, R, rc, T, tc, U, uc, rfl, hq, h1, rowAt_elem hc, h2, h3, h4, h5, h6, h7, h8, h9, h10, hs⟩
theorem par_at {w W : World} {Q : Nat → Prop} {l : List Pa} {A : Option Addr} {n cap : Nat} (h : SliceI w Q 2 ParI l (.slice A n cap)) (hI : In Q w W) {k : Nat} (hk : k < l.length) :
    ∃ a, A = some a ∧ Q a.block ∧ RowAt W (a.add (k * 2)) (.string l[k].nm) [.bool l[k].ref] ∧ l[k].nm.size ≤ 9223372036854775807 := by
  obtain ⟨a, cs, rfl, hq, ⟨rfl, h2⟩, hc⟩ := slice_at h hI hk
  exact ⟨a, rfl, hq, rowAt_elem hc, h2⟩
def parsOk (l : List Pa) : Bool := l.all fun p => isNm (bl p.nm)
def headOk (q : Pr) : Bool := !decide (8 < q.params.length) && !decide (16 < q.vars.length) && parsOk q.params && isNm (bl q.nm) && allN q.vars && allN q.end_
mutual
def blkOk : List S → Nat → Nat → Option Nat
  | [], _, c => some c
  | s :: l, d, c => (oneOk s d c).bind fun c' => blkOk l d c'
def oneOk : S → Nat → Nat → Option Nat
  | .mk id kind labels nm proc x has args th el, d, c => if d ≤ 12 ∧ c + 1 ≤ 200 ∧ id = ((c + 1 : Nat) : Int) ∧ stmtOk (.mk id kind labels nm proc x has args th el) = true then
      (blkOk th (d + 1) (c + 1)).bind fun c1 => blkOk el (d + 1) c1 else none
end
theorem blkOk_drop {l : List S} {k d c : Nat} (h : k < l.length) : blkOk (l.drop k) d c = (oneOk l[k] d c).bind fun c' => blkOk (l.drop (k + 1)) d c' := by
  rw [List.drop_eq_getElem_cons h, blkOk]
theorem preSL_at : ∀ {l : List S} {k : Nat} (h : k < l.length), (subS l[k]).length < (preSL l).length
  | s :: l, 0, h => by rw [preSL_cons]; simp; omega
  | s :: l, k + 1, h => by
    have := preSL_at (l := l) (k := k) (by simpa using h)
    rw [preSL_cons]; simp only [List.length_cons, List.length_append, List.getElem_cons_succ]; omega
set_option maxHeartbeats 1000000 in
theorem mayHead_any {w W : World} {Q : Nat → Prop} {q : Pr} {Ap Av Ab Ae : Option Addr} {cp cv nb cb ce : Nat} (hnm : q.nm.size ≤ 9223372036854775807) (hp : SliceI w Q 2 ParI q.params (.slice Ap q.params.length cp)) (hv : TextsI w Q q.vars (.slice Av q.vars.length cv)) (he : TextsI w Q q.end_ (.slice Ae q.end_.length ce)) (hI : In Q w W) :
    Calls Try.prog 50 #[.agg #[.string q.nm, .slice Ap q.params.length cp, .slice Av q.vars.length cv, .slice Ab nb cb, .slice Ae q.end_.length ce]] W (MayOk (headOk q) W) := by
  obtain ⟨qn, qp, qv, qb, qe⟩ := q
  simp only at hnm hp hv he ⊢
  obtain ⟨_, hp1, hp2, _⟩ := slice_len hp
  obtain ⟨_, hv1, hv2, _⟩ := slice_len hv
  have HI := Lib.hid hI
  have HP := Lib.hid hp
  have HV := Lib.hid (fun W h1 => mayNames_any (W := W) hv h1)
  have HE := Lib.hid (fun W h1 => mayNames_any (W := W) he h1)
  have HN := Lib.hid (fun W => Name_any qn W (by unfold maxLen; omega))
  have HM : Hid (headOk ⟨qn, qp, qv, qb, qe⟩ = (!decide (8 < qp.length) && !decide (16 < qv.length) && parsOk qp && isNm (bl qn) && allN qv && allN qe)) := Lib.hid rfl
  obtain ⟨v1, hv1'⟩ : ∃ b, b = isNm (bl qn) := ⟨_, rfl⟩
  obtain ⟨v2, hv2'⟩ : ∃ b, b = allN qv := ⟨_, rfl⟩
  obtain ⟨v3, hv3'⟩ : ∃ b, b = allN qe := ⟨_, rfl⟩
  rw [← hv1'] at HM HN
  rw [← hv2'] at HM HV
  rw [← hv3'] at HM HE
  clear hp hv he hI hv1' hv2' hv3'
  by_cases h8 : 8 < qp.length
  · rw [decide_eq_true h8] at HM
    go_enter Try.func50, Try.ntmps50
    go_wp2_with fail
    go_ret
    exact ⟨ret_bool (by rw [HM.out]; rfl), below_box _⟩
  · by_cases h16 : 16 < qv.length
    · rw [decide_eq_false h8, decide_eq_true h16] at HM
      go_enter Try.func50, Try.ntmps50
      go_wp2_with fail
      go_ret
      exact ⟨ret_bool (by rw [HM.out]; rfl), below_box _⟩
    · rw [decide_eq_false h8, decide_eq_false h16, Bool.not_false, Bool.true_and, Bool.true_and] at HM
      go_enter Try.func50, Try.ntmps50
      go_wp2_with fail
      have HB1 : Hid (Below W.heap.size W (W.alloc (.cells #[.string qn, .slice Ap qp.length cp, .slice Av qv.length cv, .slice Ab nb cb, .slice Ae qe.length ce] 52))) := Lib.hid (below_box _)
      have HQ : Hid (Blk (W.alloc (.cells #[.string qn, .slice Ap qp.length cp, .slice Av qv.length cv, .slice Ab nb cb, .slice Ae qe.length ce] 52)) W.heap.size 52 #[.string qn, .slice Ap qp.length cp, .slice Av qv.length cv, .slice Ab nb cb, .slice Ae qe.length ce]) := Lib.hid (Blk.new _ _ _)
      generalize W.alloc _ = W1 at HB1 HQ ⊢
      go_loopw [18] (fun i wr => ∃ k : Nat, k ≤ qp.length ∧ i = .int .i64 k ∧ Hid ((qp.drop k).all (fun p => isNm (bl p.nm)) = parsOk qp) ∧ Hid (Below W1.heap.size W1 wr)) (fun i _ => qp.length - (intOf i).toNat)
      case atStart => exact ⟨0, Nat.zero_le _, rfl, Lib.hid (by rw [List.drop_zero]; rfl), Lib.hid (Below.refl _ _)⟩
      case round =>
        obtain ⟨k, hk, rfl, HW, HR⟩ := hrel
        by_cases hlt : k < qp.length
        · have hIr : In Q w wr := HI.out.on (HB1.out.trans (HR.out.mono HB1.out.size))
          obtain ⟨a, rfl, _, ⟨p0, p1, _⟩, hs⟩ := par_at HP.out hIr hlt
          have HN2 : Hid (parsOk qp = (isNm (bl qp[k].nm) && (qp.drop (k + 1)).all (fun p => isNm (bl p.nm)))) := Lib.hid (by rw [← all_drop (f := fun p : Pa => isNm (bl p.nm)) hlt, HW.out])
          obtain ⟨x1, hx1⟩ : ∃ x, x = qp[k] := ⟨_, rfl⟩
          rw [← hx1] at p0 p1 hs HN2
          clear hx1 hIr
          obtain ⟨xn, xr⟩ := x1
          simp only at p0 p1 hs HN2
          have HC : Hid (∀ W, Calls Try.prog 73 #[.string xn] W fun e w' => e = .returned (.bool (isNm (bl xn))) ∧ W = w') := Lib.hid (fun W => Name_any xn W (by unfold maxLen; omega))
          cases hv : isNm (bl xn) with
          | true =>
            rw [hv] at HC HN2
            clear hv
            go_wp2_with (go_at_call 73; refine (HC.out _).mono ?_; rintro e w' ⟨rfl, rfl⟩)
            go_roundw
            case rel => exact ⟨k + 1, by omega, by go_num, Lib.hid (by rw [HN2.out, Bool.true_and]), Lib.hid (HR.out.trans ((below_box _).mono HR.out.size))⟩
            case measure => simp [intOf]; omega
          | false =>
            rw [hv] at HC HN2
            clear hv
            go_wp2_with (go_at_call 73; refine (HC.out _).mono ?_; rintro e w' ⟨rfl, rfl⟩)
            go_ret
            exact ⟨ret_bool (by rw [HM.out, HN2.out]; rfl), HB1.out.trans ((HR.out.trans ((below_box _).mono HR.out.size)).mono HB1.out.size)⟩
        · have HN2 : Hid (parsOk qp = true) := Lib.hid (by
            have h1 := HW.out
            rw [List.drop_of_length_le (by omega), List.all_nil] at h1
            exact h1.symm)
          have hb := HQ.out.below HR.out HQ.out.lt
          have q0 : wr.cell? ⟨W.heap.size, 0, none⟩ = some (.string qn) := by rw [hb.cell 0]; rfl
          have q2 : wr.cell? ⟨W.heap.size, 2, none⟩ = some (.slice Av qv.length cv) := by rw [hb.cell 2]; rfl
          have q4 : wr.cell? ⟨W.heap.size, 4, none⟩ = some (.slice Ae qe.length ce) := by rw [hb.cell 4]; rfl
          have HIr := Lib.hid (HI.out.on (HB1.out.trans (HR.out.mono HB1.out.size)))
          clear hb
          go_wp2_with (first
            | (go_at_call 73; (with_reducible refine (HN.out _).mono ?_); rintro e w' ⟨rfl, rfl⟩)
            | (go_at_call 49; (with_reducible refine (HV.out _ HIr.out).mono ?_); rintro e w' ⟨rfl, rfl⟩)
            | (go_at_call 49; (with_reducible refine (HE.out _ HIr.out).mono ?_); rintro e w' ⟨rfl, rfl⟩))
          all_goals
            go_ret
            exact ⟨ret_bool (by rw [HM.out, HN2.out]; simp_all), HB1.out.trans (HR.out.mono HB1.out.size)⟩
end Go.Proofs.Ytdjckmpfblaliaa
