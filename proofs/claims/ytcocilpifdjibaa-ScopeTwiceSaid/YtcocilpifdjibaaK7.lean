/- Texts, merged by a program; only what is used. -/
import Derived.Deep.RegionHeld3
import Derived.Maps.AppendAt
import Derived.Maps.Range
import Derived.Test.YtcocilpifdjibaaK1
import Derived.Test.YtcocilpifdjibaaK2
import Derived.Test.YtcocilpifdjibaaK3
import Derived.Test.YtcocilpifdjibaaK4
import Derived.Test.YtcocilpifdjibaaK5
import Derived.Test.YtcocilpifdjibaaK6
namespace Go.Proofs.Ytcocilpifdjibaa
open Go.ChangeShapes Go.WideShapes Go.ChangeAt Go.RowKit Go.Deep
set_option linter.unusedVariables false
/-- a statement's thirteen cells -/
theorem stmt_open {w : World} {Q : Nat → Prop} {s : S} {cs : List Value} (h : StmtI w Q s cs) :
    ∃ id kind labels nm proc x has args th el L lc x0 x1 x2 X xn xc R rc T tc U uc, s = .mk id kind labels nm proc x has args th el ∧
      cs = [.int .i64 id, .int .i64 kind, .slice L labels.length lc, .string nm, .string proc, .int .i64 x0, .int .i64 x1, .string x2, .slice X xn xc, .bool has, .slice R args.length rc, .slice T th.length tc, .slice U el.length uc] ∧
      i64 id ∧ i64 kind ∧ nm.size ≤ 9223372036854775807 ∧ proc.size ≤ 9223372036854775807 ∧ TextsI w Q labels (.slice L labels.length lc) ∧ ExprI w Q x [.int .i64 x0, .int .i64 x1, .string x2, .slice X xn xc] ∧
      SliceI w Q 6 (ArgI w Q) args (.slice R args.length rc) ∧ StmtsI w Q th (.slice T th.length tc) ∧ StmtsI w Q el (.slice U el.length uc) := by
  cases h with
  | @mk id kind labels nm proc x has args th el vl va x0 x1 x2 x3 A1 A2 cap1 cap2 css1 css2 hid hkind hnm hproc hl hx ha hc1 hc2 hA1 hA2 hk1 hk2 =>
    obtain ⟨L, lc, rfl, _⟩ := hl.shape
    obtain ⟨R, rc, rfl, _⟩ := ha.shape
    obtain ⟨o1, n1, s1, X, xn, xc, hd⟩ := hx.form
    simp only [List.cons.injEq, and_true] at hd
    obtain ⟨rfl, rfl, rfl, rfl⟩ := hd
    exact ⟨id, kind, labels, nm, proc, x, has, args, th, el, L, lc, o1, n1, s1, X, xn, xc, R, rc, A1, cap1, A2, cap2, rfl, rfl, hid, hkind, hnm, hproc, hl, hx, ha, ⟨A1, cap1, css1, rfl, hc1, hA1, hk1⟩, ⟨A2, cap2, css2, rfl, hc2, hA2, hk2⟩⟩
theorem stmtOk_eq (id kind : Int) (labels : List ByteArray) (nm proc : ByteArray) (x : E) (has : Bool) (args : List Ar) (th el : List S) : stmtOk (.mk id kind labels nm proc x has args th el) =
    ((shp kind (!nm.toList.isEmpty) has).ok && (has == (shp kind (!nm.toList.isEmpty) has).has) && ((shp kind (!nm.toList.isEmpty) has).then_ || (((th.length : Nat) : Int) == 0)) && ((shp kind (!nm.toList.isEmpty) has).orElse || (((el.length : Nat) : Int) == 0)) && nmOk nm (shp kind (!nm.toList.isEmpty) has).name && nmOk proc (shp kind (!nm.toList.isEmpty) has).proc && allN labels && xOk x (shp kind (!nm.toList.isEmpty) has).x && ((shp kind (!nm.toList.isEmpty) has).args || (((args.length : Nat) : Int) == 0)) && argsOk args) := rfl
set_option maxHeartbeats 4000000 in
theorem mayStmt_any {w : World} {Q : Nat → Prop} {s : S} {cs : List Value} (h : StmtI w Q s cs) (W : World) (hI : In Q w W) :
    Calls Try.prog 117 #[.agg cs.toArray] W (MayOk (stmtOk s) W) := by
  obtain ⟨id, kind, labels, nm, proc, x, has, args, th, el, L, lc, x0, x1, x2, X, xn, xc, R, rc, T, tc, U, uc, rfl, rfl, hid, hkind, hnm, hproc, hl, hx, ha, hth, hel⟩ := stmt_open h
  obtain ⟨_, hl1, hl2, _⟩ := slice_len hl
  obtain ⟨_, ha1, ha2, _⟩ := slice_len ha
  obtain ⟨_, ht1, ht2, _⟩ := slice_len hth
  obtain ⟨_, hu1, hu2, _⟩ := slice_len hel
  have HI := Lib.hid hI
  have HSh := Lib.hid (fun W => shapeOf_any id kind nm proc has L labels.length lc x0 x1 x2 X xn xc R args.length rc T th.length tc U el.length uc W hkind)
  have HM := Lib.hid (stmtOk_eq id kind labels nm proc x has args th el)
  have HX := Lib.hid (fun W there h1 => mayX_any hx there W h1)
  have HA := Lib.hid (fun W h1 => mayArgs_any (W := W) ha h1)
  have HL := Lib.hid (fun W h1 => mayNames_any (W := W) hl h1)
  generalize shp kind (!nm.toList.isEmpty) has = sh at HSh HM
  obtain ⟨b1, b2, b3, b4, b5, b6, b7, b8⟩ := sh
  simp only at HM
  have HSh' : Hid (∀ W, Calls Try.prog 169 #[.agg #[.int .i64 id, .int .i64 kind, .slice L labels.length lc, .string nm, .string proc, .int .i64 x0, .int .i64 x1, .string x2, .slice X xn xc, .bool has, .slice R args.length rc, .slice T th.length tc, .slice U el.length uc]] W fun e w' => e = .returned (.tuple #[.agg #[.bool b1, .bool b2, .bool b3, .bool b4, .bool b5, .bool b6, .bool b7], .bool b8]) ∧ Below W.heap.size W w') := HSh
  clear hl hx ha hth hel h hI HSh
  have HX' : Hid (∀ W, In Q w W → Calls Try.prog 171 #[.agg #[.int .i64 x0, .int .i64 x1, .string x2, .slice X xn xc], .bool b3] W (MayOk (xOk x b3) W)) := Lib.hid (fun W h1 => HX.out W b3 h1)
  have HN1 : Hid (∀ W, Calls Try.prog 170 #[.string nm, .bool b1] W fun e w' => e = .returned (.bool (nmOk nm b1)) ∧ W = w') := Lib.hid (fun W => mayName_any nm b1 W hnm)
  have HN2 : Hid (∀ W, Calls Try.prog 170 #[.string proc, .bool b2] W fun e w' => e = .returned (.bool (nmOk proc b2)) ∧ W = w') := Lib.hid (fun W => mayName_any proc b2 W hproc)
  clear HX
  obtain ⟨v1, hv1⟩ : ∃ b, b = nmOk nm b1 := ⟨_, rfl⟩
  obtain ⟨v2, hv2⟩ : ∃ b, b = nmOk proc b2 := ⟨_, rfl⟩
  obtain ⟨v3, hv3⟩ : ∃ b, b = allN labels := ⟨_, rfl⟩
  obtain ⟨v4, hv4⟩ : ∃ b, b = xOk x b3 := ⟨_, rfl⟩
  obtain ⟨v5, hv5⟩ : ∃ b, b = argsOk args := ⟨_, rfl⟩
  rw [← hv1] at HM HN1
  rw [← hv2] at HM HN2
  rw [← hv3] at HM HL
  rw [← hv4] at HM HX'
  rw [← hv5] at HM HA
  clear hv1 hv2 hv3 hv4 hv5
  have HA0 : Hid (args.length = 0 → ∀ W, In Q w W → Calls Try.prog 172 #[.slice R 0 rc] W (MayOk v5 W)) := Lib.hid (fun hz W h1 => by have := HA.out W h1; rw [hz] at this; exact this)
  go_enter Try.func117, Try.ntmps117
  simp only [List.append_eq, List.cons_append, List.nil_append]
  go_wp2_with (first
    | (go_at_call 169; (with_reducible refine (HSh'.out _).mono ?_); rintro e w1 ⟨rfl, hb1⟩; have hc1 := (bcell hb1).1; have hz1 : W.heap.size < w1.heap.size := (by have := hb1.size; simp at this; omega); have HB1 := Lib.hid (below_new hb1); clear hb1)
    | (go_at_call 170; (with_reducible refine (HN1.out _).mono ?_); rintro e w' ⟨rfl, rfl⟩)
    | (go_at_call 170; (with_reducible refine (HN2.out _).mono ?_); rintro e w' ⟨rfl, rfl⟩)
    | (go_at_call 57; (with_reducible refine (HL.out _ ((HI.out.on HB1.out).alloc _)).mono ?_); rintro e w' ⟨rfl, rfl⟩)
    | (go_at_call 171; (with_reducible refine (HX'.out _ ((HI.out.on HB1.out).alloc _)).mono ?_); rintro e w2 ⟨rfl, hb2⟩; have hc2 := (bcell hb2).1; have HB2 := Lib.hid (HB1.out.trans ((below_new hb2).mono HB1.out.size)); have hz2 : w1.heap.size < w2.heap.size := (by have := hb2.size; simp at this; omega); clear hb2)
    | (go_at_call 172; (with_reducible refine (HA.out _ (HI.out.on HB2.out)).mono ?_); rintro e w3 ⟨rfl, hb3⟩; have HB3 := Lib.hid (HB2.out.trans (hb3.mono HB2.out.size)); clear hb3)
    | (go_at_call 172; (with_reducible refine (HA0.out (by first | assumption | omega | simp_all) _ (HI.out.on HB2.out)).mono ?_); rintro e w3 ⟨rfl, hb3⟩; have HB3 := Lib.hid (HB2.out.trans (hb3.mono HB2.out.size)); clear hb3))
  all_goals
    go_ret
    refine ⟨ret_bool ?_, ?_⟩
    · rw [HM.out]; simp_all
    · first | exact HB3.out | exact HB2.out | exact HB1.out.trans ((below_box _).mono HB1.out.size)
end Go.Proofs.Ytcocilpifdjibaa
namespace Go.Proofs.Ytcocilpifdjibaa
open Go.ChangeShapes Go.WideShapes Go.ChangeAt Go.RowKit Go.Deep
set_option linter.unusedVariables false
theorem stmt_at {w W : World} {Q : Nat → Prop} {l : List S} {A : Option Addr} {n cap : Nat} (h : StmtsI w Q l (.slice A n cap)) (hI : In Q w W) {k : Nat} (hk : k < l.length) :
    ∃ a id kind labels nm proc x has args th el L lc x0 x1 x2 X xn xc R rc T tc U uc, A = some a ∧ Q a.block ∧ l[k] = .mk id kind labels nm proc x has args th el ∧
      RowAt W (a.add (k * 13)) (.int .i64 id) [.int .i64 kind, .slice L labels.length lc, .string nm, .string proc, .int .i64 x0, .int .i64 x1, .string x2, .slice X xn xc, .bool has, .slice R args.length rc, .slice T th.length tc, .slice U el.length uc] ∧
      i64 id ∧ i64 kind ∧ nm.size ≤ 9223372036854775807 ∧ proc.size ≤ 9223372036854775807 ∧ TextsI w Q labels (.slice L labels.length lc) ∧ ExprI w Q x [.int .i64 x0, .int .i64 x1, .string x2, .slice X xn xc] ∧
      SliceI w Q 6 (ArgI w Q) args (.slice R args.length rc) ∧ StmtsI w Q th (.slice T th.length tc) ∧ StmtsI w Q el (.slice U el.length uc) ∧
      StmtI w Q l[k] [.int .i64 id, .int .i64 kind, .slice L labels.length lc, .string nm, .string proc, .int .i64 x0, .int .i64 x1, .string x2, .slice X xn xc, .bool has, .slice R args.length rc, .slice T th.length tc, .slice U el.length uc] := by
  obtain ⟨a, cs, rfl, hq, hs, hc⟩ := slice_at h hI hk
  obtain ⟨id, kind, labels, nm, proc, x, has, args, th, el, L, lc, x0, x1, x2, X, xn, xc, R, rc, T, tc, U, uc, h1, rfl, h2, h3, h4, h5, h6, h7, h8, h9, h10⟩ := stmt_open hs
  exact ⟨a, id, kind, labels, nm, proc, x, has, args, th, el, L, lc, x0, x1, x2, X, xn, xc, R, rc, T, tc, U, uc, rfl, hq, h1, rowAt_elem hc, h2, h3, h4, h5, h6, h7, h8, h9, h10, hs⟩
theorem par_at {w W : World} {Q : Nat → Prop} {l : List Pa} {A : Option Addr} {n cap : Nat} (h : SliceI w Q 2 ParI l (.slice A n cap)) (hI : In Q w W) {k : Nat} (hk : k < l.length) :
    ∃ a, A = some a ∧ Q a.block ∧ RowAt W (a.add (k * 2)) (.string l[k].nm) [.bool l[k].ref] ∧ l[k].nm.size ≤ 9223372036854775807 := by
  obtain ⟨a, cs, rfl, hq, ⟨rfl, h2⟩, hc⟩ := slice_at h hI hk
  exact ⟨a, rfl, hq, rowAt_elem hc, h2⟩
def parsOk (l : List Pa) : Bool := l.all fun p => isNm (bl p.nm)
def headOk (q : Pr) : Bool := !decide (8 < q.params.length) && !decide (16 < q.vars.length) && parsOk q.params && isNm (bl q.nm) && allN q.vars && allN q.end_
mutual
def blkOk : List S → Nat → Nat → Option Nat
  | [], _, c => some c
  | s :: l, d, c => (oneOk s d c).bind fun c' => blkOk l d c'
def oneOk : S → Nat → Nat → Option Nat
  | .mk id kind labels nm proc x has args th el, d, c => if d ≤ 12 ∧ c + 1 ≤ 200 ∧ id = ((c + 1 : Nat) : Int) ∧ stmtOk (.mk id kind labels nm proc x has args th el) = true then
      (blkOk th (d + 1) (c + 1)).bind fun c1 => blkOk el (d + 1) c1 else none
end
theorem blkOk_drop {l : List S} {k d c : Nat} (h : k < l.length) : blkOk (l.drop k) d c = (oneOk l[k] d c).bind fun c' => blkOk (l.drop (k + 1)) d c' := by
  rw [List.drop_eq_getElem_cons h, blkOk]
theorem preSL_at : ∀ {l : List S} {k : Nat} (h : k < l.length), (subS l[k]).length < (preSL l).length
  | s :: l, 0, h => by rw [preSL_cons]; simp; omega
  | s :: l, k + 1, h => by
    have := preSL_at (l := l) (k := k) (by simpa using h)
    rw [preSL_cons]; simp only [List.length_cons, List.length_append, List.getElem_cons_succ]; omega
set_option maxHeartbeats 1000000 in
theorem mayHead_any {w W : World} {Q : Nat → Prop} {q : Pr} {Ap Av Ab Ae : Option Addr} {cp cv nb cb ce : Nat} (hnm : q.nm.size ≤ 9223372036854775807) (hp : SliceI w Q 2 ParI q.params (.slice Ap q.params.length cp)) (hv : TextsI w Q q.vars (.slice Av q.vars.length cv)) (he : TextsI w Q q.end_ (.slice Ae q.end_.length ce)) (hI : In Q w W) :
    Calls Try.prog 58 #[.agg #[.string q.nm, .slice Ap q.params.length cp, .slice Av q.vars.length cv, .slice Ab nb cb, .slice Ae q.end_.length ce]] W (MayOk (headOk q) W) := by
  obtain ⟨qn, qp, qv, qb, qe⟩ := q
  simp only at hnm hp hv he ⊢
  obtain ⟨_, hp1, hp2, _⟩ := slice_len hp
  obtain ⟨_, hv1, hv2, _⟩ := slice_len hv
  have HI := Lib.hid hI
  have HP := Lib.hid hp
  have HV := Lib.hid (fun W h1 => mayNames_any (W := W) hv h1)
  have HE := Lib.hid (fun W h1 => mayNames_any (W := W) he h1)
  have HN := Lib.hid (fun W => Name_any qn W (by unfold maxLen; omega))
  have HM : Hid (headOk ⟨qn, qp, qv, qb, qe⟩ = (!decide (8 < qp.length) && !decide (16 < qv.length) && parsOk qp && isNm (bl qn) && allN qv && allN qe)) := Lib.hid rfl
  obtain ⟨v1, hv1'⟩ : ∃ b, b = isNm (bl qn) := ⟨_, rfl⟩
  obtain ⟨v2, hv2'⟩ : ∃ b, b = allN qv := ⟨_, rfl⟩
  obtain ⟨v3, hv3'⟩ : ∃ b, b = allN qe := ⟨_, rfl⟩
  rw [← hv1'] at HM HN
  rw [← hv2'] at HM HV
  rw [← hv3'] at HM HE
  clear hp hv he hI hv1' hv2' hv3'
  by_cases h8 : 8 < qp.length
  · rw [decide_eq_true h8] at HM
    go_enter Try.func58, Try.ntmps58
    go_wp2_with fail
    go_ret
    exact ⟨ret_bool (by rw [HM.out]; rfl), below_box _⟩
  · by_cases h16 : 16 < qv.length
    · rw [decide_eq_false h8, decide_eq_true h16] at HM
      go_enter Try.func58, Try.ntmps58
      go_wp2_with fail
      go_ret
      exact ⟨ret_bool (by rw [HM.out]; rfl), below_box _⟩
    · rw [decide_eq_false h8, decide_eq_false h16, Bool.not_false, Bool.true_and, Bool.true_and] at HM
      go_enter Try.func58, Try.ntmps58
      go_wp2_with fail
      have HB1 : Hid (Below W.heap.size W (W.alloc (.cells #[.string qn, .slice Ap qp.length cp, .slice Av qv.length cv, .slice Ab nb cb, .slice Ae qe.length ce] 59))) := Lib.hid (below_box _)
      have HQ : Hid (Blk (W.alloc (.cells #[.string qn, .slice Ap qp.length cp, .slice Av qv.length cv, .slice Ab nb cb, .slice Ae qe.length ce] 59)) W.heap.size 59 #[.string qn, .slice Ap qp.length cp, .slice Av qv.length cv, .slice Ab nb cb, .slice Ae qe.length ce]) := Lib.hid (Blk.new _ _ _)
      generalize W.alloc _ = W1 at HB1 HQ ⊢
      go_loopw [18] (fun i wr => ∃ k : Nat, k ≤ qp.length ∧ i = .int .i64 k ∧ Hid ((qp.drop k).all (fun p => isNm (bl p.nm)) = parsOk qp) ∧ Hid (Below W1.heap.size W1 wr)) (fun i _ => qp.length - (intOf i).toNat)
      case atStart => exact ⟨0, Nat.zero_le _, rfl, Lib.hid (by rw [List.drop_zero]; rfl), Lib.hid (Below.refl _ _)⟩
      case round =>
        obtain ⟨k, hk, rfl, HW, HR⟩ := hrel
        by_cases hlt : k < qp.length
        · have hIr : In Q w wr := HI.out.on (HB1.out.trans (HR.out.mono HB1.out.size))
          obtain ⟨a, rfl, _, ⟨p0, p1, _⟩, hs⟩ := par_at HP.out hIr hlt
          have HN2 : Hid (parsOk qp = (isNm (bl qp[k].nm) && (qp.drop (k + 1)).all (fun p => isNm (bl p.nm)))) := Lib.hid (by rw [← all_drop (f := fun p : Pa => isNm (bl p.nm)) hlt, HW.out])
          obtain ⟨x1, hx1⟩ : ∃ x, x = qp[k] := ⟨_, rfl⟩
          rw [← hx1] at p0 p1 hs HN2
          clear hx1 hIr
          obtain ⟨xn, xr⟩ := x1
          simp only at p0 p1 hs HN2
          have HC : Hid (∀ W, Calls Try.prog 46 #[.string xn] W fun e w' => e = .returned (.bool (isNm (bl xn))) ∧ W = w') := Lib.hid (fun W => Name_any xn W (by unfold maxLen; omega))
          cases hv : isNm (bl xn) with
          | true =>
            rw [hv] at HC HN2
            clear hv
            go_wp2_with (go_at_call 46; refine (HC.out _).mono ?_; rintro e w' ⟨rfl, rfl⟩)
            go_roundw
            case rel => exact ⟨k + 1, by omega, by go_num, Lib.hid (by rw [HN2.out, Bool.true_and]), Lib.hid (HR.out.trans ((below_box _).mono HR.out.size))⟩
            case measure => simp [intOf]; omega
          | false =>
            rw [hv] at HC HN2
            clear hv
            go_wp2_with (go_at_call 46; refine (HC.out _).mono ?_; rintro e w' ⟨rfl, rfl⟩)
            go_ret
            exact ⟨ret_bool (by rw [HM.out, HN2.out]; rfl), HB1.out.trans ((HR.out.trans ((below_box _).mono HR.out.size)).mono HB1.out.size)⟩
        · have HN2 : Hid (parsOk qp = true) := Lib.hid (by
            have h1 := HW.out
            rw [List.drop_of_length_le (by omega), List.all_nil] at h1
            exact h1.symm)
          have hb := HQ.out.below HR.out HQ.out.lt
          have q0 : wr.cell? ⟨W.heap.size, 0, none⟩ = some (.string qn) := by rw [hb.cell 0]; rfl
          have q2 : wr.cell? ⟨W.heap.size, 2, none⟩ = some (.slice Av qv.length cv) := by rw [hb.cell 2]; rfl
          have q4 : wr.cell? ⟨W.heap.size, 4, none⟩ = some (.slice Ae qe.length ce) := by rw [hb.cell 4]; rfl
          have HIr := Lib.hid (HI.out.on (HB1.out.trans (HR.out.mono HB1.out.size)))
          clear hb
          go_wp2_with (first
            | (go_at_call 46; (with_reducible refine (HN.out _).mono ?_); rintro e w' ⟨rfl, rfl⟩)
            | (go_at_call 57; (with_reducible refine (HV.out _ HIr.out).mono ?_); rintro e w' ⟨rfl, rfl⟩)
            | (go_at_call 57; (with_reducible refine (HE.out _ HIr.out).mono ?_); rintro e w' ⟨rfl, rfl⟩))
          all_goals
            go_ret
            exact ⟨ret_bool (by rw [HM.out, HN2.out]; simp_all), HB1.out.trans (HR.out.mono HB1.out.size)⟩
end Go.Proofs.Ytcocilpifdjibaa
namespace Go.Proofs.Ytcocilpifdjibaa
open Go.ChangeShapes Go.WideShapes Go.ChangeAt Go.RowKit Go.Deep
set_option linter.unusedVariables false
def IntOk (n : Int) (W : World) (e : Ending) (w' : World) : Prop := e = .returned (.int .i64 n) ∧ Below W.heap.size W w'
end Go.Proofs.Ytcocilpifdjibaa
namespace Go.Proofs.Ytcocilpifdjibaa
open Go.ChangeShapes Go.WideShapes Go.ChangeAt Go.RowKit Go.Deep
set_option linter.unusedVariables false
def hasB (l : List ByteArray) (s : ByteArray) : Bool := l.any fun t => decide (t = s)
def spoke (l : List ByteArray) (s : ByteArray) : List ByteArray := if hasB l s then l else l ++ [s]
mutual
def walkE : E → List ByteArray → List ByteArray
  | .mk op _ nm ks, l => walkL ks (if op = 2 then spoke l nm else l)
def walkL : List E → List ByteArray → List ByteArray
  | [], l => l
  | k :: ks, l => walkL ks (walkE k l)
end
mutual
def sizE : E → Nat
  | .mk _ _ _ ks => sizL ks + 1
def sizL : List E → Nat
  | [] => 0
  | k :: ks => sizE k + sizL ks
end
theorem spoke_len (l : List ByteArray) (s : ByteArray) : l.length ≤ (spoke l s).length ∧ (spoke l s).length ≤ l.length + 1 := by unfold spoke; split <;> simp
theorem spoke_all {p : ByteArray → Prop} {l : List ByteArray} {s : ByteArray} (h : ∀ t ∈ l, p t) (hs : p s) : ∀ t ∈ spoke l s, p t := by
  unfold spoke; split
  · exact h
  · intro t ht; simp at ht; rcases ht with ht | rfl
    · exact h t ht
    · exact hs
mutual
theorem walkE_len : ∀ (e : E) (l : List ByteArray), (walkE e l).length ≤ l.length + sizE e
  | .mk op _ nm ks, l => by
    rw [walkE, sizE]
    have h1 := walkL_len ks (if op = 2 then spoke l nm else l)
    have h2 := spoke_len l nm
    split at h1 <;> simp_all <;> omega
theorem walkL_len : ∀ (ks : List E) (l : List ByteArray), (walkL ks l).length ≤ l.length + sizL ks
  | [], l => by simp [walkL]
  | k :: ks, l => by
    rw [walkL, sizL]
    have h1 := walkL_len ks (walkE k l)
    have h2 := walkE_len k l
    omega
end
mutual
theorem mayE_siz : ∀ (e : E) (d : Nat), mayE d e = true → sizE e + 1 ≤ 2 ^ d
  | .mk op n nm ks, d, h => by
    rw [mayE, Bool.and_eq_true, decide_eq_true_eq] at h
    obtain ⟨hd, h⟩ := h
    rw [sizE]
    have hp : 2 ^ d = 2 * 2 ^ (d - 1) := by rw [← Nat.pow_succ']; congr 1; omega
    have hp1 : 1 ≤ 2 ^ (d - 1) := Nat.one_le_two_pow
    by_cases h1 : op = 1
    · rw [if_pos h1] at h
      simp only [Bool.and_eq_true, decide_eq_true_eq] at h
      obtain rfl : ks = [] := List.eq_nil_of_length_eq_zero h.2
      simp only [sizL]; omega
    · rw [if_neg h1] at h
      by_cases h2 : op = 2
      · rw [if_pos h2] at h
        simp only [Bool.and_eq_true, decide_eq_true_eq] at h
        obtain rfl : ks = [] := List.eq_nil_of_length_eq_zero h.2
        simp only [sizL]; omega
      · rw [if_neg h2] at h
        simp only [Bool.and_eq_true, decide_eq_true_eq] at h
        have hl := mayL_siz ks (d - 1) h.2
        have ho := opN_le op
        have hlen : ks.length ≤ 2 := by omega
        have hm : ks.length * (2 ^ (d - 1) - 1) ≤ 2 * (2 ^ (d - 1) - 1) := Nat.mul_le_mul_right _ hlen
        omega
theorem mayL_siz : ∀ (ks : List E) (d : Nat), mayL d ks = true → sizL ks ≤ ks.length * (2 ^ d - 1)
  | [], d, _ => by simp [sizL]
  | k :: ks, d, h => by
    rw [mayL, Bool.and_eq_true] at h
    have h1 := mayE_siz k d h.1
    have h2 := mayL_siz ks d h.2
    rw [sizL, List.length_cons, Nat.succ_mul]
    omega
end
theorem walkL_drop {ks : List E} {k : Nat} (h : k < ks.length) (l : List ByteArray) : walkL (ks.drop k) l = walkL (ks.drop (k + 1)) (walkE ks[k] l) := by
  rw [List.drop_eq_getElem_cons h, walkL]
theorem string_info : (Try.prog.info? 9).map (fun i => (i.zero, i.size, i.bytes)) = some (some (.string ⟨#[]⟩), 1, 16) := by kernel_rfl
def small (s : ByteArray) : Prop := s.size ≤ 9223372036854775807
theorem own_shape {w : World} {base n : Nat} {e : TypeId} {size : Nat} {v : Value} {xs : List Value} (h : w.ownsRow base e size v n xs) : ∃ A cap, v = .slice A n cap ∧ n ≤ cap ∧ cap ≤ 9223372036854775807 := by
  rcases h.2 with ⟨rfl, rfl⟩ | ⟨g, cap, cur, rfl, _, _, h1, h2, _⟩
  · exact ⟨none, 0, rfl, by omega, by omega⟩
  · unfold maxLen at h2; exact ⟨_, cap, rfl, h1, by omega⟩
set_option maxHeartbeats 1000000 in
theorem walkE_all {w : World} {Q : Nat → Prop} {e : E} {cs : List Value} (h : ExprI w Q e cs) : ∀ {l : List ByteArray}, (∀ t ∈ l, small t) → ∀ t ∈ walkE e l, small t := by
  induction h with
  | @mk op n nm ks A cap css hop hn hnm hcap hA hk ih =>
    intro l hl
    have key : ∀ (m k : Nat), k + m = ks.length → ∀ l : List ByteArray, (∀ t ∈ l, small t) → ∀ t ∈ walkL (ks.drop k) l, small t := by
      intro m
      induction m with
      | zero => intro k hk l hl; rw [List.drop_of_length_le (by omega), walkL]; exact hl
      | succ m ihm =>
        intro k hk l hl
        rw [walkL_drop (by omega)]
        exact ihm (k + 1) (by omega) _ (ih k (by omega) hl)
    rw [walkE]
    have := key ks.length 0 (by omega) (if op = 2 then spoke l nm else l) (by split; exact spoke_all hl hnm; exact hl)
    rwa [List.drop_zero] at this
def namesE (e : E) : List ByteArray := if mayE 20 e then walkE e [] else []
def NewRow (l : List ByteArray) (w : World) (e : Ending) (w' : World) : Prop := ∃ v, e = .returned v ∧ w'.ownsRow w.heap.size 9 1 v l.length (strs l) ∧ Below w.heap.size w w'
theorem own_lower {w : World} {base base' n : Nat} {e : TypeId} {size : Nat} {v : Value} {xs : List Value} (h : w.ownsRow base e size v n xs) (hb : base' ≤ base) : w.ownsRow base' e size v n xs := by
  refine ⟨h.1, ?_⟩
  rcases h.2 with h1 | ⟨g, cap, cur, h1, h2, r⟩
  · exact .inl h1
  · exact .inr ⟨g, cap, cur, h1, by omega, r⟩
theorem new_one (w : World) (s : ByteArray) : ∀ j u, [Value.string s][j]? = some u → (w.alloc (.cells #[.string s] 9)).cell? ((⟨w.heap.size, 0, none⟩ : Addr).add j) = some u := by
  intro j u hu
  have hj : j = 0 := by have := (List.getElem?_eq_some_iff.1 hu).1; simp at this; exact this
  subst hj
  simp at hu
  subst hu
  simp [Addr.add]
theorem texts_cells {w W : World} {Q : Nat → Prop} {l : List ByteArray} {a : Addr} {n cap : Nat} (h : TextsI w Q l (.slice (some a) n cap)) (hI : In Q w W) : ∀ j u, (strs l)[j]? = some u → W.cell? (a.add j) = some u := by
  intro j u hu
  have hj : j < l.length := by have := (List.getElem?_eq_some_iff.1 hu).1; simpa [strs] using this
  obtain ⟨a', ha, _, hc, _⟩ := text_at h hI hj
  injection ha with ha
  subst ha
  rw [hc]
  simp only [strs, List.getElem?_map, List.getElem?_eq_getElem hj, Option.map_some] at hu
  exact hu
end Go.Proofs.Ytcocilpifdjibaa
