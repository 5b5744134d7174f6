/- A statement's cells opened; the contract of mayStmt (tree). -/
import Derived.Test.YtdjckmpfblaliaaTreeK
namespace Go.Proofs.Ytdjckmpfblaliaa
open Go.ChangeShapes Go.WideShapes Go.ChangeAt Go.RowKit Go.Deep
set_option linter.unusedVariables false

/-- a statement's thirteen cells -/
theorem stmt_open {w : World} {Q : Nat → Prop} {s : S} {cs : List Value} (h : StmtI w Q s cs) :
    ∃ id kind labels nm proc x has args th el L lc x0 x1 x2 X xn xc R rc T tc U uc, s = .mk id kind labels nm proc x has args th el ∧
      cs = [.int .i64 id, .int .i64 kind, .slice L labels.length lc, .string nm, .string proc, .int .i64 x0, .int .i64 x1, .string x2, .slice X xn xc, .bool has, .slice R args.length rc, .slice T th.length tc, .slice U el.length uc] ∧
      i64 id ∧ i64 kind ∧ nm.size ≤ 9223372036854775807 ∧ proc.size ≤ 9223372036854775807 ∧ TextsI w Q labels (.slice L labels.length lc) ∧ ExprI w Q x [.int .i64 x0, .int .i64 x1, .string x2, .slice X xn xc] ∧
      SliceI w Q 6 (ArgI w Q) args (.slice R args.length rc) ∧ StmtsI w Q th (.slice T th.length tc) ∧ StmtsI w Q el (.slice U el.length uc) := by
  cases h with
  | @mk id kind labels nm proc x has args th el vl va x0 x1 x2 x3 A1 A2 cap1 cap2 css1 css2 hid hkind hnm hproc hl hx ha hc1 hc2 hA1 hA2 hk1 hk2 =>
    obtain ⟨L, lc, rfl, _⟩ := hl.shape
    obtain ⟨R, rc, rfl, _⟩ := ha.shape
    obtain ⟨o1, n1, s1, X, xn, xc, hd⟩ := hx.form
    simp only [List.cons.injEq, and_true] at hd
    obtain ⟨rfl, rfl, rfl, rfl⟩ := hd
    exact ⟨id, kind, labels, nm, proc, x, has, args, th, el, L, lc, o1, n1, s1, X, xn, xc, R, rc, A1, cap1, A2, cap2, rfl, rfl, hid, hkind, hnm, hproc, hl, hx, ha, ⟨A1, cap1, css1, rfl, hc1, hA1, hk1⟩, ⟨A2, cap2, css2, rfl, hc2, hA2, hk2⟩⟩
theorem stmtOk_eq (id kind : Int) (labels : List ByteArray) (nm proc : ByteArray) (x : E) (has : Bool) (args : List Ar) (th el : List S) : stmtOk (.mk id kind labels nm proc x has args th el) =
    ((shp kind (!nm.toList.isEmpty) has).ok && (has == (shp kind (!nm.toList.isEmpty) has).has) && ((shp kind (!nm.toList.isEmpty) has).then_ || (((th.length : Nat) : Int) == 0)) && ((shp kind (!nm.toList.isEmpty) has).orElse || (((el.length : Nat) : Int) == 0)) && nmOk nm (shp kind (!nm.toList.isEmpty) has).name && nmOk proc (shp kind (!nm.toList.isEmpty) has).proc && allN labels && xOk x (shp kind (!nm.toList.isEmpty) has).x && ((shp kind (!nm.toList.isEmpty) has).args || (((args.length : Nat) : Int) == 0)) && argsOk args) := rfl
set_option maxHeartbeats 4000000 in
theorem mayStmt_any {w : World} {Q : Nat → Prop} {s : S} {cs : List Value} (h : StmtI w Q s cs) (W : World) (hI : In Q w W) :
    Calls Try.prog 81 #[.agg cs.toArray] W (MayOk (stmtOk s) W) := by
  obtain ⟨id, kind, labels, nm, proc, x, has, args, th, el, L, lc, x0, x1, x2, X, xn, xc, R, rc, T, tc, U, uc, rfl, rfl, hid, hkind, hnm, hproc, hl, hx, ha, hth, hel⟩ := stmt_open h
  obtain ⟨_, hl1, hl2, _⟩ := slice_len hl
  obtain ⟨_, ha1, ha2, _⟩ := slice_len ha
  obtain ⟨_, ht1, ht2, _⟩ := slice_len hth
  obtain ⟨_, hu1, hu2, _⟩ := slice_len hel
  have HI := Lib.hid hI
  have HSh := Lib.hid (fun W => shapeOf_any id kind nm proc has L labels.length lc x0 x1 x2 X xn xc R args.length rc T th.length tc U el.length uc W hkind)
  have HM := Lib.hid (stmtOk_eq id kind labels nm proc x has args th el)
  have HX := Lib.hid (fun W there h1 => mayX_any hx there W h1)
  have HA := Lib.hid (fun W h1 => mayArgs_any (W := W) ha h1)
  have HL := Lib.hid (fun W h1 => mayNames_any (W := W) hl h1)
  generalize shp kind (!nm.toList.isEmpty) has = sh at HSh HM
  obtain ⟨b1, b2, b3, b4, b5, b6, b7, b8⟩ := sh
  simp only at HM
  have HSh' : Hid (∀ W, Calls Try.prog 103 #[.agg #[.int .i64 id, .int .i64 kind, .slice L labels.length lc, .string nm, .string proc, .int .i64 x0, .int .i64 x1, .string x2, .slice X xn xc, .bool has, .slice R args.length rc, .slice T th.length tc, .slice U el.length uc]] W fun e w' => e = .returned (.tuple #[.agg #[.bool b1, .bool b2, .bool b3, .bool b4, .bool b5, .bool b6, .bool b7], .bool b8]) ∧ Below W.heap.size W w') := HSh
  clear hl hx ha hth hel h hI HSh
  have HX' : Hid (∀ W, In Q w W → Calls Try.prog 105 #[.agg #[.int .i64 x0, .int .i64 x1, .string x2, .slice X xn xc], .bool b3] W (MayOk (xOk x b3) W)) := Lib.hid (fun W h1 => HX.out W b3 h1)
  have HN1 : Hid (∀ W, Calls Try.prog 104 #[.string nm, .bool b1] W fun e w' => e = .returned (.bool (nmOk nm b1)) ∧ W = w') := Lib.hid (fun W => mayName_any nm b1 W hnm)
  have HN2 : Hid (∀ W, Calls Try.prog 104 #[.string proc, .bool b2] W fun e w' => e = .returned (.bool (nmOk proc b2)) ∧ W = w') := Lib.hid (fun W => mayName_any proc b2 W hproc)
  clear HX
  obtain ⟨v1, hv1⟩ : ∃ b, b = nmOk nm b1 := ⟨_, rfl⟩
  obtain ⟨v2, hv2⟩ : ∃ b, b = nmOk proc b2 := ⟨_, rfl⟩
  obtain ⟨v3, hv3⟩ : ∃ b, b = allN labels := ⟨_, rfl⟩
  obtain ⟨v4, hv4⟩ : ∃ b, b = xOk x b3 := ⟨_, rfl⟩
  obtain ⟨v5, hv5⟩ : ∃ b, b = argsOk args := ⟨_, rfl⟩
  rw [← hv1] at HM HN1
  rw [← hv2] at HM HN2
  rw [← hv3] at HM HL
  rw [← hv4] at HM HX'
  rw [← hv5] at HM HA
  clear hv1 hv2 hv3 hv4 hv5
  have HA0 : Hid (args.length = 0 → ∀ W, In Q w W → Calls Try.prog 106 #[.slice R 0 rc] W (MayOk v5 W)) := Lib.hid (fun hz W h1 => by have := HA.out W h1; rw [hz] at this; exact this)
  go_enter Try.func81, Try.ntmps81
  simp only [List.append_eq, List.cons_append, List.nil_append]
  go_wp2_with (first
    | (go_at_call 103; (with_reducible refine (HSh'.out _).mono ?_); rintro e w1 ⟨rfl, hb1⟩; have hc1 := (bcell hb1).1; have hz1 : W.heap.size < w1.heap.size := (by have := hb1.size; simp at this; omega); have HB1 := Lib.hid (below_new hb1); clear hb1)
    | (go_at_call 104; (with_reducible refine (HN1.out _).mono ?_); rintro e w' ⟨rfl, rfl⟩)
    | (go_at_call 104; (with_reducible refine (HN2.out _).mono ?_); rintro e w' ⟨rfl, rfl⟩)
    | (go_at_call 49; (with_reducible refine (HL.out _ ((HI.out.on HB1.out).alloc _)).mono ?_); rintro e w' ⟨rfl, rfl⟩)
    | (go_at_call 105; (with_reducible refine (HX'.out _ ((HI.out.on HB1.out).alloc _)).mono ?_); rintro e w2 ⟨rfl, hb2⟩; have hc2 := (bcell hb2).1; have HB2 := Lib.hid (HB1.out.trans ((below_new hb2).mono HB1.out.size)); have hz2 : w1.heap.size < w2.heap.size := (by have := hb2.size; simp at this; omega); clear hb2)
    | (go_at_call 106; (with_reducible refine (HA.out _ (HI.out.on HB2.out)).mono ?_); rintro e w3 ⟨rfl, hb3⟩; have HB3 := Lib.hid (HB2.out.trans (hb3.mono HB2.out.size)); clear hb3)
    | (go_at_call 106; (with_reducible refine (HA0.out (by first | assumption | omega | simp_all) _ (HI.out.on HB2.out)).mono ?_); rintro e w3 ⟨rfl, hb3⟩; have HB3 := Lib.hid (HB2.out.trans (hb3.mono HB2.out.size)); clear hb3))
  all_goals
    go_ret
    refine ⟨ret_bool ?_, ?_⟩
    · rw [HM.out]; simp_all
    · first | exact HB3.out | exact HB2.out | exact HB1.out.trans ((below_box _).mono HB1.out.size)
end Go.Proofs.Ytdjckmpfblaliaa
