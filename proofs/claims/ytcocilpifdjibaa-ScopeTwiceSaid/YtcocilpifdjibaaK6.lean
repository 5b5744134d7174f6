/- Texts, merged by a program; only what is used. -/
import Derived.Test.YtcocilpifdjibaaK1
import Derived.Test.YtcocilpifdjibaaK2
import Derived.Test.YtcocilpifdjibaaK3
import Derived.Test.YtcocilpifdjibaaK4
import Derived.Test.YtcocilpifdjibaaK5
namespace Go.Proofs.Ytcocilpifdjibaa
open Go.ChangeShapes Go.WideShapes Go.ChangeAt Go.RowKit Go.Deep
set_option linter.unusedVariables false
section
variable {w W : World} {Q : Nat → Prop}
theorem slice_at {α : Type} {C : Nat} {RI : α → List Value → Prop} {l : List α} {A : Option Addr} {n cap : Nat} (h : SliceI w Q C RI l (.slice A n cap)) (hI : In Q w W) {k : Nat} (hk : k < l.length) :
    ∃ a cs, A = some a ∧ Q a.block ∧ RI l[k] cs ∧ ∀ j u, cs[j]? = some u → W.cell? (a.add (k * C + j)) = some u := by
  obtain ⟨A', cap', css, h1, h2, h3, h4⟩ := h
  injection h1 with hA hn hc
  subst hA
  obtain ⟨a, rfl, hq, hc⟩ := h3 (by omega)
  exact ⟨a, css k, rfl, hq, h4 k hk, fun j u hu => (hI.cell (by rw [block_add]; exact hq)).trans (hc k hk j u hu)⟩
/-- the cells of a row's element k, of C cells, at a -/
def CellsAt (W : World) (a : Addr) : List Value → Nat → Prop
  | [], _ => True
  | v :: vs, j => W.cell? ⟨a.block, a.off + j, none⟩ = some v ∧ CellsAt W a vs (j + 1)
/-- v at the address itself, the rest behind it -/
def RowAt (W : World) (a : Addr) (v : Value) (vs : List Value) : Prop := W.cell? a = some v ∧ CellsAt W a vs 1
theorem cellsAt_of {a : Addr} {vs : List Value} : ∀ {j : Nat}, 0 < j → (∀ i u, vs[i]? = some u → W.cell? (a.add (j + i)) = some u) → CellsAt W a vs j := by
  induction vs with
  | nil => intros; exact trivial
  | cons v vs ih =>
    intro j hj h
    refine ⟨?_, ih (by omega) fun i u hu => ?_⟩
    · rw [← add_ne a (by omega)]; exact h 0 v rfl
    · have := h (i + 1) u (by simpa using hu)
      rwa [show j + 1 + i = j + (i + 1) by omega]
theorem rowAt_of {a : Addr} {v : Value} {vs : List Value} (h : ∀ j u, (v :: vs)[j]? = some u → W.cell? (a.add j) = some u) : RowAt W a v vs :=
  ⟨by have := h 0 v rfl; rwa [add_zero_] at this, cellsAt_of (by omega) fun i u hu => by rw [Nat.add_comm]; exact h (i + 1) u (by simpa using hu)⟩
theorem rowAt_elem {a : Addr} {b : Nat} {v : Value} {vs : List Value} (h : ∀ j u, (v :: vs)[j]? = some u → W.cell? (a.add (b + j)) = some u) : RowAt W (a.add b) v vs :=
  rowAt_of fun j u hu => by rw [add_add]; exact h j u hu
theorem proc_at {l : List Pr} {A : Option Addr} {n cap : Nat} (h : SliceI w Q 5 (ProcI w Q) l (.slice A n cap)) (hI : In Q w W) {k : Nat} (hk : k < l.length) :
    ∃ a Ap cp Av cv Ab cb Ae ce, A = some a ∧ Q a.block ∧ RowAt W (a.add (k * 5)) (.string l[k].nm) [.slice Ap l[k].params.length cp, .slice Av l[k].vars.length cv, .slice Ab l[k].body.length cb, .slice Ae l[k].end_.length ce] ∧
      l[k].nm.size ≤ 9223372036854775807 ∧ SliceI w Q 2 ParI l[k].params (.slice Ap l[k].params.length cp) ∧ TextsI w Q l[k].vars (.slice Av l[k].vars.length cv) ∧ StmtsI w Q l[k].body (.slice Ab l[k].body.length cb) ∧ TextsI w Q l[k].end_ (.slice Ae l[k].end_.length ce) := by
  obtain ⟨a, cs, rfl, hq, ⟨vp, vv, vb, ve, rfl, h2, h3, h4, h5, h6⟩, hc⟩ := slice_at h hI hk
  obtain ⟨Ap, cp, rfl, _⟩ := h3.shape
  obtain ⟨Av, cv, rfl, _⟩ := h4.shape
  obtain ⟨Ab, cb, rfl, _⟩ := h5.shape
  obtain ⟨Ae, ce, rfl, _⟩ := h6.shape
  exact ⟨a, Ap, cp, Av, cv, Ab, cb, Ae, ce, rfl, hq, rowAt_elem hc, h2, h3, h4, h5, h6⟩
theorem prog_open {p : Pg} {c0 c1 : Value} (h : ProgI w Q p [c0, c1]) : ∃ Ag cg Ap cp, c0 = .slice Ag p.globals.length cg ∧ c1 = .slice Ap p.procs.length cp ∧ p.globals.length ≤ cg ∧ cg ≤ 9223372036854775807 ∧ p.procs.length ≤ cp ∧ cp ≤ 9223372036854775807 ∧ TextsI w Q p.globals (.slice Ag p.globals.length cg) ∧ SliceI w Q 5 (ProcI w Q) p.procs (.slice Ap p.procs.length cp) := by
  obtain ⟨vg, vp, h1, h2, h3⟩ := h
  obtain ⟨Ag, cg, rfl, h4, h5⟩ := h2.shape
  obtain ⟨Ap, cp, rfl, h6, h7⟩ := h3.shape
  simp only [List.cons.injEq, and_true] at h1
  exact ⟨Ag, cg, Ap, cp, h1.1, h1.2, h4, h5, h6, h7, h2, h3⟩
end
def cntL : List Pr → Nat
  | [] => 0
  | q :: qs => (preSL q.body).length + cntL qs
def cntP (p : Pg) : Nat := cntL p.procs
end Go.Proofs.Ytcocilpifdjibaa
namespace Go.Proofs.Ytcocilpifdjibaa
open Go.ChangeShapes Go.WideShapes Go.ChangeAt Go.RowKit Go.Deep
set_option linter.unusedVariables false
def allN (l : List ByteArray) : Bool := l.all fun s => isNm (bl s)
def nmOk (s : ByteArray) (there : Bool) : Bool := if there then isNm (bl s) else s.toList.isEmpty
def noneE : E → Bool | .mk op n nm ks => (op == 0) && (n == 0) && nm.toList.isEmpty && (((ks.length : Nat) : Int) == 0)
def xOk (e : E) (there : Bool) : Bool := if there then mayE 20 e else noneE e
def argOk (a : Ar) : Bool := nmOk a.nm a.ref && xOk a.x (!a.ref)
def argsOk (l : List Ar) : Bool := l.all argOk
structure Sh where
  name : Bool
  proc : Bool
  x : Bool
  has : Bool
  args : Bool
  then_ : Bool
  orElse : Bool
  ok : Bool
def shp (kind : Int) (named has : Bool) : Sh :=
  if kind = 1 then ⟨true, false, true, false, false, false, false, true⟩
  else if kind = 2 ∨ kind = 10 then ⟨true, false, false, false, false, false, false, true⟩
  else if kind = 3 then ⟨false, false, true, false, false, false, false, true⟩
  else if kind = 4 then ⟨named, true, false, false, true, false, false, true⟩
  else if kind = 5 then ⟨false, false, true, false, false, true, true, true⟩
  else if kind = 6 then ⟨false, false, true, false, false, true, false, true⟩
  else if kind = 7 ∨ kind = 8 then ⟨false, false, false, false, false, false, false, true⟩
  else if kind = 9 then ⟨false, false, has, has, false, false, false, true⟩
  else ⟨false, false, false, false, false, false, false, false⟩
def stmtOk : S → Bool
  | .mk id kind labels nm proc x has args th el =>
    let h := shp kind (!nm.toList.isEmpty) has
    h.ok && (has == h.has) && (h.then_ || (((th.length : Nat) : Int) == 0)) && (h.orElse || (((el.length : Nat) : Int) == 0)) && nmOk nm h.name && nmOk proc h.proc && allN labels && xOk x h.x && (h.args || (((args.length : Nat) : Int) == 0)) && argsOk args
theorem all_drop {α : Type} {f : α → Bool} {l : List α} {k : Nat} (h : k < l.length) : (l.drop k).all f = (f l[k] && (l.drop (k + 1)).all f) := by
  rw [List.drop_eq_getElem_cons h, List.all_cons]
set_option maxHeartbeats 1000000 in
theorem mayNames_any {w W : World} {Q : Nat → Prop} {l : List ByteArray} {A : Option Addr} {n cap : Nat} (h : TextsI w Q l (.slice A n cap)) (hI : In Q w W) :
    Calls Try.prog 57 #[.slice A n cap] W fun e w' => e = .returned (.bool (allN l)) ∧ W = w' := by
  obtain ⟨rfl, hlc, hc, _⟩ := slice_len h
  have H := Lib.hid h
  have HI := Lib.hid hI
  clear h hI
  go_enter Try.func57, Try.ntmps57
  go_wp2_with fail
  go_loop [7] (fun i => ∃ k : Nat, k ≤ l.length ∧ i = .int .i64 k ∧ Hid ((l.drop k).all (fun s => isNm (bl s)) = allN l)) (fun i => l.length - (intOf i).toNat)
  case atStart => exact ⟨0, Nat.zero_le _, rfl, Lib.hid (by rw [List.drop_zero]; rfl)⟩
  case round =>
    obtain ⟨k, hk, rfl, HW⟩ := hrel
    by_cases hlt : k < l.length
    · obtain ⟨a, rfl, _, p1, hs⟩ := text_at H.out HI.out hlt
      have HN : Hid (allN l = (isNm (bl l[k]) && (l.drop (k + 1)).all (fun s => isNm (bl s)))) := Lib.hid (by rw [← all_drop (f := fun s => isNm (bl s)) hlt, HW.out])
      obtain ⟨x1, hx1⟩ : ∃ x, x = l[k] := ⟨_, rfl⟩
      rw [← hx1] at p1 hs HN
      clear hx1
      have HC : Hid (∀ W, Calls Try.prog 46 #[.string x1] W fun e w' => e = .returned (.bool (isNm (bl x1))) ∧ W = w') := Lib.hid (fun W => Name_any x1 W (by unfold maxLen; omega))
      cases hv : isNm (bl x1) with
      | true =>
        rw [hv] at HC HN
        clear hv
        go_wp2_with (go_at_call 46; refine (HC.out _).mono ?_; rintro e w' ⟨rfl, rfl⟩)
        go_round
        case rel => exact ⟨k + 1, by omega, by go_num, Lib.hid (by rw [HN.out, Bool.true_and])⟩
        case measure => simp [intOf]; omega
      | false =>
        rw [hv] at HC HN
        clear hv
        go_wp2_with (go_at_call 46; refine (HC.out _).mono ?_; rintro e w' ⟨rfl, rfl⟩)
        go_ret
        exact ⟨ret_bool (by rw [HN.out]; rfl), rfl⟩
    · have HN : Hid (allN l = true) := Lib.hid (by
        have h1 := HW.out
        rw [List.drop_of_length_le (by omega), List.all_nil] at h1
        exact h1.symm)
      go_wp2_with fail
      go_ret
      exact ⟨ret_bool HN.out.symm, rfl⟩
theorem mayName_any (s : ByteArray) (there : Bool) (w : World) (hs : s.size ≤ 9223372036854775807) :
    Calls Try.prog 170 #[.string s, .bool there] w fun e w' => e = .returned (.bool (nmOk s there)) ∧ w = w' := by
  unfold nmOk
  cases there with
  | true =>
    go_enter Try.func170, Try.ntmps170
    go_wp2_with (go_at_call 46; refine (Name_any _ _ (by unfold maxLen; omega)).mono ?_; rintro e w' ⟨rfl, rfl⟩)
    go_ret
    exact ⟨rfl, rfl⟩
  | false =>
    go_enter Try.func170, Try.ntmps170
    go_wp2_with fail
    go_ret
    exact ⟨rfl, rfl⟩
theorem mayX_any {w : World} {Q : Nat → Prop} {e : E} {c0 c1 c2 c3 : Value} (h : ExprI w Q e [c0, c1, c2, c3]) (there : Bool) (W : World) (hI : In Q w W) :
    Calls Try.prog 171 #[.agg #[c0, c1, c2, c3], .bool there] W (MayOk (xOk e there) W) := by
  have HM := Lib.hid (fun W h1 => MayExpr_any h W h1)
  have HI := Lib.hid hI
  unfold xOk
  cases there with
  | true =>
    obtain ⟨d0, d1, d2, d3, l3, k3, hd'⟩ := h.form
    simp only [List.cons.injEq, and_true] at hd'
    obtain ⟨rfl, rfl, rfl, rfl⟩ := hd'
    clear h hI
    go_enter Try.func171, Try.ntmps171
    go_wp2_with (go_at_call 111; refine (HM.out _ (HI.out.alloc _)).mono ?_; rintro e' w2 ⟨rfl, hb2⟩)
    go_ret
    exact ⟨rfl, below_new hb2⟩
  | false =>
    cases h with
    | @mk op n nm ks A cap css hop hn hnm hcap hA hk =>
      clear hA hk hI
      unfold i64 at hop hn
      go_enter Try.func171, Try.ntmps171
      go_wp2_with fail
      all_goals
        go_ret
        exact ⟨ret_bool (by show _ = noneE _; simp only [noneE]; first | (simp_all; done) | (simp_all; intros; omega)), below_box _⟩
theorem arg_at {w W : World} {Q : Nat → Prop} {l : List Ar} {A : Option Addr} {n cap : Nat} (h : SliceI w Q 6 (ArgI w Q) l (.slice A n cap)) (hI : In Q w W) {k : Nat} (hk : k < l.length) :
    ∃ a o1 n1 s1 A1 l1 c1, A = some a ∧ Q a.block ∧ RowAt W (a.add (k * 6)) (.bool l[k].ref) [.string l[k].nm, .int .i64 o1, .int .i64 n1, .string s1, .slice A1 l1 c1] ∧
      l[k].nm.size ≤ 9223372036854775807 ∧ ExprI w Q l[k].x [.int .i64 o1, .int .i64 n1, .string s1, .slice A1 l1 c1] := by
  obtain ⟨a, cs, rfl, hq, ⟨xcs, rfl, h2, h3⟩, hc⟩ := slice_at h hI hk
  obtain ⟨o1, n1, s1, A1, l1, c1, rfl⟩ := h3.form
  exact ⟨a, o1, n1, s1, A1, l1, c1, rfl, hq, rowAt_elem hc, h2, h3⟩
set_option maxHeartbeats 1000000 in
theorem mayArgs_any {w W : World} {Q : Nat → Prop} {l : List Ar} {A : Option Addr} {n cap : Nat} (h : SliceI w Q 6 (ArgI w Q) l (.slice A n cap)) (hI : In Q w W) :
    Calls Try.prog 172 #[.slice A n cap] W (MayOk (argsOk l) W) := by
  obtain ⟨rfl, hlc, hc, _⟩ := slice_len h
  have H := Lib.hid h
  have HI := Lib.hid hI
  clear h hI
  go_enter Try.func172, Try.ntmps172
  go_wp2_with fail
  go_loopw [7] (fun i wr => ∃ k : Nat, k ≤ l.length ∧ i = .int .i64 k ∧ Hid ((l.drop k).all argOk = argsOk l) ∧ Hid (Below W.heap.size W wr)) (fun i _ => l.length - (intOf i).toNat)
  case atStart => exact ⟨0, Nat.zero_le _, rfl, Lib.hid (by rw [List.drop_zero]; rfl), Lib.hid (Below.refl _ _)⟩
  case round =>
    obtain ⟨k, hk, rfl, HW, HR⟩ := hrel
    by_cases hlt : k < l.length
    · have hIr : In Q w wr := HI.out.on HR.out
      obtain ⟨a, o1, n1, s1, A1, l1, c1, rfl, _, ⟨p0, p1, p2, p3, p4, p5, _⟩, hs, hx⟩ := arg_at H.out hIr hlt
      have HN : Hid (argsOk l = (argOk l[k] && (l.drop (k + 1)).all argOk)) := Lib.hid (by rw [← all_drop (f := argOk) hlt, HW.out])
      have HX := Lib.hid hx
      have HIr := Lib.hid hIr
      obtain ⟨x, hx1⟩ : ∃ x, x = l[k] := ⟨_, rfl⟩
      rw [← hx1] at p0 p1 hs HN HX
      clear hx1 hx hIr
      obtain ⟨xr, xn, xx⟩ := x
      simp only at p0 p1 hs HX
      have HC1 : Hid (∀ W, Calls Try.prog 170 #[.string xn, .bool xr] W fun e w' => e = .returned (.bool (nmOk xn xr)) ∧ W = w') := Lib.hid (fun W => mayName_any xn xr W hs)
      have HC2 : Hid (∀ W, In Q w W → Calls Try.prog 171 #[.agg #[.int .i64 o1, .int .i64 n1, .string s1, .slice A1 l1 c1], .bool (!xr)] W (MayOk (xOk xx (!xr)) W)) := Lib.hid (fun W h1 => mayX_any HX.out (!xr) W h1)
      have HV : Hid (argOk ⟨xr, xn, xx⟩ = (nmOk xn xr && xOk xx (!xr))) := Lib.hid rfl
      rw [HV.out] at HN
      cases hv1 : nmOk xn xr with
      | false =>
        rw [hv1] at HC1 HN
        clear hv1
        go_wp2_with (go_at_call 170; refine (HC1.out _).mono ?_; rintro e w' ⟨rfl, rfl⟩)
        go_ret
        exact ⟨ret_bool (by rw [HN.out]; rfl), HR.out.trans ((below_box _).mono HR.out.size)⟩
      | true =>
        rw [hv1] at HC1 HN
        cases hv2 : xOk xx (!xr) with
        | false =>
          rw [hv2] at HC2 HN
          clear hv1 hv2
          go_wp2_with (first
            | (go_at_call 170; refine (HC1.out _).mono ?_; rintro e w' ⟨rfl, rfl⟩)
            | (go_at_call 171; refine (HC2.out _ (HIr.out.alloc _)).mono ?_; rintro e w2 ⟨rfl, hb2⟩))
          go_ret
          exact ⟨ret_bool (by rw [HN.out]; rfl), HR.out.trans ((below_new hb2).mono HR.out.size)⟩
        | true =>
          rw [hv2] at HC2 HN
          clear hv1 hv2
          go_wp2_with (first
            | (go_at_call 170; refine (HC1.out _).mono ?_; rintro e w' ⟨rfl, rfl⟩)
            | (go_at_call 171; refine (HC2.out _ (HIr.out.alloc _)).mono ?_; rintro e w2 ⟨rfl, hb2⟩))
          go_roundw
          case rel => exact ⟨k + 1, by omega, by go_num, Lib.hid (by rw [HN.out]; rfl), Lib.hid (HR.out.trans ((below_new hb2).mono HR.out.size))⟩
          case measure => simp [intOf]; omega
    · have HN : Hid (argsOk l = true) := Lib.hid (by
        have h1 := HW.out
        rw [List.drop_of_length_le (by omega), List.all_nil] at h1
        exact h1.symm)
      go_wp2_with fail
      go_ret
      exact ⟨ret_bool HN.out.symm, HR.out⟩
/-- the seven marks of a shape, as cells -/
def Sh.cells (h : Sh) : Array Value := #[.bool h.name, .bool h.proc, .bool h.x, .bool h.has, .bool h.args, .bool h.then_, .bool h.orElse]
def ShapeOk (h : Sh) (W : World) (e : Ending) (w' : World) : Prop := e = .returned (.tuple #[.agg h.cells, .bool h.ok]) ∧ Below W.heap.size W w'
theorem below_two {W : World} (a b : Obj) : Below W.heap.size W ((W.alloc a).alloc b) := ((Below.refl _ _).alloc (Nat.le_refl _) a).alloc (by simp) b
set_option maxHeartbeats 2000000 in
theorem shapeOf_any (id kind : Int) (nm proc : ByteArray) (has : Bool) (L : Option Addr) (ln lc : Nat) (x0 x1 : Int) (x2 : ByteArray) (X : Option Addr) (xn xc : Nat) (R : Option Addr) (rn rc : Nat) (T : Option Addr) (tn tc : Nat) (U : Option Addr) (un uc : Nat) (W : World) (hk : i64 kind) :
    Calls Try.prog 169 #[.agg #[.int .i64 id, .int .i64 kind, .slice L ln lc, .string nm, .string proc, .int .i64 x0, .int .i64 x1, .string x2, .slice X xn xc, .bool has, .slice R rn rc, .slice T tn tc, .slice U un uc]] W (ShapeOk (shp kind (!nm.toList.isEmpty) has) W) := by
  unfold i64 at hk
  obtain ⟨hk1, hk2⟩ := hk
  by_cases h1 : kind = 1
  · subst h1
    go_enter Try.func169, Try.ntmps169
    go_wp2_with fail
    exact bodyPost_ret (v := .tuple #[.agg (shp 1 (!nm.toList.isEmpty) has).cells, .bool true]) (by simp [results, Try.results169, go_sem, shp, Sh.cells]) rfl ⟨rfl, below_two _ _⟩
  have q1 : (kind == 1) = false := beq_eq_false_iff_ne.2 h1
  by_cases h2 : kind = 2
  · subst h2
    go_enter Try.func169, Try.ntmps169
    go_wp2_with fail
    exact bodyPost_ret (v := .tuple #[.agg (shp 2 (!nm.toList.isEmpty) has).cells, .bool true]) (by simp [results, Try.results169, go_sem, shp, Sh.cells]) rfl ⟨rfl, below_two _ _⟩
  have q2 : (kind == 2) = false := beq_eq_false_iff_ne.2 h2
  by_cases h10 : kind = 10
  · subst h10
    go_enter Try.func169, Try.ntmps169
    go_wp2_with fail
    exact bodyPost_ret (v := .tuple #[.agg (shp 10 (!nm.toList.isEmpty) has).cells, .bool true]) (by simp [results, Try.results169, go_sem, shp, Sh.cells]) rfl ⟨rfl, below_two _ _⟩
  have q10 : (kind == 10) = false := beq_eq_false_iff_ne.2 h10
  by_cases h3 : kind = 3
  · subst h3
    go_enter Try.func169, Try.ntmps169
    go_wp2_with fail
    exact bodyPost_ret (v := .tuple #[.agg (shp 3 (!nm.toList.isEmpty) has).cells, .bool true]) (by simp [results, Try.results169, go_sem, shp, Sh.cells]) rfl ⟨rfl, below_two _ _⟩
  have q3 : (kind == 3) = false := beq_eq_false_iff_ne.2 h3
  by_cases h4 : kind = 4
  · subst h4
    go_enter Try.func169, Try.ntmps169
    go_wp2_with fail
    exact bodyPost_ret (v := .tuple #[.agg (shp 4 (!nm.toList.isEmpty) has).cells, .bool true]) (by simp [results, Try.results169, go_sem, shp, Sh.cells]) rfl ⟨rfl, below_two _ _⟩
  have q4 : (kind == 4) = false := beq_eq_false_iff_ne.2 h4
  by_cases h5 : kind = 5
  · subst h5
    go_enter Try.func169, Try.ntmps169
    go_wp2_with fail
    exact bodyPost_ret (v := .tuple #[.agg (shp 5 (!nm.toList.isEmpty) has).cells, .bool true]) (by simp [results, Try.results169, go_sem, shp, Sh.cells]) rfl ⟨rfl, below_two _ _⟩
  have q5 : (kind == 5) = false := beq_eq_false_iff_ne.2 h5
  by_cases h6 : kind = 6
  · subst h6
    go_enter Try.func169, Try.ntmps169
    go_wp2_with fail
    exact bodyPost_ret (v := .tuple #[.agg (shp 6 (!nm.toList.isEmpty) has).cells, .bool true]) (by simp [results, Try.results169, go_sem, shp, Sh.cells]) rfl ⟨rfl, below_two _ _⟩
  have q6 : (kind == 6) = false := beq_eq_false_iff_ne.2 h6
  by_cases h7 : kind = 7
  · subst h7
    go_enter Try.func169, Try.ntmps169
    go_wp2_with fail
    exact bodyPost_ret (v := .tuple #[.agg (shp 7 (!nm.toList.isEmpty) has).cells, .bool true]) (by simp [results, Try.results169, go_sem, shp, Sh.cells]) rfl ⟨rfl, below_two _ _⟩
  have q7 : (kind == 7) = false := beq_eq_false_iff_ne.2 h7
  by_cases h8 : kind = 8
  · subst h8
    go_enter Try.func169, Try.ntmps169
    go_wp2_with fail
    exact bodyPost_ret (v := .tuple #[.agg (shp 8 (!nm.toList.isEmpty) has).cells, .bool true]) (by simp [results, Try.results169, go_sem, shp, Sh.cells]) rfl ⟨rfl, below_two _ _⟩
  have q8 : (kind == 8) = false := beq_eq_false_iff_ne.2 h8
  by_cases h9 : kind = 9
  · subst h9
    go_enter Try.func169, Try.ntmps169
    go_wp2_with fail
    exact bodyPost_ret (v := .tuple #[.agg (shp 9 (!nm.toList.isEmpty) has).cells, .bool true]) (by simp [results, Try.results169, go_sem, shp, Sh.cells]) rfl ⟨rfl, below_two _ _⟩
  have q9 : (kind == 9) = false := beq_eq_false_iff_ne.2 h9
  have HS : Hid (shp kind (!nm.toList.isEmpty) has = ⟨false, false, false, false, false, false, false, false⟩) := Lib.hid (by simp [shp, h1, h2, h10, h3, h4, h5, h6, h7, h8, h9])
  clear h1 h2 h10 h3 h4 h5 h6 h7 h8 h9
  go_enter Try.func169, Try.ntmps169
  go_wp2_with fail
  rw [HS.out]
  exact bodyPost_ret (v := .tuple #[.agg #[.bool false, .bool false, .bool false, .bool false, .bool false, .bool false, .bool false], .bool false]) (by simp [results, Try.results169, go_sem]) rfl ⟨rfl, below_two _ _⟩
end Go.Proofs.Ytcocilpifdjibaa
