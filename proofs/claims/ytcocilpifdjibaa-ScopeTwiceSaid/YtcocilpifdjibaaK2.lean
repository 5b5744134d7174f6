/- Texts, merged by a program; only what is used. -/
import Derived.Carry
import Derived.Test.YtcocilpifdjibaaK1
namespace Go.Proofs.Ytcocilpifdjibaa
open Go.ChangeShapes Go.WideShapes Go.ChangeAt Go.RowKit Go.Deep
set_option linter.unusedVariables false
/-- the value v is a slice of elements of C cells that read, by R, as the list l -/
def SliceI {α : Type} (w : World) (Q : Nat → Prop) (C : Nat) (R : α → List Value → Prop) (l : List α) (v : Value) : Prop :=
  ∃ (A : Option Addr) (cap : Nat) (css : Nat → List Value), v = .slice A l.length cap ∧ (l.length ≤ cap ∧ cap ≤ 9223372036854775807) ∧
    (0 < l.length → ∃ a, A = some a ∧ Q a.block ∧ ∀ i, i < l.length → ∀ j u, (css i)[j]? = some u → w.cell? (a.add (i * C + j)) = some u) ∧ ∀ i (h : i < l.length), R l[i] (css i)
theorem SliceI.keep {α : Type} {w w' : World} {Q Q' : Nat → Prop} {C : Nat} {R R' : α → List Value → Prop} {l : List α} {v : Value} (h : SliceI w Q C R l v) (hQ : ∀ b, Q b → Q' b) (hc : ∀ p : Addr, Q p.block → w'.cell? p = w.cell? p)
    (hR : ∀ a cs, a ∈ l → R a cs → R' a cs) : SliceI w' Q' C R' l v := by
  obtain ⟨A, cap, css, h1, h2, h3, h4⟩ := h
  refine ⟨A, cap, css, h1, h2, fun h0 => ?_, fun i hi => hR _ _ (List.getElem_mem hi) (h4 i hi)⟩
  obtain ⟨a, h5, h6, h7⟩ := h3 h0
  exact ⟨a, h5, hQ _ h6, fun i hi j u hu => (hc _ (by rw [block_add]; exact h6)).trans (h7 i hi j u hu)⟩
/-- a slice that reads, if its elements do -/
theorem open_list {α : Type} {H : Type} {enc : TypeId × Value → H} {w : World} {base : Nat} {spare : Nat → Bool} {held : Bool} {R : α → List Value → Prop} {t e : TypeId} {C fuel : Nat} {cs : List Value} {x : DataW H × List MemPlace}
    (a0 : α) (ht : Try.prog.underlying t = some (.slice e)) (hC : Try.prog.cellsOf e = C) (hC0 : 0 < C)
    (ih : ∀ m, m < fuel → ∀ cs' (y : DataW H × List MemPlace), DataW.trod enc Try.prog w base spare held m e cs' = some y → ∃ a, R a cs')
    (h : DataW.trod enc Try.prog w base spare held fuel t cs = some x) : ∃ l v, cs = [v] ∧ SliceI w (lt_ w.heap.size) C R l v := by
  rcases DataW.trod_slice ht h with ⟨e3, _⟩ | ⟨a, len, cap, elems, rest, m, hm, e3, _, hb, hlc, hcm, hel, hat, _⟩
  · exact ⟨[], _, e3, none, 0, fun _ => [], rfl, ⟨Nat.le_refl _, by omega⟩, fun h => absurd h (by simp), fun i h => absurd h (by simp)⟩
  · unfold maxLen at hcm
    have key : ∀ i, ∃ (p : List Value × α), i < len → p.1.length = C ∧ (∀ j u, p.1[j]? = some u → w.cell? (a.add (i * C + j)) = some u) ∧ R p.2 p.1 := by
      intro i
      by_cases hi : i < len
      · have h4 := hat i hi
        rw [hC] at h4
        have hy : ∃ y, elems[i]? = some y := ⟨_, List.getElem?_eq_getElem (by omega)⟩
        obtain ⟨y, hy⟩ := hy
        rw [hy] at h4
        obtain ⟨cs', h5, h6⟩ := Option.bind_eq_some_iff.1 h4
        obtain ⟨_, h7, h8⟩ := World.cells?_some h5
        obtain ⟨q, hq⟩ := ih m (by omega) cs' y h6
        refine ⟨(cs', q), fun _ => ⟨h7, fun j u hu => ?_, hq⟩⟩
        have hj : j < C := by have := (List.getElem?_eq_some_iff.1 hu).1; simp only at this; omega
        rw [← add_add]
        exact (h8 j hj).trans hu
      · exact ⟨([], a0), fun h => absurd h hi⟩
    have hc := fun i => (Classical.choose_spec (key i))
    have hl : ((List.range len).map fun i => (Classical.choose (key i)).2).length = len := by simp
    refine ⟨(List.range len).map fun i => (Classical.choose (key i)).2, _, e3, some a, cap, fun i => (Classical.choose (key i)).1, by rw [hl], ⟨by rw [hl]; exact hlc, by omega⟩, fun h0 => ?_, fun i hi => ?_⟩
    · rw [hl] at h0
      refine ⟨a, rfl, ?_, fun i hi j u hu => (hc i (by rw [hl] at hi; exact hi)).2.1 j u hu⟩
      obtain ⟨h7, h5, _⟩ := hc 0 h0
      have h8 := h5 0 ((Classical.choose (key 0)).1[0]'(by omega)) (List.getElem?_eq_getElem (by omega))
      have h9 := World.block_lt_of_cell? _ _ h8
      rw [block_add] at h9
      exact h9
    · rw [hl] at hi
      have h5 := (hc i hi).2.2
      simpa using h5
def TextI (s : ByteArray) (cs : List Value) : Prop := cs = [.string s] ∧ s.size ≤ 9223372036854775807
abbrev TextsI (w : World) (Q : Nat → Prop) := SliceI w Q 1 TextI
structure Ar where
  ref : Bool
  nm : ByteArray
  x : E
def ArgI (w : World) (Q : Nat → Prop) (a : Ar) (cs : List Value) : Prop := ∃ xcs, cs = .bool a.ref :: .string a.nm :: xcs ∧ a.nm.size ≤ 9223372036854775807 ∧ ExprI w Q a.x xcs
inductive S where
  | mk (id kind : Int) (labels : List ByteArray) (nm proc : ByteArray) (x : E) (has : Bool) (args : List Ar) (th el : List S)
inductive StmtI (w : World) (Q : Nat → Prop) : S → List Value → Prop where
  | mk {id kind : Int} {labels : List ByteArray} {nm proc : ByteArray} {x : E} {has : Bool} {args : List Ar} {th el : List S} {vl va : Value} {x0 x1 x2 x3 : Value} {A1 A2 : Option Addr} {cap1 cap2 : Nat} {css1 css2 : Nat → List Value}
      (hid : i64 id) (hkind : i64 kind) (hnm : nm.size ≤ 9223372036854775807) (hproc : proc.size ≤ 9223372036854775807)
      (hl : TextsI w Q labels vl) (hx : ExprI w Q x [x0, x1, x2, x3]) (ha : SliceI w Q 6 (ArgI w Q) args va)
      (hc1 : th.length ≤ cap1 ∧ cap1 ≤ 9223372036854775807) (hc2 : el.length ≤ cap2 ∧ cap2 ≤ 9223372036854775807)
      (hA1 : 0 < th.length → ∃ a, A1 = some a ∧ Q a.block ∧ ∀ i, i < th.length → ∀ j u, (css1 i)[j]? = some u → w.cell? (a.add (i * 13 + j)) = some u)
      (hA2 : 0 < el.length → ∃ a, A2 = some a ∧ Q a.block ∧ ∀ i, i < el.length → ∀ j u, (css2 i)[j]? = some u → w.cell? (a.add (i * 13 + j)) = some u)
      (hk1 : ∀ i (h : i < th.length), StmtI w Q th[i] (css1 i)) (hk2 : ∀ i (h : i < el.length), StmtI w Q el[i] (css2 i)) :
      StmtI w Q (.mk id kind labels nm proc x has args th el) [.int .i64 id, .int .i64 kind, vl, .string nm, .string proc, x0, x1, x2, x3, .bool has, va, .slice A1 th.length cap1, .slice A2 el.length cap2]
abbrev StmtsI (w : World) (Q : Nat → Prop) := SliceI w Q 13 (StmtI w Q)
theorem StmtI.keep {w w' : World} {Q Q' : Nat → Prop} {s : S} {cs : List Value} (h : StmtI w Q s cs) (hQ : ∀ b, Q b → Q' b) (hc : ∀ p : Addr, Q p.block → w'.cell? p = w.cell? p) : StmtI w' Q' s cs := by
  induction h with
  | @mk id kind labels nm proc x has args th el vl va x0 x1 x2 x3 A1 A2 cap1 cap2 css1 css2 hid hkind hnm hproc hl hx ha hc1 hc2 hA1 hA2 hk1 hk2 ih1 ih2 =>
    refine .mk (css1 := css1) (css2 := css2) hid hkind hnm hproc (hl.keep hQ hc fun _ _ _ h => h) (hx.keep hQ hc) (ha.keep hQ hc fun _ _ _ ⟨q, h1, h2, h3⟩ => ⟨q, h1, h2, h3.keep hQ hc⟩) hc1 hc2 (fun h0 => ?_) (fun h0 => ?_) ih1 ih2
    · obtain ⟨a, h5, h6, h7⟩ := hA1 h0
      exact ⟨a, h5, hQ _ h6, fun i hi j u hu => (hc _ (by rw [block_add]; exact h6)).trans (h7 i hi j u hu)⟩
    · obtain ⟨a, h5, h6, h7⟩ := hA2 h0
      exact ⟨a, h5, hQ _ h6, fun i hi j u hu => (hc _ (by rw [block_add]; exact h6)).trans (h7 i hi j u hu)⟩
structure Pa where
  nm : ByteArray
  ref : Bool
def ParI (p : Pa) (cs : List Value) : Prop := cs = [.string p.nm, .bool p.ref] ∧ p.nm.size ≤ 9223372036854775807
structure Pr where
  nm : ByteArray
  params : List Pa
  vars : List ByteArray
  body : List S
  end_ : List ByteArray
def ProcI (w : World) (Q : Nat → Prop) (p : Pr) (cs : List Value) : Prop :=
  ∃ vp vv vb ve, cs = [.string p.nm, vp, vv, vb, ve] ∧ p.nm.size ≤ 9223372036854775807 ∧ SliceI w Q 2 ParI p.params vp ∧ TextsI w Q p.vars vv ∧ StmtsI w Q p.body vb ∧ TextsI w Q p.end_ ve
structure Pg where
  globals : List ByteArray
  procs : List Pr
def ProgI (w : World) (Q : Nat → Prop) (p : Pg) (cs : List Value) : Prop := ∃ vg vp, cs = [vg, vp] ∧ TextsI w Q p.globals vg ∧ SliceI w Q 5 (ProcI w Q) p.procs vp
theorem ProcI.keep {w w' : World} {Q Q' : Nat → Prop} {p : Pr} {cs : List Value} (h : ProcI w Q p cs) (hQ : ∀ b, Q b → Q' b) (hc : ∀ p : Addr, Q p.block → w'.cell? p = w.cell? p) : ProcI w' Q' p cs := by
  obtain ⟨vp, vv, vb, ve, h1, h2, h3, h4, h5, h6⟩ := h
  exact ⟨vp, vv, vb, ve, h1, h2, h3.keep hQ hc fun _ _ _ h => h, h4.keep hQ hc fun _ _ _ h => h, h5.keep hQ hc fun _ _ _ h => h.keep hQ hc, h6.keep hQ hc fun _ _ _ h => h⟩
theorem ProgI.keep {w w' : World} {Q Q' : Nat → Prop} {p : Pg} {cs : List Value} (h : ProgI w Q p cs) (hQ : ∀ b, Q b → Q' b) (hc : ∀ p : Addr, Q p.block → w'.cell? p = w.cell? p) : ProgI w' Q' p cs := by
  obtain ⟨vg, vp, h1, h2, h3⟩ := h
  exact ⟨vg, vp, h1, h2.keep hQ hc fun _ _ _ h => h, h3.keep hQ hc fun _ _ _ h => h.keep hQ hc⟩
section
variable {H : Type} {enc : TypeId × Value → H} {w : World} {base : Nat} {spare : Nat → Bool} {held : Bool}
theorem open_text {fuel : Nat} {cs : List Value} {x : DataW H × List MemPlace} (h : DataW.trod enc Try.prog w base spare held fuel 9 cs = some x) : ∃ s, TextI s cs := by
  obtain ⟨s, e, _, hs⟩ := DataW.trod_string Try.underlying9 h
  unfold maxLen at hs
  exact ⟨s, e, by omega⟩
theorem open_texts {fuel : Nat} {cs : List Value} {x : DataW H × List MemPlace} (h : DataW.trod enc Try.prog w base spare held fuel 22 cs = some x) : ∃ l v, cs = [v] ∧ TextsI w (lt_ w.heap.size) l v :=
  open_list (⟨#[]⟩ : ByteArray) Try.underlying22 cells_s (by omega) (fun m _ cs' y h => open_text h) h
set_option maxRecDepth 100000 in
theorem open_bool {fuel : Nat} {cs : List Value} {x : DataW H × List MemPlace} (h : DataW.trod enc Try.prog w base spare held fuel 4 cs = some x) : ∃ b, cs = [.bool b] := by
  cases fuel with
  | zero => simp [DataW.trod] at h
  | succ n =>
    unfold DataW.trod at h
    rw [Try.underlying4] at h
    split at h <;> simp_all
/-- a struct's fields, one by one -/
theorem open_fields {fs : Array Field} {t : TypeId} {fuel : Nat} {cs : List Value} {x : DataW H × List MemPlace} (ht : Try.prog.underlying t = some (.struct fs)) (h : DataW.trod enc Try.prog w base spare held fuel t cs = some x) :
    ∃ n, n < fuel ∧ cs.length = Try.prog.cellsOf t ∧ ∀ (i : Nat) (f : Field), fs[i]? = some f → ∃ y, DataW.trod enc Try.prog w base spare held n f.type ((cs.drop f.offset).take (Try.prog.cellsOf f.type)) = some y := by
  obtain ⟨xs, n, hfu, _, hlen, hxl, hf⟩ := DataW.trod_struct ht h
  refine ⟨n, by omega, hlen, fun i f hi => ?_⟩
  have hil : i < xs.length := by rw [hxl]; exact (Array.getElem?_eq_some_iff.1 hi).1
  exact ⟨_, (hf i f hi).trans (List.getElem?_eq_getElem hil)⟩
theorem cells_b : Try.prog.cellsOf 4 = 1 := by kernel_rfl
theorem cells_ss : Try.prog.cellsOf 22 = 1 := by kernel_rfl
theorem cells_arg : Try.prog.cellsOf 137 = 6 := by kernel_rfl
theorem cells_args : Try.prog.cellsOf 62 = 1 := by kernel_rfl
theorem cells_stmt : Try.prog.cellsOf 64 = 13 := by kernel_rfl
theorem cells_stmts : Try.prog.cellsOf 57 = 1 := by kernel_rfl
theorem six {cs : List Value} (h : cs.length = 6) : ∃ c0 c1 c2 c3 c4 c5, cs = [c0, c1, c2, c3, c4, c5] := by
  match cs, h with
  | [c0, c1, c2, c3, c4, c5], _ => exact ⟨_, _, _, _, _, _, rfl⟩
theorem open_arg {fuel : Nat} {cs : List Value} {x : DataW H × List MemPlace} (h : DataW.trod enc Try.prog w base spare held fuel 137 cs = some x) : ∃ a, ArgI w (lt_ w.heap.size) a cs := by
  obtain ⟨n, hn, hlen, hf⟩ := open_fields Try.underlying137 h
  rw [cells_arg] at hlen
  obtain ⟨c0, c1, c2, c3, c4, c5, rfl⟩ := six hlen
  obtain ⟨y0, g0⟩ : ∃ y, DataW.trod enc Try.prog w base spare held n 4 (([c0, c1, c2, c3, c4, c5].drop 0).take (Try.prog.cellsOf 4)) = some y := hf 0 _ rfl
  obtain ⟨y1, g1⟩ : ∃ y, DataW.trod enc Try.prog w base spare held n 9 (([c0, c1, c2, c3, c4, c5].drop 1).take (Try.prog.cellsOf 9)) = some y := hf 1 _ rfl
  obtain ⟨y2, g2⟩ : ∃ y, DataW.trod enc Try.prog w base spare held n 45 (([c0, c1, c2, c3, c4, c5].drop 2).take (Try.prog.cellsOf 45)) = some y := hf 2 _ rfl
  rw [cells_b] at g0
  rw [cells_s] at g1
  rw [cellsE] at g2
  obtain ⟨b, e0⟩ := open_bool g0
  obtain ⟨s, e1, hs⟩ := open_text g1
  obtain ⟨e, he⟩ := open_expr _ _ _ g2
  injection e0 with e0
  injection e1 with e1
  subst e0 e1
  exact ⟨⟨b, s, e⟩, _, rfl, hs, he⟩
end
end Go.Proofs.Ytcocilpifdjibaa
namespace Go.Proofs.Ytcocilpifdjibaa
open Go.ChangeShapes Go.WideShapes Go.ChangeAt Go.RowKit Go.Deep
set_option linter.unusedVariables false
set_option maxRecDepth 100000
theorem thirteen {cs : List Value} (h : cs.length = 13) : ∃ c0 c1 c2 c3 c4 c5 c6 c7 c8 c9 c10 c11 c12, cs = [c0, c1, c2, c3, c4, c5, c6, c7, c8, c9, c10, c11, c12] := by
  match cs, h with
  | [c0, c1, c2, c3, c4, c5, c6, c7, c8, c9, c10, c11, c12], _ => exact ⟨_, _, _, _, _, _, _, _, _, _, _, _, _, rfl⟩
section
variable {H : Type} {enc : TypeId × Value → H} {w : World} {base : Nat} {spare : Nat → Bool} {held : Bool}
theorem open_stmt : ∀ (fuel : Nat) (cs : List Value) (x : DataW H × List MemPlace), DataW.trod enc Try.prog w base spare held fuel 64 cs = some x → ∃ s, StmtI w (lt_ w.heap.size) s cs := by
  intro fuel
  induction fuel using Nat.strongRecOn with
  | _ fuel ih =>
    intro cs x h
    obtain ⟨n, hn, hlen, hf⟩ := open_fields Try.underlying64 h
    rw [cells_stmt] at hlen
    obtain ⟨c0, c1, c2, c3, c4, c5, c6, c7, c8, c9, c10, c11, c12, rfl⟩ := thirteen hlen
    obtain ⟨y0, g0⟩ : ∃ y, DataW.trod enc Try.prog w base spare held n 3 (([c0, c1, c2, c3, c4, c5, c6, c7, c8, c9, c10, c11, c12].drop 0).take (Try.prog.cellsOf 3)) = some y := hf 0 _ rfl
    rw [cells_i] at g0
    obtain ⟨y1, g1⟩ : ∃ y, DataW.trod enc Try.prog w base spare held n 3 (([c0, c1, c2, c3, c4, c5, c6, c7, c8, c9, c10, c11, c12].drop 1).take (Try.prog.cellsOf 3)) = some y := hf 1 _ rfl
    rw [cells_i] at g1
    obtain ⟨y2, g2⟩ : ∃ y, DataW.trod enc Try.prog w base spare held n 22 (([c0, c1, c2, c3, c4, c5, c6, c7, c8, c9, c10, c11, c12].drop 2).take (Try.prog.cellsOf 22)) = some y := hf 2 _ rfl
    rw [cells_ss] at g2
    obtain ⟨y3, g3⟩ : ∃ y, DataW.trod enc Try.prog w base spare held n 9 (([c0, c1, c2, c3, c4, c5, c6, c7, c8, c9, c10, c11, c12].drop 3).take (Try.prog.cellsOf 9)) = some y := hf 3 _ rfl
    rw [cells_s] at g3
    obtain ⟨y4, g4⟩ : ∃ y, DataW.trod enc Try.prog w base spare held n 9 (([c0, c1, c2, c3, c4, c5, c6, c7, c8, c9, c10, c11, c12].drop 4).take (Try.prog.cellsOf 9)) = some y := hf 4 _ rfl
    rw [cells_s] at g4
    obtain ⟨y5, g5⟩ : ∃ y, DataW.trod enc Try.prog w base spare held n 45 (([c0, c1, c2, c3, c4, c5, c6, c7, c8, c9, c10, c11, c12].drop 5).take (Try.prog.cellsOf 45)) = some y := hf 5 _ rfl
    rw [cellsE] at g5
    obtain ⟨y6, g6⟩ : ∃ y, DataW.trod enc Try.prog w base spare held n 4 (([c0, c1, c2, c3, c4, c5, c6, c7, c8, c9, c10, c11, c12].drop 9).take (Try.prog.cellsOf 4)) = some y := hf 6 _ rfl
    rw [cells_b] at g6
    obtain ⟨y7, g7⟩ : ∃ y, DataW.trod enc Try.prog w base spare held n 62 (([c0, c1, c2, c3, c4, c5, c6, c7, c8, c9, c10, c11, c12].drop 10).take (Try.prog.cellsOf 62)) = some y := hf 7 _ rfl
    rw [cells_args] at g7
    obtain ⟨y8, g8⟩ : ∃ y, DataW.trod enc Try.prog w base spare held n 57 (([c0, c1, c2, c3, c4, c5, c6, c7, c8, c9, c10, c11, c12].drop 11).take (Try.prog.cellsOf 57)) = some y := hf 8 _ rfl
    rw [cells_stmts] at g8
    obtain ⟨y9, g9⟩ : ∃ y, DataW.trod enc Try.prog w base spare held n 57 (([c0, c1, c2, c3, c4, c5, c6, c7, c8, c9, c10, c11, c12].drop 12).take (Try.prog.cellsOf 57)) = some y := hf 9 _ rfl
    rw [cells_stmts] at g9
    obtain ⟨id, e0, _, w0⟩ := DataW.trod_int Try.underlying3 g0
    obtain ⟨kind, e1, _, w1⟩ := DataW.trod_int Try.underlying3 g1
    obtain ⟨labels, vl, e2, hl⟩ := open_texts g2
    obtain ⟨nm, e3, hnm⟩ := open_text g3
    obtain ⟨proc, e4, hproc⟩ := open_text g4
    obtain ⟨ex, hex⟩ := open_expr _ _ _ g5
    obtain ⟨has, e6⟩ := open_bool g6
    obtain ⟨args, va, e7, ha⟩ := open_list (⟨false, ⟨#[]⟩, .mk 0 0 ⟨#[]⟩ []⟩ : Ar) Try.underlying62 cells_arg (by omega) (fun m _ cs' y h => open_arg h) g7
    have s0 : S := .mk 0 0 [] ⟨#[]⟩ ⟨#[]⟩ (.mk 0 0 ⟨#[]⟩ []) false [] [] []
    obtain ⟨th, vt, e8, ht⟩ := open_list (R := StmtI w (lt_ w.heap.size)) s0 Try.underlying57 cells_stmt (by omega) (fun m hm cs' y h => ih m (by omega) cs' y h) g8
    obtain ⟨el, ve, e9, he⟩ := open_list (R := StmtI w (lt_ w.heap.size)) s0 Try.underlying57 cells_stmt (by omega) (fun m hm cs' y h => ih m (by omega) cs' y h) g9
    obtain ⟨A1, cap1, css1, rfl, t2, t3, t4⟩ := ht
    obtain ⟨A2, cap2, css2, rfl, u2, u3, u4⟩ := he
    injection e0 with e0
    injection e1 with e1
    injection e2 with e2
    injection e3 with e3
    injection e4 with e4
    injection e6 with e6
    injection e7 with e7
    injection e8 with e8
    injection e9 with e9
    subst e0 e1 e2 e3 e4 e6 e7 e8 e9
    exact ⟨.mk id kind labels nm proc ex has args th el, .mk (css1 := css1) (css2 := css2) (i64_of w0) (i64_of w1) hnm hproc hl hex ha t2 u2 t3 u3 t4 u4⟩
theorem open_stmts {fuel : Nat} {cs : List Value} {x : DataW H × List MemPlace} (h : DataW.trod enc Try.prog w base spare held fuel 57 cs = some x) : ∃ l v, cs = [v] ∧ StmtsI w (lt_ w.heap.size) l v :=
  open_list (R := StmtI w (lt_ w.heap.size)) (.mk 0 0 [] ⟨#[]⟩ ⟨#[]⟩ (.mk 0 0 ⟨#[]⟩ []) false [] [] []) Try.underlying57 cells_stmt (by omega) (fun m _ cs' y h => open_stmt _ _ _ h) h
theorem cells_par : Try.prog.cellsOf 61 = 2 := by kernel_rfl
theorem cells_pars : Try.prog.cellsOf 56 = 1 := by kernel_rfl
theorem cells_proc : Try.prog.cellsOf 59 = 5 := by kernel_rfl
theorem cells_procs : Try.prog.cellsOf 23 = 1 := by kernel_rfl
theorem cells_prog : Try.prog.cellsOf 25 = 2 := by kernel_rfl
theorem open_par {fuel : Nat} {cs : List Value} {x : DataW H × List MemPlace} (h : DataW.trod enc Try.prog w base spare held fuel 61 cs = some x) : ∃ p, ParI p cs := by
  obtain ⟨n, hn, hlen, hf⟩ := open_fields Try.underlying61 h
  rw [cells_par] at hlen
  match cs, hlen with
  | [c0, c1], _ =>
    obtain ⟨y0, g0⟩ : ∃ y, DataW.trod enc Try.prog w base spare held n 9 (([c0, c1].drop 0).take (Try.prog.cellsOf 9)) = some y := hf 0 _ rfl
    obtain ⟨y1, g1⟩ : ∃ y, DataW.trod enc Try.prog w base spare held n 4 (([c0, c1].drop 1).take (Try.prog.cellsOf 4)) = some y := hf 1 _ rfl
    rw [cells_s] at g0
    rw [cells_b] at g1
    obtain ⟨s, e0, hs⟩ := open_text g0
    obtain ⟨b, e1⟩ := open_bool g1
    injection e0 with e0
    injection e1 with e1
    subst e0 e1
    exact ⟨⟨s, b⟩, rfl, hs⟩
theorem open_proc {fuel : Nat} {cs : List Value} {x : DataW H × List MemPlace} (h : DataW.trod enc Try.prog w base spare held fuel 59 cs = some x) : ∃ p, ProcI w (lt_ w.heap.size) p cs := by
  obtain ⟨n, hn, hlen, hf⟩ := open_fields Try.underlying59 h
  rw [cells_proc] at hlen
  match cs, hlen with
  | [c0, c1, c2, c3, c4], _ =>
    obtain ⟨y0, g0⟩ : ∃ y, DataW.trod enc Try.prog w base spare held n 9 (([c0, c1, c2, c3, c4].drop 0).take (Try.prog.cellsOf 9)) = some y := hf 0 _ rfl
    obtain ⟨y1, g1⟩ : ∃ y, DataW.trod enc Try.prog w base spare held n 56 (([c0, c1, c2, c3, c4].drop 1).take (Try.prog.cellsOf 56)) = some y := hf 1 _ rfl
    obtain ⟨y2, g2⟩ : ∃ y, DataW.trod enc Try.prog w base spare held n 22 (([c0, c1, c2, c3, c4].drop 2).take (Try.prog.cellsOf 22)) = some y := hf 2 _ rfl
    obtain ⟨y3, g3⟩ : ∃ y, DataW.trod enc Try.prog w base spare held n 57 (([c0, c1, c2, c3, c4].drop 3).take (Try.prog.cellsOf 57)) = some y := hf 3 _ rfl
    obtain ⟨y4, g4⟩ : ∃ y, DataW.trod enc Try.prog w base spare held n 22 (([c0, c1, c2, c3, c4].drop 4).take (Try.prog.cellsOf 22)) = some y := hf 4 _ rfl
    rw [cells_s] at g0
    rw [cells_pars] at g1
    rw [cells_ss] at g2 g4
    rw [cells_stmts] at g3
    obtain ⟨s, e0, hs⟩ := open_text g0
    obtain ⟨ps, vp, e1, h1⟩ := open_list (R := ParI) (⟨⟨#[]⟩, false⟩ : Pa) Try.underlying56 cells_par (by omega) (fun m _ cs' y h => open_par h) g1
    obtain ⟨vs, vv, e2, h2⟩ := open_texts g2
    obtain ⟨bd, vb, e3, h3⟩ := open_stmts g3
    obtain ⟨en, ve, e4, h4⟩ := open_texts g4
    injection e0 with e0
    injection e1 with e1
    injection e2 with e2
    injection e3 with e3
    injection e4 with e4
    subst e0 e1 e2 e3 e4
    exact ⟨⟨s, ps, vs, bd, en⟩, _, _, _, _, rfl, hs, h1, h2, h3, h4⟩
theorem open_prog {fuel : Nat} {cs : List Value} {x : DataW H × List MemPlace} (h : DataW.trod enc Try.prog w base spare held fuel 25 cs = some x) : ∃ p, ProgI w (lt_ w.heap.size) p cs := by
  obtain ⟨n, hn, hlen, hf⟩ := open_fields Try.underlying25 h
  rw [cells_prog] at hlen
  match cs, hlen with
  | [c0, c1], _ =>
    obtain ⟨y0, g0⟩ : ∃ y, DataW.trod enc Try.prog w base spare held n 22 (([c0, c1].drop 0).take (Try.prog.cellsOf 22)) = some y := hf 0 _ rfl
    obtain ⟨y1, g1⟩ : ∃ y, DataW.trod enc Try.prog w base spare held n 23 (([c0, c1].drop 1).take (Try.prog.cellsOf 23)) = some y := hf 1 _ rfl
    rw [cells_ss] at g0
    rw [cells_procs] at g1
    obtain ⟨gl, vg, e0, h0⟩ := open_texts g0
    obtain ⟨ps, vp, e1, h1⟩ := open_list (R := ProcI w (lt_ w.heap.size)) (⟨⟨#[]⟩, [], [], [], []⟩ : Pr) Try.underlying23 cells_proc (by omega) (fun m _ cs' y h => open_proc h) g1
    injection e0 with e0
    injection e1 with e1
    subst e0 e1
    exact ⟨⟨gl, ps⟩, _, _, rfl, h0, h1⟩
end
end Go.Proofs.Ytcocilpifdjibaa
namespace Go.Proofs.Ytcocilpifdjibaa
open Go.ChangeShapes Go.WideShapes Go.ChangeAt Go.RowKit Go.Deep
set_option linter.unusedVariables false
set_option maxRecDepth 100000
theorem laidOut : laidOutB Try.prog = true := by kernel_rfl
section
variable {H : Type} {enc : TypeId × Value → H}
theorem trodAll_stays {P : Program} (hl : laidOutB P = true) {W W' : World} {sp : Nat → Bool} : ∀ {ts : List TypeId} {vs : List Value} {ds : List (DataW H)} {ps : List MemPlace}, (∀ t ∈ ts, P.readableRec t = true ∧ t < P.types.size) →
    DataW.TrodAll enc P W 0 (fun _ => true) true ts vs ds ps → (∀ x ∈ ps, W.sameAt W' x) → (∀ x ∈ ps, sp x.block = true) → DataW.TrodAll enc P W' 0 sp true ts vs ds ps
  | [], vs, ds, ps, _, h, _, _ => by
    obtain ⟨rfl, rfl, rfl⟩ := trodAll_nil h
    exact trodAll_mk0
  | t :: ts, vs, ds, ps, hr, h, hs, hp => by
    obtain ⟨v, vs', d, ds', p, q, rfl, rfl, rfl, h1, h2⟩ := trodAll_cons h
    have h3 := hr t (List.mem_cons_self ..)
    exact trodAll_cons_mk (WideElems.Trod_stays hl h3.1 h3.2 h1 (fun x hx => hs x (List.mem_append_left _ hx)) (fun x hx => hp x (List.mem_append_left _ hx)))
      (trodAll_stays hl (fun u hu => hr u (List.mem_cons_of_mem _ hu)) h2 (fun x hx => hs x (List.mem_append_right _ hx)) (fun x hx => hp x (List.mem_append_right _ hx)))
theorem reads_ok {P : Program} : ∀ {ts : List TypeId}, (ts.all fun t => P.readableRec t && decide (t < P.types.size)) = true → ∀ t ∈ ts, P.readableRec t = true ∧ t < P.types.size := by
  intro ts h t ht
  have := List.all_eq_true.1 h t ht
  rw [Bool.and_eq_true] at this
  exact ⟨this.1, of_decide_eq_true this.2⟩
theorem progArg {W : World} {base : Nat} {v : Value} {d : DataW H} {p : List MemPlace} (hv : Value.okWide Try.prog W .any base 25 v) (h : DataW.Trod enc Try.prog W 0 (fun _ => true) true 25 v d p) :
    ∃ c0 c1 e, v = .agg #[c0, c1] ∧ ProgI W (lt_ W.heap.size) e [c0, c1] := by
  obtain ⟨cs, rfl, hsz⟩ := okWide_struct Try.underlying25 hv
  obtain ⟨l⟩ := cs
  match l, hsz.trans cells_prog with
  | [c0, c1], _ =>
    obtain ⟨fuel, hf⟩ := h
    obtain ⟨e, he⟩ := open_prog hf
    exact ⟨c0, c1, e, rfl, he⟩
end
end Go.Proofs.Ytcocilpifdjibaa
