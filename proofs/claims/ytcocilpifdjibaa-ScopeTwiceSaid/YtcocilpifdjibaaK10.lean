/- Texts, merged by a program; only what is used. -/
import Derived.Test.YtcocilpifdjibaaK1
import Derived.Test.YtcocilpifdjibaaK2
import Derived.Test.YtcocilpifdjibaaK3
import Derived.Test.YtcocilpifdjibaaK4
import Derived.Test.YtcocilpifdjibaaK5
import Derived.Test.YtcocilpifdjibaaK6
import Derived.Test.YtcocilpifdjibaaK7
import Derived.Test.YtcocilpifdjibaaK8
import Derived.Test.YtcocilpifdjibaaK9
namespace Go.Proofs.Ytcocilpifdjibaa
open Go.ChangeShapes Go.WideShapes Go.ChangeAt Go.RowKit Go.Deep
set_option linter.unusedVariables false
/-- one piece turned -/
def upd (css : Nat → List Value) (k : Nat) (cs : List Value) : Nat → List Value := fun i => if i = k then cs else css i
theorem upd_same (css : Nat → List Value) (k : Nat) (cs : List Value) : upd css k cs k = cs := by simp [upd]
theorem upd_ne (css : Nat → List Value) {k i : Nat} (cs : List Value) (h : i ≠ k) : upd css k cs i = css i := by simp [upd, h]
theorem upd_upd (css : Nat → List Value) (k : Nat) (cs ds : List Value) : upd (upd css k cs) k ds = upd css k ds := by
  funext i; simp only [upd]; split <;> rfl
theorem upd_self (css : Nat → List Value) (k : Nat) : upd css k (css k) = css := by
  funext i; simp only [upd]; split
  · rename_i h; rw [h]
  · rfl
theorem upd_len {css : Nat → List Value} {k n C : Nat} {cs : List Value} (h : ∀ i, i < n → (css i).length = C) (hc : cs.length = C) (i : Nat) (hi : i < n) : (upd css k cs i).length = C := by
  unfold upd; split
  · exact hc
  · exact h i hi
theorem flatN_upd_ge (css : Nat → List Value) {k n : Nat} (cs : List Value) (h : n ≤ k) : flatN (upd css k cs) n = flatN css n := by
  induction n with
  | zero => rfl
  | succ n ih => rw [flatN, flatN, ih (by omega), upd_ne _ _ (by omega)]
theorem flatN_set {css : Nat → List Value} {C n : Nat} (h : ∀ i, i < n → (css i).length = C) {i j : Nat} (hi : i < n) (hj : j < C) (u : Value) : (flatN css n).set (i * C + j) u = flatN (upd css i ((css i).set j u)) n := by
  induction n with
  | zero => omega
  | succ n ih =>
    have hl : (flatN css n).length = n * C := flatN_len (fun i hi => h i (by omega))
    rw [flatN, flatN]
    by_cases hin : i < n
    · have : i * C + j < n * C := by
        have := Nat.mul_le_mul_right C (show i + 1 ≤ n by omega)
        rw [Nat.succ_mul] at this
        omega
      rw [List.set_append_left _ _ (by rw [hl]; exact this), ih (fun i hi => h i (by omega)) hin, upd_ne _ _ (by omega)]
    · have e : i = n := by omega
      subst e
      rw [List.set_append_right _ _ (by rw [hl]; omega), hl, flatN_upd_ge _ _ (Nat.le_refl _), upd_same]
      congr 2
      omega
/-- a row of such pieces; a cell of it is set -/
theorem Blk.setN {w : World} {b : Nat} {t : TypeId} {css : Nat → List Value} {n C : Nat} (hB : Blk w b t (flatN css n).toArray) (h : ∀ i, i < n → (css i).length = C) {i j : Nat} (hi : i < n) (hj : j < C) (u : Value) : Blk (w.setCell ⟨b, i * C + j, none⟩ u) b t (flatN (upd css i ((css i).set j u)) n).toArray := by
  have := hB.set_ (i * C + j) u
  rwa [List.setIfInBounds_toArray, flatN_set h hi hj u] at this
theorem Blk.getN {w : World} {b : Nat} {t : TypeId} {css : Nat → List Value} {n C : Nat} (hB : Blk w b t (flatN css n).toArray) (h : ∀ i, i < n → (css i).length = C) {i j : Nat} (hi : i < n) (hj : j < C) : w.cell? ⟨b, i * C + j, none⟩ = (css i)[j]? := by
  rw [hB.cell, List.getElem?_toArray, flatN_get h hi hj]
def wAr : List Ar → Nat
  | [] => 0
  | a :: l => wE a.x + (a.nm.size + 1) + wAr l
theorem wAr_mem {l : List Ar} {a : Ar} (h : a ∈ l) : wE a.x + (a.nm.size + 1) ≤ wAr l := by
  induction l with
  | nil => simp at h
  | cons x l ih =>
    rw [wAr]
    rcases List.mem_cons.1 h with rfl | h
    · omega
    · have := ih h; omega
theorem wAr_len (l : List Ar) : l.length ≤ wAr l := by
  induction l with
  | nil => exact Nat.zero_le _
  | cons x l ih => rw [wAr, List.length_cons]; omega
theorem argCk (w : World) (Q : Nat → Prop) (x : Ar) (cs : List Value) (h : ArgI w Q x cs) : CellsOk 6 cs := by
  obtain ⟨xcs, rfl, _, h⟩ := h
  obtain ⟨h1, h2⟩ := exprOk _ _ _ _ h
  exact ⟨by simp [h1], fun u hu => by rcases List.mem_cons.1 hu with rfl | hu; rfl; rcases List.mem_cons.1 hu with rfl | hu; rfl; exact h2 u hu⟩
theorem ArgI.keep {w w' : World} {Q Q' : Nat → Prop} {a : Ar} {cs : List Value} (h : ArgI w Q a cs) (hQ : ∀ b, Q b → Q' b) (hc : ∀ p : Addr, Q p.block → w'.cell? p = w.cell? p) : ArgI w' Q' a cs := by
  obtain ⟨xcs, h1, h2, h3⟩ := h
  exact ⟨xcs, h1, h2, h3.keep hQ hc⟩
theorem ArgI.open_ {w : World} {Q : Nat → Prop} {a : Ar} {cs : List Value} (h : ArgI w Q a cs) : ∃ o n s A l c, cs = [.bool a.ref, .string a.nm, .int .i64 o, .int .i64 n, .string s, .slice A l c] ∧ a.nm.size ≤ 9223372036854775807 ∧ ExprI w Q a.x [.int .i64 o, .int .i64 n, .string s, .slice A l c] := by
  obtain ⟨xcs, rfl, h2, h3⟩ := h
  obtain ⟨o, n, s, A, l, c, rfl⟩ := h3.form
  exact ⟨o, n, s, A, l, c, rfl, h2, h3⟩
theorem set4_cells (w : World) {b o : Nat} (v0 v1 v2 v3 : Value) : ((((w.setCell ⟨b, o, none⟩ v0).setCell ⟨b, o + 1, none⟩ v1).setCell ⟨b, o + 2, none⟩ v2).setCell ⟨b, o + 3, none⟩ v3).heap.size = w.heap.size ∧ ∀ p : Addr, p.block ≠ b → ((((w.setCell ⟨b, o, none⟩ v0).setCell ⟨b, o + 1, none⟩ v1).setCell ⟨b, o + 2, none⟩ v2).setCell ⟨b, o + 3, none⟩ v3).cell? p = w.cell? p := by
  refine ⟨by simp [World.setCell], fun p hp => ?_⟩
  have hne : ∀ j, p ≠ ⟨b, j, none⟩ := fun j e => hp (by rw [e])
  rw [cell_set_ne _ (hne _), cell_set_ne _ (hne _), cell_set_ne _ (hne _), cell_set_ne _ (hne _)]
end Go.Proofs.Ytcocilpifdjibaa
namespace Go.Proofs.Ytcocilpifdjibaa
open Go.ChangeShapes Go.WideShapes Go.ChangeAt Go.RowKit Go.Deep
set_option linter.unusedVariables false
def wT : List ByteArray → Nat
  | [] => 0
  | s :: l => s.size + 1 + wT l
theorem wT_mem {l : List ByteArray} {s : ByteArray} (h : s ∈ l) : s.size + 1 ≤ wT l := by
  induction l with
  | nil => simp at h
  | cons x l ih =>
    rw [wT]
    rcases List.mem_cons.1 h with rfl | h
    · omega
    · have := ih h; omega
theorem wT_len (l : List ByteArray) : l.length ≤ wT l := by
  induction l with
  | nil => exact Nat.zero_le _
  | cons x l ih => rw [wT, List.length_cons]; omega
theorem smT_of {l : List ByteArray} (h : wT l ≤ 1000000) : smT l := ⟨Nat.le_trans (wT_len l) h, fun s hs => by have := wT_mem hs; omega⟩
mutual
/-- how much a statement is -/
def wS : S → Nat
  | .mk _ _ labels nm proc x _ args th el => wE x + wT labels + (nm.size + 1) + (proc.size + 1) + wAr args + wSL th + wSL el
def wSL : List S → Nat
  | [] => 0
  | s :: l => wS s + wSL l
end
theorem wSL_mem {l : List S} {s : S} (h : s ∈ l) : wS s ≤ wSL l := by
  induction l with
  | nil => simp at h
  | cons x l ih =>
    rw [wSL]
    rcases List.mem_cons.1 h with rfl | h
    · omega
    · have := ih h; omega
theorem wS_pos (s : S) : 1 ≤ wS s := by cases s; rw [wS]; omega
theorem wSL_len (l : List S) : l.length ≤ wSL l := by
  induction l with
  | nil => exact Nat.zero_le _
  | cons x l ih => rw [wSL, List.length_cons]; have := wS_pos x; omega
mutual
def sizS : S → Nat
  | .mk _ _ _ _ _ _ _ _ th el => sizSL th + sizSL el + 1
def sizSL : List S → Nat
  | [] => 0
  | s :: l => sizS s + sizSL l
end
mutual
theorem sizS_w : ∀ s : S, sizS s ≤ wS s
  | .mk _ _ labels nm proc x _ args th el => by rw [sizS, wS]; have := sizSL_w th; have := sizSL_w el; omega
theorem sizSL_w : ∀ l : List S, sizSL l ≤ wSL l
  | [] => by rw [sizSL]; exact Nat.zero_le _
  | s :: l => by rw [sizSL, wSL]; have := sizS_w s; have := sizSL_w l; omega
end
/-- a statement that is not too great -/
def RS (w : World) (Q : Nat → Prop) (x : S) (cs : List Value) : Prop := StmtI w Q x cs ∧ wS x ≤ 1000000
theorem rsOk (w : World) (Q : Nat → Prop) (x : S) (cs : List Value) (h : RS w Q x cs) : CellsOk 13 cs := by
  obtain ⟨id, kind, labels, nm, proc, ex, has, args, th, el, L, lc, x0, x1, x2, X, xn, xc, R, rc, T, tc, U, uc, rfl, rfl, _⟩ := stmt_open h.1
  exact ⟨rfl, by simp [Value.oneCell']⟩
abbrev CopyS := Copy (α := S) 13 RS
theorem StmtI.of_slice {w : World} {Q : Nat → Prop} {id kind : Int} {labels : List ByteArray} {nm proc : ByteArray} {x : E} {has : Bool} {args : List Ar} {th el : List S} {vl va vt ve : Value} {x0 x1 x2 x3 : Value} (hid : i64 id) (hkind : i64 kind) (hnm : nm.size ≤ 9223372036854775807) (hproc : proc.size ≤ 9223372036854775807)
    (hl : TextsI w Q labels vl) (hx : ExprI w Q x [x0, x1, x2, x3]) (ha : SliceI w Q 6 (ArgI w Q) args va) (ht : StmtsI w Q th vt) (he : StmtsI w Q el ve) : StmtI w Q (.mk id kind labels nm proc x has args th el) [.int .i64 id, .int .i64 kind, vl, .string nm, .string proc, x0, x1, x2, x3, .bool has, va, vt, ve] := by
  obtain ⟨A1, cap1, css1, rfl, h1, h2, h3⟩ := ht
  obtain ⟨A2, cap2, css2, rfl, h4, h5, h6⟩ := he
  exact .mk hid hkind hnm hproc hl hx ha h1 h4 h2 h5 h3 h6
/-- how many nodes are ahead -/
def szHS : List (Hole S) → Nat
  | [] => 0
  | h :: hs => sizSL h.ts + szHS hs
theorem szHS_append (a b : List (Hole S)) : szHS (a ++ b) = szHS a + szHS b := by
  induction a with
  | nil => rw [List.nil_append, szHS]; omega
  | cons k a ih => rw [List.cons_append, szHS, szHS, ih]; omega
theorem len_szHS {hs : List (Hole S)} (hg : ∀ x ∈ hs.map slH, goodS x) : hs.length ≤ szHS hs := by
  induction hs with
  | nil => exact Nat.zero_le _
  | cons k hs ih =>
    have h1 := ih (fun x hx => hg x (by rw [List.map_cons]; exact List.mem_cons_of_mem _ hx))
    have h2 := (hg (slH k) (by rw [List.map_cons]; exact List.mem_cons_self ..)).1
    obtain ⟨b, o, ts, cap⟩ := k
    rw [szHS, List.length_cons]
    cases ts with
    | nil => simp [slH] at h2
    | cons t ts => simp only [sizSL]; cases t; rw [sizS]; omega
theorem CurS.own_lt {w : World} {base c : Nat} {v : Value} {last : Option Addr} {s : List SL} (h : CurS w base c v last s) {k : Nat} (hk : ownS c v k) : k < w.heap.size := by
  rcases hk with rfl | hk
  · exact h.blk.lt
  · rcases h.row.2 with ⟨rfl, _⟩ | ⟨g, cap, cur, rfl, _, hg, _⟩
    · simp [Value.ownBlock] at hk
    · have : g = k := by simpa [Value.ownBlock] using hk
      subst this
      exact (Array.getElem?_eq_some_iff.1 hg).1
/-- a node that is being filled: its cells now -/
structure NodeW (W q : World) (b o : Nat) (cs : List Value) : Prop where
  mv : Moves (fun k => k = b) W q
  lt : b < W.heap.size
  oth : ∀ p : Addr, p.block = b → ¬ (o ≤ p.off ∧ p.off < o + 13) → q.cell? p = W.cell? p
  blk : ∃ t bc, Blk q b t bc
  at_ : ∀ j u, cs[j]? = some u → q.cell? ⟨b, o + j, none⟩ = some u
  len : cs.length = 13
theorem NodeW.below {W q q' : World} {b o : Nat} {cs : List Value} (h : NodeW W q b o cs) (hb : Below q.heap.size q q') : NodeW W q' b o cs := by
  have hl : b < q.heap.size := Nat.lt_of_lt_of_le h.lt h.mv.size
  refine ⟨h.mv.trans (Below.moves hb) (fun j hj => .inl (Nat.le_trans h.mv.size hj)), h.lt, fun p hp hn => (hb.cell (by rw [hp]; exact hl)).trans (h.oth p hp hn), ?_, fun j u hu => (hb.cell (p := ⟨b, o + j, none⟩) hl).trans (h.at_ j u hu), h.len⟩
  obtain ⟨t, bc, hB⟩ := h.blk
  exact ⟨t, bc, hB.below hb hl⟩
theorem NodeW.set {W q : World} {b o : Nat} {cs : List Value} (h : NodeW W q b o cs) {j : Nat} (hj : j < 13) (u : Value) : NodeW W (q.setCell ⟨b, o + j, none⟩ u) b o (cs.set j u) := by
  obtain ⟨t, bc, hB⟩ := h.blk
  refine ⟨h.mv.set_ (.inl rfl) u, h.lt, fun p hp hn => ?_, ⟨t, _, hB.set_ (o + j) u⟩, fun i v hv => ?_, by rw [List.length_set]; exact h.len⟩
  · rw [cell_set_ne _ (fun e => hn (by rw [e]; simp; omega))]
    exact h.oth p hp hn
  · by_cases e : i = j
    · subst e
      rw [List.getElem?_set_self (by rw [h.len]; exact hj)] at hv
      have h1 := h.at_ i (cs[i]'(by rw [h.len]; exact hj)) (List.getElem?_eq_getElem _)
      rw [(hB.set_ (o + i) u).cell, Array.getElem?_setIfInBounds_self_of_lt]
      · exact hv
      · rw [hB.cell] at h1; exact (Array.getElem?_eq_some_iff.1 h1).1
    · rw [List.getElem?_set_ne (fun x => e x.symm)] at hv
      rw [cell_set_ne _ (fun x => e (by injection x with _ x _; omega))]
      exact h.at_ i v hv
theorem NodeW.frozen {W q : World} {b o : Nat} {cs : List Value} (h : NodeW W q b o cs) (j : Nat) : q.frozen? ⟨b, o + j, none⟩ = false := by
  obtain ⟨t, bc, hB⟩ := h.blk
  exact hB.frozen _
/-- a new row of statements, or none -/
def RowS' (w : World) (Q : Nat → Prop) (l : List S) (A : Option Addr) (cap M M' : Nat) (W : World) : Prop :=
  (l.length ≤ cap ∧ cap ≤ 9223372036854775807) ∧ (l = [] ∨ ∃ b css, A = some ⟨b, 0, none⟩ ∧ cap = l.length ∧ M ≤ b ∧ b < M' ∧ Blk W b 64 (flatN css l.length).toArray ∧ ∀ i (h : i < l.length), RS w Q l[i] (css i))
theorem row_holes {w W : World} {Q : Nat → Prop} {l : List S} {A : Option Addr} {cap M M' : Nat} (h : RowS' w Q l A cap M M' W) (hl : l.length ≤ 1000000) :
    ∃ new : List (Hole S), (∀ s, pushS s A l.length cap = new.map slH ++ s) ∧ szHS new = sizSL l ∧ (∀ k ∈ new, M ≤ k.b ∧ k.b < M' ∧ (∃ t cs, Blk W k.b t cs) ∧ atH 13 (RS w Q) W k) ∧ new.Pairwise (disH 13) ∧ (0 < l.length → A ≠ none) ∧
      ∀ V base, base ≤ M → (∀ k ∈ new, atH 13 (RS V (nb base V)) V k) → StmtsI V (nb base V) l (.slice A l.length cap) := by
  obtain ⟨h1, h2⟩ := h
  rcases h2 with rfl | ⟨b, css, rfl, rfl, h3, h4, h5, h6⟩
  · exact ⟨[], fun s => by rw [List.length_nil, pushS_zero]; rfl, by rw [szHS, sizSL], fun _ h => absurd h (by simp), .nil, fun h => absurd h (by simp), fun V base _ _ => ⟨A, cap, fun _ => [], rfl, h1, fun h => absurd h (by simp), fun i h => absurd h (by simp)⟩⟩
  · by_cases h0 : l.length = 0
    · have hn : l = [] := List.length_eq_zero_iff.1 h0
      subst hn
      exact ⟨[], fun s => by rw [List.length_nil, pushS_zero]; rfl, by rw [szHS, sizSL], fun _ h => absurd h (by simp), .nil, fun h => absurd h (by simp), fun V base _ _ => ⟨_, _, fun _ => [], rfl, h1, fun h => absurd h (by simp), fun i h => absurd h (by simp)⟩⟩
    · refine ⟨[⟨b, 0, l, l.length⟩], fun s => by rw [pushS_pos _ _ _ (by omega)]; rfl, by rw [szHS, szHS]; simp, fun k hk => ?_, List.pairwise_singleton _ _, fun _ => by simp, fun V base hb hd => ?_⟩
      · have : k = ⟨b, 0, l, l.length⟩ := by simpa using hk
        subst this
        refine ⟨h3, h4, ⟨_, _, h5⟩, fun i hi => ⟨css i, h6 i hi, fun j u hu => ?_⟩⟩
        have hj : j < 13 := by rw [← (rsOk _ _ _ _ (h6 i hi)).1]; exact (List.getElem?_eq_some_iff.1 hu).1
        rw [h5.cell]
        simp only [List.getElem?_toArray, Nat.zero_add]
        rw [flatN_get (fun i hi => (rsOk _ _ _ _ (h6 i hi)).1) hi hj]
        exact hu
      · have h7 := slice_of_at (base := base) (hd _ (List.mem_singleton.2 rfl)) (rsOk _ _) (by omega) (Nat.le_trans hb h3) hl
        obtain ⟨A', cap', ds, e1, e2, e3, e4⟩ := h7
        exact ⟨A', cap', ds, e1, e2, e3, fun i hi => (e4 i hi).1⟩
end Go.Proofs.Ytcocilpifdjibaa
namespace Go.Proofs.Ytcocilpifdjibaa
open Go.ChangeShapes Go.WideShapes Go.ChangeAt Go.RowKit Go.Deep
set_option linter.unusedVariables false
set_option linter.unusedSimpArgs false
def S.id : S → Int | .mk id _ _ _ _ _ _ _ _ _ => id
def S.kind : S → Int | .mk _ kind _ _ _ _ _ _ _ _ => kind
def S.nm : S → ByteArray | .mk _ _ _ nm _ _ _ _ _ _ => nm
def S.proc : S → ByteArray | .mk _ _ _ _ proc _ _ _ _ _ => proc
def S.x : S → E | .mk _ _ _ _ _ x _ _ _ _ => x
def S.args : S → List Ar | .mk _ _ _ _ _ _ _ args _ _ => args
def S.th : S → List S | .mk _ _ _ _ _ _ _ _ th _ => th
def S.el : S → List S | .mk _ _ _ _ _ _ _ _ _ el => el
theorem subS_eq (s : S) : subS s = preSL s.th ++ preSL s.el := by cases s; rfl
/-- a statement at the address a: its cells -/
theorem stmt_node {w W : World} {Q : Nat → Prop} {a : Addr} {s : S} (h : NodeI w Q (StmtI w Q) a s) (hI : In Q w W) :
    ∃ id kind labels nm proc x has args th el L lc x0 x1 x2 X xn xc R rc T tc U uc, s = .mk id kind labels nm proc x has args th el ∧
      RowAt W a (.int .i64 id) [.int .i64 kind, .slice L labels.length lc, .string nm, .string proc, .int .i64 x0, .int .i64 x1, .string x2, .slice X xn xc, .bool has, .slice R args.length rc, .slice T th.length tc, .slice U el.length uc] ∧
      nm.size ≤ 9223372036854775807 ∧ proc.size ≤ 9223372036854775807 ∧ TextsI w Q labels (.slice L labels.length lc) ∧ ExprI w Q x [.int .i64 x0, .int .i64 x1, .string x2, .slice X xn xc] ∧
      SliceI w Q 6 (ArgI w Q) args (.slice R args.length rc) ∧ StmtsI w Q th (.slice T th.length tc) ∧ StmtsI w Q el (.slice U el.length uc) := by
  obtain ⟨hq, cs, hs, hc⟩ := h
  obtain ⟨id, kind, labels, nm, proc, x, has, args, th, el, L, lc, x0, x1, x2, X, xn, xc, R, rc, T, tc, U, uc, h1, rfl, h2, h3, h4, h5, h6, h7, h8, h9, h10⟩ := stmt_open hs
  exact ⟨id, kind, labels, nm, proc, x, has, args, th, el, L, lc, x0, x1, x2, X, xn, xc, R, rc, T, tc, U, uc, h1, rowAt_of fun j u hu => (hI.cell (by rw [block_add]; exact hq)).trans (hc j u hu), h4, h5, h6, h7, h8, h9, h10⟩
/-- a program that is not too great -/
structure SmG (p : Pg) : Prop where
  globals : wT p.globals ≤ 1000000
  procs : p.procs.length ≤ 1000000
  proc : ∀ q ∈ p.procs, wSL q.body ≤ 1000000 ∧ wT q.vars ≤ 1000000 ∧ wT q.end_ ≤ 1000000 ∧ q.params.length ≤ 1000000
/-- two procedures in blocks of their own -/
theorem blkR5 {w : World} {b : Nat} {e0 e1 e2 e3 e4 : Value} (h : Blk w b 59 #[e0, e1, e2, e3, e4]) : (w.cell? ⟨b, 0, none⟩ = some e0 ∧ w.cell? ⟨b, 1, none⟩ = some e1 ∧ w.cell? ⟨b, 2, none⟩ = some e2 ∧ w.cell? ⟨b, 3, none⟩ = some e3 ∧ w.cell? ⟨b, 4, none⟩ = some e4) ∧ w.frozen? ⟨b, 0, none⟩ = false ∧ w.frozen? ⟨b, 1, none⟩ = false ∧ w.frozen? ⟨b, 2, none⟩ = false ∧ w.frozen? ⟨b, 3, none⟩ = false ∧ w.frozen? ⟨b, 4, none⟩ = false := ⟨⟨by rw [h.cell]; rfl, by rw [h.cell]; rfl, by rw [h.cell]; rfl, by rw [h.cell]; rfl, by rw [h.cell]; rfl⟩, h.frozen 0, h.frozen 1, h.frozen 2, h.frozen 3, h.frozen 4⟩
end Go.Proofs.Ytcocilpifdjibaa
namespace Go.Proofs.Ytcocilpifdjibaa
open Go.ChangeShapes Go.WideShapes Go.ChangeAt Go.RowKit Go.Deep
set_option linter.unusedVariables false
theorem freshS_v {w W : World} {Q : Nat → Prop} {l : List S} {v : Value} (h : StmtsI w Q l v) (hI : In Q w W) (hw : wSL l ≤ 1000000) :
    Calls Try.prog 176 #[v] W fun e w' => ∃ A cap, e = .returned (.slice A l.length cap) ∧ RowS' w Q l A cap W.heap.size w'.heap.size w' ∧ Below W.heap.size W w' := by
  have h' : SliceI w Q 13 (RS w Q) l v := by
    obtain ⟨A, cap, css, h1, h2, h3, h4⟩ := h
    exact ⟨A, cap, css, h1, h2, h3, fun i hi => ⟨h4 i hi, Nat.le_trans (wSL_mem (List.getElem_mem hi)) hw⟩⟩
  refine (freshS_any h' hI (rsOk w Q) (Nat.le_trans (wSL_len l) hw)).mono ?_
  intro e w' hf
  have hb := hf.below
  rcases hf with ⟨rfl, rfl, _⟩ | ⟨css, rfl, rfl, hr⟩
  · exact ⟨_, _, rfl, ⟨⟨Nat.le_refl _, by omega⟩, .inl rfl⟩, hb⟩
  · exact ⟨_, _, rfl, ⟨⟨Nat.le_refl _, by have := Nat.le_trans (wSL_len l) hw; omega⟩, .inr ⟨_, css, rfl, rfl, Nat.le_refl _, by simp, Blk.new _ _ _, hr⟩⟩, hb⟩
theorem RowS'.on {w W W' : World} {Q : Nat → Prop} {l : List S} {A : Option Addr} {cap M M' : Nat} (h : RowS' w Q l A cap M M' W) (hb : ∀ k, M ≤ k → k < M' → W'.heap[k]? = W.heap[k]?) : RowS' w Q l A cap M M' W' := by
  obtain ⟨h1, h2⟩ := h
  refine ⟨h1, h2.imp (fun h => h) ?_⟩
  rintro ⟨b, css, e1, e2, e3, e4, e5, e6⟩
  exact ⟨b, css, e1, e2, e3, e4, (hb b e3 e4).trans e5, e6⟩
theorem RowS'.start {w W : World} {Q : Nat → Prop} {l : List S} {A : Option Addr} {cap M M' : Nat} (h : RowS' w Q l A cap M M' W) (hl : l.length ≤ 1000000) (hM : M' ≤ W.heap.size) :
    ∃ hs T, pushS [] A l.length cap = hs.map slH ∧ CopyS w Q M (fun V => StmtsI V (nb M V) l (.slice A l.length cap)) W hs T ∧ szHS hs = sizSL l ∧ (∀ b, T b → b < M') ∧ (0 < l.length → A ≠ none) := by
  obtain ⟨new, e1, z1, r1, d1, a1, f1⟩ := row_holes h hl
  exact ⟨new, fun k => M ≤ k ∧ k < M', by rw [e1, List.append_nil], ⟨fun b hb => ⟨hb.1, by omega⟩, fun k hk => ⟨⟨(r1 k hk).1, (r1 k hk).2.1⟩, (r1 k hk).2.2⟩, d1, fun V _ _ hd => f1 V M (Nat.le_refl _) hd⟩, z1, fun b hb => hb.2, a1⟩
theorem NodeW.start {W : World} {b o : Nat} {t : TypeId} {bc : Array Value} {cs : List Value} (hB : Blk W b t bc) (hl : cs.length = 13) (h : ∀ j u, cs[j]? = some u → W.cell? ⟨b, o + 0 * 13 + j, none⟩ = some u) : NodeW W W b o cs :=
  ⟨Moves.refl _ _, hB.lt, fun _ _ _ => rfl, ⟨t, bc, hB⟩, fun j u hu => by have := h j u hu; rw [Nat.zero_mul, Nat.add_zero] at this; exact this, hl⟩
theorem size_set (q : World) (p : Addr) (u : Value) : (q.setCell p u).heap.size = q.heap.size := by simp [World.setCell]
end Go.Proofs.Ytcocilpifdjibaa
namespace Go.Proofs.Ytcocilpifdjibaa
open Go.ChangeShapes Go.WideShapes Go.ChangeAt Go.RowKit Go.Deep
set_option linter.unusedVariables false
/-- a new variable of the kind of statements -/
abbrev zS : Array Value := #[.int .i64 0, .int .i64 0, .slice none 0 0, .string ⟨#[]⟩, .string ⟨#[]⟩, .int .i64 0, .int .i64 0, .string ⟨#[]⟩, .slice none 0 0, .bool false, .slice none 0 0, .slice none 0 0, .slice none 0 0]
def S0 : S := .mk 0 0 [] ⟨#[]⟩ ⟨#[]⟩ (.mk 0 0 ⟨#[]⟩ []) false [] [] []
theorem i64_zero : i64 0 := ⟨by omega, by omega⟩
def NewS (w : World) (b : Nat) : Prop := (w.cell? ⟨b, 0, none⟩ = some (.int .i64 0) ∧ w.cell? ⟨b, 1, none⟩ = some (.int .i64 0) ∧ w.cell? ⟨b, 2, none⟩ = some (.slice none 0 0) ∧ w.cell? ⟨b, 3, none⟩ = some (.string ⟨#[]⟩) ∧ w.cell? ⟨b, 4, none⟩ = some (.string ⟨#[]⟩) ∧ w.cell? ⟨b, 5, none⟩ = some (.int .i64 0) ∧ w.cell? ⟨b, 6, none⟩ = some (.int .i64 0) ∧ w.cell? ⟨b, 7, none⟩ = some (.string ⟨#[]⟩) ∧ w.cell? ⟨b, 8, none⟩ = some (.slice none 0 0) ∧ w.cell? ⟨b, 9, none⟩ = some (.bool false) ∧ w.cell? ⟨b, 10, none⟩ = some (.slice none 0 0) ∧ w.cell? ⟨b, 11, none⟩ = some (.slice none 0 0) ∧ w.cell? ⟨b, 12, none⟩ = some (.slice none 0 0)) ∧ w.frozen? ⟨b, 0, none⟩ = false ∧ w.frozen? ⟨b, 1, none⟩ = false ∧ w.frozen? ⟨b, 2, none⟩ = false ∧ w.frozen? ⟨b, 3, none⟩ = false ∧ w.frozen? ⟨b, 4, none⟩ = false ∧ w.frozen? ⟨b, 5, none⟩ = false ∧ w.frozen? ⟨b, 6, none⟩ = false ∧ w.frozen? ⟨b, 7, none⟩ = false ∧ w.frozen? ⟨b, 8, none⟩ = false ∧ w.frozen? ⟨b, 9, none⟩ = false ∧ w.frozen? ⟨b, 10, none⟩ = false ∧ w.frozen? ⟨b, 11, none⟩ = false ∧ w.frozen? ⟨b, 12, none⟩ = false
theorem newS_of {w : World} {b : Nat} (h : Blk w b 64 zS) : NewS w b := ⟨⟨by rw [h.cell]; rfl, by rw [h.cell]; rfl, by rw [h.cell]; rfl, by rw [h.cell]; rfl, by rw [h.cell]; rfl, by rw [h.cell]; rfl, by rw [h.cell]; rfl, by rw [h.cell]; rfl, by rw [h.cell]; rfl, by rw [h.cell]; rfl, by rw [h.cell]; rfl, by rw [h.cell]; rfl, by rw [h.cell]; rfl⟩, h.frozen 0, h.frozen 1, h.frozen 2, h.frozen 3, h.frozen 4, h.frozen 5, h.frozen 6, h.frozen 7, h.frozen 8, h.frozen 9, h.frozen 10, h.frozen 11, h.frozen 12⟩
theorem set13_blk {w : World} {b : Nat} {d0 d1 d2 d3 d4 d5 d6 d7 d8 d9 d10 d11 d12 : Value} (h : Blk w b 64 zS) : Blk (World.setCell (World.setCell (World.setCell (World.setCell (World.setCell (World.setCell (World.setCell (World.setCell (World.setCell (World.setCell (World.setCell (World.setCell (World.setCell w ⟨b, 0, none⟩ d0) ⟨b, 1, none⟩ d1) ⟨b, 2, none⟩ d2) ⟨b, 3, none⟩ d3) ⟨b, 4, none⟩ d4) ⟨b, 5, none⟩ d5) ⟨b, 6, none⟩ d6) ⟨b, 7, none⟩ d7) ⟨b, 8, none⟩ d8) ⟨b, 9, none⟩ d9) ⟨b, 10, none⟩ d10) ⟨b, 11, none⟩ d11) ⟨b, 12, none⟩ d12) b 64 #[d0, d1, d2, d3, d4, d5, d6, d7, d8, d9, d10, d11, d12] := by
  have := (((((((((((((h.set_ 0 d0).set_ 1 d1).set_ 2 d2).set_ 3 d3).set_ 4 d4).set_ 5 d5).set_ 6 d6).set_ 7 d7).set_ 8 d8).set_ 9 d9).set_ 10 d10).set_ 11 d11).set_ 12 d12)
  simp only [List.setIfInBounds_toArray, List.set_cons_zero, List.set_cons_succ] at this
  exact this
theorem set13_cell {w : World} {b : Nat} {d0 d1 d2 d3 d4 d5 d6 d7 d8 d9 d10 d11 d12 : Value} {p : Addr} (h : p.block ≠ b) : (World.setCell (World.setCell (World.setCell (World.setCell (World.setCell (World.setCell (World.setCell (World.setCell (World.setCell (World.setCell (World.setCell (World.setCell (World.setCell w ⟨b, 0, none⟩ d0) ⟨b, 1, none⟩ d1) ⟨b, 2, none⟩ d2) ⟨b, 3, none⟩ d3) ⟨b, 4, none⟩ d4) ⟨b, 5, none⟩ d5) ⟨b, 6, none⟩ d6) ⟨b, 7, none⟩ d7) ⟨b, 8, none⟩ d8) ⟨b, 9, none⟩ d9) ⟨b, 10, none⟩ d10) ⟨b, 11, none⟩ d11) ⟨b, 12, none⟩ d12).cell? p = w.cell? p := by
  have hne : ∀ j, p ≠ ⟨b, j, none⟩ := fun j e => h (by rw [e])
  rw [cell_set_ne _ (hne _), cell_set_ne _ (hne _), cell_set_ne _ (hne _), cell_set_ne _ (hne _), cell_set_ne _ (hne _), cell_set_ne _ (hne _), cell_set_ne _ (hne _), cell_set_ne _ (hne _), cell_set_ne _ (hne _), cell_set_ne _ (hne _), cell_set_ne _ (hne _), cell_set_ne _ (hne _), cell_set_ne _ (hne _)]
theorem set13_size {w : World} {b : Nat} {d0 d1 d2 d3 d4 d5 d6 d7 d8 d9 d10 d11 d12 : Value} : (World.setCell (World.setCell (World.setCell (World.setCell (World.setCell (World.setCell (World.setCell (World.setCell (World.setCell (World.setCell (World.setCell (World.setCell (World.setCell w ⟨b, 0, none⟩ d0) ⟨b, 1, none⟩ d1) ⟨b, 2, none⟩ d2) ⟨b, 3, none⟩ d3) ⟨b, 4, none⟩ d4) ⟨b, 5, none⟩ d5) ⟨b, 6, none⟩ d6) ⟨b, 7, none⟩ d7) ⟨b, 8, none⟩ d8) ⟨b, 9, none⟩ d9) ⟨b, 10, none⟩ d10) ⟨b, 11, none⟩ d11) ⟨b, 12, none⟩ d12).heap.size = w.heap.size := by simp only [size_set]
theorem set13_below {B : Nat} {a w : World} {b : Nat} {d0 d1 d2 d3 d4 d5 d6 d7 d8 d9 d10 d11 d12 : Value} (h : Below B a w) (hb : B ≤ b) : Below B a (World.setCell (World.setCell (World.setCell (World.setCell (World.setCell (World.setCell (World.setCell (World.setCell (World.setCell (World.setCell (World.setCell (World.setCell (World.setCell w ⟨b, 0, none⟩ d0) ⟨b, 1, none⟩ d1) ⟨b, 2, none⟩ d2) ⟨b, 3, none⟩ d3) ⟨b, 4, none⟩ d4) ⟨b, 5, none⟩ d5) ⟨b, 6, none⟩ d6) ⟨b, 7, none⟩ d7) ⟨b, 8, none⟩ d8) ⟨b, 9, none⟩ d9) ⟨b, 10, none⟩ d10) ⟨b, 11, none⟩ d11) ⟨b, 12, none⟩ d12) := (below_setc (below_setc (below_setc (below_setc (below_setc (below_setc (below_setc (below_setc (below_setc (below_setc (below_setc (below_setc (below_setc h hb _) hb _) hb _) hb _) hb _) hb _) hb _) hb _) hb _) hb _) hb _) hb _) hb _)
end Go.Proofs.Ytcocilpifdjibaa
namespace Go.Proofs.Ytcocilpifdjibaa
open Go.ChangeShapes Go.WideShapes Go.ChangeAt Go.RowKit Go.Deep
set_option linter.unusedVariables false
/-- the first statement with that id, and its procedure -/
def findL : List Pr → Int → ByteArray × S × Bool
  | [], _ => (⟨#[]⟩, S0, false)
  | q :: l, id => ((preSL q.body).find? (fun s => s.id == id)).elim (findL l id) (fun s => (q.nm, s, true))
def findP (p : Pg) (id : Int) : ByteArray × S × Bool := findL p.procs id
mutual
theorem preS_w : ∀ (s : S) (x : S), x ∈ preS s → wS x ≤ wS s
  | .mk id kind labels nm proc e has args th el, x, h => by
    rw [preS] at h
    rcases List.mem_cons.1 h with rfl | h
    · exact Nat.le_refl _
    · rw [wS]
      rcases List.mem_append.1 h with h | h
      · have := preSL_w th x h; omega
      · have := preSL_w el x h; omega
theorem preSL_w : ∀ (l : List S) (x : S), x ∈ preSL l → wS x ≤ wSL l
  | [], x, h => by rw [preSL] at h; simp at h
  | s :: l, x, h => by
    rw [preSL] at h
    rw [wSL]
    rcases List.mem_append.1 h with h | h
    · have := preS_w s x h; omega
    · have := preSL_w l x h; omega
end
end Go.Proofs.Ytcocilpifdjibaa
