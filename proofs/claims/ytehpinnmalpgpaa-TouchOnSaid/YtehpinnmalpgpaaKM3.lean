/- Texts, merged by a program; only what is used. -/
import Derived.Deep.LoopGhost
import Derived.Test.YtehpinnmalpgpaaK1
import Derived.Test.YtehpinnmalpgpaaK2
import Derived.Test.YtehpinnmalpgpaaK3
import Derived.Test.YtehpinnmalpgpaaK4
import Derived.Test.YtehpinnmalpgpaaK5
import Derived.Test.YtehpinnmalpgpaaK6
import Derived.Test.YtehpinnmalpgpaaK7
import Derived.Test.YtehpinnmalpgpaaK8
import Derived.Test.YtehpinnmalpgpaaK9
import Derived.Test.YtehpinnmalpgpaaK10
import Derived.Test.YtehpinnmalpgpaaK11
import Derived.Test.YtehpinnmalpgpaaK12
import Derived.Test.YtehpinnmalpgpaaK13
import Derived.Test.YtehpinnmalpgpaaK14
import Derived.Test.YtehpinnmalpgpaaK15
import Derived.Test.YtehpinnmalpgpaaK16
import Derived.Test.YtehpinnmalpgpaaK17
import Derived.Test.YtehpinnmalpgpaaK18
import Derived.Test.YtehpinnmalpgpaaK19
import Derived.Test.YtehpinnmalpgpaaK20
import Derived.Test.YtehpinnmalpgpaaK21
import Derived.Test.YtehpinnmalpgpaaK22
import Derived.Test.YtehpinnmalpgpaaK23
import Derived.Test.YtehpinnmalpgpaaK24
import Derived.Test.YtehpinnmalpgpaaKM1
import Derived.Test.YtehpinnmalpgpaaKM2
namespace Go.Proofs.Ytehpinnmalpgpaa
open Go.ChangeShapes Go.WideShapes Go.ChangeAt Go.RowKit Go.Deep
set_option linter.unusedVariables false
/-- one piece turned -/
def upd (css : Nat → List Value) (k : Nat) (cs : List Value) : Nat → List Value := fun i => if i = k then cs else css i
theorem upd_same (css : Nat → List Value) (k : Nat) (cs : List Value) : upd css k cs k = cs := by simp [upd]
theorem upd_ne (css : Nat → List Value) {k i : Nat} (cs : List Value) (h : i ≠ k) : upd css k cs i = css i := by simp [upd, h]
theorem upd_upd (css : Nat → List Value) (k : Nat) (cs ds : List Value) : upd (upd css k cs) k ds = upd css k ds := by
  funext i; simp only [upd]; split <;> rfl
theorem upd_self (css : Nat → List Value) (k : Nat) : upd css k (css k) = css := by
  funext i; simp only [upd]; split
  · rename_i h; rw [h]
  · rfl
theorem upd_len {css : Nat → List Value} {k n C : Nat} {cs : List Value} (h : ∀ i, i < n → (css i).length = C) (hc : cs.length = C) (i : Nat) (hi : i < n) : (upd css k cs i).length = C := by
  unfold upd; split
  · exact hc
  · exact h i hi
theorem flatN_upd_ge (css : Nat → List Value) {k n : Nat} (cs : List Value) (h : n ≤ k) : flatN (upd css k cs) n = flatN css n := by
  induction n with
  | zero => rfl
  | succ n ih => rw [flatN, flatN, ih (by omega), upd_ne _ _ (by omega)]
theorem flatN_set {css : Nat → List Value} {C n : Nat} (h : ∀ i, i < n → (css i).length = C) {i j : Nat} (hi : i < n) (hj : j < C) (u : Value) : (flatN css n).set (i * C + j) u = flatN (upd css i ((css i).set j u)) n := by
  induction n with
  | zero => omega
  | succ n ih =>
    have hl : (flatN css n).length = n * C := flatN_len (fun i hi => h i (by omega))
    rw [flatN, flatN]
    by_cases hin : i < n
    · have : i * C + j < n * C := by
        have := Nat.mul_le_mul_right C (show i + 1 ≤ n by omega)
        rw [Nat.succ_mul] at this
        omega
      rw [List.set_append_left _ _ (by rw [hl]; exact this), ih (fun i hi => h i (by omega)) hin, upd_ne _ _ (by omega)]
    · have e : i = n := by omega
      subst e
      rw [List.set_append_right _ _ (by rw [hl]; omega), hl, flatN_upd_ge _ _ (Nat.le_refl _), upd_same]
      congr 2
      omega
/-- a row of such pieces; a cell of it is set -/
theorem Blk.setN {w : World} {b : Nat} {t : TypeId} {css : Nat → List Value} {n C : Nat} (hB : Blk w b t (flatN css n).toArray) (h : ∀ i, i < n → (css i).length = C) {i j : Nat} (hi : i < n) (hj : j < C) (u : Value) : Blk (w.setCell ⟨b, i * C + j, none⟩ u) b t (flatN (upd css i ((css i).set j u)) n).toArray := by
  have := hB.set_ (i * C + j) u
  rwa [List.setIfInBounds_toArray, flatN_set h hi hj u] at this
theorem Blk.getN {w : World} {b : Nat} {t : TypeId} {css : Nat → List Value} {n C : Nat} (hB : Blk w b t (flatN css n).toArray) (h : ∀ i, i < n → (css i).length = C) {i j : Nat} (hi : i < n) (hj : j < C) : w.cell? ⟨b, i * C + j, none⟩ = (css i)[j]? := by
  rw [hB.cell, List.getElem?_toArray, flatN_get h hi hj]
theorem wAr_mem {l : List Ar} {a : Ar} (h : a ∈ l) : wE a.x + (a.nm.size + 1) ≤ wAr l := by
  induction l with
  | nil => simp at h
  | cons x l ih =>
    rw [wAr]
    rcases List.mem_cons.1 h with rfl | h
    · omega
    · have := ih h; omega
theorem wAr_len (l : List Ar) : l.length ≤ wAr l := by
  induction l with
  | nil => exact Nat.zero_le _
  | cons x l ih => rw [wAr, List.length_cons]; omega
theorem ArgI.keep {w w' : World} {Q Q' : Nat → Prop} {a : Ar} {cs : List Value} (h : ArgI w Q a cs) (hQ : ∀ b, Q b → Q' b) (hc : ∀ p : Addr, Q p.block → w'.cell? p = w.cell? p) : ArgI w' Q' a cs := by
  obtain ⟨xcs, h1, h2, h3⟩ := h
  exact ⟨xcs, h1, h2, h3.keep hQ hc⟩
theorem ArgI.open_ {w : World} {Q : Nat → Prop} {a : Ar} {cs : List Value} (h : ArgI w Q a cs) : ∃ o n s A l c, cs = [.bool a.ref, .string a.nm, .int .i64 o, .int .i64 n, .string s, .slice A l c] ∧ a.nm.size ≤ 9223372036854775807 ∧ ExprI w Q a.x [.int .i64 o, .int .i64 n, .string s, .slice A l c] := by
  obtain ⟨xcs, rfl, h2, h3⟩ := h
  obtain ⟨o, n, s, A, l, c, rfl⟩ := h3.form
  exact ⟨o, n, s, A, l, c, rfl, h2, h3⟩
theorem set4_cells (w : World) {b o : Nat} (v0 v1 v2 v3 : Value) : ((((w.setCell ⟨b, o, none⟩ v0).setCell ⟨b, o + 1, none⟩ v1).setCell ⟨b, o + 2, none⟩ v2).setCell ⟨b, o + 3, none⟩ v3).heap.size = w.heap.size ∧ ∀ p : Addr, p.block ≠ b → ((((w.setCell ⟨b, o, none⟩ v0).setCell ⟨b, o + 1, none⟩ v1).setCell ⟨b, o + 2, none⟩ v2).setCell ⟨b, o + 3, none⟩ v3).cell? p = w.cell? p := by
  refine ⟨by simp [World.setCell], fun p hp => ?_⟩
  have hne : ∀ j, p ≠ ⟨b, j, none⟩ := fun j e => hp (by rw [e])
  rw [cell_set_ne _ (hne _), cell_set_ne _ (hne _), cell_set_ne _ (hne _), cell_set_ne _ (hne _)]
end Go.Proofs.Ytehpinnmalpgpaa
namespace Go.Proofs.Ytehpinnmalpgpaa
open Go.ChangeShapes Go.WideShapes Go.ChangeAt Go.RowKit Go.Deep
set_option linter.unusedVariables false
theorem smT_of {l : List ByteArray} (h : wT l ≤ 1000000) : smT l := ⟨Nat.le_trans (wT_len l) h, fun s hs => by have := wT_mem hs; omega⟩
theorem wS_pos (s : S) : 1 ≤ wS s := by cases s; rw [wS]; omega
theorem wSL_len (l : List S) : l.length ≤ wSL l := by
  induction l with
  | nil => exact Nat.zero_le _
  | cons x l ih => rw [wSL, List.length_cons]; have := wS_pos x; omega
mutual
def sizS : S → Nat
  | .mk _ _ _ _ _ _ _ _ th el => sizSL th + sizSL el + 1
def sizSL : List S → Nat
  | [] => 0
  | s :: l => sizS s + sizSL l
end
mutual
theorem sizS_w : ∀ s : S, sizS s ≤ wS s
  | .mk _ _ labels nm proc x _ args th el => by rw [sizS, wS]; have := sizSL_w th; have := sizSL_w el; omega
theorem sizSL_w : ∀ l : List S, sizSL l ≤ wSL l
  | [] => by rw [sizSL]; exact Nat.zero_le _
  | s :: l => by rw [sizSL, wSL]; have := sizS_w s; have := sizSL_w l; omega
end
/-- a statement that is not too great -/
def RS (w : World) (Q : Nat → Prop) (x : S) (cs : List Value) : Prop := StmtI w Q x cs ∧ wS x ≤ 1000000
theorem rsOk (w : World) (Q : Nat → Prop) (x : S) (cs : List Value) (h : RS w Q x cs) : CellsOk 13 cs := by
  obtain ⟨id, kind, labels, nm, proc, ex, has, args, th, el, L, lc, x0, x1, x2, X, xn, xc, R, rc, T, tc, U, uc, rfl, rfl, _⟩ := stmt_open h.1
  exact ⟨rfl, by simp [Value.oneCell']⟩
abbrev CopyS := Copy (α := S) 13 RS
/-- how many nodes are ahead -/
def szHS : List (Hole S) → Nat
  | [] => 0
  | h :: hs => sizSL h.ts + szHS hs
theorem szHS_append (a b : List (Hole S)) : szHS (a ++ b) = szHS a + szHS b := by
  induction a with
  | nil => rw [List.nil_append, szHS]; omega
  | cons k a ih => rw [List.cons_append, szHS, szHS, ih]; omega
theorem len_szHS {hs : List (Hole S)} (hg : ∀ x ∈ hs.map slH, goodS x) : hs.length ≤ szHS hs := by
  induction hs with
  | nil => exact Nat.zero_le _
  | cons k hs ih =>
    have h1 := ih (fun x hx => hg x (by rw [List.map_cons]; exact List.mem_cons_of_mem _ hx))
    have h2 := (hg (slH k) (by rw [List.map_cons]; exact List.mem_cons_self ..)).1
    obtain ⟨b, o, ts, cap⟩ := k
    rw [szHS, List.length_cons]
    cases ts with
    | nil => simp [slH] at h2
    | cons t ts => simp only [sizSL]; cases t; rw [sizS]; omega
theorem CurS.own_lt {w : World} {base c : Nat} {v : Value} {last : Option Addr} {s : List SL} (h : CurS w base c v last s) {k : Nat} (hk : ownS c v k) : k < w.heap.size := by
  rcases hk with rfl | hk
  · exact h.blk.lt
  · rcases h.row.2 with ⟨rfl, _⟩ | ⟨g, cap, cur, rfl, _, hg, _⟩
    · simp [Value.ownBlock] at hk
    · have : g = k := by simpa [Value.ownBlock] using hk
      subst this
      exact (Array.getElem?_eq_some_iff.1 hg).1
/-- a node that is being filled: its cells now -/
structure NodeW (W q : World) (b o : Nat) (cs : List Value) : Prop where
  mv : Moves (fun k => k = b) W q
  lt : b < W.heap.size
  oth : ∀ p : Addr, p.block = b → ¬ (o ≤ p.off ∧ p.off < o + 13) → q.cell? p = W.cell? p
  blk : ∃ t bc, Blk q b t bc
  at_ : ∀ j u, cs[j]? = some u → q.cell? ⟨b, o + j, none⟩ = some u
  len : cs.length = 13
theorem NodeW.below {W q q' : World} {b o : Nat} {cs : List Value} (h : NodeW W q b o cs) (hb : Below q.heap.size q q') : NodeW W q' b o cs := by
  have hl : b < q.heap.size := Nat.lt_of_lt_of_le h.lt h.mv.size
  refine ⟨h.mv.trans (Below.moves hb) (fun j hj => .inl (Nat.le_trans h.mv.size hj)), h.lt, fun p hp hn => (hb.cell (by rw [hp]; exact hl)).trans (h.oth p hp hn), ?_, fun j u hu => (hb.cell (p := ⟨b, o + j, none⟩) hl).trans (h.at_ j u hu), h.len⟩
  obtain ⟨t, bc, hB⟩ := h.blk
  exact ⟨t, bc, hB.below hb hl⟩
theorem NodeW.set {W q : World} {b o : Nat} {cs : List Value} (h : NodeW W q b o cs) {j : Nat} (hj : j < 13) (u : Value) : NodeW W (q.setCell ⟨b, o + j, none⟩ u) b o (cs.set j u) := by
  obtain ⟨t, bc, hB⟩ := h.blk
  refine ⟨h.mv.set_ (.inl rfl) u, h.lt, fun p hp hn => ?_, ⟨t, _, hB.set_ (o + j) u⟩, fun i v hv => ?_, by rw [List.length_set]; exact h.len⟩
  · rw [cell_set_ne _ (fun e => hn (by rw [e]; simp; omega))]
    exact h.oth p hp hn
  · by_cases e : i = j
    · subst e
      rw [List.getElem?_set_self (by rw [h.len]; exact hj)] at hv
      have h1 := h.at_ i (cs[i]'(by rw [h.len]; exact hj)) (List.getElem?_eq_getElem _)
      rw [(hB.set_ (o + i) u).cell, Array.getElem?_setIfInBounds_self_of_lt]
      · exact hv
      · rw [hB.cell] at h1; exact (Array.getElem?_eq_some_iff.1 h1).1
    · rw [List.getElem?_set_ne (fun x => e x.symm)] at hv
      rw [cell_set_ne _ (fun x => e (by injection x with _ x _; omega))]
      exact h.at_ i v hv
theorem NodeW.frozen {W q : World} {b o : Nat} {cs : List Value} (h : NodeW W q b o cs) (j : Nat) : q.frozen? ⟨b, o + j, none⟩ = false := by
  obtain ⟨t, bc, hB⟩ := h.blk
  exact hB.frozen _
/-- a new row of statements, or none -/
def RowS' (w : World) (Q : Nat → Prop) (l : List S) (A : Option Addr) (cap M M' : Nat) (W : World) : Prop :=
  (l.length ≤ cap ∧ cap ≤ 9223372036854775807) ∧ (l = [] ∨ ∃ b css, A = some ⟨b, 0, none⟩ ∧ cap = l.length ∧ M ≤ b ∧ b < M' ∧ Blk W b 60 (flatN css l.length).toArray ∧ ∀ i (h : i < l.length), RS w Q l[i] (css i))
theorem row_holes {w W : World} {Q : Nat → Prop} {l : List S} {A : Option Addr} {cap M M' : Nat} (h : RowS' w Q l A cap M M' W) (hl : l.length ≤ 1000000) :
    ∃ new : List (Hole S), (∀ s, pushS s A l.length cap = new.map slH ++ s) ∧ szHS new = sizSL l ∧ (∀ k ∈ new, M ≤ k.b ∧ k.b < M' ∧ (∃ t cs, Blk W k.b t cs) ∧ atH 13 (RS w Q) W k) ∧ new.Pairwise (disH 13) ∧ (0 < l.length → A ≠ none) ∧
      ∀ V base, base ≤ M → (∀ k ∈ new, atH 13 (RS V (nb base V)) V k) → StmtsI V (nb base V) l (.slice A l.length cap) := by
  obtain ⟨h1, h2⟩ := h
  rcases h2 with rfl | ⟨b, css, rfl, rfl, h3, h4, h5, h6⟩
  · exact ⟨[], fun s => by rw [List.length_nil, pushS_zero]; rfl, by rw [szHS, sizSL], fun _ h => absurd h (by simp), .nil, fun h => absurd h (by simp), fun V base _ _ => ⟨A, cap, fun _ => [], rfl, h1, fun h => absurd h (by simp), fun i h => absurd h (by simp)⟩⟩
  · by_cases h0 : l.length = 0
    · have hn : l = [] := List.length_eq_zero_iff.1 h0
      subst hn
      exact ⟨[], fun s => by rw [List.length_nil, pushS_zero]; rfl, by rw [szHS, sizSL], fun _ h => absurd h (by simp), .nil, fun h => absurd h (by simp), fun V base _ _ => ⟨_, _, fun _ => [], rfl, h1, fun h => absurd h (by simp), fun i h => absurd h (by simp)⟩⟩
    · refine ⟨[⟨b, 0, l, l.length⟩], fun s => by rw [pushS_pos _ _ _ (by omega)]; rfl, by rw [szHS, szHS]; simp, fun k hk => ?_, List.pairwise_singleton _ _, fun _ => by simp, fun V base hb hd => ?_⟩
      · have : k = ⟨b, 0, l, l.length⟩ := by simpa using hk
        subst this
        refine ⟨h3, h4, ⟨_, _, h5⟩, fun i hi => ⟨css i, h6 i hi, fun j u hu => ?_⟩⟩
        have hj : j < 13 := by rw [← (rsOk _ _ _ _ (h6 i hi)).1]; exact (List.getElem?_eq_some_iff.1 hu).1
        rw [h5.cell]
        simp only [List.getElem?_toArray, Nat.zero_add]
        rw [flatN_get (fun i hi => (rsOk _ _ _ _ (h6 i hi)).1) hi hj]
        exact hu
      · have h7 := slice_of_at (base := base) (hd _ (List.mem_singleton.2 rfl)) (rsOk _ _) (by omega) (Nat.le_trans hb h3) hl
        obtain ⟨A', cap', ds, e1, e2, e3, e4⟩ := h7
        exact ⟨A', cap', ds, e1, e2, e3, fun i hi => (e4 i hi).1⟩
end Go.Proofs.Ytehpinnmalpgpaa
namespace Go.Proofs.Ytehpinnmalpgpaa
open Go.ChangeShapes Go.WideShapes Go.ChangeAt Go.RowKit Go.Deep
set_option linter.unusedVariables false
set_option linter.unusedSimpArgs false
/-- a statement at the address a: its cells -/
theorem stmt_node {w W : World} {Q : Nat → Prop} {a : Addr} {s : S} (h : NodeI w Q (StmtI w Q) a s) (hI : In Q w W) :
    ∃ id kind labels nm proc x has args th el L lc x0 x1 x2 X xn xc R rc T tc U uc, s = .mk id kind labels nm proc x has args th el ∧
      RowAt W a (.int .i64 id) [.int .i64 kind, .slice L labels.length lc, .string nm, .string proc, .int .i64 x0, .int .i64 x1, .string x2, .slice X xn xc, .bool has, .slice R args.length rc, .slice T th.length tc, .slice U el.length uc] ∧
      nm.size ≤ 9223372036854775807 ∧ proc.size ≤ 9223372036854775807 ∧ TextsI w Q labels (.slice L labels.length lc) ∧ ExprI w Q x [.int .i64 x0, .int .i64 x1, .string x2, .slice X xn xc] ∧
      SliceI w Q 6 (ArgI w Q) args (.slice R args.length rc) ∧ StmtsI w Q th (.slice T th.length tc) ∧ StmtsI w Q el (.slice U el.length uc) := by
  obtain ⟨hq, cs, hs, hc⟩ := h
  obtain ⟨id, kind, labels, nm, proc, x, has, args, th, el, L, lc, x0, x1, x2, X, xn, xc, R, rc, T, tc, U, uc, h1, rfl, h2, h3, h4, h5, h6, h7, h8, h9, h10⟩ := stmt_open hs
  exact ⟨id, kind, labels, nm, proc, x, has, args, th, el, L, lc, x0, x1, x2, X, xn, xc, R, rc, T, tc, U, uc, h1, rowAt_of fun j u hu => (hI.cell (by rw [block_add]; exact hq)).trans (hc j u hu), h4, h5, h6, h7, h8, h9, h10⟩
end Go.Proofs.Ytehpinnmalpgpaa
namespace Go.Proofs.Ytehpinnmalpgpaa
open Go.ChangeShapes Go.WideShapes Go.ChangeAt Go.RowKit Go.Deep
set_option linter.unusedVariables false
set_option linter.unusedSimpArgs false
set_option maxHeartbeats 1000000 in
theorem IndexQ_any {w W : World} {Q : Nat → Prop} {l : List Pr} {v : Value} (h : SliceI w Q 5 (ProcI w Q) l v) (hI : In Q w W) (s : ByteArray) (b : Nat) (hb : W.cell? ⟨b, 0, none⟩ = some (.string s)) :
  Calls Try.prog 108 #[v, .func (.func 109) #[] #[.pointer (some ⟨b, 0, none⟩)]] W fun e w' => e = .returned (.int .i64 (idxL (isQ s) l 0)) ∧ Below W.heap.size W w' := by
 obtain ⟨A, cap, rfl, hl1, hl2⟩ := h.shape
 have H := Lib.hid h
 have HI := Lib.hid hI
 have HB := Lib.hid hb
 clear h hI hb
 go_enter Try.func108, Try.ntmps108
 go_wp2_with fail
 go_loopg [8] l.length (fun kk i wr => ∃ k : Nat, k + kk = l.length ∧ i = .int .i64 k ∧ Hid (idxL (isQ s) (l.drop k) k = idxL (isQ s) l 0) ∧ Hid (Below W.heap.size W wr))
 case atStart => exact ⟨0, by omega, rfl, Lib.hid (by rw [List.drop_zero]), Lib.hid (Below.refl _ _)⟩
 case round =>
  obtain ⟨k, hk, rfl, HW, HR⟩ := hrel
  by_cases hlt : k < l.length
  ·obtain ⟨a, Cp, kp, Cv, kv, Cb, kb, Ce, ke, rfl, _, ⟨p0, p1, p2, p3, p4, _⟩, _⟩ := proc_at H.out (HI.out.on HR.out) hlt
   have HD := Lib.hid (idxL_drop (f := isQ s) hlt)
   rw [HW.out] at HD
   have hv : isQ s l[k] = (l[k].nm.toList == s.toList) := (dec_bytes _ _).symm
   generalize l[k] = y at p0 p1 p2 p3 p4 HD hv
   obtain ⟨yn, yp, yv, yb, ye⟩ := y
   simp only at p0 p1 p2 p3 p4 hv
   have q0 : wr.cell? ⟨b, 0, none⟩ = some (.string s) := (HR.out.cell (p := ⟨b, 0, none⟩) (World.block_lt_of_cell? W _ HB.out)).trans HB.out
   have hbl := World.block_lt_of_cell? wr _ q0
   cases hb : isQ s ⟨yn, yp, yv, yb, ye⟩ with
   | true =>
    rw [hb, if_pos rfl] at HD
    have hv2 : (yn.toList == s.toList) = true := by rw [← hv]; exact hb
    clear hv hb
    go_wp2_with (go_at_call 109; go_in)
    go_ret
    exact ⟨ret_int HD.out.symm, below_step HR.out (below_box _)⟩
   | false =>
    rw [hb, if_neg (by simp)] at HD
    have hv2 : (yn.toList == s.toList) = false := by rw [← hv]; exact hb
    clear hv hb
    go_wp2_with (go_at_call 109; go_in)
    go_roundg (l.length - k - 1)
    case measure => omega
    case rel => exact ⟨k + 1, by omega, by go_num, Lib.hid HD.out.symm, Lib.hid (below_step HR.out (below_box _))⟩
  ·have HD : Hid (idxL (isQ s) l 0 = -1) := Lib.hid (by rw [← HW.out, List.drop_of_length_le (by omega), idxL])
   go_wp2_with fail
   go_ret
   exact ⟨ret_int HD.out.symm, HR.out⟩
def fndP (p : Pg) (s : ByteArray) : Int := if mayP p = true then idxL (isQ s) p.procs 0 else -1
theorem find_any {w : World} {Q : Nat → Prop} {p : Pg} {c0 c1 : Value} (h : ProgI w Q p [c0, c1]) (s : ByteArray) (W : World) (hI : In Q w W) :
  Calls Try.prog 68 #[.agg #[c0, c1], .string s] W fun e w' => e = .returned (.int .i64 (fndP p s)) ∧ Below W.heap.size W w' := by
 have HM := Lib.hid (fun V hV => May_any h V hV)
 obtain ⟨Ag, cg, Ap, cp, rfl, rfl, _, _, _, _, _, hpr⟩ := prog_open h
 have HX := Lib.hid (fun V hV b hb => IndexQ_any (W := V) hpr hV s b hb)
 have HI := Lib.hid hI
 have HF : Hid (fndP p s = if mayP p = true then idxL (isQ s) p.procs 0 else -1) := Lib.hid rfl
 clear h hI hpr
 generalize idxL (isQ s) p.procs 0 = z at HX HF
 go_enter Try.func68, Try.ntmps68
 go_upto_region 1 with fail
 have HBp : Hid (Blk ((W.alloc (.cells #[.slice Ag p.globals.length cg, .slice Ap p.procs.length cp] 25)).alloc (.cells #[.string s] 9)) W.heap.size 25 #[.slice Ag p.globals.length cg, .slice Ap p.procs.length cp]) := Lib.hid ((Blk.new _ _ _).alloc _)
 have HBr : Hid (Blk ((W.alloc (.cells #[.slice Ag p.globals.length cg, .slice Ap p.procs.length cp] 25)).alloc (.cells #[.string s] 9)) (W.heap.size + 1) 9 #[.string s]) := Lib.hid (by have := Blk.new (W.alloc (.cells #[.slice Ag p.globals.length cg, .slice Ap p.procs.length cp] 25)) 9 #[.string s]; rw [World.size_alloc] at this; exact this)
 have HB0 : Hid (Below W.heap.size W ((W.alloc (.cells #[.slice Ag p.globals.length cg, .slice Ap p.procs.length cp] 25)).alloc (.cells #[.string s] 9))) := Lib.hid (below_stepA (below_box _) _)
 generalize World.alloc _ _ = V at HBp HBr HB0 ⊢
 have q0 : V.cell? ⟨W.heap.size, 0, none⟩ = some (.slice Ag p.globals.length cg) := by rw [HBp.out.cell]; rfl
 have q1 : V.cell? ⟨W.heap.size, 1, none⟩ = some (.slice Ap p.procs.length cp) := by rw [HBp.out.cell]; rfl
 have hbl := HBp.out.lt
 have hbr := HBr.out.lt
 cases hm : mayP p with
 | false =>
  rw [hm] at HM HF
  clear hm
  go_wp2_with (go_at_call 11; refine (HM.out V (HI.out.on HB0.out)).mono ?_; rintro e w1 ⟨rfl, hb1⟩)
  go_ret
  exact ⟨ret_int (by rw [HF.out]; rfl), below_step HB0.out hb1⟩
 | true =>
  rw [hm] at HM HF
  clear hm
  go_wp2_with (first
   | (go_at_call 11; refine (HM.out V (HI.out.on HB0.out)).mono ?_; rintro e w1 ⟨rfl, hb1⟩; have HI1 := Lib.hid ((HI.out.on HB0.out).on hb1); have q0' : w1.cell? ⟨W.heap.size, 0, none⟩ = some (.slice Ag p.globals.length cg) := (hb1.cell (p := ⟨W.heap.size, 0, none⟩) hbl).trans q0; have q1' : w1.cell? ⟨W.heap.size, 1, none⟩ = some (.slice Ap p.procs.length cp) := (hb1.cell (p := ⟨W.heap.size, 1, none⟩) hbl).trans q1; have r0' : w1.cell? ⟨W.heap.size + 1, 0, none⟩ = some (.string s) := (by rw [(HBr.out.below hb1 hbr).cell]; rfl))
   | (go_at_call 108; refine (HX.out w1 HI1.out _ r0').mono ?_; rintro e w2 ⟨rfl, hb2⟩))
  go_ret
  exact ⟨ret_int (by rw [HF.out]; rfl), below_step (below_step HB0.out hb1) hb2⟩
end Go.Proofs.Ytehpinnmalpgpaa
namespace Go.Proofs.Ytehpinnmalpgpaa
open Go.ChangeShapes Go.WideShapes Go.ChangeAt Go.RowKit Go.Deep
set_option linter.unusedVariables false
theorem freshS_v {w W : World} {Q : Nat → Prop} {l : List S} {v : Value} (h : StmtsI w Q l v) (hI : In Q w W) (hw : wSL l ≤ 1000000) :
    Calls Try.prog 137 #[v] W fun e w' => ∃ A cap, e = .returned (.slice A l.length cap) ∧ RowS' w Q l A cap W.heap.size w'.heap.size w' ∧ Below W.heap.size W w' := by
  have h' : SliceI w Q 13 (RS w Q) l v := by
    obtain ⟨A, cap, css, h1, h2, h3, h4⟩ := h
    exact ⟨A, cap, css, h1, h2, h3, fun i hi => ⟨h4 i hi, Nat.le_trans (wSL_mem (List.getElem_mem hi)) hw⟩⟩
  refine (freshS_any h' hI (rsOk w Q) (Nat.le_trans (wSL_len l) hw)).mono ?_
  intro e w' hf
  have hb := hf.below
  rcases hf with ⟨rfl, rfl, _⟩ | ⟨css, rfl, rfl, hr⟩
  · exact ⟨_, _, rfl, ⟨⟨Nat.le_refl _, by omega⟩, .inl rfl⟩, hb⟩
  · exact ⟨_, _, rfl, ⟨⟨Nat.le_refl _, by have := Nat.le_trans (wSL_len l) hw; omega⟩, .inr ⟨_, css, rfl, rfl, Nat.le_refl _, by simp, Blk.new _ _ _, hr⟩⟩, hb⟩
theorem RowS'.on {w W W' : World} {Q : Nat → Prop} {l : List S} {A : Option Addr} {cap M M' : Nat} (h : RowS' w Q l A cap M M' W) (hb : ∀ k, M ≤ k → k < M' → W'.heap[k]? = W.heap[k]?) : RowS' w Q l A cap M M' W' := by
  obtain ⟨h1, h2⟩ := h
  refine ⟨h1, h2.imp (fun h => h) ?_⟩
  rintro ⟨b, css, e1, e2, e3, e4, e5, e6⟩
  exact ⟨b, css, e1, e2, e3, e4, (hb b e3 e4).trans e5, e6⟩
theorem RowS'.start {w W : World} {Q : Nat → Prop} {l : List S} {A : Option Addr} {cap M M' : Nat} (h : RowS' w Q l A cap M M' W) (hl : l.length ≤ 1000000) (hM : M' ≤ W.heap.size) :
    ∃ hs T, pushS [] A l.length cap = hs.map slH ∧ CopyS w Q M (fun V => StmtsI V (nb M V) l (.slice A l.length cap)) W hs T ∧ szHS hs = sizSL l ∧ (∀ b, T b → b < M') ∧ (0 < l.length → A ≠ none) := by
  obtain ⟨new, e1, z1, r1, d1, a1, f1⟩ := row_holes h hl
  exact ⟨new, fun k => M ≤ k ∧ k < M', by rw [e1, List.append_nil], ⟨fun b hb => ⟨hb.1, by omega⟩, fun k hk => ⟨⟨(r1 k hk).1, (r1 k hk).2.1⟩, (r1 k hk).2.2⟩, d1, fun V _ _ hd => f1 V M (Nat.le_refl _) hd⟩, z1, fun b hb => hb.2, a1⟩
theorem NodeW.start {W : World} {b o : Nat} {t : TypeId} {bc : Array Value} {cs : List Value} (hB : Blk W b t bc) (hl : cs.length = 13) (h : ∀ j u, cs[j]? = some u → W.cell? ⟨b, o + 0 * 13 + j, none⟩ = some u) : NodeW W W b o cs :=
  ⟨Moves.refl _ _, hB.lt, fun _ _ _ => rfl, ⟨t, bc, hB⟩, fun j u hu => by have := h j u hu; rw [Nat.zero_mul, Nat.add_zero] at this; exact this, hl⟩
end Go.Proofs.Ytehpinnmalpgpaa
namespace Go.Proofs.Ytehpinnmalpgpaa
open Go.ChangeShapes Go.WideShapes Go.ChangeAt Go.RowKit Go.Deep
set_option linter.unusedVariables false
/-- a new variable of the kind of statements -/
abbrev zS : Array Value := #[.int .i64 0, .int .i64 0, .slice none 0 0, .string ⟨#[]⟩, .string ⟨#[]⟩, .int .i64 0, .int .i64 0, .string ⟨#[]⟩, .slice none 0 0, .bool false, .slice none 0 0, .slice none 0 0, .slice none 0 0]
theorem set13_blk {w : World} {b : Nat} {d0 d1 d2 d3 d4 d5 d6 d7 d8 d9 d10 d11 d12 : Value} (h : Blk w b 60 zS) : Blk (World.setCell (World.setCell (World.setCell (World.setCell (World.setCell (World.setCell (World.setCell (World.setCell (World.setCell (World.setCell (World.setCell (World.setCell (World.setCell w ⟨b, 0, none⟩ d0) ⟨b, 1, none⟩ d1) ⟨b, 2, none⟩ d2) ⟨b, 3, none⟩ d3) ⟨b, 4, none⟩ d4) ⟨b, 5, none⟩ d5) ⟨b, 6, none⟩ d6) ⟨b, 7, none⟩ d7) ⟨b, 8, none⟩ d8) ⟨b, 9, none⟩ d9) ⟨b, 10, none⟩ d10) ⟨b, 11, none⟩ d11) ⟨b, 12, none⟩ d12) b 60 #[d0, d1, d2, d3, d4, d5, d6, d7, d8, d9, d10, d11, d12] := by
  have := (((((((((((((h.set_ 0 d0).set_ 1 d1).set_ 2 d2).set_ 3 d3).set_ 4 d4).set_ 5 d5).set_ 6 d6).set_ 7 d7).set_ 8 d8).set_ 9 d9).set_ 10 d10).set_ 11 d11).set_ 12 d12)
  simp only [List.setIfInBounds_toArray, List.set_cons_zero, List.set_cons_succ] at this
  exact this
end Go.Proofs.Ytehpinnmalpgpaa
namespace Go.Proofs.Ytehpinnmalpgpaa
open Go.ChangeShapes Go.WideShapes Go.ChangeAt Go.RowKit Go.Deep
set_option linter.unusedVariables false
theorem blk13 {w : World} {b : Nat} {d0 d1 d2 d3 d4 d5 d6 d7 d8 d9 d10 d11 d12 : Value} (h : Blk w b 60 zS) : Blk (World.setCell (World.setCell (World.setCell (World.setCell (World.setCell (World.setCell (World.setCell (World.setCell (World.setCell (World.setCell (World.setCell (World.setCell (World.setCell w ⟨b, 0, none⟩ d0) ⟨b, 1, none⟩ d1) ⟨b, 2, none⟩ d2) ⟨b, 3, none⟩ d3) ⟨b, 4, none⟩ d4) ⟨b, 5, none⟩ d5) ⟨b, 6, none⟩ d6) ⟨b, 7, none⟩ d7) ⟨b, 8, none⟩ d8) ⟨b, 9, none⟩ d9) ⟨b, 10, none⟩ d10) ⟨b, 11, none⟩ d11) ⟨b, 12, none⟩ d12) b 60 #[d0, d1, d2, d3, d4, d5, d6, d7, d8, d9, d10, d11, d12] := set13_blk h
end Go.Proofs.Ytehpinnmalpgpaa
namespace Go.Proofs.Ytehpinnmalpgpaa.U
open Go.ChangeShapes Go.WideShapes Go.ChangeAt Go.RowKit Go.Deep
set_option linter.unusedVariables false
set_option linter.unusedSimpArgs false
/-- a program whose copy takes no great memory -/
structure SmC (p : Pg) : Prop where
  globals : smT p.globals
  procs : p.procs.length ≤ 1000000
  proc : ∀ q ∈ p.procs, q.nm.size ≤ 1000000 ∧ smP q.params ∧ smT q.vars ∧ wSL q.body ≤ 1000000 ∧ smT q.end_
/-- what may be takes no great memory to copy -/
theorem smC_of {p : Pg} (h : SmG p) (hm : mayP p = true) : SmC p := by
  refine ⟨smT_of h.globals, h.procs, fun q hq => ?_⟩
  obtain ⟨h1, h2, h3, h4⟩ := h.proc q hq
  have hh : headOk q = true := by
    rw [← rMayP_eq] at hm
    unfold rMayP at hm
    simp only [Bool.and_eq_true] at hm
    exact List.all_eq_true.1 hm.1.1.2 q hq
  unfold headOk at hh
  simp only [Bool.and_eq_true] at hh
  have hn := (nm_short hh.1.1.2).2
  refine ⟨by omega, ⟨h4, fun s hs => ?_⟩, smT_of h2, h1, smT_of h3⟩
  have := (nm_short (List.all_eq_true.1 hh.1.1.1.2 s hs)).2
  omega
end Go.Proofs.Ytehpinnmalpgpaa.U
