/- Texts, merged by a program; only what is used. -/
import Derived.Below
import Derived.ChangeSame
import Derived.Test.YtcocilpifdjibaaProg
import Derived.WalkKit
import Derived.ProofKit
import Derived.OpenShut
import Derived.Lib.Strings
import Derived.Lib.IndexBytes
import Derived.Lib.Hide
import Derived.OwnWalk
import Derived.Laws.AppendOwn
import Derived.Laws.OwnMore
import Derived.Laws.Rows
import Derived.Deep.Slices
namespace Go.Proofs.Ytcocilpifdjibaa
open Go.RowKit Go.WideShapes Go.ChangeShapes
section
variable {H : Type} {enc : TypeId × Value → H} {P : Program}
theorem post_of_below {f : Func} {s : ChangeSpec} {apart fresh handsOn again : Bool} {W W' : World} {args : Array Value} {v : Value} {ds gs : List (DataW H)} {before pa pv : List MemPlace}
    (hW : DataW.Whole enc P f.params.toList s.vars apart W args.toList ds gs before)
    (hres : ∀ (b : Nat) (sp : Nat → Bool) (hd : Bool), DataW.TrodAll enc P W' b sp hd f.resultTypes.toList (v.resultList f.resultTypes.size) (s.fn H (ds ++ gs)).results [])
    (hargs : ∀ sp : Nat → Bool, (∀ p ∈ before, sp p.block = true) → DataW.TrodAll enc P W' 0 sp true f.params.toList args.toList (s.fn H (ds ++ gs)).args pa)
    (hvars : ∀ sp : Nat → Bool, (∀ p ∈ before, sp p.block = true) → DataW.TrodVars enc P W' sp s.vars (s.fn H (ds ++ gs)).vars pv)
    (hps : before = pa ++ pv) (hb : Below W.heap.size W W')
    (hok : ∀ (j : Nat) (t : TypeId) (r : Value), f.resultTypes[j]? = some t → (v.resultList f.resultTypes.size)[j]? = some r → Value.okWide P W' .any 0 t r) :
    s.post enc P f apart fresh handsOn again W args v W' := by
  have hlt : ∀ p ∈ before, p.block < W.heap.size := fun p hp => hW.lt p hp
  have hold : ∀ p ∈ before, (fun b => decide (b < W.heap.size)) p.block = true := fun p hp => by simpa using hlt p hp
  refine ⟨ds, gs, before, [], pa, pv, hW, hres _ _ _, hargs _ hold, hvars _ hold, World.keptBut_mono (fun p hp => ⟨hp, ?_⟩) (hb.frame (· ∈ before)), fun _ => ?_⟩
  · rw [hps, List.mem_append] at hp
    exact Or.inr hp
  · obtain ⟨_, _, _, _, _, hz, hn⟩ := hW
    refine ⟨hok, _, _, ([] ++ pa) ++ pv, ⟨[] ++ pa, pv, trodAll_append (hargs _ (fun _ _ => rfl)) (hres _ _ _), hvars _ (fun _ _ => rfl), rfl, ?_, ?_⟩, ?_⟩
    · intro b off hp
      have hin : MemPlace.cell b off ∈ before := by rw [hps]; simpa using hp
      rw [hb.frozen (hlt _ hin)]
      exact hz b off hin
    · intro ha
      have := hn ha
      rw [hps] at this
      simpa using this
    · intro p hp _
      rw [hps]
      simpa using hp
end
end Go.Proofs.Ytcocilpifdjibaa
namespace Go.Proofs.Ytcocilpifdjibaa
abbrev Bs := List UInt8
def isLo (c : UInt8) : Bool := decide (97 ≤ c.toNat) && decide (c.toNat ≤ 122)
def isDi (c : UInt8) : Bool := decide (48 ≤ c.toNat) && decide (c.toNat ≤ 57)
def isLD (c : UInt8) : Bool := isLo c || isDi c
def wds : List Bs := [[103, 108, 111, 98, 97, 108], [112, 114, 111, 99], [118, 97, 114], [114, 101, 102], [105, 102], [101, 108, 115, 101], [119, 104, 105, 108, 101],
  [98, 114, 101, 97, 107], [99, 111, 110, 116, 105, 110, 117, 101], [114, 101, 116, 117, 114, 110], [103, 111, 116, 111], [114, 101, 97, 100], [112, 114, 105, 110, 116]]
def isWd (l : Bs) : Bool := wds.any (l == ·)
def isNm (l : Bs) : Bool := (match l with | [] => false | c :: _ => isLo c) && decide (l.length ≤ 8) && l.all isLD && !isWd l
end Go.Proofs.Ytcocilpifdjibaa
namespace Go.Proofs.Ytcocilpifdjibaa
open Go.ChangeShapes Go.WideShapes Go.ChangeAt Go.RowKit
set_option linter.unusedVariables false
def intOf : Value → Int | .int _ q => q | _ => 0
abbrev bl (s : ByteArray) : Bs := s.data.toList
def bs (l : Bs) : ByteArray := ⟨l.toArray⟩
theorem bs_bl (s : ByteArray) : bs (bl s) = s := Lib.mk_data s
theorem bl_toList (s : ByteArray) : s.toList = bl s := Lib.toList_data s
theorem size_bl (s : ByteArray) : s.size = (bl s).length := Lib.size_eq s
theorem bl_at (s : ByteArray) (k : Nat) (h : k < s.size) : (bl s).drop k = s[k] :: (bl s).drop (k + 1) := by
  have hl : k < (bl s).length := by rw [← size_bl]; exact h
  rw [List.drop_eq_getElem_cons hl]
  rfl
theorem ret_bool {a b : Bool} (h : a = b) : Ending.returned (.bool a) = .returned (.bool b) := by rw [h]
theorem ret_int {k : IntKind} {a b : Int} (h : a = b) : Ending.returned (.int k a) = .returned (.int k b) := by rw [h]
theorem all_at {p : UInt8 → Bool} {s : ByteArray} (h : (bl s).all p = true) (k : Nat) (hk : k < s.size) : p s[k] = true := by
  rw [List.all_eq_true] at h
  have hl : k < (bl s).length := by rw [← size_bl]; exact hk
  exact h (bl s)[k] (List.getElem_mem hl)
theorem bcell {B : Nat} {W w1 : World} (hb : Below B W w1) : (∀ b o, b < B → w1.cell? ⟨b, o, none⟩ = W.cell? ⟨b, o, none⟩) ∧ (∀ b o, b < B → w1.frozen? ⟨b, o, none⟩ = W.frozen? ⟨b, o, none⟩) :=
  ⟨fun b o h => hb.cell (p := ⟨b, o, none⟩) h, fun b o h => hb.frozen (p := ⟨b, o, none⟩) h⟩
theorem below_new {w w' : World} {o : Obj} (hb : Below (w.alloc o).heap.size (w.alloc o) w') : Below w.heap.size w w' :=
  ((Below.refl _ _).alloc (Nat.le_refl _) o).trans (hb.mono (by simp))
theorem ld_cases {c : UInt8} (h : isLD c = true) : isLo c = true ∨ (isLo c = false ∧ isDi c = true) := by
  cases hl : isLo c
  · rw [isLD, hl] at h
    exact .inr ⟨rfl, by simpa using h⟩
  · exact .inl rfl
theorem ld_false {c : UInt8} (h : isLD c = false) : isLo c = false ∧ isDi c = false := by
  rw [isLD, Bool.or_eq_false_iff] at h
  exact h
def Blk (w : World) (g : Nat) (t : TypeId) (cs : Array Value) : Prop := w.heap[g]? = some (.cells cs t (0, 0))
section
variable {w w' : World} {g : Nat} {t : TypeId} {cs : Array Value}
theorem Blk.lt (h : Blk w g t cs) : g < w.heap.size := by
  rcases Nat.lt_or_ge g w.heap.size with hlt | hge
  · exact hlt
  · unfold Blk at h; rw [Array.getElem?_eq_none hge] at h; cases h
theorem Blk.cell (h : Blk w g t cs) (i : Nat) : w.cell? ⟨g, i, none⟩ = cs[i]? := cell_of_row w g i cs t (0, 0) h
theorem Blk.frozen (h : Blk w g t cs) (i : Nat) : w.frozen? ⟨g, i, none⟩ = false := by
  unfold Blk at h
  simp [World.frozen?, h]
theorem Blk.new (w : World) (t : TypeId) (cs : Array Value) : Blk (w.alloc (.cells cs t)) w.heap.size t cs := heap_alloc_new w _
theorem Blk.alloc (h : Blk w g t cs) (o : Obj) : Blk (w.alloc o) g t cs := (Below.heap_alloc w o g h.lt).trans h
theorem Blk.set_ (h : Blk w g t cs) (i : Nat) (u : Value) : Blk (w.setCell ⟨g, i, none⟩ u) g t (cs.setIfInBounds i u) := by
  unfold Blk at h ⊢
  simp [World.setCell, Array.getElem?_modify, h]
theorem Blk.far (h : Blk w g t cs) {p : Addr} (hp : g ≠ p.block) (u : Value) : Blk (w.setCell p u) g t cs := (Below.heap_setCell w p u g hp).trans h
theorem Blk.below {B : Nat} (h : Blk w g t cs) (hb : Below B w w') (hg : g < B) : Blk w' g t cs := (hb.block g hg).trans h
theorem Blk.grown {row : Option Nat} (h : Blk w g t cs) (hb : w.grownBy w' row) (hg : some g ≠ row) : Blk w' g t cs := (hb.block g h.lt hg).trans h
end
theorem nm_short {s : ByteArray} (h : isNm (bl s) = true) : 0 < s.size ∧ s.size ≤ 8 := by
  rw [size_bl]
  unfold isNm at h
  cases hb : bl s with
  | nil => rw [hb] at h; simp at h
  | cons c r =>
    rw [hb] at h
    simp only [Bool.and_eq_true, decide_eq_true_eq] at h
    exact ⟨by simp, h.1.1.2⟩
theorem nm_zero (s : ByteArray) (h : s.size = 0) : isNm (bl s) = false := by
  have hnil : bl s = [] := List.eq_nil_of_length_eq_zero (by rw [← size_bl]; exact h)
  rw [hnil]
  rfl
theorem nm_long (s : ByteArray) (h : 8 < s.size) : isNm (bl s) = false := by
  cases hn : isNm (bl s) with
  | false => rfl
  | true => have := nm_short hn; omega
theorem nm_head (s : ByteArray) (h0 : 0 < s.size) (h : isLo s[0] = false) : isNm (bl s) = false := by
  have hc := bl_at s 0 h0
  rw [List.drop_zero] at hc
  rw [hc]
  simp [isNm, h]
theorem nm_in (s : ByteArray) (k : Nat) (hk : k < s.size) (h : isLD s[k] = false) : isNm (bl s) = false := by
  have hall : (bl s).all isLD = false := by
    cases hx : (bl s).all isLD with
    | false => rfl
    | true => rw [all_at hx k hk] at h; cases h
  simp [isNm, hall]
theorem nm_all (s : ByteArray) (h0 : 0 < s.size) (h8 : s.size ≤ 8) (hl : isLo s[0] = true) (h : ∀ j (hj : j < s.size), isLD s[j] = true) : isNm (bl s) = !isWd (bl s) := by
  have hall : (bl s).all isLD = true := by
    rw [List.all_eq_true]
    intro c hc
    obtain ⟨j, hj, rfl⟩ := List.getElem_of_mem hc
    exact h j (by rw [size_bl]; exact hj)
  have hc := bl_at s 0 h0
  rw [List.drop_zero] at hc
  have h8' : (bl s).length ≤ 8 := by rw [← size_bl]; exact h8
  have hh : (match bl s with | [] => false | c :: _ => isLo c) = true := by rw [hc]; exact hl
  unfold isNm
  rw [hall, Bool.and_true, decide_eq_true h8', Bool.and_true]
  rw [hc] at *
  simp [hl]
end Go.Proofs.Ytcocilpifdjibaa
namespace Go.Proofs.Ytcocilpifdjibaa
open Go.ChangeShapes Go.WideShapes Go.ChangeAt Go.RowKit Go.Deep
set_option linter.unusedVariables false
inductive E where
  | mk (op n : Int) (nm : ByteArray) (ks : List E)
def i64 (n : Int) : Prop := -9223372036854775808 ≤ n ∧ n ≤ 9223372036854775807
/-- what lies in blocks of Q is in W as it was in w, and is there -/
def In (Q : Nat → Prop) (w W : World) : Prop := (∀ b, Q b → b < W.heap.size) ∧ ∀ p : Addr, Q p.block → W.cell? p = w.cell? p
abbrev lt_ (B : Nat) : Nat → Prop := fun b => b < B
section
variable {Q : Nat → Prop} {w W W' : World}
theorem In.refl (w : World) : In (lt_ w.heap.size) w w := ⟨fun _ h => h, fun _ _ => rfl⟩
theorem In.cell (h : In Q w W) {p : Addr} (hp : Q p.block) : W.cell? p = w.cell? p := h.2 p hp
theorem In.below {B : Nat} (h : In Q w W) (hQ : ∀ b, Q b → b < B) (hb : Below B W W') : In Q w W' := ⟨fun b hq => Nat.lt_of_lt_of_le (h.1 b hq) hb.size, fun p hp => (hb.cell (hQ _ hp)).trans (h.2 p hp)⟩
theorem In.on (h : In Q w W) (hb : Below W.heap.size W W') : In Q w W' := h.below h.1 hb
theorem In.alloc (h : In Q w W) (o : Obj) : In Q w (W.alloc o) := h.on ((Below.refl _ _).alloc (Nat.le_refl _) o)
theorem In.setCell (h : In Q w W) {a : Addr} (ha : ¬ Q a.block) (u : Value) : In Q w (W.setCell a u) :=
  ⟨fun b hq => by simpa [World.setCell] using h.1 b hq, fun p hp => (World.cell?_setCell_other W a p u (fun e => by subst e; exact ha hp)).trans (h.2 p hp)⟩
end
/-- the cells cs read as the expression e, in the world w; all that is met lies in blocks of Q -/
inductive ExprI (w : World) (Q : Nat → Prop) : E → List Value → Prop where
  | mk {op n : Int} {nm : ByteArray} {ks : List E} {A : Option Addr} {cap : Nat} {css : Nat → List Value}
      (hop : i64 op) (hn : i64 n) (hnm : nm.size ≤ 9223372036854775807)
      (hcap : ks.length ≤ cap ∧ cap ≤ 9223372036854775807)
      (hA : 0 < ks.length → ∃ a, A = some a ∧ Q a.block ∧ ∀ i, i < ks.length → ∀ j u, (css i)[j]? = some u → w.cell? (a.add (i * 4 + j)) = some u)
      (hk : ∀ i (h : i < ks.length), ExprI w Q ks[i] (css i)) :
      ExprI w Q (.mk op n nm ks) [.int .i64 op, .int .i64 n, .string nm, .slice A ks.length cap]
theorem ExprI.len {w : World} {Q : Nat → Prop} {e : E} {cs : List Value} (h : ExprI w Q e cs) : cs.length = 4 := by cases h; rfl
theorem ExprI.form {w : World} {Q : Nat → Prop} {e : E} {cs : List Value} (h : ExprI w Q e cs) : ∃ op n nm A l cap, cs = [.int .i64 op, .int .i64 n, .string nm, .slice A l cap] := by cases h; exact ⟨_, _, _, _, _, _, rfl⟩
theorem block_add (a : Addr) (n : Nat) : (a.add n).block = a.block := by unfold Addr.add; split <;> rfl
theorem ExprI.keep {w w' : World} {Q Q' : Nat → Prop} {e : E} {cs : List Value} (h : ExprI w Q e cs) (hQ : ∀ b, Q b → Q' b) (hc : ∀ p : Addr, Q p.block → w'.cell? p = w.cell? p) : ExprI w' Q' e cs := by
  induction h with
  | @mk op n nm ks A cap css hop hn hnm hcap hA hk ih =>
    refine .mk (css := css) hop hn hnm hcap (fun h0 => ?_) ih
    obtain ⟨a, h1, h2, h3⟩ := hA h0
    exact ⟨a, h1, hQ _ h2, fun i hi j u hu => (hc _ (by rw [block_add]; exact h2)).trans (h3 i hi j u hu)⟩
theorem i64_of {n : Int} (h : (Lit.int .i64 n).wf = true) : i64 n := by
  unfold i64
  simp only [Lit.wf, IntKind.min, IntKind.max, IntKind.signed, IntKind.bits, Bool.and_eq_true, decide_eq_true_eq, if_true] at h
  omega
theorem cell_off {w : World} {a : Addr} {n j : Nat} {u : Value} (hj : j ≠ 0) (h : w.cell? (a.add (n + j)) = some u) : w.cell? ⟨(a.add n).block, (a.add n).off + j, none⟩ = some u := by
  rw [← add_add] at h
  have : (a.add n).add j = ⟨(a.add n).block, (a.add n).off + j, none⟩ := by
    generalize a.add n = b
    unfold Addr.add
    rw [if_neg (by simpa using hj)]
  rwa [this] at h
/-- the cells of the kid k, in a later world -/
theorem kid_at {w W : World} {Q : Nat → Prop} {ks : List E} {A : Option Addr} {css : Nat → List Value}
    (hA : 0 < ks.length → ∃ a, A = some a ∧ Q a.block ∧ ∀ i, i < ks.length → ∀ j u, (css i)[j]? = some u → w.cell? (a.add (i * 4 + j)) = some u)
    (hk : ∀ i (h : i < ks.length), ExprI w Q ks[i] (css i)) (hI : In Q w W) {k : Nat} (h : k < ks.length) :
    ∃ a o1 n1 s1 A1 l1 c1, A = some a ∧ css k = [.int .i64 o1, .int .i64 n1, .string s1, .slice A1 l1 c1] ∧ W.cell? (a.add (k * 4)) = some (.int .i64 o1) ∧
      W.cell? ⟨(a.add (k * 4)).block, (a.add (k * 4)).off + 1, none⟩ = some (.int .i64 n1) ∧ W.cell? ⟨(a.add (k * 4)).block, (a.add (k * 4)).off + 2, none⟩ = some (.string s1) ∧
      W.cell? ⟨(a.add (k * 4)).block, (a.add (k * 4)).off + 3, none⟩ = some (.slice A1 l1 c1) := by
  obtain ⟨a, rfl, hab, hcell⟩ := hA (by omega)
  obtain ⟨o1, n1, s1, A1, l1, c1, hd⟩ := (hk k h).form
  have hq : ∀ j, Q (a.add (k * 4 + j)).block := fun j => by rw [block_add]; exact hab
  refine ⟨a, o1, n1, s1, A1, l1, c1, rfl, hd, (hI.cell (hq 0)).trans (hcell k h 0 _ (by rw [hd]; rfl)), ?_, ?_, ?_⟩
  · exact cell_off (by decide) ((hI.cell (hq 1)).trans (hcell k h 1 _ (by rw [hd]; rfl)))
  · exact cell_off (by decide) ((hI.cell (hq 2)).trans (hcell k h 2 _ (by rw [hd]; rfl)))
  · exact cell_off (by decide) ((hI.cell (hq 3)).trans (hcell k h 3 _ (by rw [hd]; rfl)))
theorem cellsE : Try.prog.cellsOf 45 = 4 := by kernel_rfl
theorem cells_i : Try.prog.cellsOf 3 = 1 := by kernel_rfl
theorem cells_l : Try.prog.cellsOf 2 = 1 := by kernel_rfl
theorem cells_s : Try.prog.cellsOf 9 = 1 := by kernel_rfl
theorem cells_k : Try.prog.cellsOf 43 = 1 := by kernel_rfl
theorem four {cs : List Value} (h : cs.length = 4) : ∃ c0 c1 c2 c3, cs = [c0, c1, c2, c3] := by
  match cs, h with
  | [c0, c1, c2, c3], _ => exact ⟨c0, c1, c2, c3, rfl⟩
/-- an argument that reads is an expression -/
theorem open_expr {H : Type} {enc : TypeId × Value → H} {w : World} {base : Nat} {spare : Nat → Bool} {held : Bool} : ∀ (fuel : Nat) (cs : List Value) (x : DataW H × List MemPlace),
    DataW.trod enc Try.prog w base spare held fuel 45 cs = some x → ∃ e, ExprI w (lt_ w.heap.size) e cs := by
  intro fuel
  induction fuel using Nat.strongRecOn with
  | _ fuel ih =>
    intro cs x h
    obtain ⟨xs, n, hfu, _, hlen, hxl, hf⟩ := DataW.trod_struct Try.underlying45 h
    rw [cellsE] at hlen
    obtain ⟨c0, c1, c2, c3, rfl⟩ := four hlen
    have g0 : DataW.trod enc Try.prog w base spare held n 3 (([c0, c1, c2, c3].drop 0).take (Try.prog.cellsOf 3)) = xs[0]? := hf 0 _ rfl
    have g1 : DataW.trod enc Try.prog w base spare held n 2 (([c0, c1, c2, c3].drop 1).take (Try.prog.cellsOf 2)) = xs[1]? := hf 1 _ rfl
    have g2 : DataW.trod enc Try.prog w base spare held n 9 (([c0, c1, c2, c3].drop 2).take (Try.prog.cellsOf 9)) = xs[2]? := hf 2 _ rfl
    have g3 : DataW.trod enc Try.prog w base spare held n 43 (([c0, c1, c2, c3].drop 3).take (Try.prog.cellsOf 43)) = xs[3]? := hf 3 _ rfl
    rw [cells_i] at g0
    rw [cells_l] at g1
    rw [cells_s] at g2
    rw [cells_k] at g3
    simp only [List.drop_zero, List.drop_succ_cons, List.take_succ_cons, List.take_zero] at g0 g1 g2 g3
    have hx : ∀ i, i < 4 → ∃ y, xs[i]? = some y := fun i hi => ⟨_, List.getElem?_eq_getElem (by rw [hxl]; exact hi)⟩
    obtain ⟨y0, h0⟩ := hx 0 (by omega)
    obtain ⟨y1, h1⟩ := hx 1 (by omega)
    obtain ⟨y2, h2⟩ := hx 2 (by omega)
    obtain ⟨y3, h3⟩ := hx 3 (by omega)
    obtain ⟨op, e0, _, w0⟩ := DataW.trod_int Try.underlying3 (g0.trans h0)
    obtain ⟨nn, e1, _, w1⟩ := DataW.trod_int Try.underlying2 (g1.trans h1)
    obtain ⟨s, e2, _, w2⟩ := DataW.trod_string Try.underlying9 (g2.trans h2)
    injection e0 with e0
    injection e1 with e1
    injection e2 with e2
    subst e0 e1 e2
    unfold maxLen at w2
    rcases DataW.trod_slice Try.underlying43 (g3.trans h3) with ⟨e3, _⟩ | ⟨a, len, cap, elems, rest, m, hm, e3, _, hb, hlc, hcm, hel, hat, _⟩
    · injection e3 with e3
      subst e3
      exact ⟨.mk op nn s [], .mk (css := fun _ => []) (i64_of w0) (i64_of w1) (by omega) ⟨Nat.le_refl _, by omega⟩ (fun h => absurd h (by simp)) (fun i h => absurd h (by simp))⟩
    · injection e3 with e3
      subst e3
      unfold maxLen at hcm
      have key : ∀ i, ∃ (p : List Value × E), i < len → (∀ j u, p.1[j]? = some u → w.cell? (a.add (i * 4 + j)) = some u) ∧ ExprI w (lt_ w.heap.size) p.2 p.1 := by
        intro i
        by_cases hi : i < len
        · have h4 := hat i hi
          rw [cellsE] at h4
          have hy : ∃ y, elems[i]? = some y := ⟨_, List.getElem?_eq_getElem (by omega)⟩
          obtain ⟨y, hy⟩ := hy
          rw [hy] at h4
          obtain ⟨cs', h5, h6⟩ := Option.bind_eq_some_iff.1 h4
          obtain ⟨_, h7, h8⟩ := World.cells?_some h5
          obtain ⟨e, he⟩ := ih m (by omega) cs' y h6
          refine ⟨(cs', e), fun _ => ⟨fun j u hu => ?_, he⟩⟩
          have hj : j < 4 := by have := (List.getElem?_eq_some_iff.1 hu).1; simp only at this; omega
          rw [← add_add]
          exact (h8 j hj).trans hu
        · exact ⟨([], .mk 0 0 ⟨#[]⟩ []), fun h => absurd h hi⟩
      have hc := fun i => (Classical.choose_spec (key i))
      refine ⟨.mk op nn s ((List.range len).map fun i => (Classical.choose (key i)).2), ?_⟩
      have hl : ((List.range len).map fun i => (Classical.choose (key i)).2).length = len := by simp
      have := ExprI.mk (w := w) (Q := lt_ w.heap.size) (op := op) (n := nn) (nm := s) (ks := (List.range len).map fun i => (Classical.choose (key i)).2) (A := some a) (cap := cap) (css := fun i => (Classical.choose (key i)).1)
        (i64_of w0) (i64_of w1) (by omega) ⟨by rw [hl]; exact hlc, by omega⟩ (fun h0 => ?_) (fun i hi => ?_)
      · rw [hl] at this
        exact this
      · rw [hl] at h0
        refine ⟨a, rfl, ?_, fun i hi j u hu => (hc i (by rw [hl] at hi; exact hi)).1 j u hu⟩
        obtain ⟨h5, h6⟩ := hc 0 h0
        have h7 := h6.len
        have h8 := h5 0 ((Classical.choose (key 0)).1[0]'(by omega)) (List.getElem?_eq_getElem (by omega))
        have h9 := World.block_lt_of_cell? _ _ h8
        rw [block_add] at h9
        exact h9
      · rw [hl] at hi
        have h5 := (hc i hi).2
        simpa using h5
end Go.Proofs.Ytcocilpifdjibaa
namespace Go.Proofs.Ytcocilpifdjibaa
set_option linter.unusedVariables false
def opN (op : Int) : Int := if op = 3 ∨ op = 4 then 1 else if 5 ≤ op ∧ op ≤ 17 then 2 else -1
mutual
def mayE : Nat → E → Bool
  | d, .mk op n nm ks => decide (0 < d) && (if op = 1 then decide (0 ≤ n) && decide (nm.size = 0) && decide (ks.length = 0)
      else if op = 2 then decide (n = 0) && isNm (bl nm) && decide (ks.length = 0)
      else decide (n = 0) && decide (nm.size = 0) && decide ((ks.length : Int) = opN op) && mayL (d - 1) ks)
def mayL : Nat → List E → Bool
  | _, [] => true
  | d, k :: ks => mayE d k && mayL d ks
end
def E.op : E → Int | .mk op _ _ _ => op
def E.nm : E → ByteArray | .mk _ _ nm _ => nm
def E.ks : E → List E | .mk _ _ _ ks => ks
theorem mayL_drop {d : Nat} {ks : List E} {k : Nat} (h : k < ks.length) : mayL d (ks.drop k) = (mayE d ks[k] && mayL d (ks.drop (k + 1))) := by
  rw [List.drop_eq_getElem_cons h, mayL]
theorem toList_beq (s : ByteArray) : (s.toList == []) = decide (s.size = 0) := by
  rw [bl_toList, size_bl]
  cases bl s <;> simp
theorem toList_emp (s : ByteArray) : s.toList.isEmpty = decide (s.size = 0) := by
  rw [← toList_beq]; cases s.toList <;> rfl
theorem toList_bne (s : ByteArray) : (s.toList != []) = !decide (s.size = 0) := by
  rw [bne, toList_beq]
end Go.Proofs.Ytcocilpifdjibaa
