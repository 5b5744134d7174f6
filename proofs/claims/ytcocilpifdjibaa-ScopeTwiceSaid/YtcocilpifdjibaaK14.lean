/- Texts, merged by a program; only what is used. -/
import Derived.Deep.RegionHeld3
import Derived.Deep.AppendLies
import Derived.Test.YtcocilpifdjibaaK1
import Derived.Test.YtcocilpifdjibaaK2
import Derived.Test.YtcocilpifdjibaaK3
import Derived.Test.YtcocilpifdjibaaK4
import Derived.Test.YtcocilpifdjibaaK5
import Derived.Test.YtcocilpifdjibaaK6
import Derived.Test.YtcocilpifdjibaaK7
import Derived.Test.YtcocilpifdjibaaK8
import Derived.Test.YtcocilpifdjibaaK9
import Derived.Test.YtcocilpifdjibaaK10
import Derived.Test.YtcocilpifdjibaaK11
import Derived.Test.YtcocilpifdjibaaK12
import Derived.Test.YtcocilpifdjibaaK13
namespace Go.Proofs.Ytcocilpifdjibaa
open Go.ChangeShapes Go.WideShapes Go.ChangeAt Go.RowKit Go.Deep
set_option linter.unusedVariables false
set_option linter.unusedSimpArgs false
theorem expr_info : (Try.prog.info? 45).map (fun i => (i.zero, i.size, i.bytes)) = some (some (.agg #[.int .i64 0, .int .i64 0, .string ⟨#[]⟩, .slice none 0 0]), 4, 56) := by kernel_rfl
theorem stayE : Stays (fun w Q => ExprI w Q) := fun h hQ hc => h.keep hQ hc
theorem cell_new {w : World} {p : Addr} {v : Value} {o : Obj} (h : w.cell? p = some v) : (w.alloc o).cell? p = some v := ((below_box (W := w) o).cell (World.block_lt_of_cell? _ _ h)).trans h
theorem set_far {w : World} {a p : Addr} (h : p.block ≠ a.block) (u : Value) {v : Value} (hp : w.cell? p = some v) : (w.setCell a u).cell? p = some v := (World.cell?_setCell_other w a p u (fun e => h (by rw [e]))).trans hp
theorem BuildI.set {α : Type} {R : World → (Nat → Prop) → α → List Value → Prop} {w : World} {base C : Nat} {e : TypeId} {l : List α} {v : Value} (hR : Stays R) (h : BuildI w base e C R l v) {p : Addr} (hp : p.block < base) (u : Value) : BuildI (w.setCell p u) base e C R l v := by
  obtain ⟨rows, h1, h2⟩ := h
  refine ⟨rows, (setMoves w p u).row h1 (fun j hj e => by have := (h1.lt j hj).1; omega), h2.imp fun x cs h => hR h (fun b h => ⟨⟨h.1.1, by simp only [size_set]; exact h.1.2⟩, h.2⟩) (fun q hq => World.cell?_setCell_other w p q u (fun e => by have := hq.1.1; rw [e] at hp; omega))⟩
/-- what holds of the copy of k kids -/
structure CxI (w : World) (Q : Nat → Prop) (W W1 wr : World) (b rb yb : Nat) (cx cz : Array Value) (op n : Int) (nm : ByteArray) (ks : List E) (k : Nat) (X : Option Addr) (c : Nat) : Prop where
  bx : Blk wr b 45 cx
  br : Blk wr rb 45 cz
  by_ : Blk wr yb 45 #[.int .i64 op, .int .i64 n, .string nm, .slice X k c]
  row : BuildI wr W1.heap.size 45 4 (fun w Q => ExprI w Q) (ks.take k) (.slice X k c)
  inn : In Q w wr
  size : W1.heap.size ≤ wr.heap.size
  below : Below W.heap.size W wr
theorem cx_step {w : World} {Q : Nat → Prop} {W W1 wr w3 w4 : World} {b rb yb : Nat} {cx cz : Array Value} {op n : Int} {nm : ByteArray} {ks : List E} {k : Nat} {X : Option Addr} {c : Nat} (h : CxI w Q W W1 wr b rb yb cx cz op n nm ks k X c) (hk : k < ks.length) (hyl : yb < W1.heap.size) (hbW : W.heap.size ≤ b) (hb1 : b < rb) (hb2 : rb < yb) (hQ : ∀ j, Q j → j < b)
    (hb3 : Below wr.heap.size wr w3) {cs : List Value} (he3 : ExprI w3 (nw wr w3) ks[k] cs) {rows : List (List Value)} (h1 : w3.ownsRow W1.heap.size 45 4 (.slice X k c) (ks.take k).length rows.flatten) (h2 : All2 (ExprI w3 (fun j => (W1.heap.size ≤ j ∧ j < w3.heap.size) ∧ (Value.slice X k c).ownBlock ≠ some j)) (ks.take k) rows) {o : Obj} {g cap5 : Nat} (hown4 : w4.ownsRow W1.heap.size 45 4 (.slice (some ⟨g, 0, none⟩) (k + 1) cap5) (k + 1) (rows.flatten ++ cs)) (hgrow : (w3.alloc o).grownBy w4 (Value.slice X k c).ownBlock) (hat : (Value.slice X k c).ownBlock = some g ∨ g = w3.heap.size + 1) :
    CxI w Q W W1 (w4.setCell ⟨yb, 3, none⟩ (.slice (some ⟨g, 0, none⟩) (k + 1) cap5)) b rb yb cx cz op n nm ks (k + 1) (some ⟨g, 0, none⟩) cap5 := by
  have htk : (ks.take k).length = k := by rw [List.length_take]; omega
  have hm4 : Moves (fun j => (Value.slice X k c).ownBlock = some j) w3 w4 := ((Moves.refl _ w3).alloc o).trans (moves_grown hgrow) (fun j hj => .inr hj)
  have hno : ∀ j, j < W1.heap.size → ¬ (Value.slice X k c).ownBlock = some j := fun j hj e => by have := (h1.lt j e).1; omega
  have hyb := h.by_.lt
  have k1 : Blk w4 b _ _ := hm4.blk (h.bx.below hb3 h.bx.lt) (hno b (by omega))
  have k2 : Blk w4 rb _ _ := hm4.blk (h.br.below hb3 h.br.lt) (hno rb (by omega))
  have k3 : Blk w4 yb _ _ := hm4.blk (h.by_.below hb3 h.by_.lt) (hno yb hyl)
  have hbu : BuildI w4 W1.heap.size 45 4 (fun w Q => ExprI w Q) (ks.take k ++ [ks[k]]) (.slice (some ⟨g, 0, none⟩) (k + 1) cap5) :=
    BuildI.push (R := fun w Q => ExprI w Q) stayE h1 h2 (x := ks[k]) (B := wr.heap.size) he3 h.size (fun j hj => by
      obtain ⟨_, r1, _⟩ := h.row
      exact (r1.lt j hj).2) (n := k + 1) (by omega) rfl hown4 hgrow (by rcases hat with h | h; exact .inl h; right; rw [h]; simp [Value.ownBlock])
  rw [← List.take_succ_eq_append_getElem hk] at hbu
  have hsz : w4.heap.size ≥ w3.heap.size := hm4.size
  have h3z := hb3.size
  refine ⟨k1.far (p := ⟨yb, 3, none⟩) (by show b ≠ yb; omega) _, k2.far (p := ⟨yb, 3, none⟩) (by show rb ≠ yb; omega) _, k3.set_ 3 _, BuildI.set (R := fun w Q => ExprI w Q) stayE hbu (p := ⟨yb, 3, none⟩) hyl _, ?_, by simp only [size_set]; have := h.size; omega, ?_⟩
  · exact ((h.inn.on hb3).moves hm4 (fun j hj hq => by have := hQ j hq; exact hno j (by omega) hj)).setCell (fun hq => by have := hQ _ hq; simp only at this; omega) _
  · exact below_setc ((h.below.trans (hb3.mono h.below.size)).trans (hm4.below (by have := h.below.size; omega) (fun j hj => by have := (h1.lt j hj).1; have := h.bx.lt; omega))) (by show W.heap.size ≤ yb; omega) _
set_option maxHeartbeats 8000000 in
set_option maxRecDepth 100000 in
theorem CopyExpr_any {w : World} {Q : Nat → Prop} {e : E} {cs : List Value} (h : ExprI w Q e cs) : ∀ (c0 c1 c2 c3 : Value), cs = [c0, c1, c2, c3] → ∀ (W : World), In Q w W → wE e ≤ 1000000 →
    Calls Try.prog 173 #[.agg #[c0, c1, c2, c3]] W fun e' w' => ∃ d0 d1 d2 d3, e' = .returned (.agg #[d0, d1, d2, d3]) ∧ Below W.heap.size W w' ∧ ExprI w' (nw W w') e [d0, d1, d2, d3] := by
  induction h with
  | @mk op n nm ks A cap css hop hn hnm hcap hA hk ih =>
    intro c0 c1 c2 c3 hcs W hI hw
    simp only [List.cons.injEq, and_true] at hcs
    obtain ⟨rfl, rfl, rfl, rfl⟩ := hcs
    rw [wE] at hw
    have hkl : ks.length ≤ 1000000 := Nat.le_trans (wL_len ks) (by omega)
    have HWm : Hid (∀ k (h : k < ks.length), wE ks[k] ≤ 1000000) := Lib.hid (fun k h => Nat.le_trans (wL_mem (List.getElem_mem h)) (by omega))
    have HA := Lib.hid hA
    have HK := Lib.hid hk
    have IH := Lib.hid @ih
    have HI := Lib.hid hI
    clear hA hk ih hI
    obtain ⟨i0, hi0, hz0, hz1, hz2⟩ := info_parts expr_info
    go_enter Try.func173, Try.ntmps173
    go_wp2_with fail
    have HBx : Hid (Blk (((W.alloc (.cells #[.int .i64 op, .int .i64 n, .string nm, .slice A ks.length cap] 45)).alloc (.cells #[.int .i64 0, .int .i64 0, .string ⟨#[]⟩, .slice none 0 0] 45)).alloc (.cells #[.int .i64 op, .int .i64 n, .string nm, .slice none 0 0] 45)) W.heap.size 45 #[.int .i64 op, .int .i64 n, .string nm, .slice A ks.length cap]) := Lib.hid (((Blk.new _ _ _).alloc _).alloc _)
    have HBr : Hid (Blk (((W.alloc (.cells #[.int .i64 op, .int .i64 n, .string nm, .slice A ks.length cap] 45)).alloc (.cells #[.int .i64 0, .int .i64 0, .string ⟨#[]⟩, .slice none 0 0] 45)).alloc (.cells #[.int .i64 op, .int .i64 n, .string nm, .slice none 0 0] 45)) (W.heap.size + 1) 45 #[.int .i64 0, .int .i64 0, .string ⟨#[]⟩, .slice none 0 0]) := Lib.hid ((blk22 _ _ _ _).alloc _)
    have HBy : Hid (Blk (((W.alloc (.cells #[.int .i64 op, .int .i64 n, .string nm, .slice A ks.length cap] 45)).alloc (.cells #[.int .i64 0, .int .i64 0, .string ⟨#[]⟩, .slice none 0 0] 45)).alloc (.cells #[.int .i64 op, .int .i64 n, .string nm, .slice none 0 0] 45)) (W.heap.size + 1 + 1) 45 #[.int .i64 op, .int .i64 n, .string nm, .slice none 0 0]) := Lib.hid (by have := Blk.new ((W.alloc (.cells #[.int .i64 op, .int .i64 n, .string nm, .slice A ks.length cap] 45)).alloc (.cells #[.int .i64 0, .int .i64 0, .string ⟨#[]⟩, .slice none 0 0] 45)) 45 #[.int .i64 op, .int .i64 n, .string nm, .slice none 0 0]; simpa using this)
    have HB0 : Hid (Below W.heap.size W (((W.alloc (.cells #[.int .i64 op, .int .i64 n, .string nm, .slice A ks.length cap] 45)).alloc (.cells #[.int .i64 0, .int .i64 0, .string ⟨#[]⟩, .slice none 0 0] 45)).alloc (.cells #[.int .i64 op, .int .i64 n, .string nm, .slice none 0 0] 45))) := Lib.hid (below_stepA (below_two _ _) _)
    generalize World.alloc _ _ = W1 at HBx HBr HBy HB0 ⊢
    have hxl := HBx.out.lt
    have hrl := HBr.out.lt
    have hyl := HBy.out.lt
    generalize hb : W.heap.size = b at HBx HBr HBy hxl hrl hyl ⊢
    have hb1 : b < b + 1 := by omega
    have hbW : W.heap.size ≤ b := by omega
    have HI1 := Lib.hid (HI.out.on HB0.out)
    have HQb : Hid (∀ j, Q j → j < b) := Lib.hid (fun j hj => by rw [← hb]; exact HI.out.1 j hj)
    clear hb
    generalize hrb : b + 1 = rb at HBr HBy hrl hyl hb1 ⊢
    have hyr : rb + 1 = rb + 1 := rfl
    generalize hyb : rb + 1 = yb at HBy hyl ⊢
    have hyb1 : rb < yb := by omega
    clear hrb hyb hyr HI
    go_loopw [15] (fun i wr => ∃ (k : Nat) (X : Option Addr) (cx : Nat), k ≤ ks.length ∧ i = .int .i64 k ∧ Hid (CxI w Q W W1 wr b rb yb #[.int .i64 op, .int .i64 n, .string nm, .slice A ks.length cap] #[.int .i64 0, .int .i64 0, .string ⟨#[]⟩, .slice none 0 0] op n nm ks k X cx)) (fun i _ => ks.length - (intOf i).toNat)
    case atStart => exact ⟨0, none, 0, Nat.zero_le _, rfl, Lib.hid ⟨HBx.out, HBr.out, HBy.out, BuildI.nil _ _ _ _ _, HI1.out, Nat.le_refl _, HB0.out⟩⟩
    case round =>
      obtain ⟨k, X, cx, hk, rfl, HX⟩ := hrel
      have HBx2 := Lib.hid HX.out.bx
      have HBr2 := Lib.hid HX.out.br
      have HBy2 := Lib.hid HX.out.by_
      have HIr := Lib.hid HX.out.inn
      have hzw := HX.out.size
      obtain ⟨rows, hO, hAl⟩ := HX.out.row
      have HO := Lib.hid hO
      have HAl := Lib.hid hAl
      clear hO hAl
      have htk : (ks.take k).length = k := by rw [List.length_take]; omega
      by_cases hlt : k < ks.length
      · obtain ⟨a, o1, n1, s1, A1, l1, k1, rfl, hd, p0, p1, p2, p3⟩ := kid_at HA.out HK.out HIr.out hlt
        have HC := Lib.hid (fun V h1 => IH.out k hlt _ _ _ _ hd V h1 (HWm.out k hlt))
        have x3 : wr.cell? ⟨b, 3, none⟩ = some (.slice (some a) ks.length cap) := by rw [HBx2.out.cell]; rfl
        have y3 : wr.cell? ⟨yb, 3, none⟩ = some (.slice X k cx) := by rw [HBy2.out.cell]; rfl
        have hbl := HBx2.out.lt
        have hbly := HBy2.out.lt
        have hab : (a.add (k * 4)).block < wr.heap.size := World.block_lt_of_cell? _ _ p0
        have hdr : ∀ {Q : Nat → Prop} {w V : World}, In Q w V → In Q w V.drew := fun h => h
        clear hd
        have hab2 : (a.add (k * 4)).block < W1.heap.size := by
          obtain ⟨a', ha', hq', _⟩ := HA.out (by omega)
          injection ha' with ha'
          subst ha'
          rw [block_add]
          exact HI1.out.1 _ hq'
        have hba : (a.add (k * 4)).block ≠ yb := by
          obtain ⟨a', ha', hq', _⟩ := HA.out (by omega)
          injection ha' with ha'
          subst ha'
          rw [block_add]
          have := HQb.out _ hq'
          omega
        have hne : b ≠ yb := by omega
        have f3 := HBy2.out.frozen 3
        have HOn : Hid (∀ j, j < W1.heap.size → ¬ (Value.slice X k cx).ownBlock = some j) := Lib.hid (fun j hj h => by have := (HO.out.lt j h).1; omega)
        have HO2 : Hid (wr.ownsRow W1.heap.size 45 4 (.slice X k cx) k rows.flatten) := Lib.hid (by have := HO.out; rw [htk] at this; exact this)
        go_wp2_with fail
        refine wp_region_last (fun w' : World => w'.cell? ⟨yb, 3, none⟩ = some (.slice X k cx) ∧ w'.cell? ⟨b, 3, none⟩ = some (.slice (some a) ks.length cap) ∧ w'.cell? (a.add (k * 4)) = some (.int .i64 o1) ∧ w'.cell? ⟨(a.add (k * 4)).block, (a.add (k * 4)).off + 1, none⟩ = some (.int .i64 n1) ∧ w'.cell? ⟨(a.add (k * 4)).block, (a.add (k * 4)).off + 2, none⟩ = some (.string s1) ∧ w'.cell? ⟨(a.add (k * 4)).block, (a.add (k * 4)).off + 3, none⟩ = some (.slice A1 l1 k1)) 11 (by kernel_rfl) ?_
        have hS0 : (fun w' : World => w'.cell? ⟨yb, 3, none⟩ = some (.slice X k cx) ∧ w'.cell? ⟨b, 3, none⟩ = some (.slice (some a) ks.length cap) ∧ w'.cell? (a.add (k * 4)) = some (.int .i64 o1) ∧ w'.cell? ⟨(a.add (k * 4)).block, (a.add (k * 4)).off + 1, none⟩ = some (.int .i64 n1) ∧ w'.cell? ⟨(a.add (k * 4)).block, (a.add (k * 4)).off + 2, none⟩ = some (.string s1) ∧ w'.cell? ⟨(a.add (k * 4)).block, (a.add (k * 4)).off + 3, none⟩ = some (.slice A1 l1 k1)) wr.drew := ⟨y3, x3, p0, p1, p2, p3⟩
        change wpAnyL _ _ _ _ _ _ 12 _ _ wr.drew
        refine wpAnyL_take (i := 0) (v := ?_) rfl (by kernel_rfl) (by decide) (by kernel_rfl) (by kernel_rfl) (by kernel_rfl) (fun _ _ _ h => h) (Or.inl ⟨by rfl, ?_⟩) (by assumption) ?_
        rotate_left
        · intro w hSw
          (try dsimp only at hSw)
          go_split_ands
          go_simp
          (try (with_reducible rfl))
        (try simp only [Act.put, List.setIfInBounds_toArray, List.set_cons_zero, List.set_cons_succ])
        refine wpAnyL_take (i := 1) (v := ?_) rfl (by kernel_rfl) (by decide) (by kernel_rfl) (by kernel_rfl) (by kernel_rfl) (fun _ _ _ h => h) (Or.inl ⟨by rfl, ?_⟩) (by assumption) ?_
        rotate_left
        · intro w hSw
          (try dsimp only at hSw)
          go_split_ands
          go_simp
          (try (with_reducible rfl))
        (try simp only [Act.put, List.setIfInBounds_toArray, List.set_cons_zero, List.set_cons_succ])
        refine wpAnyL_take (i := 2) (v := ?_) rfl (by kernel_rfl) (by decide) (by kernel_rfl) (by kernel_rfl) (by kernel_rfl) (fun _ _ _ h => h) (Or.inl ⟨by rfl, ?_⟩) (by assumption) ?_
        rotate_left
        · intro w hSw
          (try dsimp only at hSw)
          go_split_ands
          go_simp
          (try (with_reducible rfl))
        (try simp only [Act.put, List.setIfInBounds_toArray, List.set_cons_zero, List.set_cons_succ])
        refine wpAnyL_take (i := 3) (v := ?_) rfl (by kernel_rfl) (by decide) (by kernel_rfl) (by kernel_rfl) (by kernel_rfl) (fun _ _ _ h => h) (Or.inl ⟨by rfl, ?_⟩) (by assumption) ?_
        rotate_left
        · intro w hSw
          (try dsimp only at hSw)
          go_split_ands
          go_simp
          (try (with_reducible rfl))
        (try simp only [Act.put, List.setIfInBounds_toArray, List.set_cons_zero, List.set_cons_succ])
        refine wpAnyL_take (i := 4) (v := ?_) rfl (by kernel_rfl) (by decide) (by kernel_rfl) (by kernel_rfl) (by kernel_rfl) (fun _ _ _ h => h) (Or.inl ⟨by rfl, ?_⟩) (by assumption) ?_
        rotate_left
        · intro w hSw
          (try dsimp only at hSw)
          go_split_ands
          go_simp
          (try (with_reducible rfl))
        (try simp only [Act.put, List.setIfInBounds_toArray, List.set_cons_zero, List.set_cons_succ])
        refine wpAnyL_take (i := 5) (v := ?_) rfl (by kernel_rfl) (by decide) (by kernel_rfl) (by kernel_rfl) (by kernel_rfl) (fun _ _ _ h => h) (Or.inl ⟨by rfl, ?_⟩) (by assumption) ?_
        rotate_left
        · intro w hSw
          (try dsimp only at hSw)
          go_split_ands
          go_simp
          (try (with_reducible rfl))
        (try simp only [Act.put, List.setIfInBounds_toArray, List.set_cons_zero, List.set_cons_succ])
        refine wpAnyL_take (i := 6) (v := ?_) rfl (by kernel_rfl) (by decide) (by kernel_rfl) (by kernel_rfl) (by kernel_rfl) (fun _ _ _ h => h) (Or.inl ⟨by rfl, ?_⟩) (by assumption) ?_
        rotate_left
        · intro w hSw
          (try dsimp only at hSw)
          go_split_ands
          go_simp
          (try (with_reducible rfl))
        (try simp only [Act.put, List.setIfInBounds_toArray, List.set_cons_zero, List.set_cons_succ])
        refine wpAnyL_step (i := 7) (by kernel_rfl) rfl (fun K hK => ?_)
        go_simp
        refine (HC.out _ (hdr HIr.out)).mono ?_
        rintro e' w3 ⟨d0, d1, d2, d3, rfl, hb3, he3⟩
        have hb3' : Below wr.heap.size wr w3 := (show Below wr.heap.size wr wr.drew from (Below.refl _ _).drew).trans hb3
        obtain ⟨g0, g1, g2, g3, m3, n3, hg⟩ := he3.form
        (simp only [List.cons.injEq, and_true] at hg)
        obtain ⟨rfl, rfl, rfl, rfl⟩ := hg
        have hbl3 := Nat.lt_of_lt_of_le hbl hb3'.size
        have hab3 := Nat.lt_of_lt_of_le hab hb3'.size
        have hbly3 := Nat.lt_of_lt_of_le hbly hb3'.size
        have yy3 : w3.cell? ⟨yb, 3, none⟩ = some (.slice X k cx) := (hb3'.cell (p := ⟨yb, 3, none⟩) hbly).trans y3
        have ff3 : w3.frozen? ⟨yb, 3, none⟩ = false := (hb3'.frozen (p := ⟨yb, 3, none⟩) hbly).trans f3
        have u0 : w3.cell? ⟨b, 3, none⟩ = some (.slice (some a) ks.length cap) := (hb3'.cell (p := ⟨b, 3, none⟩) hbl).trans x3
        have u1 : w3.cell? (a.add (k * 4)) = some (.int .i64 o1) := (hb3'.cell (p := (a.add (k * 4))) hab).trans p0
        have u2 : w3.cell? ⟨(a.add (k * 4)).block, (a.add (k * 4)).off + 1, none⟩ = some (.int .i64 n1) := (hb3'.cell (p := ⟨(a.add (k * 4)).block, (a.add (k * 4)).off + 1, none⟩) hab).trans p1
        have u3 : w3.cell? ⟨(a.add (k * 4)).block, (a.add (k * 4)).off + 2, none⟩ = some (.string s1) := (hb3'.cell (p := ⟨(a.add (k * 4)).block, (a.add (k * 4)).off + 2, none⟩) hab).trans p2
        have u4 : w3.cell? ⟨(a.add (k * 4)).block, (a.add (k * 4)).off + 3, none⟩ = some (.slice A1 l1 k1) := (hb3'.cell (p := ⟨(a.add (k * 4)).block, (a.add (k * 4)).off + 3, none⟩) hab).trans p3
        have HO3 := Lib.hid ((Below.moves hb3').row HO2.out (fun j hj e => Nat.not_lt.2 e (HO2.out.lt j hj).2))
        have HNw := Lib.hid (new16 w3 45 [.int .i64 g0, .int .i64 g1, .string g2, .slice g3 m3 n3])
        have hcb : W1.heap.size ≤ w3.heap.size + 1 := (by have := hb3'.size; omega)
        refine hK.out _ _ (fun _ => ⟨yy3, u0, u1, u2, u3, u4⟩) ?_
        clear hK K
        (try simp only [Act.put, List.setIfInBounds_toArray, List.set_cons_zero, List.set_cons_succ])
        refine wpAnyL_step (i := 8) (by kernel_rfl) rfl (fun K hK => ?_)
        go_simp
        refine hK.out _ _ (fun _ => ?_) ?_
        · exact ⟨cell_new yy3, cell_new u0, cell_new u1, cell_new u2, cell_new u3, cell_new u4⟩
        clear hK K
        (try simp only [Act.put, List.setIfInBounds_toArray, List.set_cons_zero, List.set_cons_succ])
        refine wpAnyL_step (i := 9) (by kernel_rfl) rfl (fun K hK => ?_)
        refine step_append_lies _ (by rfl) _ _ _ (by rfl) W1.heap.size 45 i0 _ 4 56 Try.underlying43 hi0 hz0 hz1 hz2 rfl (by decide) (.slice X k cx) k rows.flatten (by rfl) (HO3.out.alloc _) ⟨w3.heap.size, 0, none⟩ 1 1 [.int .i64 g0, .int .i64 g1, .string g2, .slice g3 m3 n3] (by rfl) rfl HNw.out (by simp [Value.oneCell']) (by decide) (by unfold maxLen; omega) (by omega) (by rw [World.size_alloc]; exact hcb) (w3.heap.size + 1) (by simp) ?_
        intro g cap5 w4 hown4 hgrow hat hlt4
        have hm4 : Moves (fun j => (Value.slice X k cx).ownBlock = some j) w3 w4 := ((Moves.refl _ w3).alloc _).trans (moves_grown hgrow) (fun j hj => .inr hj)
        have hown_ := HOn.out
        have hbx_ := hxl
        have hba_ := hab2
        have v0 : w4.cell? ⟨b, 3, none⟩ = some (.slice (some a) ks.length cap) := (hm4.cell (p := ⟨b, 3, none⟩) hbl3 (hown_ b hbx_)).trans u0
        have v1 : w4.cell? (a.add (k * 4)) = some (.int .i64 o1) := (hm4.cell (p := (a.add (k * 4))) hab3 (hown_ _ hba_)).trans u1
        have v2 : w4.cell? ⟨(a.add (k * 4)).block, (a.add (k * 4)).off + 1, none⟩ = some (.int .i64 n1) := (hm4.cell (p := ⟨(a.add (k * 4)).block, (a.add (k * 4)).off + 1, none⟩) hab3 (hown_ _ hba_)).trans u2
        have v3 : w4.cell? ⟨(a.add (k * 4)).block, (a.add (k * 4)).off + 2, none⟩ = some (.string s1) := (hm4.cell (p := ⟨(a.add (k * 4)).block, (a.add (k * 4)).off + 2, none⟩) hab3 (hown_ _ hba_)).trans u3
        have v4 : w4.cell? ⟨(a.add (k * 4)).block, (a.add (k * 4)).off + 3, none⟩ = some (.slice A1 l1 k1) := (hm4.cell (p := ⟨(a.add (k * 4)).block, (a.add (k * 4)).off + 3, none⟩) hab3 (hown_ _ hba_)).trans u4
        have yy4 : w4.cell? ⟨yb, 3, none⟩ = some (.slice X k cx) := (hm4.cell (p := ⟨yb, 3, none⟩) hbly3 (hown_ yb hyl)).trans yy3
        have ff4 : w4.frozen? ⟨yb, 3, none⟩ = false := (hm4.blk (HBy2.out.below hb3' hbly) (hown_ yb hyl)).frozen 3
        refine hK.out _ _ (fun _ => ⟨yy4, v0, v1, v2, v3, v4⟩) ?_
        clear hK K
        (try simp only [Act.put, List.setIfInBounds_toArray, List.set_cons_zero, List.set_cons_succ])
        refine wpAnyL_step (i := 10) (by kernel_rfl) rfl (fun K hK => ?_)
        go_simp
        refine hK.out _ _ (fun _ => ⟨yy4, v0, v1, v2, v3, v4⟩) ?_
        clear hK K
        (try simp only [Act.put, List.setIfInBounds_toArray, List.set_cons_zero, List.set_cons_succ])
        refine wpAnyL_step (i := 11) (by kernel_rfl) rfl (fun K hK => ?_)
        go_simp
        refine hK.out _ _ (fun h => absurd rfl h) ?_
        clear hK K
        (try simp only [Act.put, List.setIfInBounds_toArray, List.set_cons_zero, List.set_cons_succ])
        refine wpAnyL_done (by kernel_rfl) ?_ 0
        go_wp2_with fail
        go_roundw
        case rel => exact ⟨k + 1, _, _, by omega, by go_num, Lib.hid (cx_step HX.out hlt hyl hbW hb1 hyb1 HQb.out hb3' he3 ((Below.moves hb3').row HO.out (fun j hj e => Nat.not_lt.2 e (HO.out.lt j hj).2)) (HAl.out.imp fun x cs h => h.keep (fun j h => ⟨⟨h.1.1, Nat.lt_of_lt_of_le h.1.2 hb3'.size⟩, h.2⟩) (fun p hp => hb3'.cell hp.1.2)) hown4 hgrow hat)⟩
        case measure => simp [intOf]; omega
      · have hke : k = ks.length := by omega
        subst hke
        have q0 : wr.cell? ⟨yb, 0, none⟩ = some (.int .i64 op) := by rw [HBy2.out.cell]; rfl
        have q1 : wr.cell? ⟨yb, 1, none⟩ = some (.int .i64 n) := by rw [HBy2.out.cell]; rfl
        have q2 : wr.cell? ⟨yb, 2, none⟩ = some (.string nm) := by rw [HBy2.out.cell]; rfl
        have q3 : wr.cell? ⟨yb, 3, none⟩ = some (.slice X ks.length cx) := by rw [HBy2.out.cell]; rfl
        have f0 := HBr2.out.frozen 0
        have f1 := HBr2.out.frozen 1
        have f2 := HBr2.out.frozen 2
        have f3 := HBr2.out.frozen 3
        have r0 : wr.cell? ⟨rb, 0, none⟩ = some (.int .i64 0) := by rw [HBr2.out.cell]; rfl
        have r1 : wr.cell? ⟨rb, 1, none⟩ = some (.int .i64 0) := by rw [HBr2.out.cell]; rfl
        have r2 : wr.cell? ⟨rb, 2, none⟩ = some (.string ⟨#[]⟩) := by rw [HBr2.out.cell]; rfl
        have r3 : wr.cell? ⟨rb, 3, none⟩ = some (.slice none 0 0) := by rw [HBr2.out.cell]; rfl
        have hl1 := HBy2.out.lt
        have hl2 := HBr2.out.lt
        have HSl := Lib.hid (BuildI.done (R := fun w Q => ExprI w Q) stayE (fun h => h.len) HX.out.row)
        rw [List.take_length] at HSl
        have HBl := Lib.hid HX.out.below
        have hWW := HB0.out.size
        go_wp2_with fail
        (try simp only [Exit.inBlock, Exit.then])
        refine bodyPost_ret (results_cell_row rfl _ _ rb 45 _ (0, 0) _ rfl ((((HBr2.out.set_ 0 _).set_ 1 _).set_ 2 _).set_ 3 _) Try.underlying45 rfl (by kernel_rfl)) rfl ⟨_, _, _, _, rfl, below_set4 HBl.out (by omega) _ _ _ _, ?_⟩
        refine (ExprI.of_slice HSl.out hop hn hnm).keep (fun j hj => ⟨by have := hj.1; omega, by simp only [size_set]; exact hj.2⟩) (fun q hq => ?_)
        have hqr : q.block ≠ rb := by have := hq.1; omega
        rw [World.cell?_setCell_other _ _ q _ (fun e => hqr (by rw [← e])), World.cell?_setCell_other _ _ q _ (fun e => hqr (by rw [← e])), World.cell?_setCell_other _ _ q _ (fun e => hqr (by rw [← e])), World.cell?_setCell_other _ _ q _ (fun e => hqr (by rw [← e]))]
end Go.Proofs.Ytcocilpifdjibaa
namespace Go.Proofs.Ytcocilpifdjibaa
open Go.ChangeShapes Go.WideShapes Go.ChangeAt Go.RowKit Go.Deep
set_option linter.unusedVariables false
set_option maxHeartbeats 1000000 in
theorem texts_any {w W : World} {Q : Nat → Prop} {l : List ByteArray} {v : Value} (h : TextsI w Q l v) (hI : In Q w W) (hl : l.length ≤ 1000000) (hs : ∀ s ∈ l, s.size ≤ 9223372036854775807) :
    Calls Try.prog 157 #[v] W fun e w' => ∃ v', e = .returned v' ∧ Below W.heap.size W w' ∧ TextsI w' (nw W w') l v' := by
  obtain ⟨A, cap, rfl, hlc, hcap⟩ := h.shape
  obtain ⟨i0, hi0, hz0, hz1, hz2⟩ := info_parts string_info
  cases l with
  | nil =>
    clear h hI hs hl
    cases A with
    | none =>
      go_enter Try.func157, Try.ntmps157
      go_wp2_with fail
      go_ret
      exact ⟨.slice none 0 0, rfl, Below.refl _ _, nil_slice⟩
    | some a =>
      go_enter Try.func157, Try.ntmps157
      go_wp2_with fail
      go_ret
      exact ⟨.slice none 0 0, rfl, Below.refl _ _, nil_slice⟩
  | cons s l =>
    obtain ⟨a, rfl, _, _, _⟩ := text_at h hI (k := 0) (by simp)
    have HC := Lib.hid (texts_cells h hI)
    have HS := Lib.hid hs
    clear h hI hs
    generalize hL : s :: l = L at HC HS hl hlc ⊢
    have h0 : 0 < L.length := by rw [← hL]; simp
    clear hL
    go_enter Try.func157, Try.ntmps157
    go_wp2_with (at_builtin; refine wpList_append_own_at _ rfl (.tmp 4) (.tmp 5) 22 rfl W.heap.size 9 i0 _ 1 16 Try.underlying22 hi0 hz0 hz1 hz2 rfl (by decide) _ 0 [] rfl (World.ownsRow_nil _ _ _ _) a L.length cap (strs L) rfl (by simp [strs]) HC.out (by simp [strs, Value.oneCell']) (by unfold maxLen; omega) (by omega) (Nat.le_refl _) ?_)
    intro v' w3 hown3 hg3 _ hat3
    go_wp2_with fail
    go_ret
    have hb : Below W.heap.size W w3 := (Below.refl _ _).grown hg3 (Nat.le_refl _) (by simp [Value.ownBlock])
    exact ⟨v', rfl, hb, (texts_of_own (l := L) HS.out hown3).2⟩
end Go.Proofs.Ytcocilpifdjibaa
namespace Go.Proofs.Ytcocilpifdjibaa
open Go.ChangeShapes Go.WideShapes Go.ChangeAt Go.RowKit Go.Deep
set_option linter.unusedVariables false
set_option linter.unusedSimpArgs false
theorem texts_small {w : World} {Q : Nat → Prop} {l : List ByteArray} {v : Value} (h : TextsI w Q l v) : ∀ s ∈ l, s.size ≤ 9223372036854775807 := by
  obtain ⟨A, cap, css, _, _, _, h4⟩ := h
  intro s hs
  obtain ⟨i, hi, rfl⟩ := List.getElem_of_mem hs
  exact (h4 i hi).2
/-- new blocks but one -/
abbrev NV (V W : World) (yb : Nat) : Nat → Prop := fun j => (V.heap.size ≤ j ∧ j < W.heap.size) ∧ j ≠ yb
theorem arg_info : (Try.prog.info? 137).map (fun i => (i.zero, i.size, i.bytes)) = some (some (.agg #[.bool false, .string ⟨#[]⟩, .int .i64 0, .int .i64 0, .string ⟨#[]⟩, .slice none 0 0]), 6, 80) := by kernel_rfl
theorem stayA : Stays (fun w Q => ArgI w Q) := fun h hQ hc => h.keep hQ hc
/-- what the first statement of copyOne leaves -/
structure CoA (V W1 : World) (yb : Nat) (id kind : Int) (labels : List ByteArray) (nm proc : ByteArray) (x : E) (has : Bool) (vl y0 y1 y2 y3 : Value) : Prop where
  blk : Blk W1 yb 64 #[.int .i64 id, .int .i64 kind, vl, .string nm, .string proc, y0, y1, y2, y3, .bool has, .slice none 0 0, .slice none 0 0, .slice none 0 0]
  below : Below V.heap.size V W1
  le : V.heap.size ≤ yb
  lab : TextsI W1 (NV V W1 yb) labels vl
  ex : ExprI W1 (NV V W1 yb) x [y0, y1, y2, y3]
theorem coA_alloc {V U q1 q2 : World} {id kind : Int} {labels : List ByteArray} {nm proc : ByteArray} {x : E} {has : Bool} {vl y0 y1 y2 y3 : Value} (hb1 : Below V.heap.size V q1) (hU : V.heap.size ≤ U.heap.size) (ht : TextsI q1 (nw U q1) labels vl) (hb2 : Below q1.heap.size q1 q2) (hx : ExprI q2 (nw q1 q2) x [y0, y1, y2, y3]) :
    CoA V (q2.alloc (.cells #[.int .i64 id, .int .i64 kind, vl, .string nm, .string proc, y0, y1, y2, y3, .bool has, .slice none 0 0, .slice none 0 0, .slice none 0 0] 64)) q2.heap.size id kind labels nm proc x has vl y0 y1 y2 y3 := by
  have hz := hb2.size
  have hz1 := hb1.size
  refine ⟨Blk.new _ _ _, below_stepA (below_step hb1 hb2) _, Nat.le_trans hz1 hz, SliceI.keep ht (fun j hj => ⟨⟨Nat.le_trans hU hj.1, ?_⟩, ?_⟩) (fun p hp => ?_) (fun _ _ _ h => h), hx.keep (fun j hj => ⟨⟨Nat.le_trans hz1 hj.1, ?_⟩, ?_⟩) (fun p hp => (below_box _).cell hp.2)⟩
  · rw [World.size_alloc]; have := hj.2; omega
  · have := hj.2; omega
  · rw [(below_box (W := q2) _).cell (Nat.lt_of_lt_of_le hp.2 hz)]; exact hb2.cell hp.2
  · rw [World.size_alloc]; have := hj.2; omega
  · have := hj.2; omega
theorem coA_set {V U q1 U2 q2 : World} {yb : Nat} {id kind : Int} {labels : List ByteArray} {nm proc : ByteArray} {x : E} {has : Bool} {vl y0 y1 y2 y3 : Value} (z : Blk q2 yb 64 zS) (hb : Below V.heap.size V q2) (ho : V.heap.size ≤ yb) (hU : V.heap.size ≤ U.heap.size) (ht : TextsI q1 (nw U q1) labels vl) (hb2 : Below q1.heap.size q1 q2) (hn1 : yb < U.heap.size ∨ q1.heap.size ≤ yb) (hU2 : V.heap.size ≤ U2.heap.size) (hx : ExprI q2 (nw U2 q2) x [y0, y1, y2, y3]) (hn2 : yb < U2.heap.size) :
    CoA V (World.setCell (World.setCell (World.setCell (World.setCell (World.setCell (World.setCell (World.setCell (World.setCell (World.setCell (World.setCell (World.setCell (World.setCell (World.setCell q2 ⟨yb, 0, none⟩ (.int .i64 id)) ⟨yb, 1, none⟩ (.int .i64 kind)) ⟨yb, 2, none⟩ (vl)) ⟨yb, 3, none⟩ (.string nm)) ⟨yb, 4, none⟩ (.string proc)) ⟨yb, 5, none⟩ (y0)) ⟨yb, 6, none⟩ (y1)) ⟨yb, 7, none⟩ (y2)) ⟨yb, 8, none⟩ (y3)) ⟨yb, 9, none⟩ (.bool has)) ⟨yb, 10, none⟩ (.slice none 0 0)) ⟨yb, 11, none⟩ (.slice none 0 0)) ⟨yb, 12, none⟩ (.slice none 0 0)) yb id kind labels nm proc x has vl y0 y1 y2 y3 := by
  have hz := hb2.size
  refine ⟨set13_blk z, set13_below hb ho, ho, SliceI.keep ht (fun j hj => ⟨⟨Nat.le_trans hU hj.1, ?_⟩, ?_⟩) (fun p hp => ?_) (fun _ _ _ h => h), hx.keep (fun j hj => ⟨⟨Nat.le_trans hU2 hj.1, ?_⟩, ?_⟩) (fun p hp => set13_cell ?_)⟩
  · rw [set13_size]; have := hj.2; omega
  · have := hj.1; have := hj.2; omega
  · rw [set13_cell (by have := hp.1; have := hp.2; omega)]; exact hb2.cell hp.2
  · rw [set13_size]; exact hj.2
  · have := hj.1; omega
  · have := hp.1; omega
/-- what holds of the copy of k arguments -/
structure CoI (w : World) (Q : Nat → Prop) (W V W1 wr : World) (b rb yb : Nat) (cx : Array Value) (id kind : Int) (labels : List ByteArray) (nm proc : ByteArray) (x : E) (has : Bool) (vl y0 y1 y2 y3 : Value) (args : List Ar) (k : Nat) (X : Option Addr) (c : Nat) : Prop where
  bx : Blk wr b 64 cx
  br : Blk wr rb 64 zS
  by_ : Blk wr yb 64 #[.int .i64 id, .int .i64 kind, vl, .string nm, .string proc, y0, y1, y2, y3, .bool has, .slice X k c, .slice none 0 0, .slice none 0 0]
  row : BuildI wr W1.heap.size 137 6 (fun w Q => ArgI w Q) (args.take k) (.slice X k c)
  inn : In Q w wr
  size : W1.heap.size ≤ wr.heap.size
  below : Below W.heap.size W wr
  lab : TextsI wr (NV V W1 yb) labels vl
  ex : ExprI wr (NV V W1 yb) x [y0, y1, y2, y3]
section
variable {w : World} {Q : Nat → Prop} {W V W1 wr : World} {b rb yb : Nat} {cx : Array Value} {id kind : Int} {labels : List ByteArray} {nm proc : ByteArray} {x : E} {has : Bool} {vl y0 y1 y2 y3 : Value} {args : List Ar} {k : Nat} {X : Option Addr} {c : Nat}
theorem CoI.on (h : CoI w Q W V W1 wr b rb yb cx id kind labels nm proc x has vl y0 y1 y2 y3 args k X c) {w3 : World} (hb : Below wr.heap.size wr w3) : CoI w Q W V W1 w3 b rb yb cx id kind labels nm proc x has vl y0 y1 y2 y3 args k X c :=
  ⟨h.bx.below hb h.bx.lt, h.br.below hb h.br.lt, h.by_.below hb h.by_.lt, BuildI.below (R := fun w Q => ArgI w Q) stayA h.row hb, h.inn.on hb, Nat.le_trans h.size hb.size, h.below.trans (hb.mono h.below.size),
    SliceI.keep h.lab (fun _ h => h) (fun p hp => hb.cell (Nat.lt_of_lt_of_le hp.1.2 h.size)) (fun _ _ _ h => h), h.ex.keep (fun _ h => h) (fun p hp => hb.cell (Nat.lt_of_lt_of_le hp.1.2 h.size))⟩
theorem co_step {w3 w4 : World} (h : CoI w Q W V W1 w3 b rb yb cx id kind labels nm proc x has vl y0 y1 y2 y3 args k X c) (hk : k < args.length) (hyl : yb < W1.heap.size) (hby : b < yb) (hry : rb < yb) (hbr : rb < W1.heap.size) (hbW : W.heap.size ≤ b) (hQ : ∀ j, Q j → j < b) {B : Nat} (hB : W1.heap.size ≤ B) (hrB : ∀ j, (Value.slice X k c).ownBlock = some j → j < B)
    {cs : List Value} (he : ArgI w3 (fun j => B ≤ j ∧ j < w3.heap.size) args[k] cs) {rows : List (List Value)} (h1 : w3.ownsRow W1.heap.size 137 6 (.slice X k c) (args.take k).length rows.flatten) (h2 : All2 (ArgI w3 (fun j => (W1.heap.size ≤ j ∧ j < w3.heap.size) ∧ (Value.slice X k c).ownBlock ≠ some j)) (args.take k) rows) {o : Obj} {g cap5 : Nat} (hown4 : w4.ownsRow W1.heap.size 137 6 (.slice (some ⟨g, 0, none⟩) (k + 1) cap5) (k + 1) (rows.flatten ++ cs)) (hgrow : (w3.alloc o).grownBy w4 (Value.slice X k c).ownBlock) (hat : (Value.slice X k c).ownBlock = some g ∨ g = w3.heap.size + 1) :
    CoI w Q W V W1 (w4.setCell ⟨yb, 10, none⟩ (.slice (some ⟨g, 0, none⟩) (k + 1) cap5)) b rb yb cx id kind labels nm proc x has vl y0 y1 y2 y3 args (k + 1) (some ⟨g, 0, none⟩) cap5 := by
  have htk : (args.take k).length = k := by rw [List.length_take]; omega
  have hm4 : Moves (fun j => (Value.slice X k c).ownBlock = some j) w3 w4 := ((Moves.refl _ w3).alloc o).trans (moves_grown hgrow) (fun j hj => .inr hj)
  have hno : ∀ j, j < W1.heap.size → ¬ (Value.slice X k c).ownBlock = some j := fun j hj e => by have := (h1.lt j e).1; omega
  have k1 : Blk w4 b _ _ := hm4.blk h.bx (hno b (by omega))
  have k2 : Blk w4 rb _ _ := hm4.blk h.br (hno rb hbr)
  have k3 : Blk w4 yb _ _ := hm4.blk h.by_ (hno yb hyl)
  have hbu : BuildI w4 W1.heap.size 137 6 (fun w Q => ArgI w Q) (args.take k ++ [args[k]]) (.slice (some ⟨g, 0, none⟩) (k + 1) cap5) :=
    BuildI.push (R := fun w Q => ArgI w Q) stayA h1 h2 (x := args[k]) (B := B) he hB hrB (n := k + 1) (by omega) rfl hown4 hgrow (by rcases hat with h | h; exact .inl h; right; rw [h]; simp [Value.ownBlock])
  rw [← List.take_succ_eq_append_getElem hk] at hbu
  have hsz : w4.heap.size ≥ w3.heap.size := hm4.size
  refine ⟨k1.far (p := ⟨yb, 10, none⟩) (by show b ≠ yb; omega) _, k2.far (p := ⟨yb, 10, none⟩) (by show rb ≠ yb; omega) _, k3.set_ 10 _, BuildI.set (R := fun w Q => ArgI w Q) stayA hbu (p := ⟨yb, 10, none⟩) hyl _, ?_, by simp only [size_set]; have := h.size; omega, ?_, ?_, ?_⟩
  · exact (h.inn.moves hm4 (fun j hj hq => by have := hQ j hq; exact hno j (by omega) hj)).setCell (fun hq => by have := hQ _ hq; simp only at this; omega) _
  · exact below_setc (h.below.trans (hm4.below (by have := h.below.size; omega) (fun j hj => by have := (h1.lt j hj).1; have := h.bx.lt; omega))) (by show W.heap.size ≤ yb; omega) _
  · exact SliceI.keep h.lab (fun _ h => h) (fun p hp => (cell_set_ne _ (fun e => hp.2 (by rw [e]))).trans (hm4.cell (Nat.lt_of_lt_of_le hp.1.2 h.size) (hno _ hp.1.2))) (fun _ _ _ h => h)
  · exact h.ex.keep (fun _ h => h) (fun p hp => (cell_set_ne _ (fun e => hp.2 (by rw [e]))).trans (hm4.cell (Nat.lt_of_lt_of_le hp.1.2 h.size) (hno _ hp.1.2)))
end
theorem ss_of {V U : World} {b : Nat} {v0 v1 v2 v3 v4 v5 v6 v7 v8 v9 : Value} (h : Below V.heap.size V U) (hk : b < V.heap.size ∧ V.cell? ⟨b, 0, none⟩ = some v0 ∧ V.cell? ⟨b, 1, none⟩ = some v1 ∧ V.cell? ⟨b, 2, none⟩ = some v2 ∧ V.cell? ⟨b, 3, none⟩ = some v3 ∧ V.cell? ⟨b, 4, none⟩ = some v4 ∧ V.cell? ⟨b, 5, none⟩ = some v5 ∧ V.cell? ⟨b, 6, none⟩ = some v6 ∧ V.cell? ⟨b, 7, none⟩ = some v7 ∧ V.cell? ⟨b, 8, none⟩ = some v8 ∧ V.cell? ⟨b, 9, none⟩ = some v9) :
    U.cell? ⟨b, 0, none⟩ = some v0 ∧ U.cell? ⟨b, 1, none⟩ = some v1 ∧ U.cell? ⟨b, 2, none⟩ = some v2 ∧ U.cell? ⟨b, 3, none⟩ = some v3 ∧ U.cell? ⟨b, 4, none⟩ = some v4 ∧ U.cell? ⟨b, 5, none⟩ = some v5 ∧ U.cell? ⟨b, 6, none⟩ = some v6 ∧ U.cell? ⟨b, 7, none⟩ = some v7 ∧ U.cell? ⟨b, 8, none⟩ = some v8 ∧ U.cell? ⟨b, 9, none⟩ = some v9 ∧ Below V.heap.size V U := by
  obtain ⟨h0, hk⟩ := hk
  have e : ∀ j, U.cell? ⟨b, j, none⟩ = V.cell? ⟨b, j, none⟩ := fun j => h.cell (p := ⟨b, j, none⟩) h0
  rw [e 0, e 1, e 2, e 3, e 4, e 5, e 6, e 7, e 8, e 9]
  obtain ⟨k0, k1, k2, k3, k4, k5, k6, k7, k8, k9⟩ := hk
  exact ⟨k0, k1, k2, k3, k4, k5, k6, k7, k8, k9, h⟩
set_option maxHeartbeats 8000000 in
set_option maxRecDepth 100000 in
theorem copyOne_any {w W : World} {Q : Nat → Prop} {id kind : Int} {labels : List ByteArray} {nm proc : ByteArray} {x : E} {has : Bool} {args : List Ar} {th el : List S} {c0 c1 c2 c3 c4 c5 c6 c7 c8 c9 c10 c11 c12 : Value} (h : StmtI w Q (.mk id kind labels nm proc x has args th el) [c0, c1, c2, c3, c4, c5, c6, c7, c8, c9, c10, c11, c12]) (hI : In Q w W) (hwx : wE x ≤ 1000000) (hwl : labels.length ≤ 1000000) (hwa : wAr args ≤ 1000000) :
    Calls Try.prog 118 #[.agg #[c0, c1, c2, c3, c4, c5, c6, c7, c8, c9, c10, c11, c12]] W fun e w' => ∃ d0 d1 d2 d3 d4 d5 d6 d7 d8 d9 d10 d11 d12, e = .returned (.agg #[d0, d1, d2, d3, d4, d5, d6, d7, d8, d9, d10, d11, d12]) ∧ Below W.heap.size W w' ∧ StmtI w' (nw W w') (.mk id kind labels nm proc x has args [] []) [d0, d1, d2, d3, d4, d5, d6, d7, d8, d9, d10, d11, d12] := by
  obtain ⟨id', kind', labels', nm', proc', x', has', args', th', el', L, lc, x0, x1, x2, X, xn, xc, R, rc, T, tc, U, uc, hs, hcs, hid, hkind, hnm, hproc, hl, hx, ha, hth, hel⟩ := stmt_open h
  injection hs with e1 e2 e3 e4 e5 e6 e7 e8 e9 e10
  subst e1 e2 e3 e4 e5 e6 e7 e8 e9 e10
  simp only [List.cons.injEq, and_true] at hcs
  obtain ⟨rfl, rfl, rfl, rfl, rfl, rfl, rfl, rfl, rfl, rfl, rfl, rfl, rfl⟩ := hcs
  have hsm := texts_small hl
  have HT := Lib.hid (fun V hV => texts_any (W := V) hl hV hwl hsm)
  have HX := Lib.hid (fun V hV => CopyExpr_any hx _ _ _ _ rfl V hV (by omega))
  have HA := Lib.hid ha
  have HI := Lib.hid hI
  have HN := Lib.hid (And.intro hid (And.intro hkind (And.intro hnm hproc)))
  have hal : args.length ≤ 1000000 := Nat.le_trans (wAr_len args) (by omega)
  have HWm : Hid (∀ k (h : k < args.length), wE args[k].x ≤ 1000000) := Lib.hid (fun k h => by have := wAr_mem (List.getElem_mem h); omega)
  obtain ⟨i0, hi0, hz0, hz1, hz2⟩ := info_parts arg_info
  obtain ⟨_, _, e0, har, hrc⟩ := ha.shape
  injection e0 with e1 e2 e3
  subst e1 e3
  clear h hI hl hx ha hth hel hid hkind hnm hproc hwx hwl hwa hsm e2
  go_enter Try.func118, Try.ntmps118
  go_upto_region 1 with fail
  have HBa : Hid (Blk ((W.alloc (.cells #[.int .i64 id, .int .i64 kind, .slice L labels.length lc, .string nm, .string proc, .int .i64 x0, .int .i64 x1, .string x2, .slice X xn xc, .bool has, .slice R args.length rc, .slice T th.length tc, .slice U el.length uc] 64)).alloc (.cells zS 64)) W.heap.size 64 #[.int .i64 id, .int .i64 kind, .slice L labels.length lc, .string nm, .string proc, .int .i64 x0, .int .i64 x1, .string x2, .slice X xn xc, .bool has, .slice R args.length rc, .slice T th.length tc, .slice U el.length uc]) := Lib.hid ((Blk.new _ _ _).alloc _)
  have HBb : Hid (Blk ((W.alloc (.cells #[.int .i64 id, .int .i64 kind, .slice L labels.length lc, .string nm, .string proc, .int .i64 x0, .int .i64 x1, .string x2, .slice X xn xc, .bool has, .slice R args.length rc, .slice T th.length tc, .slice U el.length uc] 64)).alloc (.cells zS 64)) (W.heap.size + 1) 64 zS) := Lib.hid (blk22 _ _ _ _)
  have HBW : Hid (Below W.heap.size W ((W.alloc (.cells #[.int .i64 id, .int .i64 kind, .slice L labels.length lc, .string nm, .string proc, .int .i64 x0, .int .i64 x1, .string x2, .slice X xn xc, .bool has, .slice R args.length rc, .slice T th.length tc, .slice U el.length uc] 64)).alloc (.cells zS 64))) := Lib.hid (below_two _ _)
  generalize World.alloc _ _ = V at HBa HBb HBW ⊢
  have HK : Hid (W.heap.size < V.heap.size ∧ V.cell? ⟨W.heap.size, 0, none⟩ = some (.int .i64 id) ∧ V.cell? ⟨W.heap.size, 1, none⟩ = some (.int .i64 kind) ∧ V.cell? ⟨W.heap.size, 2, none⟩ = some (.slice L labels.length lc) ∧ V.cell? ⟨W.heap.size, 3, none⟩ = some (.string nm) ∧ V.cell? ⟨W.heap.size, 4, none⟩ = some (.string proc) ∧ V.cell? ⟨W.heap.size, 5, none⟩ = some (.int .i64 x0) ∧ V.cell? ⟨W.heap.size, 6, none⟩ = some (.int .i64 x1) ∧ V.cell? ⟨W.heap.size, 7, none⟩ = some (.string x2) ∧ V.cell? ⟨W.heap.size, 8, none⟩ = some (.slice X xn xc) ∧ V.cell? ⟨W.heap.size, 9, none⟩ = some (.bool has)) := Lib.hid ⟨HBa.out.lt, by rw [HBa.out.cell]; rfl, by rw [HBa.out.cell]; rfl, by rw [HBa.out.cell]; rfl, by rw [HBa.out.cell]; rfl, by rw [HBa.out.cell]; rfl, by rw [HBa.out.cell]; rfl, by rw [HBa.out.cell]; rfl, by rw [HBa.out.cell]; rfl, by rw [HBa.out.cell]; rfl, by rw [HBa.out.cell]; rfl⟩
  have L0 := HBa.out.lt
  have HIV := Lib.hid (HI.out.on HBW.out)
  have hBD : Below V.heap.size V V.drew := (Below.refl _ _).drew
  have hBA : Below V.heap.size V (V.alloc (.cells zS 64)).drew := (below_box _).drew
  go_cut [3] from 6 to 22 (fun s wx => ∃ yb L' lc' y0 y1 y2 Y yn yc, s = .pointer (some ⟨yb, 0, none⟩) ∧ Hid (CoA V wx yb id kind labels nm proc x has (.slice L' labels.length lc') (.int .i64 y0) (.int .i64 y1) (.string y2) (.slice Y yn yc)))
  case first =>
    go_region_held3 (fun w' => w'.cell? ⟨W.heap.size, 0, none⟩ = some (.int .i64 id) ∧ w'.cell? ⟨W.heap.size, 1, none⟩ = some (.int .i64 kind) ∧ w'.cell? ⟨W.heap.size, 2, none⟩ = some (.slice L labels.length lc) ∧ w'.cell? ⟨W.heap.size, 3, none⟩ = some (.string nm) ∧ w'.cell? ⟨W.heap.size, 4, none⟩ = some (.string proc) ∧ w'.cell? ⟨W.heap.size, 5, none⟩ = some (.int .i64 x0) ∧ w'.cell? ⟨W.heap.size, 6, none⟩ = some (.int .i64 x1) ∧ w'.cell? ⟨W.heap.size, 7, none⟩ = some (.string x2) ∧ w'.cell? ⟨W.heap.size, 8, none⟩ = some (.slice X xn xc) ∧ w'.cell? ⟨W.heap.size, 9, none⟩ = some (.bool has) ∧ Below V.heap.size V w')
      ((refine ss_of ?_ HK.out; first | (with_reducible assumption) | (go_split_ands; with_reducible assumption) | (go_split_ands; (with_reducible refine below_stepA ?_ _); with_reducible assumption) | (go_split_ands; (iterate 13 (with_reducible refine below_setc ?_ (by first | exact Nat.le_refl _ | exact hB1.size | exact hB2.size) _)); with_reducible assumption) | (exact (Below.refl _ _).drew)))
      (first
        | ((go_at_call 157; have hBU1 := below_step (V := V) (by go_split_ands; assumption) (Below.refl _ _); refine (HT.out _ (HIV.out.on hBU1)).mono ?_; rintro e q1 ⟨v1, rfl, hb1, ht1⟩; obtain ⟨L', lc', rfl, hl1, hl2⟩ := ht1.shape; have hB1 := below_step (V := V) (by go_split_ands; assumption) hb1; try (have z1 : Hid (Blk q1 V.heap.size 64 zS) := Lib.hid ((Blk.new V.drew 64 zS).below hb1 (by simp)))))
        | ((go_at_call 173; have hBU2 := below_step (V := V) (by go_split_ands; assumption) (Below.refl _ _); refine (HX.out _ (HIV.out.on hBU2)).mono ?_; rintro e q2 ⟨d0, d1, d2, d3, rfl, hb2, hx2⟩; obtain ⟨y0, y1, y2, Y, yn, yc, hg⟩ := hx2.form; (simp only [List.cons.injEq, and_true] at hg); obtain ⟨rfl, rfl, rfl, rfl⟩ := hg; have hB2 := below_step (V := V) (by go_split_ands; assumption) hb2; try (first | (have z2 : Hid (Blk q2 V.heap.size 64 zS) := Lib.hid (z1.out.below hb2 z1.out.lt)) | (have z2 : Hid (Blk q2 q1.heap.size 64 zS) := Lib.hid ((Blk.new q1 64 zS).below hb2 (by simp)))); try (obtain ⟨⟨z0_, z1_, z2_, z3_, z4_, z5_, z6_, z7_, z8_, z9_, z10_, z11_, z12_⟩, f0_, f1_, f2_, f3_, f4_, f5_, f6_, f7_, f8_, f9_, f10_, f11_, f12_⟩ := newS_of z2.out))))
    · go_wp2_with fail
      go_meet
      exact ⟨_, L', lc', y0, y1, y2, Y, yn, yc, rfl, Lib.hid (coA_alloc hB1 hBU1.size ht1 hb2 hx2)⟩
    · go_wp2_with fail
      go_meet
      exact ⟨_, L', lc', y0, y1, y2, Y, yn, yc, rfl, Lib.hid (coA_set z2.out hB2 hB1.size hBU1.size ht1 (below_new hb2) (.inr (Nat.le_refl _)) hBU2.size hx2 (by simp))⟩
    · go_wp2_with fail
      go_meet
      exact ⟨_, L', lc', y0, y1, y2, Y, yn, yc, rfl, Lib.hid (coA_set z2.out hB2 (Nat.le_refl _) hBU1.size ht1 hb2 (.inl (by simp)) hBU2.size hx2 z1.out.lt)⟩
  case rest =>
    obtain ⟨yb, L', lc', y0, y1, y2, Y, yn, yc, rfl, HC⟩ := hcut
    have HCx : Hid (CoI w Q W V wc wc W.heap.size (W.heap.size + 1) yb #[.int .i64 id, .int .i64 kind, .slice L labels.length lc, .string nm, .string proc, .int .i64 x0, .int .i64 x1, .string x2, .slice X xn xc, .bool has, .slice R args.length rc, .slice T th.length tc, .slice U el.length uc] id kind labels nm proc x has (.slice L' labels.length lc') (.int .i64 y0) (.int .i64 y1) (.string y2) (.slice Y yn yc) args 0 none 0) := Lib.hid ⟨HBa.out.below HC.out.below HBa.out.lt, HBb.out.below HC.out.below HBb.out.lt, HC.out.blk, BuildI.nil _ _ _ _ _, HIV.out.on HC.out.below, Nat.le_refl _, HBW.out.trans (HC.out.below.mono HBW.out.size), HC.out.lab, HC.out.ex⟩
    have hyl : yb < wc.heap.size := HC.out.blk.lt
    have hyV : V.heap.size ≤ yb := HC.out.le
    have hrV : W.heap.size + 1 < V.heap.size := HBb.out.lt
    have HQb : Hid (∀ j, Q j → j < W.heap.size) := Lib.hid HI.out.1
    have a10 : wc.cell? ⟨W.heap.size, 10, none⟩ = some (.slice R args.length rc) := by rw [HCx.out.bx.cell]; rfl
    clear HI HT HX HIV HBa HBb HBW HK HC
    generalize hb : W.heap.size = b at HCx hrV HQb a10 L0 ⊢
    have hbW : W.heap.size ≤ b := by omega
    clear hb
    generalize hrb : b + 1 = rb at HCx hrV ⊢
    have hbr : b < rb := by omega
    clear hrb
    go_wp2_with fail
    go_loopw [26] (fun i wr => ∃ (k : Nat) (Xa : Option Addr) (ca : Nat), k ≤ args.length ∧ i = .int .i64 k ∧ Hid (CoI w Q W V wc wr b rb yb #[.int .i64 id, .int .i64 kind, .slice L labels.length lc, .string nm, .string proc, .int .i64 x0, .int .i64 x1, .string x2, .slice X xn xc, .bool has, .slice R args.length rc, .slice T th.length tc, .slice U el.length uc] id kind labels nm proc x has (.slice L' labels.length lc') (.int .i64 y0) (.int .i64 y1) (.string y2) (.slice Y yn yc) args k Xa ca)) (fun i _ => args.length - (intOf i).toNat)
    case atStart => exact ⟨0, none, 0, Nat.zero_le _, rfl, HCx⟩
    case round =>
      obtain ⟨k, Xa, ca, hk, rfl, HR⟩ := hrel
      by_cases hlt : k < args.length
      · obtain ⟨a, o1, n1, s1, A1, l1, k1, rfl, hqa, hrow, hnma, hxa⟩ := arg_at HA.out HR.out.inn hlt
        have HC := Lib.hid (fun V h1 => CopyExpr_any hxa _ _ _ _ rfl V h1 (HWm.out k hlt))
        have HNa := Lib.hid hnma
        obtain ⟨p0, p1, p2, p3, p4, p5, _⟩ := hrow
        clear hqa hxa hnma
        go_wp2_with fail
        have HR2 := Lib.hid (HR.out.on (below_box (.cells #[.bool args[k].ref, .string args[k].nm, .int .i64 o1, .int .i64 n1, .string s1, .slice A1 l1 k1] 137)))
        have HB5 := Lib.hid (Blk.new wr 137 #[.bool args[k].ref, .string args[k].nm, .int .i64 o1, .int .i64 n1, .string s1, .slice A1 l1 k1])
        have HRb : Hid (∀ j, (Value.slice Xa k ca).ownBlock = some j → j < wr.heap.size) := Lib.hid (by obtain ⟨_, r1, _⟩ := HR.out.row; exact fun j hj => (r1.lt j hj).2)
        have hsz5 := HR.out.size
        clear p0 p1 p2 p3 p4 p5 HR
        generalize hg5 : wr.heap.size = g5 at HB5 HRb hsz5 ⊢
        generalize World.alloc _ _ = wq at HR2 HB5 ⊢
        clear hg5
        have y10 : wq.cell? ⟨yb, 10, none⟩ = some (.slice Xa k ca) := by rw [HR2.out.by_.cell]; rfl
        have x0_ : wq.cell? ⟨g5, 0, none⟩ = some (.bool args[k].ref) := by rw [HB5.out.cell]; rfl
        have x1_ : wq.cell? ⟨g5, 1, none⟩ = some (.string args[k].nm) := by rw [HB5.out.cell]; rfl
        have x2_ : wq.cell? ⟨g5, 2, none⟩ = some (.int .i64 o1) := by rw [HB5.out.cell]; rfl
        have x3_ : wq.cell? ⟨g5, 3, none⟩ = some (.int .i64 n1) := by rw [HB5.out.cell]; rfl
        have x4_ : wq.cell? ⟨g5, 4, none⟩ = some (.string s1) := by rw [HB5.out.cell]; rfl
        have x5_ : wq.cell? ⟨g5, 5, none⟩ = some (.slice A1 l1 k1) := by rw [HB5.out.cell]; rfl
        have hgl := HB5.out.lt
        have hyq := HR2.out.by_.lt
        have hsq := HR2.out.size
        have f10 := HR2.out.by_.frozen 10
        obtain ⟨rows, hO, hAl⟩ := HR2.out.row
        have HO := Lib.hid hO
        have HAl := Lib.hid hAl
        have htk : (args.take k).length = k := by rw [List.length_take]; omega
        have HO2 : Hid (wq.ownsRow wc.heap.size 137 6 (.slice Xa k ca) k rows.flatten) := Lib.hid (by have := HO.out; rw [htk] at this; exact this)
        clear hO hAl htk
        have hdr : ∀ {Q : Nat → Prop} {w V : World}, In Q w V → In Q w V.drew := fun h => h
        have hgy : g5 ≠ yb := by omega
        have HOn : Hid (∀ j, j < wc.heap.size ∨ g5 ≤ j → ¬ (Value.slice Xa k ca).ownBlock = some j) := Lib.hid (fun j hj h => by have := (HO.out.lt j h).1; have := HRb.out j h; omega)
        refine wp_region_last (fun w' : World => w'.cell? ⟨yb, 10, none⟩ = some (.slice Xa k ca) ∧ w'.cell? ⟨g5, 0, none⟩ = some (.bool args[k].ref) ∧ w'.cell? ⟨g5, 1, none⟩ = some (.string args[k].nm) ∧ w'.cell? ⟨g5, 2, none⟩ = some (.int .i64 o1) ∧ w'.cell? ⟨g5, 3, none⟩ = some (.int .i64 n1) ∧ w'.cell? ⟨g5, 4, none⟩ = some (.string s1) ∧ w'.cell? ⟨g5, 5, none⟩ = some (.slice A1 l1 k1)) 13 (by kernel_rfl) ?_
        have hS0 : (fun w' : World => w'.cell? ⟨yb, 10, none⟩ = some (.slice Xa k ca) ∧ w'.cell? ⟨g5, 0, none⟩ = some (.bool args[k].ref) ∧ w'.cell? ⟨g5, 1, none⟩ = some (.string args[k].nm) ∧ w'.cell? ⟨g5, 2, none⟩ = some (.int .i64 o1) ∧ w'.cell? ⟨g5, 3, none⟩ = some (.int .i64 n1) ∧ w'.cell? ⟨g5, 4, none⟩ = some (.string s1) ∧ w'.cell? ⟨g5, 5, none⟩ = some (.slice A1 l1 k1)) wq.drew := ⟨y10, x0_, x1_, x2_, x3_, x4_, x5_⟩
        change wpAnyL _ _ _ _ _ _ 14 _ _ wq.drew

        refine wpAnyL_take (i := 0) (v := ?_) rfl (by kernel_rfl) (by decide) (by kernel_rfl) (by kernel_rfl) (by kernel_rfl) (fun _ _ _ h => h) (Or.inl ⟨by rfl, ?_⟩) (by assumption) ?_
        rotate_left
        · intro w hSw
          (try dsimp only at hSw)
          go_split_ands
          go_simp
          (try (with_reducible rfl))
        (try simp only [Act.put, List.setIfInBounds_toArray, List.set_cons_zero, List.set_cons_succ])
        refine wpAnyL_take (i := 1) (v := ?_) rfl (by kernel_rfl) (by decide) (by kernel_rfl) (by kernel_rfl) (by kernel_rfl) (fun _ _ _ h => h) (Or.inl ⟨by rfl, ?_⟩) (by assumption) ?_
        rotate_left
        · intro w hSw
          (try dsimp only at hSw)
          go_split_ands
          go_simp
          (try (with_reducible rfl))
        (try simp only [Act.put, List.setIfInBounds_toArray, List.set_cons_zero, List.set_cons_succ])
        refine wpAnyL_take (i := 2) (v := ?_) rfl (by kernel_rfl) (by decide) (by kernel_rfl) (by kernel_rfl) (by kernel_rfl) (fun _ _ _ h => h) (Or.inl ⟨by rfl, ?_⟩) (by assumption) ?_
        rotate_left
        · intro w hSw
          (try dsimp only at hSw)
          go_split_ands
          go_simp
          (try (with_reducible rfl))
        (try simp only [Act.put, List.setIfInBounds_toArray, List.set_cons_zero, List.set_cons_succ])
        refine wpAnyL_take (i := 3) (v := ?_) rfl (by kernel_rfl) (by decide) (by kernel_rfl) (by kernel_rfl) (by kernel_rfl) (fun _ _ _ h => h) (Or.inl ⟨by rfl, ?_⟩) (by assumption) ?_
        rotate_left
        · intro w hSw
          (try dsimp only at hSw)
          go_split_ands
          go_simp
          (try (with_reducible rfl))
        (try simp only [Act.put, List.setIfInBounds_toArray, List.set_cons_zero, List.set_cons_succ])
        refine wpAnyL_take (i := 4) (v := ?_) rfl (by kernel_rfl) (by decide) (by kernel_rfl) (by kernel_rfl) (by kernel_rfl) (fun _ _ _ h => h) (Or.inl ⟨by rfl, ?_⟩) (by assumption) ?_
        rotate_left
        · intro w hSw
          (try dsimp only at hSw)
          go_split_ands
          go_simp
          (try (with_reducible rfl))
        (try simp only [Act.put, List.setIfInBounds_toArray, List.set_cons_zero, List.set_cons_succ])
        refine wpAnyL_take (i := 5) (v := ?_) rfl (by kernel_rfl) (by decide) (by kernel_rfl) (by kernel_rfl) (by kernel_rfl) (fun _ _ _ h => h) (Or.inl ⟨by rfl, ?_⟩) (by assumption) ?_
        rotate_left
        · intro w hSw
          (try dsimp only at hSw)
          go_split_ands
          go_simp
          (try (with_reducible rfl))
        (try simp only [Act.put, List.setIfInBounds_toArray, List.set_cons_zero, List.set_cons_succ])
        refine wpAnyL_take (i := 6) (v := ?_) rfl (by kernel_rfl) (by decide) (by kernel_rfl) (by kernel_rfl) (by kernel_rfl) (fun _ _ _ h => h) (Or.inl ⟨by rfl, ?_⟩) (by assumption) ?_
        rotate_left
        · intro w hSw
          (try dsimp only at hSw)
          go_split_ands
          go_simp
          (try (with_reducible rfl))
        (try simp only [Act.put, List.setIfInBounds_toArray, List.set_cons_zero, List.set_cons_succ])
        refine wpAnyL_take (i := 7) (v := ?_) rfl (by kernel_rfl) (by decide) (by kernel_rfl) (by kernel_rfl) (by kernel_rfl) (fun _ _ _ h => h) (Or.inl ⟨by rfl, ?_⟩) (by assumption) ?_
        rotate_left
        · intro w hSw
          (try dsimp only at hSw)
          go_split_ands
          go_simp
          (try (with_reducible rfl))
        (try simp only [Act.put, List.setIfInBounds_toArray, List.set_cons_zero, List.set_cons_succ])
        refine wpAnyL_step (i := 8) (by kernel_rfl) rfl (fun K hK => ?_)
        go_simp
        refine (HC.out _ (hdr HR2.out.inn)).mono ?_
        rintro e' w3 ⟨d0, d1, d2, d3, rfl, hb3, he3⟩
        have hb3' : Below wq.heap.size wq w3 := (show Below wq.heap.size wq wq.drew from (Below.refl _ _).drew).trans hb3
        obtain ⟨g0, g1, g2, g3, m3, n3, hg⟩ := he3.form
        (simp only [List.cons.injEq, and_true] at hg)
        obtain ⟨rfl, rfl, rfl, rfl⟩ := hg
        have hgl3 := Nat.lt_of_lt_of_le hgl hb3'.size
        have hyq3 := Nat.lt_of_lt_of_le hyq hb3'.size
        have yy3 : w3.cell? ⟨yb, 10, none⟩ = some (.slice Xa k ca) := (hb3'.cell (p := ⟨yb, 10, none⟩) hyq).trans y10
        have ff3 : w3.frozen? ⟨yb, 10, none⟩ = false := (hb3'.frozen (p := ⟨yb, 10, none⟩) hyq).trans f10
        have u0 : w3.cell? ⟨g5, 0, none⟩ = some (.bool args[k].ref) := (hb3'.cell (p := ⟨g5, 0, none⟩) hgl).trans x0_
        have u1 : w3.cell? ⟨g5, 1, none⟩ = some (.string args[k].nm) := (hb3'.cell (p := ⟨g5, 1, none⟩) hgl).trans x1_
        have u2 : w3.cell? ⟨g5, 2, none⟩ = some (.int .i64 o1) := (hb3'.cell (p := ⟨g5, 2, none⟩) hgl).trans x2_
        have u3 : w3.cell? ⟨g5, 3, none⟩ = some (.int .i64 n1) := (hb3'.cell (p := ⟨g5, 3, none⟩) hgl).trans x3_
        have u4 : w3.cell? ⟨g5, 4, none⟩ = some (.string s1) := (hb3'.cell (p := ⟨g5, 4, none⟩) hgl).trans x4_
        have u5 : w3.cell? ⟨g5, 5, none⟩ = some (.slice A1 l1 k1) := (hb3'.cell (p := ⟨g5, 5, none⟩) hgl).trans x5_
        have HO3 := Lib.hid ((Below.moves hb3').row HO2.out (fun j hj e => Nat.not_lt.2 e (HO2.out.lt j hj).2))
        have HNw := Lib.hid (new16 w3 137 [.bool args[k].ref, .string args[k].nm, .int .i64 g0, .int .i64 g1, .string g2, .slice g3 m3 n3])
        have hcb : wc.heap.size ≤ w3.heap.size + 1 := (by have := hb3'.size; omega)
        refine hK.out _ _ (fun _ => ⟨yy3, u0, u1, u2, u3, u4, u5⟩) ?_
        clear hK K
        (try simp only [Act.put, List.setIfInBounds_toArray, List.set_cons_zero, List.set_cons_succ])
        refine wpAnyL_step (i := 9) (by kernel_rfl) rfl (fun K hK => ?_)
        go_simp
        refine hK.out _ _ (fun _ => ⟨yy3, u0, u1, u2, u3, u4, u5⟩) ?_
        clear hK K
        (try simp only [Act.put, List.setIfInBounds_toArray, List.set_cons_zero, List.set_cons_succ])
        refine wpAnyL_step (i := 10) (by kernel_rfl) rfl (fun K hK => ?_)
        go_simp
        refine hK.out _ _ (fun _ => ⟨cell_new yy3, cell_new u0, cell_new u1, cell_new u2, cell_new u3, cell_new u4, cell_new u5⟩) ?_
        clear hK K
        (try simp only [Act.put, List.setIfInBounds_toArray, List.set_cons_zero, List.set_cons_succ])
        refine wpAnyL_step (i := 11) (by kernel_rfl) rfl (fun K hK => ?_)
        refine step_append_lies _ (by rfl) _ _ _ (by rfl) wc.heap.size 137 i0 _ 6 80 Try.underlying62 hi0 hz0 hz1 hz2 rfl (by decide) (.slice Xa k ca) k rows.flatten (by rfl) (HO3.out.alloc _) ⟨w3.heap.size, 0, none⟩ 1 1 [.bool args[k].ref, .string args[k].nm, .int .i64 g0, .int .i64 g1, .string g2, .slice g3 m3 n3] (by rfl) rfl HNw.out (by simp [Value.oneCell']) (by decide) (by unfold maxLen; omega) (by omega) (by rw [World.size_alloc]; exact hcb) (w3.heap.size + 1) (by simp) ?_
        intro g cap5 w4 hown4 hgrow hat hlt4
        have hm4 : Moves (fun j => (Value.slice Xa k ca).ownBlock = some j) w3 w4 := ((Moves.refl _ w3).alloc _).trans (moves_grown hgrow) (fun j hj => .inr hj)
        have hown_ := HOn.out
        have v0 : w4.cell? ⟨g5, 0, none⟩ = some (.bool args[k].ref) := (hm4.cell (p := ⟨g5, 0, none⟩) hgl3 (hown_ g5 (.inr (Nat.le_refl _)))).trans u0
        have v1 : w4.cell? ⟨g5, 1, none⟩ = some (.string args[k].nm) := (hm4.cell (p := ⟨g5, 1, none⟩) hgl3 (hown_ g5 (.inr (Nat.le_refl _)))).trans u1
        have v2 : w4.cell? ⟨g5, 2, none⟩ = some (.int .i64 o1) := (hm4.cell (p := ⟨g5, 2, none⟩) hgl3 (hown_ g5 (.inr (Nat.le_refl _)))).trans u2
        have v3 : w4.cell? ⟨g5, 3, none⟩ = some (.int .i64 n1) := (hm4.cell (p := ⟨g5, 3, none⟩) hgl3 (hown_ g5 (.inr (Nat.le_refl _)))).trans u3
        have v4 : w4.cell? ⟨g5, 4, none⟩ = some (.string s1) := (hm4.cell (p := ⟨g5, 4, none⟩) hgl3 (hown_ g5 (.inr (Nat.le_refl _)))).trans u4
        have v5 : w4.cell? ⟨g5, 5, none⟩ = some (.slice A1 l1 k1) := (hm4.cell (p := ⟨g5, 5, none⟩) hgl3 (hown_ g5 (.inr (Nat.le_refl _)))).trans u5
        have yy4 : w4.cell? ⟨yb, 10, none⟩ = some (.slice Xa k ca) := (hm4.cell (p := ⟨yb, 10, none⟩) hyq3 (hown_ yb (.inl hyl))).trans yy3
        have ff4 : w4.frozen? ⟨yb, 10, none⟩ = false := (hm4.blk (HR2.out.by_.below hb3' hyq) (hown_ yb (.inl hyl))).frozen 10
        refine hK.out _ _ (fun _ => ⟨yy4, v0, v1, v2, v3, v4, v5⟩) ?_
        clear hK K
        (try simp only [Act.put, List.setIfInBounds_toArray, List.set_cons_zero, List.set_cons_succ])
        refine wpAnyL_step (i := 12) (by kernel_rfl) rfl (fun K hK => ?_)
        go_simp
        refine hK.out _ _ (fun _ => ⟨yy4, v0, v1, v2, v3, v4, v5⟩) ?_
        clear hK K
        (try simp only [Act.put, List.setIfInBounds_toArray, List.set_cons_zero, List.set_cons_succ])
        refine wpAnyL_step (i := 13) (by kernel_rfl) rfl (fun K hK => ?_)
        go_simp
        refine hK.out _ _ (fun h => absurd rfl h) ?_
        clear hK K
        (try simp only [Act.put, List.setIfInBounds_toArray, List.set_cons_zero, List.set_cons_succ])
        refine wpAnyL_done (by kernel_rfl) ?_ 0
        go_wp2_with fail
        go_roundw
        case rel => exact ⟨k + 1, _, _, by omega, by go_num, Lib.hid (co_step (HR2.out.on hb3') hlt hyl (by omega) (by omega) (by omega) hbW HQb.out hsq (fun j hj => by have := HRb.out j hj; omega) ⟨_, rfl, HNa.out, he3⟩ ((Below.moves hb3').row HO.out (fun j hj e => Nat.not_lt.2 e (HO.out.lt j hj).2)) (HAl.out.imp fun x cs h => h.keep (fun j h => ⟨⟨h.1.1, Nat.lt_of_lt_of_le h.1.2 hb3'.size⟩, h.2⟩) (fun p hp => hb3'.cell hp.1.2)) hown4 hgrow hat)⟩
        case measure => simp [intOf]; omega
      · have hke : k = args.length := by omega
        subst hke
        obtain ⟨⟨z0_, z1_, z2_, z3_, z4_, z5_, z6_, z7_, z8_, z9_, z10_, z11_, z12_⟩, f0_, f1_, f2_, f3_, f4_, f5_, f6_, f7_, f8_, f9_, f10_, f11_, f12_⟩ := newS_of HR.out.br

        have q0 : wr.cell? ⟨yb, 0, none⟩ = some (.int .i64 id) := by rw [HR.out.by_.cell]; rfl
        have q1 : wr.cell? ⟨yb, 1, none⟩ = some (.int .i64 kind) := by rw [HR.out.by_.cell]; rfl
        have q2 : wr.cell? ⟨yb, 2, none⟩ = some (.slice L' labels.length lc') := by rw [HR.out.by_.cell]; rfl
        have q3 : wr.cell? ⟨yb, 3, none⟩ = some (.string nm) := by rw [HR.out.by_.cell]; rfl
        have q4 : wr.cell? ⟨yb, 4, none⟩ = some (.string proc) := by rw [HR.out.by_.cell]; rfl
        have q5 : wr.cell? ⟨yb, 5, none⟩ = some (.int .i64 y0) := by rw [HR.out.by_.cell]; rfl
        have q6 : wr.cell? ⟨yb, 6, none⟩ = some (.int .i64 y1) := by rw [HR.out.by_.cell]; rfl
        have q7 : wr.cell? ⟨yb, 7, none⟩ = some (.string y2) := by rw [HR.out.by_.cell]; rfl
        have q8 : wr.cell? ⟨yb, 8, none⟩ = some (.slice Y yn yc) := by rw [HR.out.by_.cell]; rfl
        have q9 : wr.cell? ⟨yb, 9, none⟩ = some (.bool has) := by rw [HR.out.by_.cell]; rfl
        have q10 : wr.cell? ⟨yb, 10, none⟩ = some (.slice Xa args.length ca) := by rw [HR.out.by_.cell]; rfl
        have q11 : wr.cell? ⟨yb, 11, none⟩ = some (.slice none 0 0) := by rw [HR.out.by_.cell]; rfl
        have q12 : wr.cell? ⟨yb, 12, none⟩ = some (.slice none 0 0) := by rw [HR.out.by_.cell]; rfl
        have hl1 := HR.out.by_.lt
        have hl2 := HR.out.br.lt
        have HSl := Lib.hid (BuildI.done (R := fun w Q => ArgI w Q) stayA (fun h => (argCk _ _ _ _ h).1) HR.out.row)
        rw [List.take_length] at HSl
        have hsr := HR.out.size
        go_wp2_with fail
        (try simp only [Exit.inBlock, Exit.then])
        refine bodyPost_ret (results_cell_row rfl _ _ rb 64 _ (0, 0) _ rfl (set13_blk HR.out.br) Try.underlying64 rfl (by kernel_rfl)) rfl ⟨_, _, _, _, _, _, _, _, _, _, _, _, _, rfl, set13_below HR.out.below (by omega), ?_⟩
        have hne : ∀ j, NV V wc yb j → j ≠ rb := fun j hj => by have := hj.1.1; omega
        refine StmtI.of_slice HN.out.1 HN.out.2.1 HN.out.2.2.1 HN.out.2.2.2 (SliceI.keep HR.out.lab (fun j hj => ⟨by have := hj.1.1; omega, by rw [set13_size]; have := hj.1.2; omega⟩) (fun p hp => set13_cell (hne _ hp)) (fun _ _ _ h => h)) (HR.out.ex.keep (fun j hj => ⟨by have := hj.1.1; omega, by rw [set13_size]; have := hj.1.2; omega⟩) (fun p hp => set13_cell (hne _ hp))) (SliceI.keep HSl.out (fun j hj => ⟨by have := hj.1; omega, by rw [set13_size]; exact hj.2⟩) (fun p hp => set13_cell (by have := hp.1; omega)) (fun a cs _ h => h.keep (fun j hj => ⟨by have := hj.1; omega, by rw [set13_size]; exact hj.2⟩) (fun p hp => set13_cell (by have := hp.1; omega)))) nil_slice nil_slice
end Go.Proofs.Ytcocilpifdjibaa
