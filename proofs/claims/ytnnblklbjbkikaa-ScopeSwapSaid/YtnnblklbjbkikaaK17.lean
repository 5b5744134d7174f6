/- Texts, merged by a program; only what is used. -/
import Derived.Maps.OwnSet
import Derived.Maps.Views
import Derived.StringKeys
import Derived.Test.YtnnblklbjbkikaaK1
import Derived.Test.YtnnblklbjbkikaaK2
import Derived.Test.YtnnblklbjbkikaaK3
import Derived.Test.YtnnblklbjbkikaaK4
import Derived.Test.YtnnblklbjbkikaaK5
import Derived.Test.YtnnblklbjbkikaaK6
import Derived.Test.YtnnblklbjbkikaaK7
import Derived.Test.YtnnblklbjbkikaaK8
import Derived.Test.YtnnblklbjbkikaaK9
import Derived.Test.YtnnblklbjbkikaaK10
import Derived.Test.YtnnblklbjbkikaaK11
import Derived.Test.YtnnblklbjbkikaaK12
import Derived.Test.YtnnblklbjbkikaaK13
import Derived.Test.YtnnblklbjbkikaaK14
import Derived.Test.YtnnblklbjbkikaaK15
import Derived.Test.YtnnblklbjbkikaaK16
namespace Go.Proofs.Ytnnblklbjbkikaa
open Go.ChangeShapes Go.WideShapes Go.ChangeAt Go.RowKit Go.Deep
set_option linter.unusedVariables false
set_option linter.unusedSimpArgs false
mutual
def swE (sa sb : ByteArray) : E → E
  | .mk op n nm ks => .mk op n (oth sa sb nm) (swL sa sb ks)
def swL (sa sb : ByteArray) : List E → List E
  | [] => []
  | k :: ks => swE sa sb k :: swL sa sb ks
end
theorem swL_len (sa sb : ByteArray) : ∀ ks : List E, (swL sa sb ks).length = ks.length
  | [] => rfl
  | k :: ks => by rw [swL, List.length_cons, List.length_cons, swL_len sa sb ks]
theorem swL_at (sa sb : ByteArray) : ∀ (ks : List E) (k : Nat) (h : k < (swL sa sb ks).length) (h' : k < ks.length), (swL sa sb ks)[k] = swE sa sb ks[k]
  | [], k, h, h' => absurd h' (by simp)
  | x :: ks, 0, h, h' => rfl
  | x :: ks, k + 1, h, h' => by
    have := swL_at sa sb ks k (by simpa [swL] using h) (by simpa using h')
    simpa [swL] using this
set_option maxHeartbeats 8000000 in
set_option maxRecDepth 100000 in
theorem SwapExpr_any (sa sb : ByteArray) {w : World} {Q : Nat → Prop} {e : E} {cs : List Value} (h : ExprI w Q e cs) : ∀ (c0 c1 c2 c3 : Value), cs = [c0, c1, c2, c3] → ∀ (W : World), In Q w W → wE e ≤ 1000000 → sa.size ≤ 9223372036854775807 → sb.size ≤ 9223372036854775807 →
    Calls Try.prog 110 #[.agg #[c0, c1, c2, c3], .string sa, .string sb] W fun e' w' => ∃ d0 d1 d2 d3, e' = .returned (.agg #[d0, d1, d2, d3]) ∧ Below W.heap.size W w' ∧ ExprI w' (nw W w') (swE sa sb e) [d0, d1, d2, d3] := by
  induction h with
  | @mk op n nm ks A cap css hop hn hnm hcap hA hk ih =>
    intro c0 c1 c2 c3 hcs W hI hw hsa hsb
    simp only [List.cons.injEq, and_true] at hcs
    obtain ⟨rfl, rfl, rfl, rfl⟩ := hcs
    rw [wE] at hw
    have hkl : ks.length ≤ 1000000 := Nat.le_trans (wL_len ks) (by omega)
    have HWm : Hid (∀ k (h : k < ks.length), wE ks[k] ≤ 1000000) := Lib.hid (fun k h => Nat.le_trans (wL_mem (List.getElem_mem h)) (by omega))
    have HA := Lib.hid hA
    have HK := Lib.hid hk
    have IH := Lib.hid @ih
    have HI := Lib.hid hI
    have HSab := Lib.hid (And.intro hsa hsb)
    have HOt := Lib.hid (fun V => other_any nm sa sb V)
    have hnz : (oth sa sb nm).size ≤ 9223372036854775807 := by unfold oth; split; exact hsb; split; exact hsa; exact hnm
    have HSw : Hid (swE sa sb (.mk op n nm ks) = .mk op n (oth sa sb nm) (swL sa sb ks)) := Lib.hid rfl
    rw [HSw.out]
    obtain ⟨kz, hkz⟩ : ∃ kz, kz = swL sa sb ks := ⟨_, rfl⟩
    have HKl : Hid (kz.length = ks.length) := Lib.hid (by rw [hkz, swL_len])
    have HKa : Hid (∀ k (h : k < kz.length) (h' : k < ks.length), kz[k] = swE sa sb ks[k]) := Lib.hid (by subst hkz; exact swL_at sa sb ks)
    rw [← hkz]
    generalize oth sa sb nm = nz at HOt hnz ⊢
    clear hA hk ih hI hsa hsb hkz HSw
    obtain ⟨i0, hi0, hz0, hz1, hz2⟩ := info_parts expr_info
    go_enter Try.func110, Try.ntmps110
    go_upto_region 1 with fail
    have HBx0 : Hid (Blk ((W.alloc (.cells #[.int .i64 op, .int .i64 n, .string nm, .slice A ks.length cap] 41)).alloc (.cells #[.int .i64 0, .int .i64 0, .string ⟨#[]⟩, .slice none 0 0] 41)) W.heap.size 41 #[.int .i64 op, .int .i64 n, .string nm, .slice A ks.length cap]) := Lib.hid ((Blk.new _ _ _).alloc _)
    have HBr0 : Hid (Blk ((W.alloc (.cells #[.int .i64 op, .int .i64 n, .string nm, .slice A ks.length cap] 41)).alloc (.cells #[.int .i64 0, .int .i64 0, .string ⟨#[]⟩, .slice none 0 0] 41)) (W.heap.size + 1) 41 #[.int .i64 0, .int .i64 0, .string ⟨#[]⟩, .slice none 0 0]) := Lib.hid (blk22 _ _ _ _)
    have HB00 : Hid (Below W.heap.size W ((W.alloc (.cells #[.int .i64 op, .int .i64 n, .string nm, .slice A ks.length cap] 41)).alloc (.cells #[.int .i64 0, .int .i64 0, .string ⟨#[]⟩, .slice none 0 0] 41))) := Lib.hid (below_two _ _)
    have hs2 : (((W.alloc (.cells #[.int .i64 op, .int .i64 n, .string nm, .slice A ks.length cap] 41)).alloc (.cells #[.int .i64 0, .int .i64 0, .string ⟨#[]⟩, .slice none 0 0] 41))).heap.size = W.heap.size + 1 + 1 := by simp
    generalize World.alloc _ _ = V at HBx0 HBr0 HB00 hs2 ⊢
    have HIV := Lib.hid (HI.out.on HB00.out)
    have x0 : V.cell? ⟨W.heap.size, 0, none⟩ = some (.int .i64 op) := by rw [HBx0.out.cell]; rfl
    have x1 : V.cell? ⟨W.heap.size, 1, none⟩ = some (.int .i64 n) := by rw [HBx0.out.cell]; rfl
    have x2 : V.cell? ⟨W.heap.size, 2, none⟩ = some (.string nm) := by rw [HBx0.out.cell]; rfl
    have hvl := HBx0.out.lt
    go_cut [7] from 9 to 18 (fun s wx => s = .pointer (some ⟨W.heap.size + 1 + 1, 0, none⟩) ∧ Hid (Below V.heap.size V wx) ∧ Hid (Blk wx (W.heap.size + 1 + 1) 41 #[.int .i64 op, .int .i64 n, .string nz, .slice none 0 0]))
    case first =>
      have HB1_ : Hid (Below V.heap.size V (V.alloc (.cells #[.int .i64 op, .int .i64 n, .string nz, .slice none 0 0] 41)).drew) := Lib.hid (below_box _).drew
      have HBl_ : Hid (Blk (V.alloc (.cells #[.int .i64 op, .int .i64 n, .string nz, .slice none 0 0] 41)).drew (W.heap.size + 1 + 1) 41 #[.int .i64 op, .int .i64 n, .string nz, .slice none 0 0]) := Lib.hid (by have h : Blk (V.alloc (.cells #[.int .i64 op, .int .i64 n, .string nz, .slice none 0 0] 41)).drew V.heap.size 41 #[.int .i64 op, .int .i64 n, .string nz, .slice none 0 0] := Blk.new V 41 #[.int .i64 op, .int .i64 n, .string nz, .slice none 0 0]; rw [hs2] at h; exact h)
      go_region_held3 (fun w' : World => w'.cell? ⟨W.heap.size, 0, none⟩ = some (.int .i64 op) ∧ w'.cell? ⟨W.heap.size, 1, none⟩ = some (.int .i64 n) ∧ w'.cell? ⟨W.heap.size, 2, none⟩ = some (.string nm))
        (go_keep)
        ((go_at_call 65; refine (HOt.out _).mono ?_; rintro e w' ⟨rfl, rfl⟩))
      all_goals
        go_wp2_with fail
        go_meet
        exact ⟨rfl, HB1_, HBl_⟩
    case rest =>
    obtain ⟨rfl, HCb, HBy⟩ := hcut
    have HBx := Lib.hid (HBx0.out.below HCb.out HBx0.out.lt)
    have HBr := Lib.hid (HBr0.out.below HCb.out HBr0.out.lt)
    have HB0 := Lib.hid (below_step HB00.out HCb.out)
    clear x0 x1 x2 hvl HBx0 HBr0 HB00 HIV HCb hs2 HOt
    generalize wc = W1 at *
    have hhx : W1.cell? ⟨W.heap.size, 3, none⟩ = some (.slice A ks.length cap) := by rw [HBx.out.cell]; rfl
    go_upto_region 3 with fail
    clear hhx
    have hxl := HBx.out.lt
    have hrl := HBr.out.lt
    have hyl := HBy.out.lt
    generalize hb : W.heap.size = b at HBx HBr HBy hxl hrl hyl ⊢
    have hb1 : b < b + 1 := by omega
    have hbW : W.heap.size ≤ b := by omega
    have HI1 := Lib.hid (HI.out.on HB0.out)
    have HQb : Hid (∀ j, Q j → j < b) := Lib.hid (fun j hj => by rw [← hb]; exact HI.out.1 j hj)
    clear hb
    generalize hrb : b + 1 = rb at HBr HBy hrl hyl hb1 ⊢
    have hyr : rb + 1 = rb + 1 := rfl
    generalize hyb : rb + 1 = yb at HBy hyl ⊢
    have hyb1 : rb < yb := by omega
    clear hrb hyb hyr HI
    go_loopw [22] (fun i wr => ∃ (k : Nat) (X : Option Addr) (cx : Nat), k ≤ ks.length ∧ i = .int .i64 k ∧ Hid (CxI w Q W W1 wr b rb yb #[.int .i64 op, .int .i64 n, .string nm, .slice A ks.length cap] #[.int .i64 0, .int .i64 0, .string ⟨#[]⟩, .slice none 0 0] op n nz kz k X cx)) (fun i _ => ks.length - (intOf i).toNat)
    case atStart => exact ⟨0, none, 0, Nat.zero_le _, rfl, Lib.hid ⟨HBx.out, HBr.out, HBy.out, BuildI.nil _ _ _ _ _, HI1.out, Nat.le_refl _, HB0.out⟩⟩
    case round =>
      obtain ⟨k, X, cx, hk, rfl, HX⟩ := hrel
      have HBx2 := Lib.hid HX.out.bx
      have HBr2 := Lib.hid HX.out.br
      have HBy2 := Lib.hid HX.out.by_
      have HIr := Lib.hid HX.out.inn
      have hzw := HX.out.size
      obtain ⟨rows, hO, hAl⟩ := HX.out.row
      have HO := Lib.hid hO
      have HAl := Lib.hid hAl
      clear hO hAl
      have hkzl := HKl.out
      have htk : (kz.take k).length = k := by rw [List.length_take]; omega
      by_cases hlt : k < ks.length
      · obtain ⟨a, o1, n1, s1, A1, l1, k1, rfl, hd, p0, p1, p2, p3⟩ := kid_at HA.out HK.out HIr.out hlt
        have hltz : k < kz.length := by omega
        have HC := Lib.hid (fun V h1 => IH.out k hlt _ _ _ _ hd V h1 (HWm.out k hlt) HSab.out.1 HSab.out.2)
        rw [← HKa.out k hltz hlt] at HC
        have x3 : wr.cell? ⟨b, 3, none⟩ = some (.slice (some a) ks.length cap) := by rw [HBx2.out.cell]; rfl
        have y3 : wr.cell? ⟨yb, 3, none⟩ = some (.slice X k cx) := by rw [HBy2.out.cell]; rfl
        have hbl := HBx2.out.lt
        have hbly := HBy2.out.lt
        have hab : (a.add (k * 4)).block < wr.heap.size := World.block_lt_of_cell? _ _ p0
        have hdr : ∀ {Q : Nat → Prop} {w V : World}, In Q w V → In Q w V.drew := fun h => h
        clear hd
        have hab2 : (a.add (k * 4)).block < W1.heap.size := by
          obtain ⟨a', ha', hq', _⟩ := HA.out (by omega)
          injection ha' with ha'
          subst ha'
          rw [block_add]
          exact HI1.out.1 _ hq'
        have hba : (a.add (k * 4)).block ≠ yb := by
          obtain ⟨a', ha', hq', _⟩ := HA.out (by omega)
          injection ha' with ha'
          subst ha'
          rw [block_add]
          have := HQb.out _ hq'
          omega
        have hne : b ≠ yb := by omega
        have f3 := HBy2.out.frozen 3
        have HOn : Hid (∀ j, j < W1.heap.size → ¬ (Value.slice X k cx).ownBlock = some j) := Lib.hid (fun j hj h => by have := (HO.out.lt j h).1; omega)
        have HO2 : Hid (wr.ownsRow W1.heap.size 41 4 (.slice X k cx) k rows.flatten) := Lib.hid (by have := HO.out; rw [htk] at this; exact this)
        go_upto_region 5 with fail
        refine wp_region_last (fun w' : World => w'.cell? ⟨yb, 3, none⟩ = some (.slice X k cx) ∧ w'.cell? ⟨b, 3, none⟩ = some (.slice (some a) ks.length cap) ∧ w'.cell? (a.add (k * 4)) = some (.int .i64 o1) ∧ w'.cell? ⟨(a.add (k * 4)).block, (a.add (k * 4)).off + 1, none⟩ = some (.int .i64 n1) ∧ w'.cell? ⟨(a.add (k * 4)).block, (a.add (k * 4)).off + 2, none⟩ = some (.string s1) ∧ w'.cell? ⟨(a.add (k * 4)).block, (a.add (k * 4)).off + 3, none⟩ = some (.slice A1 l1 k1)) 13 (by kernel_rfl) ?_
        have hS0 : (fun w' : World => w'.cell? ⟨yb, 3, none⟩ = some (.slice X k cx) ∧ w'.cell? ⟨b, 3, none⟩ = some (.slice (some a) ks.length cap) ∧ w'.cell? (a.add (k * 4)) = some (.int .i64 o1) ∧ w'.cell? ⟨(a.add (k * 4)).block, (a.add (k * 4)).off + 1, none⟩ = some (.int .i64 n1) ∧ w'.cell? ⟨(a.add (k * 4)).block, (a.add (k * 4)).off + 2, none⟩ = some (.string s1) ∧ w'.cell? ⟨(a.add (k * 4)).block, (a.add (k * 4)).off + 3, none⟩ = some (.slice A1 l1 k1)) wr.drew := ⟨y3, x3, p0, p1, p2, p3⟩
        change wpAnyL _ _ _ _ _ _ 14 _ _ wr.drew
        refine wpAnyL_take (i := 0) (v := ?_) rfl (by kernel_rfl) (by decide) (by kernel_rfl) (by kernel_rfl) (by kernel_rfl) (fun _ _ _ h => h) (Or.inl ⟨by rfl, ?_⟩) (by assumption) ?_
        rotate_left
        · intro w hSw
          (try dsimp only at hSw)
          go_split_ands
          go_simp
          (try (with_reducible rfl))
        (try simp only [Act.put, List.setIfInBounds_toArray, List.set_cons_zero, List.set_cons_succ])
        refine wpAnyL_take (i := 1) (v := ?_) rfl (by kernel_rfl) (by decide) (by kernel_rfl) (by kernel_rfl) (by kernel_rfl) (fun _ _ _ h => h) (Or.inl ⟨by rfl, ?_⟩) (by assumption) ?_
        rotate_left
        · intro w hSw
          (try dsimp only at hSw)
          go_split_ands
          go_simp
          (try (with_reducible rfl))
        (try simp only [Act.put, List.setIfInBounds_toArray, List.set_cons_zero, List.set_cons_succ])
        refine wpAnyL_take (i := 2) (v := ?_) rfl (by kernel_rfl) (by decide) (by kernel_rfl) (by kernel_rfl) (by kernel_rfl) (fun _ _ _ h => h) (Or.inl ⟨by rfl, ?_⟩) (by assumption) ?_
        rotate_left
        · intro w hSw
          (try dsimp only at hSw)
          go_split_ands
          go_simp
          (try (with_reducible rfl))
        (try simp only [Act.put, List.setIfInBounds_toArray, List.set_cons_zero, List.set_cons_succ])
        refine wpAnyL_take (i := 3) (v := ?_) rfl (by kernel_rfl) (by decide) (by kernel_rfl) (by kernel_rfl) (by kernel_rfl) (fun _ _ _ h => h) (Or.inl ⟨by rfl, ?_⟩) (by assumption) ?_
        rotate_left
        · intro w hSw
          (try dsimp only at hSw)
          go_split_ands
          go_simp
          (try (with_reducible rfl))
        (try simp only [Act.put, List.setIfInBounds_toArray, List.set_cons_zero, List.set_cons_succ])
        refine wpAnyL_take (i := 4) (v := ?_) rfl (by kernel_rfl) (by decide) (by kernel_rfl) (by kernel_rfl) (by kernel_rfl) (fun _ _ _ h => h) (Or.inl ⟨by rfl, ?_⟩) (by assumption) ?_
        rotate_left
        · intro w hSw
          (try dsimp only at hSw)
          go_split_ands
          go_simp
          (try (with_reducible rfl))
        (try simp only [Act.put, List.setIfInBounds_toArray, List.set_cons_zero, List.set_cons_succ])
        refine wpAnyL_take (i := 5) (v := ?_) rfl (by kernel_rfl) (by decide) (by kernel_rfl) (by kernel_rfl) (by kernel_rfl) (fun _ _ _ h => h) (Or.inl ⟨by rfl, ?_⟩) (by assumption) ?_
        rotate_left
        · intro w hSw
          (try dsimp only at hSw)
          go_split_ands
          go_simp
          (try (with_reducible rfl))
        (try simp only [Act.put, List.setIfInBounds_toArray, List.set_cons_zero, List.set_cons_succ])
        refine wpAnyL_take (i := 6) (v := ?_) rfl (by kernel_rfl) (by decide) (by kernel_rfl) (by kernel_rfl) (by kernel_rfl) (fun _ _ _ h => h) (Or.inl ⟨by rfl, ?_⟩) (by assumption) ?_
        rotate_left
        · intro w hSw
          (try dsimp only at hSw)
          go_split_ands
          go_simp
          (try (with_reducible rfl))
        (try simp only [Act.put, List.setIfInBounds_toArray, List.set_cons_zero, List.set_cons_succ])
        refine wpAnyL_take (i := 7) (v := ?_) rfl (by kernel_rfl) (by decide) (by kernel_rfl) (by kernel_rfl) (by kernel_rfl) (fun _ _ _ h => h) (Or.inl ⟨by rfl, ?_⟩) (by assumption) ?_
        rotate_left
        · intro w hSw
          (try dsimp only at hSw)
          go_split_ands
          go_simp
          (try (with_reducible rfl))
        (try simp only [Act.put, List.setIfInBounds_toArray, List.set_cons_zero, List.set_cons_succ])
        refine wpAnyL_take (i := 8) (v := ?_) rfl (by kernel_rfl) (by decide) (by kernel_rfl) (by kernel_rfl) (by kernel_rfl) (fun _ _ _ h => h) (Or.inl ⟨by rfl, ?_⟩) (by assumption) ?_
        rotate_left
        · intro w hSw
          (try dsimp only at hSw)
          go_split_ands
          go_simp
          (try (with_reducible rfl))
        (try simp only [Act.put, List.setIfInBounds_toArray, List.set_cons_zero, List.set_cons_succ])
        refine wpAnyL_step (i := 9) (by kernel_rfl) rfl (fun K hK => ?_)
        go_simp
        refine (HC.out _ (hdr HIr.out)).mono ?_
        rintro e' w3 ⟨d0, d1, d2, d3, rfl, hb3, he3⟩
        have hb3' : Below wr.heap.size wr w3 := (show Below wr.heap.size wr wr.drew from (Below.refl _ _).drew).trans hb3
        obtain ⟨g0, g1, g2, g3, m3, n3, hg⟩ := he3.form
        (simp only [List.cons.injEq, and_true] at hg)
        obtain ⟨rfl, rfl, rfl, rfl⟩ := hg
        have hbl3 := Nat.lt_of_lt_of_le hbl hb3'.size
        have hab3 := Nat.lt_of_lt_of_le hab hb3'.size
        have hbly3 := Nat.lt_of_lt_of_le hbly hb3'.size
        have yy3 : w3.cell? ⟨yb, 3, none⟩ = some (.slice X k cx) := (hb3'.cell (p := ⟨yb, 3, none⟩) hbly).trans y3
        have ff3 : w3.frozen? ⟨yb, 3, none⟩ = false := (hb3'.frozen (p := ⟨yb, 3, none⟩) hbly).trans f3
        have u0 : w3.cell? ⟨b, 3, none⟩ = some (.slice (some a) ks.length cap) := (hb3'.cell (p := ⟨b, 3, none⟩) hbl).trans x3
        have u1 : w3.cell? (a.add (k * 4)) = some (.int .i64 o1) := (hb3'.cell (p := (a.add (k * 4))) hab).trans p0
        have u2 : w3.cell? ⟨(a.add (k * 4)).block, (a.add (k * 4)).off + 1, none⟩ = some (.int .i64 n1) := (hb3'.cell (p := ⟨(a.add (k * 4)).block, (a.add (k * 4)).off + 1, none⟩) hab).trans p1
        have u3 : w3.cell? ⟨(a.add (k * 4)).block, (a.add (k * 4)).off + 2, none⟩ = some (.string s1) := (hb3'.cell (p := ⟨(a.add (k * 4)).block, (a.add (k * 4)).off + 2, none⟩) hab).trans p2
        have u4 : w3.cell? ⟨(a.add (k * 4)).block, (a.add (k * 4)).off + 3, none⟩ = some (.slice A1 l1 k1) := (hb3'.cell (p := ⟨(a.add (k * 4)).block, (a.add (k * 4)).off + 3, none⟩) hab).trans p3
        have HO3 := Lib.hid ((Below.moves hb3').row HO2.out (fun j hj e => Nat.not_lt.2 e (HO2.out.lt j hj).2))
        have HNw := Lib.hid (new16 w3 41 [.int .i64 g0, .int .i64 g1, .string g2, .slice g3 m3 n3])
        have hcb : W1.heap.size ≤ w3.heap.size + 1 := (by have := hb3'.size; omega)
        refine hK.out _ _ (fun _ => ⟨yy3, u0, u1, u2, u3, u4⟩) ?_
        clear hK K
        (try simp only [Act.put, List.setIfInBounds_toArray, List.set_cons_zero, List.set_cons_succ])
        refine wpAnyL_step (i := 10) (by kernel_rfl) rfl (fun K hK => ?_)
        go_simp
        refine hK.out _ _ (fun _ => ?_) ?_
        · exact ⟨cell_new yy3, cell_new u0, cell_new u1, cell_new u2, cell_new u3, cell_new u4⟩
        clear hK K
        (try simp only [Act.put, List.setIfInBounds_toArray, List.set_cons_zero, List.set_cons_succ])
        refine wpAnyL_step (i := 11) (by kernel_rfl) rfl (fun K hK => ?_)
        refine step_append_lies _ (by rfl) _ _ _ (by rfl) W1.heap.size 41 i0 _ 4 56 Try.underlying39 hi0 hz0 hz1 hz2 rfl (by decide) (.slice X k cx) k rows.flatten (by rfl) (HO3.out.alloc _) ⟨w3.heap.size, 0, none⟩ 1 1 [.int .i64 g0, .int .i64 g1, .string g2, .slice g3 m3 n3] (by rfl) rfl HNw.out (by simp [Value.oneCell']) (by decide) (by unfold maxLen; omega) (by omega) (by rw [World.size_alloc]; exact hcb) (w3.heap.size + 1) (by simp) ?_
        intro g cap5 w4 hown4 hgrow hat hlt4
        have hm4 : Moves (fun j => (Value.slice X k cx).ownBlock = some j) w3 w4 := ((Moves.refl _ w3).alloc _).trans (moves_grown hgrow) (fun j hj => .inr hj)
        have hown_ := HOn.out
        have hbx_ := hxl
        have hba_ := hab2
        have v0 : w4.cell? ⟨b, 3, none⟩ = some (.slice (some a) ks.length cap) := (hm4.cell (p := ⟨b, 3, none⟩) hbl3 (hown_ b hbx_)).trans u0
        have v1 : w4.cell? (a.add (k * 4)) = some (.int .i64 o1) := (hm4.cell (p := (a.add (k * 4))) hab3 (hown_ _ hba_)).trans u1
        have v2 : w4.cell? ⟨(a.add (k * 4)).block, (a.add (k * 4)).off + 1, none⟩ = some (.int .i64 n1) := (hm4.cell (p := ⟨(a.add (k * 4)).block, (a.add (k * 4)).off + 1, none⟩) hab3 (hown_ _ hba_)).trans u2
        have v3 : w4.cell? ⟨(a.add (k * 4)).block, (a.add (k * 4)).off + 2, none⟩ = some (.string s1) := (hm4.cell (p := ⟨(a.add (k * 4)).block, (a.add (k * 4)).off + 2, none⟩) hab3 (hown_ _ hba_)).trans u3
        have v4 : w4.cell? ⟨(a.add (k * 4)).block, (a.add (k * 4)).off + 3, none⟩ = some (.slice A1 l1 k1) := (hm4.cell (p := ⟨(a.add (k * 4)).block, (a.add (k * 4)).off + 3, none⟩) hab3 (hown_ _ hba_)).trans u4
        have yy4 : w4.cell? ⟨yb, 3, none⟩ = some (.slice X k cx) := (hm4.cell (p := ⟨yb, 3, none⟩) hbly3 (hown_ yb hyl)).trans yy3
        have ff4 : w4.frozen? ⟨yb, 3, none⟩ = false := (hm4.blk (HBy2.out.below hb3' hbly) (hown_ yb hyl)).frozen 3
        refine hK.out _ _ (fun _ => ⟨yy4, v0, v1, v2, v3, v4⟩) ?_
        clear hK K
        (try simp only [Act.put, List.setIfInBounds_toArray, List.set_cons_zero, List.set_cons_succ])
        refine wpAnyL_step (i := 12) (by kernel_rfl) rfl (fun K hK => ?_)
        go_simp
        refine hK.out _ _ (fun _ => ⟨yy4, v0, v1, v2, v3, v4⟩) ?_
        clear hK K
        (try simp only [Act.put, List.setIfInBounds_toArray, List.set_cons_zero, List.set_cons_succ])
        refine wpAnyL_step (i := 13) (by kernel_rfl) rfl (fun K hK => ?_)
        go_simp
        refine hK.out _ _ (fun h => absurd rfl h) ?_
        clear hK K
        (try simp only [Act.put, List.setIfInBounds_toArray, List.set_cons_zero, List.set_cons_succ])
        refine wpAnyL_done (by kernel_rfl) ?_ 0
        go_wp2_with fail
        go_roundw
        case rel => exact ⟨k + 1, _, _, by omega, by go_num, Lib.hid (cx_step HX.out hltz hyl hbW hb1 hyb1 HQb.out hb3' he3 ((Below.moves hb3').row HO.out (fun j hj e => Nat.not_lt.2 e (HO.out.lt j hj).2)) (HAl.out.imp fun x cs h => h.keep (fun j h => ⟨⟨h.1.1, Nat.lt_of_lt_of_le h.1.2 hb3'.size⟩, h.2⟩) (fun p hp => hb3'.cell hp.1.2)) hown4 hgrow hat)⟩
        case measure => simp [intOf]; omega
      · have hke : k = ks.length := by omega
        subst hke
        have q0 : wr.cell? ⟨yb, 0, none⟩ = some (.int .i64 op) := by rw [HBy2.out.cell]; rfl
        have q1 : wr.cell? ⟨yb, 1, none⟩ = some (.int .i64 n) := by rw [HBy2.out.cell]; rfl
        have q2 : wr.cell? ⟨yb, 2, none⟩ = some (.string nz) := by rw [HBy2.out.cell]; rfl
        have q3 : wr.cell? ⟨yb, 3, none⟩ = some (.slice X ks.length cx) := by rw [HBy2.out.cell]; rfl
        have f0 := HBr2.out.frozen 0
        have f1 := HBr2.out.frozen 1
        have f2 := HBr2.out.frozen 2
        have f3 := HBr2.out.frozen 3
        have r0 : wr.cell? ⟨rb, 0, none⟩ = some (.int .i64 0) := by rw [HBr2.out.cell]; rfl
        have r1 : wr.cell? ⟨rb, 1, none⟩ = some (.int .i64 0) := by rw [HBr2.out.cell]; rfl
        have r2 : wr.cell? ⟨rb, 2, none⟩ = some (.string ⟨#[]⟩) := by rw [HBr2.out.cell]; rfl
        have r3 : wr.cell? ⟨rb, 3, none⟩ = some (.slice none 0 0) := by rw [HBr2.out.cell]; rfl
        have hl1 := HBy2.out.lt
        have hl2 := HBr2.out.lt
        have HSl := Lib.hid (BuildI.done (R := fun w Q => ExprI w Q) stayE (fun h => h.len) HX.out.row)
        have hkz2 : kz.take ks.length = kz := by rw [← hkzl, List.take_length]
        rw [hkz2] at HSl
        have HBl := Lib.hid HX.out.below
        have hWW := HB0.out.size
        go_wp2_with fail
        (try simp only [Exit.inBlock, Exit.then])
        refine bodyPost_ret (results_cell_row rfl _ _ rb 41 _ (0, 0) _ rfl ((((HBr2.out.set_ 0 _).set_ 1 _).set_ 2 _).set_ 3 _) Try.underlying41 rfl (by kernel_rfl)) rfl ⟨_, _, _, _, rfl, below_set4 HBl.out (by omega) _ _ _ _, ?_⟩
        refine (ExprI.of_slice HSl.out hop hn hnz).keep (fun j hj => ⟨by have := hj.1; omega, by simp only [size_set]; exact hj.2⟩) (fun q hq => ?_)
        have hqr : q.block ≠ rb := by have := hq.1; omega
        rw [World.cell?_setCell_other _ _ q _ (fun e => hqr (by rw [← e])), World.cell?_setCell_other _ _ q _ (fun e => hqr (by rw [← e])), World.cell?_setCell_other _ _ q _ (fun e => hqr (by rw [← e])), World.cell?_setCell_other _ _ q _ (fun e => hqr (by rw [← e]))]
end Go.Proofs.Ytnnblklbjbkikaa
namespace Go.Proofs.Ytnnblklbjbkikaa
open Go.ChangeShapes Go.WideShapes Go.ChangeAt Go.RowKit Go.Deep
set_option linter.unusedVariables false
set_option linter.unusedSimpArgs false
set_option linter.unusedSectionVars false
theorem oth_oth (a b s : ByteArray) : oth a b (oth a b s) = s := by
  unfold oth
  by_cases h1 : s = a
  · subst h1
    rw [if_pos rfl]
    by_cases h2 : b = s
    · rw [if_pos h2, h2]
    · rw [if_neg h2, if_pos rfl]
  · rw [if_neg h1]
    by_cases h2 : s = b
    · subst h2
      rw [if_pos rfl, if_pos rfl]
    · rw [if_neg h2, if_neg h1, if_neg h2]
def swA (a b : ByteArray) (r : Ar) : Ar := ⟨r.ref, oth a b r.nm, swE a b r.x⟩
mutual
def swS (a b : ByteArray) : S → S
  | .mk id kind labels nm proc x has args th el => .mk id kind (labels.map (oth a b)) (oth a b nm) (oth a b proc) (swE a b x) has (args.map (swA a b)) (swSL a b th) (swSL a b el)
def swSL (a b : ByteArray) : List S → List S
  | [] => []
  | s :: l => swS a b s :: swSL a b l
end
theorem swSL_map (a b : ByteArray) : ∀ l : List S, swSL a b l = l.map (swS a b)
  | [] => by rw [swSL]; rfl
  | s :: l => by rw [swSL, List.map_cons, swSL_map a b l]
theorem swSL_len (a b : ByteArray) (l : List S) : (swSL a b l).length = l.length := by rw [swSL_map, List.length_map]
theorem swSL_take (a b : ByteArray) {l : List S} {k : Nat} (h : k < l.length) : (swSL a b l).take (k + 1) = (swSL a b l).take k ++ [swS a b l[k]] := by
  rw [swSL_map, List.take_succ_eq_append_getElem (by rw [List.length_map]; exact h), List.getElem_map]
def swPa (a b : ByteArray) (p : Pa) : Pa := ⟨oth a b p.nm, p.ref⟩
def swQ (a b : ByteArray) (q : Pr) : Pr := ⟨oth a b q.nm, q.params.map (swPa a b), q.vars.map (oth a b), swSL a b q.body, q.end_.map (oth a b)⟩
def swP (a b : ByteArray) (p : Pg) : Pg := ⟨p.globals.map (oth a b), p.procs.map (swQ a b)⟩
section
variable {a b : ByteArray} (ha : isNm (bl a) = true) (hb : isNm (bl b) = true)
include ha hb
theorem oth_nm (s : ByteArray) : isNm (bl (oth a b s)) = isNm (bl s) := by
  unfold oth
  split
  · next h => rw [h, ha, hb]
  · split
    · next h => rw [h, ha, hb]
    · rfl
theorem oth_emp (s : ByteArray) : (oth a b s).toList.isEmpty = s.toList.isEmpty := by
  have ea : a.toList.isEmpty = false := by rw [toList_emp]; exact decide_eq_false (by have := (nm_short ha).1; omega)
  have eb : b.toList.isEmpty = false := by rw [toList_emp]; exact decide_eq_false (by have := (nm_short hb).1; omega)
  unfold oth
  split
  · next h => rw [h, ea, eb]
  · split
    · next h => rw [h, ea, eb]
    · rfl
theorem oth_size (s : ByteArray) : decide ((oth a b s).size = 0) = decide (s.size = 0) := by
  have h1 := (nm_short ha).1
  have h2 := (nm_short hb).1
  unfold oth
  split
  · next h => subst h; rw [Bool.eq_iff_iff]; simp only [decide_eq_true_eq]; omega
  · split
    · next h => subst h; rw [Bool.eq_iff_iff]; simp only [decide_eq_true_eq]; omega
    · rfl
theorem allN_oth (l : List ByteArray) : allN (l.map (oth a b)) = allN l := by
  unfold allN
  rw [List.all_map]
  congr 1
  funext s
  exact oth_nm ha hb s
mutual
theorem mayE_sw : ∀ (e : E) (d : Nat), mayE d (swE a b e) = mayE d e
  | .mk op n nm ks, d => by
    rw [swE, mayE, mayE, oth_size ha hb, oth_nm ha hb, swL_len, mayL_sw ks]
theorem mayL_sw : ∀ (l : List E) (d : Nat), mayL d (swL a b l) = mayL d l
  | [], d => by rw [swL]
  | k :: l, d => by rw [swL, mayL, mayL, mayE_sw k, mayL_sw l]
end
theorem noneE_sw : ∀ e : E, noneE (swE a b e) = noneE e
  | .mk op n nm ks => by rw [swE, noneE, noneE, oth_emp ha hb, swL_len]
theorem xOk_sw (e : E) (t : Bool) : xOk (swE a b e) t = xOk e t := by
  unfold xOk; rw [mayE_sw ha hb, noneE_sw ha hb]
theorem nmOk_sw (s : ByteArray) (t : Bool) : nmOk (oth a b s) t = nmOk s t := by
  unfold nmOk; rw [oth_nm ha hb, oth_emp ha hb]
theorem argsOk_sw (l : List Ar) : argsOk (l.map (swA a b)) = argsOk l := by
  unfold argsOk
  rw [List.all_map]
  congr 1
  funext r
  show (nmOk (oth a b r.nm) r.ref && xOk (swE a b r.x) (!r.ref)) = argOk r
  rw [nmOk_sw ha hb, xOk_sw ha hb]; rfl
theorem stmtOk_sw : ∀ s : S, stmtOk (swS a b s) = stmtOk s
  | .mk id kind labels nm proc x has args th el => by
    rw [swS, stmtOk, stmtOk]
    simp only [oth_emp ha hb, nmOk_sw ha hb, allN_oth ha hb, xOk_sw ha hb, argsOk_sw ha hb, swSL_len, List.length_map]
mutual
theorem oneOk_sw : ∀ (s : S) (d c : Nat), oneOk (swS a b s) d c = oneOk s d c
  | .mk id kind labels nm proc x has args th el, d, c => by
    have h := stmtOk_sw ha hb (.mk id kind labels nm proc x has args th el)
    have h1 := fun d c => blkOk_sw th d c
    have h2 := fun d c => blkOk_sw el d c
    rw [swS] at h ⊢
    rw [oneOk, oneOk, h]
    simp only [h1, h2]
theorem blkOk_sw : ∀ (l : List S) (d c : Nat), blkOk (swSL a b l) d c = blkOk l d c
  | [], d, c => by rw [swSL]
  | s :: l, d, c => by
    have h1 := fun c => blkOk_sw l d c
    rw [swSL, blkOk, blkOk, oneOk_sw s]
    simp only [h1]
end
theorem headOk_sw (q : Pr) : headOk (swQ a b q) = headOk q := by
  obtain ⟨n, p, v, bo, e⟩ := q
  have hp : parsOk (p.map (swPa a b)) = parsOk p := by
    unfold parsOk
    rw [List.all_map]
    congr 1
    funext s
    exact oth_nm ha hb s.nm
  simp only [headOk, swQ, List.length_map, hp, oth_nm ha hb, allN_oth ha hb]
theorem prOk_sw : ∀ (l : List Pr) (c : Nat), prOk (l.map (swQ a b)) c = prOk l c
  | [], c => rfl
  | q :: l, c => by
    have h : (swQ a b q).body = swSL a b q.body := rfl
    have h1 := fun c => prOk_sw l c
    rw [List.map_cons, prOk, prOk, headOk_sw ha hb, h, blkOk_sw ha hb]
    simp only [h1]
/-- what may be may be -/
theorem mayP_sw (p : Pg) : mayP (swP a b p) = mayP p := by
  obtain ⟨g, l⟩ := p
  simp only [mayP, swP, List.length_map, allN_oth ha hb, prOk_sw ha hb]
end
end Go.Proofs.Ytnnblklbjbkikaa
namespace Go.Proofs.Ytnnblklbjbkikaa
open Go.ChangeShapes Go.WideShapes Go.ChangeAt Go.RowKit Go.Deep
set_option linter.unusedVariables false
theorem keyLaw : Maps.Keyed Try.prog 9 := Maps.string_keyed Try.underlying9
theorem zeroB (w : World) : (zeroValue 4).run Try.prog w = .ok (.bool false) w := by kernel_rfl
theorem plainElem_bool_inv {H : Type} {P : Program} {e : TypeId} (he : P.underlying e = some .bool) {v : Value} {z : DataW H × List MemPlace} (h : plainElem P e v = some z) : ∃ x, v = .bool x ∧ z = (.lit (.bool x), []) := by
  unfold plainElem at h
  rw [he] at h
  cases v <;> simp at h
  exact ⟨_, rfl, h.symm⟩
def SeenI (w : World) (b n : Nat) (l : List ByteArray) : Prop :=
  ∃ D : DataW Unit, w.ownsMap Try.prog 9 (plainElem Try.prog 4) b n D ∧ ∀ s : ByteArray, small s → D.atKey (.string s.data.toList) (.lit (.bool false)) = .lit (.bool (hasB l s))
theorem SeenI.new (w : World) : SeenI (w.alloc (.map #[] 0)) w.heap.size 0 [] := ⟨.map [], World.ownsMap_made w _ _ _, fun s _ => rfl⟩
theorem SeenI.blk {w : World} {b n : Nat} {l : List ByteArray} (h : SeenI w b n l) : ∃ es clock, w.heap[b]? = some (.map es clock) := by
  obtain ⟨D, ⟨es, clock, h1, _⟩, _⟩ := h
  exact ⟨es, clock, h1⟩
theorem SeenI.keep {own : Nat → Prop} {w w' : World} {b n : Nat} {l : List ByteArray} (h : SeenI w b n l) (hm : Moves own w w') (hn : ¬ own b) : SeenI w' b n l := by
  obtain ⟨D, ⟨es, clock, h1, h2⟩, h3⟩ := h
  exact ⟨D, ⟨es, clock, (hm.block b (Array.getElem?_eq_some_iff.1 h1).1 hn).trans h1, h2⟩, h3⟩
theorem SeenI.look {w : World} {b n : Nat} {l : List ByteArray} (h : SeenI w b n l) {s : ByteArray} (hs : small s) : (Instr.lookup 132 (.map (some b)) (.string s) false).run Try.prog w = .ok (.bool (hasB l s)) w := by
  obtain ⟨D, h1, h2⟩ := h
  have hs' : s.size ≤ maxLen := by unfold small at hs; unfold maxLen; omega
  obtain ⟨v, ps, hrun, hv⟩ := h1.lookup keyLaw Try.underlying132 (zeroB w) (plainElem_bool (H := Unit) Try.underlying4 false) (WideMaps.keyOf_string_mk Try.underlying9 hs')
  obtain ⟨x, rfl, hz⟩ := plainElem_bool_inv Try.underlying4 hv
  rw [h2 s hs] at hz
  simp only [Prod.mk.injEq, DataW.lit.injEq, Lit.bool.injEq] at hz
  rw [hrun, hz.1]
theorem SeenI.put {w : World} {b n : Nat} {l : List ByteArray} (h : SeenI w b n l) (hn : n ≤ 1099511627776) {s : ByteArray} (hs : small s) :
    ∃ w', (Instr.mapUpdate 132 (.map (some b)) (.string s) (.bool true)).run Try.prog w = .ok () w' ∧ SeenI w' b (n + 1) (l ++ [s]) ∧ w.grownBy w' (some b) := by
  obtain ⟨D, h1, h2⟩ := h
  have hs' : s.size ≤ maxLen := by unfold small at hs; unfold maxLen; omega
  obtain ⟨w', hrun, h3, h4⟩ := h1.update keyLaw Try.underlying132 (by unfold maxLen; omega) (WideMaps.keyOf_string_mk Try.underlying9 hs') (plainElem_bool (H := Unit) Try.underlying4 true)
  refine ⟨w', hrun, ⟨_, h3, fun t ht => ?_⟩, h4⟩
  have hh : hasB (l ++ [s]) t = (hasB l t || decide (s = t)) := by simp [hasB]
  by_cases he : t = s
  · subst he
    rw [Maps.atKey_put_same h1.isMap (by simp [WideAt.IsKeyLit]), hh]
    simp
  · have hne : Lit.string t.data.toList ≠ Lit.string s.data.toList := by
      intro e
      injection e with e
      apply he
      rw [← bs_bl t, ← bs_bl s]
      exact congrArg bs e
    rw [Maps.atKey_put_other hne, h2 t ht, hh]
    simp [Ne.symm he]
/-- two rows of other element types never share a block; nor a row and a map -/
theorem own_own_ne {w : World} {base base' n n' size size' : Nat} {e e' : TypeId} {v v' : Value} {xs xs' : List Value} (h : w.ownsRow base e size v n xs) (h' : w.ownsRow base' e' size' v' n' xs') (hne : e ≠ e') {j : Nat} (hj : v.ownBlock = some j) : v'.ownBlock ≠ some j := by
  rcases h.2 with ⟨rfl, _⟩ | ⟨g, cap, cur, rfl, _, hh, _⟩
  · simp [Value.ownBlock] at hj
  · have : g = j := by simpa [Value.ownBlock] using hj
    subst this
    exact own_blk_ne h' hh (Ne.symm hne)
theorem own_map_ne {w : World} {base n size b m : Nat} {e : TypeId} {v : Value} {xs : List Value} {l : List ByteArray} (h : w.ownsRow base e size v n xs) (hs : SeenI w b m l) : v.ownBlock ≠ some b := by
  obtain ⟨es, clock, hb⟩ := hs.blk
  rcases h.2 with ⟨rfl, _⟩ | ⟨g, cap, cur, rfl, _, hh, _⟩
  · simp [Value.ownBlock]
  · intro hj
    have : g = b := by simpa [Value.ownBlock] using hj
    subst this
    rw [hb] at hh; cases hh
end Go.Proofs.Ytnnblklbjbkikaa
