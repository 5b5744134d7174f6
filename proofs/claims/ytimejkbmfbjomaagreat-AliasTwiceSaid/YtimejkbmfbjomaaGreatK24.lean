/- Texts, merged by a program; only what is used. -/
import Derived.Sort.MapsRangeIn
import Derived.Sort.KeysCollected
import Derived.Sort.OwnSorted
import Derived.Sort.EveryDepth
import Derived.Shelf.Sort.Plain
import Derived.Shelf.Lay
import Derived.Maps.AppendAt
import Derived.Maps.Range
import Derived.Maps.RangeWalk
import Derived.Test.YtimejkbmfbjomaaGreatK1
import Derived.Test.YtimejkbmfbjomaaGreatK2
import Derived.Test.YtimejkbmfbjomaaGreatK3
import Derived.Test.YtimejkbmfbjomaaGreatK4
import Derived.Test.YtimejkbmfbjomaaGreatK5
import Derived.Test.YtimejkbmfbjomaaGreatK6
import Derived.Test.YtimejkbmfbjomaaGreatK7
import Derived.Test.YtimejkbmfbjomaaGreatK8
import Derived.Test.YtimejkbmfbjomaaGreatK9
import Derived.Test.YtimejkbmfbjomaaGreatK10
import Derived.Test.YtimejkbmfbjomaaGreatK11
import Derived.Test.YtimejkbmfbjomaaGreatK12
import Derived.Test.YtimejkbmfbjomaaGreatK13
import Derived.Test.YtimejkbmfbjomaaGreatK14
import Derived.Test.YtimejkbmfbjomaaGreatK15
import Derived.Test.YtimejkbmfbjomaaGreatK16
import Derived.Test.YtimejkbmfbjomaaGreatK17
import Derived.Test.YtimejkbmfbjomaaGreatK18
import Derived.Test.YtimejkbmfbjomaaGreatK19
import Derived.Test.YtimejkbmfbjomaaGreatK20
import Derived.Test.YtimejkbmfbjomaaGreatK21
import Derived.Test.YtimejkbmfbjomaaGreatK22
import Derived.Test.YtimejkbmfbjomaaGreatK23
namespace Go.Proofs
open Go.Shelf
shelf_lay Lays.n190 Nm 190 at Tryz as Tryz.lays190
end Go.Proofs
namespace Go.Proofs.YtimejkbmfbjomaaGreat
open Go.ChangeShapes Go.WideShapes Go.ChangeAt Go.RowKit Go.Deep Go.Maps Go.Sort
set_option linter.unusedVariables false
set_option linter.unusedSimpArgs false
theorem sortS_any (blk off cap : Nat) (ss : List (List UInt8)) (w : World) (hH : Holds encStr w blk off ss.toArray) (hblk : blk < w.heap.size) (hsz : ss.length < 4611686018427387904) :
 Calls Tryz.prog 83 #[.slice (some ⟨blk, off, none⟩) ss.length cap] w fun e w' => e = .returned (.tuple #[]) ∧ ∃ n os, w' = grow (putRow encStr (Sort.ahead w n) blk off (ss.mergeSort fun x y => decide (x ≤ y)).toArray) os := Go.Proofs.Any.slices_Sort_string Tryz.lays190 blk off cap ss w hH hblk hsz
theorem lawS : Keyed Tryz.prog 9 := Maps.string_keyed und_s
def toBA (x : List UInt8) : ByteArray := ⟨x.toArray⟩
theorem kS_ba (x : List UInt8) : kS (toBA x) = .string x := by simp [kS, toBA]
theorem ba_size (x : List UInt8) : (toBA x).size = x.length := by simp [toBA, ByteArray.size]
theorem strs_ba (l : List (List UInt8)) : strs (l.map toBA) = l.map encStr := by simp [strs, encStr, toBA]
theorem plainB_is {v : Value} {y : DataW Unit × List MemPlace} (h : plainElem (H := Unit) Tryz.prog 4 v = some y) : ∃ c, v = .bool c := by
 unfold plainElem at h
 rw [und_b] at h
 cases v <;> simp at h
 exact ⟨_, rfl⟩
/-- the names of which f holds, in ascending order -/
structure InOrd (f : ByteArray → Bool) (l : List ByteArray) : Prop where
 out : ∃ ss : List (List UInt8), l = (ss.mergeSort (fun x y => decide (x ≤ y))).map toBA ∧ ss.Nodup ∧ ∀ x, x ∈ ss ↔ x.length ≤ maxLen ∧ f (toBA x) = true
set_option maxHeartbeats 4000000 in
set_option maxRecDepth 100000 in
theorem inOrder_any {w : World} {b n : Nat} {f : ByteArray → Bool} (h : SetI w b n f) (hn : n ≤ 1000000000) (hsm : ∀ s : ByteArray, s.size ≤ maxLen → f s = true → s.size ≤ 281474976710656) :
 Calls Tryz.prog 41 #[.map (some b)] w fun e w' => ∃ (l : List ByteArray) (v : Value), e = .returned v ∧ w'.ownsRow w.heap.size 9 1 v l.length (strs l) ∧ Below w.heap.size w w' ∧ InOrd f l := by
 obtain ⟨D0, hown, hf⟩ := h
 obtain ⟨i0, hi, hz0, hz1, hz2⟩ := info_parts string_info
 have hbl := hown.lt
 have hsn := hown.size_le
 have HCl := Lib.hid (fun (s : ByteArray) (V : World) => Clone_any s V)
 have HF := Lib.hid hf
 have HSm := Lib.hid hsm
 have HOwn := Lib.hid hown
 clear hf hsm
 go_enter Tryz.func41, Tryz.ntmps41
 go_wp2_with (first
  | (at_len; refine wpList_len_own _ rfl _ 73 rfl 9 4 und_t _ b n _ rfl hown ?_)
  | (at_make; refine wpList_make_own _ rfl _ _ 22 rfl w.heap.size 9 i0 (.string ⟨#[]⟩) 1 Tryz.underlying22 hi hz0 hz1 _ _ _ (Maps.size D0) rfl rfl rfl (by rw [hz2]; omega) (by unfold maxLen; omega) (Nat.le_refl _) ?_; intro w1 hrow1 hg1)
  | (at_range; refine wpList_range_own _ rfl _ 73 rfl 9 4 lawS und_t _ b n _ rfl (hown.kept hg1 (by simp)) ?_; intro w0 hrg0 hg0 hs0))
 go_frame
 go_loopg [3] (Maps.size D0) (fun kk v wr => ∃ (left : Lit → Bool) (ss : List (List UInt8)), wr.ranges Tryz.prog 9 (plainElem Tryz.prog 4) b w1.heap.size n D0 left kk ∧ ss.length + kk ≤ Maps.size D0 ∧
   wr.ownsRow w.heap.size 9 1 v ss.length (ss.map encStr) ∧ v ≠ .slice none 0 0 ∧ Collected D0 left ss ∧ Below w.heap.size w wr)
 case atStart =>
  exact ⟨_, [], hrg0, by simp, hrow1.kept hg0 (Or.inr (by simp [Value.ownBlock])), by simp, Collected.start D0, ((Below.refl _ _).grown hg1 (Nat.le_refl _) (fun j hj => by cases hj)).grown hg0 hg1.size (fun j hj => by cases hj)⟩
 case round =>
  obtain ⟨left, ss, hrg, hcs, hrow, hnn, hC, hnx⟩ := hrel
  go_wp2_with (at_next; refine wpList_next_ranges _ rfl _ rfl 9 lawS (plainElem Tryz.prog 4) encStr (Value.bool) (fun key kl hk => by obtain ⟨x, hx, _⟩ := Maps.keyOf_str und_s hk; exact ⟨x, hx⟩) (fun v y hv => plainB_is hv) b w1.heap.size n _ _ _ rfl hrg ?_ ?_)
  ·intro hc0 hl0
   rcases hrow.2 with ⟨hnil, _⟩ | ⟨g, cap, cur, rfl, hbase, hb, h1, h2, h3, h4⟩
   ·exact absurd hnil hnn
   have hH : Holds encStr wr g 0 ss.toArray := holds_of_block hb (by simpa using h4)
   have hgl : g < wr.heap.size := (Array.getElem?_eq_some_iff.1 hb).1
   have hc := Lib.hid (sortS_any g 0 cap ss wr hH hgl (by omega))
   have HL0 := Lib.hid hl0
   clear hl0
   go_wp2_with (go_at_call 83; refine hc.out.mono ?_; rintro e w' ⟨rfl, nn, os, rfl⟩)
   go_ret
   have hp := hC.perm HOwn.out lawS und_s HL0.out
   refine ⟨(ss.mergeSort (fun x y => decide (x ≤ y))).map toBA, _, rfl, ?_, hnx.grown (grownBy_sorted _) hnx.size (fun j hj => by cases hj; exact hbase), ⟨ss, rfl, hC.1, fun x => ?_⟩⟩
   ·rw [strs_ba, List.length_map, List.length_mergeSort]
    exact ownsRow_sorted (by simp) hbase hb h1 h2 h3
   ·rw [hC.2 x]
    constructor
    ·rintro ⟨hx, _⟩
     have hxl : x.length ≤ maxLen := strKeys_le HOwn.out und_s x (hp.mem_iff.1 ((hC.2 x).2 ⟨hx, HL0.out _⟩))
     refine ⟨hxl, ?_⟩
     rw [← (HF.out (toBA x) (by rw [ba_size]; exact hxl)).2, kS_ba]
     exact hx
    ·rintro ⟨hxl, hx⟩
     refine ⟨?_, HL0.out _⟩
     rw [← kS_ba x, (HF.out (toBA x) (by rw [ba_size]; exact hxl)).2]
     exact hx
  ·intro x
   refine ⟨?_, ?_⟩
   all_goals
    intro kl yd yp w2 cnt2 hkey hlk hv hat hrg2 hlt hg2 hs2 hen
    obtain ⟨x', ex, rfl, hxl⟩ := Maps.keyOf_str und_s hkey
    obtain rfl : x = x' := encStr_inj ex
    have hrow2 := hrow.kept hg2 (Or.inr (row_ne_iter hrow hrg).symm)
    have hfx : f (toBA x) = true := by
     have hx := ((hC.step hlk hat).2 x).1 (List.mem_append_right _ (List.mem_singleton.2 rfl))
     rw [← (HF.out (toBA x) (by rw [ba_size]; exact hxl)).2, kS_ba]
     exact hx.1
    have HC1 := Lib.hid (HCl.out (toBA x) w2 (HSm.out _ (by rw [ba_size]; exact hxl) hfx))
    have HC2 : Hid (Calls Tryz.prog 82 #[encStr x] w2 fun e w' => e = .returned (encStr x) ∧ RowKit.Below w2.heap.size w2 w') := HC1
    have HAt := Lib.hid hat
    have HFx := Lib.hid hfx
    clear hs2 hat hfx HC1
    go_wp2_with (first
     | (go_at_call 82; refine HC2.out.mono ?_; rintro e w3 ⟨rfl, hb3⟩; have HG3 : Hid (w2.grownBy w3 none) := Lib.hid ⟨hb3.os, hb3.tape, hb3.output, hb3.size, fun k hk _ => hb3.block k hk⟩; have HR3 := Lib.hid (((Below.moves hb3).row hrow2 (fun j hj e => Nat.not_lt.2 e (hrow2.lt j hj).2)).alloc (.cells #[encStr x] 9)); have HW := Lib.hid (cell_one_new w3 (encStr x) 9); have hz3 := hb3.size; have hz2' := hg2.size; have hz1' := hnx.size; clear hb3)
     | (at_builtin; refine wpList_append_own_at _ rfl (.tmp 14) (.tmp 17) 22 rfl w.heap.size 9 i0 _ 1 16 Tryz.underlying22 hi hz0 hz1 hz2 rfl (by decide) _ ss.length (ss.map encStr) rfl HR3.out ⟨w3.heap.size, 0, none⟩ 1 1 [encStr x] rfl rfl HW.out (by simp [Value.oneCell', encStr]) (by unfold maxLen; omega) (by omega) (by simp; omega) ?_; intro v' w4 hown' hg4 hnil4 hat4))
    have hrg3 := (((hrg2.kept HG3.out (by simp) (by simp)).alloc (.cells #[encStr x] 9))).kept hg4 (row_ne_low HR3.out hbl) (row_ne_iter hrow2 hrg2)
    go_roundg cnt2
    case measure => exact hlt
    case rel => exact ⟨_, ss ++ [x], hrg3, by simp; omega, by simpa using hown', fun hv' => by have := (hnil4.1 hv').2; omega, hC.step hlk HAt.out, (((hnx.grown hg2 hnx.size (fun j hj => by cases hj; exact hg1.size)).grown HG3.out (by omega) (fun j hj => by cases hj)).alloc (by omega) _).grown hg4 (by simp; omega) (fun j hj => (HR3.out.lt j hj).1)⟩
end Go.Proofs.YtimejkbmfbjomaaGreat
namespace Go.Proofs.YtimejkbmfbjomaaGreat
open Go.ChangeShapes Go.WideShapes Go.ChangeAt Go.RowKit Go.Deep Go.Maps Go.Sort
set_option linter.unusedVariables false
set_option linter.unusedSimpArgs false
theorem ba_of (s : ByteArray) : s = toBA s.data.toList := by simp [toBA]
def hasX (ss : List (List UInt8)) (y : ByteArray) : Bool := ss.any (fun x => decide (y = toBA x))
theorem hasX_snoc (ss : List (List UInt8)) (x : List UInt8) (y : ByteArray) : hasX (ss ++ [x]) y = (hasX ss y || decide (y = toBA x)) := by simp [hasX]
theorem hasX_iff {ss : List (List UInt8)} {y : ByteArray} : hasX ss y = true ↔ y.data.toList ∈ ss := by
 simp only [hasX, List.any_eq_true, decide_eq_true_eq]
 constructor
 ·rintro ⟨x, hx, rfl⟩
  simpa [toBA] using hx
 ·intro h
  exact ⟨_, h, ba_of y⟩
set_option maxHeartbeats 4000000 in
set_option maxRecDepth 100000 in
theorem mapsCopy_any {w : World} {b1 b2 n1 n2 : Nat} {f1 f2 : ByteArray → Bool} (h1 : SetI w b1 n1 f1) (h2 : SetI w b2 n2 f2) (hne : b1 ≠ b2) (hn : n1 + n2 ≤ 1000000000) :
 Calls Tryz.prog 48 #[.map (some b1), .map (some b2)] w fun e w' => e = .returned (.tuple #[]) ∧ SetI w' b1 (n1 + n2) (fun y => f1 y || f2 y) ∧ Moves (fun j => j = b1) w w' := by
 obtain ⟨D0, hown, hf⟩ := h2
 have hbl := hown.lt
 have hb1 := h1.lt
 have hsn := hown.size_le
 have HF := Lib.hid hf
 have HOwn := Lib.hid hown
 have H1 := Lib.hid h1
 have HNe := Lib.hid hne
 clear hf h1 hne
 go_enter Tryz.func48, Tryz.ntmps48
 go_wp2_with (at_range; refine wpList_range_own _ rfl _ 73 rfl 9 4 lawS und_t _ b2 n2 _ rfl hown ?_; intro w0 hrg0 hg0 hs0)
 go_frame
 go_loopg [] (Maps.size D0) (fun kk wr => ∃ (left : Lit → Bool) (ss : List (List UInt8)), wr.ranges Tryz.prog 9 (plainElem Tryz.prog 4) b2 w.heap.size n2 D0 left kk ∧ ss.length + kk ≤ Maps.size D0 ∧
   Collected D0 left ss ∧ SetI wr b1 (n1 + ss.length) (fun y => f1 y || hasX ss y) ∧ Moves (fun j => j = b1) w wr)
 case atStart =>
  exact ⟨_, [], hrg0, by simp, Collected.start D0, (H1.out.kept hg0 (by simp)).eq (fun s _ => by simp [hasX]), ⟨hg0.os, hg0.tape, hg0.output, hg0.size, fun k hk _ => hg0.block k hk (by simp)⟩⟩
 case round =>
  obtain ⟨left, ss, hrg, hcs, hC, hS, hM⟩ := hrel
  go_wp2_with (at_next; refine wpList_next_ranges _ rfl _ rfl 9 lawS (plainElem Tryz.prog 4) encStr (Value.bool) (fun key kl hk => by obtain ⟨x, hx, _⟩ := Maps.keyOf_str und_s hk; exact ⟨x, hx⟩) (fun v y hv => plainB_is hv) b2 w.heap.size n2 _ _ _ rfl hrg ?_ ?_)
  ·intro hc0 hl0
   have HL0 := Lib.hid hl0
   clear hl0
   go_wp2_with fail
   go_end0
   refine ⟨rfl, (hS.mono (by omega)).eq (fun s hs => ?_), hM⟩
   have : hasX ss s = f2 s := by
    rw [Bool.eq_iff_iff, hasX_iff, hC.2, ← (HF.out s hs).2]
    exact ⟨fun h => h.1, fun h => ⟨h, HL0.out _⟩⟩
   rw [this]
  ·intro x
   refine ⟨?_, ?_⟩
   ·intro kl yd yp w2 cnt2 hkey hlk hv hat hrg2 hlt hg2 hs2 hen
    obtain ⟨x', ex, rfl, hxl⟩ := Maps.keyOf_str und_s hkey
    obtain rfl : x = x' := encStr_inj ex
    have hx := (((hC.step hlk hat).2 x).1 (List.mem_append_right _ (List.mem_singleton.2 rfl))).1
    have h3 := HF.out (toBA x) (by rw [ba_size]; exact hxl)
    rw [kS_ba, hx, hat] at h3
    exfalso
    have h4 := (plainElem_bool (H := Unit) und_b false).symm.trans hv
    have h5 : yd = .lit (.bool false) := by injection h4 with h4; exact (congrArg Prod.fst h4).symm
    rw [h5] at h3
    obtain ⟨h6, h7⟩ := h3
    rw [← h7] at h6
    cases h6
   ·intro kl yd yp w2 cnt2 hkey hlk hv hat hrg2 hlt hg2 hs2 hen
    obtain ⟨x', ex, rfl, hxl⟩ := Maps.keyOf_str und_s hkey
    obtain rfl : x = x' := encStr_inj ex
    have HAt := Lib.hid hat
    have hir : some b1 ≠ some w.heap.size := fun e => by injection e with e; omega
    have HS2 := Lib.hid (hS.kept hg2 hir)
    have hnk : n1 + ss.length < maxLen := by unfold maxLen; omega
    have hsz : (toBA x).size ≤ maxLen := by rw [ba_size]; exact hxl
    clear hs2 hat
    go_wp2_with (at_mapUpdate; refine wpList_setPut rfl _ _ _ 73 rfl und_t b1 (n1 + ss.length) (fun y => f1 y || hasX ss y) rfl HS2.out hnk (toBA x) hsz rfl rfl ?_; intro w3 hs3 hg3)
    have hrg3 := hrg2.kept hg3 (fun e => by injection e with e; exact HNe.out e.symm) (fun e => by injection e with e; omega)
    go_roundg cnt2
    case measure => exact hlt
    case rel => exact ⟨_, ss ++ [x], hrg3, by simp; omega, hC.step hlk HAt.out, (hs3.mono (by simp; omega)).eq (fun s _ => by rw [hasX_snoc, Bool.or_assoc]), (hM.trans (own' := fun j => j = w.heap.size) ⟨hg2.os, hg2.tape, hg2.output, hg2.size, fun k hk hn => hg2.block k hk (fun e => hn (by injection e))⟩ (fun j hj => .inl (by omega))).trans (moves_map hg3) (fun j hj => .inr hj)⟩
set_option maxHeartbeats 2000000 in
set_option maxRecDepth 100000 in
theorem both_any {w w0 : World} {Q : Nat → Prop} {b n : Nat} {f : ByteArray → Bool} {l : List ByteArray} {v : Value} (h : SetI w b n f) (hl : TextsI w0 Q l v) (hI : In Q w0 w) (hn : l.length ≤ 1000000000) :
 Calls Tryz.prog 50 #[.map (some b), v] w fun e w' => ∃ b2, e = .returned (.map (some b2)) ∧ w.heap.size ≤ b2 ∧ SetI w' b2 l.length (fun y => l.any (isT y) && f y) ∧ Below w.heap.size w w' := by
 obtain ⟨A, cap, rfl, hl1, hl2⟩ := hl.shape
 have HL := Lib.hid hl
 have HI := Lib.hid hI
 have H := Lib.hid h
 clear hl hI h
 have hmm := @run_makeMap Tryz.prog
 go_enter Tryz.func50, Tryz.ntmps50
 go_upto_region 2 with fail
 clear hmm
 have HS0 := Lib.hid (SetI.made w)
 have HB0 : Hid (Below w.heap.size w (w.alloc (.map #[] 0))) := Lib.hid (below_box _)
 generalize World.alloc _ _ = V at HS0 HB0 ⊢
 go_wp2_with fail
 go_loopg [11] l.length (fun kk i wr => ∃ k : Nat, k + kk = l.length ∧ i = .int .i64 k ∧ Hid (SetI wr w.heap.size k (fun y => (l.take k).any (isT y) && f y)) ∧ Hid (Below w.heap.size w wr))
 case atStart => exact ⟨0, by omega, rfl, Lib.hid (HS0.out.eq (fun s _ => by simp)), HB0⟩
 case round =>
  obtain ⟨k, hk, rfl, HS, HB⟩ := hrel
  by_cases hlt : k < l.length
  ·obtain ⟨a, rfl, _, p1, hs⟩ := text_at HL.out (HI.out.on HB.out) hlt
   have hsz : l[k].size ≤ maxLen := hs
   have hnk : k < maxLen := by unfold maxLen; omega
   have hlk := (H.out.below HB.out H.out.lt).look und_t l[k] hsz
   have HT : Hid (∀ y, (l.take (k + 1)).any (isT y) = ((l.take k).any (isT y) || decide (y = l[k]))) := Lib.hid (fun y => by rw [List.take_succ_eq_append_getElem hlt, List.any_append]; simp [isT])
   generalize l[k] = t at p1 hs hsz hlk HT
   cases hft : f t with
   | true =>
    rw [hft] at hlk
    have HFt := Lib.hid hft
    clear hft
    go_wp2_with (at_mapUpdate; refine wpList_setPut rfl _ _ _ 73 rfl und_t w.heap.size k (fun y => (l.take k).any (isT y) && f y) rfl HS.out hnk t hsz rfl rfl ?_; intro w1 hs1 hg1; have HS1 := Lib.hid hs1; have HG1 := Lib.hid hg1; clear hs1 hg1)
    go_roundg (l.length - k - 1)
    case measure => omega
    case rel => exact ⟨k + 1, by omega, by go_num, Lib.hid (HS1.out.eq (fun s _ => by
      rw [HT.out]
      by_cases e : s = t
      ·subst e; simp [HFt.out]
      ·simp [e])), Lib.hid (HB.out.grown HG1.out HB.out.size (fun j hj => by cases hj; exact Nat.le_refl _))⟩
   | false =>
    rw [hft] at hlk
    have HFt := Lib.hid hft
    clear hft
    go_wp2_with fail
    go_roundg (l.length - k - 1)
    case measure => omega
    case rel => exact ⟨k + 1, by omega, by go_num, Lib.hid ((HS.out.mono (by omega)).eq (fun s _ => by
      rw [HT.out]
      by_cases e : s = t
      ·subst e; simp [HFt.out]
      ·simp [e])), HB⟩
  ·obtain rfl : k = l.length := by omega
   rw [List.take_length] at HS
   go_wp2_with fail
   go_ret
   exact ⟨w.heap.size, rfl, Nat.le_refl _, HS.out, HB.out⟩
end Go.Proofs.YtimejkbmfbjomaaGreat
namespace Go.Proofs.YtimejkbmfbjomaaGreat
open Go.ChangeShapes Go.WideShapes Go.ChangeAt Go.RowKit Go.Deep
set_option linter.unusedVariables false
set_option linter.unusedSimpArgs false
set_option maxHeartbeats 4000000 in
set_option maxRecDepth 100000 in
theorem add_any {w W : World} {Q : Nat → Prop} {e : E} {c0 c1 c2 c3 : Value} {b : Nat} {l0 : List ByteArray} (hx : ExprI w Q e [c0, c1, c2, c3]) (hI : In Q w W) (h : SetI W b l0.length (setF l0)) (hn : l0.length + (namesE e).length ≤ 1000000000) :
 Calls Tryz.prog 93 #[.map (some b), .agg #[c0, c1, c2, c3]] W fun r W' => r = .returned (.tuple #[]) ∧ SetI W' b (l0 ++ namesE e).length (setF (l0 ++ namesE e)) ∧ Moves (fun j => j = b) W W' := by
 have HN := Lib.hid (fun V hV => Names_any hx V hV)
 have HNs := Lib.hid (namesE_small hx)
 obtain ⟨o1, n1, s1, A1, l1, k1, hc⟩ := hx.form
 simp only [List.cons.injEq, and_true] at hc
 obtain ⟨rfl, rfl, rfl, rfl⟩ := hc
 have HI := Lib.hid hI
 have H := Lib.hid h
 have hbl := h.lt
 clear hx hI h
 generalize namesE e = nl at HN HNs hn ⊢
 go_enter Tryz.func93, Tryz.ntmps93
 go_upto_region 1 with fail
 have HBx : Hid (Blk (W.alloc (.cells #[.int .i64 o1, .int .i64 n1, .string s1, .slice A1 l1 k1] 46)) W.heap.size 46 #[.int .i64 o1, .int .i64 n1, .string s1, .slice A1 l1 k1]) := Lib.hid (Blk.new _ _ _)
 have HB0 : Hid (Below W.heap.size W (W.alloc (.cells #[.int .i64 o1, .int .i64 n1, .string s1, .slice A1 l1 k1] 46))) := Lib.hid (below_box _)
 generalize World.alloc _ _ = V at HBx HB0 ⊢
 have x0 : V.cell? ⟨W.heap.size, 0, none⟩ = some (.int .i64 o1) := by rw [HBx.out.cell]; rfl
 have x1 : V.cell? ⟨W.heap.size, 1, none⟩ = some (.int .i64 n1) := by rw [HBx.out.cell]; rfl
 have x2 : V.cell? ⟨W.heap.size, 2, none⟩ = some (.string s1) := by rw [HBx.out.cell]; rfl
 have x3 : V.cell? ⟨W.heap.size, 3, none⟩ = some (.slice A1 l1 k1) := by rw [HBx.out.cell]; rfl
 have HI0 := Lib.hid (HI.out.on HB0.out)
 go_wp2_with (go_at_call 116; refine (HN.out V HI0.out).mono ?_; rintro r W1 ⟨v1, rfl, ho1, hb1⟩; obtain ⟨X1, kx, rfl, _, _⟩ := own_shape ho1; have HO1 := Lib.hid ho1; have HB1 := Lib.hid (below_step HB0.out hb1); clear ho1 hb1)
 clear x0 x1 x2 x3 HBx
 have hbV : b < V.heap.size := Nat.lt_of_lt_of_le hbl HB0.out.size
 have HS1 := Lib.hid (H.out.below HB1.out hbl)
 go_loopg [9] nl.length (fun kk i wr => ∃ j : Nat, j + kk = nl.length ∧ i = .int .i64 j ∧ Hid (SetI wr b (l0.length + j) (setF (l0 ++ nl.take j))) ∧ Hid (wr.ownsRow V.heap.size 9 1 (.slice X1 nl.length kx) nl.length (strs nl)) ∧ Hid (Moves (fun j => j = b) W wr))
 case atStart => exact ⟨0, by omega, rfl, Lib.hid (by simpa using HS1.out), HO1, Lib.hid ⟨HB1.out.os, HB1.out.tape, HB1.out.output, HB1.out.size, fun k hk _ => HB1.out.block k hk⟩⟩
 case round =>
  obtain ⟨j, hj, rfl, HS, HO, HM⟩ := hrel
  by_cases hlt : j < nl.length
  ·obtain ⟨g, cap, he, hcl, _, _⟩ := own_at HO.out hlt
   injection he with h1 _ h3
   subst h1 h3
   have pt := hcl (.string nl[j]) (by simp [strs, List.getElem?_map, List.getElem?_eq_getElem hlt])
   have hsz : nl[j].size ≤ maxLen := HNs.out _ (List.getElem_mem hlt)
   have HT : Hid (setF (l0 ++ nl.take (j + 1)) = fun y => setF (l0 ++ nl.take j) y || decide (y = nl[j])) := Lib.hid (by rw [List.take_succ_eq_append_getElem hlt, ← List.append_assoc, setF_snoc])
   have hnk : l0.length + j < maxLen := by unfold maxLen; omega
   generalize nl[j] = t at pt hsz HT
   clear hcl
   go_wp2_with (at_mapUpdate; refine wpList_setPut rfl _ _ _ 73 rfl und_t b (l0.length + j) (setF (l0 ++ nl.take j)) rfl HS.out hnk t hsz rfl rfl ?_; intro w1 hs1 hg1; have HS2 := Lib.hid hs1; have HG1 := Lib.hid hg1; clear hs1 hg1)
   go_roundg (nl.length - j - 1)
   case measure => omega
   case rel => exact ⟨j + 1, by omega, by go_num, Lib.hid (by rw [HT.out]; exact HS2.out), Lib.hid (HO.out.kept HG1.out (Or.inr (row_ne_low HO.out hbV).symm)), Lib.hid (HM.out.trans (moves_map HG1.out) (fun j hj => .inr hj))⟩
  ·obtain rfl : j = nl.length := by omega
   rw [List.take_length, ← List.length_append] at HS
   go_wp2_with fail
   go_end0
   exact ⟨rfl, HS.out, HM.out⟩
/-- the names laid so far into the set at b, by way of the cell at c -/
structure NaI (W0 W : World) (c b : Nat) (l : List ByteArray) : Prop where
 below : Below W0.heap.size W0 W
 set : SetI W b l.length (setF l)
 ptr : Blk W c 73 #[.map (some b)]
theorem NaI.le {W0 W : World} {c b : Nat} {l : List ByteArray} (h : NaI W0 W c b l) : W0.heap.size ≤ W.heap.size := h.below.size
theorem NaI.on {W0 W W' : World} {c b : Nat} {l : List ByteArray} (h : NaI W0 W c b l) (hb : Below W.heap.size W W') : NaI W0 W' c b l := ⟨h.below.trans (hb.mono h.le), h.set.below hb h.set.lt, h.ptr.on_ hb⟩
theorem NaI.moved {W0 W W' : World} {c b : Nat} {l l' : List ByteArray} (h : NaI W0 W c b l) (hb : W0.heap.size ≤ b) (hcb : c ≠ b) (hm : Moves (fun j => j = b) W W') (hs : SetI W' b l'.length (setF l')) : NaI W0 W' c b l' := ⟨h.below.trans (hm.below h.le (fun j hj => by omega)), hs, hm.blk h.ptr hcb⟩
theorem NaI.put {W0 W W' : World} {c b : Nat} {l : List ByteArray} {t : ByteArray} (h : NaI W0 W c b l) (hb : W0.heap.size ≤ b) (hcb : c ≠ b) (hg : W.grownBy W' (some b)) (hs : SetI W' b (l.length + 1) (fun y => setF l y || decide (y = t))) : NaI W0 W' c b (l ++ [t]) := h.moved hb hcb (moves_map hg) (by rw [setF_snoc, List.length_append]; exact hs)
def saidOf (l : List S) : List ByteArray := l.flatMap saidS
theorem saidOf_app (a b : List S) : saidOf (a ++ b) = saidOf a ++ saidOf b := by unfold saidOf; rw [List.flatMap_append]
set_option maxHeartbeats 4000000 in
set_option maxRecDepth 100000 in
theorem varsDo_any {w W0 W : World} {Q : Nat → Prop} {s : S} {cs : List Value} {c b : Nat} {l0 : List ByteArray} (hs : StmtI w Q s cs) (hI : In Q w W0) (h : NaI W0 W c b l0) (hb : W0.heap.size ≤ b) (hcb : c ≠ b) (hn : l0.length + (saidS s).length ≤ 1000000000) :
 Calls Tryz.prog 92 #[.agg cs.toArray, .pointer (some ⟨c, 0, none⟩)] W fun e W' => e = .returned (.tuple #[]) ∧ NaI W0 W' c b (l0 ++ saidS s) ∧ Moves (fun k => k = b) W W' := by
 obtain ⟨id, kind, labels, nm, proc, x, has, args, th, el, L, lc, x0, x1, x2, X, xn, xc, R, rc, T, tc, U, uc, rfl, rfl, hid, hkind, hnm, hproc, hl, hx, ha, hth, hel⟩ := stmt_open hs
 have hV : saidS (.mk id kind labels nm proc x has args th el) = ownV kind nm ++ namesE x ++ args.flatMap saidV := rfl
 rw [hV] at hn ⊢
 simp only [List.length_append] at hn
 have HN : Hid (l0.length + ((ownV kind nm).length + (namesE x).length + (args.flatMap saidV).length) ≤ 1000000000) := Lib.hid hn
 have HX := Lib.hid hx
 have HA := Lib.hid ha
 have HI := Lib.hid hI
 have H := Lib.hid h
 have HB := Lib.hid hb
 have HCB := Lib.hid hcb
 have hbl := h.set.lt
 have hsz : nm.size ≤ maxLen := hnm
 obtain ⟨_, har, hrc, _⟩ := slice_len ha
 clear h hs hb hcb hn hI hV hx ha hth hel hl hid hnm hproc
 unfold i64 at hkind
 go_enter Tryz.func92, Tryz.ntmps92
 go_upto_region 1 with fail
 have HBs : Hid (Blk (W.alloc (.cells #[.int .i64 id, .int .i64 kind, .slice L labels.length lc, .string nm, .string proc, .int .i64 x0, .int .i64 x1, .string x2, .slice X xn xc, .bool has, .slice R args.length rc, .slice T th.length tc, .slice U el.length uc] 49)) W.heap.size 49 #[.int .i64 id, .int .i64 kind, .slice L labels.length lc, .string nm, .string proc, .int .i64 x0, .int .i64 x1, .string x2, .slice X xn xc, .bool has, .slice R args.length rc, .slice T th.length tc, .slice U el.length uc]) := Lib.hid (Blk.new _ _ _)
 have HC0 : Hid (NaI W0 (W.alloc (.cells #[.int .i64 id, .int .i64 kind, .slice L labels.length lc, .string nm, .string proc, .int .i64 x0, .int .i64 x1, .string x2, .slice X xn xc, .bool has, .slice R args.length rc, .slice T th.length tc, .slice U el.length uc] 49)) c b l0) := Lib.hid (H.out.on (below_box _))
 have HM0 : Hid (Moves (fun k => k = b) W (W.alloc (.cells #[.int .i64 id, .int .i64 kind, .slice L labels.length lc, .string nm, .string proc, .int .i64 x0, .int .i64 x1, .string x2, .slice X xn xc, .bool has, .slice R args.length rc, .slice T th.length tc, .slice U el.length uc] 49))) := Lib.hid ((Moves.refl _ _).alloc _)
 have HNb : Hid (¬ W.heap.size = b) := Lib.hid (by omega)
 generalize World.alloc _ _ = V at HBs HC0 HM0 ⊢
 generalize hbse : W.heap.size = bs at HBs HNb ⊢
 clear hbse hbl
 have s1 : V.cell? ⟨bs, 1, none⟩ = some (.int .i64 kind) := by rw [HBs.out.cell]; rfl
 have s3 : V.cell? ⟨bs, 3, none⟩ = some (.string nm) := by rw [HBs.out.cell]; rfl
 have p0 : V.cell? ⟨c, 0, none⟩ = some (.map (some b)) := by rw [HC0.out.ptr.cell]; rfl
 obtain ⟨bb, hbb⟩ : ∃ bb, bb = (!nm.toList.isEmpty && kind != 10) := ⟨_, rfl⟩
 have HK : Hid (ownV kind nm = if bb = true then [nm] else []) := Lib.hid (by rw [hbb]; rfl)
 have Hbb := Lib.hid hbb
 clear hbb
 go_cut [12] from 5 to 11 (fun s wx => s = .bool bb ∧ V = wx)
 case first =>
  cases he : nm.toList.isEmpty with
  | true =>
   have he2 : (nm.toList == []) = true := by simpa using he
   have H2 : Hid (bb = false) := Lib.hid (by rw [Hbb.out, he]; rfl)
   go_wp2_with fail
   go_meet
   exact ⟨by rw [H2.out]; try rfl, rfl⟩
  | false =>
   have he2 : (nm.toList == []) = false := by simpa using he
   have H2 : Hid (bb = (kind != 10)) := Lib.hid (by rw [Hbb.out, he]; rfl)
   go_wp2_with fail
   go_meet
   exact ⟨by rw [H2.out]; try rfl, rfl⟩
 case rest =>
 obtain ⟨rfl, hw⟩ := hcut
 subst hw
 clear s1 Hbb
 go_upto_if 12 with fail
 go_cut [15] from 13 to 14 (fun _s wx => Hid (NaI W0 wx c b (l0 ++ ownV kind nm)) ∧ Hid (Moves (fun j => j = b) V wx))
 case first =>
  cases bb with
  | false =>
   have HK2 : Hid (ownV kind nm = []) := Lib.hid (by rw [HK.out]; rfl)
   go_wp2_with fail
   go_meet
   exact ⟨Lib.hid (by rw [HK2.out, List.append_nil]; exact HC0.out), Lib.hid (Moves.refl _ _)⟩
  | true =>
   have HK2 : Hid (ownV kind nm = [nm]) := Lib.hid (by rw [HK.out]; rfl)
   have hnk : l0.length < maxLen := by have := HN.out; unfold maxLen; omega
   go_wp2_with (at_mapUpdate; refine wpList_setPut rfl _ _ _ 73 rfl und_t b (l0).length (setF (l0)) rfl HC0.out.set hnk nm hsz rfl rfl ?_; intro w1 hs1 hg1; have HS1 := Lib.hid hs1; have HG1 := Lib.hid hg1; clear hs1 hg1)
   go_meet
   exact ⟨Lib.hid (by rw [HK2.out]; exact HC0.out.put HB.out HCB.out HG1.out HS1.out), Lib.hid (moves_map HG1.out)⟩
 case rest =>
  obtain ⟨HC1, HM1⟩ := hcut
  have HBs1 := Lib.hid (HM1.out.blk HBs.out HNb.out)
  have HM1' := Lib.hid (HM0.out.trans HM1.out (fun j hj => .inr hj))
  have HI1 := Lib.hid (HI.out.on HC1.out.below)
  clear s3 p0 HBs HC0 HM0 HM1 HK
  have s5 : wc.cell? ⟨bs, 5, none⟩ = some (.int .i64 x0) := by rw [HBs1.out.cell]; rfl
  have s6 : wc.cell? ⟨bs, 6, none⟩ = some (.int .i64 x1) := by rw [HBs1.out.cell]; rfl
  have s7 : wc.cell? ⟨bs, 7, none⟩ = some (.string x2) := by rw [HBs1.out.cell]; rfl
  have s8 : wc.cell? ⟨bs, 8, none⟩ = some (.slice X xn xc) := by rw [HBs1.out.cell]; rfl
  have p0 : wc.cell? ⟨c, 0, none⟩ = some (.map (some b)) := by rw [HC1.out.ptr.cell]; rfl
  have HAd := Lib.hid (add_any HX.out HI1.out HC1.out.set (by have := HN.out; rw [List.length_append]; omega))
  go_upto_region 4 with (go_at_call 93; refine HAd.out.mono ?_; rintro e w2 ⟨rfl, hs2, hm2⟩)
  have HC2 := Lib.hid (HC1.out.moved HB.out HCB.out hm2 hs2)
  have HM2 := Lib.hid (HM1'.out.trans hm2 (fun j hj => .inr hj))
  have HBs2 := Lib.hid (hm2.blk HBs1.out HNb.out)
  have HN2 : Hid ((l0 ++ ownV kind nm ++ namesE x).length + (args.flatMap saidV).length ≤ 1000000000) := Lib.hid (by have := HN.out; simp only [List.length_append]; omega)
  have HLe : Hid (l0 ++ (ownV kind nm ++ namesE x ++ args.flatMap saidV) = (l0 ++ ownV kind nm ++ namesE x) ++ args.flatMap saidV) := Lib.hid (by simp only [List.append_assoc])
  generalize l0 ++ ownV kind nm ++ namesE x = l1 at HC2 HN2 HLe
  clear s5 s6 s7 s8 p0 hs2 hm2 HC1 HI1 HM1' HBs1 HAd HN HX
  have s10 : w2.cell? ⟨bs, 10, none⟩ = some (.slice R args.length rc) := by rw [HBs2.out.cell]; rfl
  go_upto_region 5 with fail
  go_loopg [23] args.length (fun kk i wr => ∃ k : Nat, k + kk = args.length ∧ i = .int .i64 k ∧ Hid (NaI W0 wr c b (l1 ++ (args.take k).flatMap saidV)) ∧ Hid (Moves (fun j => j = b) W wr))
  case atStart => exact ⟨0, by omega, rfl, Lib.hid (by simpa using HC2.out), HM2⟩
  case round =>
   obtain ⟨k, hk, rfl, HC, HM⟩ := hrel
   by_cases hlt : k < args.length
   ·have HIr := Lib.hid (HI.out.on HC.out.below)
    obtain ⟨a, o1, n1, s1, A1, al, ac, rfl, hqa, ⟨z0, z1, z2, z3, z4, z5, _⟩, hanm, hax⟩ := arg_at HA.out HIr.out hlt
    have HAx := Lib.hid hax
    have HT : Hid (l1 ++ (args.take (k + 1)).flatMap saidV = l1 ++ (args.take k).flatMap saidV ++ ((if args[k].ref = true then [args[k].nm] else []) ++ namesE args[k].x)) := Lib.hid (by rw [List.take_succ_eq_append_getElem hlt, List.flatMap_append, ← List.append_assoc]; simp [saidV])
    have HNk : Hid ((l1 ++ (args.take k).flatMap saidV).length + (((if args[k].ref = true then [args[k].nm] else []) ++ namesE args[k].x)).length ≤ 1000000000) := Lib.hid (by
     rw [← List.length_append, ← HT.out]
     refine Nat.le_trans ?_ HN2.out
     rw [List.length_append]
     have : ((args.take (k + 1)).flatMap saidV).length ≤ (args.flatMap saidV).length := by
      conv => rhs; rw [← List.take_append_drop (k + 1) args, List.flatMap_append, List.length_append]
      omega
     omega)
    have hasz : args[k].nm.size ≤ maxLen := hanm
    generalize l1 ++ (args.take k).flatMap saidV = lk at HC HT HNk
    generalize args[k] = ax at z0 z1 HT HNk HAx hasz
    obtain ⟨ar, anm, axx⟩ := ax
    simp only at z0 z1 HT HNk HAx hasz
    obtain ⟨rp, hrp⟩ : ∃ rp : List ByteArray, rp = if ar = true then [anm] else [] := ⟨_, rfl⟩
    rw [← hrp] at HT HNk
    have HRp := Lib.hid hrp
    clear hrp hqa hanm hax
    go_upto_region 7 with fail
    have HBi : Hid (Blk (wr.alloc (.cells #[.bool ar, .string anm, .int .i64 o1, .int .i64 n1, .string s1, .slice A1 al ac] 61)) wr.heap.size 61 #[.bool ar, .string anm, .int .i64 o1, .int .i64 n1, .string s1, .slice A1 al ac]) := Lib.hid (Blk.new _ _ _)
    have HC3 : Hid (NaI W0 (wr.alloc (.cells #[.bool ar, .string anm, .int .i64 o1, .int .i64 n1, .string s1, .slice A1 al ac] 61)) c b lk) := Lib.hid (HC.out.on (below_box _))
    have HM3 : Hid (Moves (fun j => j = b) W (wr.alloc (.cells #[.bool ar, .string anm, .int .i64 o1, .int .i64 n1, .string s1, .slice A1 al ac] 61))) := Lib.hid (HM.out.alloc _)
    have HNi : Hid (¬ wr.heap.size = b) := Lib.hid (fun e => by have := HC.out.set.lt; omega)
    clear z0 z1 z2 z3 z4 z5 HC HM HIr
    generalize World.alloc wr _ = V6 at HBi HC3 HM3 ⊢
    generalize wr.heap.size = bi at HBi HNi ⊢
    have z0 : V6.cell? ⟨bi, 0, none⟩ = some (.bool ar) := by rw [HBi.out.cell]; rfl
    have z1 : V6.cell? ⟨bi, 1, none⟩ = some (.string anm) := by rw [HBi.out.cell]; rfl
    have p0 : V6.cell? ⟨c, 0, none⟩ = some (.map (some b)) := by rw [HC3.out.ptr.cell]; rfl
    go_upto_if 28 with fail
    go_cut [31] from 29 to 30 (fun _s wx => Hid (NaI W0 wx c b (lk ++ rp)) ∧ Hid (Moves (fun j => j = b) V6 wx))
    case first =>
     cases ar with
     | false =>
      have HK2 : Hid (rp = []) := Lib.hid (by rw [HRp.out]; rfl)
      go_wp2_with fail
      go_meet
      exact ⟨Lib.hid (by rw [HK2.out, List.append_nil]; exact HC3.out), Lib.hid (Moves.refl _ _)⟩
     | true =>
      have HK2 : Hid (rp = [anm]) := Lib.hid (by rw [HRp.out]; rfl)
      have hnk : lk.length < maxLen := by have := HNk.out; unfold maxLen; omega
      go_wp2_with (at_mapUpdate; refine wpList_setPut rfl _ _ _ 73 rfl und_t b (lk).length (setF (lk)) rfl HC3.out.set hnk anm hasz rfl rfl ?_; intro w1 hs1 hg1; have HS1 := Lib.hid hs1; have HG1 := Lib.hid hg1; clear hs1 hg1)
      go_meet
      exact ⟨Lib.hid (by rw [HK2.out]; exact HC3.out.put HB.out HCB.out HG1.out HS1.out), Lib.hid (moves_map HG1.out)⟩
    case rest =>
     obtain ⟨HC4, HM4⟩ := hcut
     have HBi4 := Lib.hid (HM4.out.blk HBi.out HNi.out)
     have HM4' := Lib.hid (HM3.out.trans HM4.out (fun j hj => .inr hj))
     have HI4 := Lib.hid (HI.out.on HC4.out.below)
     clear z0 z1 p0 HBi HC3 HM3 HM4
     have z2 : wc.cell? ⟨bi, 2, none⟩ = some (.int .i64 o1) := by rw [HBi4.out.cell]; rfl
     have z3 : wc.cell? ⟨bi, 3, none⟩ = some (.int .i64 n1) := by rw [HBi4.out.cell]; rfl
     have z4 : wc.cell? ⟨bi, 4, none⟩ = some (.string s1) := by rw [HBi4.out.cell]; rfl
     have z5 : wc.cell? ⟨bi, 5, none⟩ = some (.slice A1 al ac) := by rw [HBi4.out.cell]; rfl
     have p0 : wc.cell? ⟨c, 0, none⟩ = some (.map (some b)) := by rw [HC4.out.ptr.cell]; rfl
     have HAd := Lib.hid (add_any HAx.out HI4.out HC4.out.set (by have := HNk.out; rw [List.length_append] at this ⊢; omega))
     go_wp2_with (go_at_call 93; refine HAd.out.mono ?_; rintro e w5 ⟨rfl, hs5, hm5⟩; have HC5 := Lib.hid (HC4.out.moved HB.out HCB.out hm5 hs5); have HM5 := Lib.hid (HM4'.out.trans hm5 (fun j hj => .inr hj)); clear hs5 hm5)
     go_roundg (args.length - k - 1)
     case measure => omega
     case rel => exact ⟨k + 1, by omega, by go_num, Lib.hid (by rw [HT.out, ← List.append_assoc]; exact HC5.out), HM5⟩
   ·obtain rfl : k = args.length := by omega
    rw [List.take_length] at HC
    go_wp2_with fail
    go_end0
    exact ⟨rfl, by rw [HLe.out]; exact HC.out, HM.out⟩
end Go.Proofs.YtimejkbmfbjomaaGreat
