/- The walk of LexOwn. -/
import Derived.Test.YtcncbdnnakfgcaaLexAllW
namespace Go.Proofs.Ytcncbdnnakfgcaa
open Go.ChangeShapes Go.WideShapes Go.ChangeAt Go.RowKit
set_option linter.unusedVariables false

/-- the loop's memory: block g holds n tokens of the call's own, block f the fault -/
structure So (w wr : World) (g n f : Nat) (c a : Int) : Prop where
  below : Below w.heap.size w wr
  mine : w.heap.size ≤ g
  apart : g < f
  row : ∃ cs : Array Value, n * 4 ≤ cs.size ∧ Blk wr g 33 cs
  fault : Blk wr f 27 #[.int .i64 c, .int .i64 a]
theorem So.cell {w wr : World} {g n f : Nat} {c a : Int} (h : So w wr g n f c a) {j : Nat} (hj : j < n * 4) : ∃ u, wr.cell? ⟨g, j, none⟩ = some u := by
  obtain ⟨cs, h1, h2⟩ := h.row
  exact ⟨cs[j], by rw [h2.cell j]; exact Array.getElem?_eq_getElem (by omega)⟩
theorem So.frozen {w wr : World} {g n f : Nat} {c a : Int} (h : So w wr g n f c a) (j : Nat) : wr.frozen? ⟨g, j, none⟩ = false := by
  obtain ⟨cs, h1, h2⟩ := h.row
  exact h2.frozen j
theorem So.put {w wr : World} {g n f : Nat} {c a : Int} (h : So w wr g n f c a) (j : Nat) (u : Value) : So w (wr.setCell ⟨g, j, none⟩ u) g n f c a := by
  obtain ⟨h1, h2, h3, ⟨cs, h4, h5⟩, h6⟩ := h
  exact ⟨h1.setCell h2 u, h2, h3, ⟨_, by rw [Array.size_setIfInBounds]; exact h4, h5.set_ j u⟩, h6.far (by simp; omega) u⟩

theorem rt_n {w : World} {b n : Nat} {A : Option Addr} {cap : Nat} {ts : List (Tok × Nat)} (hn : n = ts.length) (h : w.ownsRow b 33 4 (.slice A n cap) n (cellsT ts)) : RT w A n ts := by
  subst hn
  exact RT.of_own h
set_option maxHeartbeats 4000000 in
theorem lexOwn_walk (s : ByteArray) (hs : s.size ≤ maxLen) (w : World) : Calls Try.prog 14 #[.string s] w fun e w' => e = .returned (.bool true) ∧ Below w.heap.size w w' := by
  obtain ⟨x, hx⟩ : ∃ x, x = s.extract 0 (min s.size 100100) := ⟨_, rfl⟩
  have hxs : x.size ≤ 100100 := by rw [hx, ByteArray.size_extract]; omega
  have hcut : ∀ W, Calls Try.prog 17 #[.string s] W fun e w' => e = .returned (.string x) ∧ W = w' := by rw [hx]; exact fun W => Cut_any s W hs
  have HCut := Lib.hid hcut
  clear hcut hx
  obtain ⟨R, hA, hL, hq, hd⟩ := told x hxs
  have hlen := toks_len hd
  have HA := Lib.hid hA
  have HL := Lib.hid hL
  have HQ := Lib.hid (shifted_self _ hq)
  obtain ⟨n, hn⟩ : ∃ n, n = R.toks.length := ⟨_, rfl⟩
  have HN := Lib.hid hn
  have hn2 : n ≤ 2001 := by omega
  clear hA hL hq hd hn hlen
  have HA1 : Hid (∀ W, Calls Try.prog 18 #[.string x] W fun e w' => ∃ A cap, e = .returned (.tuple #[.slice A n cap, .agg #[.int .i64 R.code, .int .i64 R.fat]]) ∧
    w'.ownsRow W.heap.size 33 4 (.slice A n cap) n (cellsT R.toks) ∧ Below W.heap.size W w') := Lib.hid (by rw [HN.out]; exact HA.out)
  have HL1 : Hid (∀ W, Calls Try.prog 19 #[.string x] W fun e w' => ∃ A cap, e = .returned (.tuple #[.slice A n cap, .agg #[.int .i64 R.code, .int .i64 R.fat]]) ∧
    w'.ownsRow W.heap.size 33 4 (.slice A n cap) n (cellsT R.toks) ∧ Below W.heap.size W w') := Lib.hid (by rw [HN.out]; exact HL.out)
  clear HA HL
  go_enter Try.func14, Try.ntmps14
  go_wp2_with (first
    | (go_at_call 16; refine (lexed_any _).mono ?_; rintro e w0 ⟨rfl, hb⟩; have HB0 := Lib.hid hb; clear hb)
    | (go_at_call 17; refine (HCut.out _).mono ?_; rintro e w' ⟨rfl, rfl⟩)
    | (go_at_call 18; refine (HA1.out _).mono ?_; rintro e w1 ⟨A, cap, rfl, hown, hb⟩; have HB1 := Lib.hid hb; have HO := Lib.hid hown; have hz1 := hb.size; clear hb hown))
  have HSo : Hid (0 < n → ∃ g, A = some ⟨g, 0, none⟩ ∧ So w (w1.alloc (.cells #[.int .i64 R.code, .int .i64 R.fat] 27)) g n w1.heap.size R.code R.fat) := Lib.hid (fun h0 => by
    rcases HO.out.2 with ⟨_, h1⟩ | ⟨g, cap', cur, hv, hbase, hg, hnc, _, hsz, _⟩
    · omega
    · injection hv with hA
      refine ⟨g, hA, (below_then HB0.out HB1.out).alloc (below_then HB0.out HB1.out).size _, Nat.le_trans HB0.out.size hbase, (Array.getElem?_eq_some_iff.1 hg).1, ⟨cur, by rw [hsz]; exact Nat.mul_le_mul_right 4 hnc, ?_⟩, Blk.new _ _ _⟩
      exact Blk.alloc (show Blk w1 g _ cur from hg) _)
  have HE : Hid (Below w.heap.size w (w1.alloc (.cells #[.int .i64 R.code, .int .i64 R.fat] 27)) ∧ Blk (w1.alloc (.cells #[.int .i64 R.code, .int .i64 R.fat] 27)) w1.heap.size 27 #[.int .i64 R.code, .int .i64 R.fat]) :=
    Lib.hid ⟨(below_then HB0.out HB1.out).alloc (below_then HB0.out HB1.out).size _, Blk.new _ _ _⟩
  go_loopw [5, 21] (fun _ i wr => ∃ k : Nat, k ≤ n ∧ i = .int .i64 k ∧ Hid (Below w.heap.size w wr ∧ Blk wr w1.heap.size 27 #[.int .i64 R.code, .int .i64 R.fat] ∧ (0 < n → ∃ g, A = some ⟨g, 0, none⟩ ∧ So w wr g n w1.heap.size R.code R.fat))) (fun _ i _ => n - (intOf i).toNat)
  case atStart => exact ⟨0, Nat.zero_le _, rfl, Lib.hid ⟨HE.out.1, HE.out.2, HSo.out⟩⟩
  case round =>
    obtain ⟨k, hk, rfl, HI⟩ := hrel
    by_cases hlt : k < n
    · obtain ⟨g, rfl, hso⟩ := HI.out.2.2 (by omega)
      obtain ⟨u0, p0⟩ := hso.cell (j := k * 4) (by omega)
      obtain ⟨u1, p1⟩ := hso.cell (j := k * 4 + 1) (by omega)
      obtain ⟨u2, p2⟩ := hso.cell (j := k * 4 + 2) (by omega)
      obtain ⟨u3, p3⟩ := hso.cell (j := k * 4 + 3) (by omega)
      have f0 := hso.frozen (k * 4)
      have f1 := hso.frozen (k * 4 + 1)
      have f2 := hso.frozen (k * 4 + 2)
      have f3 := hso.frozen (k * 4 + 3)
      have HSO := Lib.hid hso
      clear hso
      go_wp2_with fail
      go_roundw
      case rel =>
        have h4 := (((HSO.out.put (k * 4) (.int .i64 9)).put (k * 4 + 1) (.string ⟨#[120]⟩)).put (k * 4 + 2) (.int .i64 7)).put (k * 4 + 3) (.int .i64 (-1))
        exact ⟨k + 1, by omega, by go_num, Lib.hid ⟨h4.below, h4.fault, fun _ => ⟨g, rfl, h4⟩⟩⟩
      case measure => simp [intOf]; omega
    · have hfl := HI.out.2.1.lt
      have q0 : wr.cell? ⟨w1.heap.size, 0, none⟩ = some (.int .i64 R.code) := HI.out.2.1.cell 0
      have q1 : wr.cell? ⟨w1.heap.size, 1, none⟩ = some (.int .i64 R.fat) := HI.out.2.1.cell 1
      go_wp2_with (first
        | (go_at_call 18; refine (HA1.out _).mono ?_; rintro e w2 ⟨A2, cap2, rfl, hown, hb⟩; have HB2 := Lib.hid hb; have HT2 := Lib.hid (rt_n HN.out hown); have hz2 := hb.size; have l2 : w1.heap.size < w2.heap.size := (by omega); have l2' : w1.heap.size ≤ w2.heap.size := (by omega); have r0 : w2.cell? ⟨w1.heap.size, 0, none⟩ = some (.int .i64 R.code) := (hb.cell (p := ⟨w1.heap.size, 0, none⟩) hfl).trans q0; have r1 : w2.cell? ⟨w1.heap.size, 1, none⟩ = some (.int .i64 R.fat) := (hb.cell (p := ⟨w1.heap.size, 1, none⟩) hfl).trans q1; clear hb hown)
        | (go_at_call 19; refine (HL1.out _).mono ?_; rintro e w3 ⟨A3, cap3, rfl, hown, hb⟩; have HB3 := Lib.hid hb; have HT3 := Lib.hid (rt_n HN.out hown); have hz3 := hb.size; rw [size_alloc1] at hz3; have l3 : w1.heap.size < w3.heap.size := (by omega); have l32 : w2.heap.size < w3.heap.size := (by omega); obtain ⟨hc3, hf3⟩ := bcell hb; clear hb hown)
        | (go_at_call 20; refine (same_true A2 A3 n cap2 cap3 R.toks R.toks 0 _ (by omega) (HT2.out.below ((below_new HB3.out).alloc (below_new HB3.out).size _)) (HT3.out.below ((Below.refl _ _).alloc (Nat.le_refl _) _)) HQ.out).mono ?_; rintro e w4 ⟨rfl, kk, rfl⟩))
      go_ret
      exact ⟨rfl, drew_below ((below_then (below_then HI.out.1 HB2.out) (below_new HB3.out)).alloc (below_then (below_then HI.out.1 HB2.out) (below_new HB3.out)).size _) kk⟩
end Go.Proofs.Ytcncbdnnakfgcaa
