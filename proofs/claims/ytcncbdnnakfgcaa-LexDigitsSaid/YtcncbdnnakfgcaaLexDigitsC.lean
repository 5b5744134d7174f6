/- The contracts of whittlerref3.digits and Dec: a number's digits. -/
import Derived.Test.YtcncbdnnakfgcaaLexAheadW
import Derived.Laws.IdiomStrings
import Derived.Deep.RegionWith
namespace Go.Proofs.Ytcncbdnnakfgcaa
open Go.ChangeShapes Go.WideShapes Go.ChangeAt Go.RowKit
set_option linter.unusedVariables false

def dg (n : Nat) : UInt8 := UInt8.ofNat (48 + n % 10)
def dec (n : Nat) : Bs := if h : n < 10 then [dg n] else dec (n / 10) ++ [dg n]
theorem dec_lt {n : Nat} (h : n < 10) : dec n = [dg n] := by rw [dec]; simp [h]
theorem dec_ge {n : Nat} (h : ¬ n < 10) : dec n = dec (n / 10) ++ [dg n] := by rw [dec]; simp [h]
theorem dg_toNat (n : Nat) : (dg n).toNat = 48 + n % 10 := by
  unfold dg
  rw [UInt8.toNat_ofNat']
  omega
theorem conv_one (W : World) (a : Addr) (n : Nat) (h : W.cell? a = some (.int .u8 ((48 + n % 10 : Nat) : Int))) :
    (convert 54 9 (.slice (some a) 1 1)).run Try.prog W = .ok (.string (bs [dg n])) W := by
  have := run_convert_bytes_back (P := Try.prog) W 54 9 5 a 1 [dg n] Try.underlying54 Try.underlying5 Try.underlying9 (by
    intro j hj
    have hj0 : j = 0 := by simp at hj; omega
    subst hj0
    have ha : a.add 0 = a := by simp [Addr.add]
    rw [ha, h]
    simp [dg_toNat])
  exact this

set_option maxHeartbeats 4000000 in
theorem digits_small (n : Nat) (h : n < 10) (w : World) : Calls Try.prog 37 #[.int .u64 n] w fun e w' => e = .returned (.string (bs (dec n))) ∧ Below w.heap.size w w' := by
  rw [dec_lt h]
  have kc := conv_one (w.alloc (.cells #[.int .u8 (48 + (n : Int))] 5)) ⟨w.heap.size, 0, none⟩ n (by rw [(Blk.new w 5 #[.int .u8 (48 + (n : Int))]).cell 0]; rw [Nat.mod_eq_of_lt h]; rfl)
  go_enter Try.func37, Try.ntmps37
  go_wp2
  go_ret
  exact ⟨rfl, (Below.refl _ _).alloc (Nat.le_refl _) _⟩
theorem dec_len (n : Nat) : (dec n).length ≤ n + 1 := by
  induction n using Nat.strongRecOn with
  | _ n ih =>
    by_cases h : n < 10
    · rw [dec_lt h]; simp
    · rw [dec_ge h, List.length_append]
      have := ih (n / 10) (by omega)
      simp
      omega
theorem below_drew {w w' : World} (h : Below w.heap.size w.drew w') : Below w.heap.size w w' := ⟨h.os, h.tape, h.output, h.size, h.block⟩
theorem below_drew2 {w w' : World} {o : Obj} (h : Below (w.alloc o).drew.heap.size (w.alloc o).drew w') : Below w.heap.size w w' := by
  have h1 : Below w.heap.size (w.alloc o) w' := ⟨h.os, h.tape, h.output, h.size, fun k hk => h.block k (by show k < (w.alloc o).heap.size; rw [size_alloc1]; omega)⟩
  exact ((Below.refl _ w).alloc (Nat.le_refl _) o).trans h1
theorem bs_app2 (a b : Bs) : bs a ++ bs b = bs (a ++ b) := by rw [← bs_bl (bs a ++ bs b), bl_append, bl_bs, bl_bs]
set_option maxHeartbeats 400000 in
theorem digits_any (n : Nat) : n < 18446744073709551616 → (dec n).length ≤ 100 → ∀ w : World, Calls Try.prog 37 #[.int .u64 n] w fun e w' => e = .returned (.string (bs (dec n))) ∧ Below w.heap.size w w' := by
  induction n using Nat.strongRecOn with
  | _ n ih =>
    intro hn hl w
    by_cases h : n < 10
    · exact digits_small n h w
    · have hdl : (dec (n / 10)).length ≤ 100 := by rw [dec_ge h, List.length_append] at hl; omega
      have IH := Lib.hid (ih (n / 10) (by omega) (by omega) hdl)
      have HD := Lib.hid (dec_ge h)
      have hs : (bs (dec (n / 10))).size ≤ 100 := by rw [size_bl, bl_bs]; exact hdl
      have hs1 : (bs [dg n]).size ≤ 10 := by rw [size_bl, bl_bs]; simp
      obtain ⟨q, hq⟩ : ∃ q, q = n / 10 := ⟨_, rfl⟩
      obtain ⟨r, hr⟩ : ∃ r, r = n % 10 := ⟨_, rfl⟩
      obtain ⟨c, hc⟩ : ∃ c, c = 48 + n % 10 := ⟨_, rfl⟩
      have e1 : IntKind.u64.wrap ((n : Int) / 10) = (q : Int) := by rw [show (n : Int) / 10 = (q : Int) by omega]; exact Int.emod_eq_of_lt (by omega) (by show (q : Int) < 18446744073709551616; omega)
      have e2 : (n : Int).tmod 10 = (r : Int) := by rw [Int.tmod_eq_emod_of_nonneg (by omega)]; omega
      have e3 : IntKind.u64.wrap (48 + (r : Int)) = (c : Int) := by rw [show 48 + (r : Int) = (c : Int) by omega]; exact Int.emod_eq_of_lt (by omega) (by show (c : Int) < 18446744073709551616; omega)
      have e4 : IntKind.u8.wrap (c : Int) = (c : Int) := Int.emod_eq_of_lt (by omega) (by show (c : Int) < 256; omega)
      have hcv : ∀ (W : World) (a : Addr), W.cell? a = some (.int .u8 (c : Int)) → (convert 54 9 (.slice (some a) 1 1)).run Try.prog W = .ok (.string (bs [dg n])) W := fun W a h => conv_one W a n (by rw [h, hc])
      rw [← hq] at IH HD hs
      have HQ := Lib.hid hq
      clear ih hq hr hc
      go_enter Try.func37, Try.ntmps37
      go_wp2_with fail
      go_region_with (go_at_call 37; ((with_reducible refine (IH.out _).mono ?_); rintro e w1 ⟨rfl, hb⟩; have HB := Lib.hid hb; obtain ⟨hc1, hf1⟩ := bcell hb; have hz := hb.size; clear hb))
      all_goals
        go_wp2
        go_ret
        refine ⟨ret_str (by rw [HD.out]; exact bs_app2 _ _), ?_⟩
        first | exact below_drew (HB.out.alloc HB.out.size _) | exact below_drew HB.out | exact below_drew2 HB.out | exact below_drew (below_new HB.out)
theorem dec_all (n : Nat) : (dec n).all isDi = true := by
  induction n using Nat.strongRecOn with
  | _ n ih =>
    have hd : isDi (dg n) = true := by simp only [isDi, dg_toNat, Bool.and_eq_true, decide_eq_true_eq]; omega
    by_cases h : n < 10
    · rw [dec_lt h]; simp [hd]
    · rw [dec_ge h, List.all_append, ih (n / 10) (by omega)]; simp [hd]
theorem dec_val (n : Nat) : val (dec n) = n := by
  induction n using Nat.strongRecOn with
  | _ n ih =>
    by_cases h : n < 10
    · rw [dec_lt h]; simp [val, dg_toNat]; omega
    · rw [dec_ge h, val_snoc, ih (n / 10) (by omega), dg_toNat]; omega
theorem dec_head (n : Nat) : ∃ c r, dec n = c :: r ∧ isDi c = true ∧ (c.toNat = 48 → n = 0) := by
  induction n using Nat.strongRecOn with
  | _ n ih =>
    have hd : isDi (dg n) = true := by simp only [isDi, dg_toNat, Bool.and_eq_true, decide_eq_true_eq]; omega
    by_cases h : n < 10
    · exact ⟨dg n, [], dec_lt h, hd, fun e => by rw [dg_toNat] at e; omega⟩
    · obtain ⟨c, r, h1, h2, h3⟩ := ih (n / 10) (by omega)
      exact ⟨c, r ++ [dg n], by rw [dec_ge h, h1]; rfl, h2, fun e => by have := h3 e; omega⟩
theorem dec_short (n : Nat) (h : n ≤ 9223372036854775807) : (dec n).length ≤ 19 := by
  obtain ⟨c, r, h1, h2, h3⟩ := dec_head n
  have hv := dec_val n
  rw [h1] at hv ⊢
  by_cases h0 : c.toNat = 48
  · have := h3 h0
    subst this
    rw [← h1, dec_lt (by omega)]
    simp
  · have hb := di_bounds h2
    by_cases hl : 19 ≤ r.length
    · have := val_big (c := c) (l := r) (by omega) hl
      omega
    · simp; omega
theorem Dec_any (n : Nat) (h : n ≤ 9223372036854775807) (w : World) : Calls Try.prog 27 #[.int .i64 n] w fun e w' => e = .returned (.string (bs (dec n))) ∧ Below w.heap.size w w' := by
  have HD := Lib.hid (digits_any n (by omega) (by have := dec_short n h; omega))
  go_enter Try.func27, Try.ntmps27
  go_wp2_with (go_at_call 37; refine (HD.out _).mono ?_; rintro e w1 ⟨rfl, hb⟩)
  go_ret
  exact ⟨rfl, hb⟩
end Go.Proofs.Ytcncbdnnakfgcaa
