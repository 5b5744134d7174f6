/- Texts, merged by a program; only what is used. -/
import Derived.Test.YtimejkbmfbjomaaGreatKX1
import Derived.Test.YtimejkbmfbjomaaGreatKX2
import Derived.Test.YtimejkbmfbjomaaGreatKX3
import Derived.Test.YtimejkbmfbjomaaGreatKX4
import Derived.Test.YtimejkbmfbjomaaGreatKX5
import Derived.Test.YtimejkbmfbjomaaGreatKX6
import Derived.Test.YtimejkbmfbjomaaGreatKX7
import Derived.Test.YtimejkbmfbjomaaGreatKX8
import Derived.Test.YtimejkbmfbjomaaGreatKX9
import Derived.Test.YtimejkbmfbjomaaGreatKX10
import Derived.Test.YtimejkbmfbjomaaGreatKX11
import Derived.Test.YtimejkbmfbjomaaGreatKX12
import Derived.Test.YtimejkbmfbjomaaGreatKX13
import Derived.Test.YtimejkbmfbjomaaGreatKX14
import Derived.Test.YtimejkbmfbjomaaGreatKX15
import Derived.Test.YtimejkbmfbjomaaGreatKX16
import Derived.Test.YtimejkbmfbjomaaGreatKX17
import Derived.Test.YtimejkbmfbjomaaGreatKX18
import Derived.Test.YtimejkbmfbjomaaGreatKX19
import Derived.Test.YtimejkbmfbjomaaGreatKX20
import Derived.Test.YtimejkbmfbjomaaGreatKX21
import Derived.Test.YtimejkbmfbjomaaGreatKX22
import Derived.Test.YtimejkbmfbjomaaGreatKX23
import Derived.Test.YtimejkbmfbjomaaGreatKX24
namespace Go.Proofs.YtimejkbmfbjomaaGreat
open Go.ChangeShapes Go.WideShapes Go.ChangeAt Go.RowKit Go.Deep
set_option linter.unusedVariables false
set_option linter.unusedSimpArgs false
def ltK (a b : ByteArray) : Bool := decide (a.data.toList < b.data.toList)
/-- the least that is not in out, so far -/
def lst (out : List ByteArray) : Bool × ByteArray → List ByteArray → Bool × ByteArray
 | r, [] => r
 | r, s :: l => lst out (if (!out.any (isT s) && (!r.1 || ltK s r.2)) = true then (true, s) else r) l
def nxtS (l out : List ByteArray) : List ByteArray := if (lst out (false, ⟨#[]⟩) l).1 = true then out ++ [(lst out (false, ⟨#[]⟩) l).2] else out
def srtK (l : List ByteArray) : Nat → List ByteArray
 | 0 => []
 | k + 1 => nxtS l (srtK l k)
def srt (l : List ByteArray) : List ByteArray := srtK l l.length
theorem lst_drop {out l : List ByteArray} {r : Bool × ByteArray} {k : Nat} (h : k < l.length) : lst out r (l.drop k) = lst out (if (!out.any (isT l[k]) && (!r.1 || ltK l[k] r.2)) = true then (true, l[k]) else r) (l.drop (k + 1)) := by
 rw [List.drop_eq_getElem_cons h, lst]
theorem any_isT {l : List ByteArray} {s : ByteArray} : l.any (isT s) = true ↔ s ∈ l := by
 rw [List.any_eq_true]
 constructor
 ·rintro ⟨x, hx, e⟩
  rw [show s = x from of_decide_eq_true e]
  exact hx
 ·intro h
  exact ⟨s, h, by simp [isT]⟩
theorem any_isT0 {l : List ByteArray} {s : ByteArray} : l.any (isT s) = false ↔ s ∉ l := by
 rw [← any_isT]
 simp
def leK (a b : ByteArray) : Prop := a.data.toList ≤ b.data.toList
theorem leK_tr {a b c : ByteArray} (h : leK a b) (k : leK b c) : leK a c := List.le_trans h k
theorem leK_rf (a : ByteArray) : leK a a := List.le_refl _
theorem ltK_le {a b : ByteArray} (h : ltK a b = true) : leK a b := List.le_of_lt (of_decide_eq_true h)
theorem ltK_not {a b : ByteArray} (h : ltK a b = false) : leK b a := List.not_lt.1 (of_decide_eq_false h)
theorem ltK_of {a b : ByteArray} (h : leK a b) (hn : a ≠ b) : ltK a b = true := by
 cases e : ltK a b with
 | true => rfl
 | false =>
  have h2 := List.le_antisymm h (ltK_not e)
  exact absurd (by cases a; cases b; simpa using h2) hn
theorem ltK_ne {a b : ByteArray} (h : ltK a b = true) : a ≠ b := by
 rintro rfl
 exact absurd (of_decide_eq_true h) (List.lt_irrefl _)
/-- what is found so far: of the ones looked at that are not in out the least -/
def LsI (out seen : List ByteArray) (r : Bool × ByteArray) : Prop := (r.1 = false → ∀ s ∈ seen, s ∈ out) ∧ (r.1 = true → r.2 ∈ seen ∧ r.2 ∉ out ∧ ∀ s ∈ seen, s ∉ out → leK r.2 s)
theorem lst_inv {out : List ByteArray} : ∀ (l seen : List ByteArray) (r : Bool × ByteArray), LsI out seen r → LsI out (seen ++ l) (lst out r l)
 | [], seen, r, h => by rw [List.append_nil, lst]; exact h
 | s :: l, seen, r, h => by
  rw [lst, List.append_cons]
  refine lst_inv l (seen ++ [s]) _ ?_
  obtain ⟨h1, h2⟩ := h
  cases ho : out.any (isT s) with
  | true =>
   have hs := any_isT.1 ho
   rw [if_neg (by simp)]
   refine ⟨fun e x hx => ?_, fun e => ⟨List.mem_append_left _ (h2 e).1, (h2 e).2.1, fun x hx hn => ?_⟩⟩
   ·rcases List.mem_append.1 hx with hx | hx
    ·exact h1 e x hx
    ·rw [List.mem_singleton.1 hx]; exact hs
   ·rcases List.mem_append.1 hx with hx | hx
    ·exact (h2 e).2.2 x hx hn
    ·rw [List.mem_singleton.1 hx] at hn; exact absurd hs hn
  | false =>
   have hs := any_isT0.1 ho
   obtain ⟨b, m⟩ := r
   cases b with
   | false =>
    rw [if_pos (by simp)]
    refine ⟨fun e => (by cases e), fun _ => ⟨List.mem_append_right _ (List.mem_singleton.2 rfl), hs, fun x hx hn => ?_⟩⟩
    rcases List.mem_append.1 hx with hx | hx
    ·exact absurd (h1 rfl x hx) hn
    ·rw [List.mem_singleton.1 hx]; exact leK_rf s
   | true =>
    obtain ⟨g1, g2, g3⟩ := h2 rfl
    cases hl : ltK s m with
    | true =>
     rw [if_pos (by simp [hl])]
     refine ⟨fun e => (by cases e), fun _ => ⟨List.mem_append_right _ (List.mem_singleton.2 rfl), hs, fun x hx hn => ?_⟩⟩
     rcases List.mem_append.1 hx with hx | hx
     ·exact leK_tr (ltK_le hl) (g3 x hx hn)
     ·rw [List.mem_singleton.1 hx]; exact leK_rf s
    | false =>
     rw [if_neg (by simp [hl])]
     refine ⟨fun e => (by cases e), fun _ => ⟨List.mem_append_left _ g1, g2, fun x hx hn => ?_⟩⟩
     rcases List.mem_append.1 hx with hx | hx
     ·exact g3 x hx hn
     ·rw [List.mem_singleton.1 hx]; exact ltK_not hl
theorem lst_all (out l : List ByteArray) : LsI out l (lst out (false, ⟨#[]⟩) l) := by
 have h := lst_inv (out := out) l [] (false, ⟨#[]⟩) ⟨fun _ s hs => (by cases hs), fun e => (by cases e)⟩
 rwa [List.nil_append] at h
structure SrI (l out : List ByteArray) : Prop where
 asc : out.Pairwise (fun a b => ltK a b = true)
 sub : ∀ s ∈ out, s ∈ l
 low : ∀ a ∈ out, ∀ s ∈ l, s ∉ out → ltK a s = true
theorem srtK_inv (l : List ByteArray) : ∀ k, SrI l (srtK l k) ∧ ((∃ s ∈ l, s ∉ srtK l k) → (srtK l k).length = k)
 | 0 => ⟨⟨List.Pairwise.nil, fun s hs => (by cases hs), fun a ha => by cases ha⟩, fun _ => rfl⟩
 | k + 1 => by
  obtain ⟨⟨h1, h2, h3⟩, h4⟩ := srtK_inv l k
  have hl := lst_all (srtK l k) l
  show SrI l (nxtS l (srtK l k)) ∧ ((∃ s ∈ l, s ∉ nxtS l (srtK l k)) → (nxtS l (srtK l k)).length = k + 1)
  unfold nxtS
  generalize lst (srtK l k) (false, ⟨#[]⟩) l = r at hl ⊢
  generalize srtK l k = out at *
  obtain ⟨b, m⟩ := r
  cases b with
  | false =>
   rw [if_neg (by simp)]
   refine ⟨⟨h1, h2, h3⟩, fun ⟨s, hs, hn⟩ => absurd (hl.1 rfl s hs) hn⟩
  | true =>
   rw [if_pos rfl]
   obtain ⟨g1, g2, g3⟩ := hl.2 rfl
   simp only at g1 g2 g3
   refine ⟨⟨?_, ?_, ?_⟩, fun ⟨s, hs, hn⟩ => ?_⟩
   ·rw [List.pairwise_append]
    exact ⟨h1, List.pairwise_singleton _ _, fun a ha b hb => by rw [List.mem_singleton.1 hb]; exact h3 a ha m g1 g2⟩
   ·intro s hs
    rcases List.mem_append.1 hs with hs | hs
    ·exact h2 s hs
    ·rw [List.mem_singleton.1 hs]; exact g1
   ·intro a ha s hs hn
    rw [List.mem_append, not_or] at hn
    rcases List.mem_append.1 ha with ha | ha
    ·exact h3 a ha s hs hn.1
    ·rw [List.mem_singleton.1 ha]
     exact ltK_of (g3 s hs hn.1) (fun e => hn.2 (by rw [e]; exact List.mem_singleton.2 rfl))
   ·rw [List.length_append, h4 ⟨m, g1, g2⟩]; rfl
theorem srt_asc (l : List ByteArray) : (srt l).Pairwise (fun a b => ltK a b = true) := (srtK_inv l l.length).1.asc
theorem asc_nd {l : List ByteArray} (h : l.Pairwise (fun a b => ltK a b = true)) : l.Nodup := h.imp ltK_ne
theorem srt_mem (l : List ByteArray) (s : ByteArray) : s ∈ srt l ↔ s ∈ l := by
 obtain ⟨⟨h1, h2, h3⟩, h4⟩ := srtK_inv l l.length
 refine ⟨h2 s, fun hs => Classical.byContradiction fun hn => ?_⟩
 have e := h4 ⟨s, hs, hn⟩
 have h5 := nodup_leA (srtK l l.length) (l.eraseP (fun y => decide (y = s))) (asc_nd h1) (fun x hx => (List.mem_eraseP_of_neg (by simpa using fun e : x = s => hn (e ▸ hx))).2 (h2 x hx))
 have h6 := List.length_eraseP_of_mem (p := fun y => decide (y = s)) hs (by simp)
 have h7 := List.length_pos_of_mem hs
 omega
end Go.Proofs.YtimejkbmfbjomaaGreat
namespace Go.Proofs.YtimejkbmfbjomaaGreat
open Go.ChangeShapes Go.WideShapes Go.ChangeAt Go.RowKit Go.Deep
set_option linter.unusedVariables false
set_option linter.unusedSimpArgs false
theorem srtK_small {l : List ByteArray} (h : ∀ s ∈ l, small s) (k : Nat) : ∀ s ∈ srtK l k, small s := fun s hs => h s ((srtK_inv l k).1.sub s hs)
theorem srtK_len (l : List ByteArray) (k : Nat) : (srtK l k).length ≤ l.length := nodup_leA _ _ (asc_nd (srtK_inv l k).1.asc) (srtK_inv l k).1.sub
theorem ltK_bytes (a b : ByteArray) : ltK a b = Op.bytesLess a.toList b.toList := by
 rw [bytesLess_eq, Lib.toList_data, Lib.toList_data]; rfl
set_option maxHeartbeats 4000000 in
set_option maxRecDepth 100000 in
theorem rSorted_any {w W : World} {Q : Nat → Prop} {l : List ByteArray} {v : Value} (h : TextsI w Q l v) (hn : l.length ≤ 1000000000000) (hI : In Q w W) :
 Calls Tryz.prog 91 #[v] W (NewRow (srt l) W) := by
 have HSm := Lib.hid (texts_sm h)
 obtain ⟨A, cap, rfl, hl1, hl2⟩ := h.shape
 have H := Lib.hid h
 have HI := Lib.hid hI
 have HLn := Lib.hid hn
 obtain ⟨i0, hi0, hz0, hz1, hz2⟩ := info_parts string_info
 clear h hI hn
 go_enter Tryz.func91, Tryz.ntmps91
 go_upto_region 3 with fail
 go_loopg [3, 10] l.length (fun kk ov iv wr => ∃ (k : Nat) (Xr : Option Addr) (n c : Nat), k + kk = l.length ∧ iv = .int .i64 k ∧ ov = .slice Xr n c ∧ n = (srtK l k).length ∧ Hid (NmI W wr (srtK l k) Xr n c))
 case atStart => exact ⟨0, none, 0, 0, by omega, rfl, rfl, rfl, Lib.hid ⟨World.ownsRow_nil _ _ _ _, Below.refl _ _⟩⟩
 case round =>
  obtain ⟨k, Xr, n, c, hk, rfl, rfl, hnl, HR⟩ := hrel
  have HIr := Lib.hid (HI.out.on HR.out.below)
  by_cases hlt : k < l.length
  ·have HT := Lib.hid (texts_of_own (fun s hs => srtK_small HSm.out k s hs) HR.out.row).2
   have HIn := Lib.hid (fun s => rIn_any HT.out (in_slf _ wr) s)
   have HNk : Hid (n ≤ 1000000000000) := Lib.hid (by have h1 := srtK_len l k; have h2 := HLn.out; omega)
   have HX : Hid (srtK l (k + 1) = if (lst (srtK l k) (false, ⟨#[]⟩) l).1 = true then srtK l k ++ [(lst (srtK l k) (false, ⟨#[]⟩) l).2] else srtK l k) := Lib.hid rfl
   have HNl := Lib.hid hnl
   have HSk := Lib.hid (fun s => srtK_small HSm.out (k + 1) s)
   obtain ⟨out, ho⟩ : ∃ out, out = srtK l k := ⟨_, rfl⟩
   rw [← ho] at HR HIn HX HNl
   clear hnl HT ho
   generalize wr = wo at *
   go_upto_region 6 with fail
   go_loopg [4, 5, 14] l.length (fun kk o4 o5 iv wr => ∃ (j : Nat) (b : Bool) (m : ByteArray), j + kk = l.length ∧ iv = .int .i64 j ∧ o4 = .string m ∧ o5 = .bool b ∧ wo = wr ∧ Hid (lst out (b, m) (l.drop j) = lst out (false, ⟨#[]⟩) l))
   case atStart => exact ⟨0, false, ⟨#[]⟩, by omega, rfl, rfl, rfl, rfl, Lib.hid rfl⟩
   case round =>
    obtain ⟨j, b, m, hj, rfl, rfl, rfl, rfl, HA⟩ := hrel
    by_cases hjt : j < l.length
    ·obtain ⟨a, rfl, _, p1, hsz⟩ := text_at H.out HIr.out hjt
     have HAk := lst_drop (out := out) (r := (b, m)) hjt
     rw [HA.out] at HAk
     have HAk := Lib.hid HAk
     have HI2 := Lib.hid (HIn.out l[j])
     generalize l[j] = t at p1 HAk HI2 hsz
     cases ho : out.any (isT t) with
     | true =>
      have HAn : Hid (lst out (b, m) (l.drop (j + 1)) = lst out (false, ⟨#[]⟩) l) := Lib.hid (by rw [HAk.out, ho, if_neg (by simp)])
      rw [ho] at HI2
      clear HAk ho
      go_wp2_with (go_at_call 22; refine HI2.out.mono ?_; rintro e' W' ⟨rfl, rfl⟩)
      go_roundg (l.length - j - 1)
      case measure => omega
      case rel => exact ⟨j + 1, b, m, by omega, by go_num, rfl, rfl, rfl, HAn⟩
     | false =>
      rw [ho] at HI2
      cases b with
      | false =>
       have HAn : Hid (lst out (true, t) (l.drop (j + 1)) = lst out (false, ⟨#[]⟩) l) := Lib.hid (by rw [HAk.out, ho, if_pos (by simp)])
       clear HAk ho
       go_wp2_with (go_at_call 22; refine HI2.out.mono ?_; rintro e' W' ⟨rfl, rfl⟩)
       go_roundg (l.length - j - 1)
       case measure => omega
       case rel => exact ⟨j + 1, true, t, by omega, by go_num, rfl, rfl, rfl, HAn⟩
      | true =>
       cases hl : ltK t m with
       | true =>
        have HAn : Hid (lst out (true, t) (l.drop (j + 1)) = lst out (false, ⟨#[]⟩) l) := Lib.hid (by rw [HAk.out, ho, hl, if_pos (by simp)])
        rw [ltK_bytes] at hl
        clear HAk ho
        go_wp2_with (go_at_call 22; refine HI2.out.mono ?_; rintro e' W' ⟨rfl, rfl⟩)
        go_roundg (l.length - j - 1)
        case measure => omega
        case rel => exact ⟨j + 1, true, t, by omega, by go_num, rfl, rfl, rfl, HAn⟩
       | false =>
        have HAn : Hid (lst out (true, m) (l.drop (j + 1)) = lst out (false, ⟨#[]⟩) l) := Lib.hid (by rw [HAk.out, ho, hl, if_neg (by simp)])
        rw [ltK_bytes] at hl
        clear HAk ho
        go_wp2_with (go_at_call 22; refine HI2.out.mono ?_; rintro e' W' ⟨rfl, rfl⟩)
        go_roundg (l.length - j - 1)
        case measure => omega
        case rel => exact ⟨j + 1, true, m, by omega, by go_num, rfl, rfl, rfl, HAn⟩
    ·rw [List.drop_of_length_le (by omega)] at HA
     have hA2 : lst out (false, ⟨#[]⟩) l = (b, m) := HA.out.symm
     rw [hA2] at HX
     clear HA hA2
     have HO5 := Lib.hid HR.out.row
     cases b with
     | false =>
      have HS : Hid (NmI W wo (srtK l (k + 1)) Xr n c) := Lib.hid (by rw [HX.out]; exact HR.out)
      have HSl : Hid (n = (srtK l (k + 1)).length) := Lib.hid (by rw [HX.out]; exact HNl.out)
      go_wp2_with fail
      go_roundg (l.length - k - 1)
      case measure => omega
      case rel => exact ⟨k + 1, Xr, n, c, by omega, by go_num, rfl, HSl.out, HS⟩
     | true =>
      have HXn : Hid (srtK l (k + 1) = out ++ [m]) := Lib.hid HX.out
      have HW := Lib.hid (new_one wo m)
      have HO6 : Hid ((wo.alloc (.cells #[.string m] 9)).ownsRow W.heap.size 9 1 (.slice Xr n c) n (strs out)) := Lib.hid (HO5.out.alloc _)
      have HB5 : Hid (Below W.heap.size W (wo.alloc (.cells #[.string m] 9))) := Lib.hid (below_stepA HR.out.below _)
      have hn1 := HNk.out
      go_wp2_with (at_builtin; refine wpList_append_own_at _ rfl (.tmp 34) (.tmp 36) 22 rfl W.heap.size 9 i0 _ 1 16 Tryz.underlying22 hi0 hz0 hz1 hz2 rfl (by decide) _ n (strs out) rfl HO6.out ⟨wo.heap.size, 0, none⟩ 1 1 [.string m] rfl rfl HW.out (by simp [Value.oneCell']) (by unfold maxLen; omega) (by omega) HB5.out.size ?_; intro v6 w7 hown6 hg6 _ hat6; obtain ⟨X6, k6, rfl, _, _⟩ := own_shape hown6; have HS : Hid (NmI W w7 (srtK l (k + 1)) X6 (n + 1) k6) := Lib.hid ⟨by rw [HXn.out, strs_append]; exact hown6, HB5.out.grown hg6 HB5.out.size (fun j hj => (HO6.out.lt j hj).1)⟩; clear hown6 hg6 hat6)
      go_roundg (l.length - k - 1)
      case measure => omega
      case rel => exact ⟨k + 1, X6, n + 1, k6, by omega, by go_num, rfl, by rw [HXn.out, List.length_append, ← HNl.out]; rfl, HS⟩
  ·obtain rfl : k = l.length := by omega
   go_wp2_with fail
   go_ret
   refine ⟨_, rfl, ?_, HR.out.below⟩
   have h := HR.out.row
   rw [hnl] at h ⊢
   exact h
end Go.Proofs.YtimejkbmfbjomaaGreat
namespace Go.Proofs.YtimejkbmfbjomaaGreat
open Go.ChangeShapes Go.WideShapes Go.ChangeAt Go.RowKit Go.Deep
set_option linter.unusedVariables false
set_option maxHeartbeats 1000000 in
theorem rnames_any {w W : World} {Q : Nat → Prop} {l : List ByteArray} {A : Option Addr} {n cap : Nat} (h : TextsI w Q l (.slice A n cap)) (hI : In Q w W) :
    Calls Tryz.prog 113 #[.slice A n cap] W (MayOk (allN l) W) := by
  obtain ⟨rfl, hlc, hc, _⟩ := slice_len h
  have H := Lib.hid h
  have HI := Lib.hid hI
  clear h hI
  go_enter Tryz.func113, Tryz.ntmps113
  go_wp2_with fail
  go_loopw [7] (fun i wr => ∃ k : Nat, k ≤ l.length ∧ i = .int .i64 k ∧ Hid ((l.drop k).all (fun s => isNm (bl s)) = allN l) ∧ Hid (Below W.heap.size W wr)) (fun i _ => l.length - (intOf i).toNat)
  case atStart => exact ⟨0, Nat.zero_le _, rfl, Lib.hid (by rw [List.drop_zero]; rfl), Lib.hid (Below.refl _ _)⟩
  case round =>
    obtain ⟨k, hk, rfl, HW, HR⟩ := hrel
    by_cases hlt : k < l.length
    · obtain ⟨a, rfl, _, p1, hs⟩ := text_at H.out (HI.out.on HR.out) hlt
      have HN : Hid (allN l = (isNm (bl l[k]) && (l.drop (k + 1)).all (fun s => isNm (bl s)))) := Lib.hid (by rw [← all_drop (f := fun s => isNm (bl s)) hlt, HW.out])
      obtain ⟨x1, hx1⟩ : ∃ x, x = l[k] := ⟨_, rfl⟩
      rw [← hx1] at p1 hs HN
      clear hx1
      have HC : Hid (∀ W, Calls Tryz.prog 114 #[.string x1] W (MayOk (isNm (bl x1)) W)) := Lib.hid (fun W => rName_any x1 W (by unfold maxLen; omega))
      cases hv : isNm (bl x1) with
      | true =>
        rw [hv] at HC HN
        clear hv
        go_wp2_with (go_at_call 114; refine (HC.out _).mono ?_; rintro e w2 ⟨rfl, hb2⟩)
        go_roundw
        case rel => exact ⟨k + 1, by omega, by go_num, Lib.hid (by rw [HN.out, Bool.true_and]), Lib.hid (HR.out.trans (hb2.mono HR.out.size))⟩
        case measure => simp [intOf]; omega
      | false =>
        rw [hv] at HC HN
        clear hv
        go_wp2_with (go_at_call 114; refine (HC.out _).mono ?_; rintro e w2 ⟨rfl, hb2⟩)
        go_ret
        exact ⟨ret_bool (by rw [HN.out]; rfl), HR.out.trans (hb2.mono HR.out.size)⟩
    · have HN : Hid (allN l = true) := Lib.hid (by
        have h1 := HW.out
        rw [List.drop_of_length_le (by omega), List.all_nil] at h1
        exact h1.symm)
      go_wp2_with fail
      go_ret
      exact ⟨ret_bool HN.out.symm, HR.out⟩
theorem none_any {w : World} {Q : Nat → Prop} {e : E} {c0 c1 c2 c3 : Value} (h : ExprI w Q e [c0, c1, c2, c3]) (W : World) :
    Calls Tryz.prog 154 #[.agg #[c0, c1, c2, c3]] W (MayOk (noneE e) W) := by
  cases h with
  | @mk op n nm ks A cap css hop hn hnm hcap hA hk =>
    clear hA hk
    unfold i64 at hop hn
    go_enter Tryz.func154, Tryz.ntmps154
    go_wp2_with fail
    all_goals
      go_ret
      exact ⟨ret_bool (by show _ = noneE _; simp only [noneE]; first | (simp_all; done) | (simp_all; intros; omega)), below_box _⟩
set_option maxHeartbeats 1000000 in
theorem rarg_any {w W : World} {Q : Nat → Prop} {xr : Bool} {xn : ByteArray} {xx : E} {o1 n1 : Int} {s1 : ByteArray} {A1 : Option Addr} {l1 c1 : Nat} (hs : xn.size ≤ 9223372036854775807) (hx : ExprI w Q xx [.int .i64 o1, .int .i64 n1, .string s1, .slice A1 l1 c1]) (hI : In Q w W) :
    Calls Tryz.prog 155 #[.agg #[.bool xr, .string xn, .int .i64 o1, .int .i64 n1, .string s1, .slice A1 l1 c1]] W (MayOk (argOk ⟨xr, xn, xx⟩) W) := by
  have HI := Lib.hid hI
  have HN : Hid (∀ W, Calls Tryz.prog 114 #[.string xn] W (MayOk (isNm (bl xn)) W)) := Lib.hid (fun W => rName_any xn W (by unfold maxLen; omega))
  have HE : Hid (∀ W, Calls Tryz.prog 154 #[.agg #[.int .i64 o1, .int .i64 n1, .string s1, .slice A1 l1 c1]] W (MayOk (noneE xx) W)) := Lib.hid (fun W => none_any hx W)
  have HM : Hid (∀ W, In Q w W → Calls Tryz.prog 100 #[.agg #[.int .i64 o1, .int .i64 n1, .string s1, .slice A1 l1 c1]] W (MayOk (mayE 20 xx) W)) := Lib.hid (fun W h1 => rMayExpr_any hx W h1)
  have HV : Hid (argOk ⟨xr, xn, xx⟩ = (nmOk xn xr && xOk xx (!xr))) := Lib.hid rfl
  clear hI hx
  cases xr with
  | true =>
    simp only [nmOk, xOk, Bool.not_true, if_true, Bool.false_eq_true, if_false] at HV
    generalize isNm (bl xn) = b1 at HV HN
    generalize noneE xx = b2 at HV HE
    cases b1 <;> cases b2
    all_goals
      go_enter Tryz.func155, Tryz.ntmps155
      go_wp2_with (first
        | (go_at_call 114; refine (HN.out _).mono ?_; rintro e w2 ⟨rfl, hb2⟩; have hc2 := (bcell hb2).1; have HB2 := Lib.hid (below_new hb2); clear hb2)
        | (go_at_call 154; refine (HE.out _).mono ?_; rintro e w3 ⟨rfl, hb3⟩))
      go_ret
      first
        | exact ⟨ret_bool (by rw [HV.out]; rfl), HB2.out.trans (hb3.mono HB2.out.size)⟩
        | exact ⟨ret_bool (by rw [HV.out]; rfl), HB2.out⟩
  | false =>
    simp only [nmOk, xOk, Bool.not_false, if_true, Bool.false_eq_true, if_false] at HV
    generalize mayE 20 xx = b2 at HV HM
    cases hb : xn.toList.isEmpty <;> cases b2
    all_goals
      rw [hb] at HV
      go_enter Tryz.func155, Tryz.ntmps155
      go_wp2_with (go_at_call 100; refine (HM.out _ (HI.out.alloc _)).mono ?_; rintro e w3 ⟨rfl, hb3⟩)
      go_ret
      first
        | exact ⟨ret_bool (by rw [HV.out]; rfl), below_new hb3⟩
        | exact ⟨ret_bool (by rw [HV.out]; rfl), below_box _⟩
end Go.Proofs.YtimejkbmfbjomaaGreat
