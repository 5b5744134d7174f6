/- Texts, merged by a program; only what is used. -/
import Derived.RangeFuncNested
import Derived.RangeFuncBound
import Derived.RangeFuncCalls
import Derived.RangeFuncLeaves
import Derived.Shelf.Abstract
import Derived.Shelf.RegionOpen
import Derived.WalkKit
import Derived.OwnWalkIn
import Derived.TacticsInMore
import Derived.LoopNIn
import Derived.LoopIn
import Derived.Test.YtehpinnmalpgpaaGreatK1
import Derived.Test.YtehpinnmalpgpaaGreatK2
import Derived.Test.YtehpinnmalpgpaaGreatK3
import Derived.Test.YtehpinnmalpgpaaGreatK4
import Derived.Test.YtehpinnmalpgpaaGreatK5
import Derived.Test.YtehpinnmalpgpaaGreatK6
import Derived.Test.YtehpinnmalpgpaaGreatK7
import Derived.Test.YtehpinnmalpgpaaGreatK8
import Derived.Test.YtehpinnmalpgpaaGreatK9
import Derived.Test.YtehpinnmalpgpaaGreatK10
import Derived.Test.YtehpinnmalpgpaaGreatK11
import Derived.Test.YtehpinnmalpgpaaGreatK12
import Derived.Test.YtehpinnmalpgpaaGreatK13
import Derived.Test.YtehpinnmalpgpaaGreatK14
import Derived.Test.YtehpinnmalpgpaaGreatK15
import Derived.Test.YtehpinnmalpgpaaGreatK16
namespace Go.Proofs.YtehpinnmalpgpaaGreat
open Go.ChangeShapes Go.WideShapes Go.ChangeAt Go.RowKit Go.Deep Go.Shelf
set_option linter.unusedVariables false
set_option linter.unusedSimpArgs false
attribute [local go_sem] Oper.semAt_some
/-- what a round keeps: below n0 all but the blocks of own; at n0 and beyond all cells but rows of texts -/
structure KpC (n0 : Nat) (own : Nat → Prop) (W W' : World) : Prop where
 os : W'.os = W.os
 tape : W'.tape = W.tape
 output : W'.output = W.output
 size : W.heap.size ≤ W'.heap.size
 low : ∀ k, k < n0 → ¬ own k → W'.heap[k]? = W.heap[k]?
 high : ∀ k cs t fz, n0 ≤ k → t ≠ 9 → W.heap[k]? = some (.cells cs t fz) → W'.heap[k]? = some (.cells cs t fz)
section
variable {n0 : Nat} {own : Nat → Prop} {A B C : World}
theorem KpC.refl (W : World) : KpC n0 own W W := ⟨rfl, rfl, rfl, Nat.le_refl _, fun _ _ _ => rfl, fun _ _ _ _ _ _ h => h⟩
theorem KpC.trans (h : KpC n0 own A B) (k : KpC n0 own B C) : KpC n0 own A C := ⟨k.os.trans h.os, k.tape.trans h.tape, k.output.trans h.output, Nat.le_trans h.size k.size, fun j hj ho => (k.low j hj ho).trans (h.low j hj ho), fun j cs t fz hj ht hc => k.high j cs t fz hj ht (h.high j cs t fz hj ht hc)⟩
theorem KpC.of_below (hn : n0 ≤ A.heap.size) (h : Below A.heap.size A B) : KpC n0 own A B := ⟨h.os, h.tape, h.output, h.size, fun k hk _ => h.block k (Nat.lt_of_lt_of_le hk hn), fun k cs t fz _ _ hc => (h.block k (Array.getElem?_eq_some_iff.1 hc).1).trans hc⟩
theorem KpC.put {w : World} (hn : n0 ≤ w.heap.size) (W : World) (l : Nat) (o o' : Obj) (hl : w.heap.size ≤ l) (h : W.heap[l]? = some o) (hc : o.isCells = false) (_ : o.isWalk = false) : KpC n0 own W (W.putObj l o') := by
 have hb : Below n0 W (W.putObj l o') := (Below.refl n0 W).grown (grownBy_putObj' W l o') (by have := (Array.getElem?_eq_some_iff.1 h).1; omega) (fun k e => by cases e; omega)
 refine ⟨hb.os, hb.tape, hb.output, hb.size, fun k hk _ => hb.block k hk, fun k cs t fz hk _ hcs => ?_⟩
 by_cases e : k = l
 ·subst e
  rw [hcs] at h
  injection h with h
  subst h
  cases hc
 ·exact (World.putObj_heap_other (fun e' => e (by first | exact e' | exact e'.symm))).trans hcs
theorem KpC.set_ {W : World} {a : Addr} (ha : own a.block) (hl : a.block < n0) (u : Value) : KpC n0 own W (W.setCell a u) := by
 have hb : ∀ k, k ≠ a.block → (W.setCell a u).heap[k]? = W.heap[k]? := fun k hk => Below.heap_setCell _ _ _ _ hk
 exact ⟨rfl, rfl, rfl, by simp [World.setCell], fun k hk ho => hb k (fun e => ho (by rw [e]; exact ha)), fun k cs t fz hk _ hc => (hb k (by omega)).trans hc⟩
theorem KpC.blk {b : Nat} {t : TypeId} {cs : Array Value} (h : KpC n0 own A B) (hb : n0 ≤ b) (ht : t ≠ 9) (hB : Blk A b t cs) : Blk B b t cs := h.high b cs t (0, 0) hb ht hB
theorem KpC.inn {w : World} {Q : Nat → Prop} (h : KpC n0 own A B) (hQ : ∀ b, Q b → b < n0 ∧ ¬ own b) (hI : In Q w A) : In Q w B := by
 refine ⟨fun b hb => Nat.lt_of_lt_of_le (hI.1 b hb) h.size, fun p hp => ?_⟩
 obtain ⟨h1, h2⟩ := hQ _ hp
 refine Eq.trans ?_ (hI.2 p hp)
 have h3 := h.low p.block h1 h2
 unfold World.cell?
 rw [h3]
end
mutual
/-- the statements of a statement, each with the loop around it -/
def lpS : S → Int → List (S × Int)
 | .mk id kind labels nm proc x has args th el, lp => (.mk id kind labels nm proc x has args th el, lp) :: (lpSL th (if kind = 6 then id else lp) ++ lpSL el (if kind = 6 then id else lp))
def lpSL : List S → Int → List (S × Int)
 | [], _ => []
 | s :: l, lp => lpS s lp ++ lpSL l lp
end
mutual
theorem lpS_fst : ∀ (s : S) (lp : Int), (lpS s lp).map Prod.fst = preS s
 | .mk id kind labels nm proc x has args th el, lp => by
  rw [lpS, preS, List.map_cons, List.map_append, lpSL_fst th, lpSL_fst el]
theorem lpSL_fst : ∀ (l : List S) (lp : Int), (lpSL l lp).map Prod.fst = preSL l
 | [], _ => by rw [lpSL, preSL]; rfl
 | s :: l, lp => by rw [lpSL, preSL, List.map_append, lpS_fst s, lpSL_fst l]
end
theorem lpSL_take {l : List S} {k : Nat} (h : k < l.length) (lp : Int) : lpSL (l.take (k + 1)) lp = lpSL (l.take k) lp ++ lpS l[k] lp := by
 have key : ∀ (l : List S) (k : Nat) (h : k < l.length), lpSL (l.take (k + 1)) lp = lpSL (l.take k) lp ++ lpS l[k] lp := by
  intro l
  induction l with
  | nil => intro k h; cases h
  | cons s l ih =>
   intro k h
   cases k with
   | zero => simp [lpSL]
   | succ k =>
    simp only [List.take_succ_cons, lpSL, List.getElem_cons_succ]
    rw [ih k (by simpa using h), List.append_assoc]
 exact key l k h
theorem lpSL_prefix {l : List S} {k : Nat} (lp : Int) : lpSL (l.take k) lp <+: lpSL l lp := by
 have key : ∀ (a b : List S), lpSL (a ++ b) lp = lpSL a lp ++ lpSL b lp := by
  intro a b
  induction a with
  | nil => simp [lpSL]
  | cons s a ih => rw [List.cons_append, lpSL, lpSL, ih, List.append_assoc]
 refine ⟨lpSL (l.drop k) lp, ?_⟩
 rw [← key, List.take_append_drop]
/-- what a round is handed: a statement that is read, the loop around it -/
def YE (w : World) (Q : Nat → Prop) : Type := { x : (S × Int) × List Value // StmtI w Q x.1.1 x.2 ∧ i64 x.1.2 ∧ wS x.1.1 ≤ 1000000 }
def encY {w : World} {Q : Nat → Prop} (x : YE w Q) : Array Value := #[.agg x.1.2.toArray, .int .i64 x.1.1.2]
def valY {w : World} {Q : Nat → Prop} (x : YE w Q) : S × Int := x.1.1
/-- what a walk over some statements leaves -/
def WkOk (w : World) (Q : Nat → Prop) (n0 : Nat) (own : Nat → Prop) (J Jx : List (YE w Q) → World → Prop) (pre : List (YE w Q)) (L : List (S × Int)) (W : World) (e : Ending) (W' : World) : Prop :=
 (e = .returned (.bool true) ∧ ∃ ys : List (YE w Q), ys.map valY = L ∧ J (pre ++ ys) W' ∧ KpC n0 own W W') ∨ (e = .returned (.bool false) ∧ ∃ ys : List (YE w Q), ys.map valY <+: L ∧ Jx (pre ++ ys) W')
theorem wk_len {w : World} {Q : Nat → Prop} {P zs : List (YE w Q)} {th el : List S} {i : Int} {N : Nat} (h : P.length + (preSL th).length + (preSL el).length ≤ N) (hz : zs.map valY = lpSL th i) : (P ++ zs).length + (preSL el).length ≤ N := by
 have h1 := congrArg List.length hz
 have h2 : (lpSL th i).length = (preSL th).length := by rw [← lpSL_fst th i, List.length_map]
 rw [List.length_map] at h1
 rw [List.length_append]
 omega
set_option maxRecDepth 100000 in
set_option maxHeartbeats 4000000 in
theorem walk_in {F : Fence} (hd : F.depth = none) (hf : F.fn 77) (hro : F.round = none) {w : World} {Q : Nat → Prop} (l n0 N : Nat) (own : Nat → Prop) (hQ : ∀ b, Q b → b < n0 ∧ ¬ own b) (J Jx : List (YE w Q) → World → Prop) (hJ : ∀ pre W o, J pre W → J pre (W.alloc o))
 (hY : ∀ m pre (x : YE w Q) W, J pre W → pre.length < N → YieldAt F m Tryz.prog l (encY x) W fun e W' => (e = .returned (.bool true) ∧ J (pre ++ [x]) W' ∧ KpC n0 own W W') ∨ (e = .returned (.bool false) ∧ Jx (pre ++ [x]) W')) :
 ∀ (M : Nat) (blk : List S), (preSL blk).length < M → wSL blk ≤ 1000000 → ∀ (n : Nat) (A : Option Addr) (cap : Nat) (lp : Int) (pre : List (YE w Q)) (W : World), StmtsI w Q blk (.slice A blk.length cap) → In Q w W → i64 lp → J pre W → n0 ≤ W.heap.size → pre.length + (preSL blk).length ≤ N →
  CallsIn F n Tryz.prog 77 #[.slice A blk.length cap, .int .i64 lp, .func (.yield l) #[] #[]] W (WkOk w Q n0 own J Jx pre (lpSL blk lp) W) := by
 intro M
 induction M with
 | zero => intro blk h; omega
 | succ M ih =>
  intro blk hM hws n A cap lp pre W hbl hI hlp hj hn0 hN
  have hdd : ∀ k : Nat, (F.depth.isSome = true → 1 ≤ k) := fun k h => by rw [hd] at h; cases h
  refine callsIn_of_wp Tryz.func77 rfl hf ?_ hro
  simp only [Tryz.ntmps77, List.size_toArray, List.length_cons, List.length_nil, Nat.reduceAdd, Nat.reduceSub, Array.replicate_succ, Array.replicate_zero, List.push_toArray, List.append_toArray, List.nil_append, List.cons_append]
  obtain ⟨_, hlc, hcc, _⟩ := slice_len hbl
  have HBl := Lib.hid hbl
  have HI := Lib.hid hI
  have HJ := Lib.hid hJ
  have HY := Lib.hid hY
  have HQ := Lib.hid hQ
  have Hj := Lib.hid hj
  have HN := Lib.hid hN
  have HWs := Lib.hid hws
  unfold i64 at hlp
  clear hbl hI hJ hY hQ hj hN hws
  gi_wp2
  gi_loopw [12] (fun i wr => ∃ (k : Nat) (ys : List (YE w Q)), k ≤ blk.length ∧ i = .int .i64 k ∧ Hid (ys.map valY = lpSL (blk.take k) lp) ∧ Hid (J (pre ++ ys) wr) ∧ Hid (KpC n0 own W wr)) (fun i _ => blk.length - (intOf i).toNat)
  case atStart => exact ⟨0, [], Nat.zero_le _, rfl, Lib.hid (by simp [lpSL]), Lib.hid (by simpa using Hj.out), Lib.hid (KpC.refl W)⟩
  case round =>
   obtain ⟨k, ys, hk, rfl, HYs, HJs, HK⟩ := hrel
   by_cases hlt : k < blk.length
   ·have HIr := Lib.hid (HK.out.inn HQ.out HI.out)
    obtain ⟨a, sid, kind, labels, nm, proc, x, has, args, th, el, L, lc, y0, y1, y2, X, xn, xc, R, rc, T, tc, U, uc, rfl, hqa, hmk, ⟨p0, p1, p2, p3, p4, p5, p6, p7, p8, p9, p10, p11, p12, _⟩, hid, hkind, _, _, _, _, _, hth, hel, hst⟩ := stmt_at HBl.out HIr.out hlt
    have hnr : n0 ≤ wr.heap.size := Nat.le_trans hn0 HK.out.size
    obtain ⟨xv, hxv⟩ : ∃ xv : YE w Q, xv = ⟨((blk[k], lp), [.int .i64 sid, .int .i64 kind, .slice L labels.length lc, .string nm, .string proc, .int .i64 y0, .int .i64 y1, .string y2, .slice X xn xc, .bool has, .slice R args.length rc, .slice T th.length tc, .slice U el.length uc]), hst, hlp, Nat.le_trans (wSL_mem (List.getElem_mem hlt)) HWs.out⟩ := ⟨_, rfl⟩
    have HWk : Hid (wSL th ≤ 1000000 ∧ wSL el ≤ 1000000) := Lib.hid (by
     have h1 := Nat.le_trans (wSL_mem (List.getElem_mem hlt)) HWs.out
     rw [hmk, wS] at h1
     exact ⟨by omega, by omega⟩)
    have HXv := Lib.hid hxv
    have HXe : Hid (encY xv = #[.agg #[.int .i64 sid, .int .i64 kind, .slice L labels.length lc, .string nm, .string proc, .int .i64 y0, .int .i64 y1, .string y2, .slice X xn xc, .bool has, .slice R args.length rc, .slice T th.length tc, .slice U el.length uc], .int .i64 lp]) := Lib.hid (by rw [hxv]; rfl)
    have HXl : Hid (valY xv = (blk[k], lp)) := Lib.hid (by rw [hxv]; rfl)
    clear hxv
    have hlens : (lpSL blk lp).length = (preSL blk).length := by rw [← lpSL_fst blk lp, List.length_map]
    have hleny : ys.length = (lpSL (blk.take k) lp).length := by rw [← HYs.out, List.length_map]
    have hlenp := (lpSL_prefix (l := blk) (k := k + 1) lp).length_le
    rw [lpSL_take hlt, List.length_append, hmk, lpS, List.length_cons, List.length_append] at hlenp
    have HLen : Hid ((pre ++ ys).length < N ∧ (pre ++ ys ++ [xv]).length + (preSL th).length ≤ N ∧ (pre ++ ys ++ [xv]).length + (preSL th).length + (preSL el).length ≤ N) := Lib.hid (by
     have h1 := HN.out
     have h2 : ∀ (c : List S) (i : Int), (lpSL c i).length = (preSL c).length := fun c i => by rw [← lpSL_fst c i, List.length_map]
     simp only [h2] at hlenp hleny
     simp only [List.length_append, List.length_cons, List.length_nil]
     omega)
    have HPr : Hid ((preSL th).length < M ∧ (preSL el).length < M) := Lib.hid (by
     have h1 : (preS blk[k]).length ≤ (preSL blk).length := by
      have h2 := (lpSL_prefix (l := blk) (k := k + 1) lp).length_le
      rw [lpSL_take hlt, List.length_append] at h2
      have h3 := congrArg List.length (lpS_fst blk[k] lp)
      rw [List.length_map] at h3
      omega
     rw [hmk, preS, List.length_cons, List.length_append] at h1
     omega)
    have HYt : Hid ((ys ++ [xv]).map valY = lpSL (blk.take k) lp ++ [(blk[k], lp)]) := Lib.hid (by rw [List.map_append, HYs.out, List.map_cons, List.map_nil, HXl.out])
    have HTk : Hid (lpSL (blk.take (k + 1)) lp = lpSL (blk.take k) lp ++ [(blk[k], lp)] ++ (lpSL th (if kind = 6 then sid else lp) ++ lpSL el (if kind = 6 then sid else lp))) := Lib.hid (by rw [lpSL_take hlt, hmk, lpS]; simp)
    have HPf : Hid (lpSL (blk.take (k + 1)) lp <+: lpSL blk lp) := Lib.hid (lpSL_prefix lp)
    have HY1 := Lib.hid (YieldAt.mono (HY.out (n - 1) (pre ++ ys) xv (wr.alloc (.cells #[.int .i64 sid, .int .i64 kind, .slice L labels.length lc, .string nm, .string proc, .int .i64 y0, .int .i64 y1, .string y2, .slice X xn xc, .bool has, .slice R args.length rc, .slice T th.length tc, .slice U el.length uc] 53)) (HJ.out _ _ _ HJs.out) HLen.out.1) (R' := fun e W2 => (e = .returned (.bool true) ∧ Hid (J (pre ++ ys ++ [xv]) W2) ∧ Hid (KpC n0 own W W2) ∧ Hid (Blk W2 wr.heap.size 53 #[.int .i64 sid, .int .i64 kind, .slice L labels.length lc, .string nm, .string proc, .int .i64 y0, .int .i64 y1, .string y2, .slice X xn xc, .bool has, .slice R args.length rc, .slice T th.length tc, .slice U el.length uc]) ∧ W2.cell? ⟨wr.heap.size, 11, none⟩ = some (.slice T th.length tc)) ∨ (e = .returned (.bool false) ∧ Hid (Jx (pre ++ ys ++ [xv]) W2))) (fun e W2 h => by
     rcases h with ⟨h1, h2, h3⟩ | ⟨h1, h2⟩
     ·have hb := h3.blk hnr (by decide) (Blk.new wr 53 #[.int .i64 sid, .int .i64 kind, .slice L labels.length lc, .string nm, .string proc, .int .i64 y0, .int .i64 y1, .string y2, .slice X xn xc, .bool has, .slice R args.length rc, .slice T th.length tc, .slice U el.length uc])
      exact .inl ⟨h1, Lib.hid h2, Lib.hid ((HK.out.trans (KpC.of_below hnr (below_box _))).trans h3), Lib.hid hb, by rw [hb.cell]; rfl⟩
     ·exact .inr ⟨h1, Lib.hid h2⟩))
    rw [HXe.out] at HY1
    have HW1 := Lib.hid (fun (inner : Int) (hin : i64 inner) (ps : List (YE w Q)) (V : World) (hv : J ps V) (hk : KpC n0 own W V) (hl : ps.length + (preSL th).length ≤ N) => ih th HPr.out.1 HWk.out.1 (n - 1) T tc inner ps V hth (hk.inn HQ.out HI.out) hin hv (Nat.le_trans hn0 hk.size) hl)
    have HW2 := Lib.hid (fun (inner : Int) (hin : i64 inner) (ps : List (YE w Q)) (V : World) (hv : J ps V) (hk : KpC n0 own W V) (hl : ps.length + (preSL el).length ≤ N) => ih el HPr.out.2 HWk.out.2 (n - 1) U uc inner ps V hel (hk.inn HQ.out HI.out) hin hv (Nat.le_trans hn0 hk.size) hl)
    have hkb := hkind
    have hidb := hid
    unfold i64 at hkb hidb
    clear hth hel hst hqa hmk hlens hleny hlenp HPr HXv hid hkind ih
    obtain ⟨fn, tmps, assign, body, hy, hR⟩ := HY1.out
    by_cases hk6 : kind = 6
    ·subst hk6
     rw [if_pos rfl] at HTk
     have HTk := Lib.hid HTk.out
     gi_wp2_with (first
      | ((try refine ⟨hdd _, ?_⟩); refine hR.mono ?_; clear hR; rintro e W2 (⟨rfl, hJ2, hK2, hB2, c11⟩ | ⟨rfl, hx2⟩))
      | ((try refine ⟨hdd _, ?_⟩); gi_at_call 77; refine (HW1.out sid ⟨by omega, by omega⟩ (pre ++ ys ++ [xv]) W2 hJ2.out hK2.out HLen.out.2.1).mono ?_; clear HW1; rintro e W3 (⟨rfl, zs, hz, hJ3, hK3⟩ | ⟨rfl, zs, hz, hx3⟩); have HKB := Lib.hid hK3; have HZ3 := Lib.hid hz; have HJ3 := Lib.hid hJ3; have c12 : W3.cell? ⟨wr.heap.size, 12, none⟩ = some (.slice U el.length uc) := (by rw [(hK3.blk hnr (by decide) hB2.out).cell]; rfl); clear hz hJ3 hK3)
      | ((try refine ⟨hdd _, ?_⟩); gi_at_call 77; refine (HW2.out sid ⟨by omega, by omega⟩ (pre ++ ys ++ [xv] ++ zs) W3 HJ3.out (hK2.out.trans HKB.out) (wk_len HLen.out.2.2 HZ3.out)).mono ?_; rintro e W4 (⟨rfl, zt, ht, hJ4, hK4⟩ | ⟨rfl, zt, ht, hx4⟩)))
     ·refine ⟨⟨k + 1, ys ++ [xv] ++ zs ++ zt, by omega, by go_num, Lib.hid ?_, Lib.hid (by simpa only [List.append_assoc] using hJ4), Lib.hid ((hK2.out.trans HKB.out).trans hK4)⟩, by simp [intOf]; omega⟩
      rw [HTk.out, List.map_append, List.map_append, HYt.out, HZ3.out, ht]
      simp only [List.append_assoc]
     ·go_ret
      obtain ⟨r, hr⟩ := ht
      obtain ⟨s, hs⟩ := HPf.out
      refine .inr ⟨rfl, ys ++ [xv] ++ zs ++ zt, ⟨r ++ s, ?_⟩, by simpa only [List.append_assoc] using hx4⟩
      rw [← hs, HTk.out, List.map_append, List.map_append, HYt.out, HZ3.out, ← hr]
      simp only [List.append_assoc]
     ·go_ret
      obtain ⟨r, hr⟩ := hz
      obtain ⟨s, hs⟩ := HPf.out
      refine .inr ⟨rfl, ys ++ [xv] ++ zs, ⟨r ++ (lpSL el sid ++ s), ?_⟩, by simpa only [List.append_assoc] using hx3⟩
      rw [← hs, HTk.out, List.map_append, HYt.out, ← hr]
      simp only [List.append_assoc]
     ·go_ret
      obtain ⟨s, hs⟩ := HPf.out
      refine .inr ⟨rfl, ys ++ [xv], ⟨lpSL th sid ++ (lpSL el sid ++ s), ?_⟩, by simpa only [List.append_assoc] using hx2.out⟩
      rw [← hs, HTk.out, HYt.out]
      simp only [List.append_assoc]
    ·have hk7 : (kind == 6) = false := beq_eq_false_iff_ne.2 hk6
     rw [if_neg hk6] at HTk
     have HTk := Lib.hid HTk.out
     gi_wp2_with (first
      | ((try refine ⟨hdd _, ?_⟩); refine hR.mono ?_; clear hR; rintro e W2 (⟨rfl, hJ2, hK2, hB2, c11⟩ | ⟨rfl, hx2⟩))
      | ((try refine ⟨hdd _, ?_⟩); gi_at_call 77; refine (HW1.out lp ⟨by omega, by omega⟩ (pre ++ ys ++ [xv]) W2 hJ2.out hK2.out HLen.out.2.1).mono ?_; clear HW1; rintro e W3 (⟨rfl, zs, hz, hJ3, hK3⟩ | ⟨rfl, zs, hz, hx3⟩); have HKB := Lib.hid hK3; have HZ3 := Lib.hid hz; have HJ3 := Lib.hid hJ3; have c12 : W3.cell? ⟨wr.heap.size, 12, none⟩ = some (.slice U el.length uc) := (by rw [(hK3.blk hnr (by decide) hB2.out).cell]; rfl); clear hz hJ3 hK3)
      | ((try refine ⟨hdd _, ?_⟩); gi_at_call 77; refine (HW2.out lp ⟨by omega, by omega⟩ (pre ++ ys ++ [xv] ++ zs) W3 HJ3.out (hK2.out.trans HKB.out) (wk_len HLen.out.2.2 HZ3.out)).mono ?_; rintro e W4 (⟨rfl, zt, ht, hJ4, hK4⟩ | ⟨rfl, zt, ht, hx4⟩)))
     ·refine ⟨⟨k + 1, ys ++ [xv] ++ zs ++ zt, by omega, by go_num, Lib.hid ?_, Lib.hid (by simpa only [List.append_assoc] using hJ4), Lib.hid ((hK2.out.trans HKB.out).trans hK4)⟩, by simp [intOf]; omega⟩
      rw [HTk.out, List.map_append, List.map_append, HYt.out, HZ3.out, ht]
      simp only [List.append_assoc]
     ·go_ret
      obtain ⟨r, hr⟩ := ht
      obtain ⟨s, hs⟩ := HPf.out
      refine .inr ⟨rfl, ys ++ [xv] ++ zs ++ zt, ⟨r ++ s, ?_⟩, by simpa only [List.append_assoc] using hx4⟩
      rw [← hs, HTk.out, List.map_append, List.map_append, HYt.out, HZ3.out, ← hr]
      simp only [List.append_assoc]
     ·go_ret
      obtain ⟨r, hr⟩ := hz
      obtain ⟨s, hs⟩ := HPf.out
      refine .inr ⟨rfl, ys ++ [xv] ++ zs, ⟨r ++ (lpSL el lp ++ s), ?_⟩, by simpa only [List.append_assoc] using hx3⟩
      rw [← hs, HTk.out, List.map_append, HYt.out, ← hr]
      simp only [List.append_assoc]
     ·go_ret
      obtain ⟨s, hs⟩ := HPf.out
      refine .inr ⟨rfl, ys ++ [xv], ⟨lpSL th lp ++ (lpSL el lp ++ s), ?_⟩, by simpa only [List.append_assoc] using hx2.out⟩
      rw [← hs, HTk.out, HYt.out]
      simp only [List.append_assoc]
   ·obtain rfl : k = blk.length := by omega
    gi_wp2
    go_ret
    exact .inl ⟨rfl, ys, by have := HYs.out; rwa [List.take_length] at this, HJs.out, HK.out⟩
end Go.Proofs.YtehpinnmalpgpaaGreat
namespace Go.Proofs.YtehpinnmalpgpaaGreat
open Go.ChangeShapes Go.WideShapes Go.ChangeAt Go.RowKit Go.Deep
set_option linter.unusedVariables false
set_option linter.unusedSimpArgs false
def chkOK (p : Pg) : Bool := decide ((chkP p).1 = 0)
theorem named_any {w : World} {Q : Nat → Prop} {p : Pg} {c0 c1 : Value} (h : ProgI w Q p [c0, c1]) (hsm : SmG p) (W : World) (hI : In Q w W) :
 Calls Tryz.prog 42 #[.agg #[c0, c1]] W (MayOk (chkOK p) W) := by
 have HC := Lib.hid (fun V hV => Check_any h hsm V hV)
 obtain ⟨Ag, cg, Ap, cp, rfl, rfl, _⟩ := prog_open h
 have HI := Lib.hid hI
 have hok : (chkP p).1 = 0 → chkP p = (0, 0) := fun h => (chk_ok h).chk
 have HOk := Lib.hid hok
 have HK : Hid (chkOK p = decide ((chkP p).1 = 0)) := Lib.hid rfl
 clear h hI hok
 generalize chkP p = r at HC HOk HK
 obtain ⟨rc, ri⟩ := r
 go_enter Tryz.func42, Tryz.ntmps42
 go_upto_region 1 with fail
 have HB0 : Hid (Below W.heap.size W (W.alloc (.cells #[.slice Ag p.globals.length cg, .slice Ap p.procs.length cp] 25))) := Lib.hid (below_box _)
 have HBp : Hid (Blk (W.alloc (.cells #[.slice Ag p.globals.length cg, .slice Ap p.procs.length cp] 25)) W.heap.size 25 #[.slice Ag p.globals.length cg, .slice Ap p.procs.length cp]) := Lib.hid (Blk.new _ _ _)
 generalize World.alloc _ _ = V at HBp HB0 ⊢
 have q0 : V.cell? ⟨W.heap.size, 0, none⟩ = some (.slice Ag p.globals.length cg) := by rw [HBp.out.cell]; rfl
 have q1 : V.cell? ⟨W.heap.size, 1, none⟩ = some (.slice Ap p.procs.length cp) := by rw [HBp.out.cell]; rfl
 have hbl := HBp.out.lt
 by_cases hr : rc = 0
 ·subst hr
  have hri : ri = 0 := congrArg Prod.snd (HOk.out rfl)
  subst hri
  go_wp2_with (go_at_call 25; refine (HC.out V (HI.out.on HB0.out)).mono ?_; rintro e w1 ⟨rfl, hb1⟩)
  go_ret
  exact ⟨by rw [HK.out]; rfl, below_step HB0.out hb1⟩
 ·have hr1 : (rc == 0) = false := beq_eq_false_iff_ne.2 hr
  have HR := Lib.hid hr
  clear hr
  go_wp2_with (go_at_call 25; refine (HC.out V (HI.out.on HB0.out)).mono ?_; rintro e w1 ⟨rfl, hb1⟩)
  go_ret
  exact ⟨by rw [HK.out, decide_eq_false (by exact HR.out)]; rfl, below_step HB0.out hb1⟩
set_option maxHeartbeats 1000000 in
theorem JIndexQ_any {w W : World} {Q : Nat → Prop} {l : List Pr} {v : Value} (h : SliceI w Q 5 (ProcI w Q) l v) (hI : In Q w W) (s : ByteArray) (b : Nat) (hb : W.cell? ⟨b, 0, none⟩ = some (.string s)) :
  Calls Tryz.prog 74 #[v, .func (.func 75) #[] #[.pointer (some ⟨b, 0, none⟩)]] W fun e w' => e = .returned (.int .i64 (idxL (isQ s) l 0)) ∧ Below W.heap.size W w' := by
 obtain ⟨A, cap, rfl, hl1, hl2⟩ := h.shape
 have H := Lib.hid h
 have HI := Lib.hid hI
 have HB := Lib.hid hb
 clear h hI hb
 go_enter Tryz.func74, Tryz.ntmps74
 go_wp2_with fail
 go_loopg [8] l.length (fun kk i wr => ∃ k : Nat, k + kk = l.length ∧ i = .int .i64 k ∧ Hid (idxL (isQ s) (l.drop k) k = idxL (isQ s) l 0) ∧ Hid (Below W.heap.size W wr))
 case atStart => exact ⟨0, by omega, rfl, Lib.hid (by rw [List.drop_zero]), Lib.hid (Below.refl _ _)⟩
 case round =>
  obtain ⟨k, hk, rfl, HW, HR⟩ := hrel
  by_cases hlt : k < l.length
  ·obtain ⟨a, Cp, kp, Cv, kv, Cb, kb, Ce, ke, rfl, _, ⟨p0, p1, p2, p3, p4, _⟩, _⟩ := proc_at H.out (HI.out.on HR.out) hlt
   have HD := Lib.hid (idxL_drop (f := isQ s) hlt)
   rw [HW.out] at HD
   have hv : isQ s l[k] = (l[k].nm.toList == s.toList) := (dec_bytes _ _).symm
   generalize l[k] = y at p0 p1 p2 p3 p4 HD hv
   obtain ⟨yn, yp, yv, yb, ye⟩ := y
   simp only at p0 p1 p2 p3 p4 hv
   have q0 : wr.cell? ⟨b, 0, none⟩ = some (.string s) := (HR.out.cell (p := ⟨b, 0, none⟩) (World.block_lt_of_cell? W _ HB.out)).trans HB.out
   have hbl := World.block_lt_of_cell? wr _ q0
   cases hb : isQ s ⟨yn, yp, yv, yb, ye⟩ with
   | true =>
    rw [hb, if_pos rfl] at HD
    have hv2 : (yn.toList == s.toList) = true := by rw [← hv]; exact hb
    clear hv hb
    go_wp2_with (go_at_call 75; go_in)
    go_ret
    exact ⟨ret_int HD.out.symm, below_step HR.out (below_box _)⟩
   | false =>
    rw [hb, if_neg (by simp)] at HD
    have hv2 : (yn.toList == s.toList) = false := by rw [← hv]; exact hb
    clear hv hb
    go_wp2_with (go_at_call 75; go_in)
    go_roundg (l.length - k - 1)
    case measure => omega
    case rel => exact ⟨k + 1, by omega, by go_num, Lib.hid HD.out.symm, Lib.hid (below_step HR.out (below_box _))⟩
  ·have HD : Hid (idxL (isQ s) l 0 = -1) := Lib.hid (by rw [← HW.out, List.drop_of_length_le (by omega), idxL])
   go_wp2_with fail
   go_ret
   exact ⟨ret_int HD.out.symm, HR.out⟩
def jfP (p : Pg) (s : ByteArray) : Int := if chkOK p = true then idxL (isQ s) p.procs 0 else -1
theorem jfind_any {w : World} {Q : Nat → Prop} {p : Pg} {c0 c1 : Value} (h : ProgI w Q p [c0, c1]) (hsm : SmG p) (s : ByteArray) (W : World) (hI : In Q w W) :
  Calls Tryz.prog 36 #[.agg #[c0, c1], .string s] W fun e w' => e = .returned (.int .i64 (jfP p s)) ∧ Below W.heap.size W w' := by
 have HM := Lib.hid (fun V hV => named_any h hsm V hV)
 obtain ⟨Ag, cg, Ap, cp, rfl, rfl, _, _, _, _, _, hpr⟩ := prog_open h
 have HX := Lib.hid (fun V hV b hb => JIndexQ_any (W := V) hpr hV s b hb)
 have HI := Lib.hid hI
 have HF : Hid (jfP p s = if chkOK p = true then idxL (isQ s) p.procs 0 else -1) := Lib.hid rfl
 clear h hI hpr
 generalize idxL (isQ s) p.procs 0 = z at HX HF
 go_enter Tryz.func36, Tryz.ntmps36
 go_upto_region 1 with fail
 have HBp : Hid (Blk ((W.alloc (.cells #[.slice Ag p.globals.length cg, .slice Ap p.procs.length cp] 25)).alloc (.cells #[.string s] 9)) W.heap.size 25 #[.slice Ag p.globals.length cg, .slice Ap p.procs.length cp]) := Lib.hid ((Blk.new _ _ _).alloc _)
 have HBr : Hid (Blk ((W.alloc (.cells #[.slice Ag p.globals.length cg, .slice Ap p.procs.length cp] 25)).alloc (.cells #[.string s] 9)) (W.heap.size + 1) 9 #[.string s]) := Lib.hid (by have := Blk.new (W.alloc (.cells #[.slice Ag p.globals.length cg, .slice Ap p.procs.length cp] 25)) 9 #[.string s]; rw [World.size_alloc] at this; exact this)
 have HB0 : Hid (Below W.heap.size W ((W.alloc (.cells #[.slice Ag p.globals.length cg, .slice Ap p.procs.length cp] 25)).alloc (.cells #[.string s] 9))) := Lib.hid (below_stepA (below_box _) _)
 generalize World.alloc _ _ = V at HBp HBr HB0 ⊢
 have q0 : V.cell? ⟨W.heap.size, 0, none⟩ = some (.slice Ag p.globals.length cg) := by rw [HBp.out.cell]; rfl
 have q1 : V.cell? ⟨W.heap.size, 1, none⟩ = some (.slice Ap p.procs.length cp) := by rw [HBp.out.cell]; rfl
 have hbl := HBp.out.lt
 have hbr := HBr.out.lt
 cases hm : chkOK p with
 | false =>
  rw [hm] at HM HF
  clear hm
  go_wp2_with (go_at_call 42; refine (HM.out V (HI.out.on HB0.out)).mono ?_; rintro e w1 ⟨rfl, hb1⟩)
  go_ret
  exact ⟨ret_int (by rw [HF.out]; rfl), below_step HB0.out hb1⟩
 | true =>
  rw [hm] at HM HF
  clear hm
  go_wp2_with (first
   | (go_at_call 42; refine (HM.out V (HI.out.on HB0.out)).mono ?_; rintro e w1 ⟨rfl, hb1⟩; have HI1 := Lib.hid ((HI.out.on HB0.out).on hb1); have q0' : w1.cell? ⟨W.heap.size, 0, none⟩ = some (.slice Ag p.globals.length cg) := (hb1.cell (p := ⟨W.heap.size, 0, none⟩) hbl).trans q0; have q1' : w1.cell? ⟨W.heap.size, 1, none⟩ = some (.slice Ap p.procs.length cp) := (hb1.cell (p := ⟨W.heap.size, 1, none⟩) hbl).trans q1; have r0' : w1.cell? ⟨W.heap.size + 1, 0, none⟩ = some (.string s) := (by rw [(HBr.out.below hb1 hbr).cell]; rfl))
   | (go_at_call 74; refine (HX.out w1 HI1.out _ r0').mono ?_; rintro e w2 ⟨rfl, hb2⟩))
  go_ret
  exact ⟨ret_int (by rw [HF.out]; rfl), below_step (below_step HB0.out hb1) hb2⟩
theorem statements_any (v : Value) (W : World) {l : List S} {w : World} {Q : Nat → Prop} (h : StmtsI w Q l v) : Calls Tryz.prog 37 #[v] W fun e w' => e = .returned (.func (.func 76) #[] #[.pointer (some ⟨W.heap.size, 0, none⟩)]) ∧ w' = W.alloc (.cells #[v] 41) := by
 obtain ⟨A, cap, rfl, _⟩ := h.shape
 clear h
 go_enter Tryz.func37, Tryz.ntmps37
 go_wp2_with fail
 go_ret
 exact ⟨rfl, rfl⟩
theorem room_any {F : Fence} (hd : F.depth = none) (k : Nat) : F.room k := fun d h => by rw [hd] at h; cases h
theorem yield_any {F : Fence} (hd : F.depth = none) {m : Nat} (m' : Nat) {P : Program} {l : Nat} {args : Array Value} {W : World} {R : Ending → World → Prop} (h : YieldAt F m P l args W R) : YieldAt F m' P l args W R := by
 obtain ⟨fn, tmps, assign, body, hy, hR⟩ := h
 exact ⟨fn, tmps, assign, body, hy, hR.1, fun c cs _ => hR.2 c cs (room_any hd _)⟩
section
open Go.Shelf
attribute [local go_sem] Oper.semAt_some
set_option maxHeartbeats 2000000 in
/-- the statements of a body, each with the loop around it: what the iterator gives, in whatever loop -/
theorem statements_stops {F : Fence} (hd : F.depth = none) (hf1 : F.fn 76) (hf : F.fn 77) (hro : F.round = none) {w : World} {Q : Nat → Prop} (n Bs n0 : Nat) (own : Nat → Prop) (hQ : ∀ b, Q b → b < n0 ∧ ¬ own b) (hBs : Bs < n0 ∧ ¬ own Bs) {body : List S} {A : Option Addr} {cap : Nat} (hb : StmtsI w Q body (.slice A body.length cap)) (hws : wSL body ≤ 1000000) (w0 : World) (hI : In Q w w0) (hn : n0 ≤ w0.heap.size) (hc : w0.cell? ⟨Bs, 0, none⟩ = some (.slice A body.length cap)) :
 SeqStopsK F n Tryz.prog 76 #[.pointer (some ⟨Bs, 0, none⟩)] (encY (w := w) (Q := Q)) (KpC n0 own) (fun ys => ys.map valY = lpSL body 0) (fun pre => pre.map valY <+: lpSL body 0) (preSL body).length w0 := by
 intro l J Jx W hW hJ hJx hY h0
 have hdd : ∀ k : Nat, (F.depth.isSome = true → 1 ≤ k) := fun k h => by rw [hd] at h; cases h
 have hn2 : n0 ≤ W.heap.size := Nat.le_trans hn hW.size
 have hc2 : W.cell? ⟨Bs, 0, none⟩ = some (.slice A body.length cap) := (hW.cell (p := ⟨Bs, 0, none⟩) (by show Bs < _; omega)).trans hc
 have hbW : Bs < W.heap.size := by omega
 have hp := walk_in hd hf hro l n0 (preSL body).length own hQ J Jx (fun pre V o hj => hJ _ _ _ none hj (World.grownBy_alloc V o none) (fun r e => by cases e)) (fun m pre x V hj hl => yield_any hd m (hY pre x V hj hl)) ((preSL body).length + 1) body (by omega) hws (n - 1) A cap 0 [] W hb (hI.on hW) ⟨by omega, by omega⟩ h0 hn2 (by simp)
 refine callsIn_of_wp Tryz.func76 rfl hf1 ?_ hro
 simp only [Tryz.ntmps76, List.size_toArray, List.length_cons, List.length_nil, Nat.reduceAdd, Nat.reduceSub, Array.replicate_succ, Array.replicate_zero, List.push_toArray, List.append_toArray, List.nil_append, List.cons_append]
 gi_wp2_with ((try refine ⟨hdd _, ?_⟩); gi_at_call 77; refine hp.mono ?_; clear hp; rintro e W1 (⟨rfl, ys, hys, hJ1, _⟩ | ⟨rfl, ys, hys, hx⟩))
 ·go_end0
  exact ⟨⟨_, rfl⟩, .inl ⟨ys, hys, by simpa using hJ1⟩⟩
 ·go_end0
  exact ⟨⟨_, rfl⟩, .inr ⟨ys, hys, by simpa using hx⟩⟩
end
end Go.Proofs.YtehpinnmalpgpaaGreat
