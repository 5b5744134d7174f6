/- Texts, merged by a program; only what is used. -/
import Derived.Test.YtnnblklbjbkikaaM1
import Derived.Test.YtnnblklbjbkikaaM2
import Derived.Test.YtnnblklbjbkikaaM3
import Derived.Test.YtnnblklbjbkikaaM4
import Derived.Test.YtnnblklbjbkikaaM5
import Derived.Test.YtnnblklbjbkikaaM6
import Derived.Test.YtnnblklbjbkikaaM7
import Derived.Test.YtnnblklbjbkikaaM8
import Derived.Test.YtnnblklbjbkikaaM9
import Derived.Test.YtnnblklbjbkikaaM10
import Derived.Test.YtnnblklbjbkikaaM11
import Derived.Test.YtnnblklbjbkikaaM12
import Derived.Test.YtnnblklbjbkikaaM13
import Derived.Test.YtnnblklbjbkikaaM15
import Derived.Test.YtnnblklbjbkikaaM20
import Derived.Test.YtnnblklbjbkikaaM21
namespace Go.Proofs.Ytnnblklbjbkikaa
open Go.ChangeShapes Go.WideShapes Go.ChangeAt Go.RowKit Go.Deep
set_option linter.unusedVariables false
set_option linter.unusedSimpArgs false
set_option linter.unusedSectionVars false
theorem oth_oth (a b s : ByteArray) : oth a b (oth a b s) = s := by
  unfold oth
  by_cases h1 : s = a
  · subst h1
    rw [if_pos rfl]
    by_cases h2 : b = s
    · rw [if_pos h2, h2]
    · rw [if_neg h2, if_pos rfl]
  · rw [if_neg h1]
    by_cases h2 : s = b
    · subst h2
      rw [if_pos rfl, if_pos rfl]
    · rw [if_neg h2, if_neg h1, if_neg h2]
theorem oth_map (a b : ByteArray) (l : List ByteArray) : (l.map (oth a b)).map (oth a b) = l := by
  rw [List.map_map]
  exact (List.map_congr_left (fun x _ => oth_oth a b x)).trans (List.map_id' l)
def swA (a b : ByteArray) (r : Ar) : Ar := ⟨r.ref, oth a b r.nm, swE a b r.x⟩
mutual
def swS (a b : ByteArray) : S → S
  | .mk id kind labels nm proc x has args th el => .mk id kind (labels.map (oth a b)) (oth a b nm) (oth a b proc) (swE a b x) has (args.map (swA a b)) (swSL a b th) (swSL a b el)
def swSL (a b : ByteArray) : List S → List S
  | [] => []
  | s :: l => swS a b s :: swSL a b l
end
theorem swSL_map (a b : ByteArray) : ∀ l : List S, swSL a b l = l.map (swS a b)
  | [] => by rw [swSL]; rfl
  | s :: l => by rw [swSL, List.map_cons, swSL_map a b l]
theorem swSL_len (a b : ByteArray) (l : List S) : (swSL a b l).length = l.length := by rw [swSL_map, List.length_map]
theorem swSL_take (a b : ByteArray) {l : List S} {k : Nat} (h : k < l.length) : (swSL a b l).take (k + 1) = (swSL a b l).take k ++ [swS a b l[k]] := by
  rw [swSL_map, List.take_succ_eq_append_getElem (by rw [List.length_map]; exact h), List.getElem_map]
def swPa (a b : ByteArray) (p : Pa) : Pa := ⟨oth a b p.nm, p.ref⟩
def swQ (a b : ByteArray) (q : Pr) : Pr := ⟨oth a b q.nm, q.params.map (swPa a b), q.vars.map (oth a b), swSL a b q.body, q.end_.map (oth a b)⟩
def swP (a b : ByteArray) (p : Pg) : Pg := ⟨p.globals.map (oth a b), p.procs.map (swQ a b)⟩
mutual
theorem swE_swE (a b : ByteArray) : ∀ e : E, swE a b (swE a b e) = e
  | .mk op n nm ks => by rw [swE, swE, oth_oth, swL_swL a b ks]
theorem swL_swL (a b : ByteArray) : ∀ l : List E, swL a b (swL a b l) = l
  | [] => by rw [swL, swL]
  | k :: l => by rw [swL, swL, swE_swE a b k, swL_swL a b l]
end
theorem swA_swA (a b : ByteArray) (r : Ar) : swA a b (swA a b r) = r := by
  obtain ⟨x, y, z⟩ := r
  simp only [swA, oth_oth, swE_swE]
theorem swA_map (a b : ByteArray) (l : List Ar) : (l.map (swA a b)).map (swA a b) = l := by
  rw [List.map_map]
  exact (List.map_congr_left (fun x _ => swA_swA a b x)).trans (List.map_id' l)
mutual
theorem swS_swS (a b : ByteArray) : ∀ s : S, swS a b (swS a b s) = s
  | .mk id kind labels nm proc x has args th el => by rw [swS, swS, oth_map, oth_oth, oth_oth, swE_swE, swA_map, swSL_swSL a b th, swSL_swSL a b el]
theorem swSL_swSL (a b : ByteArray) : ∀ l : List S, swSL a b (swSL a b l) = l
  | [] => by rw [swSL, swSL]
  | s :: l => by rw [swSL, swSL, swS_swS a b s, swSL_swSL a b l]
end
theorem swPa_map (a b : ByteArray) (l : List Pa) : (l.map (swPa a b)).map (swPa a b) = l := by
  rw [List.map_map]
  refine (List.map_congr_left (fun x _ => ?_)).trans (List.map_id' l)
  obtain ⟨y, z⟩ := x
  simp only [Function.comp, swPa, oth_oth]
theorem swQ_swQ (a b : ByteArray) (q : Pr) : swQ a b (swQ a b q) = q := by
  obtain ⟨n, p, v, bo, e⟩ := q
  simp only [swQ, oth_oth, oth_map, swPa_map, swSL_swSL]
/-- names changed for each other twice: what it was -/
theorem swP_swP (a b : ByteArray) (p : Pg) : swP a b (swP a b p) = p := by
  obtain ⟨g, l⟩ := p
  have h : (l.map (swQ a b)).map (swQ a b) = l := by
    rw [List.map_map]
    exact (List.map_congr_left (fun x _ => swQ_swQ a b x)).trans (List.map_id' l)
  simp only [swP, oth_map, h]
mutual
theorem preS_sw (a b : ByteArray) : ∀ s : S, (preS (swS a b s)).length = (preS s).length
  | .mk id kind labels nm proc x has args th el => by
    rw [swS, preS, preS]
    simp only [List.length_cons, List.length_append, preSL_sw a b th, preSL_sw a b el]
theorem preSL_sw (a b : ByteArray) : ∀ l : List S, (preSL (swSL a b l)).length = (preSL l).length
  | [] => by rw [swSL]
  | s :: l => by rw [swSL, preSL, preSL, List.length_append, List.length_append, preS_sw a b s, preSL_sw a b l]
end
/-- the count stays -/
theorem cntP_sw (a b : ByteArray) (p : Pg) : cntP (swP a b p) = cntP p := by
  obtain ⟨g, l⟩ := p
  show cntL (l.map (swQ a b)) = cntL l
  induction l with
  | nil => rfl
  | cons q l ih => rw [List.map_cons, cntL, cntL, ih]; congr 1; exact preSL_sw a b q.body
section
variable {a b : ByteArray} (ha : isNm (bl a) = true) (hb : isNm (bl b) = true)
include ha hb
theorem oth_nm (s : ByteArray) : isNm (bl (oth a b s)) = isNm (bl s) := by
  unfold oth
  split
  · next h => rw [h, ha, hb]
  · split
    · next h => rw [h, ha, hb]
    · rfl
theorem oth_emp (s : ByteArray) : (oth a b s).toList.isEmpty = s.toList.isEmpty := by
  have ea : a.toList.isEmpty = false := by rw [toList_emp]; exact decide_eq_false (by have := (nm_short ha).1; omega)
  have eb : b.toList.isEmpty = false := by rw [toList_emp]; exact decide_eq_false (by have := (nm_short hb).1; omega)
  unfold oth
  split
  · next h => rw [h, ea, eb]
  · split
    · next h => rw [h, ea, eb]
    · rfl
theorem oth_size (s : ByteArray) : decide ((oth a b s).size = 0) = decide (s.size = 0) := by
  have h1 := (nm_short ha).1
  have h2 := (nm_short hb).1
  unfold oth
  split
  · next h => subst h; rw [Bool.eq_iff_iff]; simp only [decide_eq_true_eq]; omega
  · split
    · next h => subst h; rw [Bool.eq_iff_iff]; simp only [decide_eq_true_eq]; omega
    · rfl
theorem allN_oth (l : List ByteArray) : allN (l.map (oth a b)) = allN l := by
  unfold allN
  rw [List.all_map]
  congr 1
  funext s
  exact oth_nm ha hb s
mutual
theorem mayE_sw : ∀ (e : E) (d : Nat), mayE d (swE a b e) = mayE d e
  | .mk op n nm ks, d => by
    rw [swE, mayE, mayE, oth_size ha hb, oth_nm ha hb, swL_len, mayL_sw ks]
theorem mayL_sw : ∀ (l : List E) (d : Nat), mayL d (swL a b l) = mayL d l
  | [], d => by rw [swL]
  | k :: l, d => by rw [swL, mayL, mayL, mayE_sw k, mayL_sw l]
end
theorem noneE_sw : ∀ e : E, noneE (swE a b e) = noneE e
  | .mk op n nm ks => by rw [swE, noneE, noneE, oth_emp ha hb, swL_len]
theorem xOk_sw (e : E) (t : Bool) : xOk (swE a b e) t = xOk e t := by
  unfold xOk; rw [mayE_sw ha hb, noneE_sw ha hb]
theorem nmOk_sw (s : ByteArray) (t : Bool) : nmOk (oth a b s) t = nmOk s t := by
  unfold nmOk; rw [oth_nm ha hb, oth_emp ha hb]
theorem argsOk_sw (l : List Ar) : argsOk (l.map (swA a b)) = argsOk l := by
  unfold argsOk
  rw [List.all_map]
  congr 1
  funext r
  show (nmOk (oth a b r.nm) r.ref && xOk (swE a b r.x) (!r.ref)) = argOk r
  rw [nmOk_sw ha hb, xOk_sw ha hb]; rfl
theorem stmtOk_sw : ∀ s : S, stmtOk (swS a b s) = stmtOk s
  | .mk id kind labels nm proc x has args th el => by
    rw [swS, stmtOk, stmtOk]
    simp only [oth_emp ha hb, nmOk_sw ha hb, allN_oth ha hb, xOk_sw ha hb, argsOk_sw ha hb, swSL_len, List.length_map]
mutual
theorem oneOk_sw : ∀ (s : S) (d c : Nat), oneOk (swS a b s) d c = oneOk s d c
  | .mk id kind labels nm proc x has args th el, d, c => by
    have h := stmtOk_sw ha hb (.mk id kind labels nm proc x has args th el)
    have h1 := fun d c => blkOk_sw th d c
    have h2 := fun d c => blkOk_sw el d c
    rw [swS] at h ⊢
    rw [oneOk, oneOk, h]
    simp only [h1, h2]
theorem blkOk_sw : ∀ (l : List S) (d c : Nat), blkOk (swSL a b l) d c = blkOk l d c
  | [], d, c => by rw [swSL]
  | s :: l, d, c => by
    have h1 := fun c => blkOk_sw l d c
    rw [swSL, blkOk, blkOk, oneOk_sw s]
    simp only [h1]
end
theorem headOk_sw (q : Pr) : headOk (swQ a b q) = headOk q := by
  obtain ⟨n, p, v, bo, e⟩ := q
  have hp : parsOk (p.map (swPa a b)) = parsOk p := by
    unfold parsOk
    rw [List.all_map]
    congr 1
    funext s
    exact oth_nm ha hb s.nm
  simp only [headOk, swQ, List.length_map, hp, oth_nm ha hb, allN_oth ha hb]
theorem prOk_sw : ∀ (l : List Pr) (c : Nat), prOk (l.map (swQ a b)) c = prOk l c
  | [], c => rfl
  | q :: l, c => by
    have h : (swQ a b q).body = swSL a b q.body := rfl
    have h1 := fun c => prOk_sw l c
    rw [List.map_cons, prOk, prOk, headOk_sw ha hb, h, blkOk_sw ha hb]
    simp only [h1]
/-- what may be may be -/
theorem mayP_sw (p : Pg) : mayP (swP a b p) = mayP p := by
  obtain ⟨g, l⟩ := p
  simp only [mayP, swP, List.length_map, allN_oth ha hb, prOk_sw ha hb]
end
end Go.Proofs.Ytnnblklbjbkikaa
