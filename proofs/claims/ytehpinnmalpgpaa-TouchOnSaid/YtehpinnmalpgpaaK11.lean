/- Texts, merged by a program; only what is used. -/
import Derived.Deep.RegionHeld3
import Derived.Deep.AppendLies
import Derived.Deep.LoopGhost
import Derived.Test.YtehpinnmalpgpaaK1
import Derived.Test.YtehpinnmalpgpaaK2
import Derived.Test.YtehpinnmalpgpaaK3
import Derived.Test.YtehpinnmalpgpaaK4
import Derived.Test.YtehpinnmalpgpaaK5
import Derived.Test.YtehpinnmalpgpaaK6
import Derived.Test.YtehpinnmalpgpaaK7
import Derived.Test.YtehpinnmalpgpaaK8
import Derived.Test.YtehpinnmalpgpaaK9
import Derived.Test.YtehpinnmalpgpaaK10
namespace Go.Proofs.Ytehpinnmalpgpaa
open Go.ChangeShapes Go.WideShapes Go.ChangeAt Go.RowKit Go.Deep
set_option linter.unusedVariables false
set_option linter.unusedSimpArgs false
section
variable {P : Program} {w : World}
theorem texts_none {w0 : World} {Q : Nat → Prop} {l : List ByteArray} {m c : Nat} (hT : TextsI w0 Q l (.slice none m c)) : l = [] ∧ m = 0 := by
 obtain ⟨A', cap', css, h1, h2, h3, h4⟩ := hT
 simp only [Value.slice.injEq] at h1
 obtain ⟨rfl, rfl, rfl⟩ := h1
 cases l with
 | nil => exact ⟨rfl, rfl⟩
 | cons s l => obtain ⟨a, ha, _⟩ := h3 (by simp); cases ha
theorem run_append_nil (t ty e : TypeId) (i : TypeInfo) (ht : P.underlying t = some (.slice e)) (hi : P.info? e = some i) (X : Option Addr) (n c c' : Nat) (hnc : n ≤ c) (hX : X = none → n = 0 ∧ c = 0) :
  (Builtin.append_ #[t, t] ty #[.slice X n c, .slice none 0 c']).run P w = .ok (.slice X n c) w := by
 cases X with
 | none =>
  obtain ⟨rfl, rfl⟩ := hX rfl
  simp [Builtin.append_, run_underlying ht, sizeOf, typeInfo, hi, Builtin.lenOf, Builtin.firstCells, loadCells, loadCellsFrom]
 | some b =>
  simp [Builtin.append_, run_underlying ht, sizeOf, typeInfo, hi, Builtin.lenOf, Builtin.firstCells, loadCells, loadCellsFrom, hnc, storeCells]
theorem run_append_texts (base : Nat) (t ty e : TypeId) (i : TypeInfo) (z : Value) (ht : P.underlying t = some (.slice e)) (hi : P.info? e = some i) (hz : i.zero = some z)
  (hsize : i.size = 1) (hby : i.bytes = 16) (hzs : z.cells.size = 1)
  (v : Value) (n : Nat) (xs : List Value) (hown : w.ownsRow base e 1 v n xs)
  (w0 : World) (Q0 : Nat → Prop) (X : Option Addr) (l : List ByteArray) (m c : Nat) (hm : m = l.length) (hT : TextsI w0 Q0 l (.slice X m c)) (hI : In Q0 w0 w)
  (h63 : n + m ≤ 1000000) (hbase : base ≤ w.heap.size) :
  ∃ v' w', (Builtin.append_ #[t, t] ty #[v, .slice X m c]).run P w = .ok v' w' ∧ w'.ownsRow base e 1 v' (n + m) (xs ++ strs l) ∧ w.grownBy w' v.ownBlock := by
 cases X with
 | some ad =>
  obtain ⟨v', w', hr, h2, h3, _, _⟩ := run_append_own_at (P := P) w base t ty e i z 1 16 ht hi hz hsize hby hzs (by decide) v n xs hown ad m c (strs l) (by simp [strs, hm]) (texts_cells hT hI) (by simp [strs, Value.oneCell']) (by unfold maxLen; omega) (by omega) hbase
  exact ⟨v', w', hr, h2, h3⟩
 | none =>
  obtain ⟨rfl, rfl⟩ := texts_none hT
  obtain ⟨Xf, cf, rfl, hoc, hcx⟩ := own_form hown
  have hXn : Xf = none → n = 0 ∧ cf = 0 := fun e' => by
   subst e'
   rcases hown.2 with ⟨h1, h2⟩ | ⟨g, cap', cur, h1, _⟩
   ·injection h1 with _ h3 h4; exact ⟨h3, h4⟩
   ·cases h1
  refine ⟨_, _, run_append_nil (P := P) (w := w) t ty e i ht hi Xf n cf c hoc hXn, ?_, World.grownBy.refl _ _⟩
  rw [Nat.add_zero]
  simpa [strs] using hown
theorem wpList_append_texts {ops : Array Oper} {rest : List Oper} {o : Oper} {a : Act} {Q : Exit → Act → World → Prop} (hgd : o.guard = none) (s x : Operand) (t : TypeId)
  (ho : o.op = .call { callee := .builtin .append, args := #[s, x], argTypes := #[t, t] })
  (base : Nat) (e : TypeId) (i : TypeInfo) (z : Value) (ht : P.underlying t = some (.slice e)) (hi : P.info? e = some i) (hz : i.zero = some z)
  (hsize : i.size = 1) (hby : i.bytes = 16) (hzs : z.cells.size = 1)
  (v : Value) (n : Nat) (xs : List Value) (hs : a.eval s = v) (hown : w.ownsRow base e 1 v n xs)
  (w0 : World) (Q0 : Nat → Prop) (X : Option Addr) (l : List ByteArray) (m c : Nat) (hx : a.eval x = .slice X m c) (hm : m = l.length) (hT : TextsI w0 Q0 l (.slice X m c)) (hI : In Q0 w0 w)
  (h63 : n + m ≤ 1000000) (hbase : base ≤ w.heap.size)
  (h : ∀ v' w', w'.ownsRow base e 1 v' (n + m) (xs ++ strs l) → w.grownBy w' v.ownBlock → wpList P ops Q rest (a.put o.dst v') w') :
  wpList P ops Q (o :: rest) a w := by
 obtain ⟨v', w', hr, h2, h3⟩ := run_append_texts (P := P) (w := w) base t o.type e i z ht hi hz hsize hby hzs v n xs hown w0 Q0 X l m c hm hT hI h63 hbase
 refine wpList_plain hgd fun K hK => ?_
 unfold Oper.wp execOp
 simp only [ho, resolve, invoke, builtin, Sem.run_bind, Sem.run_pure, Result.andThen_ok, List.map_toArray, List.map_cons, List.map_nil, hs, hx, hr]
 exact hK _ _ (h v' w' h2 h3)
end
structure NmI (V wr : World) (l : List ByteArray) (X : Option Addr) (n c : Nat) : Prop where
 row : wr.ownsRow V.heap.size 9 1 (.slice X n c) n (strs l)
 below : Below V.heap.size V wr
def namesP (gl : List ByteArray) (q : Pr) : List ByteArray := gl ++ q.params.map Pa.nm ++ q.vars
set_option maxHeartbeats 2000000 in
set_option maxRecDepth 100000 in
theorem namesIn_any {w : World} {Q : Nat → Prop} {gl : List ByteArray} {vg : Value} {q : Pr} {c0 c1 c2 c3 c4 : Value} (hg : TextsI w Q gl vg) (h : ProcI w Q q [c0, c1, c2, c3, c4]) (hl : gl.length ≤ 16 ∧ q.params.length ≤ 8 ∧ q.vars.length ≤ 16) (W : World) (hI : In Q w W) :
  Calls Try.prog 63 #[vg, .agg #[c0, c1, c2, c3, c4]] W (NewRow (namesP gl q) W) := by
 obtain ⟨vp, vv, vb, ve, hc, hnm, hpp, hvv, hbb, hee⟩ := h
 simp only [List.cons.injEq, and_true] at hc
 obtain ⟨rfl, rfl, rfl, rfl, rfl⟩ := hc
 obtain ⟨Ap, cp, rfl, _, _⟩ := hpp.shape
 obtain ⟨Av, cv, rfl, _, _⟩ := hvv.shape
 obtain ⟨Ab, cb, rfl, _⟩ := hbb.shape
 obtain ⟨Ae, ce, rfl, _⟩ := hee.shape
 obtain ⟨Ag, cg, rfl, _⟩ := hg.shape
 obtain ⟨hl1, hl2, hl3⟩ := hl
 have HG := Lib.hid hg
 have HV := Lib.hid hvv
 have HPp := Lib.hid hpp
 have HI := Lib.hid hI
 have HQ : Hid (∀ j, Q j → j < W.heap.size) := Lib.hid hI.1
 obtain ⟨i0, hi0, hz0, hz1, hz2⟩ := info_parts string_info
 obtain ⟨i1, z1, hi, hzz, hy1, hy2⟩ := info_frT
 obtain ⟨N, hN⟩ : ∃ N, N = gl.length + q.params.length + q.vars.length := ⟨_, rfl⟩
 obtain ⟨M, hM⟩ : ∃ M, M = madeCells z1.cells (N * i1.size) := ⟨_, rfl⟩
 have hMs : M.size = N * 1 := by rw [hM, size_madeCells, hy1]
 have hbi : (i1.bytes : Int) * (N : Int) ≤ 281474976710656 := by have h := Int.ofNat_le.2 (Nat.mul_le_mul hy2 (show N ≤ 40 by omega)); rw [Int.natCast_mul] at h; omega
 have hmk : ∀ W : World, (Instr.makeSlice 22 (.int .i64 0) (.int .i64 (N : Int))).run Try.prog W = .ok (.slice (some ⟨W.heap.size, 0, none⟩) 0 N) (W.alloc (.cells M 9)) := fun W => by
  have h := run_make (P := Try.prog) W 22 9 i1 z1 Try.underlying22 hi hzz .i64 .i64 0 (N : Int) (Int.le_refl _) (by omega) hbi (by omega)
  simp only [Int.toNat_zero, Int.toNat_natCast] at h
  rw [← hM] at h
  exact h
 have hNi : (gl.length : Int) + (q.params.length : Int) + (q.vars.length : Int) = (N : Int) := by omega
 rw [← hNi] at hmk
 have HMs := Lib.hid hMs
 have HN : Hid (N ≤ 40) := Lib.hid (by omega)
 clear hNi hN
 clear hg hpp hvv hbb hee hI hM hMs hbi hi hzz hy1 hy2
 go_enter Try.func63, Try.ntmps63
 go_upto_region 1 with fail
 have HBp : Hid (Blk (W.alloc (.cells #[.string q.nm, .slice Ap q.params.length cp, .slice Av q.vars.length cv, .slice Ab q.body.length cb, .slice Ae q.end_.length ce] 45)) W.heap.size 45 #[.string q.nm, .slice Ap q.params.length cp, .slice Av q.vars.length cv, .slice Ab q.body.length cb, .slice Ae q.end_.length ce]) := Lib.hid (Blk.new _ _ _)
 have HB0 : Hid (Below W.heap.size W (W.alloc (.cells #[.string q.nm, .slice Ap q.params.length cp, .slice Av q.vars.length cv, .slice Ab q.body.length cb, .slice Ae q.end_.length ce] 45))) := Lib.hid (below_box _)
 generalize World.alloc _ _ = V at HBp HB0 ⊢
 have q1 : V.cell? ⟨W.heap.size, 1, none⟩ = some (.slice Ap q.params.length cp) := by rw [HBp.out.cell]; rfl
 have q2 : V.cell? ⟨W.heap.size, 2, none⟩ = some (.slice Av q.vars.length cv) := by rw [HBp.out.cell]; rfl
 have hbl := HBp.out.lt
 have HI0 := Lib.hid (HI.out.on HB0.out)
 go_upto_region 2 with fail
 have HO1 : Hid ((V.alloc (.cells M 9)).ownsRow V.heap.size 9 1 (.slice (some ⟨V.heap.size, 0, none⟩) 0 N) 0 []) := Lib.hid (World.ownsRow_made V M N (Nat.le_refl _) (by have := HN.out; unfold maxLen; omega) HMs.out)
 have HB1 : Hid (Below V.heap.size V (V.alloc (.cells M 9))) := Lib.hid (below_box _)
 clear q1 q2 hmk HMs
 generalize World.alloc V _ = V1 at HO1 HB1 ⊢
 have HI1 := Lib.hid (HI0.out.on HB1.out)
 go_upto_region 3 with (at_builtin; refine wpList_append_texts rfl (.tmp 19) (.tmp 20) 22 rfl V.heap.size 9 i0 _ Try.underlying22 hi0 hz0 hz1 hz2 rfl _ 0 [] rfl HO1.out w Q Ag gl gl.length cg rfl rfl HG.out HI1.out (by omega) HB1.out.size ?_; intro v2 w2 hown2 hg2; obtain ⟨X2, k2, rfl, _, _⟩ := own_shape hown2; have HO2 := Lib.hid hown2; have HG2 := Lib.hid hg2; clear hown2 hg2)
 have HS : Hid (NmI V w2 (gl ++ (q.params.take 0).map Pa.nm) X2 (gl.length + 0) k2) := Lib.hid ⟨by rw [List.take_zero, List.map_nil, List.append_nil, Nat.add_zero]; have := HO2.out; rwa [Nat.zero_add, List.nil_append] at this, HB1.out.grown HG2.out HB1.out.size (fun j hj => (HO1.out.lt j hj).1)⟩
 have HBp2 := Lib.hid (HBp.out.below HS.out.below hbl)
 clear hbl HO1 HB1 HI1 HO2 HG2 HN
 have q1 : w2.cell? ⟨W.heap.size, 1, none⟩ = some (.slice Ap q.params.length cp) := by rw [HBp2.out.cell]; rfl
 go_upto_region 4 with fail
 clear q1 HBp2
 go_loopw [5, 25] (fun ov iv wr => ∃ (k : Nat) (X : Option Addr) (c : Nat), k ≤ q.params.length ∧ iv = .int .i64 k ∧ ov = .slice X (gl.length + k) c ∧ Hid (NmI V wr (gl ++ (q.params.take k).map Pa.nm) X (gl.length + k) c)) (fun _ iv _ => q.params.length - (intOf iv).toNat)
 case atStart => exact ⟨0, X2, k2, Nat.zero_le _, rfl, by simp, HS⟩
 case round =>
  clear HS
  obtain ⟨k, X, c, hk, rfl, rfl, HR⟩ := hrel
  have HIr := Lib.hid (HI0.out.on HR.out.below)
  have HBr := Lib.hid (HBp.out.below HR.out.below HBp.out.lt)
  by_cases hlt : k < q.params.length
  ·obtain ⟨a, rfl, _, ⟨p0, p1, _⟩, _⟩ := par_at HPp.out HIr.out hlt
   have HT : Hid (q.params.take (k + 1) = q.params.take k ++ [q.params[k]]) := Lib.hid (List.take_succ_eq_append_getElem hlt)
   generalize q.params[k] = x at p0 p1 HT
   obtain ⟨xn, xr⟩ := x
   simp only at p0 p1
   have hs4 : (strs (gl ++ List.map Pa.nm (q.params.take k))).length = gl.length + k := by simp [strs]; omega
   go_upto_region 6 with fail
   have HBx : Hid (Blk (wr.alloc (.cells #[.string xn, .bool xr] 48)) wr.heap.size 48 #[.string xn, .bool xr]) := Lib.hid (Blk.new _ _ _)
   have HO4 : Hid ((wr.alloc (.cells #[.string xn, .bool xr] 48)).ownsRow V.heap.size 9 1 (.slice X (gl.length + k) c) (gl.length + k) (strs (gl ++ (q.params.take k).map Pa.nm))) := Lib.hid (HR.out.row.alloc _)
   have HB4 : Hid (Below V.heap.size V (wr.alloc (.cells #[.string xn, .bool xr] 48))) := Lib.hid (below_stepA HR.out.below _)
   clear p0 p1
   generalize World.alloc wr _ = V4 at HBx HO4 HB4 ⊢
   generalize wr.heap.size = bx at HBx ⊢
   have z0 : V4.cell? ⟨bx, 0, none⟩ = some (.string xn) := by rw [HBx.out.cell]; rfl
   have HW := Lib.hid (new_one V4 xn)
   have HO5 : Hid ((V4.alloc (.cells #[.string xn] 9)).ownsRow V.heap.size 9 1 (.slice X (gl.length + k) c) (gl.length + k) (strs (gl ++ (q.params.take k).map Pa.nm))) := Lib.hid (HO4.out.alloc _)
   have HB5 : Hid (Below V.heap.size V (V4.alloc (.cells #[.string xn] 9))) := Lib.hid (below_stepA HB4.out _)
   go_upto_region 7 with (at_builtin; refine wpList_append_own_at _ rfl (.tmp 29) (.tmp 32) 22 rfl V.heap.size 9 i0 _ 1 16 Try.underlying22 hi0 hz0 hz1 hz2 rfl (by decide) _ (gl.length + k) (strs (gl ++ (q.params.take k).map Pa.nm)) rfl HO5.out ⟨V4.heap.size, 0, none⟩ 1 1 [.string xn] rfl rfl HW.out (by simp [Value.oneCell']) (by unfold maxLen; omega) (by omega) HB5.out.size ?_; intro v6 w6 hown6 hg6 _ hat6; obtain ⟨X6, k6, rfl, _, _⟩ := own_shape hown6; have HO6 := Lib.hid hown6; have HG6 := Lib.hid hg6; clear hown6 hg6 hat6)
   have HS : Hid (NmI V w6 (gl ++ (q.params.take (k + 1)).map Pa.nm) X6 (gl.length + (k + 1)) k6) := Lib.hid ⟨by rw [HT.out, List.map_append, ← List.append_assoc, strs_append]; exact HO6.out, HB5.out.grown HG6.out HB5.out.size (fun j hj => (HO5.out.lt j hj).1)⟩
   clear z0
   go_wp2_with fail
   go_roundw
   case rel => exact ⟨k + 1, X6, k6, by omega, by go_num, rfl, HS⟩
   case measure => simp [intOf]; omega
  ·have hke : k = q.params.length := by omega
   subst hke
   have q2 : wr.cell? ⟨W.heap.size, 2, none⟩ = some (.slice Av q.vars.length cv) := by rw [HBr.out.cell]; rfl
   go_wp2_with (at_builtin; refine wpList_append_texts rfl (.tmp 35) (.tmp 37) 22 rfl V.heap.size 9 i0 _ Try.underlying22 hi0 hz0 hz1 hz2 rfl _ (gl.length + q.params.length) (strs (gl ++ (q.params.take q.params.length).map Pa.nm)) rfl HR.out.row w Q Av q.vars q.vars.length cv rfl rfl HV.out HIr.out (by omega) HR.out.below.size ?_; intro v7 w7 hown7 hg7; have HO7 := Lib.hid hown7; have HG7 := Lib.hid hg7; clear hown7 hg7)
   go_ret
   refine ⟨v7, rfl, own_lower ?_ HB0.out.size, below_step HB0.out (HR.out.below.grown HG7.out HR.out.below.size (fun j hj => (HR.out.row.lt j hj).1))⟩
   have h := HO7.out
   rw [List.take_length, ← strs_append] at h
   rw [show (namesP gl q).length = gl.length + q.params.length + q.vars.length by simp [namesP]; omega]
   exact h
end Go.Proofs.Ytehpinnmalpgpaa
namespace Go.Proofs.Ytehpinnmalpgpaa.U
open Go.ChangeShapes Go.WideShapes Go.ChangeAt Go.RowKit Go.Deep
set_option linter.unusedVariables false
set_option linter.unusedSimpArgs false
theorem setCell_same {w : World} {a : Addr} {v : Value} (h : w.cell? a = some v) : w.setCell a v = w := by
  have hm : (w.setCell a v).heap = w.heap := by
    unfold World.cell? at h
    unfold World.setCell
    apply Array.ext
    · simp
    · intro i h1 h2
      simp only [Array.getElem_modify]
      split
      · rename_i hi
        subst hi
        rw [Array.getElem?_eq_getElem h2] at h
        split at h
        · rename_i c t f he
          injection he with he
          rw [he]
          split at h
          · cases h
          · rename_i hs
            simp only [hs]
            simp only [Bool.false_eq_true, if_false]
            rw [set_same h]
        · cases h
      · rfl
  calc w.setCell a v = { w with heap := (w.setCell a v).heap } := rfl
    _ = w := by rw [hm]
end Go.Proofs.Ytehpinnmalpgpaa.U
namespace Go.Proofs.Ytehpinnmalpgpaa
open Go.ChangeShapes Go.WideShapes Go.ChangeAt Go.RowKit Go.Deep
set_option linter.unusedVariables false
set_option linter.unusedSimpArgs false
theorem may_lens {p : Pg} (hm : mayP p = true) : p.globals.length ≤ 16 ∧ p.procs.length ≤ 16 ∧ ∀ q ∈ p.procs, q.params.length ≤ 8 ∧ q.vars.length ≤ 16 := by
 have h1 : p.globals.length ≤ 16 ∧ p.procs.length ≤ 16 := by
  have h := hm
  unfold mayP at h
  simp only [Bool.and_eq_true, Bool.not_eq_true', decide_eq_false_iff_not] at h
  omega
 refine ⟨h1.1, h1.2, fun q hq => ?_⟩
 have hh : headOk q = true := by
  rw [← rMayP_eq] at hm
  unfold rMayP at hm
  simp only [Bool.and_eq_true] at hm
  exact List.all_eq_true.1 hm.1.1.2 q hq
 unfold headOk at hh
 simp only [Bool.and_eq_true, Bool.not_eq_true', decide_eq_false_iff_not] at hh
 omega
theorem own_at {w : World} {base n : Nat} {e : TypeId} {v : Value} {xs : List Value} (h : w.ownsRow base e 1 v n xs) {k : Nat} (hk : k < n) :
  ∃ a cap, v = .slice (some a) n cap ∧ (∀ x, xs[k]? = some x → w.cell? (a.add k) = some x) ∧ w.frozen? (a.add k) = false ∧ base ≤ (a.add k).block := by
 obtain ⟨hl, h'⟩ := h
 rcases h' with ⟨_, rfl⟩ | ⟨g, cap, cur, rfl, hb, hg, hnc, hm, hs, ht⟩
 ·omega
 ·refine ⟨⟨g, 0, none⟩, cap, rfl, fun x hx => own_cells (m := n) (cap := cap) (n := n) (w := w) (base := base) (e := e) (size := 1) (xs := xs) ⟨hl, .inr ⟨g, cap, cur, rfl, hb, hg, hnc, hm, hs, ht⟩⟩ k x hx, ?_, ?_⟩
  ·rw [addr0]
   exact (show Blk w g e cur from hg).frozen k
  ·rw [addr0]; exact hb
end Go.Proofs.Ytehpinnmalpgpaa
namespace Go.Proofs.Ytehpinnmalpgpaa
open Go
set_option linter.unusedVariables false
section
variable {P : Program} {md : Region.Mode} {ops : Array Oper} {Q : Exit → Act → World → Prop} {S : World → Prop} {z : Nat}
/-- as wpAnyH, but behind z nothing is asked of the world -/
def wpAnyL (P : Program) (md : Region.Mode) (ops : Array Oper) (Q : Exit → Act → World → Prop) (S : World → Prop) (z : Nat) : Nat → Array Bool → Act → World → Prop
  | 0, listed, a, w => Region.ready md ops listed = [] ∧ Q .normal a w
  | fuel + 1, listed, a, w =>
    (Region.ready md ops listed = [] → Q .normal a w) ∧
    ∀ i ∈ Region.ready md ops listed, wpOp P ops Q i (fun a' w' => (i ≠ z → S w') ∧ wpAnyL P md ops Q S z fuel (listed.setIfInBounds i true) a' w') a w
theorem wpAny_of_last : ∀ (fuel : Nat) (listed : Array Bool) (a : Act) (w : World), wpAnyL P md ops Q S z fuel listed a w → wpAny P md ops Q fuel listed a w
  | 0, _, _, _, h => h
  | fuel + 1, _, _, _, h => ⟨h.1, fun i hi => wpOp_mono (fun a' w' h' => wpAny_of_last fuel _ a' w' h'.2) (h.2 i hi)⟩
/-- the last one waits for every other -/
def waitsAll (md : Region.Mode) (ops : Array Oper) (z : Nat) : Bool := (List.range ops.size).all fun i => i == z || ((ops[z]?).map (·.after.any fun e => Region.binds md e && e.on == i)).getD false
theorem waits_spec (h : waitsAll md ops z = true) {i : Nat} (hi : i < ops.size) (hne : i ≠ z) : ∃ oz, ops[z]? = some oz ∧ ∃ e ∈ oz.after, Region.binds md e = true ∧ e.on = i := by
  have h1 := List.all_eq_true.1 h i (List.mem_range.2 hi)
  rw [Bool.or_eq_true] at h1
  rcases h1 with h1 | h1
  · exact absurd (by simpa using h1) hne
  · cases hz : ops[z]? with
    | none => rw [hz] at h1; cases h1
    | some oz =>
      rw [hz] at h1
      simp only [Option.map_some, Option.getD_some, Array.any_eq_true, Bool.and_eq_true, beq_iff_eq] at h1
      obtain ⟨k, hk, h2, h3⟩ := h1
      exact ⟨oz, rfl, _, Array.getElem_mem hk, h2, h3⟩
theorem lastTake {i : Nat} {oi : Oper} {v : Value} (hi : ops[i]? = some oi) (hz : waitsAll md ops z = true) (hiz : i ≠ z) (hsel : ∀ (j : Nat) (o : Oper) cs b, ops[j]? = some o → o.op ≠ .select cs b)
    (hQ : ∀ c a w, Q (.panic c) (a.put oi.dst v) w → Q (.panic c) a w) :
    ∀ (fuel : Nat) (listed : Array Bool) (a : Act) (w : World),
      (∀ j oj, ops[j]? = some oj → j ≠ i → listed.getD j true = false → (∀ e ∈ oj.after, Region.binds md e = true → e.on ≠ i) → oi.apart ops oj = true) →
      i ∈ Region.ready md ops listed → YieldsIf P ops S oi v a → S w →
      wpAnyL P md ops Q S z fuel (listed.setIfInBounds i true) (a.put oi.dst v) w → wpAnyL P md ops Q S z (fuel + 1) listed a w := by
  have hlt : i < ops.size := (Array.getElem?_eq_some_iff.1 hi).1
  -- one that may come up beside i does not wait for it
  have key : ∀ (listed : Array Bool) (j : Nat), i ∈ Region.ready md ops listed → j ∈ Region.ready md ops listed → j ≠ i → ∃ oj, ops[j]? = some oj ∧ listed.getD j true = false ∧ ∀ e ∈ oj.after, Region.binds md e = true → e.on ≠ i := by
    intro listed j hr hj hji
    obtain ⟨hjun, oj, hoj, hall⟩ := mem_ready.1 hj
    refine ⟨oj, hoj, hjun, fun e he hb heq => ?_⟩
    have h1 := hall e he hb
    have h0 := (mem_ready.1 hr).1
    rw [heq] at h1
    rcases Nat.lt_or_ge i listed.size with h' | h'
    · simp [h'] at h0 h1; rw [h0] at h1; cases h1
    · simp [Array.getElem?_eq_none h'] at h1
  intro fuel
  induction fuel with
  | zero =>
    intro listed a w _ hr hy hS H
    refine ⟨fun h => (by rw [h] at hr; cases hr), fun j hj => ?_⟩
    by_cases hji : j = i
    · subst hji; exact hy.wpOp hi hS ⟨fun _ => hS, H⟩
    · have := ready_mono hj hji
      rw [H.1] at this
      cases this
  | succ fuel ih =>
    intro listed a w hfree hr hy hS H
    refine ⟨fun h => (by rw [h] at hr; cases hr), fun j hj => ?_⟩
    by_cases hji : j = i
    · subst hji; exact hy.wpOp hi hS ⟨fun _ => hS, H⟩
    · obtain ⟨oj, hoj, hjun, hnot⟩ := key listed j hr hj hji
      have hjz : j ≠ z := by
        rintro rfl
        obtain ⟨oz, hoz, e, he, hb, heq⟩ := waits_spec hz hlt hiz
        rw [hoj] at hoz
        injection hoz with hoz
        subst hoz
        exact hnot e he hb heq
      have h2 := wpOp_putIf hoj (hfree j oj hoj hji hjun hnot) (fun cs b => hsel i oi cs b hi) (fun cs b => hsel j oj cs b hoj) hQ hy (H.2 j (ready_mono hj hji))
      refine wpOp_mono (fun a' w' h3 => ⟨h3.2.1, ih (listed.setIfInBounds j true) a' w' (fun k ok hk hki hun hno => hfree k ok hk hki ?_ hno) (ready_mono hr (Ne.symm hji)) h3.1 (h3.2.1 hjz) ?_⟩) h2
      · by_cases hjk : j = k
        · subst hjk; exact hjun
        · rw [getD_set_ne true hjk] at hun; exact hun
      · rw [Array.setIfInBounds_comm _ _ hji]
        exact h3.2.2
theorem wpAnyL_take {i : Nat} {oi : Oper} {v : Value} {fuel : Nat} {listed : Array Bool} {a : Act} {w : World} (hi : ops[i]? = some oi) (hz : waitsAll md ops z = true) (hiz : i ≠ z)
    (hs : Region.noSelect ops = true) (hf : Region.free md ops listed i = true) (hr : (Region.ready md ops listed).contains i = true)
    (hQ : ∀ c a w, Q (.panic c) (a.put oi.dst v) w → Q (.panic c) a w) (hy : YieldsIf P ops S oi v a) (hS : S w)
    (h : wpAnyL P md ops Q S z fuel (listed.setIfInBounds i true) (a.put oi.dst v) w) : wpAnyL P md ops Q S z (fuel + 1) listed a w :=
  lastTake hi hz hiz (Region.noSelect_spec hs) hQ fuel listed a w (Region.free_spec hi hf) (by simpa using hr) hy hS h
/-- one alone may come up -/
theorem wpAnyL_one {i : Nat} {fuel : Nat} {listed : Array Bool} {a : Act} {w : World} (hr : Region.ready md ops listed = [i])
    (h : wpOp P ops Q i (fun a' w' => (i ≠ z → S w') ∧ wpAnyL P md ops Q S z fuel (listed.setIfInBounds i true) a' w') a w) : wpAnyL P md ops Q S z (fuel + 1) listed a w :=
  ⟨fun h0 => absurd (hr.symm.trans h0) (by simp), fun j hj => by rw [hr] at hj; rw [List.mem_singleton.1 hj]; exact h⟩
theorem wpAnyL_step {i : Nat} {o : Oper} {fuel : Nat} {listed : Array Bool} {a : Act} {w : World} (hr : Region.ready md ops listed = [i]) (ho : ops[i]? = some o)
    (h : ∀ K' : Act → World → Prop, Shut (∀ a w, (i ≠ z → S w) → wpAnyL P md ops Q S z fuel (listed.setIfInBounds i true) a w → K' a w) → if Region.wanted o (yielded ops a.tmps) = true then Oper.wp P o a w K' Q else K' (a.put o.dst undef) w) : wpAnyL P md ops Q S z (fuel + 1) listed a w :=
  wpAnyL_one hr (wpOp_step ho (fun K' hK => h K' (fun a w h1 h2 => hK a w ⟨h1, h2⟩)))
theorem wpAnyL_done {listed : Array Bool} {a : Act} {w : World} (hr : Region.ready md ops listed = []) (h : Q .normal a w) : ∀ fuel, wpAnyL P md ops Q S z fuel listed a w
  | 0 => ⟨hr, h⟩
  | _ + 1 => ⟨fun _ => h, by rw [hr]; simp⟩
theorem wp_region_last {id : Nat} {a : Act} {w : World} (S : World → Prop) (z : Nat) (hm : P.follows .mixedOrders = true)
    (h : wpAnyL P .any ops Q S z ops.size (Array.replicate ops.size false) a { w with drawn := w.drawn + 1 }) : (Code.region id ops true).wp P Q a w :=
  wp_region_any hm (wpAny_of_last _ _ _ _ h)
end
end Go.Proofs.Ytehpinnmalpgpaa
