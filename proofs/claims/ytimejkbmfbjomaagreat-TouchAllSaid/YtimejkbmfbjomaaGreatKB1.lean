/- Texts, merged by a program; only what is used. -/
import Derived.Deep.AppendLies
import Derived.Maps.AppendAt
import Derived.Maps.Range
import Derived.Deep.RegionHeld3
import Derived.Deep.LoopGhost
import Derived.OrdersHeld
import Derived.Test.YtimejkbmfbjomaaGreatK1
import Derived.Test.YtimejkbmfbjomaaGreatK2
import Derived.Test.YtimejkbmfbjomaaGreatK3
import Derived.Test.YtimejkbmfbjomaaGreatK4
import Derived.Test.YtimejkbmfbjomaaGreatK5
import Derived.Test.YtimejkbmfbjomaaGreatK6
import Derived.Test.YtimejkbmfbjomaaGreatK7
import Derived.Test.YtimejkbmfbjomaaGreatK8
import Derived.Test.YtimejkbmfbjomaaGreatK9
import Derived.Test.YtimejkbmfbjomaaGreatK10
import Derived.Test.YtimejkbmfbjomaaGreatK11
import Derived.Test.YtimejkbmfbjomaaGreatK12
import Derived.Test.YtimejkbmfbjomaaGreatK13
import Derived.Test.YtimejkbmfbjomaaGreatK14
import Derived.Test.YtimejkbmfbjomaaGreatK15
import Derived.Test.YtimejkbmfbjomaaGreatK16
import Derived.Test.YtimejkbmfbjomaaGreatK17
import Derived.Test.YtimejkbmfbjomaaGreatK18
import Derived.Test.YtimejkbmfbjomaaGreatK19
import Derived.Test.YtimejkbmfbjomaaGreatK20
import Derived.Test.YtimejkbmfbjomaaGreatK21
import Derived.Test.YtimejkbmfbjomaaGreatK22
import Derived.Test.YtimejkbmfbjomaaGreatK23
import Derived.Test.YtimejkbmfbjomaaGreatK24
import Derived.Test.YtimejkbmfbjomaaGreatK25
import Derived.Test.YtimejkbmfbjomaaGreatK26
import Derived.Test.YtimejkbmfbjomaaGreatK27
import Derived.Test.YtimejkbmfbjomaaGreatK28
import Derived.Test.YtimejkbmfbjomaaGreatK29
import Derived.Test.YtimejkbmfbjomaaGreatK30
namespace Go.Proofs.YtimejkbmfbjomaaGreat
open Go.ChangeShapes Go.WideShapes Go.ChangeAt Go.RowKit Go.Deep
set_option linter.unusedVariables false
theorem take_eq_step {α : Type} {a b : List α} {k : Nat} (ha : k < a.length) (hb : k < b.length) (h : a.take k = b.take k) (he : a[k] = b[k]) : a.take (k + 1) = b.take (k + 1) := by
  rw [List.take_succ_eq_append_getElem ha, List.take_succ_eq_append_getElem hb, h, he]
theorem ne_of_at {α : Type} {a b : List α} {k : Nat} (ha : k < a.length) (hb : k < b.length) (he : a[k] ≠ b[k]) : a ≠ b := by
  rintro rfl; exact he rfl
set_option maxHeartbeats 1000000 in
theorem EqTexts_any {w1 w2 W : World} {Q1 Q2 : Nat → Prop} {l1 l2 : List ByteArray} {v1 v2 : Value} (h1 : TextsI w1 Q1 l1 v1) (h2 : TextsI w2 Q2 l2 v2) (hI1 : In Q1 w1 W) (hI2 : In Q2 w2 W) :
    Calls Tryz.prog 11 #[v1, v2] W (MayOk (decide (l1 = l2)) W) := by
  obtain ⟨A1, k1, rfl, hlc1, hc1⟩ := h1.shape
  obtain ⟨A2, k2, rfl, hlc2, hc2⟩ := h2.shape
  have H1 := Lib.hid h1
  have H2 := Lib.hid h2
  have HI1 := Lib.hid hI1
  have HI2 := Lib.hid hI2
  clear h1 h2 hI1 hI2
  cases hl : (((l1.length : Nat) : Int) == ((l2.length : Nat) : Int)) with
  | false =>
    have hne : l1.length ≠ l2.length := by intro e; rw [e] at hl; simp at hl
    have HM : Hid (decide (l1 = l2) = false) := Lib.hid (decide_eq_false (by rintro rfl; exact hne rfl))
    have hb : (((l1.length : Nat) : Int) != ((l2.length : Nat) : Int)) = true := by rw [bne, hl]; rfl
    clear hl hne
    go_enter Tryz.func11, Tryz.ntmps11
    go_wp2_with fail
    go_ret
    exact ⟨ret_bool HM.out.symm, Below.refl _ _⟩
  | true =>
    have heq : l1.length = l2.length := by have := eq_of_beq hl; omega
    have hb : (((l1.length : Nat) : Int) != ((l2.length : Nat) : Int)) = false := by rw [bne, hl]; rfl
    have he1 : l1.length ≤ l2.length := by omega
    have he2 : l2.length ≤ l1.length := by omega
    clear hl heq
    go_enter Tryz.func11, Tryz.ntmps11
    go_wp2_with fail
    go_loopw [13] (fun i wr => ∃ k : Nat, k ≤ l1.length ∧ i = .int .i64 k ∧ Hid (l1.take k = l2.take k) ∧ Hid (Below W.heap.size W wr)) (fun i _ => l1.length - (intOf i).toNat)
    case atStart => exact ⟨0, Nat.zero_le _, rfl, Lib.hid (by simp), Lib.hid (Below.refl _ _)⟩
    case round =>
      obtain ⟨k, hk, rfl, HT, HR⟩ := hrel
      by_cases hlt : k < l1.length
      · obtain ⟨a1, rfl, _, p1, _⟩ := text_at H1.out (HI1.out.on HR.out) hlt
        obtain ⟨a2, rfl, _, p2, _⟩ := text_at H2.out (HI2.out.on HR.out) (show k < l2.length by omega)
        have hk2 : (k : Int) < (l2.length : Int) := by omega
        cases hv : (l1[k].toList == l2[k].toList) with
        | true =>
          have HN : Hid (l1.take (k + 1) = l2.take (k + 1)) := Lib.hid (take_eq_step hlt (by omega) HT.out (by rw [dec_bytes] at hv; simpa using hv))
          obtain ⟨x1, hx1⟩ : ∃ x, x = l1[k] := ⟨_, rfl⟩
          obtain ⟨x2, hx2⟩ : ∃ x, x = l2[k] := ⟨_, rfl⟩
          rw [← hx1] at p1 hv
          rw [← hx2] at p2 hv
          clear hx1 hx2
          go_wp2_with fail
          go_quiet (fail)
          go_wp2_with fail
          go_roundw
          case rel => exact ⟨k + 1, by omega, by go_num, HN, Lib.hid (below_drewN HR.out _)⟩
          case measure => simp [intOf]; omega
        | false =>
          have HN : Hid (decide (l1 = l2) = false) := Lib.hid (decide_eq_false (ne_of_at hlt (by omega) (by rw [dec_bytes] at hv; simpa using hv)))
          obtain ⟨x1, hx1⟩ : ∃ x, x = l1[k] := ⟨_, rfl⟩
          obtain ⟨x2, hx2⟩ : ∃ x, x = l2[k] := ⟨_, rfl⟩
          rw [← hx1] at p1 hv
          rw [← hx2] at p2 hv
          clear hx1 hx2
          go_wp2_with fail
          go_quiet (fail)
          go_wp2_with fail
          go_ret
          exact ⟨ret_bool HN.out.symm, below_drewN HR.out _⟩
      · have HN : Hid (decide (l1 = l2) = true) := Lib.hid (by
          have := HT.out
          rw [List.take_of_length_le (by omega), List.take_of_length_le (by omega)] at this
          exact decide_eq_true this)
        go_wp2_with fail
        go_ret
        exact ⟨ret_bool HN.out.symm, HR.out⟩
end Go.Proofs.YtimejkbmfbjomaaGreat
namespace Go.Proofs.YtimejkbmfbjomaaGreat
open Go.ChangeShapes Go.WideShapes Go.ChangeAt Go.RowKit Go.Deep
set_option linter.unusedVariables false
section
variable {own own' : Nat → Prop} {a b c w w' : World}
end
end Go.Proofs.YtimejkbmfbjomaaGreat
namespace Go.Proofs.YtimejkbmfbjomaaGreat
open Go.ChangeShapes Go.WideShapes Go.ChangeAt Go.RowKit Go.Deep
set_option linter.unusedVariables false
section
variable {α : Type}
variable {R : World → (Nat → Prop) → α → List Value → Prop} {w w' : World} {base C : Nat} {e : TypeId} {l : List α} {v : Value}
end
end Go.Proofs.YtimejkbmfbjomaaGreat
namespace Go.Proofs.YtimejkbmfbjomaaGreat
open Go.ChangeShapes Go.WideShapes Go.ChangeAt Go.RowKit Go.Deep
set_option linter.unusedVariables false
end Go.Proofs.YtimejkbmfbjomaaGreat
namespace Go.Proofs.YtimejkbmfbjomaaGreat
open Go.ChangeShapes Go.WideShapes Go.ChangeAt Go.RowKit Go.Deep
set_option linter.unusedVariables false
theorem flatOf_len (q : Pr) : (flatOf q).length ≤ 201 := flatL_len q.body 1 0 false [] (by simp)
end Go.Proofs.YtimejkbmfbjomaaGreat
namespace Go.Proofs.YtimejkbmfbjomaaGreat
open Go.ChangeShapes Go.WideShapes Go.ChangeAt Go.RowKit Go.Deep
set_option linter.unusedVariables false
theorem itsOk_drop {l : List It} {k : Nat} (h : k < l.length) : itsOk (l.drop k) k = (itOk k l[k] && itsOk (l.drop (k + 1)) (k + 1)) := by
  rw [List.drop_eq_getElem_cons h, itsOk]
theorem allL_drop {l : List Pr} {k : Nat} {out : List It} (h : k < l.length) : allL (l.drop k) out = if 200 < (out ++ flatOf l[k]).length then out ++ flatOf l[k] else allL (l.drop (k + 1)) (out ++ flatOf l[k]) := by
  rw [List.drop_eq_getElem_cons h, allL]
end Go.Proofs.YtimejkbmfbjomaaGreat
namespace Go.Proofs.YtimejkbmfbjomaaGreat
open Go.ChangeShapes Go.WideShapes Go.ChangeAt Go.RowKit Go.Deep
set_option linter.unusedVariables false
set_option linter.unusedSimpArgs false
theorem item_one {w : World} {Q : Nat → Prop} {x : It} {cs : List Value} (h : ItemI w Q x cs) : CellsOk 16 cs := by
  obtain ⟨c, rfl, hs⟩ := h
  obtain ⟨h1, h2⟩ := stmtCk _ _ _ _ hs
  refine ⟨by rw [List.length_append, h1]; rfl, fun u hu => ?_⟩
  rcases List.mem_append.1 hu with hu | hu
  · exact h2 u hu
  · simp only [List.mem_cons, List.not_mem_nil, or_false] at hu
    rcases hu with rfl | rfl | rfl <;> rfl
theorem All2.one {α : Type} {R : α → List Value → Prop} {C : Nat} (hC : ∀ x cs, R x cs → CellsOk C cs) : ∀ {l : List α} {rows : List (List Value)}, All2 R l rows → (∀ u ∈ rows.flatten, u.oneCell' = true) ∧ rows.flatten.length = l.length * C
  | [], [], _ => ⟨fun u h => by simp at h, by simp⟩
  | x :: l, c :: r, h => by
    obtain ⟨a1, a2⟩ := hC _ _ h.1
    obtain ⟨b1, b2⟩ := All2.one hC h.2
    refine ⟨fun u hu => ?_, by simp only [List.flatten_cons, List.length_append, List.length_cons]; rw [a1, b2, Nat.add_mul]; omega⟩
    rw [List.flatten_cons] at hu
    rcases List.mem_append.1 hu with hu | hu
    · exact a2 u hu
    · exact b1 u hu
  | [], _ :: _, h => h.elim
  | _ :: _, [], h => h.elim
section
variable {P : Program} {w : World}
theorem run_append_none (t ty e : TypeId) (i : TypeInfo) (ht : P.underlying t = some (.slice e)) (hi : P.info? e = some i) (X : Option Addr) (n c : Nat) (hnc : n ≤ c) (hX : X = none → n = 0 ∧ c = 0) :
    (Builtin.append_ #[t, t] ty #[.slice X n c, .slice none 0 0]).run P w = .ok (.slice X n c) w := by
  cases X with
  | none =>
    obtain ⟨rfl, rfl⟩ := hX rfl
    simp [Builtin.append_, run_underlying ht, sizeOf, typeInfo, hi, Builtin.lenOf, Builtin.firstCells, loadCells, loadCellsFrom]
  | some b =>
    simp [Builtin.append_, run_underlying ht, sizeOf, typeInfo, hi, Builtin.lenOf, Builtin.firstCells, loadCells, loadCellsFrom, hnc, storeCells]
theorem wpList_append_none {ops : Array Oper} {rest : List Oper} {o : Oper} {a : Act} {Q : Exit → Act → World → Prop} (hgd : o.guard = none) (s x : Operand) (t : TypeId)
    (ho : o.op = .call { callee := .builtin .append, args := #[s, x], argTypes := #[t, t] }) (e : TypeId) (i : TypeInfo) (ht : P.underlying t = some (.slice e)) (hi : P.info? e = some i)
    (X : Option Addr) (n c : Nat) (hs : a.eval s = .slice X n c) (hx : a.eval x = .slice none 0 0) (hnc : n ≤ c) (hX : X = none → n = 0 ∧ c = 0) (h : wpList P ops Q rest (a.put o.dst (.slice X n c)) w) :
    wpList P ops Q (o :: rest) a w := by
  refine wpList_plain hgd fun K hK => ?_
  have hr := run_append_none (P := P) (w := w) t o.type e i ht hi X n c hnc hX
  unfold Oper.wp execOp
  simp only [ho, resolve, invoke, builtin, Sem.run_bind, Sem.run_pure, Result.andThen_ok, List.map_toArray, List.map_cons, List.map_nil, hs, hx, hr]
  exact hK _ _ h
/-- one row of the call's own behind another one, whatever their lengths -/
theorem wpList_append_rows {ops : Array Oper} {rest : List Oper} {o : Oper} {a : Act} {Q : Exit → Act → World → Prop} (hgd : o.guard = none) (s x : Operand) (t : TypeId)
    (ho : o.op = .call { callee := .builtin .append, args := #[s, x], argTypes := #[t, t] })
    (base : Nat) (e : TypeId) (i : TypeInfo) (z : Value) (size bytes : Nat) (ht : P.underlying t = some (.slice e)) (hi : P.info? e = some i) (hz : i.zero = some z)
    (hsize : i.size = size) (hby : i.bytes = bytes) (hzs : z.cells.size = size) (hsz : 0 < size)
    (v : Value) (n : Nat) (xs : List Value) (hs : a.eval s = v) (hown : w.ownsRow base e size v n xs)
    (base' : Nat) (X : Option Addr) (m c : Nat) (news : List Value) (hx : a.eval x = .slice X m c) (hnew : w.ownsRow base' e size (.slice X m c) m news) (h1 : ∀ u ∈ news, u.oneCell' = true)
    (h63 : n + m ≤ maxLen) (hbytes : (n + m) * bytes ≤ 140737488355328) (hbase : base ≤ w.heap.size)
    (h : ∀ v' w', w'.ownsRow base e size v' (n + m) (xs ++ news) → w.grownBy w' v.ownBlock → (v'.ownBlock = v.ownBlock ∨ v'.ownBlock = some w.heap.size) → wpList P ops Q rest (a.put o.dst v') w') :
    wpList P ops Q (o :: rest) a w := by
  cases X with
  | some ad => exact wpList_append_own_at w hgd s x t ho base e i z size bytes ht hi hz hsize hby hzs hsz v n xs hs hown ad m c news hx hnew.1 (own_cells hnew) h1 h63 hbytes hbase (fun v' w' a1 a2 _ a4 => h v' w' a1 a2 a4)
  | none =>
    have hl := hnew.1
    rcases hnew.2 with ⟨h2, h3⟩ | ⟨g, cap', cur, h2, _⟩
    · injection h2 with _ h4 h5
      subst h4 h5
      have hn0 : news = [] := List.eq_nil_of_length_eq_zero (by rw [hl]; simp)
      subst hn0
      obtain ⟨Xf, cf, rfl, hoc, hcx⟩ := own_form hown
      have hXn : Xf = none → n = 0 ∧ cf = 0 := fun e' => by
        subst e'
        rcases hown.2 with ⟨h1, h2⟩ | ⟨g, cap', cur, h1, _⟩
        · injection h1 with _ h3 h4; exact ⟨h3, h4⟩
        · cases h1
      refine wpList_append_none hgd s x t ho e i ht hi Xf n cf hs hx hoc hXn (h _ _ ?_ (World.grownBy.refl _ _) (.inl rfl))
      rw [Nat.add_zero, List.append_nil]
      exact hown
    · cases h2
end
/-- the row of all statements, some procedures of it -/
structure AlI (w : World) (Q : Nat → Prop) (W wr : World) (out : List It) (X : Option Addr) (n c : Nat) : Prop where
  row : ∃ rows, wr.ownsRow W.heap.size 51 16 (.slice X n c) out.length rows.flatten ∧ All2 (ItemI w Q) out rows
  inn : In Q w wr
  below : Below W.heap.size W wr
set_option maxHeartbeats 4000000 in
set_option maxRecDepth 100000 in
theorem All_any {w W : World} {Q : Nat → Prop} {p : Pg} {c0 c1 : Value} (h : ProgI w Q p [c0, c1]) (hI : In Q w W) :
    Calls Tryz.prog 68 #[.agg #[c0, c1]] W fun e w' => ∃ X n c, e = .returned (.slice X n c) ∧ AlI w Q W w' (allOf p) X n c := by
  obtain ⟨Ag, cg, Ap, cp, rfl, rfl, hg1, hg2, hp1, hp2, hgl, hpr⟩ := prog_open h
  obtain ⟨i0, hi0, hz0, hz1, hz2⟩ := info_parts item_info
  have HP := Lib.hid hpr
  have HI := Lib.hid hI
  have HQ : Hid (∀ j, Q j → j < W.heap.size) := Lib.hid hI.1
  clear h hI hgl hpr
  go_enter Tryz.func68, Tryz.ntmps68
  go_upto_region 2 with fail
  have HB0 : Hid (Below W.heap.size W (W.alloc (.cells #[.slice Ag p.globals.length cg, .slice Ap p.procs.length cp] 25))) := Lib.hid (below_box _)
  have HBp : Hid (Blk (W.alloc (.cells #[.slice Ag p.globals.length cg, .slice Ap p.procs.length cp] 25)) W.heap.size 25 #[.slice Ag p.globals.length cg, .slice Ap p.procs.length cp]) := Lib.hid (Blk.new _ _ _)
  generalize World.alloc _ _ = V0 at HBp HB0 ⊢
  have q1 : V0.cell? ⟨W.heap.size, 1, none⟩ = some (.slice Ap p.procs.length cp) := by rw [HBp.out.cell]; rfl
  have hbl := HBp.out.lt
  have HI0 := Lib.hid (HI.out.on HB0.out)
  go_wp2_with fail
  clear q1 hbl HBp
  have HS : Hid (AlI w Q W V0 [] none 0 0) := Lib.hid ⟨⟨[], World.ownsRow_nil _ _ _ _, trivial⟩, HI0.out, HB0.out⟩
  clear HB0 HI0
  go_loopw [3, 9] (fun ov iv wr => ∃ (k : Nat) (out : List It) (X : Option Addr) (c : Nat), k ≤ p.procs.length ∧ iv = .int .i64 k ∧ ov = .slice X out.length c ∧ out.length ≤ 200 ∧ Hid (allL (p.procs.drop k) out = allOf p) ∧ Hid (AlI w Q W wr out X out.length c)) (fun _ iv _ => p.procs.length - (intOf iv).toNat)
  case atStart => exact ⟨0, [], none, 0, Nat.zero_le _, rfl, rfl, by simp, Lib.hid (by rw [List.drop_zero]; rfl), HS⟩
  case round =>
    clear HS
    obtain ⟨k, out, X, c, hk, rfl, rfl, ho, HW, HR⟩ := hrel
    by_cases hlt : k < p.procs.length
    · obtain ⟨a, Bp, kp, Bv, kv, Bb, kb, Be, ke, rfl, _, hrow, hnm, hpp, hvv, hbody, hee⟩ := proc_at HP.out HR.out.inn hlt
      have HD := Lib.hid (allL_drop (out := out) hlt)
      rw [HW.out] at HD
      generalize p.procs[k] = x at hrow hnm hpp hvv hbody hee HD
      obtain ⟨pn, pp, pv, pb, pe⟩ := x
      simp only at hrow hnm hpp hvv hbody hee HD
      obtain ⟨p0, p1, p2, p3, p4, _⟩ := hrow
      have HPI : Hid (ProcI w Q ⟨pn, pp, pv, pb, pe⟩ [.string pn, .slice Bp pp.length kp, .slice Bv pv.length kv, .slice Bb pb.length kb, .slice Be pe.length ke]) := Lib.hid ⟨_, _, _, _, rfl, hnm, hpp, hvv, hbody, hee⟩
      clear hnm hpp hvv hbody hee
      have HC := Lib.hid (fun V h1 h2 => Flat_any (W := V) HPI.out h1 h2)
      have hfll := flatOf_len ⟨pn, pp, pv, pb, pe⟩
      obtain ⟨its, hits⟩ : ∃ its, its = flatOf ⟨pn, pp, pv, pb, pe⟩ := ⟨_, rfl⟩
      rw [← hits] at HC hfll HD
      clear hits
      go_upto_region 5 with fail
      have HBq : Hid (Blk (wr.alloc (.cells #[.string pn, .slice Bp pp.length kp, .slice Bv pv.length kv, .slice Bb pb.length kb, .slice Be pe.length ke] 39)) wr.heap.size 39 #[.string pn, .slice Bp pp.length kp, .slice Bv pv.length kv, .slice Bb pb.length kb, .slice Be pe.length ke]) := Lib.hid (Blk.new _ _ _)
      have HBo : Hid (Below wr.heap.size wr (wr.alloc (.cells #[.string pn, .slice Bp pp.length kp, .slice Bv pv.length kv, .slice Bb pb.length kb, .slice Be pe.length ke] 39))) := Lib.hid (below_box _)
      generalize World.alloc _ _ = W6 at HBq HBo ⊢
      generalize wr.heap.size = bQ at HBq ⊢
      have HI6 := Lib.hid (HR.out.inn.on HBo.out)
      obtain ⟨rows, hO, hAl⟩ := HR.out.row
      have HO6 := Lib.hid ((Below.moves HBo.out).row hO (fun j hj e => Nat.not_lt.2 e (hO.lt j hj).2))
      have HAl := Lib.hid hAl
      have HB6 := Lib.hid (below_step HR.out.below HBo.out)
      have HRl : Hid (∀ j, (Value.slice X out.length c).ownBlock = some j → W.heap.size ≤ j ∧ j < W6.heap.size) := Lib.hid (fun j hj => ⟨(hO.lt j hj).1, Nat.lt_of_lt_of_le (hO.lt j hj).2 HBo.out.size⟩)
      clear p0 p1 p2 p3 p4 hO hAl
      have z0 : W6.cell? ⟨bQ, 0, none⟩ = some (.string pn) := by rw [HBq.out.cell]; rfl
      have z1 : W6.cell? ⟨bQ, 1, none⟩ = some (.slice Bp pp.length kp) := by rw [HBq.out.cell]; rfl
      have z2 : W6.cell? ⟨bQ, 2, none⟩ = some (.slice Bv pv.length kv) := by rw [HBq.out.cell]; rfl
      have z3 : W6.cell? ⟨bQ, 3, none⟩ = some (.slice Bb pb.length kb) := by rw [HBq.out.cell]; rfl
      have z4 : W6.cell? ⟨bQ, 4, none⟩ = some (.slice Be pe.length ke) := by rw [HBq.out.cell]; rfl
      have hbq := HBq.out.lt
      obtain ⟨Xf, cf, hXe, hoc, hcx⟩ := own_form HO6.out
      injection hXe with hX1 _ hX3
      subst hX1 hX3
      clear hcx
      by_cases hgt : 200 < out.length + its.length
      · rw [if_pos (by rw [List.length_append]; exact hgt)] at HD
        go_wp2_with (first
          | (go_at_call 20; refine (HC.out W6 HI6.out HI6.out.1).mono ?_; rintro e' W7 ⟨v7, rows7, rfl, ho7, ha7, hb7⟩; obtain ⟨X7, cx7, rfl, hx7, hx7'⟩ := own_shape ho7; have HO7 := Lib.hid ((Below.moves hb7).row HO6.out (fun j hj e => Nat.not_lt.2 e (HRl.out j hj).2)); have HA7 := Lib.hid ha7; have HV7 := Lib.hid ho7; have HB67 := Lib.hid hb7; have HI7 := Lib.hid (HI6.out.on hb7); clear ho7 ha7 hb7 HC z0 z1 z2 z3 z4 hbq HO6)
          | (at_builtin; refine wpList_append_rows rfl (.tmp 13) (.tmp 15) 42 rfl W.heap.size 51 i0 _ 16 232 Tryz.underlying42 hi0 hz0 hz1 hz2 rfl (by decide) (.slice X out.length c) out.length rows.flatten rfl HO7.out W6.heap.size X7 its.length cx7 rows7.flatten rfl HV7.out (All2.one (fun _ _ => item_one) HA7.out).1 (by unfold maxLen; omega) (by omega) (Nat.le_trans HB6.out.size HB67.out.size) ?_; intro v' w8 hown8 hg8 hat8; obtain ⟨X8, c8, rfl, _, _⟩ := own_form hown8; have HO8 := Lib.hid hown8; have HG8 := Lib.hid hg8; clear hown8 hg8 hat8))
        have hm8 := moves_grown HG8.out
        have HA : Hid (AlI w Q W w8 (out ++ its) X8 (out.length + its.length) c8) := Lib.hid ⟨⟨rows ++ rows7, by rw [List.length_append, List.flatten_append]; exact HO8.out, HAl.out.append HA7.out⟩, HI7.out.moves hm8 (fun j hj hq => by have := (HO7.out.lt j hj).1; have := HQ.out j hq; omega), (below_step HB6.out HB67.out).trans (hm8.below (Nat.le_trans HB6.out.size HB67.out.size) (fun j hj => (HO7.out.lt j hj).1))⟩
        go_ret
        exact ⟨X8, _, c8, rfl, by rw [HD.out]; exact HA.out⟩
      · rw [if_neg (by rw [List.length_append]; exact hgt)] at HD
        go_wp2_with (first
          | (go_at_call 20; refine (HC.out W6 HI6.out HI6.out.1).mono ?_; rintro e' W7 ⟨v7, rows7, rfl, ho7, ha7, hb7⟩; obtain ⟨X7, cx7, rfl, hx7, hx7'⟩ := own_shape ho7; have HO7 := Lib.hid ((Below.moves hb7).row HO6.out (fun j hj e => Nat.not_lt.2 e (HRl.out j hj).2)); have HA7 := Lib.hid ha7; have HV7 := Lib.hid ho7; have HB67 := Lib.hid hb7; have HI7 := Lib.hid (HI6.out.on hb7); clear ho7 ha7 hb7 HC z0 z1 z2 z3 z4 hbq HO6)
          | (at_builtin; refine wpList_append_rows rfl (.tmp 13) (.tmp 15) 42 rfl W.heap.size 51 i0 _ 16 232 Tryz.underlying42 hi0 hz0 hz1 hz2 rfl (by decide) (.slice X out.length c) out.length rows.flatten rfl HO7.out W6.heap.size X7 its.length cx7 rows7.flatten rfl HV7.out (All2.one (fun _ _ => item_one) HA7.out).1 (by unfold maxLen; omega) (by omega) (Nat.le_trans HB6.out.size HB67.out.size) ?_; intro v' w8 hown8 hg8 hat8; obtain ⟨X8, c8, rfl, _, _⟩ := own_form hown8; have HO8 := Lib.hid hown8; have HG8 := Lib.hid hg8; clear hown8 hg8 hat8))
        have hm8 := moves_grown HG8.out
        have HA : Hid (AlI w Q W w8 (out ++ its) X8 (out.length + its.length) c8) := Lib.hid ⟨⟨rows ++ rows7, by rw [List.length_append, List.flatten_append]; exact HO8.out, HAl.out.append HA7.out⟩, HI7.out.moves hm8 (fun j hj hq => by have := (HO7.out.lt j hj).1; have := HQ.out j hq; omega), (below_step HB6.out HB67.out).trans (hm8.below (Nat.le_trans HB6.out.size HB67.out.size) (fun j hj => (HO7.out.lt j hj).1))⟩
        go_roundw
        case rel => exact ⟨k + 1, out ++ its, X8, c8, by omega, by go_num, by rw [List.length_append], by rw [List.length_append]; omega, Lib.hid HD.out.symm, by rw [List.length_append]; exact HA⟩
        case measure => simp [intOf]; omega
    · have hD := HW.out
      rw [List.drop_of_length_le (by omega), allL] at hD
      have HD := Lib.hid hD
      clear hD
      go_wp2_with fail
      go_ret
      exact ⟨X, out.length, c, rfl, by rw [← HD.out]; exact HR.out⟩
end Go.Proofs.YtimejkbmfbjomaaGreat
namespace Go.Proofs.YtimejkbmfbjomaaGreat
open Go.ChangeShapes Go.WideShapes Go.ChangeAt Go.RowKit Go.Deep
set_option linter.unusedVariables false
section
variable {P : Program} {w : World}
theorem step_append_texts {ops : Array Oper} {o : Oper} {a : Act} {K : Act → World → Prop} {Q : Exit → Act → World → Prop} {E : Prop} (hgd : o.guard = none) (s x : Operand) (t : TypeId)
  (ho : o.op = .call { callee := .builtin .append, args := #[s, x], argTypes := #[t, t] })
  (base : Nat) (e : TypeId) (i : TypeInfo) (z : Value) (ht : P.underlying t = some (.slice e)) (hi : P.info? e = some i) (hz : i.zero = some z)
  (hsize : i.size = 1) (hby : i.bytes = 16) (hzs : z.cells.size = 1)
  (v : Value) (n : Nat) (xs : List Value) (hs : a.eval s = v) (hown : w.ownsRow base e 1 v n xs)
  (w0 : World) (Q0 : Nat → Prop) (X : Option Addr) (l : List ByteArray) (m c : Nat) (hx : a.eval x = .slice X m c) (hm : m = l.length) (hT : TextsI w0 Q0 l (.slice X m c)) (hI : In Q0 w0 w)
  (h63 : n + m ≤ 1000000) (hbase : base ≤ w.heap.size)
  (h : ∀ v' w', w'.ownsRow base e 1 v' (n + m) (xs ++ strs l) → w.grownBy w' v.ownBlock → K (a.put o.dst v') w') :
  if Region.wanted o (yielded ops a.tmps) = true then Oper.wp P o a w K Q else E := by
 have hw : Region.wanted o (yielded ops a.tmps) = true := by simp [Region.wanted, hgd]
 rw [if_pos hw]
 obtain ⟨v', w', hr, h2, h3⟩ := run_append_texts (P := P) (w := w) base t o.type e i z ht hi hz hsize hby hzs v n xs hown w0 Q0 X l m c hm hT hI h63 hbase
 unfold Oper.wp execOp
 simp only [ho, resolve, invoke, builtin, Sem.run_bind, Sem.run_pure, Result.andThen_ok, List.map_toArray, List.map_cons, List.map_nil, hs, hx, hr]
 exact h v' w' h2 h3
end
end Go.Proofs.YtimejkbmfbjomaaGreat
namespace Go.Proofs.YtimejkbmfbjomaaGreat
open Go.ChangeShapes Go.WideShapes Go.ChangeAt Go.RowKit Go.Deep
set_option linter.unusedVariables false
set_option linter.unusedSimpArgs false
def badR (gl : List ByteArray) (q : Pr) (ps : List ByteArray) (s : S) : Bool := !(saidS s).all (fun v => knd gl q v != 0) || (s.kind == 4 && ((s.proc.toList == [109, 97, 105, 110]) || !ps.any (isT s.proc)))
theorem badR_eq {gl : List ByteArray} {q : Pr} {ps : List ByteArray} {s : S} (h : stmtOk s = true) : badR gl q ps s = badS gl q ps s := by
 obtain ⟨id, kind, labels, nm, proc, x, has, args, th, el⟩ := s
 have ha : args.flatMap saidV = args.flatMap argV := said_eq h
 unfold badR badS rightS saidS varsS
 simp only [S.x, S.kind, S.nm, S.args, S.proc, ha, List.all_append]
 generalize (namesE x).all _ = b1
 generalize (ownV kind nm).all _ = b2
 generalize (args.flatMap argV).all _ = b3
 generalize ps.any _ = b4
 generalize (proc.toList == [109, 97, 105, 110]) = b5
 rw [bne]
 generalize (kind == 4) = b6
 cases b1 <;> cases b2 <;> cases b3 <;> cases b4 <;> cases b5 <;> cases b6 <;> rfl
theorem fstB_congr {f g : S → Bool} : ∀ {L : List S}, (∀ s ∈ L, f s = g s) → fstB f L = fstB g L
 | [], _ => rfl
 | x :: L, h => by rw [fstB_cons, fstB_cons, h x (List.mem_cons_self ..), fstB_congr (fun s hs => h s (List.mem_cons_of_mem _ hs))]
theorem item_at {w W0 W : World} {Q Q0 : Nat → Prop} {l : List It} {A : Option Addr} {n cap : Nat} (h : SliceI W0 Q0 16 (ItemI w Q) l (.slice A n cap)) (hI : In Q0 W0 W) {k : Nat} (hk : k < l.length) :
 ∃ a id kind labels nm proc x has args th el L lc y0 y1 y2 X xn xc R rc T tc U uc dp inn els, A = some a ∧ Q0 a.block ∧ l[k].s = .mk id kind labels nm proc x has args th el ∧
 RowAt W (a.add (k * 16)) (.int .i64 id) [.int .i64 kind, .slice L labels.length lc, .string nm, .string proc, .int .i64 y0, .int .i64 y1, .string y2, .slice X xn xc, .bool has, .slice R args.length rc, .slice T th.length tc, .slice U el.length uc, .int .i64 dp, .int .i64 inn, .bool els] ∧ i64 id ∧ i64 kind ∧
 StmtI w Q (.mk id kind labels nm proc x has args th el) [.int .i64 id, .int .i64 kind, .slice L labels.length lc, .string nm, .string proc, .int .i64 y0, .int .i64 y1, .string y2, .slice X xn xc, .bool has, .slice R args.length rc, .slice T th.length tc, .slice U el.length uc] := by
 obtain ⟨a, cs, rfl, hq, ⟨c, rfl, hst⟩, hc⟩ := slice_at h hI hk
 obtain ⟨id, kind, labels, nm, proc, x, has, args, th, el, L, lc, y0, y1, y2, X, xn, xc, R, rc, T, tc, U, uc, hmk, rfl, h1, h2, _⟩ := stmt_open hst
 rw [hmk] at hst
 exact ⟨a, id, kind, labels, nm, proc, x, has, args, th, el, L, lc, y0, y1, y2, X, xn, xc, R, rc, T, tc, U, uc, _, _, _, rfl, hq, hmk, rowAt_elem hc, h1, h2, hst⟩
section
variable {P : Program} {md : Region.Mode} {ops : Array Oper} {Q : Exit → Act → World → Prop} {S : World → Prop}
theorem wpAnyH_step {i : Nat} {o : Oper} {fuel : Nat} {listed : Array Bool} {a : Act} {w : World} (hr : Region.ready md ops listed = [i]) (ho : ops[i]? = some o)
 (h : ∀ K' : Act → World → Prop, Shut (∀ a w, S w → wpAnyH P md ops Q S fuel (listed.setIfInBounds i true) a w → K' a w) → if Region.wanted o (yielded ops a.tmps) = true then Oper.wp P o a w K' Q else K' (a.put o.dst undef) w) : wpAnyH P md ops Q S (fuel + 1) listed a w :=
 wpAnyH_all hr (by simp) (fun j hj => by rw [List.mem_singleton.1 hj]; exact wpOp_step ho (fun K' hK => h K' (fun a w h1 h2 => hK a w ⟨h1, h2⟩)))
end
theorem fault_end {w : World} {f : Nat} {c i : Int} (h : Blk w f 34 #[.int .i64 0, .int .i64 0]) : Blk ((w.setCell ⟨f, 0, none⟩ (.int .i64 c)).setCell ⟨f, 1, none⟩ (.int .i64 i)) f 34 #[.int .i64 c, .int .i64 i] := by
 have h := (h.set_ 0 (.int .i64 c)).set_ 1 (.int .i64 i)
 simp only [List.setIfInBounds_toArray, List.set_cons_zero, List.set_cons_succ] at h
 exact h
end Go.Proofs.YtimejkbmfbjomaaGreat
namespace Go.Proofs.YtimejkbmfbjomaaGreat
open Go.ChangeShapes Go.WideShapes Go.ChangeAt Go.RowKit Go.Deep
set_option linter.unusedVariables false
set_option linter.unusedSimpArgs false
theorem AlI.slice {w W wr : World} {Q : Nat → Prop} {out : List It} {X : Option Addr} {n c : Nat} (h : AlI w Q W wr out X n c) : n = out.length ∧ n ≤ c ∧ c ≤ 9223372036854775807 ∧ SliceI wr (fun b => W.heap.size ≤ b ∧ b < wr.heap.size) 16 (ItemI w Q) out (.slice X n c) := by
 obtain ⟨rows, ho, ha⟩ := h.row
 obtain ⟨X', c', he, h1, h2⟩ := own_shape ho
 injection he with e1 e2 e3
 subst e1 e2 e3
 exact ⟨rfl, h1, h2, slice_of_own ho ha (fun x cs h => (item_one h).1)⟩
end Go.Proofs.YtimejkbmfbjomaaGreat
namespace Go.Proofs.YtimejkbmfbjomaaGreat
open Go.ChangeShapes Go.WideShapes Go.ChangeAt Go.RowKit Go.Deep
set_option linter.unusedVariables false
set_option linter.unusedSimpArgs false
theorem isPa_eq (s : ByteArray) (x : Pa) : isPa s x = (x.nm.toList == s.toList) := by rw [dec_bytes]; rfl
theorem isQ_eq (s : ByteArray) (x : Pr) : isQ s x = (x.nm.toList == s.toList) := by rw [dec_bytes]; rfl
end Go.Proofs.YtimejkbmfbjomaaGreat
namespace Go.Proofs.YtimejkbmfbjomaaGreat
open Go.ChangeShapes Go.WideShapes Go.ChangeAt Go.RowKit Go.Deep
set_option linter.unusedVariables false
set_option linter.unusedSimpArgs false
/-- whom a right program calls is there -/
theorem called_there {p : Pg} (h : ChOk p) {q : Pr} (hq : q ∈ p.procs) {s : ByteArray} (hs : s ∈ callsOf (preSL q.body)) : ∃ f ∈ p.procs, f.nm = s := by
 unfold callsOf at hs
 obtain ⟨x, hx, rfl⟩ := List.mem_map.1 hs
 obtain ⟨hx1, hx2⟩ := List.mem_filter.1 hx
 have hb := h.stm q hq x hx1
 rw [← badR_eq (may_stm h.may q hq x hx1)] at hb
 unfold badR at hb
 have hk : (x.kind == 4) = true := hx2
 rw [Bool.or_eq_false_iff, hk, Bool.true_and, Bool.or_eq_false_iff] at hb
 have hb2 := hb.2
 have h3 : (p.procs.map Pr.nm).any (isT x.proc) = true := by simpa using hb2.2
 obtain ⟨y, hy, e⟩ := List.any_eq_true.1 h3
 obtain ⟨f, hf, rfl⟩ := List.mem_map.1 hy
 exact ⟨f, hf, (of_decide_eq_true e).symm⟩
end Go.Proofs.YtimejkbmfbjomaaGreat
namespace Go.Proofs.YtimejkbmfbjomaaGreat
open Go.ChangeShapes Go.WideShapes Go.ChangeAt Go.RowKit Go.Deep
set_option linter.unusedVariables false
set_option linter.unusedSimpArgs false
def ltK (a b : ByteArray) : Bool := decide (a.data.toList < b.data.toList)
/-- the least that is not in out, so far -/
def lst (out : List ByteArray) : Bool × ByteArray → List ByteArray → Bool × ByteArray
 | r, [] => r
 | r, s :: l => lst out (if (!out.any (isT s) && (!r.1 || ltK s r.2)) = true then (true, s) else r) l
def nxtS (l out : List ByteArray) : List ByteArray := if (lst out (false, ⟨#[]⟩) l).1 = true then out ++ [(lst out (false, ⟨#[]⟩) l).2] else out
def srtK (l : List ByteArray) : Nat → List ByteArray
 | 0 => []
 | k + 1 => nxtS l (srtK l k)
def srt (l : List ByteArray) : List ByteArray := srtK l l.length
theorem lst_drop {out l : List ByteArray} {r : Bool × ByteArray} {k : Nat} (h : k < l.length) : lst out r (l.drop k) = lst out (if (!out.any (isT l[k]) && (!r.1 || ltK l[k] r.2)) = true then (true, l[k]) else r) (l.drop (k + 1)) := by
 rw [List.drop_eq_getElem_cons h, lst]
theorem any_isT {l : List ByteArray} {s : ByteArray} : l.any (isT s) = true ↔ s ∈ l := by
 rw [List.any_eq_true]
 constructor
 ·rintro ⟨x, hx, e⟩
  rw [show s = x from of_decide_eq_true e]
  exact hx
 ·intro h
  exact ⟨s, h, by simp [isT]⟩
theorem any_isT0 {l : List ByteArray} {s : ByteArray} : l.any (isT s) = false ↔ s ∉ l := by
 rw [← any_isT]
 simp
def leK (a b : ByteArray) : Prop := a.data.toList ≤ b.data.toList
theorem leK_tr {a b c : ByteArray} (h : leK a b) (k : leK b c) : leK a c := List.le_trans h k
theorem leK_rf (a : ByteArray) : leK a a := List.le_refl _
theorem ltK_le {a b : ByteArray} (h : ltK a b = true) : leK a b := List.le_of_lt (of_decide_eq_true h)
theorem ltK_not {a b : ByteArray} (h : ltK a b = false) : leK b a := List.not_lt.1 (of_decide_eq_false h)
theorem ltK_of {a b : ByteArray} (h : leK a b) (hn : a ≠ b) : ltK a b = true := by
 cases e : ltK a b with
 | true => rfl
 | false =>
  have h2 := List.le_antisymm h (ltK_not e)
  exact absurd (by cases a; cases b; simpa using h2) hn
theorem ltK_ne {a b : ByteArray} (h : ltK a b = true) : a ≠ b := by
 rintro rfl
 exact absurd (of_decide_eq_true h) (List.lt_irrefl _)
/-- what is found so far: of the ones looked at that are not in out the least -/
def LsI (out seen : List ByteArray) (r : Bool × ByteArray) : Prop := (r.1 = false → ∀ s ∈ seen, s ∈ out) ∧ (r.1 = true → r.2 ∈ seen ∧ r.2 ∉ out ∧ ∀ s ∈ seen, s ∉ out → leK r.2 s)
theorem lst_inv {out : List ByteArray} : ∀ (l seen : List ByteArray) (r : Bool × ByteArray), LsI out seen r → LsI out (seen ++ l) (lst out r l)
 | [], seen, r, h => by rw [List.append_nil, lst]; exact h
 | s :: l, seen, r, h => by
  rw [lst, List.append_cons]
  refine lst_inv l (seen ++ [s]) _ ?_
  obtain ⟨h1, h2⟩ := h
  cases ho : out.any (isT s) with
  | true =>
   have hs := any_isT.1 ho
   rw [if_neg (by simp)]
   refine ⟨fun e x hx => ?_, fun e => ⟨List.mem_append_left _ (h2 e).1, (h2 e).2.1, fun x hx hn => ?_⟩⟩
   ·rcases List.mem_append.1 hx with hx | hx
    ·exact h1 e x hx
    ·rw [List.mem_singleton.1 hx]; exact hs
   ·rcases List.mem_append.1 hx with hx | hx
    ·exact (h2 e).2.2 x hx hn
    ·rw [List.mem_singleton.1 hx] at hn; exact absurd hs hn
  | false =>
   have hs := any_isT0.1 ho
   obtain ⟨b, m⟩ := r
   cases b with
   | false =>
    rw [if_pos (by simp)]
    refine ⟨fun e => (by cases e), fun _ => ⟨List.mem_append_right _ (List.mem_singleton.2 rfl), hs, fun x hx hn => ?_⟩⟩
    rcases List.mem_append.1 hx with hx | hx
    ·exact absurd (h1 rfl x hx) hn
    ·rw [List.mem_singleton.1 hx]; exact leK_rf s
   | true =>
    obtain ⟨g1, g2, g3⟩ := h2 rfl
    cases hl : ltK s m with
    | true =>
     rw [if_pos (by simp [hl])]
     refine ⟨fun e => (by cases e), fun _ => ⟨List.mem_append_right _ (List.mem_singleton.2 rfl), hs, fun x hx hn => ?_⟩⟩
     rcases List.mem_append.1 hx with hx | hx
     ·exact leK_tr (ltK_le hl) (g3 x hx hn)
     ·rw [List.mem_singleton.1 hx]; exact leK_rf s
    | false =>
     rw [if_neg (by simp [hl])]
     refine ⟨fun e => (by cases e), fun _ => ⟨List.mem_append_left _ g1, g2, fun x hx hn => ?_⟩⟩
     rcases List.mem_append.1 hx with hx | hx
     ·exact g3 x hx hn
     ·rw [List.mem_singleton.1 hx]; exact ltK_not hl
theorem lst_all (out l : List ByteArray) : LsI out l (lst out (false, ⟨#[]⟩) l) := by
 have h := lst_inv (out := out) l [] (false, ⟨#[]⟩) ⟨fun _ s hs => (by cases hs), fun e => (by cases e)⟩
 rwa [List.nil_append] at h
structure SrI (l out : List ByteArray) : Prop where
 asc : out.Pairwise (fun a b => ltK a b = true)
 sub : ∀ s ∈ out, s ∈ l
 low : ∀ a ∈ out, ∀ s ∈ l, s ∉ out → ltK a s = true
theorem srtK_inv (l : List ByteArray) : ∀ k, SrI l (srtK l k) ∧ ((∃ s ∈ l, s ∉ srtK l k) → (srtK l k).length = k)
 | 0 => ⟨⟨List.Pairwise.nil, fun s hs => (by cases hs), fun a ha => by cases ha⟩, fun _ => rfl⟩
 | k + 1 => by
  obtain ⟨⟨h1, h2, h3⟩, h4⟩ := srtK_inv l k
  have hl := lst_all (srtK l k) l
  show SrI l (nxtS l (srtK l k)) ∧ ((∃ s ∈ l, s ∉ nxtS l (srtK l k)) → (nxtS l (srtK l k)).length = k + 1)
  unfold nxtS
  generalize lst (srtK l k) (false, ⟨#[]⟩) l = r at hl ⊢
  generalize srtK l k = out at *
  obtain ⟨b, m⟩ := r
  cases b with
  | false =>
   rw [if_neg (by simp)]
   refine ⟨⟨h1, h2, h3⟩, fun ⟨s, hs, hn⟩ => absurd (hl.1 rfl s hs) hn⟩
  | true =>
   rw [if_pos rfl]
   obtain ⟨g1, g2, g3⟩ := hl.2 rfl
   simp only at g1 g2 g3
   refine ⟨⟨?_, ?_, ?_⟩, fun ⟨s, hs, hn⟩ => ?_⟩
   ·rw [List.pairwise_append]
    exact ⟨h1, List.pairwise_singleton _ _, fun a ha b hb => by rw [List.mem_singleton.1 hb]; exact h3 a ha m g1 g2⟩
   ·intro s hs
    rcases List.mem_append.1 hs with hs | hs
    ·exact h2 s hs
    ·rw [List.mem_singleton.1 hs]; exact g1
   ·intro a ha s hs hn
    rw [List.mem_append, not_or] at hn
    rcases List.mem_append.1 ha with ha | ha
    ·exact h3 a ha s hs hn.1
    ·rw [List.mem_singleton.1 ha]
     exact ltK_of (g3 s hs hn.1) (fun e => hn.2 (by rw [e]; exact List.mem_singleton.2 rfl))
   ·rw [List.length_append, h4 ⟨m, g1, g2⟩]; rfl
theorem srt_asc (l : List ByteArray) : (srt l).Pairwise (fun a b => ltK a b = true) := (srtK_inv l l.length).1.asc
theorem asc_nd {l : List ByteArray} (h : l.Pairwise (fun a b => ltK a b = true)) : l.Nodup := h.imp ltK_ne
theorem srt_mem (l : List ByteArray) (s : ByteArray) : s ∈ srt l ↔ s ∈ l := by
 obtain ⟨⟨h1, h2, h3⟩, h4⟩ := srtK_inv l l.length
 refine ⟨h2 s, fun hs => Classical.byContradiction fun hn => ?_⟩
 have e := h4 ⟨s, hs, hn⟩
 have h5 := nodup_leA (srtK l l.length) (l.eraseP (fun y => decide (y = s))) (asc_nd h1) (fun x hx => (List.mem_eraseP_of_neg (by simpa using fun e : x = s => hn (e ▸ hx))).2 (h2 x hx))
 have h6 := List.length_eraseP_of_mem (p := fun y => decide (y = s)) hs (by simp)
 have h7 := List.length_pos_of_mem hs
 omega
/-- two ascending lists of the same names are one list -/
theorem ord_srt {f : ByteArray → Bool} {l L : List ByteArray} (h : InOrd f l) (hL : ∀ s, s ∈ L ↔ s.size ≤ maxLen ∧ f s = true) : l = srt L := by
 obtain ⟨ss, rfl, h1, h2⟩ := h.out
 have hm : ∀ x, x ∈ ss ↔ x ∈ (srt L).map (fun s => s.data.toList) := by
  intro x
  rw [h2, List.mem_map]
  constructor
  ·rintro ⟨a, b⟩
   exact ⟨toBA x, (srt_mem _ _).2 ((hL _).2 ⟨by rw [ba_size]; exact a, b⟩), by simp [toBA]⟩
  ·rintro ⟨s, hs, rfl⟩
   obtain ⟨a, b⟩ := (hL s).1 ((srt_mem _ _).1 hs)
   exact ⟨by rw [← ba_size, ← ba_of]; exact a, by rw [← ba_of]; exact b⟩
 have hnd : ((srt L).map (fun s : ByteArray => s.data.toList)).Nodup := by
  rw [List.nodup_iff_pairwise_ne, List.pairwise_map]
  exact (srt_asc L).imp (fun h e => by rw [ltK, e] at h; exact absurd (of_decide_eq_true h) (List.lt_irrefl _))
 have hp : ss.Perm ((srt L).map (fun s => s.data.toList)) := (List.perm_ext_iff_of_nodup h1 hnd).2 hm
 have hs : ((srt L).map (fun s : ByteArray => s.data.toList)).Pairwise (fun a b => decide (a ≤ b) = true) := by
  rw [List.pairwise_map]
  exact (srt_asc L).imp (fun h => decide_eq_true (List.le_of_lt (of_decide_eq_true h)))
 have e1 : ss.mergeSort (fun x y => decide (x ≤ y)) = (srt L).map (fun s => s.data.toList) := (mergeSort_of_perm hp).trans (List.mergeSort_of_pairwise hs)
 rw [e1, List.map_map]
 conv => rhs; rw [← List.map_id (srt L)]
 exact List.map_congr_left (fun s _ => (ba_of s).symm)
end Go.Proofs.YtimejkbmfbjomaaGreat
