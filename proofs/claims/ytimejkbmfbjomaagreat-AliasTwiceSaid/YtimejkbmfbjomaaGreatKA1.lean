/- Texts, merged by a program; only what is used. -/
import Derived.Deep.AppendLies
import Derived.Maps.AppendAt
import Derived.Maps.Range
import Derived.Deep.RegionHeld3
import Derived.Deep.LoopGhost
import Derived.OrdersHeld
import Derived.Test.YtimejkbmfbjomaaGreatK1
import Derived.Test.YtimejkbmfbjomaaGreatK2
import Derived.Test.YtimejkbmfbjomaaGreatK3
import Derived.Test.YtimejkbmfbjomaaGreatK4
import Derived.Test.YtimejkbmfbjomaaGreatK5
import Derived.Test.YtimejkbmfbjomaaGreatK6
import Derived.Test.YtimejkbmfbjomaaGreatK7
import Derived.Test.YtimejkbmfbjomaaGreatK8
import Derived.Test.YtimejkbmfbjomaaGreatK9
import Derived.Test.YtimejkbmfbjomaaGreatK10
import Derived.Test.YtimejkbmfbjomaaGreatK11
import Derived.Test.YtimejkbmfbjomaaGreatK12
import Derived.Test.YtimejkbmfbjomaaGreatK13
import Derived.Test.YtimejkbmfbjomaaGreatK14
import Derived.Test.YtimejkbmfbjomaaGreatK15
import Derived.Test.YtimejkbmfbjomaaGreatK16
import Derived.Test.YtimejkbmfbjomaaGreatK17
import Derived.Test.YtimejkbmfbjomaaGreatK18
import Derived.Test.YtimejkbmfbjomaaGreatK19
import Derived.Test.YtimejkbmfbjomaaGreatK20
import Derived.Test.YtimejkbmfbjomaaGreatK21
import Derived.Test.YtimejkbmfbjomaaGreatK22
import Derived.Test.YtimejkbmfbjomaaGreatK23
import Derived.Test.YtimejkbmfbjomaaGreatK24
import Derived.Test.YtimejkbmfbjomaaGreatK25
import Derived.Test.YtimejkbmfbjomaaGreatK26
import Derived.Test.YtimejkbmfbjomaaGreatK27
import Derived.Test.YtimejkbmfbjomaaGreatK28
import Derived.Test.YtimejkbmfbjomaaGreatK29
import Derived.Test.YtimejkbmfbjomaaGreatK30
namespace Go.Proofs.YtimejkbmfbjomaaGreat
open Go.ChangeShapes Go.WideShapes Go.ChangeAt Go.RowKit Go.Deep
set_option linter.unusedVariables false
theorem take_eq_step {α : Type} {a b : List α} {k : Nat} (ha : k < a.length) (hb : k < b.length) (h : a.take k = b.take k) (he : a[k] = b[k]) : a.take (k + 1) = b.take (k + 1) := by
  rw [List.take_succ_eq_append_getElem ha, List.take_succ_eq_append_getElem hb, h, he]
theorem ne_of_at {α : Type} {a b : List α} {k : Nat} (ha : k < a.length) (hb : k < b.length) (he : a[k] ≠ b[k]) : a ≠ b := by
  rintro rfl; exact he rfl
end Go.Proofs.YtimejkbmfbjomaaGreat
namespace Go.Proofs.YtimejkbmfbjomaaGreat
open Go.ChangeShapes Go.WideShapes Go.ChangeAt Go.RowKit Go.Deep
set_option linter.unusedVariables false
section
variable {own own' : Nat → Prop} {a b c w w' : World}
end
end Go.Proofs.YtimejkbmfbjomaaGreat
namespace Go.Proofs.YtimejkbmfbjomaaGreat
open Go.ChangeShapes Go.WideShapes Go.ChangeAt Go.RowKit Go.Deep
set_option linter.unusedVariables false
end Go.Proofs.YtimejkbmfbjomaaGreat
namespace Go.Proofs.YtimejkbmfbjomaaGreat
open Go.ChangeShapes Go.WideShapes Go.ChangeAt Go.RowKit Go.Deep
set_option linter.unusedVariables false
/-- a new variable of the kind of statements -/
abbrev zS : Array Value := #[.int .i64 0, .int .i64 0, .slice none 0 0, .string ⟨#[]⟩, .string ⟨#[]⟩, .int .i64 0, .int .i64 0, .string ⟨#[]⟩, .slice none 0 0, .bool false, .slice none 0 0, .slice none 0 0, .slice none 0 0]
theorem set13_blk {w : World} {b : Nat} {d0 d1 d2 d3 d4 d5 d6 d7 d8 d9 d10 d11 d12 : Value} (h : Blk w b 49 zS) : Blk (World.setCell (World.setCell (World.setCell (World.setCell (World.setCell (World.setCell (World.setCell (World.setCell (World.setCell (World.setCell (World.setCell (World.setCell (World.setCell w ⟨b, 0, none⟩ d0) ⟨b, 1, none⟩ d1) ⟨b, 2, none⟩ d2) ⟨b, 3, none⟩ d3) ⟨b, 4, none⟩ d4) ⟨b, 5, none⟩ d5) ⟨b, 6, none⟩ d6) ⟨b, 7, none⟩ d7) ⟨b, 8, none⟩ d8) ⟨b, 9, none⟩ d9) ⟨b, 10, none⟩ d10) ⟨b, 11, none⟩ d11) ⟨b, 12, none⟩ d12) b 49 #[d0, d1, d2, d3, d4, d5, d6, d7, d8, d9, d10, d11, d12] := by
  have := (((((((((((((h.set_ 0 d0).set_ 1 d1).set_ 2 d2).set_ 3 d3).set_ 4 d4).set_ 5 d5).set_ 6 d6).set_ 7 d7).set_ 8 d8).set_ 9 d9).set_ 10 d10).set_ 11 d11).set_ 12 d12)
  simp only [List.setIfInBounds_toArray, List.set_cons_zero, List.set_cons_succ] at this
  exact this
end Go.Proofs.YtimejkbmfbjomaaGreat
namespace Go.Proofs.YtimejkbmfbjomaaGreat
open Go.ChangeShapes Go.WideShapes Go.ChangeAt Go.RowKit Go.Deep
set_option linter.unusedVariables false
theorem blk13 {w : World} {b : Nat} {d0 d1 d2 d3 d4 d5 d6 d7 d8 d9 d10 d11 d12 : Value} (h : Blk w b 49 zS) : Blk (World.setCell (World.setCell (World.setCell (World.setCell (World.setCell (World.setCell (World.setCell (World.setCell (World.setCell (World.setCell (World.setCell (World.setCell (World.setCell w ⟨b, 0, none⟩ d0) ⟨b, 1, none⟩ d1) ⟨b, 2, none⟩ d2) ⟨b, 3, none⟩ d3) ⟨b, 4, none⟩ d4) ⟨b, 5, none⟩ d5) ⟨b, 6, none⟩ d6) ⟨b, 7, none⟩ d7) ⟨b, 8, none⟩ d8) ⟨b, 9, none⟩ d9) ⟨b, 10, none⟩ d10) ⟨b, 11, none⟩ d11) ⟨b, 12, none⟩ d12) b 49 #[d0, d1, d2, d3, d4, d5, d6, d7, d8, d9, d10, d11, d12] := set13_blk h
end Go.Proofs.YtimejkbmfbjomaaGreat
namespace Go.Proofs.YtimejkbmfbjomaaGreat
open Go.ChangeShapes Go.WideShapes Go.ChangeAt Go.RowKit Go.Deep
set_option linter.unusedVariables false
section
variable {α : Type}
variable {R : World → (Nat → Prop) → α → List Value → Prop} {w w' : World} {base C : Nat} {e : TypeId} {l : List α} {v : Value}
end
end Go.Proofs.YtimejkbmfbjomaaGreat
namespace Go.Proofs.YtimejkbmfbjomaaGreat
open Go.ChangeShapes Go.WideShapes Go.ChangeAt Go.RowKit Go.Deep
set_option linter.unusedVariables false
end Go.Proofs.YtimejkbmfbjomaaGreat
namespace Go.Proofs.YtimejkbmfbjomaaGreat
open Go.ChangeShapes Go.WideShapes Go.ChangeAt Go.RowKit Go.Deep
set_option linter.unusedVariables false
theorem flatOf_len (q : Pr) : (flatOf q).length ≤ 201 := flatL_len q.body 1 0 false [] (by simp)
end Go.Proofs.YtimejkbmfbjomaaGreat
namespace Go.Proofs.YtimejkbmfbjomaaGreat
open Go.ChangeShapes Go.WideShapes Go.ChangeAt Go.RowKit Go.Deep
set_option linter.unusedVariables false
theorem allL_drop {l : List Pr} {k : Nat} {out : List It} (h : k < l.length) : allL (l.drop k) out = if 200 < (out ++ flatOf l[k]).length then out ++ flatOf l[k] else allL (l.drop (k + 1)) (out ++ flatOf l[k]) := by
  rw [List.drop_eq_getElem_cons h, allL]
theorem allL_len : ∀ (l : List Pr) (out : List It), out.length ≤ 200 → (allL l out).length ≤ 401
  | [], out, h => by rw [allL]; omega
  | q :: l, out, h => by
    rw [allL]
    have := flatOf_len q
    split
    · rw [List.length_append]; omega
    · exact allL_len l _ (by omega)
end Go.Proofs.YtimejkbmfbjomaaGreat
namespace Go.Proofs.YtimejkbmfbjomaaGreat
open Go.ChangeShapes Go.WideShapes Go.ChangeAt Go.RowKit Go.Deep
set_option linter.unusedVariables false
set_option linter.unusedSimpArgs false
theorem item_one {w : World} {Q : Nat → Prop} {x : It} {cs : List Value} (h : ItemI w Q x cs) : CellsOk 16 cs := by
  obtain ⟨c, rfl, hs⟩ := h
  obtain ⟨h1, h2⟩ := stmtCk _ _ _ _ hs
  refine ⟨by rw [List.length_append, h1]; rfl, fun u hu => ?_⟩
  rcases List.mem_append.1 hu with hu | hu
  · exact h2 u hu
  · simp only [List.mem_cons, List.not_mem_nil, or_false] at hu
    rcases hu with rfl | rfl | rfl <;> rfl
theorem All2.one {α : Type} {R : α → List Value → Prop} {C : Nat} (hC : ∀ x cs, R x cs → CellsOk C cs) : ∀ {l : List α} {rows : List (List Value)}, All2 R l rows → (∀ u ∈ rows.flatten, u.oneCell' = true) ∧ rows.flatten.length = l.length * C
  | [], [], _ => ⟨fun u h => by simp at h, by simp⟩
  | x :: l, c :: r, h => by
    obtain ⟨a1, a2⟩ := hC _ _ h.1
    obtain ⟨b1, b2⟩ := All2.one hC h.2
    refine ⟨fun u hu => ?_, by simp only [List.flatten_cons, List.length_append, List.length_cons]; rw [a1, b2, Nat.add_mul]; omega⟩
    rw [List.flatten_cons] at hu
    rcases List.mem_append.1 hu with hu | hu
    · exact a2 u hu
    · exact b1 u hu
  | [], _ :: _, h => h.elim
  | _ :: _, [], h => h.elim
section
variable {P : Program} {w : World}
theorem run_append_none (t ty e : TypeId) (i : TypeInfo) (ht : P.underlying t = some (.slice e)) (hi : P.info? e = some i) (X : Option Addr) (n c : Nat) (hnc : n ≤ c) (hX : X = none → n = 0 ∧ c = 0) :
    (Builtin.append_ #[t, t] ty #[.slice X n c, .slice none 0 0]).run P w = .ok (.slice X n c) w := by
  cases X with
  | none =>
    obtain ⟨rfl, rfl⟩ := hX rfl
    simp [Builtin.append_, run_underlying ht, sizeOf, typeInfo, hi, Builtin.lenOf, Builtin.firstCells, loadCells, loadCellsFrom]
  | some b =>
    simp [Builtin.append_, run_underlying ht, sizeOf, typeInfo, hi, Builtin.lenOf, Builtin.firstCells, loadCells, loadCellsFrom, hnc, storeCells]
theorem wpList_append_none {ops : Array Oper} {rest : List Oper} {o : Oper} {a : Act} {Q : Exit → Act → World → Prop} (hgd : o.guard = none) (s x : Operand) (t : TypeId)
    (ho : o.op = .call { callee := .builtin .append, args := #[s, x], argTypes := #[t, t] }) (e : TypeId) (i : TypeInfo) (ht : P.underlying t = some (.slice e)) (hi : P.info? e = some i)
    (X : Option Addr) (n c : Nat) (hs : a.eval s = .slice X n c) (hx : a.eval x = .slice none 0 0) (hnc : n ≤ c) (hX : X = none → n = 0 ∧ c = 0) (h : wpList P ops Q rest (a.put o.dst (.slice X n c)) w) :
    wpList P ops Q (o :: rest) a w := by
  refine wpList_plain hgd fun K hK => ?_
  have hr := run_append_none (P := P) (w := w) t o.type e i ht hi X n c hnc hX
  unfold Oper.wp execOp
  simp only [ho, resolve, invoke, builtin, Sem.run_bind, Sem.run_pure, Result.andThen_ok, List.map_toArray, List.map_cons, List.map_nil, hs, hx, hr]
  exact hK _ _ h
/-- one row of the call's own behind another one, whatever their lengths -/
theorem wpList_append_rows {ops : Array Oper} {rest : List Oper} {o : Oper} {a : Act} {Q : Exit → Act → World → Prop} (hgd : o.guard = none) (s x : Operand) (t : TypeId)
    (ho : o.op = .call { callee := .builtin .append, args := #[s, x], argTypes := #[t, t] })
    (base : Nat) (e : TypeId) (i : TypeInfo) (z : Value) (size bytes : Nat) (ht : P.underlying t = some (.slice e)) (hi : P.info? e = some i) (hz : i.zero = some z)
    (hsize : i.size = size) (hby : i.bytes = bytes) (hzs : z.cells.size = size) (hsz : 0 < size)
    (v : Value) (n : Nat) (xs : List Value) (hs : a.eval s = v) (hown : w.ownsRow base e size v n xs)
    (base' : Nat) (X : Option Addr) (m c : Nat) (news : List Value) (hx : a.eval x = .slice X m c) (hnew : w.ownsRow base' e size (.slice X m c) m news) (h1 : ∀ u ∈ news, u.oneCell' = true)
    (h63 : n + m ≤ maxLen) (hbytes : (n + m) * bytes ≤ 140737488355328) (hbase : base ≤ w.heap.size)
    (h : ∀ v' w', w'.ownsRow base e size v' (n + m) (xs ++ news) → w.grownBy w' v.ownBlock → (v'.ownBlock = v.ownBlock ∨ v'.ownBlock = some w.heap.size) → wpList P ops Q rest (a.put o.dst v') w') :
    wpList P ops Q (o :: rest) a w := by
  cases X with
  | some ad => exact wpList_append_own_at w hgd s x t ho base e i z size bytes ht hi hz hsize hby hzs hsz v n xs hs hown ad m c news hx hnew.1 (own_cells hnew) h1 h63 hbytes hbase (fun v' w' a1 a2 _ a4 => h v' w' a1 a2 a4)
  | none =>
    have hl := hnew.1
    rcases hnew.2 with ⟨h2, h3⟩ | ⟨g, cap', cur, h2, _⟩
    · injection h2 with _ h4 h5
      subst h4 h5
      have hn0 : news = [] := List.eq_nil_of_length_eq_zero (by rw [hl]; simp)
      subst hn0
      obtain ⟨Xf, cf, rfl, hoc, hcx⟩ := own_form hown
      have hXn : Xf = none → n = 0 ∧ cf = 0 := fun e' => by
        subst e'
        rcases hown.2 with ⟨h1, h2⟩ | ⟨g, cap', cur, h1, _⟩
        · injection h1 with _ h3 h4; exact ⟨h3, h4⟩
        · cases h1
      refine wpList_append_none hgd s x t ho e i ht hi Xf n cf hs hx hoc hXn (h _ _ ?_ (World.grownBy.refl _ _) (.inl rfl))
      rw [Nat.add_zero, List.append_nil]
      exact hown
    · cases h2
end
/-- the row of all statements, some procedures of it -/
structure AlI (w : World) (Q : Nat → Prop) (W wr : World) (out : List It) (X : Option Addr) (n c : Nat) : Prop where
  row : ∃ rows, wr.ownsRow W.heap.size 51 16 (.slice X n c) out.length rows.flatten ∧ All2 (ItemI w Q) out rows
  inn : In Q w wr
  below : Below W.heap.size W wr
set_option maxHeartbeats 4000000 in
set_option maxRecDepth 100000 in
theorem All_any {w W : World} {Q : Nat → Prop} {p : Pg} {c0 c1 : Value} (h : ProgI w Q p [c0, c1]) (hI : In Q w W) :
    Calls Tryz.prog 68 #[.agg #[c0, c1]] W fun e w' => ∃ X n c, e = .returned (.slice X n c) ∧ AlI w Q W w' (allOf p) X n c := by
  obtain ⟨Ag, cg, Ap, cp, rfl, rfl, hg1, hg2, hp1, hp2, hgl, hpr⟩ := prog_open h
  obtain ⟨i0, hi0, hz0, hz1, hz2⟩ := info_parts item_info
  have HP := Lib.hid hpr
  have HI := Lib.hid hI
  have HQ : Hid (∀ j, Q j → j < W.heap.size) := Lib.hid hI.1
  clear h hI hgl hpr
  go_enter Tryz.func68, Tryz.ntmps68
  go_upto_region 2 with fail
  have HB0 : Hid (Below W.heap.size W (W.alloc (.cells #[.slice Ag p.globals.length cg, .slice Ap p.procs.length cp] 25))) := Lib.hid (below_box _)
  have HBp : Hid (Blk (W.alloc (.cells #[.slice Ag p.globals.length cg, .slice Ap p.procs.length cp] 25)) W.heap.size 25 #[.slice Ag p.globals.length cg, .slice Ap p.procs.length cp]) := Lib.hid (Blk.new _ _ _)
  generalize World.alloc _ _ = V0 at HBp HB0 ⊢
  have q1 : V0.cell? ⟨W.heap.size, 1, none⟩ = some (.slice Ap p.procs.length cp) := by rw [HBp.out.cell]; rfl
  have hbl := HBp.out.lt
  have HI0 := Lib.hid (HI.out.on HB0.out)
  go_wp2_with fail
  clear q1 hbl HBp
  have HS : Hid (AlI w Q W V0 [] none 0 0) := Lib.hid ⟨⟨[], World.ownsRow_nil _ _ _ _, trivial⟩, HI0.out, HB0.out⟩
  clear HB0 HI0
  go_loopw [3, 9] (fun ov iv wr => ∃ (k : Nat) (out : List It) (X : Option Addr) (c : Nat), k ≤ p.procs.length ∧ iv = .int .i64 k ∧ ov = .slice X out.length c ∧ out.length ≤ 200 ∧ Hid (allL (p.procs.drop k) out = allOf p) ∧ Hid (AlI w Q W wr out X out.length c)) (fun _ iv _ => p.procs.length - (intOf iv).toNat)
  case atStart => exact ⟨0, [], none, 0, Nat.zero_le _, rfl, rfl, by simp, Lib.hid (by rw [List.drop_zero]; rfl), HS⟩
  case round =>
    clear HS
    obtain ⟨k, out, X, c, hk, rfl, rfl, ho, HW, HR⟩ := hrel
    by_cases hlt : k < p.procs.length
    · obtain ⟨a, Bp, kp, Bv, kv, Bb, kb, Be, ke, rfl, _, hrow, hnm, hpp, hvv, hbody, hee⟩ := proc_at HP.out HR.out.inn hlt
      have HD := Lib.hid (allL_drop (out := out) hlt)
      rw [HW.out] at HD
      generalize p.procs[k] = x at hrow hnm hpp hvv hbody hee HD
      obtain ⟨pn, pp, pv, pb, pe⟩ := x
      simp only at hrow hnm hpp hvv hbody hee HD
      obtain ⟨p0, p1, p2, p3, p4, _⟩ := hrow
      have HPI : Hid (ProcI w Q ⟨pn, pp, pv, pb, pe⟩ [.string pn, .slice Bp pp.length kp, .slice Bv pv.length kv, .slice Bb pb.length kb, .slice Be pe.length ke]) := Lib.hid ⟨_, _, _, _, rfl, hnm, hpp, hvv, hbody, hee⟩
      clear hnm hpp hvv hbody hee
      have HC := Lib.hid (fun V h1 h2 => Flat_any (W := V) HPI.out h1 h2)
      have hfll := flatOf_len ⟨pn, pp, pv, pb, pe⟩
      obtain ⟨its, hits⟩ : ∃ its, its = flatOf ⟨pn, pp, pv, pb, pe⟩ := ⟨_, rfl⟩
      rw [← hits] at HC hfll HD
      clear hits
      go_upto_region 5 with fail
      have HBq : Hid (Blk (wr.alloc (.cells #[.string pn, .slice Bp pp.length kp, .slice Bv pv.length kv, .slice Bb pb.length kb, .slice Be pe.length ke] 39)) wr.heap.size 39 #[.string pn, .slice Bp pp.length kp, .slice Bv pv.length kv, .slice Bb pb.length kb, .slice Be pe.length ke]) := Lib.hid (Blk.new _ _ _)
      have HBo : Hid (Below wr.heap.size wr (wr.alloc (.cells #[.string pn, .slice Bp pp.length kp, .slice Bv pv.length kv, .slice Bb pb.length kb, .slice Be pe.length ke] 39))) := Lib.hid (below_box _)
      generalize World.alloc _ _ = W6 at HBq HBo ⊢
      generalize wr.heap.size = bQ at HBq ⊢
      have HI6 := Lib.hid (HR.out.inn.on HBo.out)
      obtain ⟨rows, hO, hAl⟩ := HR.out.row
      have HO6 := Lib.hid ((Below.moves HBo.out).row hO (fun j hj e => Nat.not_lt.2 e (hO.lt j hj).2))
      have HAl := Lib.hid hAl
      have HB6 := Lib.hid (below_step HR.out.below HBo.out)
      have HRl : Hid (∀ j, (Value.slice X out.length c).ownBlock = some j → W.heap.size ≤ j ∧ j < W6.heap.size) := Lib.hid (fun j hj => ⟨(hO.lt j hj).1, Nat.lt_of_lt_of_le (hO.lt j hj).2 HBo.out.size⟩)
      clear p0 p1 p2 p3 p4 hO hAl
      have z0 : W6.cell? ⟨bQ, 0, none⟩ = some (.string pn) := by rw [HBq.out.cell]; rfl
      have z1 : W6.cell? ⟨bQ, 1, none⟩ = some (.slice Bp pp.length kp) := by rw [HBq.out.cell]; rfl
      have z2 : W6.cell? ⟨bQ, 2, none⟩ = some (.slice Bv pv.length kv) := by rw [HBq.out.cell]; rfl
      have z3 : W6.cell? ⟨bQ, 3, none⟩ = some (.slice Bb pb.length kb) := by rw [HBq.out.cell]; rfl
      have z4 : W6.cell? ⟨bQ, 4, none⟩ = some (.slice Be pe.length ke) := by rw [HBq.out.cell]; rfl
      have hbq := HBq.out.lt
      obtain ⟨Xf, cf, hXe, hoc, hcx⟩ := own_form HO6.out
      injection hXe with hX1 _ hX3
      subst hX1 hX3
      clear hcx
      by_cases hgt : 200 < out.length + its.length
      · rw [if_pos (by rw [List.length_append]; exact hgt)] at HD
        go_wp2_with (first
          | (go_at_call 20; refine (HC.out W6 HI6.out HI6.out.1).mono ?_; rintro e' W7 ⟨v7, rows7, rfl, ho7, ha7, hb7⟩; obtain ⟨X7, cx7, rfl, hx7, hx7'⟩ := own_shape ho7; have HO7 := Lib.hid ((Below.moves hb7).row HO6.out (fun j hj e => Nat.not_lt.2 e (HRl.out j hj).2)); have HA7 := Lib.hid ha7; have HV7 := Lib.hid ho7; have HB67 := Lib.hid hb7; have HI7 := Lib.hid (HI6.out.on hb7); clear ho7 ha7 hb7 HC z0 z1 z2 z3 z4 hbq HO6)
          | (at_builtin; refine wpList_append_rows rfl (.tmp 13) (.tmp 15) 42 rfl W.heap.size 51 i0 _ 16 232 Tryz.underlying42 hi0 hz0 hz1 hz2 rfl (by decide) (.slice X out.length c) out.length rows.flatten rfl HO7.out W6.heap.size X7 its.length cx7 rows7.flatten rfl HV7.out (All2.one (fun _ _ => item_one) HA7.out).1 (by unfold maxLen; omega) (by omega) (Nat.le_trans HB6.out.size HB67.out.size) ?_; intro v' w8 hown8 hg8 hat8; obtain ⟨X8, c8, rfl, _, _⟩ := own_form hown8; have HO8 := Lib.hid hown8; have HG8 := Lib.hid hg8; clear hown8 hg8 hat8))
        have hm8 := moves_grown HG8.out
        have HA : Hid (AlI w Q W w8 (out ++ its) X8 (out.length + its.length) c8) := Lib.hid ⟨⟨rows ++ rows7, by rw [List.length_append, List.flatten_append]; exact HO8.out, HAl.out.append HA7.out⟩, HI7.out.moves hm8 (fun j hj hq => by have := (HO7.out.lt j hj).1; have := HQ.out j hq; omega), (below_step HB6.out HB67.out).trans (hm8.below (Nat.le_trans HB6.out.size HB67.out.size) (fun j hj => (HO7.out.lt j hj).1))⟩
        go_ret
        exact ⟨X8, _, c8, rfl, by rw [HD.out]; exact HA.out⟩
      · rw [if_neg (by rw [List.length_append]; exact hgt)] at HD
        go_wp2_with (first
          | (go_at_call 20; refine (HC.out W6 HI6.out HI6.out.1).mono ?_; rintro e' W7 ⟨v7, rows7, rfl, ho7, ha7, hb7⟩; obtain ⟨X7, cx7, rfl, hx7, hx7'⟩ := own_shape ho7; have HO7 := Lib.hid ((Below.moves hb7).row HO6.out (fun j hj e => Nat.not_lt.2 e (HRl.out j hj).2)); have HA7 := Lib.hid ha7; have HV7 := Lib.hid ho7; have HB67 := Lib.hid hb7; have HI7 := Lib.hid (HI6.out.on hb7); clear ho7 ha7 hb7 HC z0 z1 z2 z3 z4 hbq HO6)
          | (at_builtin; refine wpList_append_rows rfl (.tmp 13) (.tmp 15) 42 rfl W.heap.size 51 i0 _ 16 232 Tryz.underlying42 hi0 hz0 hz1 hz2 rfl (by decide) (.slice X out.length c) out.length rows.flatten rfl HO7.out W6.heap.size X7 its.length cx7 rows7.flatten rfl HV7.out (All2.one (fun _ _ => item_one) HA7.out).1 (by unfold maxLen; omega) (by omega) (Nat.le_trans HB6.out.size HB67.out.size) ?_; intro v' w8 hown8 hg8 hat8; obtain ⟨X8, c8, rfl, _, _⟩ := own_form hown8; have HO8 := Lib.hid hown8; have HG8 := Lib.hid hg8; clear hown8 hg8 hat8))
        have hm8 := moves_grown HG8.out
        have HA : Hid (AlI w Q W w8 (out ++ its) X8 (out.length + its.length) c8) := Lib.hid ⟨⟨rows ++ rows7, by rw [List.length_append, List.flatten_append]; exact HO8.out, HAl.out.append HA7.out⟩, HI7.out.moves hm8 (fun j hj hq => by have := (HO7.out.lt j hj).1; have := HQ.out j hq; omega), (below_step HB6.out HB67.out).trans (hm8.below (Nat.le_trans HB6.out.size HB67.out.size) (fun j hj => (HO7.out.lt j hj).1))⟩
        go_roundw
        case rel => exact ⟨k + 1, out ++ its, X8, c8, by omega, by go_num, by rw [List.length_append], by rw [List.length_append]; omega, Lib.hid HD.out.symm, by rw [List.length_append]; exact HA⟩
        case measure => simp [intOf]; omega
    · have hD := HW.out
      rw [List.drop_of_length_le (by omega), allL] at hD
      have HD := Lib.hid hD
      clear hD
      go_wp2_with fail
      go_ret
      exact ⟨X, out.length, c, rfl, by rw [← HD.out]; exact HR.out⟩
end Go.Proofs.YtimejkbmfbjomaaGreat
namespace Go.Proofs.YtimejkbmfbjomaaGreat
open Go.ChangeShapes Go.WideShapes Go.ChangeAt Go.RowKit Go.Deep
set_option linter.unusedVariables false
set_option linter.unusedSimpArgs false
theorem empty_prog (w : World) (Q : Nat → Prop) : ProgI w Q ⟨[], []⟩ [.slice none 0 0, .slice none 0 0] := ⟨_, _, rfl, nil_slice, nil_slice⟩
end Go.Proofs.YtimejkbmfbjomaaGreat
namespace Go.Proofs.YtimejkbmfbjomaaGreat
open Go.ChangeShapes Go.WideShapes Go.ChangeAt Go.RowKit Go.Deep
set_option linter.unusedVariables false
set_option linter.unusedSimpArgs false
theorem item_at {w W0 W : World} {Q Q0 : Nat → Prop} {l : List It} {A : Option Addr} {n cap : Nat} (h : SliceI W0 Q0 16 (ItemI w Q) l (.slice A n cap)) (hI : In Q0 W0 W) {k : Nat} (hk : k < l.length) :
 ∃ a id kind labels nm proc x has args th el L lc y0 y1 y2 X xn xc R rc T tc U uc dp inn els, A = some a ∧ Q0 a.block ∧ l[k].s = .mk id kind labels nm proc x has args th el ∧
 RowAt W (a.add (k * 16)) (.int .i64 id) [.int .i64 kind, .slice L labels.length lc, .string nm, .string proc, .int .i64 y0, .int .i64 y1, .string y2, .slice X xn xc, .bool has, .slice R args.length rc, .slice T th.length tc, .slice U el.length uc, .int .i64 dp, .int .i64 inn, .bool els] ∧ i64 id ∧ i64 kind ∧
 StmtI w Q (.mk id kind labels nm proc x has args th el) [.int .i64 id, .int .i64 kind, .slice L labels.length lc, .string nm, .string proc, .int .i64 y0, .int .i64 y1, .string y2, .slice X xn xc, .bool has, .slice R args.length rc, .slice T th.length tc, .slice U el.length uc] := by
 obtain ⟨a, cs, rfl, hq, ⟨c, rfl, hst⟩, hc⟩ := slice_at h hI hk
 obtain ⟨id, kind, labels, nm, proc, x, has, args, th, el, L, lc, y0, y1, y2, X, xn, xc, R, rc, T, tc, U, uc, hmk, rfl, h1, h2, _⟩ := stmt_open hst
 rw [hmk] at hst
 exact ⟨a, id, kind, labels, nm, proc, x, has, args, th, el, L, lc, y0, y1, y2, X, xn, xc, R, rc, T, tc, U, uc, _, _, _, rfl, hq, hmk, rowAt_elem hc, h1, h2, hst⟩
section
variable {P : Program} {md : Region.Mode} {ops : Array Oper} {Q : Exit → Act → World → Prop} {S : World → Prop}
end
theorem fault_end {w : World} {f : Nat} {c i : Int} (h : Blk w f 34 #[.int .i64 0, .int .i64 0]) : Blk ((w.setCell ⟨f, 0, none⟩ (.int .i64 c)).setCell ⟨f, 1, none⟩ (.int .i64 i)) f 34 #[.int .i64 c, .int .i64 i] := by
 have h := (h.set_ 0 (.int .i64 c)).set_ 1 (.int .i64 i)
 simp only [List.setIfInBounds_toArray, List.set_cons_zero, List.set_cons_succ] at h
 exact h
end Go.Proofs.YtimejkbmfbjomaaGreat
namespace Go.Proofs.YtimejkbmfbjomaaGreat
open Go.ChangeShapes Go.WideShapes Go.ChangeAt Go.RowKit Go.Deep
set_option linter.unusedVariables false
theorem empty_smG : SmG ⟨[], []⟩ := ⟨by decide, by decide, fun q hq => absurd hq (by simp)⟩
end Go.Proofs.YtimejkbmfbjomaaGreat
namespace Go.Proofs.YtimejkbmfbjomaaGreat
open Go.ChangeShapes Go.WideShapes Go.ChangeAt Go.RowKit Go.Deep
set_option linter.unusedVariables false
set_option linter.unusedSimpArgs false
theorem AlI.slice {w W wr : World} {Q : Nat → Prop} {out : List It} {X : Option Addr} {n c : Nat} (h : AlI w Q W wr out X n c) : n = out.length ∧ n ≤ c ∧ c ≤ 9223372036854775807 ∧ SliceI wr (fun b => W.heap.size ≤ b ∧ b < wr.heap.size) 16 (ItemI w Q) out (.slice X n c) := by
 obtain ⟨rows, ho, ha⟩ := h.row
 obtain ⟨X', c', he, h1, h2⟩ := own_shape ho
 injection he with e1 e2 e3
 subst e1 e2 e3
 exact ⟨rfl, h1, h2, slice_of_own ho ha (fun x cs h => (item_one h).1)⟩
end Go.Proofs.YtimejkbmfbjomaaGreat
namespace Go.Proofs.YtimejkbmfbjomaaGreat
open Go.ChangeShapes Go.WideShapes Go.ChangeAt Go.RowKit Go.Deep
set_option linter.unusedVariables false
set_option linter.unusedSimpArgs false
theorem allL_map : ∀ (l : List Pr) (out : List It), (∀ q ∈ l, (flatOf q).map It.s = preSL q.body) → out.length + cntL l ≤ 200 → (allL l out).map It.s = out.map It.s ++ l.flatMap (fun q => preSL q.body)
 | [], out, _, _ => by rw [allL]; simp
 | q :: l, out, h, hn => by
  have hq := h q (List.mem_cons_self ..)
  have hl : (flatOf q).length = (preSL q.body).length := by rw [← hq, List.length_map]
  rw [cntL] at hn
  rw [allL, if_neg (by rw [List.length_append]; omega), allL_map l _ (fun q hq => h q (List.mem_cons_of_mem _ hq)) (by rw [List.length_append]; omega), List.map_append, hq, List.flatMap_cons, List.append_assoc]
theorem all_map {p : Pg} (h : mayP p = true) : (allOf p).map It.s = p.procs.flatMap (fun q => preSL q.body) := by
 obtain ⟨h1, h2, _⟩ := may_flat h
 have := allL_map p.procs [] (fun q hq => (h1 q hq).1) (by simpa [cntP] using h2)
 simpa [allOf] using this
end Go.Proofs.YtimejkbmfbjomaaGreat
namespace Go.Proofs.YtimejkbmfbjomaaGreat
open Go.ChangeShapes Go.WideShapes Go.ChangeAt Go.RowKit Go.Deep
set_option linter.unusedVariables false
set_option linter.unusedSimpArgs false
theorem int_info : (Tryz.prog.info? 3).map (fun i => (i.zero, i.size, i.bytes)) = some (some (.int .i64 0), 1, 8) := by kernel_rfl
def intsV (l : List Int) : List Value := l.map (Value.int .i64)
def idsOf (kind : Int) (l : List It) : List Int := (l.filter (fun x => kind == 0 || x.s.kind == kind)).map (fun x => x.s.id)
theorem idsOf_take {kind : Int} {l : List It} {k : Nat} (h : k < l.length) : idsOf kind (l.take (k + 1)) = idsOf kind (l.take k) ++ if (kind == 0 || l[k].s.kind == kind) = true then [l[k].s.id] else [] := by
 unfold idsOf
 rw [List.take_succ_eq_append_getElem h, List.filter_append, List.map_append]
 congr 1
 rw [List.filter_cons, List.filter_nil]
 split <;> rfl
theorem idsOf_len {kind : Int} {l : List It} {k : Nat} : (idsOf kind (l.take k)).length ≤ k := by
 unfold idsOf
 rw [List.length_map]
 exact Nat.le_trans (List.length_filter_le ..) (by rw [List.length_take]; omega)
theorem new_int (w : World) (n : Int) : ∀ j u, [Value.int .i64 n][j]? = some u → (w.alloc (.cells #[.int .i64 n] 3)).cell? ((⟨w.heap.size, 0, none⟩ : Addr).add j) = some u := by
 intro j u hu
 have hj : j = 0 := by have := (List.getElem?_eq_some_iff.1 hu).1; simp at this; exact this
 subst hj
 simp at hu
 subst hu
 simp [Addr.add]
structure IdI (V wr : World) (l : List Int) (X : Option Addr) (n c : Nat) : Prop where
 row : wr.ownsRow V.heap.size 3 1 (.slice X n c) n (intsV l)
 len : n = l.length
 below : Below V.heap.size V wr
def NewInts (l : List Int) (w : World) (e : Ending) (w' : World) : Prop := ∃ v, e = .returned v ∧ w'.ownsRow w.heap.size 3 1 v l.length (intsV l) ∧ Below w.heap.size w w'
set_option maxHeartbeats 8000000 in
set_option maxRecDepth 100000 in
theorem Ids_any {w : World} {Q : Nat → Prop} {p : Pg} {c0 c1 : Value} (h : ProgI w Q p [c0, c1]) (kd : Int) (hkd : i64 kd) (W : World) (hI : In Q w W) :
 Calls Tryz.prog 29 #[.agg #[c0, c1], .int .i64 kd] W (NewInts (idsOf kd (allOf p)) W) := by
 have HAl := Lib.hid (fun V hV => All_any (W := V) h hV)
 obtain ⟨Ag, cg, Ap, cp, rfl, rfl, _⟩ := prog_open h
 have HI := Lib.hid hI
 have HLn : Hid ((allOf p).length ≤ 401) := Lib.hid (allL_len p.procs [] (by simp))
 obtain ⟨i0, hi0, hz0, hz1, hz2⟩ := info_parts int_info
 unfold i64 at hkd
 clear h hI
 generalize allOf p = its at HAl HLn ⊢
 go_enter Tryz.func29, Tryz.ntmps29
 go_upto_region 1 with fail
 have HB0 : Hid (Below W.heap.size W (W.alloc (.cells #[.slice Ag p.globals.length cg, .slice Ap p.procs.length cp] 25))) := Lib.hid (below_box _)
 have HBp : Hid (Blk (W.alloc (.cells #[.slice Ag p.globals.length cg, .slice Ap p.procs.length cp] 25)) W.heap.size 25 #[.slice Ag p.globals.length cg, .slice Ap p.procs.length cp]) := Lib.hid (Blk.new _ _ _)
 generalize World.alloc _ _ = V at HB0 HBp ⊢
 have HI0 := Lib.hid (HI.out.on HB0.out)
 generalize hbe : W.heap.size = b at HBp ⊢
 clear hbe
 have q0 : V.cell? ⟨b, 0, none⟩ = some (.slice Ag p.globals.length cg) := by rw [HBp.out.cell]; rfl
 have q1 : V.cell? ⟨b, 1, none⟩ = some (.slice Ap p.procs.length cp) := by rw [HBp.out.cell]; rfl
 go_upto_region 3 with (go_at_call 68; refine (HAl.out V HI0.out).mono ?_; rintro e w1 ⟨X1, n1, k1, rfl, hal⟩; obtain ⟨rfl, hn1, hk1, hsl⟩ := hal.slice)
 have HSl := Lib.hid hsl
 have HB1 := Lib.hid (below_step HB0.out hal.below)
 have HI1 := Lib.hid hal.inn
 have HIl : Hid (In (fun b => V.heap.size ≤ b ∧ b < w1.heap.size) w1 w1) := Lib.hid ⟨fun b h => h.2, fun _ _ => rfl⟩
 clear q0 q1 hal hsl HB0 HBp HI0 HAl
 generalize (fun b => V.heap.size ≤ b ∧ b < w1.heap.size) = T0 at HSl HIl
 have hll : its.length ≤ 401 := HLn.out
 have HS0 : Hid (IdI w1 w1 (idsOf kd (its.take 0)) none 0 0) := Lib.hid ⟨World.ownsRow_nil _ _ _ _, rfl, Below.refl _ _⟩
 go_loopg [5, 11] its.length (fun kk ov iv wr => ∃ (k : Nat) (Xr : Option Addr) (n c : Nat), k + kk = its.length ∧ iv = .int .i64 k ∧ ov = .slice Xr n c ∧ n ≤ 401 ∧ Hid (IdI w1 wr (idsOf kd (its.take k)) Xr n c))
 case atStart => exact ⟨0, none, 0, 0, by omega, rfl, rfl, by omega, HS0⟩
 case round =>
  clear HS0
  obtain ⟨k, Xr, n, c, hk, rfl, rfl, hn4, HR⟩ := hrel
  have HIr := Lib.hid (HI1.out.on HR.out.below)
  by_cases hlt : k < its.length
  ·obtain ⟨a2, id, kind, labels, nm, proc, x, has, args, th, el, L, lc, y0, y1, y2, X, xn, xc, R, rc, T, tc, U, uc, dp, inn, els, rfl, hq2, hmk, hrow2, hid, hkind, hst⟩ := item_at HSl.out (HIl.out.on HR.out.below) hlt
   have HT := Lib.hid (idsOf_take (kind := kd) hlt)
   rw [hmk] at HT
   have HLe : Hid (n = (idsOf kd (its.take k)).length ∧ n ≤ k) := Lib.hid ⟨HR.out.len, by rw [HR.out.len]; exact idsOf_len⟩
   generalize idsOf kd (its.take k) = pre at HR HT HLe
   have hkb := hkind
   unfold i64 at hkb
   obtain ⟨bb, hbb⟩ : ∃ bb, bb = (kd == 0 || kind == kd) := ⟨_, rfl⟩
   have HT2 : Hid (idsOf kd (its.take (k + 1)) = pre ++ if bb = true then [id] else []) := Lib.hid (by rw [hbb]; exact HT.out)
   have Hbb := Lib.hid hbb
   obtain ⟨p0, p1, p2, p3, p4, p5, p6, p7, p8, p9, p10, p11, p12, p13, p14, p15, _⟩ := hrow2
   clear hbb HT hmk hst hid hkind hq2
   go_upto_region 5 with fail
   have HBi : Hid (Blk (wr.alloc (.cells #[.int .i64 id, .int .i64 kind, .slice L labels.length lc, .string nm, .string proc, .int .i64 y0, .int .i64 y1, .string y2, .slice X xn xc, .bool has, .slice R args.length rc, .slice T th.length tc, .slice U el.length uc, .int .i64 dp, .int .i64 inn, .bool els] 51)) wr.heap.size 51 #[.int .i64 id, .int .i64 kind, .slice L labels.length lc, .string nm, .string proc, .int .i64 y0, .int .i64 y1, .string y2, .slice X xn xc, .bool has, .slice R args.length rc, .slice T th.length tc, .slice U el.length uc, .int .i64 dp, .int .i64 inn, .bool els]) := Lib.hid (Blk.new _ _ _)
   have HO4 : Hid ((wr.alloc (.cells #[.int .i64 id, .int .i64 kind, .slice L labels.length lc, .string nm, .string proc, .int .i64 y0, .int .i64 y1, .string y2, .slice X xn xc, .bool has, .slice R args.length rc, .slice T th.length tc, .slice U el.length uc, .int .i64 dp, .int .i64 inn, .bool els] 51)).ownsRow w1.heap.size 3 1 (.slice Xr n c) n (intsV pre)) := Lib.hid (HR.out.row.alloc _)
   have HB4 : Hid (Below w1.heap.size w1 (wr.alloc (.cells #[.int .i64 id, .int .i64 kind, .slice L labels.length lc, .string nm, .string proc, .int .i64 y0, .int .i64 y1, .string y2, .slice X xn xc, .bool has, .slice R args.length rc, .slice T th.length tc, .slice U el.length uc, .int .i64 dp, .int .i64 inn, .bool els] 51))) := Lib.hid (below_stepA HR.out.below _)
   clear p0 p1 p2 p3 p4 p5 p6 p7 p8 p9 p10 p11 p12 p13 p14 p15 HIr HR
   generalize World.alloc wr _ = V4 at HBi HB4 HO4 ⊢
   generalize wr.heap.size = bi at HBi ⊢
   have s0 : V4.cell? ⟨bi, 0, none⟩ = some (.int .i64 id) := by rw [HBi.out.cell]; rfl
   have s1 : V4.cell? ⟨bi, 1, none⟩ = some (.int .i64 kind) := by rw [HBi.out.cell]; rfl
   have hnk : n ≤ 400 := by have := HLe.out.2; omega
   go_cut [23] from 15 to 22 (fun s wx => s = .bool bb ∧ wx = V4)
   case first =>
    by_cases hk0 : kd = 0
    ·subst hk0
     have H2 : Hid (bb = true) := Lib.hid (by rw [Hbb.out]; rfl)
     go_wp2_with fail
     go_meet
     exact ⟨by rw [H2.out], rfl⟩
    ·have hk1 : (kd == 0) = false := beq_eq_false_iff_ne.2 hk0
     have H2 : Hid (bb = (kind == kd)) := Lib.hid (by rw [Hbb.out, hk1]; rfl)
     clear hk0
     go_wp2_with fail
     go_meet
     exact ⟨by rw [H2.out]; try rfl, rfl⟩
   case rest =>
    obtain ⟨rfl, hw⟩ := hcut
    replace hw := hw.symm
    subst hw
    cases bb with
    | true =>
     have HW := Lib.hid (new_int V4 id)
     have HO5 : Hid ((V4.alloc (.cells #[.int .i64 id] 3)).ownsRow w1.heap.size 3 1 (.slice Xr n c) n (intsV pre)) := Lib.hid (HO4.out.alloc _)
     have HB5 : Hid (Below w1.heap.size w1 (V4.alloc (.cells #[.int .i64 id] 3))) := Lib.hid (below_stepA HB4.out _)
     go_wp2_with (at_builtin; refine wpList_append_own_at _ rfl (.tmp 24) (.tmp 28) 55 rfl w1.heap.size 3 i0 _ 1 8 Tryz.underlying55 hi0 hz0 hz1 hz2 rfl (by decide) _ n (intsV pre) rfl HO5.out ⟨V4.heap.size, 0, none⟩ 1 1 [.int .i64 id] rfl rfl HW.out (by simp [Value.oneCell']) (by unfold maxLen; omega) (by omega) HB5.out.size ?_; intro v6 w6 hown6 hg6 _ hat6; obtain ⟨X6, k6, rfl, _, _⟩ := own_shape hown6; have HO6 := Lib.hid hown6; have HG6 := Lib.hid hg6; clear hown6 hg6 hat6)
     have HS : Hid (IdI w1 w6 (idsOf kd (its.take (k + 1))) X6 (n + 1) k6) := Lib.hid ⟨by rw [HT2.out]; show World.ownsRow _ _ _ _ _ _ (intsV (pre ++ [id])); unfold intsV; rw [List.map_append]; exact HO6.out, by rw [HT2.out]; show _ = (pre ++ [id]).length; rw [List.length_append, ← HLe.out.1]; rfl, HB5.out.grown HG6.out HB5.out.size (fun j hj => (HO5.out.lt j hj).1)⟩
     go_roundg (its.length - k - 1)
     case measure => omega
     case rel => exact ⟨k + 1, X6, _, k6, by omega, by go_num, rfl, by omega, HS⟩
    | false =>
     have HS : Hid (IdI w1 V4 (idsOf kd (its.take (k + 1))) Xr n c) := Lib.hid ⟨by rw [HT2.out]; show World.ownsRow _ _ _ _ _ _ (intsV (pre ++ [])); rw [List.append_nil]; exact HO4.out, by rw [HT2.out]; show _ = (pre ++ []).length; rw [List.append_nil]; exact HLe.out.1, HB4.out⟩
     go_wp2_with fail
     go_roundg (its.length - k - 1)
     case measure => omega
     case rel => exact ⟨k + 1, Xr, _, c, by omega, by go_num, rfl, by omega, HS⟩
  ·have hke : k = its.length := by omega
   subst hke
   go_wp2_with fail
   go_ret
   refine ⟨_, rfl, own_lower ?_ HB1.out.size, below_step HB1.out HR.out.below⟩
   have h1 := HR.out.row
   have h2 := HR.out.len
   rw [List.take_length] at h1 h2
   rw [h2] at h1 ⊢
   exact h1
theorem Pick_any {w W : World} {base c : Nat} {X : Option Addr} {l : List Int} (h : w.ownsRow base 3 1 (.slice X l.length c) l.length (intsV l)) (hl : l.length ≤ 1000) (hlb : ∀ i ∈ l, i64 i) (n : Int) (hb : Below w.heap.size w W) :
 Calls Tryz.prog 28 #[.slice X l.length c, .int .i64 n] W fun e w' => ∃ i : Int, (l = [] ∧ i = 0 ∨ i ∈ l) ∧ e = .returned (.int .i64 i) ∧ W = w' := by
 by_cases h0 : l.length = 0
 ·have hnil : l = [] := List.eq_nil_of_length_eq_zero h0
  have HN := Lib.hid hnil
  obtain ⟨len, hlen⟩ : ∃ len, len = l.length := ⟨_, rfl⟩
  rw [← hlen] at h0 ⊢
  subst h0
  clear h hl hlb hnil hlen
  go_enter Tryz.func28, Tryz.ntmps28
  go_wp2_with fail
  go_ret
  exact ⟨0, .inl ⟨HN.out, rfl⟩, rfl, rfl⟩
 ·obtain ⟨m, hm, hM⟩ := Mod_fix n l.length (by omega) (by omega)
  have HM := Lib.hid hM
  obtain ⟨a, cap, he, hc, _, _⟩ := own_at h hm
  injection he with h1 _ h3
  subst h1 h3
  have hcell := hc (.int .i64 l[m]) (by simp [intsV, List.getElem?_map, List.getElem?_eq_getElem hm])
  have hlt : (a.add m).block < w.heap.size := World.block_lt_of_cell? w _ hcell
  have p0 : W.cell? (a.add m) = some (.int .i64 l[m]) := (hb.cell hlt).trans hcell
  have hmem := List.getElem_mem hm
  have HMem := Lib.hid hmem
  have hb0 : (((l.length : Nat) : Int) == 0) = false := beq_eq_false_iff_ne.2 (by omega)
  clear h hl hlb hM hc hcell hlt hb hmem
  generalize l[m] = x at p0 HMem
  go_enter Tryz.func28, Tryz.ntmps28
  go_wp2_with (go_at_call 35; refine (HM.out _).mono ?_; rintro e w' ⟨rfl, rfl⟩)
  go_ret
  exact ⟨x, .inr HMem.out, rfl, rfl⟩
end Go.Proofs.YtimejkbmfbjomaaGreat
