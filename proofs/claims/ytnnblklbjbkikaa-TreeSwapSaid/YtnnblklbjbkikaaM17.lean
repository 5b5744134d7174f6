/- Texts, merged by a program; only what is used. -/
import Derived.Deep.QuietTactic
import Derived.BigQuiet
import Derived.Test.YtnnblklbjbkikaaM1
import Derived.Test.YtnnblklbjbkikaaM2
import Derived.Test.YtnnblklbjbkikaaM3
namespace Go.Proofs.Ytnnblklbjbkikaa
open Go.ChangeShapes Go.WideShapes Go.ChangeAt Go.RowKit Go.Deep
set_option linter.unusedVariables false
section
variable {n : Nat} {a : Act} {fs gs : List (Nat × Value)}
end
section
variable {P : Program} {C : World → Prop} {Q : Act → Prop} {l : List Oper} {i : Nat} {a : Act} {o : Oper}
abbrev QW (P : Program) (l : List Oper) (C : World → Prop) (Q : Act → Prop) (i : Nat) (a : Act) : Prop := wpQuiet P l.toArray C Q (l.drop i) a
theorem qw_step (ho : l[i]? = some o) (h : if Region.wanted o (yielded l.toArray a.tmps) then o.quiet P a C (fun a' => QW P l C Q (i + 1) a') else QW P l C Q (i + 1) (a.put o.dst undef)) : QW P l C Q i a := by
  unfold QW
  have hi : i < l.length := (List.getElem?_eq_some_iff.1 ho).1
  rw [List.drop_eq_getElem_cons hi]
  have he : l[i] = o := (List.getElem?_eq_some_iff.1 ho).2
  rw [he]
  unfold wpQuiet
  exact h
theorem qw_end (hi : l.length ≤ i) (h : Q a) : QW P l C Q i a := by
  unfold QW
  rw [List.drop_of_length_le hi]
  exact h
/-- is it wanted? -/
theorem want_none (hg : o.guard = none) : Region.wanted o (yielded l.toArray a.tmps) = true := by unfold Region.wanted; rw [hg]
theorem quiet_val {v : Value} {K : Act → Prop} (h : ∀ w, C w → (execOp a.eval o).run P w = .ok (.value v) w) (hk : K (a.put o.dst v)) : o.quiet P a C K :=
  ⟨v, fun w hw => by unfold Oper.quietAt; rw [h w hw]; exact ⟨rfl, rfl⟩, hk⟩
theorem run_nilCheck_ {ρ : Operand → Value} {x : Operand} {p : Addr} {w : World} (ho : o.op = .nilCheck x) (hx : ρ x = .pointer (some p)) : (execOp ρ o).run P w = .ok (.value (.pointer (some p))) w := by
  simp [execOp, ho, hx, go_sem]
theorem run_pick_ {ρ : Operand → Value} {c x y : Operand} {b : Bool} {w : World} (ho : o.op = .pick c x y) (hc : ρ c = .bool b) : (execOp ρ o).run P w = .ok (.value (if b then ρ x else ρ y)) w := by
  cases b <;> simp [execOp, ho, hc, go_sem]
end
section
variable {o : Oper} {ρ : Operand → Value} {w : World}
theorem size_of_info {t : TypeId} {n : Nat} (h : (Try.prog.info? t).map (·.size) = some n) : (sizeOf t).run Try.prog w = .ok n w := by
  obtain ⟨i, hi, hn⟩ := Option.map_eq_some_iff.1 h
  simp [sizeOf, typeInfo, hi, hn]
theorem run_field47_0 {x : Operand} {p : Addr} (ho : o.op = .fieldAddr 55 x 0) (hx : ρ x = .pointer (some p)) : (execOp ρ o).run Try.prog w = .ok (.value (.pointer (some (p.add 0)))) w := by
  have hs : (sizeOf 3).run Try.prog w = .ok 1 w := size_of_info (by kernel_rfl)
  simp [execOp, ho, hx, go_sem, run_underlying Try.underlying55, hs]
theorem run_field47_1 {x : Operand} {p : Addr} (ho : o.op = .fieldAddr 55 x 1) (hx : ρ x = .pointer (some p)) : (execOp ρ o).run Try.prog w = .ok (.value (.pointer (some (p.add 1)))) w := by
  have hs : (sizeOf 3).run Try.prog w = .ok 1 w := size_of_info (by kernel_rfl)
  simp [execOp, ho, hx, go_sem, run_underlying Try.underlying55, hs]
theorem run_field47_2 {x : Operand} {p : Addr} (ho : o.op = .fieldAddr 55 x 2) (hx : ρ x = .pointer (some p)) : (execOp ρ o).run Try.prog w = .ok (.value (.pointer (some (p.add 2)))) w := by
  have hs : (sizeOf 22).run Try.prog w = .ok 1 w := size_of_info (by kernel_rfl)
  simp [execOp, ho, hx, go_sem, run_underlying Try.underlying55, hs]
theorem run_field47_3 {x : Operand} {p : Addr} (ho : o.op = .fieldAddr 55 x 3) (hx : ρ x = .pointer (some p)) : (execOp ρ o).run Try.prog w = .ok (.value (.pointer (some (p.add 3)))) w := by
  have hs : (sizeOf 9).run Try.prog w = .ok 1 w := size_of_info (by kernel_rfl)
  simp [execOp, ho, hx, go_sem, run_underlying Try.underlying55, hs]
theorem run_field47_4 {x : Operand} {p : Addr} (ho : o.op = .fieldAddr 55 x 4) (hx : ρ x = .pointer (some p)) : (execOp ρ o).run Try.prog w = .ok (.value (.pointer (some (p.add 4)))) w := by
  have hs : (sizeOf 9).run Try.prog w = .ok 1 w := size_of_info (by kernel_rfl)
  simp [execOp, ho, hx, go_sem, run_underlying Try.underlying55, hs]
theorem run_field47_5 {x : Operand} {p : Addr} (ho : o.op = .fieldAddr 55 x 5) (hx : ρ x = .pointer (some p)) : (execOp ρ o).run Try.prog w = .ok (.value (.pointer (some (p.add 5)))) w := by
  have hs : (sizeOf 41).run Try.prog w = .ok 4 w := size_of_info (by kernel_rfl)
  simp [execOp, ho, hx, go_sem, run_underlying Try.underlying55, hs]
theorem run_field47_6 {x : Operand} {p : Addr} (ho : o.op = .fieldAddr 55 x 6) (hx : ρ x = .pointer (some p)) : (execOp ρ o).run Try.prog w = .ok (.value (.pointer (some (p.add 9)))) w := by
  have hs : (sizeOf 4).run Try.prog w = .ok 1 w := size_of_info (by kernel_rfl)
  simp [execOp, ho, hx, go_sem, run_underlying Try.underlying55, hs]
theorem run_field47_7 {x : Operand} {p : Addr} (ho : o.op = .fieldAddr 55 x 7) (hx : ρ x = .pointer (some p)) : (execOp ρ o).run Try.prog w = .ok (.value (.pointer (some (p.add 10)))) w := by
  have hs : (sizeOf 52).run Try.prog w = .ok 1 w := size_of_info (by kernel_rfl)
  simp [execOp, ho, hx, go_sem, run_underlying Try.underlying55, hs]
theorem run_field47_8 {x : Operand} {p : Addr} (ho : o.op = .fieldAddr 55 x 8) (hx : ρ x = .pointer (some p)) : (execOp ρ o).run Try.prog w = .ok (.value (.pointer (some (p.add 11)))) w := by
  have hs : (sizeOf 53).run Try.prog w = .ok 1 w := size_of_info (by kernel_rfl)
  simp [execOp, ho, hx, go_sem, run_underlying Try.underlying55, hs]
theorem run_field47_9 {x : Operand} {p : Addr} (ho : o.op = .fieldAddr 55 x 9) (hx : ρ x = .pointer (some p)) : (execOp ρ o).run Try.prog w = .ok (.value (.pointer (some (p.add 12)))) w := by
  have hs : (sizeOf 53).run Try.prog w = .ok 1 w := size_of_info (by kernel_rfl)
  simp [execOp, ho, hx, go_sem, run_underlying Try.underlying55, hs]
theorem run_load_int {x : Operand} {p : Addr} {v : Value} (ho : o.op = .load 3 x) (hx : ρ x = .pointer (some p)) (hc : w.cell? p = some v) : (execOp ρ o).run Try.prog w = .ok (.value v) w := by
  simp [execOp, ho, hx, go_sem, isAgg, run_underlying Try.underlying3, hc]
theorem run_load_str {x : Operand} {p : Addr} {v : Value} (ho : o.op = .load 9 x) (hx : ρ x = .pointer (some p)) (hc : w.cell? p = some v) : (execOp ρ o).run Try.prog w = .ok (.value v) w := by
  simp [execOp, ho, hx, go_sem, isAgg, run_underlying Try.underlying9, hc]
theorem run_load_bool {x : Operand} {p : Addr} {v : Value} (ho : o.op = .load 4 x) (hx : ρ x = .pointer (some p)) (hc : w.cell? p = some v) : (execOp ρ o).run Try.prog w = .ok (.value v) w := by
  simp [execOp, ho, hx, go_sem, isAgg, run_underlying Try.underlying4, hc]
theorem run_load_stmts {x : Operand} {p : Addr} {v : Value} (ho : o.op = .load 53 x) (hx : ρ x = .pointer (some p)) (hc : w.cell? p = some v) : (execOp ρ o).run Try.prog w = .ok (.value v) w := by
  simp [execOp, ho, hx, go_sem, isAgg, run_underlying Try.underlying53, hc]
theorem run_load_strs {x : Operand} {p : Addr} {v : Value} (ho : o.op = .load 22 x) (hx : ρ x = .pointer (some p)) (hc : w.cell? p = some v) : (execOp ρ o).run Try.prog w = .ok (.value v) w := by
  simp [execOp, ho, hx, go_sem, isAgg, run_underlying Try.underlying22, hc]
theorem run_load_args {x : Operand} {p : Addr} {v : Value} (ho : o.op = .load 52 x) (hx : ρ x = .pointer (some p)) (hc : w.cell? p = some v) : (execOp ρ o).run Try.prog w = .ok (.value v) w := by
  simp [execOp, ho, hx, go_sem, isAgg, run_underlying Try.underlying52, hc]
theorem run_load_expr {x : Operand} {p : Addr} {v0 v1 v2 v3 : Value} (ho : o.op = .load 41 x) (hx : ρ x = .pointer (some p)) (h0 : w.cell? p = some v0) (h1 : w.cell? ⟨p.block, p.off + 1, none⟩ = some v1) (h2 : w.cell? ⟨p.block, p.off + 2, none⟩ = some v2) (h3 : w.cell? ⟨p.block, p.off + 3, none⟩ = some v3) : (execOp ρ o).run Try.prog w = .ok (.value (.agg #[v0, v1, v2, v3])) w := by
  simp [execOp, ho, hx, go_sem, isAgg, run_underlying Try.underlying41, loadCellsFrom, h0, h1, h2, h3]
theorem run_eqInt_ {T T' : TypeId} {x y : Operand} {p q : Int} (ho : o.op = .binOp .eql T x y T') (hx : ρ x = .int .i64 p) (hy : ρ y = .int .i64 q) : (execOp ρ o).run Try.prog w = .ok (.value (.bool (p == q))) w := by
  simp [execOp, ho, hx, hy, go_sem]
theorem run_eqStr_ {T T' : TypeId} {x y : Operand} {p q : ByteArray} (ho : o.op = .binOp .eql T x y T') (hx : ρ x = .string p) (hy : ρ y = .string q) : (execOp ρ o).run Try.prog w = .ok (.value (.bool (p.toList == q.toList))) w := by
  simp [execOp, ho, hx, hy, go_sem]
theorem run_eqBool_ {T' : TypeId} {x y : Operand} {p q : Bool} (ho : o.op = .binOp .eql 4 x y T') (hx : ρ x = .bool p) (hy : ρ y = .bool q) : (execOp ρ o).run Try.prog w = .ok (.value (.bool (p == q))) w := by
  unfold execOp
  simp only [ho, hx, hy]
  go_simp
theorem run_len_ {t e : TypeId} {x : Operand} {A : Option Addr} {m c : Nat} (ht : Try.prog.underlying t = some (.slice e)) (ho : o.op = .call { callee := .builtin .len, args := #[x], argTypes := #[t] }) (hx : ρ x = .slice A m c) : (execOp ρ o).run Try.prog w = .ok (.value (.int .i64 m)) w := by
  simp [execOp, ho, hx, go_sem, Builtin.len_, run_underlying ht]
end
section
variable {P : Program} {C : World → Prop} {o : Oper} {a : Act}
theorem quiet_call {f : FuncId} {xs : Array Operand} {ts : Array TypeId} {v : Value} {K : Act → Prop} (ho : o.op = .call { callee := .value (.func f), args := xs, argTypes := ts }) {fn : Func} (hf : P.funcs[f]? = some fn) (hn : (fn.name == "runtime.NumGoroutine") = false) (hb : fn.body.isNone = false) (h : ∀ w, C w → Calls P f (xs.map a.eval) w fun e w' => e = .returned v ∧ C w') (hk : K (a.put o.dst v)) : o.quiet P a C K :=
  ⟨v, fun w hw => by
    unfold Oper.quietAt
    have : (execOp a.eval o).run P w = .ok (.enter f (xs.map a.eval)) w := by
      have h1 : fn.name ≠ "runtime.NumGoroutine" := by simpa using hn
      have h2 : fn.body ≠ none := by intro e; rw [e] at hb; cases hb
      simp [execOp, ho, go_sem]
      unfold callFunc
      simp [go_sem, hf, h1, h2]
    rw [this]
    exact ⟨rfl, h w hw⟩, hk⟩
end
def inf (o : Oper) : Option Tmp × Op × Option (Nat × Bool) := (o.dst, o.op, o.guard)
def regionOps (id : Nat) : Code → Option (List Oper)
  | .region i ops _ => if i = id then some ops.toList else none
  | .seq a b => match regionOps id a with
    | some l => some l
    | none => regionOps id b
  | _ => none
section
variable {P : Program} {C : World → Prop} {Q : Act → Prop} {l : List Oper} {i n d : Nat} {a : Act} {op : Op} {v : Value}
/-- the frame behind a step: slot d holds v, all else is as it was -/
structure Nx (n d : Nat) (v : Value) (a a' : Act) : Prop where
  size : a'.tmps.size = n
  defers : a'.defers = a.defers
  new : a'.tmps[d]? = some v
  old : ∀ m, m ≠ d → a'.tmps[m]? = a.tmps[m]?
theorem nx_put (hz : a.tmps.size = n) (hd : d < n) (v : Value) : Nx n d v a (a.put (some d) v) :=
  ⟨by simp [Act.put, hz], rfl, by simp only [Act.put]; rw [Array.getElem?_setIfInBounds_self_of_lt (by rw [hz]; exact hd)], fun m hm => by simp only [Act.put]; rw [Array.getElem?_setIfInBounds_ne (Ne.symm hm)]⟩
theorem ev_of {k : Nat} (h : a.tmps[k]? = some v) : a.eval (.tmp k) = v := by
  simp only [Act.eval, Array.getD_eq_getD_getElem?]
  rw [h]; rfl
theorem inf_some {g : Option (Nat × Bool)} {dst : Option Tmp} (h : (l[i]?).map inf = some (dst, op, g)) : ∃ o, l[i]? = some o ∧ o.dst = dst ∧ o.op = op ∧ o.guard = g := by
  obtain ⟨o, ho, he⟩ := Option.map_eq_some_iff.1 h
  simp only [inf, Prod.mk.injEq] at he
  exact ⟨o, ho, he.1, he.2.1, he.2.2⟩
theorem yield_of {j dj : Nat} {c : Bool} (hj : (l[j]?).bind (·.dst) = some dj) (hv : a.tmps[dj]? = some (.bool c)) : yielded l.toArray a.tmps j = some c := by
  unfold yielded
  have h1 : l.toArray[j]? = l[j]? := by simp
  simp only [h1, hj, Option.bind_some, hv]
theorem qs_quiet (hi : (l[i]?).map inf = some (some d, op, none)) (hz : a.tmps.size = n) (hd : d < n) (hrun : ∀ (o : Oper) (K : Act → Prop), o.op = op → K (a.put o.dst v) → o.quiet P a C K) (k : ∀ a', Nx n d v a a' → QW P l C Q (i + 1) a') : QW P l C Q i a := by
  obtain ⟨o, ho, h1, h2, h3⟩ := inf_some hi
  refine qw_step ho ?_
  rw [if_pos (want_none h3)]
  refine hrun o _ h2 ?_
  rw [h1]
  exact k _ (nx_put hz hd v)
theorem qs_quietG {j dj : Nat} (hi : (l[i]?).map inf = some (some d, op, some (j, true))) (hj : (l[j]?).bind (·.dst) = some dj) (hv : a.tmps[dj]? = some (.bool true)) (hz : a.tmps.size = n) (hd : d < n) (hrun : ∀ (o : Oper) (K : Act → Prop), o.op = op → K (a.put o.dst v) → o.quiet P a C K) (k : ∀ a', Nx n d v a a' → QW P l C Q (i + 1) a') : QW P l C Q i a := by
  obtain ⟨o, ho, h1, h2, h3⟩ := inf_some hi
  refine qw_step ho ?_
  have hw : Region.wanted o (yielded l.toArray a.tmps) = true := by unfold Region.wanted; rw [h3]; simp only [yield_of hj hv]; rfl
  rw [if_pos hw]
  refine hrun o _ h2 ?_
  rw [h1]
  exact k _ (nx_put hz hd v)
theorem qs_val (hi : (l[i]?).map inf = some (some d, op, none)) (hz : a.tmps.size = n) (hd : d < n) (hrun : ∀ (o : Oper) (w : World), o.op = op → C w → (execOp a.eval o).run P w = .ok (.value v) w) (k : ∀ a', Nx n d v a a' → QW P l C Q (i + 1) a') : QW P l C Q i a :=
  qs_quiet hi hz hd (fun o K ho hk => quiet_val (fun w hw => hrun o w ho hw) hk) k
theorem qs_valG {j dj : Nat} (hi : (l[i]?).map inf = some (some d, op, some (j, true))) (hj : (l[j]?).bind (·.dst) = some dj) (hv : a.tmps[dj]? = some (.bool true)) (hz : a.tmps.size = n) (hd : d < n) (hrun : ∀ (o : Oper) (w : World), o.op = op → C w → (execOp a.eval o).run P w = .ok (.value v) w) (k : ∀ a', Nx n d v a a' → QW P l C Q (i + 1) a') : QW P l C Q i a :=
  qs_quietG hi hj hv hz hd (fun o K ho hk => quiet_val (fun w hw => hrun o w ho hw) hk) k
theorem run_move_ {ρ : Operand → Value} {x : Operand} {o : Oper} {w : World} (ho : o.op = .move x) : (execOp ρ o).run P w = .ok (.value (ρ x)) w := by
  simp [execOp, ho, go_sem]
theorem run_assign_ {ρ : Operand → Value} {x : Operand} {o : Oper} {w : World} (ho : o.op = .assign x) : (execOp ρ o).run P w = .ok (.value (ρ x)) w := by
  simp [execOp, ho, go_sem]
/-- m operations that are not wanted: only slots from lo to hi have turned -/
theorem qs_skips {j dj : Nat} (hj : (l[j]?).bind (·.dst) = some dj) (lo hi_ : Nat) (hdj : dj < lo ∨ hi_ < dj) : ∀ (m i : Nat) (a : Act), a.tmps.size = n → a.tmps[dj]? = some (.bool false) →
    (((l.drop i).take m).length == m && ((l.drop i).take m).all (fun o => match o.dst, o.guard with | some d, some (j', true) => j' == j && decide (lo ≤ d) && decide (d ≤ hi_) | _, _ => false)) = true →
    (∀ a', a'.tmps.size = n → a'.defers = a.defers → (∀ k, k < lo ∨ hi_ < k → a'.tmps[k]? = a.tmps[k]?) → QW P l C Q (i + m) a') → QW P l C Q i a
  | 0, i, a, hz, hv, hc, k => k a hz rfl (fun _ _ => rfl)
  | m + 1, i, a, hz, hv, hc, k => by
    rw [Bool.and_eq_true] at hc
    obtain ⟨hl, ha⟩ := hc
    have hlen : i + m < l.length := by
      have := eq_of_beq hl
      simp only [List.length_take, List.length_drop] at this
      omega
    have hd : l.drop i = l[i] :: l.drop (i + 1) := List.drop_eq_getElem_cons (by omega)
    rw [hd, List.take_succ_cons, List.all_cons, Bool.and_eq_true] at ha
    obtain ⟨h1, h2⟩ := ha
    have ho : l[i]? = some l[i] := List.getElem?_eq_getElem (by omega)
    generalize l[i] = o at h1 ho hd
    split at h1
    · rename_i d j' hd' hg
      simp only [Bool.and_eq_true, beq_iff_eq, decide_eq_true_eq] at h1
      obtain ⟨⟨rfl, h3⟩, h4⟩ := h1
      refine qw_step ho ?_
      have hw : Region.wanted o (yielded l.toArray a.tmps) = false := by unfold Region.wanted; rw [hg]; simp only [yield_of hj hv]; rfl
      rw [if_neg (by rw [hw]; simp), hd']
      have hold : ∀ k, k < lo ∨ hi_ < k → (a.put (some d) undef).tmps[k]? = a.tmps[k]? := fun k hk => by
        simp only [Act.put]; rw [Array.getElem?_setIfInBounds_ne (fun e => by subst e; rcases hk with hk | hk; exact absurd h3 (Nat.not_le.2 hk); exact absurd h4 (Nat.not_le.2 hk))]
      refine qs_skips hj lo hi_ hdj m (i + 1) _ (by simp [Act.put, hz]) ((hold dj hdj).trans hv) ?_ ?_
      · rw [Bool.and_eq_true]
        refine ⟨?_, h2⟩
        simp only [List.length_take, List.length_drop, beq_iff_eq]
        omega
      · intro a' g1 g2 g3
        have := k a' g1 g2 (fun q hq => (g3 q hq).trans (hold q hq))
        rwa [show i + 1 + m = i + (m + 1) by omega]
    · cases h1
end
def lst (n k : Nat) : Array Bool := (List.replicate k true ++ List.replicate (n - k) false).toArray
theorem lst_set {n k : Nat} (h : k < n) : (lst n k).setIfInBounds k true = lst n (k + 1) := by
  unfold lst
  rw [List.setIfInBounds_toArray]
  congr 1
  rw [List.set_append_right _ _ (by simp), List.length_replicate, Nat.sub_self, show n - k = (n - (k + 1)) + 1 by omega, List.replicate_succ, List.set_cons_zero, List.replicate_succ']
  simp
def lexAt (l : List Oper) (k : Nat) : Bool := (Region.ready .any l.toArray (lst l.length k)).contains k && Region.free .any l.toArray (lst l.length k) k
theorem lex_from (l : List Oper) (hchk : ∀ k, k < l.length → lexAt l k = true) (hend : (Region.ready .any l.toArray (lst l.length l.length)).isEmpty = true) :
    ∀ (m k : Nat), k + m = l.length → Region.lexFrom .any l.toArray m k (lst l.length k) = true
  | 0, k, h => by
    obtain rfl : k = l.length := by omega
    unfold Region.lexFrom
    exact hend
  | m + 1, k, h => by
    have h1 := hchk k (by omega)
    unfold lexAt at h1
    unfold Region.lexFrom
    rw [h1, Bool.true_and, lst_set (by omega)]
    exact lex_from l hchk hend m (k + 1) (by omega)
theorem lexB_of (l : List Oper) (hs : Region.noSelect l.toArray = true) (hchk : ∀ k, k < l.length → lexAt l k = true) (hend : (Region.ready .any l.toArray (lst l.length l.length)).isEmpty = true) : Region.lexB .any l.toArray = true := by
  unfold Region.lexB
  rw [hs, Bool.true_and]
  have := lex_from l hchk hend l.length 0 (by omega)
  have e : lst l.length 0 = Array.replicate l.toArray.size false := by simp [lst]
  rw [e] at this
  simpa using this
theorem lex_chunk {l : List Oper} {a m : Nat} (h : (List.range' a m).all (lexAt l) = true) : ∀ k, a ≤ k → k < a + m → lexAt l k = true := fun k h1 h2 => by
  rw [List.all_eq_true] at h
  exact h k (by rw [List.mem_range'_1]; exact ⟨h1, h2⟩)
end Go.Proofs.Ytnnblklbjbkikaa
