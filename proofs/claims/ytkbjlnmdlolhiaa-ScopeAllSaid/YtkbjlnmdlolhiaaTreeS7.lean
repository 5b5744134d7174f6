/- Scope, the reference: Kind, Vars (whittlerref6). -/
import Derived.Test.YtkbjlnmdlolhiaaTreeS6
namespace Go.Proofs.Ytkbjlnmdlolhiaa
open Go.ChangeShapes Go.WideShapes Go.ChangeAt Go.RowKit Go.Deep
set_option linter.unusedVariables false
set_option linter.unusedSimpArgs false
theorem kindP_eq (p : Pg) (proc s : ByteArray) : kindP p proc s = if (procP p proc).2 = true then knd p.globals (procP p proc).1 s else 0 := by
 unfold kindP procP
 cases mayP p with
 | false => rfl
 | true =>
  rw [if_pos rfl, if_pos rfl]
  cases p.procs.find? (isQ proc) <;> rfl
theorem varsP_eq (p : Pg) (proc : ByteArray) : varsP p proc = if (procP p proc).2 = true then namesP p.globals (procP p proc).1 else [] := by
 unfold varsP procP
 cases mayP p with
 | false => rfl
 | true =>
  rw [if_pos rfl, if_pos rfl]
  cases p.procs.find? (isQ proc) <;> rfl
theorem proc_lens (p : Pg) (proc : ByteArray) : (procP p proc).2 = true → p.globals.length ≤ 16 ∧ (procP p proc).1.params.length ≤ 8 ∧ (procP p proc).1.vars.length ≤ 16 := by
 intro h
 unfold procP at h ⊢
 cases hm : mayP p with
 | false => rw [hm] at h; cases h
 | true =>
  rw [hm, if_pos rfl] at h
  rw [if_pos rfl]
  cases hf : p.procs.find? (isQ proc) with
  | none => rw [hf] at h; cases h
  | some q =>
   have := may_lens hm
   exact ⟨this.1, this.2.2 q (List.mem_of_find?_eq_some hf)⟩
set_option maxHeartbeats 2000000 in
set_option maxRecDepth 100000 in
theorem rKind_any {w : World} {Q : Nat → Prop} {p : Pg} {c0 c1 : Value} (h : ProgI w Q p [c0, c1]) (proc s : ByteArray) (W : World) (hI : In Q w W) :
  Calls Try.prog 37 #[.agg #[c0, c1], .string proc, .string s] W fun e w' => e = .returned (.int .i64 (kindP p proc s)) ∧ Below W.heap.size W w' := by
 have HX : Hid True := Lib.hid trivial
 have HPc := Lib.hid (fun V hV => rProc_any h proc V hV)
 obtain ⟨Ag, cg, Ap, cp, rfl, rfl, _, _, _, _, hgl, hpr⟩ := prog_open h
 have HG := Lib.hid hgl
 have HI := Lib.hid hI
 have HK := Lib.hid (kindP_eq p proc s)
 clear h hI hpr hgl
 generalize procP p proc = r at HPc HK
 obtain ⟨q, b⟩ := r
 simp only at HK
 go_enter Try.func37, Try.ntmps37
 go_upto_region 1 with fail
 have HB0 : Hid (Below W.heap.size W (W.alloc (.cells #[.slice Ag p.globals.length cg, .slice Ap p.procs.length cp] 25))) := Lib.hid (below_box _)
 have HBp : Hid (Blk (W.alloc (.cells #[.slice Ag p.globals.length cg, .slice Ap p.procs.length cp] 25)) W.heap.size 25 #[.slice Ag p.globals.length cg, .slice Ap p.procs.length cp]) := Lib.hid (Blk.new _ _ _)
 generalize World.alloc _ _ = V at HB0 HBp ⊢
 have HI0 := Lib.hid (HI.out.on HB0.out)
 have q0 : V.cell? ⟨W.heap.size, 0, none⟩ = some (.slice Ag p.globals.length cg) := by rw [HBp.out.cell]; rfl
 have q1 : V.cell? ⟨W.heap.size, 1, none⟩ = some (.slice Ap p.procs.length cp) := by rw [HBp.out.cell]; rfl
 have hbl := HBp.out.lt
 go_upto_region 2 with (go_at_call 36; refine (HPc.out V HI0.out).mono ?_; rintro e w1 ⟨d0, d1, d2, d3, d4, rfl, hb1, hp⟩; obtain ⟨vp, vv, vb, ve, hc, hnm, hpp, hvv, hbb, hee⟩ := hp; simp only [List.cons.injEq, and_true] at hc; obtain ⟨rfl, rfl, rfl, rfl, rfl⟩ := hc; obtain ⟨Bp, kp, rfl, _, _⟩ := hpp.shape; obtain ⟨Bv, kv, rfl, _, _⟩ := hvv.shape; obtain ⟨Bb, kb, rfl, _⟩ := hbb.shape; obtain ⟨Be, ke, rfl, _⟩ := hee.shape; have HPI : Hid (ProcI w Q q [.string q.nm, .slice Bp q.params.length kp, .slice Bv q.vars.length kv, .slice Bb q.body.length kb, .slice Be q.end_.length ke]) := Lib.hid ⟨_, _, _, _, rfl, hnm, hpp, hvv, hbb, hee⟩; clear hpp hvv hbb hee)
 have HI1 := Lib.hid (HI0.out.on (below_stepA hb1 (.cells #[.string q.nm, .slice Bp q.params.length kp, .slice Bv q.vars.length kv, .slice Bb q.body.length kb, .slice Be q.end_.length ke] 47)))
 have HB1 : Hid (Below W.heap.size W (w1.alloc (.cells #[.string q.nm, .slice Bp q.params.length kp, .slice Bv q.vars.length kv, .slice Bb q.body.length kb, .slice Be q.end_.length ke] 47))) := Lib.hid (below_stepA (below_step HB0.out hb1) _)
 have HBp1 : Hid (Blk (w1.alloc (.cells #[.string q.nm, .slice Bp q.params.length kp, .slice Bv q.vars.length kv, .slice Bb q.body.length kb, .slice Be q.end_.length ke] 47)) W.heap.size 25 #[.slice Ag p.globals.length cg, .slice Ap p.procs.length cp]) := Lib.hid ((HBp.out.below hb1 hbl).alloc _)
 have HBq : Hid (Blk (w1.alloc (.cells #[.string q.nm, .slice Bp q.params.length kp, .slice Bv q.vars.length kv, .slice Bb q.body.length kb, .slice Be q.end_.length ke] 47)) w1.heap.size 47 #[.string q.nm, .slice Bp q.params.length kp, .slice Bv q.vars.length kv, .slice Bb q.body.length kb, .slice Be q.end_.length ke]) := Lib.hid (Blk.new _ _ _)
 clear q0 q1 hbl hb1 HBp HB0 HI0
 generalize hV2 : World.alloc w1 _ = V2 at HBp1 HB1 HI1 HBq ⊢
 generalize hbq : w1.heap.size = bq at HBq ⊢
 clear hV2 hbq
 have q0 : V2.cell? ⟨W.heap.size, 0, none⟩ = some (.slice Ag p.globals.length cg) := by rw [HBp1.out.cell]; rfl
 have q1 : V2.cell? ⟨W.heap.size, 1, none⟩ = some (.slice Ap p.procs.length cp) := by rw [HBp1.out.cell]; rfl
 have z0 : V2.cell? ⟨bq, 0, none⟩ = some (.string q.nm) := by rw [HBq.out.cell]; rfl
 have z1 : V2.cell? ⟨bq, 1, none⟩ = some (.slice Bp q.params.length kp) := by rw [HBq.out.cell]; rfl
 have z2 : V2.cell? ⟨bq, 2, none⟩ = some (.slice Bv q.vars.length kv) := by rw [HBq.out.cell]; rfl
 have z3 : V2.cell? ⟨bq, 3, none⟩ = some (.slice Bb q.body.length kb) := by rw [HBq.out.cell]; rfl
 have z4 : V2.cell? ⟨bq, 4, none⟩ = some (.slice Be q.end_.length ke) := by rw [HBq.out.cell]; rfl
 have HC := Lib.hid (fun V hV => rkind_any rfl HG.out HPI.out s V hV (B := Ap) (n := p.procs.length) (m := cp))
 cases b with
 | false =>
  rw [if_neg (by decide)] at HK
  go_wp2_with fail
  go_ret
  exact ⟨by rw [HK.out]; rfl, HB1.out⟩
 | true =>
  rw [if_pos rfl] at HK
  generalize knd p.globals q s = z at HC HK
  go_wp2_with (go_at_call 82; refine (HC.out V2 HI1.out).mono ?_; rintro e w2 ⟨rfl, hb2⟩)
  go_ret
  exact ⟨by rw [HK.out]; rfl, below_step HB1.out hb2⟩
section
variable {P : Program} {w : World}
theorem step_append_texts {ops : Array Oper} {o : Oper} {a : Act} {K : Act → World → Prop} {Q : Exit → Act → World → Prop} {E : Prop} (hgd : o.guard = none) (s x : Operand) (t : TypeId)
  (ho : o.op = .call { callee := .builtin .append, args := #[s, x], argTypes := #[t, t] })
  (base : Nat) (e : TypeId) (i : TypeInfo) (z : Value) (ht : P.underlying t = some (.slice e)) (hi : P.info? e = some i) (hz : i.zero = some z)
  (hsize : i.size = 1) (hby : i.bytes = 16) (hzs : z.cells.size = 1)
  (v : Value) (n : Nat) (xs : List Value) (hs : a.eval s = v) (hown : w.ownsRow base e 1 v n xs)
  (w0 : World) (Q0 : Nat → Prop) (X : Option Addr) (l : List ByteArray) (m c : Nat) (hx : a.eval x = .slice X m c) (hm : m = l.length) (hT : TextsI w0 Q0 l (.slice X m c)) (hI : In Q0 w0 w)
  (h63 : n + m ≤ 1000000) (hbase : base ≤ w.heap.size)
  (h : ∀ v' w', w'.ownsRow base e 1 v' (n + m) (xs ++ strs l) → w.grownBy w' v.ownBlock → K (a.put o.dst v') w') :
  if Region.wanted o (yielded ops a.tmps) = true then Oper.wp P o a w K Q else E := by
 have hw : Region.wanted o (yielded ops a.tmps) = true := by simp [Region.wanted, hgd]
 rw [if_pos hw]
 obtain ⟨v', w', hr, h2, h3⟩ := run_append_texts (P := P) (w := w) base t o.type e i z ht hi hz hsize hby hzs v n xs hown w0 Q0 X l m c hm hT hI h63 hbase
 unfold Oper.wp execOp
 simp only [ho, resolve, invoke, builtin, Sem.run_bind, Sem.run_pure, Result.andThen_ok, List.map_toArray, List.map_cons, List.map_nil, hs, hx, hr]
 exact h v' w' h2 h3
end
set_option maxHeartbeats 2000000 in
set_option maxRecDepth 100000 in
theorem rVars_any {w : World} {Q : Nat → Prop} {p : Pg} {c0 c1 : Value} (h : ProgI w Q p [c0, c1]) (proc : ByteArray) (W : World) (hI : In Q w W) :
  Calls Try.prog 39 #[.agg #[c0, c1], .string proc] W (NewRow (varsP p proc) W) := by
 have HX := Lib.hid (proc_lens p proc)
 have HPc := Lib.hid (fun V hV => rProc_any h proc V hV)
 obtain ⟨Ag, cg, Ap, cp, rfl, rfl, _, _, _, _, hgl, hpr⟩ := prog_open h
 have HG := Lib.hid hgl
 have HI := Lib.hid hI
 have HK := Lib.hid (varsP_eq p proc)
 clear h hI hpr hgl
 generalize procP p proc = r at HPc HK HX
 obtain ⟨q, b⟩ := r
 simp only at HK
 go_enter Try.func39, Try.ntmps39
 go_upto_region 1 with fail
 have HB0 : Hid (Below W.heap.size W (W.alloc (.cells #[.slice Ag p.globals.length cg, .slice Ap p.procs.length cp] 25))) := Lib.hid (below_box _)
 have HBp : Hid (Blk (W.alloc (.cells #[.slice Ag p.globals.length cg, .slice Ap p.procs.length cp] 25)) W.heap.size 25 #[.slice Ag p.globals.length cg, .slice Ap p.procs.length cp]) := Lib.hid (Blk.new _ _ _)
 generalize World.alloc _ _ = V at HB0 HBp ⊢
 have HI0 := Lib.hid (HI.out.on HB0.out)
 have q0 : V.cell? ⟨W.heap.size, 0, none⟩ = some (.slice Ag p.globals.length cg) := by rw [HBp.out.cell]; rfl
 have q1 : V.cell? ⟨W.heap.size, 1, none⟩ = some (.slice Ap p.procs.length cp) := by rw [HBp.out.cell]; rfl
 have hbl := HBp.out.lt
 go_upto_region 2 with (go_at_call 36; refine (HPc.out V HI0.out).mono ?_; rintro e w1 ⟨d0, d1, d2, d3, d4, rfl, hb1, hp⟩; obtain ⟨vp, vv, vb, ve, hc, hnm, hpp, hvv, hbb, hee⟩ := hp; simp only [List.cons.injEq, and_true] at hc; obtain ⟨rfl, rfl, rfl, rfl, rfl⟩ := hc; obtain ⟨Bp, kp, rfl, _, _⟩ := hpp.shape; obtain ⟨Bv, kv, rfl, _, _⟩ := hvv.shape; obtain ⟨Bb, kb, rfl, _⟩ := hbb.shape; obtain ⟨Be, ke, rfl, _⟩ := hee.shape; have HPI : Hid (ProcI w Q q [.string q.nm, .slice Bp q.params.length kp, .slice Bv q.vars.length kv, .slice Bb q.body.length kb, .slice Be q.end_.length ke]) := Lib.hid ⟨_, _, _, _, rfl, hnm, hpp, hvv, hbb, hee⟩; clear hpp hvv hbb hee)
 have HI1 := Lib.hid (HI0.out.on (below_stepA hb1 (.cells #[.string q.nm, .slice Bp q.params.length kp, .slice Bv q.vars.length kv, .slice Bb q.body.length kb, .slice Be q.end_.length ke] 47)))
 have HB1 : Hid (Below W.heap.size W (w1.alloc (.cells #[.string q.nm, .slice Bp q.params.length kp, .slice Bv q.vars.length kv, .slice Bb q.body.length kb, .slice Be q.end_.length ke] 47))) := Lib.hid (below_stepA (below_step HB0.out hb1) _)
 have HBp1 : Hid (Blk (w1.alloc (.cells #[.string q.nm, .slice Bp q.params.length kp, .slice Bv q.vars.length kv, .slice Bb q.body.length kb, .slice Be q.end_.length ke] 47)) W.heap.size 25 #[.slice Ag p.globals.length cg, .slice Ap p.procs.length cp]) := Lib.hid ((HBp.out.below hb1 hbl).alloc _)
 have HBq : Hid (Blk (w1.alloc (.cells #[.string q.nm, .slice Bp q.params.length kp, .slice Bv q.vars.length kv, .slice Bb q.body.length kb, .slice Be q.end_.length ke] 47)) w1.heap.size 47 #[.string q.nm, .slice Bp q.params.length kp, .slice Bv q.vars.length kv, .slice Bb q.body.length kb, .slice Be q.end_.length ke]) := Lib.hid (Blk.new _ _ _)
 clear q0 q1 hbl hb1 HBp HB0 HI0
 generalize hV2 : World.alloc w1 _ = V2 at HBp1 HB1 HI1 HBq ⊢
 generalize hbq : w1.heap.size = bq at HBq ⊢
 clear hV2 hbq
 have q0 : V2.cell? ⟨W.heap.size, 0, none⟩ = some (.slice Ag p.globals.length cg) := by rw [HBp1.out.cell]; rfl
 have q1 : V2.cell? ⟨W.heap.size, 1, none⟩ = some (.slice Ap p.procs.length cp) := by rw [HBp1.out.cell]; rfl
 have z0 : V2.cell? ⟨bq, 0, none⟩ = some (.string q.nm) := by rw [HBq.out.cell]; rfl
 have z1 : V2.cell? ⟨bq, 1, none⟩ = some (.slice Bp q.params.length kp) := by rw [HBq.out.cell]; rfl
 have z2 : V2.cell? ⟨bq, 2, none⟩ = some (.slice Bv q.vars.length kv) := by rw [HBq.out.cell]; rfl
 have z3 : V2.cell? ⟨bq, 3, none⟩ = some (.slice Bb q.body.length kb) := by rw [HBq.out.cell]; rfl
 have z4 : V2.cell? ⟨bq, 4, none⟩ = some (.slice Be q.end_.length ke) := by rw [HBq.out.cell]; rfl
 cases b with
 | false =>
  rw [if_neg (by decide)] at HK
  go_wp2_with fail
  go_ret
  exact ⟨_, rfl, by rw [HK.out]; exact World.ownsRow_nil _ _ _ _, HB1.out⟩
 | true =>
  rw [if_pos rfl] at HK
  obtain ⟨l1, l2, l3⟩ := HX.out rfl
  have hml : (q.params.map Pa.nm).length = q.params.length := List.length_map _
  have HSm : Hid (∀ s ∈ q.params.map Pa.nm, s.size ≤ 9223372036854775807) := Lib.hid (fun s hs => by obtain ⟨x, hx, rfl⟩ := List.mem_map.1 hs; obtain ⟨k, hk, rfl⟩ := List.getElem_of_mem hx; obtain ⟨_, _, _, _, hc, _, hpp, _, _, _⟩ := HPI.out; simp only [List.cons.injEq, and_true] at hc; obtain ⟨_, rfl, _, _, _⟩ := hc; obtain ⟨_, _, _, _, h⟩ := par_at hpp HI1.out hk; exact h)
  have HCp := Lib.hid (fun V hV => rparams_any HPI.out (by omega) V hV)
  obtain ⟨i0, hi0, hz0, hz1, hz2⟩ := info_parts string_info
  have HVv : Hid (TextsI w Q q.vars (.slice Bv q.vars.length kv)) := Lib.hid (by obtain ⟨_, _, _, _, hc, _, _, hvv, _, _⟩ := HPI.out; simp only [List.cons.injEq, and_true] at hc; obtain ⟨_, _, rfl, _, _⟩ := hc; exact hvv)
  have hdr : ∀ {Q : Nat → Prop} {w V : World}, In Q w V → In Q w V.drew := fun h => h
  have hbq : bq < V2.heap.size := HBq.out.lt
  have hbw : W.heap.size < V2.heap.size := HBp1.out.lt
  have HS : Hid (∀ w' : World, Below V2.heap.size V2 w' → (w'.cell? ⟨W.heap.size, 0, none⟩ = some (.slice Ag p.globals.length cg) ∧ w'.cell? ⟨bq, 0, none⟩ = some (.string q.nm) ∧ w'.cell? ⟨bq, 1, none⟩ = some (.slice Bp q.params.length kp) ∧ w'.cell? ⟨bq, 2, none⟩ = some (.slice Bv q.vars.length kv) ∧ w'.cell? ⟨bq, 3, none⟩ = some (.slice Bb q.body.length kb) ∧ w'.cell? ⟨bq, 4, none⟩ = some (.slice Be q.end_.length ke))) := Lib.hid (fun w' hb => ⟨(hb.cell (p := ⟨W.heap.size, 0, none⟩) hbw).trans q0, (hb.cell (p := ⟨bq, 0, none⟩) hbq).trans z0, (hb.cell (p := ⟨bq, 1, none⟩) hbq).trans z1, (hb.cell (p := ⟨bq, 2, none⟩) hbq).trans z2, (hb.cell (p := ⟨bq, 3, none⟩) hbq).trans z3, (hb.cell (p := ⟨bq, 4, none⟩) hbq).trans z4⟩)
  have HBD : Hid (Below V2.heap.size V2 V2.drew) := Lib.hid (Below.refl _ _).drew
  clear q0 q1 z0 z1 z2 z3 z4
  go_upto_region 4 with fail
  refine wp_region_last (fun w' : World => w'.cell? ⟨W.heap.size, 0, none⟩ = some (.slice Ag p.globals.length cg) ∧ w'.cell? ⟨bq, 0, none⟩ = some (.string q.nm) ∧ w'.cell? ⟨bq, 1, none⟩ = some (.slice Bp q.params.length kp) ∧ w'.cell? ⟨bq, 2, none⟩ = some (.slice Bv q.vars.length kv) ∧ w'.cell? ⟨bq, 3, none⟩ = some (.slice Bb q.body.length kb) ∧ w'.cell? ⟨bq, 4, none⟩ = some (.slice Be q.end_.length ke)) 10 (by kernel_rfl) ?_
  have hS0 : (fun w' : World => w'.cell? ⟨W.heap.size, 0, none⟩ = some (.slice Ag p.globals.length cg) ∧ w'.cell? ⟨bq, 0, none⟩ = some (.string q.nm) ∧ w'.cell? ⟨bq, 1, none⟩ = some (.slice Bp q.params.length kp) ∧ w'.cell? ⟨bq, 2, none⟩ = some (.slice Bv q.vars.length kv) ∧ w'.cell? ⟨bq, 3, none⟩ = some (.slice Bb q.body.length kb) ∧ w'.cell? ⟨bq, 4, none⟩ = some (.slice Be q.end_.length ke)) V2.drew := HS.out _ HBD.out
  change wpAnyL _ _ _ _ _ _ 11 _ _ V2.drew
  refine wpAnyL_take (i := 1) (v := ?_) rfl (by kernel_rfl) (by decide) (by kernel_rfl) (by kernel_rfl) (by kernel_rfl) (fun _ _ _ h => h) (Or.inl ⟨by rfl, ?_⟩) (by assumption) ?_
  rotate_left
  ·intro w hSw
   (try dsimp only at hSw)
   go_split_ands
   go_simp
   (try (with_reducible rfl))
  (try simp only [Act.put, List.setIfInBounds_toArray, List.set_cons_zero, List.set_cons_succ])
  refine wpAnyL_take (i := 2) (v := ?_) rfl (by kernel_rfl) (by decide) (by kernel_rfl) (by kernel_rfl) (by kernel_rfl) (fun _ _ _ h => h) (Or.inl ⟨by rfl, ?_⟩) (by assumption) ?_
  rotate_left
  ·intro w hSw
   (try dsimp only at hSw)
   go_split_ands
   go_simp
   (try (with_reducible rfl))
  (try simp only [Act.put, List.setIfInBounds_toArray, List.set_cons_zero, List.set_cons_succ])
  refine wpAnyL_take (i := 4) (v := ?_) rfl (by kernel_rfl) (by decide) (by kernel_rfl) (by kernel_rfl) (by kernel_rfl) (fun _ _ _ h => h) (Or.inl ⟨by rfl, ?_⟩) (by assumption) ?_
  rotate_left
  ·intro w hSw
   (try dsimp only at hSw)
   go_split_ands
   go_simp
   (try (with_reducible rfl))
  (try simp only [Act.put, List.setIfInBounds_toArray, List.set_cons_zero, List.set_cons_succ])
  refine wpAnyL_take (i := 7) (v := ?_) rfl (by kernel_rfl) (by decide) (by kernel_rfl) (by kernel_rfl) (by kernel_rfl) (fun _ _ _ h => h) (Or.inl ⟨by rfl, ?_⟩) (by assumption) ?_
  rotate_left
  ·intro w hSw
   (try dsimp only at hSw)
   go_split_ands
   go_simp
   (try (with_reducible rfl))
  (try simp only [Act.put, List.setIfInBounds_toArray, List.set_cons_zero, List.set_cons_succ])
  refine wpAnyL_take (i := 8) (v := ?_) rfl (by kernel_rfl) (by decide) (by kernel_rfl) (by kernel_rfl) (by kernel_rfl) (fun _ _ _ h => h) (Or.inl ⟨by rfl, ?_⟩) (by assumption) ?_
  rotate_left
  ·intro w hSw
   (try dsimp only at hSw)
   go_split_ands
   go_simp
   (try (with_reducible rfl))
  (try simp only [Act.put, List.setIfInBounds_toArray, List.set_cons_zero, List.set_cons_succ])
  clear hS0
  refine wpAnyL_step (i := 0) (by kernel_rfl) rfl (fun K hK => ?_)
  go_simp
  have HO3 : Hid ((V2.alloc (.cells #[] 9)).drew.ownsRow V2.heap.size 9 1 (.slice (some ⟨V2.heap.size, 0, none⟩) 0 0) 0 []) := Lib.hid (World.ownsRow_made V2 #[] 0 (Nat.le_refl _) (by unfold maxLen; omega) rfl)
  have HB3 : Hid (Below V2.heap.size V2 (V2.alloc (.cells #[] 9)).drew) := Lib.hid (below_box _).drew
  refine hK.out _ _ (fun _ => HS.out _ HB3.out) ?_
  clear hK K
  (try simp only [Act.put, List.setIfInBounds_toArray, List.set_cons_zero, List.set_cons_succ])
  generalize World.drew (World.alloc _ _) = w3 at HO3 HB3 ⊢
  refine wpAnyL_step (i := 3) (by kernel_rfl) rfl (fun K hK => ?_)
  refine step_append_texts (by rfl) (.tmp 15) (.tmp 17) 22 (by rfl) V2.heap.size 9 i0 _ Try.underlying22 hi0 hz0 hz1 hz2 rfl _ 0 [] (by rfl) HO3.out w Q Ag p.globals p.globals.length cg (by rfl) rfl HG.out (HI1.out.on HB3.out) (by omega) HB3.out.size ?_
  intro v4 w4 hown4 hg4
  obtain ⟨X4, k4, rfl, _, _⟩ := own_shape hown4
  have HO4 := Lib.hid hown4
  have HG4 := Lib.hid hg4
  clear hown4 hg4
  rw [Nat.zero_add, List.nil_append] at HO4
  have HB4 := Lib.hid (HB3.out.grown HG4.out HB3.out.size (fun j hj => (HO3.out.lt j hj).1))
  refine hK.out _ _ (fun _ => HS.out _ HB4.out) ?_
  clear hK K
  (try simp only [Act.put, List.setIfInBounds_toArray, List.set_cons_zero, List.set_cons_succ])
  refine wpAnyL_step (i := 5) (by kernel_rfl) rfl (fun K hK => ?_)
  go_simp
  refine (HCp.out w4 (HI1.out.on HB4.out)).mono ?_
  rintro e' w5 ⟨v5, rfl, ho5, hb5⟩
  obtain ⟨X5, k5, rfl, _, _⟩ := own_shape ho5
  have HO5 := Lib.hid ((Below.moves hb5).row HO4.out (fun j hj e => Nat.not_lt.2 e (HO4.out.lt j hj).2))
  have HB5 := Lib.hid (below_step HB4.out hb5)
  have HT5 := Lib.hid (texts_of_own HSm.out ho5).2
  clear ho5 hb5
  refine hK.out _ _ (fun _ => HS.out _ HB5.out) ?_
  clear hK K
  (try simp only [Act.put, List.setIfInBounds_toArray, List.set_cons_zero, List.set_cons_succ])
  refine wpAnyL_step (i := 6) (by kernel_rfl) rfl (fun K hK => ?_)
  refine step_append_texts (by rfl) (.tmp 18) (.tmp 20) 22 (by rfl) V2.heap.size 9 i0 _ Try.underlying22 hi0 hz0 hz1 hz2 rfl _ p.globals.length (strs p.globals) (by rfl) HO5.out w5 _ X5 (q.params.map Pa.nm) (q.params.map Pa.nm).length k5 (by rfl) rfl HT5.out ⟨fun b hb => hb.2, fun _ _ => rfl⟩ (by omega) HB5.out.size ?_
  intro v6 w6 hown6 hg6
  obtain ⟨X6, k6, rfl, _, _⟩ := own_shape hown6
  have HO6 := Lib.hid hown6
  have HG6 := Lib.hid hg6
  clear hown6 hg6
  have HB6 := Lib.hid (HB5.out.grown HG6.out HB5.out.size (fun j hj => (HO5.out.lt j hj).1))
  refine hK.out _ _ (fun _ => HS.out _ HB6.out) ?_
  clear hK K
  (try simp only [Act.put, List.setIfInBounds_toArray, List.set_cons_zero, List.set_cons_succ])
  refine wpAnyL_step (i := 9) (by kernel_rfl) rfl (fun K hK => ?_)
  refine step_append_texts (by rfl) (.tmp 21) (.tmp 23) 22 (by rfl) V2.heap.size 9 i0 _ Try.underlying22 hi0 hz0 hz1 hz2 rfl _ (p.globals.length + (q.params.map Pa.nm).length) (strs p.globals ++ strs (q.params.map Pa.nm)) (by rfl) HO6.out w Q Bv q.vars q.vars.length kv (by rfl) rfl HVv.out (HI1.out.on HB6.out) (by omega) HB6.out.size ?_
  intro v7 w7 hown7 hg7
  obtain ⟨X7, k7, rfl, _, _⟩ := own_shape hown7
  have HO7 := Lib.hid hown7
  have HG7 := Lib.hid hg7
  clear hown7 hg7
  have HB7 := Lib.hid (HB6.out.grown HG7.out HB6.out.size (fun j hj => (HO6.out.lt j hj).1))
  refine hK.out _ _ (fun _ => HS.out _ HB7.out) ?_
  clear hK K
  (try simp only [Act.put, List.setIfInBounds_toArray, List.set_cons_zero, List.set_cons_succ])
  refine wpAnyL_step (i := 10) (by kernel_rfl) rfl (fun K hK => ?_)
  go_simp
  refine hK.out _ _ (fun h => absurd rfl h) ?_
  clear hK K
  (try simp only [Act.put, List.setIfInBounds_toArray, List.set_cons_zero, List.set_cons_succ])
  refine wpAnyL_done (by kernel_rfl) ?_ 0
  go_wp2_with fail
  go_ret
  refine ⟨_, rfl, ?_, below_step HB1.out HB7.out⟩
  have h := HO7.out
  rw [HK.out]
  rw [← strs_append, ← strs_append, hml] at h
  rw [show (namesP p.globals q).length = p.globals.length + q.params.length + q.vars.length by simp [namesP]; omega]
  exact own_lower h HB1.out.size
end Go.Proofs.Ytkbjlnmdlolhiaa
