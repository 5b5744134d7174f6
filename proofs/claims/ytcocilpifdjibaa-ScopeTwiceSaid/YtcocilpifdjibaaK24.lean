/- Texts, merged by a program; only what is used. -/
import Derived.Test.YtcocilpifdjibaaK1
import Derived.Test.YtcocilpifdjibaaK2
import Derived.Test.YtcocilpifdjibaaK3
import Derived.Test.YtcocilpifdjibaaK4
import Derived.Test.YtcocilpifdjibaaK5
import Derived.Test.YtcocilpifdjibaaK6
import Derived.Test.YtcocilpifdjibaaK7
import Derived.Test.YtcocilpifdjibaaK8
import Derived.Test.YtcocilpifdjibaaK9
import Derived.Test.YtcocilpifdjibaaK10
import Derived.Test.YtcocilpifdjibaaK11
import Derived.Test.YtcocilpifdjibaaK12
import Derived.Test.YtcocilpifdjibaaK13
import Derived.Test.YtcocilpifdjibaaK20
import Derived.Test.YtcocilpifdjibaaK21
import Derived.Test.YtcocilpifdjibaaK22
import Derived.Test.YtcocilpifdjibaaK23
namespace Go.Proofs.Ytcocilpifdjibaa
open Go.ChangeShapes Go.WideShapes Go.ChangeAt Go.RowKit Go.Deep
set_option linter.unusedVariables false
set_option linter.unusedSimpArgs false
def rightS (gl : List ByteArray) (q : Pr) (ps : List ByteArray) (s : S) : Bool := (varsS s).all (fun v => knd gl q v != 0) && (s.kind != 4 || (!(s.proc.toList == [109, 97, 105, 110]) && ps.any (isT s.proc)))
set_option maxHeartbeats 4000000 in
set_option maxRecDepth 100000 in
theorem right_any {w : World} {Q : Nat → Prop} {gl ps : List ByteArray} {vg vs : Value} {q : Pr} {s : S} {c0 c1 c2 c3 c4 : Value} {cs : List Value} (hg : TextsI w Q gl vg) (hps : TextsI w Q ps vs) (hq : ProcI w Q q [c0, c1, c2, c3, c4]) (h : StmtI w Q s cs) (hn : (varsS s).length ≤ 1000000) (W : World) (hI : In Q w W) :
 Calls Try.prog 156 #[.agg #[vg, vs, c0, c1, c2, c3, c4], .agg cs.toArray] W (MayOk (rightS gl q ps s) W) := by
 have HVa := Lib.hid (fun V hV => variables_any h hn V hV)
 have HKi := Lib.hid (fun s V hV => kindIn_any hg hq s V hV)
 have HCo := Lib.hid (fun s V hV => Contains_any (W := V) hps hV s)
 obtain ⟨id, kind, labels, nm, proc, x, has, args, th, el, L, lc, x0, x1, x2, X, xn, xc, R, rc, T, tc, U, uc, rfl, rfl, hid, hkind, hnm, hproc, hl, hx, ha, hth, hel⟩ := stmt_open h
 obtain ⟨vp, vv, vb, ve, hc, hnq, hpp, hvv, hbb, hee⟩ := hq
 simp only [List.cons.injEq, and_true] at hc
 obtain ⟨rfl, rfl, rfl, rfl, rfl⟩ := hc
 obtain ⟨Ap, cp, rfl, _, _⟩ := hpp.shape
 obtain ⟨Av, cv, rfl, _, _⟩ := hvv.shape
 obtain ⟨Ab, cb, rfl, _⟩ := hbb.shape
 obtain ⟨Ae, ce, rfl, _⟩ := hee.shape
 obtain ⟨Ag, cg, rfl, _⟩ := hg.shape
 obtain ⟨As, cs', rfl, _⟩ := hps.shape
 have HI := Lib.hid hI
 have HR : Hid (rightS gl q ps (.mk id kind labels nm proc x has args th el) = ((varsS (.mk id kind labels nm proc x has args th el)).all (fun v => knd gl q v != 0) && (kind != 4 || (!(proc.toList == [109, 97, 105, 110]) && ps.any (isT proc))))) := Lib.hid rfl
 have hok := hkind
 unfold i64 at hok
 have hLn := hn
 clear h hn hI hl hx ha hth hel hid hkind hnm hproc hg hps hnq hpp hvv hbb hee
 generalize varsS (.mk id kind labels nm proc x has args th el) = l at HVa HR hLn
 simp only [List.toArray] at HVa ⊢
 have HLn := Lib.hid hLn
 clear hLn
 go_enter Try.func156, Try.ntmps156
 go_upto_region 1 with fail
 have HBc : Hid (Blk ((W.alloc (.cells #[.slice Ag gl.length cg, .slice As ps.length cs', .string q.nm, .slice Ap q.params.length cp, .slice Av q.vars.length cv, .slice Ab q.body.length cb, .slice Ae q.end_.length ce] 131)).alloc (.cells #[.int .i64 id, .int .i64 kind, .slice L labels.length lc, .string nm, .string proc, .int .i64 x0, .int .i64 x1, .string x2, .slice X xn xc, .bool has, .slice R args.length rc, .slice T th.length tc, .slice U el.length uc] 64)) W.heap.size 131 #[.slice Ag gl.length cg, .slice As ps.length cs', .string q.nm, .slice Ap q.params.length cp, .slice Av q.vars.length cv, .slice Ab q.body.length cb, .slice Ae q.end_.length ce]) := Lib.hid ((Blk.new _ _ _).alloc _)
 have HBs : Hid (Blk ((W.alloc (.cells #[.slice Ag gl.length cg, .slice As ps.length cs', .string q.nm, .slice Ap q.params.length cp, .slice Av q.vars.length cv, .slice Ab q.body.length cb, .slice Ae q.end_.length ce] 131)).alloc (.cells #[.int .i64 id, .int .i64 kind, .slice L labels.length lc, .string nm, .string proc, .int .i64 x0, .int .i64 x1, .string x2, .slice X xn xc, .bool has, .slice R args.length rc, .slice T th.length tc, .slice U el.length uc] 64)) (W.heap.size + 1) 64 #[.int .i64 id, .int .i64 kind, .slice L labels.length lc, .string nm, .string proc, .int .i64 x0, .int .i64 x1, .string x2, .slice X xn xc, .bool has, .slice R args.length rc, .slice T th.length tc, .slice U el.length uc]) := Lib.hid (by have := Blk.new (W.alloc (.cells #[.slice Ag gl.length cg, .slice As ps.length cs', .string q.nm, .slice Ap q.params.length cp, .slice Av q.vars.length cv, .slice Ab q.body.length cb, .slice Ae q.end_.length ce] 131)) 64 #[.int .i64 id, .int .i64 kind, .slice L labels.length lc, .string nm, .string proc, .int .i64 x0, .int .i64 x1, .string x2, .slice X xn xc, .bool has, .slice R args.length rc, .slice T th.length tc, .slice U el.length uc]; rw [World.size_alloc] at this; exact this)
 have HB0 : Hid (Below W.heap.size W ((W.alloc (.cells #[.slice Ag gl.length cg, .slice As ps.length cs', .string q.nm, .slice Ap q.params.length cp, .slice Av q.vars.length cv, .slice Ab q.body.length cb, .slice Ae q.end_.length ce] 131)).alloc (.cells #[.int .i64 id, .int .i64 kind, .slice L labels.length lc, .string nm, .string proc, .int .i64 x0, .int .i64 x1, .string x2, .slice X xn xc, .bool has, .slice R args.length rc, .slice T th.length tc, .slice U el.length uc] 64))) := Lib.hid (below_stepA (below_box _) _)
 generalize World.alloc _ _ = V at HBc HBs HB0 ⊢
 have HI0 := Lib.hid (HI.out.on HB0.out)
 have hbc := HBc.out.lt
 have hbs := HBs.out.lt
 generalize hb1 : W.heap.size + 1 = b1 at *
 generalize W.heap.size = b at HBc HBs hbc hbs ⊢
 have q0 : V.cell? ⟨b1, 0, none⟩ = some (.int .i64 id) := by rw [HBs.out.cell]; rfl
 have q1 : V.cell? ⟨b1, 1, none⟩ = some (.int .i64 kind) := by rw [HBs.out.cell]; rfl
 have q2 : V.cell? ⟨b1, 2, none⟩ = some (.slice L labels.length lc) := by rw [HBs.out.cell]; rfl
 have q3 : V.cell? ⟨b1, 3, none⟩ = some (.string nm) := by rw [HBs.out.cell]; rfl
 have q4 : V.cell? ⟨b1, 4, none⟩ = some (.string proc) := by rw [HBs.out.cell]; rfl
 have q5 : V.cell? ⟨b1, 5, none⟩ = some (.int .i64 x0) := by rw [HBs.out.cell]; rfl
 have q6 : V.cell? ⟨b1, 6, none⟩ = some (.int .i64 x1) := by rw [HBs.out.cell]; rfl
 have q7 : V.cell? ⟨b1, 7, none⟩ = some (.string x2) := by rw [HBs.out.cell]; rfl
 have q8 : V.cell? ⟨b1, 8, none⟩ = some (.slice X xn xc) := by rw [HBs.out.cell]; rfl
 have q9 : V.cell? ⟨b1, 9, none⟩ = some (.bool has) := by rw [HBs.out.cell]; rfl
 have q10 : V.cell? ⟨b1, 10, none⟩ = some (.slice R args.length rc) := by rw [HBs.out.cell]; rfl
 have q11 : V.cell? ⟨b1, 11, none⟩ = some (.slice T th.length tc) := by rw [HBs.out.cell]; rfl
 have q12 : V.cell? ⟨b1, 12, none⟩ = some (.slice U el.length uc) := by rw [HBs.out.cell]; rfl
 go_upto_region 2 with (go_at_call 194; refine (HVa.out V HI0.out).mono ?_; rintro e w1 ⟨v1, rfl, ho1, hbb1⟩; obtain ⟨X1, k1, rfl, _, _⟩ := own_shape ho1)
 have HO1 := Lib.hid ho1
 have HB1 := Lib.hid hbb1
 clear q0 q1 q2 q3 q4 q5 q6 q7 q8 q9 q10 q11 q12 ho1 hbb1 HVa
 go_loopw [10] (fun iv wr => ∃ (k : Nat), k ≤ l.length ∧ iv = .int .i64 k ∧ Hid (Below V.heap.size V wr) ∧ Hid (wr.ownsRow V.heap.size 9 1 (.slice X1 l.length k1) l.length (strs l)) ∧ Hid ((l.drop k).all (fun v => knd gl q v != 0) = l.all (fun v => knd gl q v != 0))) (fun iv _ => l.length - (intOf iv).toNat)
 case atStart => exact ⟨0, Nat.zero_le _, rfl, HB1, HO1, Lib.hid rfl⟩
 case round =>
  clear HB1 HO1
  obtain ⟨k, hk, rfl, HBr, HOr, HA⟩ := hrel
  have HIr := Lib.hid (HI0.out.on HBr.out)
  have HBcr := Lib.hid (HBc.out.below HBr.out hbc)
  have HBsr := Lib.hid (HBs.out.below HBr.out hbs)
  have z0 : wr.cell? ⟨b, 0, none⟩ = some (.slice Ag gl.length cg) := by rw [HBcr.out.cell]; rfl
  have z1 : wr.cell? ⟨b, 1, none⟩ = some (.slice As ps.length cs') := by rw [HBcr.out.cell]; rfl
  by_cases hlt : k < l.length
  ·obtain ⟨g, cap, he, hcl, _, _⟩ := own_at HOr.out hlt
   injection he with h1 _ h3
   subst h1 h3
   have p := hcl (.string l[k]) (by simp [strs, List.getElem?_map, List.getElem?_eq_getElem hlt])
   have HAk : Hid ((l.drop k).all (fun v => knd gl q v != 0) = ((knd gl q l[k] != 0) && (l.drop (k + 1)).all (fun v => knd gl q v != 0))) := Lib.hid (by rw [List.drop_eq_getElem_cons hlt, List.all_cons])
   rw [HA.out] at HAk
   have HK := Lib.hid (HKi.out l[k] wr HIr.out)
   generalize l[k] = t at p HK HAk
   generalize knd gl q t = z at HK HAk
   have z2 : wr.cell? ⟨b, 2, none⟩ = some (.string q.nm) := by rw [HBcr.out.cell]; rfl
   have z3 : wr.cell? ⟨b, 3, none⟩ = some (.slice Ap q.params.length cp) := by rw [HBcr.out.cell]; rfl
   have z4 : wr.cell? ⟨b, 4, none⟩ = some (.slice Av q.vars.length cv) := by rw [HBcr.out.cell]; rfl
   have z5 : wr.cell? ⟨b, 5, none⟩ = some (.slice Ab q.body.length cb) := by rw [HBcr.out.cell]; rfl
   have z6 : wr.cell? ⟨b, 6, none⟩ = some (.slice Ae q.end_.length ce) := by rw [HBcr.out.cell]; rfl
   clear hcl
   by_cases hz : z = 0
   ·subst hz
    go_wp2_with (go_at_call 154; refine HK.out.mono ?_; rintro e w2 ⟨rfl, hb2⟩)
    go_ret
    exact ⟨ret_bool (by rw [HR.out, HAk.out]; rfl), below_step HB0.out (below_step HBr.out hb2)⟩
   ·have hz1 : (z == 0) = false := beq_eq_false_iff_ne.2 hz
    have HAn : Hid (l.all (fun v => knd gl q v != 0) = (l.drop (k + 1)).all (fun v => knd gl q v != 0)) := Lib.hid (by rw [HAk.out, bne, hz1]; rfl)
    clear hz HAk
    go_wp2_with (go_at_call 154; refine HK.out.mono ?_; rintro e w2 ⟨rfl, hb2⟩; have HB2 := Lib.hid (below_step HBr.out hb2); have HO2 := Lib.hid ((Below.moves hb2).row HOr.out (fun j hj e => Nat.not_lt.2 e (HOr.out.lt j hj).2)); clear hb2)
    go_roundw
    case rel => exact ⟨k + 1, by omega, by go_num, HB2, HO2, Lib.hid HAn.out.symm⟩
    case measure => simp [intOf]; omega
  ·have HAe : Hid (l.all (fun v => knd gl q v != 0) = true) := Lib.hid (by rw [← HA.out, List.drop_of_length_le (by omega)]; rfl)
   rw [HAe.out, Bool.true_and] at HR
   have y1 : wr.cell? ⟨b1, 1, none⟩ = some (.int .i64 kind) := by rw [HBsr.out.cell]; rfl
   have y4 : wr.cell? ⟨b1, 4, none⟩ = some (.string proc) := by rw [HBsr.out.cell]; rfl
   have HC := Lib.hid (HCo.out proc wr HIr.out)
   generalize ps.any (isT proc) = z at HC HR
   clear HAe HA
   by_cases hk4 : kind = 4
   ·subst hk4
    cases hm : proc.toList == [109, 97, 105, 110] with
    | true =>
     rw [hm] at HR
     go_wp2_with fail
     go_ret
     exact ⟨ret_bool (by rw [HR.out]; rfl), below_step HB0.out HBr.out⟩
    | false =>
     rw [hm] at HR
     go_wp2_with (go_at_call 155; refine HC.out.mono ?_; rintro e w' ⟨rfl, rfl⟩)
     go_ret
     exact ⟨ret_bool (by rw [HR.out]; rfl), below_step HB0.out HBr.out⟩
   ·have hk5 : (kind == 4) = false := beq_eq_false_iff_ne.2 hk4
    have HR2 : Hid (rightS gl q ps (.mk id kind labels nm proc x has args th el) = true) := Lib.hid (by rw [HR.out, bne, hk5]; rfl)
    have hk6 : (kind != 4) = true := by simp [bne, hk5]
    clear hk4 HR
    go_wp2_with fail
    go_ret
    exact ⟨ret_bool HR2.out.symm, below_step HB0.out HBr.out⟩
end Go.Proofs.Ytcocilpifdjibaa
namespace Go.Proofs.Ytcocilpifdjibaa
open Go.ChangeShapes Go.WideShapes Go.ChangeAt Go.RowKit Go.Deep
set_option linter.unusedVariables false
set_option linter.unusedSimpArgs false
def fstB (f : S → Bool) (L : List S) : Int := (L.find? f).elim 0 S.id
theorem fstB_cons {f : S → Bool} {x : S} {L : List S} : fstB f (x :: L) = if f x = true then x.id else fstB f L := by
 unfold fstB
 rw [List.find?_cons]
 cases f x <;> rfl
theorem fstB_app {f : S → Bool} {A B : List S} (h : ∀ s ∈ A, s.id ≠ 0) : fstB f (A ++ B) = if fstB f A = 0 then fstB f B else fstB f A := by
 unfold fstB
 rw [List.find?_append]
 cases hf : A.find? f with
 | none => simp
 | some x =>
  have := h x (List.mem_of_find?_eq_some hf)
  simp [this]
def badS (gl : List ByteArray) (q : Pr) (ps : List ByteArray) (s : S) : Bool := !rightS gl q ps s
theorem fstB_step {f : S → Bool} {l : List S} {k : Nat} (h : k < l.length) (hz : ∀ s ∈ preSL l, s.id ≠ 0) : fstB f (preSL (l.drop k)) = if f l[k] = true then l[k].id else if fstB f (preSL l[k].th) = 0 then (if fstB f (preSL l[k].el) = 0 then fstB f (preSL (l.drop (k + 1))) else fstB f (preSL l[k].el)) else fstB f (preSL l[k].th) := by
 have hm : ∀ s ∈ subS l[k], s.id ≠ 0 := fun s hs => hz s (by
  have h1 : ∀ (l : List S) (k : Nat) (h : k < l.length), ∀ s ∈ preS l[k], s ∈ preSL l := by
   intro l
   induction l with
   | nil => intro k h; cases h
   | cons x l ih =>
    intro k h s hs
    rw [preSL]
    cases k with
    | zero => exact List.mem_append_left _ hs
    | succ k => exact List.mem_append_right _ (ih k (by simpa using h) s (by simpa using hs))
  exact h1 l k h s (by rw [preS_eq]; exact List.mem_cons_of_mem _ hs))
 rw [subS_eq] at hm
 rw [List.drop_eq_getElem_cons h, preSL_cons, fstB_cons, subS_eq, List.append_assoc, fstB_app (fun s hs => hm s (List.mem_append_left _ hs)), fstB_app (fun s hs => hm s (List.mem_append_right _ hs))]
def WrOk (r : Int) (W : World) (e : Ending) (w' : World) : Prop := e = .returned (.int .i64 r) ∧ Below W.heap.size W w'
set_option maxHeartbeats 4000000 in
set_option maxRecDepth 100000 in
theorem wrong_any {w : World} {Q : Nat → Prop} {gl ps : List ByteArray} {vg vs : Value} {q : Pr} {c0 c1 c2 c3 c4 : Value} (hg : TextsI w Q gl vg) (hps : TextsI w Q ps vs) (hq : ProcI w Q q [c0, c1, c2, c3, c4]) : ∀ (N : Nat) (l : List S), (preSL l).length < N → ∀ {W : World} {A : Option Addr} {cap : Nat}, StmtsI w Q l (.slice A l.length cap) → In Q w W → (∀ s ∈ preSL l, s.id ≠ 0) → (∀ s ∈ preSL l, (varsS s).length ≤ 1000000) →
 Calls Try.prog 104 #[.agg #[vg, vs, c0, c1, c2, c3, c4], .slice A l.length cap] W (WrOk (fstB (badS gl q ps) (preSL l)) W) := by
 have HRi := Lib.hid (fun s cs (h : StmtI w Q s cs) hn V hV => right_any hg hps hq h hn V hV)
 obtain ⟨vp, vv, vb, ve, hc, hnq, hpp, hvv, hbb, hee⟩ := hq
 simp only [List.cons.injEq, and_true] at hc
 obtain ⟨rfl, rfl, rfl, rfl, rfl⟩ := hc
 obtain ⟨Ap, cp, rfl, _, _⟩ := hpp.shape
 obtain ⟨Av, cv, rfl, _, _⟩ := hvv.shape
 obtain ⟨Ab, cb, rfl, _⟩ := hbb.shape
 obtain ⟨Ae, ce, rfl, _⟩ := hee.shape
 obtain ⟨Ag, cg, rfl, _⟩ := hg.shape
 obtain ⟨As, cs, rfl, _⟩ := hps.shape
 clear hg hps hnq hpp hvv hbb hee
 intro N
 induction N with
 | zero => intro l h; omega
 | succ N ih =>
  intro l hN W A cap hl hI hz hv
  obtain ⟨_, hlc, hcap, _⟩ := slice_len hl
  have IH := Lib.hid @ih
  have HN := Lib.hid hN
  have HL := Lib.hid hl
  have HI := Lib.hid hI
  have HZ := Lib.hid hz
  have HVv := Lib.hid hv
  clear ih hN hl hI hz hv
  go_enter Try.func104, Try.ntmps104
  go_upto_region 1 with fail
  have HBc : Hid (Blk (W.alloc (.cells #[.slice Ag gl.length cg, .slice As ps.length cs, .string q.nm, .slice Ap q.params.length cp, .slice Av q.vars.length cv, .slice Ab q.body.length cb, .slice Ae q.end_.length ce] 131)) W.heap.size 131 #[.slice Ag gl.length cg, .slice As ps.length cs, .string q.nm, .slice Ap q.params.length cp, .slice Av q.vars.length cv, .slice Ab q.body.length cb, .slice Ae q.end_.length ce]) := Lib.hid (Blk.new _ _ _)
  have HB0 : Hid (Below W.heap.size W (W.alloc (.cells #[.slice Ag gl.length cg, .slice As ps.length cs, .string q.nm, .slice Ap q.params.length cp, .slice Av q.vars.length cv, .slice Ab q.body.length cb, .slice Ae q.end_.length ce] 131))) := Lib.hid (below_box _)
  generalize World.alloc _ _ = V at HBc HB0 ⊢
  have HI0 := Lib.hid (HI.out.on HB0.out)
  have hbc := HBc.out.lt
  generalize W.heap.size = b at HBc hbc ⊢
  go_upto_region 2 with fail
  go_loopw [11] (fun iv wr => ∃ (k : Nat), k ≤ l.length ∧ iv = .int .i64 k ∧ Hid (Below V.heap.size V wr) ∧ Hid (fstB (badS gl q ps) (preSL (l.drop k)) = fstB (badS gl q ps) (preSL l))) (fun iv _ => l.length - (intOf iv).toNat)
  case atStart => exact ⟨0, Nat.zero_le _, rfl, Lib.hid (Below.refl _ _), Lib.hid rfl⟩
  case round =>
   obtain ⟨k, hk, rfl, HBr, HA⟩ := hrel
   have HIr := Lib.hid (HI0.out.on HBr.out)
   have HBcr := Lib.hid (HBc.out.below HBr.out hbc)
   by_cases hlt : k < l.length
   ·obtain ⟨a, id, kind, labels, nm, proc, x, has, args, th, el, L, lc, x0, x1, x2, X, xn, xc, R, rc, T, tc, U, uc, rfl, hqa, hlk, ⟨p0, p1, p2, p3, p4, p5, p6, p7, p8, p9, p10, p11, p12, _⟩, hid, hkind, hnm, hproc, htx, hx, ha, hth, hel, hst⟩ := stmt_at HL.out HIr.out hlt
    have HAk : Hid (fstB (badS gl q ps) (preSL l) = if badS gl q ps (.mk id kind labels nm proc x has args th el) = true then id else if fstB (badS gl q ps) (preSL th) = 0 then (if fstB (badS gl q ps) (preSL el) = 0 then fstB (badS gl q ps) (preSL (l.drop (k + 1))) else fstB (badS gl q ps) (preSL el)) else fstB (badS gl q ps) (preSL th)) := Lib.hid (by
     have h := fstB_step (f := badS gl q ps) hlt HZ.out
     rw [HA.out, hlk] at h
     exact h)
    have hsub := preSL_at hlt
    have hmem : ∀ s ∈ preS l[k], s ∈ preSL l := fun s hs => by
     have h1 : ∀ (l : List S) (k : Nat) (h : k < l.length), ∀ s ∈ preS l[k], s ∈ preSL l := by
      intro l
      induction l with
      | nil => intro k h; cases h
      | cons x l ih =>
       intro k h s hs
       rw [preSL]
       cases k with
       | zero => exact List.mem_append_left _ hs
       | succ k => exact List.mem_append_right _ (ih k (by simpa using h) s (by simpa using hs))
     exact h1 l k hlt s hs
    rw [hlk, subS_eq] at hsub
    rw [hlk, preS_eq, subS_eq] at hmem
    rw [List.length_append] at hsub
    rw [hlk] at hst
    have HR := Lib.hid (fun V hV => HRi.out _ _ hst (HVv.out _ (hmem _ (List.mem_cons_self ..))) V hV)
    have HT := Lib.hid (fun V hV => IH.out th (by have := HN.out; simp only [S.th, S.el] at hsub; omega) (W := V) hth hV (fun s hs => HZ.out s (hmem s (List.mem_cons_of_mem _ (List.mem_append_left _ hs)))) (fun s hs => HVv.out s (hmem s (List.mem_cons_of_mem _ (List.mem_append_left _ hs)))))
    have HE := Lib.hid (fun V hV => IH.out el (by have := HN.out; simp only [S.th, S.el] at hsub; omega) (W := V) hel hV (fun s hs => HZ.out s (hmem s (List.mem_cons_of_mem _ (List.mem_append_right _ hs)))) (fun s hs => HVv.out s (hmem s (List.mem_cons_of_mem _ (List.mem_append_right _ hs)))))
    simp only [List.toArray] at HR
    have HB : Hid (badS gl q ps (.mk id kind labels nm proc x has args th el) = !rightS gl q ps (.mk id kind labels nm proc x has args th el)) := Lib.hid rfl
    rw [HB.out] at HAk
    have hidb := hid
    unfold i64 at hidb
    clear HB hlk hsub hmem hst hid hkind hnm hproc htx hx ha hth hel hqa
    generalize rightS gl q ps (.mk id kind labels nm proc x has args th el) = r at HR HAk
    generalize fstB (badS gl q ps) (preSL th) = r1 at HT HAk
    generalize fstB (badS gl q ps) (preSL el) = r2 at HE HAk
    go_upto_region 4 with fail
    have HBx : Hid (Blk (wr.alloc (.cells #[.int .i64 id, .int .i64 kind, .slice L labels.length lc, .string nm, .string proc, .int .i64 x0, .int .i64 x1, .string x2, .slice X xn xc, .bool has, .slice R args.length rc, .slice T th.length tc, .slice U el.length uc] 64)) wr.heap.size 64 #[.int .i64 id, .int .i64 kind, .slice L labels.length lc, .string nm, .string proc, .int .i64 x0, .int .i64 x1, .string x2, .slice X xn xc, .bool has, .slice R args.length rc, .slice T th.length tc, .slice U el.length uc]) := Lib.hid (Blk.new _ _ _)
    have HB4 : Hid (Below V.heap.size V (wr.alloc (.cells #[.int .i64 id, .int .i64 kind, .slice L labels.length lc, .string nm, .string proc, .int .i64 x0, .int .i64 x1, .string x2, .slice X xn xc, .bool has, .slice R args.length rc, .slice T th.length tc, .slice U el.length uc] 64))) := Lib.hid (below_stepA HBr.out _)
    have HI4 : Hid (In Q w (wr.alloc (.cells #[.int .i64 id, .int .i64 kind, .slice L labels.length lc, .string nm, .string proc, .int .i64 x0, .int .i64 x1, .string x2, .slice X xn xc, .bool has, .slice R args.length rc, .slice T th.length tc, .slice U el.length uc] 64))) := Lib.hid (HIr.out.alloc _)
    have HBc4 : Hid (Blk (wr.alloc (.cells #[.int .i64 id, .int .i64 kind, .slice L labels.length lc, .string nm, .string proc, .int .i64 x0, .int .i64 x1, .string x2, .slice X xn xc, .bool has, .slice R args.length rc, .slice T th.length tc, .slice U el.length uc] 64)) b 131 #[.slice Ag gl.length cg, .slice As ps.length cs, .string q.nm, .slice Ap q.params.length cp, .slice Av q.vars.length cv, .slice Ab q.body.length cb, .slice Ae q.end_.length ce]) := Lib.hid (HBcr.out.alloc _)
    clear p0 p1 p2 p3 p4 p5 p6 p7 p8 p9 p10 p11 p12 HIr HBcr
    generalize World.alloc wr _ = V4 at HBx HB4 HI4 HBc4 ⊢
    generalize wr.heap.size = bx at HBx ⊢
    have hb4 := HBc4.out.lt
    have hx4 := HBx.out.lt
    have z0 : V4.cell? ⟨b, 0, none⟩ = some (.slice Ag gl.length cg) := by rw [HBc4.out.cell]; rfl
    have z1 : V4.cell? ⟨b, 1, none⟩ = some (.slice As ps.length cs) := by rw [HBc4.out.cell]; rfl
    have z2 : V4.cell? ⟨b, 2, none⟩ = some (.string q.nm) := by rw [HBc4.out.cell]; rfl
    have z3 : V4.cell? ⟨b, 3, none⟩ = some (.slice Ap q.params.length cp) := by rw [HBc4.out.cell]; rfl
    have z4 : V4.cell? ⟨b, 4, none⟩ = some (.slice Av q.vars.length cv) := by rw [HBc4.out.cell]; rfl
    have z5 : V4.cell? ⟨b, 5, none⟩ = some (.slice Ab q.body.length cb) := by rw [HBc4.out.cell]; rfl
    have z6 : V4.cell? ⟨b, 6, none⟩ = some (.slice Ae q.end_.length ce) := by rw [HBc4.out.cell]; rfl
    have y0 : V4.cell? ⟨bx, 0, none⟩ = some (.int .i64 id) := by rw [HBx.out.cell]; rfl
    have y1 : V4.cell? ⟨bx, 1, none⟩ = some (.int .i64 kind) := by rw [HBx.out.cell]; rfl
    have y2 : V4.cell? ⟨bx, 2, none⟩ = some (.slice L labels.length lc) := by rw [HBx.out.cell]; rfl
    have y3 : V4.cell? ⟨bx, 3, none⟩ = some (.string nm) := by rw [HBx.out.cell]; rfl
    have y4 : V4.cell? ⟨bx, 4, none⟩ = some (.string proc) := by rw [HBx.out.cell]; rfl
    have y5 : V4.cell? ⟨bx, 5, none⟩ = some (.int .i64 x0) := by rw [HBx.out.cell]; rfl
    have y6 : V4.cell? ⟨bx, 6, none⟩ = some (.int .i64 x1) := by rw [HBx.out.cell]; rfl
    have y7 : V4.cell? ⟨bx, 7, none⟩ = some (.string x2) := by rw [HBx.out.cell]; rfl
    have y8 : V4.cell? ⟨bx, 8, none⟩ = some (.slice X xn xc) := by rw [HBx.out.cell]; rfl
    have y9 : V4.cell? ⟨bx, 9, none⟩ = some (.bool has) := by rw [HBx.out.cell]; rfl
    have y10 : V4.cell? ⟨bx, 10, none⟩ = some (.slice R args.length rc) := by rw [HBx.out.cell]; rfl
    have y11 : V4.cell? ⟨bx, 11, none⟩ = some (.slice T th.length tc) := by rw [HBx.out.cell]; rfl
    have y12 : V4.cell? ⟨bx, 12, none⟩ = some (.slice U el.length uc) := by rw [HBx.out.cell]; rfl
    cases r with
    | false =>
     have HAn : Hid (fstB (badS gl q ps) (preSL l) = id) := Lib.hid (by rw [HAk.out]; rfl)
     clear HAk
     go_upto_region 5 with (go_at_call 156; refine (HR.out V4 HI4.out).mono ?_; rintro e w5 ⟨rfl, hb5⟩)
     have HBx5 := Lib.hid (HBx.out.below hb5 hx4)
     have HB5 := Lib.hid (below_step HB4.out hb5)
     clear z0 z1 z2 z3 z4 z5 z6 y0 y1 y2 y3 y4 y5 y6 y7 y8 y9 y10 y11 y12 hb5
     have y0 : w5.cell? ⟨bx, 0, none⟩ = some (.int .i64 id) := by rw [HBx5.out.cell]; rfl
     go_wp2_with fail
     go_ret
     exact ⟨ret_int HAn.out.symm, below_step HB0.out HB5.out⟩
    | true =>
     go_upto_region 6 with (go_at_call 156; refine (HR.out V4 HI4.out).mono ?_; rintro e w5 ⟨rfl, hb5⟩)
     have HBx5 := Lib.hid (HBx.out.below hb5 hx4)
     have HBc5 := Lib.hid (HBc4.out.below hb5 hb4)
     have HB5 := Lib.hid (below_step HB4.out hb5)
     have HI5 := Lib.hid (HI4.out.on hb5)
     clear z0 z1 z2 z3 z4 z5 z6 y0 y1 y2 y3 y4 y5 y6 y7 y8 y9 y10 y11 y12 hb5 HB4 HI4 HBx HBc4 HR hb4 hx4
     have hb5 := HBc5.out.lt
     have hx5 := HBx5.out.lt
     have z0 : w5.cell? ⟨b, 0, none⟩ = some (.slice Ag gl.length cg) := by rw [HBc5.out.cell]; rfl
     have z1 : w5.cell? ⟨b, 1, none⟩ = some (.slice As ps.length cs) := by rw [HBc5.out.cell]; rfl
     have z2 : w5.cell? ⟨b, 2, none⟩ = some (.string q.nm) := by rw [HBc5.out.cell]; rfl
     have z3 : w5.cell? ⟨b, 3, none⟩ = some (.slice Ap q.params.length cp) := by rw [HBc5.out.cell]; rfl
     have z4 : w5.cell? ⟨b, 4, none⟩ = some (.slice Av q.vars.length cv) := by rw [HBc5.out.cell]; rfl
     have z5 : w5.cell? ⟨b, 5, none⟩ = some (.slice Ab q.body.length cb) := by rw [HBc5.out.cell]; rfl
     have z6 : w5.cell? ⟨b, 6, none⟩ = some (.slice Ae q.end_.length ce) := by rw [HBc5.out.cell]; rfl
     have y11 : w5.cell? ⟨bx, 11, none⟩ = some (.slice T th.length tc) := by rw [HBx5.out.cell]; rfl
     go_upto_region 7 with (go_at_call 104; refine (HT.out w5 HI5.out).mono ?_; rintro e w6 ⟨rfl, hb6⟩)
     have HBx6 := Lib.hid (HBx5.out.below hb6 hx5)
     have HBc6 := Lib.hid (HBc5.out.below hb6 hb5)
     have HB6 := Lib.hid (below_step HB5.out hb6)
     have HI6 := Lib.hid (HI5.out.on hb6)
     clear z0 z1 z2 z3 z4 z5 z6 y11 hb5 hb6 HB5 HI5 HBx5 HBc5 hx5 HT
     by_cases h1 : r1 = 0
     ·subst h1
      have HAn : Hid (fstB (badS gl q ps) (preSL l) = if r2 = 0 then fstB (badS gl q ps) (preSL (l.drop (k + 1))) else r2) := Lib.hid (by rw [HAk.out]; rfl)
      clear HAk
      have z0 : w6.cell? ⟨b, 0, none⟩ = some (.slice Ag gl.length cg) := by rw [HBc6.out.cell]; rfl
      have z1 : w6.cell? ⟨b, 1, none⟩ = some (.slice As ps.length cs) := by rw [HBc6.out.cell]; rfl
      have z2 : w6.cell? ⟨b, 2, none⟩ = some (.string q.nm) := by rw [HBc6.out.cell]; rfl
      have z3 : w6.cell? ⟨b, 3, none⟩ = some (.slice Ap q.params.length cp) := by rw [HBc6.out.cell]; rfl
      have z4 : w6.cell? ⟨b, 4, none⟩ = some (.slice Av q.vars.length cv) := by rw [HBc6.out.cell]; rfl
      have z5 : w6.cell? ⟨b, 5, none⟩ = some (.slice Ab q.body.length cb) := by rw [HBc6.out.cell]; rfl
      have z6 : w6.cell? ⟨b, 6, none⟩ = some (.slice Ae q.end_.length ce) := by rw [HBc6.out.cell]; rfl
      have y12 : w6.cell? ⟨bx, 12, none⟩ = some (.slice U el.length uc) := by rw [HBx6.out.cell]; rfl
      by_cases h2 : r2 = 0
      ·subst h2
       rw [if_pos rfl] at HAn
       go_wp2_with (go_at_call 104; refine (HE.out w6 HI6.out).mono ?_; rintro e w7 ⟨rfl, hb7⟩; have HB7 := Lib.hid (below_step HB6.out hb7); clear hb7)
       go_roundw
       case rel => exact ⟨k + 1, by omega, by go_num, HB7, Lib.hid HAn.out.symm⟩
       case measure => simp [intOf]; omega
      ·rw [if_neg h2] at HAn
       have h2' : (r2 == 0) = false := beq_eq_false_iff_ne.2 h2
       clear h2
       go_wp2_with (go_at_call 104; refine (HE.out w6 HI6.out).mono ?_; rintro e w7 ⟨rfl, hb7⟩; have HB7 := Lib.hid (below_step HB6.out hb7); clear hb7)
       go_ret
       exact ⟨ret_int HAn.out.symm, below_step HB0.out HB7.out⟩
     ·have HAn : Hid (fstB (badS gl q ps) (preSL l) = r1) := Lib.hid (by rw [HAk.out, if_neg h1]; rfl)
      have h1' : (r1 == 0) = false := beq_eq_false_iff_ne.2 h1
      clear h1 HAk
      go_wp2_with fail
      go_ret
      exact ⟨ret_int HAn.out.symm, below_step HB0.out HB6.out⟩
   ·have HAe : Hid (fstB (badS gl q ps) (preSL l) = 0) := Lib.hid (by rw [← HA.out, List.drop_of_length_le (by omega), preSL]; rfl)
    go_wp2_with fail
    go_ret
    exact ⟨ret_int HAe.out.symm, below_step HB0.out HBr.out⟩
end Go.Proofs.Ytcocilpifdjibaa
