/- Texts, merged by a program; only what is used. -/
import Derived.Deep.RegionHeld3
import Derived.Test.YtnnblklbjbkikaaP1
import Derived.Test.YtnnblklbjbkikaaP2
import Derived.Test.YtnnblklbjbkikaaP3
import Derived.Test.YtnnblklbjbkikaaP4
import Derived.Test.YtnnblklbjbkikaaP5
import Derived.Test.YtnnblklbjbkikaaP6
import Derived.Test.YtnnblklbjbkikaaP7
import Derived.Test.YtnnblklbjbkikaaP8
import Derived.Test.YtnnblklbjbkikaaP9
import Derived.Test.YtnnblklbjbkikaaP10
import Derived.Test.YtnnblklbjbkikaaP11
import Derived.Test.YtnnblklbjbkikaaP12
namespace Go.Proofs.Ytnnblklbjbkikaa
open Go.ChangeShapes Go.WideShapes Go.ChangeAt Go.RowKit Go.Deep
set_option linter.unusedVariables false
set_option linter.unusedSimpArgs false
def fstB (f : S → Bool) (L : List S) : Int := (L.find? f).elim 0 S.id
theorem fstB_cons {f : S → Bool} {x : S} {L : List S} : fstB f (x :: L) = if f x = true then x.id else fstB f L := by
 unfold fstB
 rw [List.find?_cons]
 cases f x <;> rfl
theorem fstB_app {f : S → Bool} {A B : List S} (h : ∀ s ∈ A, s.id ≠ 0) : fstB f (A ++ B) = if fstB f A = 0 then fstB f B else fstB f A := by
 unfold fstB
 rw [List.find?_append]
 cases hf : A.find? f with
 | none => simp
 | some x =>
  have := h x (List.mem_of_find?_eq_some hf)
  simp [this]
def badS (gl : List ByteArray) (q : Pr) (ps : List ByteArray) (s : S) : Bool := !rightS gl q ps s
theorem fstB_step {f : S → Bool} {l : List S} {k : Nat} (h : k < l.length) (hz : ∀ s ∈ preSL l, s.id ≠ 0) : fstB f (preSL (l.drop k)) = if f l[k] = true then l[k].id else if fstB f (preSL l[k].th) = 0 then (if fstB f (preSL l[k].el) = 0 then fstB f (preSL (l.drop (k + 1))) else fstB f (preSL l[k].el)) else fstB f (preSL l[k].th) := by
 have hm : ∀ s ∈ subS l[k], s.id ≠ 0 := fun s hs => hz s (by
  have h1 : ∀ (l : List S) (k : Nat) (h : k < l.length), ∀ s ∈ preS l[k], s ∈ preSL l := by
   intro l
   induction l with
   | nil => intro k h; cases h
   | cons x l ih =>
    intro k h s hs
    rw [preSL]
    cases k with
    | zero => exact List.mem_append_left _ hs
    | succ k => exact List.mem_append_right _ (ih k (by simpa using h) s (by simpa using hs))
  exact h1 l k h s (by rw [preS_eq]; exact List.mem_cons_of_mem _ hs))
 rw [subS_eq] at hm
 rw [List.drop_eq_getElem_cons h, preSL_cons, fstB_cons, subS_eq, List.append_assoc, fstB_app (fun s hs => hm s (List.mem_append_left _ hs)), fstB_app (fun s hs => hm s (List.mem_append_right _ hs))]
def WrOk (r : Int) (W : World) (e : Ending) (w' : World) : Prop := e = .returned (.int .i64 r) ∧ Below W.heap.size W w'
set_option maxHeartbeats 4000000 in
set_option maxRecDepth 100000 in
theorem wrong_any {w : World} {Q : Nat → Prop} {gl ps : List ByteArray} {vg vs : Value} {q : Pr} {c0 c1 c2 c3 c4 : Value} (hg : TextsI w Q gl vg) (hps : TextsI w Q ps vs) (hq : ProcI w Q q [c0, c1, c2, c3, c4]) : ∀ (N : Nat) (l : List S), (preSL l).length < N → ∀ {W : World} {A : Option Addr} {cap : Nat}, StmtsI w Q l (.slice A l.length cap) → In Q w W → (∀ s ∈ preSL l, s.id ≠ 0) → (∀ s ∈ preSL l, (varsS s).length ≤ 1000000) →
 Calls Try.prog 77 #[.agg #[vg, vs, c0, c1, c2, c3, c4], .slice A l.length cap] W (WrOk (fstB (badS gl q ps) (preSL l)) W) := by
 have HRi := Lib.hid (fun s cs (h : StmtI w Q s cs) hn V hV => right_any hg hps hq h hn V hV)
 obtain ⟨vp, vv, vb, ve, hc, hnq, hpp, hvv, hbb, hee⟩ := hq
 simp only [List.cons.injEq, and_true] at hc
 obtain ⟨rfl, rfl, rfl, rfl, rfl⟩ := hc
 obtain ⟨Ap, cp, rfl, _, _⟩ := hpp.shape
 obtain ⟨Av, cv, rfl, _, _⟩ := hvv.shape
 obtain ⟨Ab, cb, rfl, _⟩ := hbb.shape
 obtain ⟨Ae, ce, rfl, _⟩ := hee.shape
 obtain ⟨Ag, cg, rfl, _⟩ := hg.shape
 obtain ⟨As, cs, rfl, _⟩ := hps.shape
 clear hg hps hnq hpp hvv hbb hee
 intro N
 induction N with
 | zero => intro l h; omega
 | succ N ih =>
  intro l hN W A cap hl hI hz hv
  obtain ⟨_, hlc, hcap, _⟩ := slice_len hl
  have IH := Lib.hid @ih
  have HN := Lib.hid hN
  have HL := Lib.hid hl
  have HI := Lib.hid hI
  have HZ := Lib.hid hz
  have HVv := Lib.hid hv
  clear ih hN hl hI hz hv
  go_enter Try.func77, Try.ntmps77
  go_upto_region 1 with fail
  have HBc : Hid (Blk (W.alloc (.cells #[.slice Ag gl.length cg, .slice As ps.length cs, .string q.nm, .slice Ap q.params.length cp, .slice Av q.vars.length cv, .slice Ab q.body.length cb, .slice Ae q.end_.length ce] 114)) W.heap.size 114 #[.slice Ag gl.length cg, .slice As ps.length cs, .string q.nm, .slice Ap q.params.length cp, .slice Av q.vars.length cv, .slice Ab q.body.length cb, .slice Ae q.end_.length ce]) := Lib.hid (Blk.new _ _ _)
  have HB0 : Hid (Below W.heap.size W (W.alloc (.cells #[.slice Ag gl.length cg, .slice As ps.length cs, .string q.nm, .slice Ap q.params.length cp, .slice Av q.vars.length cv, .slice Ab q.body.length cb, .slice Ae q.end_.length ce] 114))) := Lib.hid (below_box _)
  generalize World.alloc _ _ = V at HBc HB0 ⊢
  have HI0 := Lib.hid (HI.out.on HB0.out)
  have hbc := HBc.out.lt
  generalize W.heap.size = b at HBc hbc ⊢
  go_upto_region 2 with fail
  go_loopw [11] (fun iv wr => ∃ (k : Nat), k ≤ l.length ∧ iv = .int .i64 k ∧ Hid (Below V.heap.size V wr) ∧ Hid (fstB (badS gl q ps) (preSL (l.drop k)) = fstB (badS gl q ps) (preSL l))) (fun iv _ => l.length - (intOf iv).toNat)
  case atStart => exact ⟨0, Nat.zero_le _, rfl, Lib.hid (Below.refl _ _), Lib.hid rfl⟩
  case round =>
   obtain ⟨k, hk, rfl, HBr, HA⟩ := hrel
   have HIr := Lib.hid (HI0.out.on HBr.out)
   have HBcr := Lib.hid (HBc.out.below HBr.out hbc)
   by_cases hlt : k < l.length
   ·obtain ⟨a, id, kind, labels, nm, proc, x, has, args, th, el, L, lc, x0, x1, x2, X, xn, xc, R, rc, T, tc, U, uc, rfl, hqa, hlk, ⟨p0, p1, p2, p3, p4, p5, p6, p7, p8, p9, p10, p11, p12, _⟩, hid, hkind, hnm, hproc, htx, hx, ha, hth, hel, hst⟩ := stmt_at HL.out HIr.out hlt
    have HAk : Hid (fstB (badS gl q ps) (preSL l) = if badS gl q ps (.mk id kind labels nm proc x has args th el) = true then id else if fstB (badS gl q ps) (preSL th) = 0 then (if fstB (badS gl q ps) (preSL el) = 0 then fstB (badS gl q ps) (preSL (l.drop (k + 1))) else fstB (badS gl q ps) (preSL el)) else fstB (badS gl q ps) (preSL th)) := Lib.hid (by
     have h := fstB_step (f := badS gl q ps) hlt HZ.out
     rw [HA.out, hlk] at h
     exact h)
    have hsub := preSL_at hlt
    have hmem : ∀ s ∈ preS l[k], s ∈ preSL l := fun s hs => by
     have h1 : ∀ (l : List S) (k : Nat) (h : k < l.length), ∀ s ∈ preS l[k], s ∈ preSL l := by
      intro l
      induction l with
      | nil => intro k h; cases h
      | cons x l ih =>
       intro k h s hs
       rw [preSL]
       cases k with
       | zero => exact List.mem_append_left _ hs
       | succ k => exact List.mem_append_right _ (ih k (by simpa using h) s (by simpa using hs))
     exact h1 l k hlt s hs
    rw [hlk, subS_eq] at hsub
    rw [hlk, preS_eq, subS_eq] at hmem
    rw [List.length_append] at hsub
    rw [hlk] at hst
    have HR := Lib.hid (fun V hV => HRi.out _ _ hst (HVv.out _ (hmem _ (List.mem_cons_self ..))) V hV)
    have HT := Lib.hid (fun V hV => IH.out th (by have := HN.out; simp only [S.th, S.el] at hsub; omega) (W := V) hth hV (fun s hs => HZ.out s (hmem s (List.mem_cons_of_mem _ (List.mem_append_left _ hs)))) (fun s hs => HVv.out s (hmem s (List.mem_cons_of_mem _ (List.mem_append_left _ hs)))))
    have HE := Lib.hid (fun V hV => IH.out el (by have := HN.out; simp only [S.th, S.el] at hsub; omega) (W := V) hel hV (fun s hs => HZ.out s (hmem s (List.mem_cons_of_mem _ (List.mem_append_right _ hs)))) (fun s hs => HVv.out s (hmem s (List.mem_cons_of_mem _ (List.mem_append_right _ hs)))))
    simp only [List.toArray] at HR
    have HB : Hid (badS gl q ps (.mk id kind labels nm proc x has args th el) = !rightS gl q ps (.mk id kind labels nm proc x has args th el)) := Lib.hid rfl
    rw [HB.out] at HAk
    have hidb := hid
    unfold i64 at hidb
    clear HB hlk hsub hmem hst hid hkind hnm hproc htx hx ha hth hel hqa
    generalize rightS gl q ps (.mk id kind labels nm proc x has args th el) = r at HR HAk
    generalize fstB (badS gl q ps) (preSL th) = r1 at HT HAk
    generalize fstB (badS gl q ps) (preSL el) = r2 at HE HAk
    go_upto_region 4 with fail
    have HBx : Hid (Blk (wr.alloc (.cells #[.int .i64 id, .int .i64 kind, .slice L labels.length lc, .string nm, .string proc, .int .i64 x0, .int .i64 x1, .string x2, .slice X xn xc, .bool has, .slice R args.length rc, .slice T th.length tc, .slice U el.length uc] 55)) wr.heap.size 55 #[.int .i64 id, .int .i64 kind, .slice L labels.length lc, .string nm, .string proc, .int .i64 x0, .int .i64 x1, .string x2, .slice X xn xc, .bool has, .slice R args.length rc, .slice T th.length tc, .slice U el.length uc]) := Lib.hid (Blk.new _ _ _)
    have HB4 : Hid (Below V.heap.size V (wr.alloc (.cells #[.int .i64 id, .int .i64 kind, .slice L labels.length lc, .string nm, .string proc, .int .i64 x0, .int .i64 x1, .string x2, .slice X xn xc, .bool has, .slice R args.length rc, .slice T th.length tc, .slice U el.length uc] 55))) := Lib.hid (below_stepA HBr.out _)
    have HI4 : Hid (In Q w (wr.alloc (.cells #[.int .i64 id, .int .i64 kind, .slice L labels.length lc, .string nm, .string proc, .int .i64 x0, .int .i64 x1, .string x2, .slice X xn xc, .bool has, .slice R args.length rc, .slice T th.length tc, .slice U el.length uc] 55))) := Lib.hid (HIr.out.alloc _)
    have HBc4 : Hid (Blk (wr.alloc (.cells #[.int .i64 id, .int .i64 kind, .slice L labels.length lc, .string nm, .string proc, .int .i64 x0, .int .i64 x1, .string x2, .slice X xn xc, .bool has, .slice R args.length rc, .slice T th.length tc, .slice U el.length uc] 55)) b 114 #[.slice Ag gl.length cg, .slice As ps.length cs, .string q.nm, .slice Ap q.params.length cp, .slice Av q.vars.length cv, .slice Ab q.body.length cb, .slice Ae q.end_.length ce]) := Lib.hid (HBcr.out.alloc _)
    clear p0 p1 p2 p3 p4 p5 p6 p7 p8 p9 p10 p11 p12 HIr HBcr
    generalize World.alloc wr _ = V4 at HBx HB4 HI4 HBc4 ⊢
    generalize wr.heap.size = bx at HBx ⊢
    have hb4 := HBc4.out.lt
    have hx4 := HBx.out.lt
    have z0 : V4.cell? ⟨b, 0, none⟩ = some (.slice Ag gl.length cg) := by rw [HBc4.out.cell]; rfl
    have z1 : V4.cell? ⟨b, 1, none⟩ = some (.slice As ps.length cs) := by rw [HBc4.out.cell]; rfl
    have z2 : V4.cell? ⟨b, 2, none⟩ = some (.string q.nm) := by rw [HBc4.out.cell]; rfl
    have z3 : V4.cell? ⟨b, 3, none⟩ = some (.slice Ap q.params.length cp) := by rw [HBc4.out.cell]; rfl
    have z4 : V4.cell? ⟨b, 4, none⟩ = some (.slice Av q.vars.length cv) := by rw [HBc4.out.cell]; rfl
    have z5 : V4.cell? ⟨b, 5, none⟩ = some (.slice Ab q.body.length cb) := by rw [HBc4.out.cell]; rfl
    have z6 : V4.cell? ⟨b, 6, none⟩ = some (.slice Ae q.end_.length ce) := by rw [HBc4.out.cell]; rfl
    have y0 : V4.cell? ⟨bx, 0, none⟩ = some (.int .i64 id) := by rw [HBx.out.cell]; rfl
    have y1 : V4.cell? ⟨bx, 1, none⟩ = some (.int .i64 kind) := by rw [HBx.out.cell]; rfl
    have y2 : V4.cell? ⟨bx, 2, none⟩ = some (.slice L labels.length lc) := by rw [HBx.out.cell]; rfl
    have y3 : V4.cell? ⟨bx, 3, none⟩ = some (.string nm) := by rw [HBx.out.cell]; rfl
    have y4 : V4.cell? ⟨bx, 4, none⟩ = some (.string proc) := by rw [HBx.out.cell]; rfl
    have y5 : V4.cell? ⟨bx, 5, none⟩ = some (.int .i64 x0) := by rw [HBx.out.cell]; rfl
    have y6 : V4.cell? ⟨bx, 6, none⟩ = some (.int .i64 x1) := by rw [HBx.out.cell]; rfl
    have y7 : V4.cell? ⟨bx, 7, none⟩ = some (.string x2) := by rw [HBx.out.cell]; rfl
    have y8 : V4.cell? ⟨bx, 8, none⟩ = some (.slice X xn xc) := by rw [HBx.out.cell]; rfl
    have y9 : V4.cell? ⟨bx, 9, none⟩ = some (.bool has) := by rw [HBx.out.cell]; rfl
    have y10 : V4.cell? ⟨bx, 10, none⟩ = some (.slice R args.length rc) := by rw [HBx.out.cell]; rfl
    have y11 : V4.cell? ⟨bx, 11, none⟩ = some (.slice T th.length tc) := by rw [HBx.out.cell]; rfl
    have y12 : V4.cell? ⟨bx, 12, none⟩ = some (.slice U el.length uc) := by rw [HBx.out.cell]; rfl
    cases r with
    | false =>
     have HAn : Hid (fstB (badS gl q ps) (preSL l) = id) := Lib.hid (by rw [HAk.out]; rfl)
     clear HAk
     go_upto_region 5 with (go_at_call 115; refine (HR.out V4 HI4.out).mono ?_; rintro e w5 ⟨rfl, hb5⟩)
     have HBx5 := Lib.hid (HBx.out.below hb5 hx4)
     have HB5 := Lib.hid (below_step HB4.out hb5)
     clear z0 z1 z2 z3 z4 z5 z6 y0 y1 y2 y3 y4 y5 y6 y7 y8 y9 y10 y11 y12 hb5
     have y0 : w5.cell? ⟨bx, 0, none⟩ = some (.int .i64 id) := by rw [HBx5.out.cell]; rfl
     go_wp2_with fail
     go_ret
     exact ⟨ret_int HAn.out.symm, below_step HB0.out HB5.out⟩
    | true =>
     go_upto_region 6 with (go_at_call 115; refine (HR.out V4 HI4.out).mono ?_; rintro e w5 ⟨rfl, hb5⟩)
     have HBx5 := Lib.hid (HBx.out.below hb5 hx4)
     have HBc5 := Lib.hid (HBc4.out.below hb5 hb4)
     have HB5 := Lib.hid (below_step HB4.out hb5)
     have HI5 := Lib.hid (HI4.out.on hb5)
     clear z0 z1 z2 z3 z4 z5 z6 y0 y1 y2 y3 y4 y5 y6 y7 y8 y9 y10 y11 y12 hb5 HB4 HI4 HBx HBc4 HR hb4 hx4
     have hb5 := HBc5.out.lt
     have hx5 := HBx5.out.lt
     have z0 : w5.cell? ⟨b, 0, none⟩ = some (.slice Ag gl.length cg) := by rw [HBc5.out.cell]; rfl
     have z1 : w5.cell? ⟨b, 1, none⟩ = some (.slice As ps.length cs) := by rw [HBc5.out.cell]; rfl
     have z2 : w5.cell? ⟨b, 2, none⟩ = some (.string q.nm) := by rw [HBc5.out.cell]; rfl
     have z3 : w5.cell? ⟨b, 3, none⟩ = some (.slice Ap q.params.length cp) := by rw [HBc5.out.cell]; rfl
     have z4 : w5.cell? ⟨b, 4, none⟩ = some (.slice Av q.vars.length cv) := by rw [HBc5.out.cell]; rfl
     have z5 : w5.cell? ⟨b, 5, none⟩ = some (.slice Ab q.body.length cb) := by rw [HBc5.out.cell]; rfl
     have z6 : w5.cell? ⟨b, 6, none⟩ = some (.slice Ae q.end_.length ce) := by rw [HBc5.out.cell]; rfl
     have y11 : w5.cell? ⟨bx, 11, none⟩ = some (.slice T th.length tc) := by rw [HBx5.out.cell]; rfl
     go_upto_region 7 with (go_at_call 77; refine (HT.out w5 HI5.out).mono ?_; rintro e w6 ⟨rfl, hb6⟩)
     have HBx6 := Lib.hid (HBx5.out.below hb6 hx5)
     have HBc6 := Lib.hid (HBc5.out.below hb6 hb5)
     have HB6 := Lib.hid (below_step HB5.out hb6)
     have HI6 := Lib.hid (HI5.out.on hb6)
     clear z0 z1 z2 z3 z4 z5 z6 y11 hb5 hb6 HB5 HI5 HBx5 HBc5 hx5 HT
     by_cases h1 : r1 = 0
     ·subst h1
      have HAn : Hid (fstB (badS gl q ps) (preSL l) = if r2 = 0 then fstB (badS gl q ps) (preSL (l.drop (k + 1))) else r2) := Lib.hid (by rw [HAk.out]; rfl)
      clear HAk
      have z0 : w6.cell? ⟨b, 0, none⟩ = some (.slice Ag gl.length cg) := by rw [HBc6.out.cell]; rfl
      have z1 : w6.cell? ⟨b, 1, none⟩ = some (.slice As ps.length cs) := by rw [HBc6.out.cell]; rfl
      have z2 : w6.cell? ⟨b, 2, none⟩ = some (.string q.nm) := by rw [HBc6.out.cell]; rfl
      have z3 : w6.cell? ⟨b, 3, none⟩ = some (.slice Ap q.params.length cp) := by rw [HBc6.out.cell]; rfl
      have z4 : w6.cell? ⟨b, 4, none⟩ = some (.slice Av q.vars.length cv) := by rw [HBc6.out.cell]; rfl
      have z5 : w6.cell? ⟨b, 5, none⟩ = some (.slice Ab q.body.length cb) := by rw [HBc6.out.cell]; rfl
      have z6 : w6.cell? ⟨b, 6, none⟩ = some (.slice Ae q.end_.length ce) := by rw [HBc6.out.cell]; rfl
      have y12 : w6.cell? ⟨bx, 12, none⟩ = some (.slice U el.length uc) := by rw [HBx6.out.cell]; rfl
      by_cases h2 : r2 = 0
      ·subst h2
       rw [if_pos rfl] at HAn
       go_wp2_with (go_at_call 77; refine (HE.out w6 HI6.out).mono ?_; rintro e w7 ⟨rfl, hb7⟩; have HB7 := Lib.hid (below_step HB6.out hb7); clear hb7)
       go_roundw
       case rel => exact ⟨k + 1, by omega, by go_num, HB7, Lib.hid HAn.out.symm⟩
       case measure => simp [intOf]; omega
      ·rw [if_neg h2] at HAn
       have h2' : (r2 == 0) = false := beq_eq_false_iff_ne.2 h2
       clear h2
       go_wp2_with (go_at_call 77; refine (HE.out w6 HI6.out).mono ?_; rintro e w7 ⟨rfl, hb7⟩; have HB7 := Lib.hid (below_step HB6.out hb7); clear hb7)
       go_ret
       exact ⟨ret_int HAn.out.symm, below_step HB0.out HB7.out⟩
     ·have HAn : Hid (fstB (badS gl q ps) (preSL l) = r1) := Lib.hid (by rw [HAk.out, if_neg h1]; rfl)
      have h1' : (r1 == 0) = false := beq_eq_false_iff_ne.2 h1
      clear h1 HAk
      go_wp2_with fail
      go_ret
      exact ⟨ret_int HAn.out.symm, below_step HB0.out HB6.out⟩
   ·have HAe : Hid (fstB (badS gl q ps) (preSL l) = 0) := Lib.hid (by rw [← HA.out, List.drop_of_length_le (by omega), preSL]; rfl)
    go_wp2_with fail
    go_ret
    exact ⟨ret_int HAe.out.symm, below_step HB0.out HBr.out⟩
end Go.Proofs.Ytnnblklbjbkikaa
namespace Go.Proofs.Ytnnblklbjbkikaa
open Go.ChangeShapes Go.WideShapes Go.ChangeAt Go.RowKit Go.Deep
set_option linter.unusedVariables false
set_option linter.unusedSimpArgs false
set_option maxHeartbeats 1000000 in
theorem IndexV_any {w W : World} {Q : Nat → Prop} {l : List Pr} {v : Value} (h : SliceI w Q 5 (ProcI w Q) l v) (hI : In Q w W) (s : ByteArray) (b : Nat) (hb : W.cell? ⟨b, 4, none⟩ = some (.string s)) :
  Calls Try.prog 117 #[v, .func (.func 122) #[] #[.pointer (some ⟨b, 0, none⟩)]] W fun e w' => e = .returned (.int .i64 (idxL (isQ s) l 0)) ∧ Below W.heap.size W w' := by
 obtain ⟨A, cap, rfl, hl1, hl2⟩ := h.shape
 have H := Lib.hid h
 have HI := Lib.hid hI
 have HB := Lib.hid hb
 clear h hI hb
 go_enter Try.func117, Try.ntmps117
 go_wp2_with fail
 go_loopg [8] l.length (fun kk i wr => ∃ k : Nat, k + kk = l.length ∧ i = .int .i64 k ∧ Hid (idxL (isQ s) (l.drop k) k = idxL (isQ s) l 0) ∧ Hid (Below W.heap.size W wr))
 case atStart => exact ⟨0, by omega, rfl, Lib.hid (by rw [List.drop_zero]), Lib.hid (Below.refl _ _)⟩
 case round =>
  obtain ⟨k, hk, rfl, HW, HR⟩ := hrel
  by_cases hlt : k < l.length
  ·obtain ⟨a, Cp, kp, Cv, kv, Cb, kb, Ce, ke, rfl, _, ⟨p0, p1, p2, p3, p4, _⟩, _⟩ := proc_at H.out (HI.out.on HR.out) hlt
   have HD := Lib.hid (idxL_drop (f := isQ s) hlt)
   rw [HW.out] at HD
   have hv : isQ s l[k] = (l[k].nm.toList == s.toList) := (dec_bytes _ _).symm
   generalize l[k] = y at p0 p1 p2 p3 p4 HD hv
   obtain ⟨yn, yp, yv, yb, ye⟩ := y
   simp only at p0 p1 p2 p3 p4 hv
   have q0 : wr.cell? ⟨b, 4, none⟩ = some (.string s) := (HR.out.cell (p := ⟨b, 4, none⟩) (World.block_lt_of_cell? W _ HB.out)).trans HB.out
   have hbl := World.block_lt_of_cell? wr _ q0
   cases hb : isQ s ⟨yn, yp, yv, yb, ye⟩ with
   | true =>
    rw [hb, if_pos rfl] at HD
    have hv2 : (yn.toList == s.toList) = true := by rw [← hv]; exact hb
    clear hv hb
    go_wp2_with (go_at_call 122; go_in)
    go_ret
    exact ⟨ret_int HD.out.symm, below_step HR.out (below_box _)⟩
   | false =>
    rw [hb, if_neg (by simp)] at HD
    have hv2 : (yn.toList == s.toList) = false := by rw [← hv]; exact hb
    clear hv hb
    go_wp2_with (go_at_call 122; go_in)
    go_roundg (l.length - k - 1)
    case measure => omega
    case rel => exact ⟨k + 1, by omega, by go_num, Lib.hid HD.out.symm, Lib.hid (below_step HR.out (below_box _))⟩
  ·have HD : Hid (idxL (isQ s) l 0 = -1) := Lib.hid (by rw [← HW.out, List.drop_of_length_le (by omega), idxL])
   go_wp2_with fail
   go_ret
   exact ⟨ret_int HD.out.symm, HR.out⟩
def tks (ps : List Pa) (l : List Ar) : Bool := decide (ps.map Pa.ref = l.map Ar.ref)
set_option maxHeartbeats 2000000 in
theorem EqualV_any {w W : World} {Q : Nat → Prop} {ps : List Pa} {l : List Ar} {v u : Value} (h : SliceI w Q 2 ParI ps v) (k : SliceI w Q 6 (ArgI w Q) l u) (hI : In Q w W) :
 Calls Try.prog 123 #[v, u, .func (.func 124) #[] #[]] W (MayOk (tks ps l) W) := by
 obtain ⟨A, k1, rfl, hlc1, hc1⟩ := h.shape
 obtain ⟨B, k2, rfl, hlc2, hc2⟩ := k.shape
 have H1 := Lib.hid h
 have H2 := Lib.hid k
 have HI := Lib.hid hI
 clear h k hI
 cases hl : (((ps.length : Nat) : Int) == ((l.length : Nat) : Int)) with
 | false =>
  have hne : ps.length ≠ l.length := by intro e; rw [e] at hl; simp at hl
  have HM : Hid (tks ps l = false) := Lib.hid (decide_eq_false (fun e => hne (by have := congrArg List.length e; simpa using this)))
  have hb : (((ps.length : Nat) : Int) != ((l.length : Nat) : Int)) = true := by rw [bne, hl]; rfl
  clear hl hne
  go_enter Try.func123, Try.ntmps123
  go_wp2_with fail
  go_ret
  exact ⟨ret_bool HM.out.symm, Below.refl _ _⟩
 | true =>
  have heq : ps.length = l.length := by have := eq_of_beq hl; omega
  have hb : (((ps.length : Nat) : Int) != ((l.length : Nat) : Int)) = false := by rw [bne, hl]; rfl
  have he1 : ps.length ≤ l.length := by omega
  have he2 : l.length ≤ ps.length := by omega
  clear hl heq
  go_enter Try.func123, Try.ntmps123
  go_wp2_with fail
  go_loopw [17] (fun i wr => ∃ k : Nat, k ≤ ps.length ∧ i = .int .i64 k ∧ Hid ((ps.map Pa.ref).take k = (l.map Ar.ref).take k) ∧ Hid (Below W.heap.size W wr)) (fun i _ => ps.length - (intOf i).toNat)
  case atStart => exact ⟨0, Nat.zero_le _, rfl, Lib.hid (by simp), Lib.hid (Below.refl _ _)⟩
  case round =>
   obtain ⟨k, hk, rfl, HT, HR⟩ := hrel
   by_cases hlt : k < ps.length
   ·have hk2 : k < l.length := by omega
    have hk3 : (k : Int) < (l.length : Int) := by omega
    obtain ⟨a1, rfl, _, ⟨p0, p1, _⟩, _⟩ := par_at H1.out (HI.out.on HR.out) hlt
    have hm1 : k < (ps.map Pa.ref).length := by simpa using hlt
    have hm2 : k < (l.map Ar.ref).length := by simpa using hk2
    have HSt : Hid (ps[k].ref = l[k].ref → (ps.map Pa.ref).take (k + 1) = (l.map Ar.ref).take (k + 1)) := Lib.hid (fun e => take_eq_step hm1 hm2 HT.out (by simpa using e))
    have HNe : Hid (ps[k].ref ≠ l[k].ref → tks ps l = false) := Lib.hid (fun e => decide_eq_false (ne_of_at hm1 hm2 (by simpa using e)))
    generalize ps[k] = x at p0 p1 HSt HNe
    obtain ⟨xn, xr⟩ := x
    simp only at p0 p1 HSt HNe
    have HIr := Lib.hid (HI.out.on HR.out)
    go_upto_region 6 with fail
    have HBx : Hid (Blk (wr.alloc (.cells #[.string xn, .bool xr] 65)) wr.heap.size 65 #[.string xn, .bool xr]) := Lib.hid (Blk.new _ _ _)
    have HB4 : Hid (Below W.heap.size W (wr.alloc (.cells #[.string xn, .bool xr] 65))) := Lib.hid (below_stepA HR.out _)
    have HI4 : Hid (In Q w (wr.alloc (.cells #[.string xn, .bool xr] 65))) := Lib.hid (HIr.out.alloc _)
    clear p0 p1
    generalize World.alloc wr _ = V4 at HBx HB4 HI4 ⊢
    generalize wr.heap.size = bx at HBx ⊢
    obtain ⟨a2, o1, n1, s1, A1, l1, c1, rfl, _, ⟨r0, r1, r2, r3, r4, r5, _⟩, _, _⟩ := arg_at H2.out HI4.out hk2
    generalize l[k] = y at r0 r1 HSt HNe
    obtain ⟨yr, yn, yx⟩ := y
    simp only at r0 r1 HSt HNe
    go_upto_region 7 with fail
    have HBy : Hid (Blk (V4.alloc (.cells #[.bool yr, .string yn, .int .i64 o1, .int .i64 n1, .string s1, .slice A1 l1 c1] 72)) V4.heap.size 72 #[.bool yr, .string yn, .int .i64 o1, .int .i64 n1, .string s1, .slice A1 l1 c1]) := Lib.hid (Blk.new _ _ _)
    have HB5 : Hid (Below W.heap.size W (V4.alloc (.cells #[.bool yr, .string yn, .int .i64 o1, .int .i64 n1, .string s1, .slice A1 l1 c1] 72))) := Lib.hid (below_stepA HB4.out _)
    have HBx5 : Hid (Blk (V4.alloc (.cells #[.bool yr, .string yn, .int .i64 o1, .int .i64 n1, .string s1, .slice A1 l1 c1] 72)) bx 65 #[.string xn, .bool xr]) := Lib.hid (HBx.out.alloc _)
    clear r0 r1 r2 r3 r4 r5 HI4 HB4 HBx
    generalize World.alloc V4 _ = V5 at HBy HB5 HBx5 ⊢
    generalize V4.heap.size = by_ at HBy ⊢
    have z0 : V5.cell? ⟨bx, 0, none⟩ = some (.string xn) := by rw [HBx5.out.cell]; rfl
    have z1 : V5.cell? ⟨bx, 1, none⟩ = some (.bool xr) := by rw [HBx5.out.cell]; rfl
    have y0_ : V5.cell? ⟨by_, 0, none⟩ = some (.bool yr) := by rw [HBy.out.cell]; rfl
    have y1_ : V5.cell? ⟨by_, 1, none⟩ = some (.string yn) := by rw [HBy.out.cell]; rfl
    have y2_ : V5.cell? ⟨by_, 2, none⟩ = some (.int .i64 o1) := by rw [HBy.out.cell]; rfl
    have y3_ : V5.cell? ⟨by_, 3, none⟩ = some (.int .i64 n1) := by rw [HBy.out.cell]; rfl
    have y4_ : V5.cell? ⟨by_, 4, none⟩ = some (.string s1) := by rw [HBy.out.cell]; rfl
    have y5_ : V5.cell? ⟨by_, 5, none⟩ = some (.slice A1 l1 c1) := by rw [HBy.out.cell]; rfl
    clear hm1 hm2
    by_cases hr : xr = yr
    ·subst hr
     have HS2 := Lib.hid (HSt.out rfl)
     have hrr : (xr == xr) = true := by cases xr <;> rfl
     clear HSt HNe
     cases xr
     all_goals
      go_wp2_with (go_at_call 124; go_in)
      go_roundw
      case rel => exact ⟨k + 1, by omega, by go_num, HS2, Lib.hid (below_stepA (below_stepA HB5.out _) _)⟩
      case measure => simp [intOf]; omega
    ·have HN2 := Lib.hid (HNe.out hr)
     clear HSt HNe
     cases xr
     all_goals
      cases yr
      all_goals first
       | exact absurd rfl hr
       | (clear hr
          go_wp2_with (go_at_call 124; go_in)
          go_ret
          exact ⟨ret_bool HN2.out.symm, below_stepA (below_stepA HB5.out _) _⟩)
   ·have HN : Hid (tks ps l = true) := Lib.hid (by
     have := HT.out
     rw [List.take_of_length_le (by simp; omega), List.take_of_length_le (by simp; omega)] at this
     exact decide_eq_true this)
    go_wp2_with fail
    go_ret
    exact ⟨ret_bool HN.out.symm, HR.out⟩
end Go.Proofs.Ytnnblklbjbkikaa
namespace Go.Proofs.Ytnnblklbjbkikaa
open Go.ChangeShapes Go.WideShapes Go.ChangeAt Go.RowKit Go.Deep
set_option linter.unusedVariables false
set_option linter.unusedSimpArgs false
def fitsB (l : List Pr) (s : S) : Bool := s.kind == 4 && (l.find? (isQ s.proc)).elim false (fun q => tks q.params s.args)
set_option maxHeartbeats 4000000 in
set_option maxRecDepth 100000 in
theorem fitsOne_any {w W : World} {Q : Nat → Prop} {l : List Pr} {v : Value} {s : S} {cs : List Value} (h : SliceI w Q 5 (ProcI w Q) l v) (hs : StmtI w Q s cs) (hI : In Q w W) :
 Calls Try.prog 89 #[v, .agg cs.toArray] W (MayOk (fitsB l s) W) := by
 obtain ⟨id, kind, labels, nm, proc, x, has, args, th, el, L, lc, y0, y1, y2, X, xn, xc, R, rc, T, tc, U, uc, rfl, rfl, hid, hkind, hnm, hproc, hl, hx, ha, hth, hel⟩ := stmt_open hs
 obtain ⟨A, cap, rfl, hl1, hl2⟩ := h.shape
 have H := Lib.hid h
 have HA := Lib.hid ha
 have HI := Lib.hid hI
 have HF : Hid (fitsB l (.mk id kind labels nm proc x has args th el) = (kind == 4 && (l.find? (isQ proc)).elim false (fun q => tks q.params args))) := Lib.hid rfl
 have HX := Lib.hid (fun V hV b hb => IndexV_any (W := V) h hV proc b hb)
 have hfd := idxL_get (isQ proc) l 0
 obtain ⟨_, ha1, ha2, _⟩ := slice_len ha
 have hkb := hkind
 unfold i64 at hkb
 clear h hs hI hid hkind hnm hproc hl hx ha hth hel
 generalize idxL (isQ proc) l 0 = z at HX hfd
 simp only [List.toArray]
 go_enter Try.func89, Try.ntmps89
 go_upto_region 1 with fail
 have HBs : Hid (Blk (W.alloc (.cells #[.int .i64 id, .int .i64 kind, .slice L labels.length lc, .string nm, .string proc, .int .i64 y0, .int .i64 y1, .string y2, .slice X xn xc, .bool has, .slice R args.length rc, .slice T th.length tc, .slice U el.length uc] 55)) W.heap.size 55 #[.int .i64 id, .int .i64 kind, .slice L labels.length lc, .string nm, .string proc, .int .i64 y0, .int .i64 y1, .string y2, .slice X xn xc, .bool has, .slice R args.length rc, .slice T th.length tc, .slice U el.length uc]) := Lib.hid (Blk.new _ _ _)
 have HB0 : Hid (Below W.heap.size W (W.alloc (.cells #[.int .i64 id, .int .i64 kind, .slice L labels.length lc, .string nm, .string proc, .int .i64 y0, .int .i64 y1, .string y2, .slice X xn xc, .bool has, .slice R args.length rc, .slice T th.length tc, .slice U el.length uc] 55))) := Lib.hid (below_box _)
 generalize World.alloc _ _ = V at HBs HB0 ⊢
 generalize hbe : W.heap.size = b at HBs ⊢
 clear hbe
 have HI0 := Lib.hid (HI.out.on HB0.out)
 have q1 : V.cell? ⟨b, 1, none⟩ = some (.int .i64 kind) := by rw [HBs.out.cell]; rfl
 have q4 : V.cell? ⟨b, 4, none⟩ = some (.string proc) := by rw [HBs.out.cell]; rfl
 have hbl := HBs.out.lt
 by_cases hk : kind = 4
 ·subst hk
  go_upto_region 4 with (go_at_call 117; refine (HX.out V HI0.out _ q4).mono ?_; rintro e w1 ⟨rfl, hb1⟩)
  have HB1 := Lib.hid (below_step HB0.out hb1)
  have HI1 := Lib.hid (HI0.out.on hb1)
  have HBs1 := Lib.hid (HBs.out.below hb1 hbl)
  clear q1 q4 hbl hb1 HX
  have q10 : w1.cell? ⟨b, 10, none⟩ = some (.slice R args.length rc) := by rw [HBs1.out.cell]; rfl
  have hbl := HBs1.out.lt
  rcases hfd with ⟨rfl, hf⟩ | ⟨j, hj, rfl, _, hf⟩
  ·have HF2 : Hid (fitsB l (.mk id 4 labels nm proc x has args th el) = false) := Lib.hid (by rw [HF.out, hf]; rfl)
   clear HF hf
   go_quiet (fail)
   go_wp2_with fail
   go_ret
   exact ⟨ret_bool HF2.out.symm, below_drewN HB1.out _⟩
  ·rw [Nat.zero_add]
   obtain ⟨a, Bp, kp, Bv, kv, Bb, kb, Be, ke, rfl, hqa, ⟨p0, p1, p2, p3, p4, _⟩, hnm, hpp, hvv, hbody, hee⟩ := proc_at H.out HI1.out hj
   have HF2 : Hid (fitsB l (.mk id 4 labels nm proc x has args th el) = tks l[j].params args) := Lib.hid (by rw [HF.out, hf]; rfl)
   have HC := Lib.hid (fun V hV => EqualV_any (W := V) hpp HA.out hV)
   have HQa : Hid (Q (a.add (j * 5)).block) := Lib.hid (by rw [block_add]; exact hqa)
   clear HF hf hqa hnm hpp hvv hbody hee p0 p2 p3 p4
   generalize tks l[j].params args = r at HC HF2
   generalize l[j].params.length = x1 at p1 HC
   have h0j : (0 : Int) ≤ (j : Int) := by omega
   have hdj : decide ((0 : Int) ≤ (j : Int)) = true := decide_eq_true h0j
   have hdr : ∀ V : World, In Q w V → In Q w V.drew := fun V h => h
   have hBD : Below w1.heap.size w1 w1.drew := (Below.refl _ _).drew
   go_region_held3 (fun w' : World => w'.cell? ⟨b, 10, none⟩ = some (.slice R args.length rc) ∧ w'.cell? ⟨(a.add (j * 5)).block, (a.add (j * 5)).off + 1, none⟩ = some (.slice Bp x1 kp))
    (go_keep)
    ((go_at_call 123; refine (HC.out _ (hdr _ HI1.out)).mono ?_; rintro e' w2 ⟨rfl, hb2⟩; have hb2' := hBD.trans hb2; have HI2 := Lib.hid (HI1.out.on hb2'); have k0 := (hb2'.cell (p := ⟨b, 10, none⟩) hbl).trans q10; have r1 := (HI2.out.cell (p := ⟨(a.add (j * 5)).block, (a.add (j * 5)).off + 1, none⟩) HQa.out).trans ((HI1.out.cell (p := ⟨(a.add (j * 5)).block, (a.add (j * 5)).off + 1, none⟩) HQa.out).symm.trans p1)))
   go_wp2_with fail
   go_ret
   exact ⟨by rw [HF2.out]; rfl, below_step HB1.out hb2'⟩
 ·have hk1 : (kind == 4) = false := beq_eq_false_iff_ne.2 hk
  have hk2 : (kind != 4) = true := by simp [bne, hk1]
  have HF2 : Hid (fitsB l (.mk id kind labels nm proc x has args th el) = false) := Lib.hid (by rw [HF.out, hk1]; rfl)
  clear hk HF
  go_wp2_with fail
  go_ret
  exact ⟨ret_bool HF2.out.symm, HB0.out⟩
end Go.Proofs.Ytnnblklbjbkikaa
namespace Go.Proofs.Ytnnblklbjbkikaa
open Go
set_option linter.unusedVariables false
section
variable {P : Program} {md : Region.Mode} {ops : Array Oper} {Q : Exit → Act → World → Prop} {S : World → Prop} {z : Nat}
/-- as wpAnyH, but behind z nothing is asked of the world -/
def wpAnyL (P : Program) (md : Region.Mode) (ops : Array Oper) (Q : Exit → Act → World → Prop) (S : World → Prop) (z : Nat) : Nat → Array Bool → Act → World → Prop
  | 0, listed, a, w => Region.ready md ops listed = [] ∧ Q .normal a w
  | fuel + 1, listed, a, w =>
    (Region.ready md ops listed = [] → Q .normal a w) ∧
    ∀ i ∈ Region.ready md ops listed, wpOp P ops Q i (fun a' w' => (i ≠ z → S w') ∧ wpAnyL P md ops Q S z fuel (listed.setIfInBounds i true) a' w') a w
theorem wpAny_of_last : ∀ (fuel : Nat) (listed : Array Bool) (a : Act) (w : World), wpAnyL P md ops Q S z fuel listed a w → wpAny P md ops Q fuel listed a w
  | 0, _, _, _, h => h
  | fuel + 1, _, _, _, h => ⟨h.1, fun i hi => wpOp_mono (fun a' w' h' => wpAny_of_last fuel _ a' w' h'.2) (h.2 i hi)⟩
/-- the last one waits for every other -/
def waitsAll (md : Region.Mode) (ops : Array Oper) (z : Nat) : Bool := (List.range ops.size).all fun i => i == z || ((ops[z]?).map (·.after.any fun e => Region.binds md e && e.on == i)).getD false
theorem waits_spec (h : waitsAll md ops z = true) {i : Nat} (hi : i < ops.size) (hne : i ≠ z) : ∃ oz, ops[z]? = some oz ∧ ∃ e ∈ oz.after, Region.binds md e = true ∧ e.on = i := by
  have h1 := List.all_eq_true.1 h i (List.mem_range.2 hi)
  rw [Bool.or_eq_true] at h1
  rcases h1 with h1 | h1
  · exact absurd (by simpa using h1) hne
  · cases hz : ops[z]? with
    | none => rw [hz] at h1; cases h1
    | some oz =>
      rw [hz] at h1
      simp only [Option.map_some, Option.getD_some, Array.any_eq_true, Bool.and_eq_true, beq_iff_eq] at h1
      obtain ⟨k, hk, h2, h3⟩ := h1
      exact ⟨oz, rfl, _, Array.getElem_mem hk, h2, h3⟩
theorem lastTake {i : Nat} {oi : Oper} {v : Value} (hi : ops[i]? = some oi) (hz : waitsAll md ops z = true) (hiz : i ≠ z) (hsel : ∀ (j : Nat) (o : Oper) cs b, ops[j]? = some o → o.op ≠ .select cs b)
    (hQ : ∀ c a w, Q (.panic c) (a.put oi.dst v) w → Q (.panic c) a w) :
    ∀ (fuel : Nat) (listed : Array Bool) (a : Act) (w : World),
      (∀ j oj, ops[j]? = some oj → j ≠ i → listed.getD j true = false → (∀ e ∈ oj.after, Region.binds md e = true → e.on ≠ i) → oi.apart ops oj = true) →
      i ∈ Region.ready md ops listed → YieldsIf P ops S oi v a → S w →
      wpAnyL P md ops Q S z fuel (listed.setIfInBounds i true) (a.put oi.dst v) w → wpAnyL P md ops Q S z (fuel + 1) listed a w := by
  have hlt : i < ops.size := (Array.getElem?_eq_some_iff.1 hi).1
  -- one that may come up beside i does not wait for it
  have key : ∀ (listed : Array Bool) (j : Nat), i ∈ Region.ready md ops listed → j ∈ Region.ready md ops listed → j ≠ i → ∃ oj, ops[j]? = some oj ∧ listed.getD j true = false ∧ ∀ e ∈ oj.after, Region.binds md e = true → e.on ≠ i := by
    intro listed j hr hj hji
    obtain ⟨hjun, oj, hoj, hall⟩ := mem_ready.1 hj
    refine ⟨oj, hoj, hjun, fun e he hb heq => ?_⟩
    have h1 := hall e he hb
    have h0 := (mem_ready.1 hr).1
    rw [heq] at h1
    rcases Nat.lt_or_ge i listed.size with h' | h'
    · simp [h'] at h0 h1; rw [h0] at h1; cases h1
    · simp [Array.getElem?_eq_none h'] at h1
  intro fuel
  induction fuel with
  | zero =>
    intro listed a w _ hr hy hS H
    refine ⟨fun h => (by rw [h] at hr; cases hr), fun j hj => ?_⟩
    by_cases hji : j = i
    · subst hji; exact hy.wpOp hi hS ⟨fun _ => hS, H⟩
    · have := ready_mono hj hji
      rw [H.1] at this
      cases this
  | succ fuel ih =>
    intro listed a w hfree hr hy hS H
    refine ⟨fun h => (by rw [h] at hr; cases hr), fun j hj => ?_⟩
    by_cases hji : j = i
    · subst hji; exact hy.wpOp hi hS ⟨fun _ => hS, H⟩
    · obtain ⟨oj, hoj, hjun, hnot⟩ := key listed j hr hj hji
      have hjz : j ≠ z := by
        rintro rfl
        obtain ⟨oz, hoz, e, he, hb, heq⟩ := waits_spec hz hlt hiz
        rw [hoj] at hoz
        injection hoz with hoz
        subst hoz
        exact hnot e he hb heq
      have h2 := wpOp_putIf hoj (hfree j oj hoj hji hjun hnot) (fun cs b => hsel i oi cs b hi) (fun cs b => hsel j oj cs b hoj) hQ hy (H.2 j (ready_mono hj hji))
      refine wpOp_mono (fun a' w' h3 => ⟨h3.2.1, ih (listed.setIfInBounds j true) a' w' (fun k ok hk hki hun hno => hfree k ok hk hki ?_ hno) (ready_mono hr (Ne.symm hji)) h3.1 (h3.2.1 hjz) ?_⟩) h2
      · by_cases hjk : j = k
        · subst hjk; exact hjun
        · rw [getD_set_ne true hjk] at hun; exact hun
      · rw [Array.setIfInBounds_comm _ _ hji]
        exact h3.2.2
theorem wpAnyL_take {i : Nat} {oi : Oper} {v : Value} {fuel : Nat} {listed : Array Bool} {a : Act} {w : World} (hi : ops[i]? = some oi) (hz : waitsAll md ops z = true) (hiz : i ≠ z)
    (hs : Region.noSelect ops = true) (hf : Region.free md ops listed i = true) (hr : (Region.ready md ops listed).contains i = true)
    (hQ : ∀ c a w, Q (.panic c) (a.put oi.dst v) w → Q (.panic c) a w) (hy : YieldsIf P ops S oi v a) (hS : S w)
    (h : wpAnyL P md ops Q S z fuel (listed.setIfInBounds i true) (a.put oi.dst v) w) : wpAnyL P md ops Q S z (fuel + 1) listed a w :=
  lastTake hi hz hiz (Region.noSelect_spec hs) hQ fuel listed a w (Region.free_spec hi hf) (by simpa using hr) hy hS h
/-- one alone may come up -/
theorem wpAnyL_one {i : Nat} {fuel : Nat} {listed : Array Bool} {a : Act} {w : World} (hr : Region.ready md ops listed = [i])
    (h : wpOp P ops Q i (fun a' w' => (i ≠ z → S w') ∧ wpAnyL P md ops Q S z fuel (listed.setIfInBounds i true) a' w') a w) : wpAnyL P md ops Q S z (fuel + 1) listed a w :=
  ⟨fun h0 => absurd (hr.symm.trans h0) (by simp), fun j hj => by rw [hr] at hj; rw [List.mem_singleton.1 hj]; exact h⟩
theorem wpAnyL_step {i : Nat} {o : Oper} {fuel : Nat} {listed : Array Bool} {a : Act} {w : World} (hr : Region.ready md ops listed = [i]) (ho : ops[i]? = some o)
    (h : ∀ K' : Act → World → Prop, Shut (∀ a w, (i ≠ z → S w) → wpAnyL P md ops Q S z fuel (listed.setIfInBounds i true) a w → K' a w) → if Region.wanted o (yielded ops a.tmps) = true then Oper.wp P o a w K' Q else K' (a.put o.dst undef) w) : wpAnyL P md ops Q S z (fuel + 1) listed a w :=
  wpAnyL_one hr (wpOp_step ho (fun K' hK => h K' (fun a w h1 h2 => hK a w ⟨h1, h2⟩)))
theorem wpAnyL_done {listed : Array Bool} {a : Act} {w : World} (hr : Region.ready md ops listed = []) (h : Q .normal a w) : ∀ fuel, wpAnyL P md ops Q S z fuel listed a w
  | 0 => ⟨hr, h⟩
  | _ + 1 => ⟨fun _ => h, by rw [hr]; simp⟩
theorem wp_region_last {id : Nat} {a : Act} {w : World} (S : World → Prop) (z : Nat) (hm : P.follows .mixedOrders = true)
    (h : wpAnyL P .any ops Q S z ops.size (Array.replicate ops.size false) a { w with drawn := w.drawn + 1 }) : (Code.region id ops true).wp P Q a w :=
  wp_region_any hm (wpAny_of_last _ _ _ _ h)
end
end Go.Proofs.Ytnnblklbjbkikaa
