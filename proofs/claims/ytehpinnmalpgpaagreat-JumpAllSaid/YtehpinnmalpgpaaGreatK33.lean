/- Texts, merged by a program; only what is used. -/
import Derived.Test.YtehpinnmalpgpaaGreatK1
import Derived.Test.YtehpinnmalpgpaaGreatK2
import Derived.Test.YtehpinnmalpgpaaGreatK3
import Derived.Test.YtehpinnmalpgpaaGreatK4
import Derived.Test.YtehpinnmalpgpaaGreatK5
import Derived.Test.YtehpinnmalpgpaaGreatK6
import Derived.Test.YtehpinnmalpgpaaGreatK7
import Derived.Test.YtehpinnmalpgpaaGreatK8
import Derived.Test.YtehpinnmalpgpaaGreatK9
import Derived.Test.YtehpinnmalpgpaaGreatK10
import Derived.Test.YtehpinnmalpgpaaGreatK11
import Derived.Test.YtehpinnmalpgpaaGreatK12
import Derived.Test.YtehpinnmalpgpaaGreatK13
import Derived.Test.YtehpinnmalpgpaaGreatK14
import Derived.Test.YtehpinnmalpgpaaGreatK15
import Derived.Test.YtehpinnmalpgpaaGreatK16
import Derived.Test.YtehpinnmalpgpaaGreatK17
import Derived.Test.YtehpinnmalpgpaaGreatK18
import Derived.Test.YtehpinnmalpgpaaGreatK19
import Derived.Test.YtehpinnmalpgpaaGreatK20
import Derived.Test.YtehpinnmalpgpaaGreatK21
import Derived.Test.YtehpinnmalpgpaaGreatK22
import Derived.Test.YtehpinnmalpgpaaGreatK23
import Derived.Test.YtehpinnmalpgpaaGreatK24
import Derived.Test.YtehpinnmalpgpaaGreatK25
import Derived.Test.YtehpinnmalpgpaaGreatK26
import Derived.Test.YtehpinnmalpgpaaGreatK27
import Derived.Test.YtehpinnmalpgpaaGreatK28
import Derived.Test.YtehpinnmalpgpaaGreatK29
import Derived.Test.YtehpinnmalpgpaaGreatK30
import Derived.Test.YtehpinnmalpgpaaGreatK31
import Derived.Test.YtehpinnmalpgpaaGreatK32
namespace Go.Proofs.YtehpinnmalpgpaaGreat
open Go.ChangeShapes Go.WideShapes Go.ChangeAt Go.RowKit Go.Deep
set_option linter.unusedVariables false
set_option linter.unusedSimpArgs false
theorem it_map (q : Pr) : (itQ q).map (fun x => x.1.s) = preSL q.body := by
 have h3 := itL_lp q.body 1 0 false 0
 rw [← lpSL_fst q.body 0, ← h3, List.map_map]
 rfl
theorem prOk_pos : ∀ (l : List Pr) (c c' : Nat), prOk l c = some c' → ∀ q ∈ l, ∃ d : Nat, ∀ j (hj : j < (itQ q).length), (itQ q)[j].1.s.id = ((d + 1 + j : Nat) : Int)
 | [], c, c', h => fun q hq => by cases hq
 | q :: l, c, c', h => by
  rw [prOk] at h
  split at h
  ·cases h1 : blkOk q.body 1 c with
   | none => rw [h1] at h; simp at h
   | some c1 =>
    rw [h1] at h
    simp only [Option.bind_some] at h
    obtain ⟨a1, a2, a3⟩ := flatL_pre q.body 1 c c1 h1
    intro y hy
    rcases List.mem_cons.1 hy with rfl | hy
    ·refine ⟨c, fun j hj => ?_⟩
     have hj2 : j < (preSL y.body).length := by rw [← it_map, List.length_map]; exact hj
     rw [← a2 j hj2]
     simp only [← it_map, List.getElem_map]
    ·exact prOk_pos l c1 c' h y hy
  ·cases h
theorem may_pos {p : Pg} (h : mayP p = true) {q : Pr} (hq : q ∈ p.procs) : ∃ d : Nat, ∀ j (hj : j < (itQ q).length), (itQ q)[j].1.s.id = ((d + 1 + j : Nat) : Int) := by
 unfold mayP at h
 rw [Bool.and_eq_true] at h
 cases h3 : prOk p.procs 0 with
 | none => rw [h3] at h; cases h.2
 | some c => exact prOk_pos p.procs 0 c h3 q hq
theorem lab_it {q : Pr} (h : (flatOf q).map It.s = preSL q.body) : itLb (flatOf q) = labsOf (preSL q.body) := by
 unfold itLb labsOf
 rw [← h, List.flatMap_map]
mutual
theorem labsS_w : ∀ s : S, (labsOf (preS s)).length ≤ wS s
 | .mk id kind labels nm proc x has args th el => by
  have h1 := labsSL_w th
  have h2 := labsSL_w el
  have h3 := wT_len labels
  unfold labsOf at h1 h2 ⊢
  rw [preS, wS, List.flatMap_cons, List.flatMap_append, List.length_append, List.length_append]
  show labels.length + _ ≤ _
  omega
theorem labsSL_w : ∀ l : List S, (labsOf (preSL l)).length ≤ wSL l
 | [] => by rw [preSL, wSL]; exact Nat.le_refl _
 | s :: l => by
  have h1 := labsS_w s
  have h2 := labsSL_w l
  unfold labsOf at h1 h2 ⊢
  rw [preSL, wSL, List.flatMap_append, List.length_append]
  omega
end
theorem ck_ok {p : Pg} (hc : chkOK p = true) : ChOk p := chk_ok (of_decide_eq_true hc)
theorem lbOk_of {p : Pg} (hf : fitsP p = true) : LbOk p := fun hc q hq => by
 unfold fitsP weighP at hf
 have h0 := of_decide_eq_true hf
 obtain ⟨_, h2⟩ := weighQs_full p.procs _ h0
 obtain ⟨a, b, c, d⟩ := h2 q hq
 rw [lab_it ((may_flat (ck_ok hc).may).1 q hq).1]
 have h3 := labsSL_w q.body
 have h4 := wT_len q.end_
 omega
theorem dupL_app : ∀ (a p b : List ByteArray), dupL p (a ++ b) = (dupL p a || dupL (p ++ a) b)
 | [], p, b => by rw [List.nil_append, List.append_nil]; simp [dupL]
 | x :: a, p, b => by rw [List.cons_append, dupL, dupL, dupL_app a (p ++ [x]) b, Bool.or_assoc, List.append_assoc]; rfl
theorem dup_app {a b : List ByteArray} (ha : a.Nodup) : dup (a ++ b) = dupF (setF a) b := by
 unfold dup
 rw [dupL_app, dupF_set, List.nil_append]
 have : dupL [] a = false := (dupL_nodup List.nodup_nil).2 (by simpa using ha)
 rw [this]; rfl
theorem rjB_wr {its : List It} {lb acc : List ByteArray} {x : It × Int} (ha : acc.Nodup) (hx : aroundD its x.1.s.id = (x.2, x.2 != 0)) : rjB its lb acc x.1 = wrS (setF lb) acc (sndI x) := by
 unfold rjB wrS landsB
 rw [dup_app ha, hx]
 show ((dupF (setF acc) x.1.s.labels || ((x.1.s.kind == 7 || x.1.s.kind == 8) && !(x.2 != 0))) || (x.1.s.kind == 10 && !lb.any (isT x.1.s.nm))) = (dupF (setF acc) x.1.s.labels || !(if x.1.s.kind = 7 ∨ x.1.s.kind = 8 then x.2 != 0 else if x.1.s.kind = 10 then lb.any (isT x.1.s.nm) else true))
 generalize dupF (setF acc) x.1.s.labels = d
 generalize x.1.s.kind = k
 generalize (x.2 != 0) = z
 generalize lb.any (isT x.1.s.nm) = m
 by_cases h7 : k = 7
 ·subst h7; cases d <;> cases z <;> cases m <;> simp
 ·by_cases h8 : k = 8
  ·subst h8; cases d <;> cases z <;> cases m <;> simp
  ·by_cases h10 : k = 10
   ·subst h10; cases d <;> cases z <;> cases m <;> simp
   ·cases d <;> cases z <;> cases m <;> simp [h7, h8, h10]
theorem rjL_wr {its : List It} {lb : List ByteArray} : ∀ (L : List (It × Int)) (acc : List ByteArray), acc.Nodup → (∀ x ∈ L, aroundD its x.1.s.id = (x.2, x.2 != 0)) → rjL its lb acc (L.map Prod.fst) = wrL (setF lb) acc (L.map sndI)
 | [], acc, _, _ => rfl
 | x :: L, acc, ha, h => by
  rw [List.map_cons, List.map_cons, rjL, wrL, rjB_wr ha (h x (List.mem_cons_self ..))]
  by_cases hw : wrS (setF lb) acc (sndI x) = true
  ·rw [if_pos hw, if_pos hw]; rfl
  ·rw [if_neg hw, if_neg hw]
   have hw2 : wrS (setF lb) acc (sndI x) = false := by simpa using hw
   unfold wrS at hw2
   rw [Bool.or_eq_false_iff, dupF_set, dupL_nodup ha] at hw2
   exact rjL_wr L (acc ++ x.1.s.labels) hw2.1 (fun y hy => h y (List.mem_cons_of_mem _ hy))
theorem around_q {p : Pg} (hm : mayP p = true) {q : Pr} (hq : q ∈ p.procs) : ∀ x ∈ itQ q, aroundD (flatOf q) x.1.s.id = (x.2, x.2 != 0) := fun x hx => by
 obtain ⟨hfl, h2⟩ := may_it hm hq
 obtain ⟨d, hp⟩ := may_pos hm hq
 rw [hfl]
 exact arOut_it hp (fun x hx => (h2 x hx).2.2) hx
theorem rjQ_wr {p : Pg} (hm : mayP p = true) {q : Pr} (hq : q ∈ p.procs) : rjQ q = wrQ q := by
 obtain ⟨hfl, _⟩ := may_it hm hq
 have hl : itLb (flatOf q) = labsOf (preSL q.body) := lab_it ((may_flat hm).1 q hq).1
 have hlp : lpSL q.body 0 = (itQ q).map sndI := (itL_lp q.body 1 0 false 0).symm
 have hr := rjL_wr (its := flatOf q) (lb := allLb q) (itQ q) [] List.nodup_nil (around_q hm hq)
 rw [← hfl, ← hlp] at hr
 unfold rjQ wrQ
 rw [hl, show labsOf (preSL q.body) ++ q.end_ = allLb q from rfl, hr]
 cases hw : wrL (setF (allLb q)) [] (lpSL q.body 0) with
 | some i => rfl
 | none =>
  obtain ⟨h1, _⟩ := wrL_none (lpSL q.body 0) [] List.nodup_nil hw
  rw [List.nil_append, lab_lp] at h1
  show ((0 : Int), dup (allLb q)) = (0, _)
  rw [show allLb q = labsOf (preSL q.body) ++ q.end_ from rfl, dup_app h1]
theorem rjP_chk {p : Pg} (hm : mayP p = true) : ∀ l : List Pr, (∀ q ∈ l, q ∈ p.procs) → rjP l = chkJ l
 | [], _ => rfl
 | q :: l, h => by rw [rjP, chkJ, rjQ_wr hm (h q (List.mem_cons_self ..)), rjP_chk hm l (fun q hq => h q (List.mem_cons_of_mem _ hq))]
theorem jck_ref (p : Pg) : (if chkOK p = true then rjP p.procs else (1, 0)) = jCheck p := by
 unfold jCheck
 by_cases hc : chkOK p = true
 ·rw [if_pos hc, if_pos hc]; exact rjP_chk (ck_ok hc).may _ (fun q h => h)
 ·rw [if_neg hc, if_neg hc]
theorem proc_case {p : Pg} (hc : chkOK p = true) (s : ByteArray) : ((procP p s).2 = false ∧ jfP p s = -1) ∨ ∃ q ∈ p.procs, procP p s = (q, true) ∧ q.nm = s := by
 unfold procP jfP
 rw [if_pos (ck_ok hc).may, if_pos hc]
 rcases idxL_get (isQ s) p.procs 0 with ⟨h1, h2⟩ | ⟨j, hj, h1, h2, h3⟩
 ·rw [h1, h2]; exact .inl ⟨rfl, rfl⟩
 ·rw [h3]; exact .inr ⟨p.procs[j], List.getElem_mem hj, rfl, of_decide_eq_true h2⟩
theorem lab_ref (p : Pg) (s : ByteArray) : rLab p s = jLabels p s := by
 by_cases hc : chkOK p = true
 ·rcases proc_case hc s with ⟨h1, h2⟩ | ⟨q, hq, h1, rfl⟩
  ·unfold rLab jLabels
   rw [if_neg (fun h => by rw [h1] at h; cases h.1), h2, labZ_neg (by omega)]
  ·rw [jLabels_q hc (ck_ok hc).procs hq]
   unfold rLab
   rw [h1, if_pos ⟨rfl, hc⟩]
   show itLb (flatOf q) ++ q.end_ = _
   rw [lab_it ((may_flat (ck_ok hc).may).1 q hq).1]
   rfl
 ·unfold rLab jLabels jfP
  rw [if_neg (fun h => hc h.2), if_neg hc, labZ_neg (by omega)]
theorem at_ref (p : Pg) (s t : ByteArray) : rAtD p s t = jAt p s t := by
 by_cases hc : chkOK p = true
 ·rcases proc_case hc s with ⟨h1, h2⟩ | ⟨q, hq, h1, rfl⟩
  ·unfold rAtD jAt
   rw [if_neg (fun h => by rw [h1] at h; cases h.1), h2, atZ_neg (by omega)]
  ·rw [jAt_q hc (ck_ok hc).procs hq]
   unfold rAtD
   rw [h1, if_pos ⟨rfl, hc⟩]
   exact bearsD_at ((may_flat (ck_ok hc).may).1 q hq).1 t
 ·unfold rAtD jAt jfP
  rw [if_neg (fun h => hc h.2), if_neg hc, atZ_neg (by omega)]
theorem rfL_some : ∀ (l : List Pr) (id : Int) (it : It) (nm : ByteArray), rfL l id = some (it, nm) → ∃ q ∈ l, nm = q.nm ∧ it ∈ flatOf q ∧ it.s.id = id
 | [], id, it, nm, h => by cases h
 | q :: l, id, it, nm, h => by
  rw [rfL] at h
  cases hf : (flatOf q).find? (fun x => x.s.id == id) with
  | none =>
   rw [hf] at h
   obtain ⟨a, b, c⟩ := rfL_some l id it nm h
   exact ⟨a, List.mem_cons_of_mem _ b, c⟩
  | some x =>
   rw [hf] at h
   simp only [Option.elim_some, Option.some.injEq, Prod.mk.injEq] at h
   obtain ⟨rfl, rfl⟩ := h
   exact ⟨q, List.mem_cons_self .., rfl, List.mem_of_find?_eq_some hf, by simpa using List.find?_some hf⟩
theorem loop_ref (p : Pg) (id : Int) : rLoopD p id = jLoop p id := by
 unfold rLoopD jLoop
 by_cases hc : chkOK p = true
 ·have hok := ck_ok hc
  rw [if_pos hc]
  cases hr : rfL p.procs id with
  | none =>
   rw [if_neg (fun h => by cases h.1)]
   refine (lpL_none p.procs id (fun q hq s hs e => ?_)).symm
   rw [← it_map q] at hs
   obtain ⟨x, hx, rfl⟩ := List.mem_map.1 hs
   have := ((may_it hok.may hq).2 x hx).1.1
   rw [e, hr] at this
   cases this
  | some y =>
   obtain ⟨it, nm⟩ := y
   obtain ⟨q, hq, rfl, hit, hid⟩ := rfL_some _ _ _ _ hr
   rw [if_pos ⟨rfl, hc⟩]
   show aroundD (flatOf (namP p q.nm).1) id = lpL p.procs id
   have hn : namP p q.nm = (q, true) := by unfold namP; rw [find_own p.procs hok.procs q hq]; rfl
   rw [hn]
   obtain ⟨hfl, h2⟩ := may_it hok.may hq
   rw [hfl] at hit
   obtain ⟨x, hx, rfl⟩ := List.mem_map.1 hit
   rw [← hid, (h2 x hx).1.2]
   exact around_q hok.may hq x hx
 ·rw [if_neg hc, if_neg (fun h => hc h.2)]
end Go.Proofs.YtehpinnmalpgpaaGreat
namespace Go.Proofs.YtehpinnmalpgpaaGreat
open Go.ChangeShapes Go.WideShapes Go.ChangeAt Go.RowKit Go.Deep
set_option linter.unusedVariables false
set_option linter.unusedSimpArgs false
theorem jLabels_sm {p : Pg} (hsm : SmG p) (s0 : ByteArray) : ∀ s ∈ jLabels p s0, small s := by
 intro s hs
 unfold jLabels at hs
 rcases jfP_case p s0 with h | ⟨m, h1, hm⟩
 ·rw [labZ_neg h] at hs; cases hs
 ·rw [h1, labZ_at hm] at hs
  obtain ⟨a, b, c, d⟩ := hsm.proc _ (List.getElem_mem hm)
  show s.size ≤ 9223372036854775807
  rcases List.mem_append.1 hs with hs | hs
  ·obtain ⟨x, hx, hs⟩ := List.mem_flatMap.1 hs
   have h2 := preSL_w _ _ hx
   obtain ⟨id, kind, labels, nm, proc, y, has, args, th, el⟩ := x
   rw [wS] at h2
   have h3 := wT_mem (show s ∈ labels from hs)
   omega
  ·have h3 := wT_mem hs
   omega
theorem ProcAt_all {w : World} {Q : Nat → Prop} {p : Pg} {c0 c1 : Value} (h : ProgI w Q p [c0, c1]) (hn : p.procs.length ≤ 1000000) (n : Int) : ∃ s : ByteArray, ∀ W : World, In Q w W →
 Calls Tryz.prog 8 #[.agg #[c0, c1], .int .i64 n] W fun e w' => e = .returned (.string s) ∧ Below W.heap.size W w' := by
 by_cases h0 : p.procs.length = 0
 ·refine ⟨⟨#[]⟩, fun W hI => ?_⟩
  obtain ⟨Ag, cg, Ap, cp, rfl, rfl, _⟩ := prog_open h
  rw [h0]
  clear h hI
  go_enter Tryz.func8, Tryz.ntmps8
  go_upto_region 1 with fail
  have HB0 : Hid (Below W.heap.size W (W.alloc (.cells #[.slice Ag p.globals.length cg, .slice Ap 0 cp] 25))) := Lib.hid (below_box _)
  have HBp : Hid (Blk (W.alloc (.cells #[.slice Ag p.globals.length cg, .slice Ap 0 cp] 25)) W.heap.size 25 #[.slice Ag p.globals.length cg, .slice Ap 0 cp]) := Lib.hid (Blk.new _ _ _)
  generalize World.alloc _ _ = V at HB0 HBp ⊢
  generalize hbe : W.heap.size = b at HBp ⊢
  clear hbe
  have q1 : V.cell? ⟨b, 1, none⟩ = some (.slice Ap 0 cp) := by rw [HBp.out.cell]; rfl
  clear h0
  go_wp2_with fail
  go_ret
  exact ⟨rfl, HB0.out⟩
 ·obtain ⟨m, hm, hM⟩ := Mod_fix n p.procs.length (by omega) hn
  refine ⟨p.procs[m].nm, fun W hI => ?_⟩
  have HM := Lib.hid hM
  obtain ⟨Ag, cg, Ap, cp, rfl, rfl, _, _, _, _, hgl, hpr⟩ := prog_open h
  have HP := Lib.hid hpr
  have HI := Lib.hid hI
  have hn1 : 1 ≤ p.procs.length := by omega
  clear h hI hgl hpr hM h0
  go_enter Tryz.func8, Tryz.ntmps8
  go_upto_region 1 with fail
  have HB0 : Hid (Below W.heap.size W (W.alloc (.cells #[.slice Ag p.globals.length cg, .slice Ap p.procs.length cp] 25))) := Lib.hid (below_box _)
  have HBp : Hid (Blk (W.alloc (.cells #[.slice Ag p.globals.length cg, .slice Ap p.procs.length cp] 25)) W.heap.size 25 #[.slice Ag p.globals.length cg, .slice Ap p.procs.length cp]) := Lib.hid (Blk.new _ _ _)
  generalize World.alloc _ _ = V at HB0 HBp ⊢
  have HI0 := Lib.hid (HI.out.on HB0.out)
  generalize hbe : W.heap.size = b at HBp ⊢
  clear hbe
  obtain ⟨a, Bp, kp, Bv, kv, Bb, kb, Be, ke, rfl, _, ⟨p0, p1, p2, p3, p4, _⟩, _⟩ := proc_at HP.out HI0.out hm
  have q0 : V.cell? ⟨b, 0, none⟩ = some (.slice Ag p.globals.length cg) := by rw [HBp.out.cell]; rfl
  have q1 : V.cell? ⟨b, 1, none⟩ = some (.slice (some a) p.procs.length cp) := by rw [HBp.out.cell]; rfl
  clear p1 p2 p3 p4
  obtain ⟨xn, hx⟩ : ∃ xn, xn = p.procs[m].nm := ⟨_, rfl⟩
  rw [← hx] at p0
  have HX := Lib.hid hx
  clear hx
  go_upto_region 3 with fail
  go_quiet ((go_at_call 35; exact quiet_same (HM.out _)))
  go_wp2_with fail
  go_ret
  exact ⟨by rw [← HX.out]; rfl, below_drewN HB0.out _⟩
set_option maxHeartbeats 8000000 in
set_option maxRecDepth 100000 in
theorem jumpAll_walk {w : World} {Q : Nat → Prop} {p : Pg} {c0 c1 : Value} (h : ProgI w Q p [c0, c1]) (n : Int) (wn : (Lit.int .i64 n).wf = true) (id : Int) (wid : (Lit.int .i64 id).wf = true) (label : ByteArray) (hlabel : label.size ≤ maxLen) (W : World) (hI : In Q w W) :
 Calls Tryz.prog 3 #[.agg #[c0, c1], .int .i64 n, .int .i64 id, .string label] W fun e w' => e = .returned (.bool true) ∧ Below W.heap.size W w' := by
 have HP := Lib.hid h
 have HF := Lib.hid (fun V h1 => Fits_any h V h1)
 have HI := Lib.hid hI
 obtain ⟨Ag, cg, Ap, cp, rfl, rfl, _⟩ := prog_open h
 clear h hI
 go_enter Tryz.func3, Tryz.ntmps3
 go_upto_region 1 with fail
 have HB0 : Hid (Below W.heap.size W (W.alloc (.cells #[.slice Ag p.globals.length cg, .slice Ap p.procs.length cp] 25))) := Lib.hid (below_box _)
 have HBp0 : Hid (Blk (W.alloc (.cells #[.slice Ag p.globals.length cg, .slice Ap p.procs.length cp] 25)) W.heap.size 25 #[.slice Ag p.globals.length cg, .slice Ap p.procs.length cp]) := Lib.hid (Blk.new _ _ _)
 generalize World.alloc _ _ = W0 at HB0 HBp0 ⊢
 have HI0 := Lib.hid (HI.out.on HB0.out)
 generalize hbe : W.heap.size = b at HBp0 ⊢
 clear hbe
 go_upto_region 3 with (go_at_call 6; refine (jumping_any W0).mono ?_; rintro e' W1 ⟨rfl, hb1⟩)
 have HB1 : Hid (Below W.heap.size W W1) := Lib.hid (below_step HB0.out hb1)
 have HI1 := Lib.hid (HI0.out.on hb1)
 have HBp1 := Lib.hid (HBp0.out.below hb1 HBp0.out.lt)
 clear hb1 HB0 HBp0 HI0
 have q0 : W1.cell? ⟨b, 0, none⟩ = some (.slice Ag p.globals.length cg) := by rw [HBp1.out.cell]; rfl
 have q1 : W1.cell? ⟨b, 1, none⟩ = some (.slice Ap p.procs.length cp) := by rw [HBp1.out.cell]; rfl
 have hbl := HBp1.out.lt
 cases hf : fitsP p with
 | false =>
  rw [hf] at HF
  clear hf
  go_wp2_with (go_at_call 7; refine (HF.out _ HI1.out).mono ?_; rintro e' W2 ⟨rfl, hb2⟩)
  go_ret
  exact ⟨rfl, below_step HB1.out hb2⟩
 | true =>
  have HSg := Lib.hid (fits_smG hf)
  have HJc := Lib.hid (fun V hV => jCheck_any HP.out (fits_smG hf) V hV)
  have HRj := Lib.hid (fun V hV => rJumps_any HP.out (fits_smG hf) (lbOk_of hf) V hV)
  rw [jck_ref] at HRj
  have HLa := Lib.hid (fun nm V hV => jLabels_any HP.out (fits_smG hf) nm V hV)
  have HLr : Hid (∀ nm V (hV : In Q w V), Calls Tryz.prog 17 #[.agg #[.slice Ag p.globals.length cg, .slice Ap p.procs.length cp], .string nm] V (NewRow (jLabels p nm) V)) := Lib.hid (fun nm V hV => by rw [← lab_ref]; exact rLabels_any HP.out (fits_smG hf) (lbOk_of hf) nm V hV)
  have HAt := Lib.hid (fun nm V hV => jAt_any HP.out (fits_smG hf) nm label V hV)
  have HAr : Hid (∀ nm V (hV : In Q w V), Calls Tryz.prog 10 #[.agg #[.slice Ag p.globals.length cg, .slice Ap p.procs.length cp], .string nm, .string label] V fun e w' => e = .returned (.tuple #[.int .i64 (jAt p nm label).1, .bool (jAt p nm label).2]) ∧ Below V.heap.size V w') := Lib.hid (fun nm V hV => by rw [← at_ref]; exact rAt_any HP.out (fits_smG hf) (lbOk_of hf) nm label V hV)
  have HLo := Lib.hid (fun V hV => jLoop_any HP.out (fits_smG hf) id V hV)
  have HLp : Hid (∀ V (hV : In Q w V), Calls Tryz.prog 12 #[.agg #[.slice Ag p.globals.length cg, .slice Ap p.procs.length cp], .int .i64 id] V fun e w' => e = .returned (.tuple #[.int .i64 (jLoop p id).1, .bool (jLoop p id).2]) ∧ Below V.heap.size V w') := Lib.hid (fun V hV => by rw [← loop_ref]; exact rLoop_any HP.out (fits_smG hf) id V hV)
  have HPa := Lib.hid (ProcAt_all HP.out (fits_smG hf).procs n)
  have HSl := Lib.hid (jLabels_sm (fits_smG hf))
  rw [hf] at HF
  clear hf
  go_upto_region 5 with (go_at_call 7; refine (HF.out _ HI1.out).mono ?_; rintro e' W2 ⟨rfl, hb2⟩)
  have HB2 : Hid (Below W.heap.size W W2) := Lib.hid (below_step HB1.out hb2)
  have HI2 := Lib.hid (HI1.out.on hb2)
  have HBp2 := Lib.hid (HBp1.out.below hb2 hbl)
  clear hb2 HB1 HI1 HBp1 q0 q1 hbl HF
  have q0 : W2.cell? ⟨b, 0, none⟩ = some (.slice Ag p.globals.length cg) := by rw [HBp2.out.cell]; rfl
  have q1 : W2.cell? ⟨b, 1, none⟩ = some (.slice Ap p.procs.length cp) := by rw [HBp2.out.cell]; rfl
  have hbl := HBp2.out.lt
  clear HSg HP
  obtain ⟨s, hs⟩ := HPa.out
  have HPs := Lib.hid hs
  have HA1 := Lib.hid (fun V hV => HAt.out s V hV)
  have HA2 := Lib.hid (fun V hV => HAr.out s V hV)
  have HL1 := Lib.hid (fun V hV => HLa.out s V hV)
  have HL2 := Lib.hid (fun V hV => HLr.out s V hV)
  have HS := Lib.hid (HSl.out s)
  clear hs HPa HAt HAr HLa HLr HSl
  generalize jAt p s label = ar at HA1 HA2
  obtain ⟨a1, a2⟩ := ar
  generalize jLoop p id = lr at HLo HLp
  obtain ⟨l1, l2⟩ := lr
  generalize jCheck p = cr at HJc HRj
  obtain ⟨c1, c2⟩ := cr
  generalize jLabels p s = labs at HL1 HL2 HS
  simp only at HA1 HA2 HLo HLp
  go_upto_region 6 with (go_at_call 8; refine (HPs.out W2 HI2.out).mono ?_; rintro e' W3 ⟨rfl, hb3⟩)
  have HI3 := Lib.hid (HI2.out.on hb3)
  have HBp3 := Lib.hid (HBp2.out.below hb3 hbl)
  have HB3 := Lib.hid (below_step HB2.out hb3)
  clear q0 q1 hbl hb3 HI2 HBp2 HB2 HPs
  have hbl := HBp3.out.lt
  have q0 : W3.cell? ⟨b, 0, none⟩ = some (.slice Ag p.globals.length cg) := by rw [HBp3.out.cell]; rfl
  have q1 : W3.cell? ⟨b, 1, none⟩ = some (.slice Ap p.procs.length cp) := by rw [HBp3.out.cell]; rfl
  go_upto_region 7 with (go_at_call 9; refine (HA1.out W3 HI3.out).mono ?_; rintro e' W4 ⟨rfl, hb4⟩)
  have HI4 := Lib.hid (HI3.out.on hb4)
  have HBp4 := Lib.hid (HBp3.out.below hb4 hbl)
  have HB4 := Lib.hid (below_step HB3.out hb4)
  clear q0 q1 hbl hb4 HI3 HBp3 HB3 HA1
  have hbl := HBp4.out.lt
  have q0 : W4.cell? ⟨b, 0, none⟩ = some (.slice Ag p.globals.length cg) := by rw [HBp4.out.cell]; rfl
  have q1 : W4.cell? ⟨b, 1, none⟩ = some (.slice Ap p.procs.length cp) := by rw [HBp4.out.cell]; rfl
  go_upto_region 8 with (go_at_call 10; refine (HA2.out W4 HI4.out).mono ?_; rintro e' W5 ⟨rfl, hb5⟩)
  have HI5 := Lib.hid (HI4.out.on hb5)
  have HBp5 := Lib.hid (HBp4.out.below hb5 hbl)
  have HB5 := Lib.hid (below_step HB4.out hb5)
  clear q0 q1 hbl hb5 HI4 HBp4 HB4 HA2
  have hbl := HBp5.out.lt
  have q0 : W5.cell? ⟨b, 0, none⟩ = some (.slice Ag p.globals.length cg) := by rw [HBp5.out.cell]; rfl
  have q1 : W5.cell? ⟨b, 1, none⟩ = some (.slice Ap p.procs.length cp) := by rw [HBp5.out.cell]; rfl
  go_upto_region 9 with (go_at_call 11; refine (HLo.out W5 HI5.out).mono ?_; rintro e' W6 ⟨rfl, hb6⟩)
  have HI6 := Lib.hid (HI5.out.on hb6)
  have HBp6 := Lib.hid (HBp5.out.below hb6 hbl)
  have HB6 := Lib.hid (below_step HB5.out hb6)
  clear q0 q1 hbl hb6 HI5 HBp5 HB5 HLo
  have hbl := HBp6.out.lt
  have q0 : W6.cell? ⟨b, 0, none⟩ = some (.slice Ag p.globals.length cg) := by rw [HBp6.out.cell]; rfl
  have q1 : W6.cell? ⟨b, 1, none⟩ = some (.slice Ap p.procs.length cp) := by rw [HBp6.out.cell]; rfl
  go_upto_region 10 with (go_at_call 12; refine (HLp.out W6 HI6.out).mono ?_; rintro e' W7 ⟨rfl, hb7⟩)
  have HI7 := Lib.hid (HI6.out.on hb7)
  have HBp7 := Lib.hid (HBp6.out.below hb7 hbl)
  have HB7 := Lib.hid (below_step HB6.out hb7)
  clear q0 q1 hbl hb7 HI6 HBp6 HB6 HLp
  have hbl := HBp7.out.lt
  have q0 : W7.cell? ⟨b, 0, none⟩ = some (.slice Ag p.globals.length cg) := by rw [HBp7.out.cell]; rfl
  have q1 : W7.cell? ⟨b, 1, none⟩ = some (.slice Ap p.procs.length cp) := by rw [HBp7.out.cell]; rfl
  have HE : Hid (∀ (V1 V2 : World) (v1 v2 : Value) (B1 B2 : Nat), V1.ownsRow B1 9 1 v1 labs.length (strs labs) → V2.ownsRow B2 9 1 v2 labs.length (strs labs) → Below V1.heap.size V1 V2 → Calls Tryz.prog 15 #[v1, v2] V2 (MayOk true V2)) := Lib.hid (fun V1 V2 v1 v2 B1 B2 h1 h2 h3 => by
      have := EqTexts_any (texts_of_own HS.out h1).2 (texts_of_own HS.out h2).2 (W := V2) ⟨fun b hb => Nat.lt_of_lt_of_le hb.2 h3.size, fun p hp => h3.cell hp.2⟩ ⟨fun b hb => hb.2, fun p hp => rfl⟩
      rw [show decide (labs = labs) = true from decide_eq_true rfl] at this
      exact this)
  have HS7 : Hid (∀ w' : World, Below W7.heap.size W7 w' → (w'.cell? ⟨b, 0, none⟩ = some (.slice Ag p.globals.length cg) ∧ w'.cell? ⟨b, 1, none⟩ = some (.slice Ap p.procs.length cp))) := Lib.hid (fun w' hb => ⟨(hb.cell (p := ⟨b, 0, none⟩) hbl).trans q0, (hb.cell (p := ⟨b, 1, none⟩) hbl).trans q1⟩)
  have hBD : Below W7.heap.size W7 W7.drew := (Below.refl _ _).drew
  have hdr : ∀ V : World, In Q w V → In Q w V.drew := fun V h => h
  clear HS
  go_region_held3 (fun w' => w'.cell? ⟨b, 0, none⟩ = some (.slice Ag p.globals.length cg) ∧ w'.cell? ⟨b, 1, none⟩ = some (.slice Ap p.procs.length cp))
   ((refine HS7.out _ ?_; with_reducible assumption))
   (first
    | (go_at_call 13; (with_reducible refine (HJc.out W7.drew (hdr W7 HI7.out)).mono ?_); rintro e' W8 ⟨rfl, hb8⟩; have g8 : Below W7.heap.size W7 W8 := hBD.trans hb8; have HI8 := Lib.hid (HI7.out.on g8))
    | (go_at_call 14; (with_reducible refine (HRj.out W8 HI8.out).mono ?_); rintro e' W9 ⟨rfl, hb9⟩; have g9 : Below W7.heap.size W7 W9 := below_step g8 hb9; have HI9 := Lib.hid (HI7.out.on g9))
    | (go_at_call 16; (with_reducible refine (HL1.out W9 HI9.out).mono ?_); rintro e' W10 ⟨v10, rfl, ho10, hb10⟩; have g10 : Below W7.heap.size W7 W10 := below_step g9 hb10; have HI10 := Lib.hid (HI7.out.on g10))
    | (go_at_call 17; (with_reducible refine (HL2.out W10 HI10.out).mono ?_); rintro e' W11 ⟨v11, rfl, ho11, hb11⟩; have g11 : Below W7.heap.size W7 W11 := below_step g10 hb11)
    | (go_at_call 15; (with_reducible refine (HE.out W10 W11 v10 v11 _ _ ho10 ho11 hb11).mono ?_); rintro e' W12 ⟨rfl, hb12⟩; have g12 : Below W7.heap.size W7 W12 := below_step g11 hb12))
  go_wp2_with fail
  go_ret
  exact ⟨rfl, below_step HB7.out g12⟩
end Go.Proofs.YtehpinnmalpgpaaGreat
