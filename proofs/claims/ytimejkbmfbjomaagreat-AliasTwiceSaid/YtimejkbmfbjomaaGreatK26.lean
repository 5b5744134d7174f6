/- Texts, merged by a program; only what is used. -/
import Derived.Test.YtimejkbmfbjomaaGreatK1
import Derived.Test.YtimejkbmfbjomaaGreatK2
import Derived.Test.YtimejkbmfbjomaaGreatK3
import Derived.Test.YtimejkbmfbjomaaGreatK4
import Derived.Test.YtimejkbmfbjomaaGreatK5
import Derived.Test.YtimejkbmfbjomaaGreatK6
import Derived.Test.YtimejkbmfbjomaaGreatK7
import Derived.Test.YtimejkbmfbjomaaGreatK8
import Derived.Test.YtimejkbmfbjomaaGreatK9
import Derived.Test.YtimejkbmfbjomaaGreatK10
import Derived.Test.YtimejkbmfbjomaaGreatK11
import Derived.Test.YtimejkbmfbjomaaGreatK12
import Derived.Test.YtimejkbmfbjomaaGreatK13
import Derived.Test.YtimejkbmfbjomaaGreatK14
import Derived.Test.YtimejkbmfbjomaaGreatK15
import Derived.Test.YtimejkbmfbjomaaGreatK16
import Derived.Test.YtimejkbmfbjomaaGreatK17
import Derived.Test.YtimejkbmfbjomaaGreatK18
import Derived.Test.YtimejkbmfbjomaaGreatK19
import Derived.Test.YtimejkbmfbjomaaGreatK20
import Derived.Test.YtimejkbmfbjomaaGreatK21
import Derived.Test.YtimejkbmfbjomaaGreatK22
import Derived.Test.YtimejkbmfbjomaaGreatK23
import Derived.Test.YtimejkbmfbjomaaGreatK24
import Derived.Test.YtimejkbmfbjomaaGreatK25
namespace Go.Proofs.YtimejkbmfbjomaaGreat
open Go.ChangeShapes Go.WideShapes Go.ChangeAt Go.RowKit Go.Deep
set_option linter.unusedVariables false
set_option linter.unusedSimpArgs false
set_option maxRecDepth 100000 in
theorem upon_put {X : World} {b n : Nat} {f : ByteArray → Bool} {s : ByteArray} {o : Oper} {a : Act} {K : Act → World → Prop} {Q : Exit → Act → World → Prop} {ff : Unit → World → Result Next} (h : SetI X b n f) (hn : n < maxLen) (hs : s.size ≤ maxLen) (hk : ∀ X', SetI X' b (n + 1) (fun x => f x || decide (x = s)) → X.grownBy X' (some b) → Oper.upon Tryz.prog o a K Q ((Result.ok () X').andThen ff)) : Oper.upon Tryz.prog o a K Q ((Sem.run Tryz.prog (Instr.mapUpdate 73 (.map (some b)) (.string s) (.bool true)) X).andThen ff) := by
 obtain ⟨X', hr, h1, h2⟩ := h.put und_t hn s hs
 rw [hr]
 exact hk X' h1 h2
theorem made1 (V : World) (o : Obj) : SetI ((V.alloc o).alloc (.map #[] 0)) (V.heap.size + 1) 0 (fun _ => false) := by
 have h := SetI.made (V.alloc o)
 rw [World.size_alloc] at h
 exact h
theorem setone {X : World} {b : Nat} {s : ByteArray} (h : SetI X b (0 + 1) (fun x => false || decide (x = s))) : SetI X b 1 (setF [s]) := h.eq (fun y _ => by simp [setF, isT])
theorem below_from (V X : World) (h : Below V.heap.size V X) : Below V.heap.size V X := h
set_option maxHeartbeats 4000000 in
set_option maxRecDepth 100000 in
theorem reached_any {w W : World} {Q : Nat → Prop} {procs : List Pr} {fr : Pr} {vp : Value} {c0 c1 c2 c3 c4 : Value} (hp : SliceI w Q 5 (ProcI w Q) procs vp) (hfr : ProcI w Q fr [c0, c1, c2, c3, c4]) (hI : In Q w W) (hn : procs.length ≤ 1000000) (hmem : fr ∈ procs) (hnd : (procs.map Pr.nm).Nodup) (hl : ∀ q ∈ procs, (preSL q.body).length ≤ 1000000000) :
 Calls Tryz.prog 46 #[vp, .agg #[c0, c1, c2, c3, c4]] W fun e w' => ∃ b vis, e = .returned (.map (some b)) ∧ W.heap.size ≤ b ∧ SetI w' b vis.length (setF (vis.map Pr.nm)) ∧ BfsI procs fr vis [] ∧ Below W.heap.size W w' := by
 obtain ⟨A0, cp, rfl, hc1, hc2⟩ := hp.shape
 have hfr2 := hfr
 obtain ⟨_, _, _, _, hc, hqn, hpp, hvv, hbody, hee⟩ := hfr2
 simp only [List.cons.injEq, and_true] at hc
 obtain ⟨rfl, rfl, rfl, rfl, rfl⟩ := hc
 obtain ⟨Bp, kp, rfl, _, _⟩ := hpp.shape
 obtain ⟨Bv, kv, rfl, _, _⟩ := hvv.shape
 obtain ⟨Bb, kb, rfl, _⟩ := hbody.shape
 obtain ⟨Be, ke, rfl, _⟩ := hee.shape
 have HP := Lib.hid hp
 have HFr := Lib.hid hfr
 have HI := Lib.hid hI
 have HMem := Lib.hid hmem
 have HNd := Lib.hid hnd
 have HL := Lib.hid hl
 have hxs : fr.nm.size ≤ maxLen := hqn
 clear hp hfr hI hmem hnd hl hpp hvv hbody hee hqn
 go_enter Tryz.func46, Tryz.ntmps46
 go_upto_region 1 with fail
 have HBx : Hid (Blk (W.alloc (.cells #[.string fr.nm, .slice Bp fr.params.length kp, .slice Bv fr.vars.length kv, .slice Bb fr.body.length kb, .slice Be fr.end_.length ke] 39)) W.heap.size 39 #[.string fr.nm, .slice Bp fr.params.length kp, .slice Bv fr.vars.length kv, .slice Bb fr.body.length kb, .slice Be fr.end_.length ke]) := Lib.hid (Blk.new _ _ _)
 have HB0 : Hid (Below W.heap.size W (W.alloc (.cells #[.string fr.nm, .slice Bp fr.params.length kp, .slice Bv fr.vars.length kv, .slice Bb fr.body.length kb, .slice Be fr.end_.length ke] 39))) := Lib.hid (below_box _)
 generalize World.alloc _ _ = V at HBx HB0 ⊢
 have hbx := HBx.out.lt
 have hVW := HB0.out.size
 generalize hbxe : W.heap.size = bx at HBx hbx ⊢
 have HBe := Lib.hid hbxe
 clear hbxe
 have z0 : V.cell? ⟨bx, 0, none⟩ = some (.string fr.nm) := by rw [HBx.out.cell]; rfl
 have z1 : V.cell? ⟨bx, 1, none⟩ = some (.slice Bp fr.params.length kp) := by rw [HBx.out.cell]; rfl
 have z2 : V.cell? ⟨bx, 2, none⟩ = some (.slice Bv fr.vars.length kv) := by rw [HBx.out.cell]; rfl
 have z3 : V.cell? ⟨bx, 3, none⟩ = some (.slice Bb fr.body.length kb) := by rw [HBx.out.cell]; rfl
 have z4 : V.cell? ⟨bx, 4, none⟩ = some (.slice Be fr.end_.length ke) := by rw [HBx.out.cell]; rfl
 go_cut [5, 6] from 10 to 15 (fun s5 s6 wx => ∃ b, s5 = .map (some b) ∧ V.heap.size ≤ b ∧ Hid (SetI wx b 1 (setF [fr.nm])) ∧ Hid (AhI w Q V.heap.size wx s6 [fr]) ∧ Hid (Below V.heap.size V wx))
 case first =>
  have HSk : Hid (∀ w' : World, Below V.heap.size V w' → (Below V.heap.size V w' ∧ w'.cell? ⟨bx, 0, none⟩ = some (.string fr.nm) ∧ w'.cell? ⟨bx, 1, none⟩ = some (.slice Bp fr.params.length kp) ∧ w'.cell? ⟨bx, 2, none⟩ = some (.slice Bv fr.vars.length kv) ∧ w'.cell? ⟨bx, 3, none⟩ = some (.slice Bb fr.body.length kb) ∧ w'.cell? ⟨bx, 4, none⟩ = some (.slice Be fr.end_.length ke))) := Lib.hid (fun w' hb => ⟨hb, (hb.cell (p := ⟨bx, 0, none⟩) hbx).trans z0, (hb.cell (p := ⟨bx, 1, none⟩) hbx).trans z1, (hb.cell (p := ⟨bx, 2, none⟩) hbx).trans z2, (hb.cell (p := ⟨bx, 3, none⟩) hbx).trans z3, (hb.cell (p := ⟨bx, 4, none⟩) hbx).trans z4⟩)
  have hmm := @run_makeMap Tryz.prog
  go_region_held3 (fun w' => Below V.heap.size V w' ∧ w'.cell? ⟨bx, 0, none⟩ = some (.string fr.nm) ∧ w'.cell? ⟨bx, 1, none⟩ = some (.slice Bp fr.params.length kp) ∧ w'.cell? ⟨bx, 2, none⟩ = some (.slice Bv fr.vars.length kv) ∧ w'.cell? ⟨bx, 3, none⟩ = some (.slice Bb fr.body.length kb) ∧ w'.cell? ⟨bx, 4, none⟩ = some (.slice Be fr.end_.length ke))
   ((refine HSk.out _ ?_; repeat (first | (with_reducible assumption) | (with_reducible refine below_stepA ?_ _) | (with_reducible refine Below.drew ?_) | (with_reducible exact Below.refl _ _))))
   ((refine upon_put (n := 0) (f := fun _ => false) ?_ (by unfold maxLen; omega) hxs ?_; (first | exact SetI.same (SetI.made V) rfl | exact SetI.same ((SetI.made V).alloc _) rfl | exact SetI.same (made1 V _) rfl); intro X' hs' hg'; have kx : Below V.heap.size V X' := (below_from V _ (by repeat (first | (with_reducible assumption) | (with_reducible refine below_stepA ?_ _) | (with_reducible refine Below.drew ?_) | (with_reducible exact Below.refl _ _)))).grown hg' (by simp <;> omega) (fun j hj => by cases hj; simp)))
  all_goals
   go_wp2_with fail
   go_meet
  ·exact ⟨_, rfl, Nat.le_refl _, Lib.hid ((setone hs').alloc _), Lib.hid (AhI.one (Blk.new X' _ _) kx.size HFr.out), Lib.hid (below_stepA kx _)⟩
  ·have h := Blk.new (V.alloc (.map #[] 0)) 39 #[.string fr.nm, .slice Bp fr.params.length kp, .slice Bv fr.vars.length kv, .slice Bb fr.body.length kb, .slice Be fr.end_.length ke]
   rw [World.size_alloc] at h
   have hB : Blk X' (V.heap.size + 1) 39 #[.string fr.nm, .slice Bp fr.params.length kp, .slice Bv fr.vars.length kv, .slice Bb fr.body.length kb, .slice Be fr.end_.length ke] := Blk.grown (w := ((V.alloc (.map #[] 0)).alloc (.cells #[.string fr.nm, .slice Bp fr.params.length kp, .slice Bv fr.vars.length kv, .slice Bb fr.body.length kb, .slice Be fr.end_.length ke] 39)).drew) h hg' (fun e => by injection e with e; omega)
   exact ⟨_, rfl, Nat.le_refl _, Lib.hid (setone hs'), Lib.hid (AhI.one hB (by omega) HFr.out), Lib.hid kx⟩
  ·have h := (Blk.new V 39 #[.string fr.nm, .slice Bp fr.params.length kp, .slice Bv fr.vars.length kv, .slice Bb fr.body.length kb, .slice Be fr.end_.length ke]).alloc (.map #[] 0)
   have hB : Blk X' V.heap.size 39 #[.string fr.nm, .slice Bp fr.params.length kp, .slice Bv fr.vars.length kv, .slice Bb fr.body.length kb, .slice Be fr.end_.length ke] := Blk.grown (w := ((V.alloc (.cells #[.string fr.nm, .slice Bp fr.params.length kp, .slice Bv fr.vars.length kv, .slice Bb fr.body.length kb, .slice Be fr.end_.length ke] 39)).alloc (.map #[] 0)).drew) h hg' (fun e => by injection e with e; omega)
   exact ⟨_, rfl, by omega, Lib.hid (setone hs'), Lib.hid (AhI.one hB (Nat.le_refl _) HFr.out), Lib.hid kx⟩
 case rest =>
  obtain ⟨b, rfl, hbV, HS, HA, HBc⟩ := hcut
  have HIc := Lib.hid (HI.out.on (below_step HB0.out HBc.out))
  clear z0 z1 z2 z3 z4 HBx
  have HW0 := Lib.hid (below_step HB0.out HBc.out)
  have hVc := HBc.out.size
  have hcw := HB0.out.size
  generalize wc = v0 at *
  go_wp2_with fail
  go_loopg [6] (2 * procs.length) (fun kk s6 wr => ∃ (vis ah : List Pr), Hid (BfsI procs fr vis ah) ∧ kk + 2 * (vis ++ ah).length = 2 * procs.length + ah.length + 1 ∧ Hid (SetI wr b (vis ++ ah).length (setF ((vis ++ ah).map Pr.nm))) ∧ Hid (AhI w Q V.heap.size wr s6 ah) ∧ Hid (Below V.heap.size V wr))
  case atStart => exact ⟨[], [fr], Lib.hid (BfsI.start HMem.out), by simp, HS, HA, HBc⟩
  case round =>
   obtain ⟨vis, ah, HBf, hkk, HSr, HAr, HBr⟩ := hrel
   cases ah with
   | nil =>
    obtain ⟨g, o, cap, rows, hv6, _⟩ := HAr.out.ex
    simp only [List.length_nil] at hv6
    subst hv6
    go_wp2_with fail
    go_ret
    exact ⟨b, vis, rfl, by have h := HBe.out; omega, by have h := HSr.out; rwa [List.append_nil] at h, HBf.out, below_step HB0.out HBr.out⟩
   | cons q r =>
    obtain ⟨g, o, cap, Cp, jp, Cv, jv, Cb, jb, Ce, je, hv6, hcl, hc63, ⟨p0, p1, p2, p3, p4, _⟩, hpi, hA2, hT1, hT2⟩ := HAr.out.head
    subst hv6
    have HPI := Lib.hid hpi
    have HT1 := Lib.hid hT1
    have HT2 := Lib.hid hT2
    have hqp := (HBf.out.sub q (by simp)).1
    have HK := Lib.hid HBf.out.pop
    have HIr := Lib.hid (HI.out.on (below_step HB0.out HBr.out))
    have HCa := Lib.hid (calls_any HPI.out HIr.out (HL.out q hqp))
    have hcap0 : 0 < cap := by omega
    have hr1 : 1 ≤ r.length + 1 := by omega
    clear hpi hA2 hT1 hT2 HBf HAr hqp
    go_upto_region 4 with (go_at_call 42; refine HCa.out.mono ?_; rintro e W1 ⟨b7, rfl, hb7, hs7, hbl7⟩; have HS7 := Lib.hid hs7; have HB7 := Lib.hid hbl7; clear hs7 hbl7)
    clear p0 p1 p2 p3 p4 HCa
    have HSr1 := Lib.hid (HSr.out.below HB7.out HSr.out.lt)
    have HBr1 := Lib.hid (below_step HBr.out HB7.out)
    have HI1 := Lib.hid (HIr.out.on HB7.out)
    go_upto_region 5 with fail
    have HA1 : Hid (AhI w Q V.heap.size W1 (.slice (if cap = 1 then some ⟨g, o, none⟩ else some ⟨g, o + 5, none⟩) r.length (cap - 1)) r) := Lib.hid (by
     by_cases h1 : cap = 1
     ·rw [if_pos h1]; exact (HT1.out h1).below HB7.out
     ·rw [if_neg h1]; exact (HT2.out h1).below HB7.out)
    generalize Value.slice (if cap = 1 then some (⟨g, o, none⟩ : Addr) else some ⟨g, o + 5, none⟩) r.length (cap - 1) = v6 at HA1 ⊢
    have HN7 : Hid (b ≠ b7 ∧ V.heap.size ≤ b7) := Lib.hid ⟨fun e => by have := HSr.out.lt; omega, by have := HBr.out.size; omega⟩
    obtain ⟨cl, hcl2⟩ : ∃ cl, cl = callsOf (preSL q.body) := ⟨_, rfl⟩
    have HCl := Lib.hid hcl2
    rw [← hcl2] at HS7
    clear hcl2 HT1 HT2 HSr HIr HBr HB7 HI1 HPI
    generalize cl.length = n7 at HS7
    have HS1 : Hid (SetI W1 b (vis ++ [q] ++ r).length (setF ((vis ++ [q] ++ r).map Pr.nm))) := Lib.hid (by have h := HSr1.out; rw [show vis ++ q :: r = vis ++ [q] ++ r by simp] at h; exact h)
    have HKk : Hid (gk + 2 * (vis.length + 1 + r.length) = 2 * procs.length + r.length + 2) := Lib.hid (by simp only [List.length_append, List.length_cons] at hkk; omega)
    clear HSr1 hkk
    go_upto_region 6 with fail
    go_loopg [6, 27] procs.length (fun kk v6 i wr2 => ∃ (k : Nat) (ah : List Pr), k + kk = procs.length ∧ i = .int .i64 k ∧ r.length ≤ ah.length ∧ Hid (BfsK procs fr vis q ah k) ∧ Hid (SetI wr2 b (vis ++ [q] ++ ah).length (setF ((vis ++ [q] ++ ah).map Pr.nm))) ∧ Hid (AhI w Q V.heap.size wr2 v6 ah) ∧ Hid (SetI wr2 b7 n7 (setF cl)) ∧ Hid (Below V.heap.size V wr2))
    case atStart => exact ⟨0, r, by omega, rfl, Nat.le_refl _, HK, HS1, HA1, HS7, HBr1⟩
    case round =>
     clear HK HS1 HA1 HS7 HBr1
     obtain ⟨k, ah, hk, rfl, hrl, HK, HS, HA, HS7, HB⟩ := hrel
     have HIr := Lib.hid (HI.out.on (below_step HB0.out HB.out))
     by_cases hlt : k < procs.length
     ·obtain ⟨a, Cp2, jp2, Cv2, jv2, Cb2, jb2, Ce2, je2, rfl, hqa, hrow, hnm, hpp, hvv, hbody, hee⟩ := proc_at HP.out HIr.out hlt
      have HPk : Hid (ProcI w Q procs[k] [.string procs[k].nm, .slice Cp2 procs[k].params.length jp2, .slice Cv2 procs[k].vars.length jv2, .slice Cb2 procs[k].body.length jb2, .slice Ce2 procs[k].end_.length je2]) := Lib.hid ⟨_, _, _, _, rfl, hnm, hpp, hvv, hbody, hee⟩
      have hsz : procs[k].nm.size ≤ maxLen := hnm
      have HSk := Lib.hid (fun h => HK.out.skip hlt h)
      have HAd := Lib.hid (fun h1 h2 => HK.out.add hlt h1 h2)
      have HLe := Lib.hid (all_le HK.out.nd (fun x hx => (HK.out.sub x hx).1))
      rw [← HCl.out] at HSk HAd
      generalize procs[k] = kq at hrow HPk hsz HSk HAd
      clear hnm hpp hvv hbody hee hqa HK
      obtain ⟨p0, p1, p2, p3, p4, _⟩ := hrow
      go_upto_region 8 with fail
      have HBi : Hid (Blk (wr.alloc (.cells #[.string kq.nm, .slice Cp2 kq.params.length jp2, .slice Cv2 kq.vars.length jv2, .slice Cb2 kq.body.length jb2, .slice Ce2 kq.end_.length je2] 39)) wr.heap.size 39 #[.string kq.nm, .slice Cp2 kq.params.length jp2, .slice Cv2 kq.vars.length jv2, .slice Cb2 kq.body.length jb2, .slice Ce2 kq.end_.length je2]) := Lib.hid (Blk.new _ _ _)
      have HSn : Hid (SetI (wr.alloc (.cells #[.string kq.nm, .slice Cp2 kq.params.length jp2, .slice Cv2 kq.vars.length jv2, .slice Cb2 kq.body.length jb2, .slice Ce2 kq.end_.length je2] 39)) b (vis ++ [q] ++ ah).length (setF ((vis ++ [q] ++ ah).map Pr.nm))) := Lib.hid (HS.out.alloc _)
      have HS7n : Hid (SetI (wr.alloc (.cells #[.string kq.nm, .slice Cp2 kq.params.length jp2, .slice Cv2 kq.vars.length jv2, .slice Cb2 kq.body.length jb2, .slice Ce2 kq.end_.length je2] 39)) b7 n7 (setF cl)) := Lib.hid (HS7.out.alloc _)
      have HAn : Hid (AhI w Q V.heap.size (wr.alloc (.cells #[.string kq.nm, .slice Cp2 kq.params.length jp2, .slice Cv2 kq.vars.length jv2, .slice Cb2 kq.body.length jb2, .slice Ce2 kq.end_.length je2] 39)) _ ah) := Lib.hid (HA.out.below (below_box _))
      have HBn : Hid (Below V.heap.size V (wr.alloc (.cells #[.string kq.nm, .slice Cp2 kq.params.length jp2, .slice Cv2 kq.vars.length jv2, .slice Cb2 kq.body.length jb2, .slice Ce2 kq.end_.length je2] 39))) := Lib.hid (below_stepA HB.out _)
      have HNi : Hid (wr.heap.size ≠ b) := Lib.hid (fun e => by have := HS.out.lt; omega)
      clear p0 p1 p2 p3 p4 HS HS7 HA HB HIr
      generalize World.alloc wr _ = U at HBi HSn HS7n HAn HBn ⊢
      generalize wr.heap.size = bi at HBi HNi ⊢
      have y0 : U.cell? ⟨bi, 0, none⟩ = some (.string kq.nm) := by rw [HBi.out.cell]; rfl
      have y1 : U.cell? ⟨bi, 1, none⟩ = some (.slice Cp2 kq.params.length jp2) := by rw [HBi.out.cell]; rfl
      have y2 : U.cell? ⟨bi, 2, none⟩ = some (.slice Cv2 kq.vars.length jv2) := by rw [HBi.out.cell]; rfl
      have y3 : U.cell? ⟨bi, 3, none⟩ = some (.slice Cb2 kq.body.length jb2) := by rw [HBi.out.cell]; rfl
      have y4 : U.cell? ⟨bi, 4, none⟩ = some (.slice Ce2 kq.end_.length je2) := by rw [HBi.out.cell]; rfl
      have hlk1 := HS7n.out.look und_t kq.nm hsz
      have hlk2 := HSn.out.look und_t kq.nm hsz
      cases e1 : setF cl kq.nm with
      | false =>
       rw [e1] at hlk1
       have HE1 : Hid (kq.nm ∈ cl → False) := Lib.hid (fun h => by rw [setF_mem.2 h] at e1; cases e1)
       clear e1
       go_wp2_with fail
       go_roundg (procs.length - k - 1)
       case measure => omega
       case rel => exact ⟨k + 1, ah, by omega, by go_num, hrl, Lib.hid (HSk.out (fun h => (HE1.out h).elim)), HSn, HAn, HS7n, HBn⟩
      | true =>
       rw [e1] at hlk1
       have HE1 : Hid (kq.nm ∈ cl) := Lib.hid (setF_mem.1 e1)
       clear e1
       cases e2 : setF ((vis ++ [q] ++ ah).map Pr.nm) kq.nm with
       | true =>
        rw [e2] at hlk2
        have HE2 : Hid (kq.nm ∈ (vis ++ [q] ++ ah).map Pr.nm) := Lib.hid (setF_mem.1 e2)
        clear e2
        go_wp2_with fail
        go_roundg (procs.length - k - 1)
        case measure => omega
        case rel => exact ⟨k + 1, ah, by omega, by go_num, hrl, Lib.hid (HSk.out (fun _ => HE2.out)), HSn, HAn, HS7n, HBn⟩
       | false =>
        rw [e2] at hlk2
        have HE2 : Hid (kq.nm ∉ (vis ++ [q] ++ ah).map Pr.nm) := Lib.hid (fun h => by rw [setF_mem.2 h] at e2; cases e2)
        have HKa := Lib.hid (HAd.out HE1.out HE2.out)
        have HLa := Lib.hid (all_le HKa.out.nd (fun x hx => (HKa.out.sub x hx).1))
        have hnk : (vis ++ [q] ++ ah).length < maxLen := by have := HLe.out; unfold maxLen; omega
        have hal : ah.length + 1 ≤ 1000000 := by have := HLa.out; simp only [List.length_append, List.length_cons, List.length_nil] at this; omega
        have HMa : Hid (vis ++ [q] ++ (ah ++ [kq]) = (vis ++ [q] ++ ah) ++ [kq]) := Lib.hid (by simp)
        clear e2
        go_upto_region 10 with (at_mapUpdate; refine wpList_setPut rfl _ _ _ 73 rfl und_t b (vis ++ [q] ++ ah).length (setF ((vis ++ [q] ++ ah).map Pr.nm)) rfl HSn.out hnk kq.nm hsz rfl rfl ?_; intro w1 hs1 hg1)
        have HS9 : Hid (SetI w1 b (vis ++ [q] ++ (ah ++ [kq])).length (setF ((vis ++ [q] ++ (ah ++ [kq])).map Pr.nm))) := Lib.hid (by rw [HMa.out, List.map_append, List.length_append]; show SetI w1 b _ (setF (_ ++ [kq.nm])); rw [setF_snoc]; exact hs1)
        have HM9 := Lib.hid (moves_map hg1)
        have HA9 := Lib.hid (HAn.out.moves HSn.out HM9.out)
        have HS79 := Lib.hid (HS7n.out.kept hg1 (fun e => by injection e with e; exact HN7.out.1 e.symm))
        have HB9 := Lib.hid (HBn.out.grown hg1 HBn.out.size (fun j hj => by cases hj; exact hbV))
        have HBi9 := Lib.hid (HM9.out.blk HBi.out HNi.out)
        have hV9 := HB9.out.size
        clear hs1 hg1 y0 y1 y2 y3 y4 HSn HM9 HAn HS7n HBn HBi hlk1 hlk2
        have y0 : w1.cell? ⟨bi, 0, none⟩ = some (.string kq.nm) := by rw [HBi9.out.cell]; rfl
        have y1 : w1.cell? ⟨bi, 1, none⟩ = some (.slice Cp2 kq.params.length jp2) := by rw [HBi9.out.cell]; rfl
        have y2 : w1.cell? ⟨bi, 2, none⟩ = some (.slice Cv2 kq.vars.length jv2) := by rw [HBi9.out.cell]; rfl
        have y3 : w1.cell? ⟨bi, 3, none⟩ = some (.slice Cb2 kq.body.length jb2) := by rw [HBi9.out.cell]; rfl
        have y4 : w1.cell? ⟨bi, 4, none⟩ = some (.slice Ce2 kq.end_.length je2) := by rw [HBi9.out.cell]; rfl
        go_wp2_with (at_builtin; refine wpList_append_ah rfl (.tmp 45) (.tmp 47) rfl rfl (HA9.out.below (below_box _)) rfl (Blk.new w1 _ _) HPk.out hal (by simp; omega) ?_; intro v8 w8 ha8 hm8)
        go_roundg (procs.length - k - 1)
        case measure => omega
        case rel => exact ⟨k + 1, ah ++ [kq], by omega, by go_num, by rw [List.length_append]; omega, HKa, Lib.hid (hm8.maps _ _ _ (HS9.out.alloc _)), Lib.hid ha8, Lib.hid (hm8.maps _ _ _ (HS79.out.alloc _)), Lib.hid ((below_stepA HB9.out _).trans hm8.below)⟩
     ·obtain rfl : k = procs.length := by omega
      have HKd := Lib.hid HK.out.done
      have HLe := Lib.hid (all_le HK.out.nd (fun x hx => (HK.out.sub x hx).1))
      have HM2 := HKk.out
      have HM3 : 2 * (vis.length + 1 + ah.length) ≤ 2 * procs.length := by have := HLe.out; simp only [List.length_append, List.length_cons, List.length_nil] at this; omega
      go_wp2_with fail
      go_roundg (2 * procs.length + ah.length + 1 - 2 * (vis.length + 1 + ah.length))
      case measure => omega
      case rel => exact ⟨vis ++ [q], ah, HKd, by simp only [List.length_append, List.length_cons, List.length_nil]; omega, HS, HA, HB⟩
end Go.Proofs.YtimejkbmfbjomaaGreat
namespace Go.Proofs.YtimejkbmfbjomaaGreat
open Go.ChangeShapes Go.WideShapes Go.ChangeAt Go.RowKit Go.Deep
set_option linter.unusedVariables false
set_option linter.unusedSimpArgs false
theorem setF_mem2 {l : List ByteArray} {s : ByteArray} : setF l s = true ↔ s ∈ l := by simp [setF, isT]
theorem vis_le {procs : List Pr} {fr : Pr} {vis : List Pr} (h : BfsI procs fr vis []) (hn : procs.length ≤ 1000000) : vis.length ≤ 1000000000 := by
 have h1 := h.nd
 have h2 := h.sub
 rw [List.append_nil] at h1 h2
 have := all_le h1 (fun q hq => (h2 q hq).1)
 omega
theorem vis_sm {procs : List Pr} {fr : Pr} {vis : List Pr} (h : BfsI procs fr vis []) (hs : ∀ q ∈ procs, q.nm.size ≤ 281474976710656) : ∀ s : ByteArray, s.size ≤ maxLen → setF (vis.map Pr.nm) s = true → s.size ≤ 281474976710656 := by
 intro s _ h1
 obtain ⟨q, hq, rfl⟩ := List.mem_map.1 (setF_mem2.1 h1)
 exact hs q (h.sub q (by simpa using hq)).1
/-- of the procedure at a place: the names of all that are reached from it, in order -/
def AllOf (p : Pg) (z : Int) (l : List ByteArray) : Prop := (z < 0 ∧ l = []) ∨ ∃ m, ∃ hm : m < p.procs.length, ∃ vis, z = (m : Int) ∧ BfsI p.procs p.procs[m] vis [] ∧ InOrd (setF (vis.map Pr.nm)) l
set_option maxHeartbeats 4000000 in
set_option maxRecDepth 100000 in
theorem tAll_any {w : World} {Q : Nat → Prop} {p : Pg} {c0 c1 : Value} (h : ProgI w Q p [c0, c1]) (hsm : SmG p) (hsz : ∀ q ∈ p.procs, q.nm.size ≤ 281474976710656) (proc : ByteArray) (W : World) (hI : In Q w W) :
 Calls Tryz.prog 14 #[.agg #[c0, c1], .string proc] W (OrdRow (AllOf p (jfP p proc)) W) := by
 have HFd := Lib.hid (fun V hV => tfind_any h hsm proc V hV)
 have HSm := Lib.hid (fun q hq => (hsm.proc q hq).1)
 have HPl := Lib.hid hsm.procs
 have HNmS := Lib.hid hsz
 have HNd : Hid (∀ m : Nat, jfP p proc = m → (p.procs.map Pr.nm).Nodup) := Lib.hid (fun m hm => by
  unfold jfP at hm
  split at hm
  ·rename_i hc; exact (chk_ok (of_decide_eq_true hc)).procs
  ·omega)
 obtain ⟨Ag, cg, Ap, cp, rfl, rfl, _, _, _, _, _, hpr⟩ := prog_open h
 have HP := Lib.hid hpr
 have HI := Lib.hid hI
 clear h hI hpr hsm hsz
 have HZ := Lib.hid (jfP_case p proc)
 generalize jfP p proc = z at HFd HZ HNd ⊢
 go_enter Tryz.func14, Tryz.ntmps14
 go_upto_region 1 with fail
 have HBp0 : Hid (Blk (W.alloc (.cells #[.slice Ag p.globals.length cg, .slice Ap p.procs.length cp] 25)) W.heap.size 25 #[.slice Ag p.globals.length cg, .slice Ap p.procs.length cp]) := Lib.hid (Blk.new _ _ _)
 have HB0 : Hid (Below W.heap.size W (W.alloc (.cells #[.slice Ag p.globals.length cg, .slice Ap p.procs.length cp] 25))) := Lib.hid (below_box _)
 generalize World.alloc _ _ = V at HBp0 HB0 ⊢
 have HI0 := Lib.hid (HI.out.on HB0.out)
 have HF0 := Lib.hid (HFd.out V HI0.out)
 have hbl := HBp0.out.lt
 generalize hbe : W.heap.size = b at HBp0 hbl ⊢
 have HBe := Lib.hid hbe
 clear hbe
 have q0 : V.cell? ⟨b, 0, none⟩ = some (.slice Ag p.globals.length cg) := by rw [HBp0.out.cell]; rfl
 have q1 : V.cell? ⟨b, 1, none⟩ = some (.slice Ap p.procs.length cp) := by rw [HBp0.out.cell]; rfl
 go_upto_region 2 with (go_at_call 40; refine HF0.out.mono ?_; rintro e W1 ⟨rfl, hb1⟩)
 have HB1 := Lib.hid (below_step HB0.out hb1)
 have HI1 := Lib.hid (HI0.out.on hb1)
 have HBp1 := Lib.hid (HBp0.out.below hb1 hbl)
 clear q0 q1 hb1 HB0 HI0 HBp0 hbl HF0 HFd
 rcases HZ.out with hz | ⟨m, rfl, hm⟩
 ·have HZn := Lib.hid hz
  go_wp2_with fail
  go_ret
  exact ⟨[], _, rfl, World.ownsRow_nil _ _ _ _, HB1.out, .inl ⟨HZn.out, rfl⟩⟩
 ·have hz : ¬ ((m : Int) < 0) := by omega
  obtain ⟨a, Bp, kp, Bv, kv, Bb, kb, Be, ke, rfl, hqa, hrow, hnm, hpp, hvv, hbody, hee⟩ := proc_at HP.out HI1.out hm
  have HPI : Hid (ProcI w Q p.procs[m] [.string p.procs[m].nm, .slice Bp p.procs[m].params.length kp, .slice Bv p.procs[m].vars.length kv, .slice Bb p.procs[m].body.length kb, .slice Be p.procs[m].end_.length ke]) := Lib.hid ⟨_, _, _, _, rfl, hnm, hpp, hvv, hbody, hee⟩
  have HNn := Lib.hid (HNd.out m rfl)
  have HBd : Hid (∀ q ∈ p.procs, (preSL q.body).length ≤ 1000000000) := Lib.hid (fun q hq => by have h1 := HSm.out q hq; have h2 := preSL_lw q.body; omega)
  have HRe := Lib.hid (fun V hV => reached_any (W := V) HP.out HPI.out hV HPl.out (List.getElem_mem hm) HNn.out HBd.out)
  have HSz : Hid (∀ q ∈ p.procs, q.nm.size ≤ 281474976710656) := HNmS
  have HQb : Hid ((a.add (m * 5)).block < W1.heap.size) := Lib.hid (by rw [block_add]; exact HI1.out.1 _ hqa)
  clear hnm hpp hvv hbody hee hqa HPI HNd
  generalize hfr : p.procs[m] = fr at hrow HRe
  have HFr := Lib.hid hfr
  clear hfr
  generalize fr.nm = x0 at hrow HRe
  generalize fr.params.length = x1 at hrow HRe
  generalize fr.vars.length = x2 at hrow HRe
  generalize fr.body.length = x3 at hrow HRe
  generalize fr.end_.length = x4 at hrow HRe
  obtain ⟨p0, p1, p2, p3, p4, _⟩ := hrow
  have q1 : W1.cell? ⟨b, 1, none⟩ = some (.slice (some a) p.procs.length cp) := by rw [HBp1.out.cell]; rfl
  go_upto_region 4 with fail
  have hb1 := HBp1.out.lt
  have HS1 : Hid (∀ w' : World, Below W1.heap.size W1 w' → (w'.cell? ⟨b, 1, none⟩ = some (.slice (some a) p.procs.length cp) ∧ w'.cell? (a.add (m * 5)) = some (.string x0) ∧ w'.cell? ⟨(a.add (m * 5)).block, (a.add (m * 5)).off + 1, none⟩ = some (.slice Bp x1 kp) ∧ w'.cell? ⟨(a.add (m * 5)).block, (a.add (m * 5)).off + (1 + 1), none⟩ = some (.slice Bv x2 kv) ∧ w'.cell? ⟨(a.add (m * 5)).block, (a.add (m * 5)).off + (1 + 1 + 1), none⟩ = some (.slice Bb x3 kb) ∧ w'.cell? ⟨(a.add (m * 5)).block, (a.add (m * 5)).off + (1 + 1 + 1 + 1), none⟩ = some (.slice Be x4 ke))) := Lib.hid (fun w' hb => ⟨(hb.cell (p := ⟨b, 1, none⟩) hb1).trans q1, (hb.cell (p := a.add (m * 5)) HQb.out).trans p0, (hb.cell (p := ⟨(a.add (m * 5)).block, (a.add (m * 5)).off + 1, none⟩) HQb.out).trans p1, (hb.cell (p := ⟨(a.add (m * 5)).block, (a.add (m * 5)).off + (1 + 1), none⟩) HQb.out).trans p2, (hb.cell (p := ⟨(a.add (m * 5)).block, (a.add (m * 5)).off + (1 + 1 + 1), none⟩) HQb.out).trans p3, (hb.cell (p := ⟨(a.add (m * 5)).block, (a.add (m * 5)).off + (1 + 1 + 1 + 1), none⟩) HQb.out).trans p4⟩)
  have hBD : Below W1.heap.size W1 W1.drew := (Below.refl _ _).drew
  have hdr : ∀ V : World, In Q w V → In Q w V.drew := fun V h => h
  have hm0 : (0 : Int) ≤ (m : Int) := by omega
  have hm1 : (m : Int) < (p.procs.length : Int) := by omega
  go_region_held3 (fun w' => w'.cell? ⟨b, 1, none⟩ = some (.slice (some a) p.procs.length cp) ∧ w'.cell? (a.add (m * 5)) = some (.string x0) ∧ w'.cell? ⟨(a.add (m * 5)).block, (a.add (m * 5)).off + 1, none⟩ = some (.slice Bp x1 kp) ∧ w'.cell? ⟨(a.add (m * 5)).block, (a.add (m * 5)).off + (1 + 1), none⟩ = some (.slice Bv x2 kv) ∧ w'.cell? ⟨(a.add (m * 5)).block, (a.add (m * 5)).off + (1 + 1 + 1), none⟩ = some (.slice Bb x3 kb) ∧ w'.cell? ⟨(a.add (m * 5)).block, (a.add (m * 5)).off + (1 + 1 + 1 + 1), none⟩ = some (.slice Be x4 ke))
   ((refine HS1.out _ ?_; with_reducible assumption))
   (first
    | (go_at_call 46; (with_reducible refine (HRe.out W1.drew (hdr W1 HI1.out)).mono ?_); rintro e W2 ⟨b2, vis, rfl, hb2, hs2, hbf, hbl2⟩; have k2 : Below W1.heap.size W1 W2 := hBD.trans hbl2; have HS2 := Lib.hid hs2; have HBf := Lib.hid hbf; have HIo := Lib.hid (inOrder_any HS2.out (vis_le HBf.out HPl.out) (vis_sm HBf.out HSz.out)); clear hs2 hbf)
    | (go_at_call 41; (with_reducible refine HIo.out.mono ?_); rintro e W3 ⟨l, v, rfl, ho3, hb3, hio⟩; have k3 : Below W1.heap.size W1 W3 := below_step k2 hb3; have HO3 := Lib.hid ho3; have HIn := Lib.hid hio; clear ho3 hio))
  go_wp2_with fail
  go_ret
  exact ⟨l, v, rfl, own_lower HO3.out (by have h1 := HB1.out.size; have h2 := k2.size; omega), below_step HB1.out k3, .inr ⟨m, hm, vis, rfl, by rw [HFr.out]; exact HBf.out, HIn.out⟩⟩
end Go.Proofs.YtimejkbmfbjomaaGreat
