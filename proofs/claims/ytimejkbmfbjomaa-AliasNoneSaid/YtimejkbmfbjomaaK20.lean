/- Texts, merged by a program; only what is used. -/
import Derived.Deep.RegionHeld3
import Derived.Maps.AppendAt
import Derived.Maps.Range
import Derived.Test.YtimejkbmfbjomaaK1
import Derived.Test.YtimejkbmfbjomaaK2
import Derived.Test.YtimejkbmfbjomaaK3
import Derived.Test.YtimejkbmfbjomaaK4
import Derived.Test.YtimejkbmfbjomaaK5
import Derived.Test.YtimejkbmfbjomaaK6
import Derived.Test.YtimejkbmfbjomaaK7
import Derived.Test.YtimejkbmfbjomaaK8
import Derived.Test.YtimejkbmfbjomaaK9
import Derived.Test.YtimejkbmfbjomaaK10
import Derived.Test.YtimejkbmfbjomaaK11
import Derived.Test.YtimejkbmfbjomaaK12
import Derived.Test.YtimejkbmfbjomaaK13
import Derived.Test.YtimejkbmfbjomaaK14
import Derived.Test.YtimejkbmfbjomaaK15
import Derived.Test.YtimejkbmfbjomaaK16
import Derived.Test.YtimejkbmfbjomaaK17
import Derived.Test.YtimejkbmfbjomaaK18
import Derived.Test.YtimejkbmfbjomaaK19
namespace Go.Proofs.Ytimejkbmfbjomaa
open Go.ChangeShapes Go.WideShapes Go.ChangeAt Go.RowKit Go.Deep
set_option linter.unusedVariables false
set_option linter.unusedSimpArgs false
/-- the variables that the reached ones among these procedures say -/
def sayF (ps : List Pr) (vis : List Pr) (y : ByteArray) : Bool := ps.any (fun f => setF (vis.map Pr.nm) f.nm && setF (saidOf (preSL f.body)) y)
/-- of the procedure at a place: the globals that the reached ones name, in order -/
def GlobOf (p : Pg) (z : Int) (l : List ByteArray) : Prop := (z < 0 ∧ l = []) ∨ ∃ m, ∃ hm : m < p.procs.length, ∃ vis, z = (m : Int) ∧ BfsI p.procs p.procs[m] vis [] ∧ InOrd (fun y => p.globals.any (isT y) && sayF p.procs vis y) l
theorem sayF_take {ps vis : List Pr} {k : Nat} (h : k < ps.length) (y : ByteArray) : sayF (ps.take (k + 1)) vis y = (sayF (ps.take k) vis y || (setF (vis.map Pr.nm) ps[k].nm && setF (saidOf (preSL ps[k].body)) y)) := by
 unfold sayF
 rw [List.take_succ_eq_append_getElem h, List.any_append, List.any_cons, List.any_nil, Bool.or_false]
set_option maxHeartbeats 4000000 in
set_option maxRecDepth 100000 in
theorem tGlobals_any {w : World} {Q : Nat → Prop} {p : Pg} {c0 c1 : Value} (h : ProgI w Q p [c0, c1]) (hsm : SmG p) (hck : chkOK p = true → p.procs.length ≤ 16 ∧ ∀ q ∈ p.procs, (saidOf (preSL q.body)).length ≤ 10000000) (proc : ByteArray) (W : World) (hI : In Q w W) :
 Calls Try.prog 122 #[.agg #[c0, c1], .string proc] W (OrdRow (GlobOf p (jfP p proc)) W) := by
 have HFd := Lib.hid (fun V hV => tfind_any h hsm proc V hV)
 have HSm := Lib.hid (fun q hq => (hsm.proc q hq).1)
 have HPl := Lib.hid hsm.procs
 have HCk : Hid (∀ m : Nat, jfP p proc = m → p.procs.length ≤ 16 ∧ ∀ q ∈ p.procs, (saidOf (preSL q.body)).length ≤ 10000000) := Lib.hid (fun m hm => by
  unfold jfP at hm
  split at hm
  ·rename_i hc; exact hck hc
  ·omega)
 have HGs := Lib.hid hsm.globals
 have HNd : Hid (∀ m : Nat, jfP p proc = m → (p.procs.map Pr.nm).Nodup) := Lib.hid (fun m hm => by
  unfold jfP at hm
  split at hm
  ·rename_i hc; exact (chk_ok (of_decide_eq_true hc)).procs
  ·omega)
 obtain ⟨Ag, cg, Ap, cp, rfl, rfl, _, _, _, _, hgl, hpr⟩ := prog_open h
 have HP := Lib.hid hpr
 have HGl := Lib.hid hgl
 have HI := Lib.hid hI
 clear h hI hpr hgl hsm hck
 have HZ := Lib.hid (jfP_case p proc)
 generalize jfP p proc = z at HFd HZ HNd HCk ⊢
 go_enter Try.func122, Try.ntmps122
 go_upto_region 1 with fail
 have HBp0 : Hid (Blk (W.alloc (.cells #[.slice Ag p.globals.length cg, .slice Ap p.procs.length cp] 25)) W.heap.size 25 #[.slice Ag p.globals.length cg, .slice Ap p.procs.length cp]) := Lib.hid (Blk.new _ _ _)
 have HB0 : Hid (Below W.heap.size W (W.alloc (.cells #[.slice Ag p.globals.length cg, .slice Ap p.procs.length cp] 25))) := Lib.hid (below_box _)
 generalize World.alloc _ _ = V at HBp0 HB0 ⊢
 have HI0 := Lib.hid (HI.out.on HB0.out)
 have HF0 := Lib.hid (HFd.out V HI0.out)
 have hbl := HBp0.out.lt
 generalize hbe : W.heap.size = b at HBp0 hbl ⊢
 have HBe := Lib.hid hbe
 clear hbe
 have q0 : V.cell? ⟨b, 0, none⟩ = some (.slice Ag p.globals.length cg) := by rw [HBp0.out.cell]; rfl
 have q1 : V.cell? ⟨b, 1, none⟩ = some (.slice Ap p.procs.length cp) := by rw [HBp0.out.cell]; rfl
 go_upto_region 2 with (go_at_call 125; refine HF0.out.mono ?_; rintro e W1 ⟨rfl, hb1⟩)
 have HB1 := Lib.hid (below_step HB0.out hb1)
 have HI1 := Lib.hid (HI0.out.on hb1)
 have HBp1 := Lib.hid (HBp0.out.below hb1 hbl)
 clear q0 q1 hb1 HB0 HI0 HBp0 hbl HF0 HFd
 rcases HZ.out with hz | ⟨m, rfl, hm⟩
 ·have HZn := Lib.hid hz
  go_wp2_with fail
  go_ret
  exact ⟨[], _, rfl, World.ownsRow_nil _ _ _ _, HB1.out, .inl ⟨HZn.out, rfl⟩⟩
 ·have hz : ¬ ((m : Int) < 0) := by omega
  obtain ⟨a, Bp, kp, Bv, kv, Bb, kb, Be, ke, rfl, hqa, hrow, hnm, hpp, hvv, hbody, hee⟩ := proc_at HP.out HI1.out hm
  have HPI : Hid (ProcI w Q p.procs[m] [.string p.procs[m].nm, .slice Bp p.procs[m].params.length kp, .slice Bv p.procs[m].vars.length kv, .slice Bb p.procs[m].body.length kb, .slice Be p.procs[m].end_.length ke]) := Lib.hid ⟨_, _, _, _, rfl, hnm, hpp, hvv, hbody, hee⟩
  have HNn := Lib.hid (HNd.out m rfl)
  have HBd : Hid (∀ q ∈ p.procs, (preSL q.body).length ≤ 1000000000) := Lib.hid (fun q hq => by have h1 := HSm.out q hq; have h2 := preSL_lw q.body; omega)
  have HRe := Lib.hid (fun V hV => reached_any (W := V) HP.out HPI.out hV HPl.out (List.getElem_mem hm) HNn.out HBd.out)
  obtain ⟨hp16, hsd⟩ := HCk.out m rfl
  have HSd := Lib.hid hsd
  clear hsd HCk
  have HQb : Hid ((a.add (m * 5)).block < W1.heap.size) := Lib.hid (by rw [block_add]; exact HI1.out.1 _ hqa)
  clear hnm hpp hvv hbody hee hqa HPI HNd
  generalize hfr : p.procs[m] = fr at hrow HRe
  have HFr := Lib.hid hfr
  clear hfr
  generalize fr.nm = x0 at hrow HRe
  generalize fr.params.length = x1 at hrow HRe
  generalize fr.vars.length = x2 at hrow HRe
  generalize fr.body.length = x3 at hrow HRe
  generalize fr.end_.length = x4 at hrow HRe
  obtain ⟨p0, p1, p2, p3, p4, _⟩ := hrow
  have q1 : W1.cell? ⟨b, 1, none⟩ = some (.slice (some a) p.procs.length cp) := by rw [HBp1.out.cell]; rfl
  go_upto_region 4 with fail
  have hb1 := HBp1.out.lt
  have HS1 : Hid (∀ w' : World, Below W1.heap.size W1 w' → (w'.cell? ⟨b, 1, none⟩ = some (.slice (some a) p.procs.length cp) ∧ w'.cell? (a.add (m * 5)) = some (.string x0) ∧ w'.cell? ⟨(a.add (m * 5)).block, (a.add (m * 5)).off + 1, none⟩ = some (.slice Bp x1 kp) ∧ w'.cell? ⟨(a.add (m * 5)).block, (a.add (m * 5)).off + (1 + 1), none⟩ = some (.slice Bv x2 kv) ∧ w'.cell? ⟨(a.add (m * 5)).block, (a.add (m * 5)).off + (1 + 1 + 1), none⟩ = some (.slice Bb x3 kb) ∧ w'.cell? ⟨(a.add (m * 5)).block, (a.add (m * 5)).off + (1 + 1 + 1 + 1), none⟩ = some (.slice Be x4 ke))) := Lib.hid (fun w' hb => ⟨(hb.cell (p := ⟨b, 1, none⟩) hb1).trans q1, (hb.cell (p := a.add (m * 5)) HQb.out).trans p0, (hb.cell (p := ⟨(a.add (m * 5)).block, (a.add (m * 5)).off + 1, none⟩) HQb.out).trans p1, (hb.cell (p := ⟨(a.add (m * 5)).block, (a.add (m * 5)).off + (1 + 1), none⟩) HQb.out).trans p2, (hb.cell (p := ⟨(a.add (m * 5)).block, (a.add (m * 5)).off + (1 + 1 + 1), none⟩) HQb.out).trans p3, (hb.cell (p := ⟨(a.add (m * 5)).block, (a.add (m * 5)).off + (1 + 1 + 1 + 1), none⟩) HQb.out).trans p4⟩)
  have hBD : Below W1.heap.size W1 W1.drew := (Below.refl _ _).drew
  have hdr : ∀ V : World, In Q w V → In Q w V.drew := fun V h => h
  have hm0 : (0 : Int) ≤ (m : Int) := by omega
  have hm1 : (m : Int) < (p.procs.length : Int) := by omega
  have hmm := @run_makeMap Try.prog
  have HRe2 := Lib.hid (fun V (hb : Below W1.heap.size W1 V) => HRe.out V (HI1.out.on hb))
  go_cut [6, 7] from 15 to 23 (fun s6 s7 wx => ∃ b6 b7 vis, s6 = .map (some b6) ∧ s7 = .map (some b7) ∧ W1.heap.size ≤ b6 ∧ W1.heap.size ≤ b7 ∧ b6 ≠ b7 ∧ Hid (SetI wx b6 vis.length (setF (vis.map Pr.nm))) ∧ Hid (SetI wx b7 0 (setF [])) ∧ Hid (BfsI p.procs fr vis []) ∧ Hid (Below W1.heap.size W1 wx))
  case first =>
   go_region_held3 (fun w' => Below W1.heap.size W1 w' ∧ w'.cell? ⟨b, 1, none⟩ = some (.slice (some a) p.procs.length cp) ∧ w'.cell? (a.add (m * 5)) = some (.string x0) ∧ w'.cell? ⟨(a.add (m * 5)).block, (a.add (m * 5)).off + 1, none⟩ = some (.slice Bp x1 kp) ∧ w'.cell? ⟨(a.add (m * 5)).block, (a.add (m * 5)).off + (1 + 1), none⟩ = some (.slice Bv x2 kv) ∧ w'.cell? ⟨(a.add (m * 5)).block, (a.add (m * 5)).off + (1 + 1 + 1), none⟩ = some (.slice Bb x3 kb) ∧ w'.cell? ⟨(a.add (m * 5)).block, (a.add (m * 5)).off + (1 + 1 + 1 + 1), none⟩ = some (.slice Be x4 ke))
    ((refine ⟨?_, HS1.out _ ?_⟩; all_goals repeat (first | (with_reducible assumption) | (with_reducible refine below_stepA ?_ _) | (with_reducible refine Below.drew ?_) | (with_reducible exact Below.refl _ _))))
    ((go_at_call 126; refine (HRe2.out _ (by repeat (first | (with_reducible assumption) | (with_reducible refine below_stepA ?_ _) | (with_reducible refine Below.drew ?_) | (with_reducible exact Below.refl _ _)))).mono ?_; rintro e W2 ⟨b2, vis, rfl, hb2, hs2, hbf, hbl2⟩; have k2 : Below W1.heap.size W1 W2 := below_step (by repeat (first | (with_reducible assumption) | (with_reducible refine below_stepA ?_ _) | (with_reducible refine Below.drew ?_) | (with_reducible exact Below.refl _ _))) hbl2))
   all_goals
    go_wp2_with fail
    go_meet
   ·exact ⟨b2, W2.heap.size, vis, rfl, rfl, hb2, k2.size, fun e => by have := hs2.lt; omega, Lib.hid (hs2.alloc _), Lib.hid ((SetI.made W2).eq (fun s _ => rfl)), Lib.hid hbf, Lib.hid (below_stepA k2 _)⟩
   ·have e1 : (W1.alloc (.map #[] 0)).heap.size = W1.heap.size + 1 := by simp
    have h2 : (W1.alloc (.map #[] 0)).heap.size ≤ b2 := hb2
    exact ⟨b2, W1.heap.size, vis, rfl, rfl, by omega, Nat.le_refl _, by omega, Lib.hid hs2, Lib.hid ((((SetI.made W1).same (W' := (W1.alloc (.map #[] 0)).drew) rfl).below hbl2 (by show W1.heap.size < (W1.alloc (.map #[] 0)).heap.size; omega)).eq (fun s _ => rfl)), Lib.hid hbf, Lib.hid k2⟩
  case rest =>
   obtain ⟨b6, b7, vis, rfl, rfl, h61, h71, h67, HS6, HS7, HBf, HBc⟩ := hcut
   have HBpc := Lib.hid (HBp1.out.below HBc.out hb1)
   clear p0 p1 p2 p3 p4 q1 HS1 HRe HRe2 hBD hdr hmm HQb
   have q1 : wc.cell? ⟨b, 1, none⟩ = some (.slice (some a) p.procs.length cp) := by rw [HBpc.out.cell]; rfl
   go_upto_region 6 with fail
   clear q1 HBpc
   have HS70 : Hid (SetI wc b7 0 (sayF (p.procs.take 0) vis)) := Lib.hid (HS7.out.eq (fun s _ => rfl))
   have HVl : Hid (vis.length ≤ 1000000000) := Lib.hid (vis_le HBf.out HPl.out)
   generalize wc = u0 at *
   go_loopg [27] p.procs.length (fun kk i wr => ∃ (k n : Nat), k + kk = p.procs.length ∧ i = .int .i64 k ∧ n ≤ k * 10000000 ∧ Hid (SetI wr b6 vis.length (setF (vis.map Pr.nm))) ∧ Hid (SetI wr b7 n (sayF (p.procs.take k) vis)) ∧ Hid (Below W1.heap.size W1 wr))
   case atStart => exact ⟨0, 0, by omega, rfl, by omega, HS6, HS70, HBc⟩
   case round =>
    clear HS6 HS7 HS70 HBc
    obtain ⟨k, n, hk, rfl, hnk, HS6, HS7, HBr⟩ := hrel
    have HIr := Lib.hid (HI1.out.on HBr.out)
    by_cases hlt : k < p.procs.length
    ·obtain ⟨a2, Cp, jp, Cv, jv, Cb, jb, Ce, je, ha2, hqa, hrow, hnm, hpp, hvv, hbody, hee⟩ := proc_at HP.out HIr.out hlt
     injection ha2 with ha2
     subst ha2
     have HPk : Hid (ProcI w Q p.procs[k] [.string p.procs[k].nm, .slice Cp p.procs[k].params.length jp, .slice Cv p.procs[k].vars.length jv, .slice Cb p.procs[k].body.length jb, .slice Ce p.procs[k].end_.length je]) := Lib.hid ⟨_, _, _, _, rfl, hnm, hpp, hvv, hbody, hee⟩
     have hsz : p.procs[k].nm.size ≤ maxLen := hnm
     have hsk := HSd.out _ (List.getElem_mem hlt)
     have HTk := Lib.hid (fun y => sayF_take (vis := vis) hlt y)
     generalize p.procs[k] = kq at hrow HPk hsz hsk HTk
     clear hnm hpp hvv hbody hee hqa
     obtain ⟨p0, p1, p2, p3, p4, _⟩ := hrow
     go_upto_region 8 with fail
     have HBi : Hid (Blk (wr.alloc (.cells #[.string kq.nm, .slice Cp kq.params.length jp, .slice Cv kq.vars.length jv, .slice Cb kq.body.length jb, .slice Ce kq.end_.length je] 45)) wr.heap.size 45 #[.string kq.nm, .slice Cp kq.params.length jp, .slice Cv kq.vars.length jv, .slice Cb kq.body.length jb, .slice Ce kq.end_.length je]) := Lib.hid (Blk.new _ _ _)
     have HS6n : Hid (SetI (wr.alloc (.cells #[.string kq.nm, .slice Cp kq.params.length jp, .slice Cv kq.vars.length jv, .slice Cb kq.body.length jb, .slice Ce kq.end_.length je] 45)) b6 vis.length (setF (vis.map Pr.nm))) := Lib.hid (HS6.out.alloc _)
     have HS7n : Hid (SetI (wr.alloc (.cells #[.string kq.nm, .slice Cp kq.params.length jp, .slice Cv kq.vars.length jv, .slice Cb kq.body.length jb, .slice Ce kq.end_.length je] 45)) b7 n (sayF (p.procs.take k) vis)) := Lib.hid (HS7.out.alloc _)
     have HBn : Hid (Below W1.heap.size W1 (wr.alloc (.cells #[.string kq.nm, .slice Cp kq.params.length jp, .slice Cv kq.vars.length jv, .slice Cb kq.body.length jb, .slice Ce kq.end_.length je] 45))) := Lib.hid (below_stepA HBr.out _)
     have HIn : Hid (In Q w (wr.alloc (.cells #[.string kq.nm, .slice Cp kq.params.length jp, .slice Cv kq.vars.length jv, .slice Cb kq.body.length jb, .slice Ce kq.end_.length je] 45))) := Lib.hid (HIr.out.alloc _)
     clear p0 p1 p2 p3 p4 HS6 HS7 HBr HIr
     generalize World.alloc wr _ = U at HBi HS6n HS7n HBn HIn ⊢
     generalize wr.heap.size = bi at HBi ⊢
     have y0 : U.cell? ⟨bi, 0, none⟩ = some (.string kq.nm) := by rw [HBi.out.cell]; rfl
     have y1 : U.cell? ⟨bi, 1, none⟩ = some (.slice Cp kq.params.length jp) := by rw [HBi.out.cell]; rfl
     have y2 : U.cell? ⟨bi, 2, none⟩ = some (.slice Cv kq.vars.length jv) := by rw [HBi.out.cell]; rfl
     have y3 : U.cell? ⟨bi, 3, none⟩ = some (.slice Cb kq.body.length jb) := by rw [HBi.out.cell]; rfl
     have y4 : U.cell? ⟨bi, 4, none⟩ = some (.slice Ce kq.end_.length je) := by rw [HBi.out.cell]; rfl
     have hlk1 := HS6n.out.look und_t kq.nm hsz
     have hn9 : n + (saidOf (preSL kq.body)).length ≤ 1000000000 := by omega
     have HVa := Lib.hid (tvars_any HPk.out HIn.out (by omega))
     cases e1 : setF (vis.map Pr.nm) kq.nm with
     | false =>
      rw [e1] at hlk1
      have HE1 : Hid (∀ y, sayF (p.procs.take (k + 1)) vis y = sayF (p.procs.take k) vis y) := Lib.hid (fun y => by rw [HTk.out, e1]; simp)
      clear e1
      go_wp2_with fail
      go_roundg (p.procs.length - k - 1)
      case measure => omega
      case rel => exact ⟨k + 1, n, by omega, by go_num, Nat.le_trans hnk (Nat.mul_le_mul_right _ (Nat.le_succ k)), HS6n, Lib.hid (HS7n.out.eq (fun s _ => (HE1.out s).symm)), HBn⟩
     | true =>
      rw [e1] at hlk1
      have HE1 : Hid (∀ y, sayF (p.procs.take (k + 1)) vis y = (sayF (p.procs.take k) vis y || setF (saidOf (preSL kq.body)) y)) := Lib.hid (fun y => by rw [HTk.out, e1]; simp)
      clear e1
      go_wp2_with (first
       | (go_at_call 128; refine HVa.out.mono ?_; rintro e W4 ⟨b8, rfl, hb8, hs8, hbl8⟩; have HS84 := Lib.hid hs8; have HS74 := Lib.hid (HS7n.out.below hbl8 HS7n.out.lt); have HS64 := Lib.hid (HS6n.out.below hbl8 HS6n.out.lt); have HB4 := Lib.hid (below_step HBn.out hbl8); have h78 : b7 ≠ b8 := (fun e => by have := HS7n.out.lt; omega); clear hs8 hbl8)
       | (go_at_call 127; refine (mapsCopy_any HS74.out HS84.out h78 hn9).mono ?_; rintro e W5 ⟨rfl, hs5, hm5⟩; have HS75 := Lib.hid hs5; have HS65 := Lib.hid (HS64.out.same (hm5.block b6 HS64.out.lt h67)); have HB5 := Lib.hid (HB4.out.trans (hm5.below HB4.out.size (fun j hj => by omega))); clear hs5 hm5))
      go_roundg (p.procs.length - k - 1)
      case measure => omega
      case rel => exact ⟨k + 1, n + (saidOf (preSL kq.body)).length, by omega, by go_num, (by rw [Nat.add_mul, Nat.one_mul]; exact Nat.add_le_add hnk hsk), HS65, Lib.hid (HS75.out.eq (fun s _ => (HE1.out s).symm)), HB5⟩
    ·obtain rfl : k = p.procs.length := by omega
     have HBpr := Lib.hid (HBp1.out.below HBr.out hb1)
     have q0 : wr.cell? ⟨b, 0, none⟩ = some (.slice Ag p.globals.length cg) := by rw [HBpr.out.cell]; rfl
     rw [List.take_length] at HS7
     have hgl : p.globals.length ≤ 1000000 := by have h1 := HGs.out; have h2 := wT_len p.globals; omega
     have HBo := Lib.hid (both_any HS7.out HGl.out HIr.out (by omega))
     have HSm9 : Hid (∀ s : ByteArray, s.size ≤ maxLen → (p.globals.any (isT s) && sayF p.procs vis s) = true → s.size ≤ 281474976710656) := Lib.hid (fun s _ h => by
      rw [Bool.and_eq_true, List.any_eq_true] at h
      obtain ⟨⟨x, hx, e⟩, _⟩ := h
      have e2 : s = x := of_decide_eq_true e
      have h1 := HGs.out
      have h2 := wT_mem hx
      rw [e2]
      omega)
     go_wp2_with (first
      | (go_at_call 130; refine HBo.out.mono ?_; rintro e W6 ⟨b9, rfl, hb9, hs9, hbl9⟩; have HS9 := Lib.hid hs9; have HB6 := Lib.hid (below_step HBr.out hbl9); clear hs9 hbl9)
      | (go_at_call 129; refine (inOrder_any HS9.out (by omega) HSm9.out).mono ?_; rintro e W7 ⟨l, v, rfl, ho7, hb7, hio⟩; have HO7 := Lib.hid ho7; have HB7 := Lib.hid hb7; have HIn := Lib.hid hio; clear ho7 hb7 hio))
     go_ret
     exact ⟨l, v, rfl, own_lower HO7.out (by have h1 := HB1.out.size; have h2 := HB6.out.size; omega), below_step HB1.out (below_step HB6.out HB7.out), .inr ⟨m, hm, vis, rfl, by rw [HFr.out]; exact HBf.out, HIn.out⟩⟩
end Go.Proofs.Ytimejkbmfbjomaa
namespace Go.Proofs.Ytimejkbmfbjomaa
open Go.ChangeShapes Go.WideShapes Go.ChangeAt Go.RowKit Go.Deep
set_option linter.unusedVariables false
theorem empty_smG : SmG ⟨[], []⟩ := ⟨by decide, by decide, fun q hq => absurd hq (by simp)⟩
end Go.Proofs.Ytimejkbmfbjomaa
namespace Go.Proofs.Ytimejkbmfbjomaa
open Go.ChangeShapes Go.WideShapes Go.ChangeAt Go.RowKit Go.Deep
set_option linter.unusedVariables false
set_option linter.unusedSimpArgs false
theorem some_hck : chkOK someP = true → someP.procs.length ≤ 16 ∧ ∀ q ∈ someP.procs, (saidOf (preSL q.body)).length ≤ 10000000 := fun _ => by
 refine ⟨by decide, fun q hq => ?_⟩
 simp only [someP, List.mem_cons, List.not_mem_nil, or_false] at hq
 rcases hq with rfl | rfl
 ·exact of_decide_eq_true (by decide +kernel)
 ·exact of_decide_eq_true (by decide +kernel)
end Go.Proofs.Ytimejkbmfbjomaa
namespace Go.Proofs.Ytimejkbmfbjomaa
open Go.ChangeShapes Go.WideShapes Go.ChangeAt Go.RowKit Go.Deep
set_option linter.unusedVariables false
set_option linter.unusedSimpArgs false
theorem AlI.slice {w W wr : World} {Q : Nat → Prop} {out : List It} {X : Option Addr} {n c : Nat} (h : AlI w Q W wr out X n c) : n = out.length ∧ n ≤ c ∧ c ≤ 9223372036854775807 ∧ SliceI wr (fun b => W.heap.size ≤ b ∧ b < wr.heap.size) 16 (ItemI w Q) out (.slice X n c) := by
 obtain ⟨rows, ho, ha⟩ := h.row
 obtain ⟨X', c', he, h1, h2⟩ := own_shape ho
 injection he with e1 e2 e3
 subst e1 e2 e3
 exact ⟨rfl, h1, h2, slice_of_own ho ha (fun x cs h => (item_one h).1)⟩
end Go.Proofs.Ytimejkbmfbjomaa
namespace Go.Proofs.Ytimejkbmfbjomaa
open Go.ChangeShapes Go.WideShapes Go.ChangeAt Go.RowKit Go.Deep
set_option linter.unusedVariables false
set_option linter.unusedSimpArgs false
theorem allL_map : ∀ (l : List Pr) (out : List It), (∀ q ∈ l, (flatOf q).map It.s = preSL q.body) → out.length + cntL l ≤ 200 → (allL l out).map It.s = out.map It.s ++ l.flatMap (fun q => preSL q.body)
 | [], out, _, _ => by rw [allL]; simp
 | q :: l, out, h, hn => by
  have hq := h q (List.mem_cons_self ..)
  have hl : (flatOf q).length = (preSL q.body).length := by rw [← hq, List.length_map]
  rw [cntL] at hn
  rw [allL, if_neg (by rw [List.length_append]; omega), allL_map l _ (fun q hq => h q (List.mem_cons_of_mem _ hq)) (by rw [List.length_append]; omega), List.map_append, hq, List.flatMap_cons, List.append_assoc]
theorem all_map {p : Pg} (h : mayP p = true) : (allOf p).map It.s = p.procs.flatMap (fun q => preSL q.body) := by
 obtain ⟨h1, h2, _⟩ := may_flat h
 have := allL_map p.procs [] (fun q hq => (h1 q hq).1) (by simpa [cntP] using h2)
 simpa [allOf] using this
end Go.Proofs.Ytimejkbmfbjomaa
namespace Go.Proofs.Ytimejkbmfbjomaa
open Go.ChangeShapes Go.WideShapes Go.ChangeAt Go.RowKit Go.Deep
set_option linter.unusedVariables false
set_option linter.unusedSimpArgs false
theorem jf_at {p : Pg} (hc : chkOK p = true) (hn : (p.procs.map Pr.nm).Nodup) {q : Pr} (hq : q ∈ p.procs) : ∃ m, ∃ hm : m < p.procs.length, jfP p q.nm = m ∧ p.procs[m] = q := by
 unfold jfP
 rw [if_pos hc]
 have hf := find_own p.procs hn q hq
 rcases idxL_get (isQ q.nm) p.procs 0 with ⟨h1, h2⟩ | ⟨j, hj, h1, h2, h3⟩
 ·rw [hf] at h2; cases h2
 ·refine ⟨j, hj, by rw [h1]; simp, ?_⟩
  rw [hf] at h3
  injection h3 with h3
  exact h3.symm
end Go.Proofs.Ytimejkbmfbjomaa
namespace Go.Proofs.Ytimejkbmfbjomaa
open Go.ChangeShapes Go.WideShapes Go.ChangeAt Go.RowKit Go.Deep
set_option linter.unusedVariables false
set_option linter.unusedSimpArgs false
theorem InOrd.mem {f : ByteArray → Bool} {l : List ByteArray} (h : InOrd f l) (s : ByteArray) : s ∈ l ↔ s.size ≤ maxLen ∧ f s = true := by
 obtain ⟨ss, rfl, _, h2⟩ := h.out
 rw [List.mem_map]
 constructor
 ·rintro ⟨x, hx, rfl⟩
  rw [List.mem_mergeSort] at hx
  obtain ⟨h3, h4⟩ := (h2 x).1 hx
  exact ⟨by rw [ba_size]; exact h3, h4⟩
 ·rintro ⟨h3, h4⟩
  exact ⟨s.data.toList, List.mem_mergeSort.2 ((h2 _).2 ⟨by rw [← ba_size, ← ba_of]; exact h3, by rw [← ba_of]; exact h4⟩), (ba_of s).symm⟩
theorem glob_mem {p : Pg} (h : ChOk p) (hc : chkOK p = true) {q : Pr} (hq : q ∈ p.procs) {l : List ByteArray} (ha : GlobOf p (jfP p q.nm) l) (s : ByteArray) : s ∈ l ↔ s.size ≤ maxLen ∧ s ∈ p.globals ∧ ∃ f ∈ p.procs, RchP p.procs q f ∧ s ∈ saidOf (preSL f.body) := by
 obtain ⟨m, hm, h1, h2⟩ := jf_at hc h.procs hq
 rw [h1] at ha
 rcases ha with ⟨h3, _⟩ | ⟨m2, hm2, vis, h3, hb, hi⟩
 ·omega
 ·obtain rfl : m = m2 := by omega
  rw [h2] at hb
  rw [hi.mem, Bool.and_eq_true]
  refine and_congr_right fun _ => and_congr ?_ ?_
  ·simp [isT]
  ·unfold sayF
   rw [List.any_eq_true]
   constructor
   ·rintro ⟨f, hf, h4⟩
    rw [Bool.and_eq_true, setF_mem2, setF_mem2] at h4
    obtain ⟨g, hg, hr, e⟩ := (hb.end_ h.procs _).1 h4.1
    obtain rfl := nm_inj h.procs hg hf e
    exact ⟨g, hf, hr, h4.2⟩
   ·rintro ⟨f, hf, hr, h4⟩
    refine ⟨f, hf, ?_⟩
    rw [Bool.and_eq_true, setF_mem2, setF_mem2]
    exact ⟨(hb.end_ h.procs _).2 ⟨f, hf, hr, rfl⟩, h4⟩
end Go.Proofs.Ytimejkbmfbjomaa
namespace Go.Proofs.Ytimejkbmfbjomaa
open Go.ChangeShapes Go.WideShapes Go.ChangeAt Go.RowKit Go.Deep
set_option linter.unusedVariables false
set_option linter.unusedSimpArgs false
theorem in_slf (A : Nat) (W9 : World) : In (fun b => A ≤ b ∧ b < W9.heap.size) W9 W9 := ⟨fun j h => h.2, fun _ _ => rfl⟩
end Go.Proofs.Ytimejkbmfbjomaa
namespace Go.Proofs.Ytimejkbmfbjomaa
open Go.ChangeShapes Go.WideShapes Go.ChangeAt Go.RowKit Go.Deep
open Go.Maps (Keyed has IsMap)
set_option linter.unusedVariables false
set_option linter.unusedSimpArgs false
theorem und_ms : Try.prog.underlying 93 = some (.map 9 22) := by kernel_rfl
theorem zero_ms (w : World) : (zeroValue 22).run Try.prog w = .ok (.slice none 0 0) w := by kernel_rfl
/-- an element reads as itself -/
def heldE (v : Value) : Option (DataW Value × List MemPlace) := some (.held v, [])
/-- block b is a map of at most n texts: those of which f is some -/
def MapI (W : World) (b n : Nat) (f : ByteArray → Option Value) : Prop := ∃ D : DataW Value, W.ownsMap Try.prog 9 heldE b n D ∧ ∀ s : ByteArray, s.size ≤ maxLen → D.atKey (kS s) (.held (.slice none 0 0)) = .held ((f s).getD (.slice none 0 0)) ∧ has D (kS s) = (f s).isSome
theorem MapI.lt {W : World} {b n : Nat} {f : ByteArray → Option Value} (h : MapI W b n f) : b < W.heap.size := by obtain ⟨D, h1, _⟩ := h; exact h1.lt
theorem MapI.mono {W : World} {b n m : Nat} {f : ByteArray → Option Value} (h : MapI W b n f) (hm : n ≤ m) : MapI W b m f := by obtain ⟨D, h1, h2⟩ := h; exact ⟨D, h1.mono hm, h2⟩
theorem MapI.made (W : World) : MapI (W.alloc (.map #[] 0)) W.heap.size 0 (fun _ => none) := ⟨.map [], World.ownsMap_made _ _ _ _, fun s _ => ⟨rfl, rfl⟩⟩
theorem MapI.same {W W' : World} {b n : Nat} {f : ByteArray → Option Value} (h : MapI W b n f) (hb : W'.heap[b]? = W.heap[b]?) : MapI W' b n f := by
 obtain ⟨D, ⟨es, clock, h1, h3⟩, h2⟩ := h
 exact ⟨D, ⟨es, clock, hb.trans h1, h3⟩, h2⟩
theorem MapI.obj {W : World} {b n : Nat} {f : ByteArray → Option Value} (h : MapI W b n f) : ∃ es clock, W.heap[b]? = some (.map es clock) := by
 obtain ⟨D, ⟨es, clock, h1, _⟩, _⟩ := h
 exact ⟨es, clock, h1⟩
theorem MapI.look {W : World} {b n : Nat} {f : ByteArray → Option Value} (h : MapI W b n f) {t : TypeId} (ht : Try.prog.underlying t = some (.map 9 22)) (s : ByteArray) (hs : s.size ≤ maxLen) : (Instr.lookup t (.map (some b)) (.string s) true).run Try.prog W = .ok (.tuple #[(f s).getD (.slice none 0 0), .bool (f s).isSome]) W := by
 obtain ⟨D, h1, h2⟩ := h
 obtain ⟨v, ps, h3, h4⟩ := h1.look_ok (Maps.string_keyed und_s) ht (zero_ms W) (zd := .held (.slice none 0 0)) (zp := []) rfl (kS_key s hs)
 rw [(h2 s hs).1] at h4
 rw [(h2 s hs).2] at h3
 have e : v = (f s).getD (.slice none 0 0) := DataW.held.inj (congrArg Prod.fst (Option.some.inj h4))
 rw [e] at h3
 exact h3
theorem MapI.put {W : World} {b n : Nat} {f : ByteArray → Option Value} (h : MapI W b n f) {t : TypeId} (ht : Try.prog.underlying t = some (.map 9 22)) (hn : n < maxLen) (s : ByteArray) (hs : s.size ≤ maxLen) (v : Value) : ∃ W', (Instr.mapUpdate t (.map (some b)) (.string s) v).run Try.prog W = .ok () W' ∧ MapI W' b (n + 1) (fun x => if x = s then some v else f x) ∧ W.grownBy W' (some b) := by
 obtain ⟨D, h1, h2⟩ := h
 have him : IsMap D := by obtain ⟨es, clock, _, _, _, rfl⟩ := h1; exact ⟨_, rfl⟩
 obtain ⟨W', h3, h4, h5⟩ := h1.update (Maps.string_keyed und_s) ht hn (kS_key s hs) (val := v) (d := .held v) (ps := []) rfl
 refine ⟨W', h3, ⟨_, h4, fun x hx => ?_⟩, h5⟩
 by_cases hxs : x = s
 ·subst hxs
  rw [Maps.atKey_put_same him (show WideAt.IsKeyLit (kS x) from trivial), Maps.has_put_same him (show WideAt.IsKeyLit (kS x) from trivial)]
  simp
 ·rw [Maps.atKey_put_other (kS_ne hxs), Maps.has_put_other (kS_ne hxs), (h2 x hx).1, (h2 x hx).2]
  simp [hxs]
/-- 'm[k] = v' at the operation -/
theorem wpList_mapPut {W : World} {ops : Array Oper} {rest : List Oper} {o : Oper} {a : Act} {R : Exit → Act → World → Prop}
 (hg : o.guard = none) (m x v : Operand) (t : TypeId) (hop : o.op = Op.mapUpdate t m x v) (ht : Try.prog.underlying t = some (.map 9 22)) (b n : Nat) (f : ByteArray → Option Value)
 (hm : a.eval m = .map (some b)) (hown : MapI W b n f) (hn : n < maxLen) (s : ByteArray) (hs : s.size ≤ maxLen) (hx : a.eval x = .string s) (u : Value) (hv : a.eval v = u)
 (hK : ∀ W', MapI W' b (n + 1) (fun x => if x = s then some u else f x) → W.grownBy W' (some b) → wpList Try.prog ops R rest (a.put o.dst undef) W') :
 wpList Try.prog ops R (o :: rest) a W := by
 refine wpList_plain hg fun K' hK' => ?_
 obtain ⟨W', hrun, r1, r2⟩ := hown.put ht hn s hs u
 unfold Oper.wp
 simp [execOp, hop, hm, hx, hv, hrun, Result.andThen]
 exact hK' _ _ (hK W' r1 r2)
/-- the answers that are kept: each a row that was made since B, the globals that the procedure touches -/
def CkI (p : Pg) (B : Nat) (W : World) (m n : Nat) : Prop := ∃ f, MapI W m n f ∧ ∀ s v, f s = some v → ∃ l X k, v = .slice X l.length k ∧ W.ownsRow B 9 1 (.slice X l.length k) l.length (strs l) ∧ GlobOf p (jfP p s) l
theorem CkI.lt {p : Pg} {B : Nat} {W : World} {m n : Nat} (h : CkI p B W m n) : m < W.heap.size := by obtain ⟨f, h1, _⟩ := h; exact h1.lt
theorem CkI.mono {p : Pg} {B : Nat} {W : World} {m n k : Nat} (h : CkI p B W m n) (hk : n ≤ k) : CkI p B W m k := by obtain ⟨f, h1, h2⟩ := h; exact ⟨f, h1.mono hk, h2⟩
theorem own_not_map {W : World} {B : Nat} {e : TypeId} {n : Nat} {v : Value} {xs : List Value} (h : W.ownsRow B e 1 v n xs) {m k : Nat} {f : ByteArray → Option Value} (hm : MapI W m k f) : ∀ j, v.ownBlock = some j → j ≠ m := by
 intro j hj e'
 obtain ⟨es, cl, ho⟩ := hm.obj
 rcases h.2 with ⟨rfl, _⟩ | ⟨g, cap, cur, rfl, _, hg, _⟩
 ·simp [Value.ownBlock] at hj
 ·simp [Value.ownBlock] at hj
  subst hj e'
  rw [hg] at ho
  cases ho
theorem CkI.step {p : Pg} {B : Nat} {W W' : World} {m n : Nat} (h : CkI p B W m n) (hb : Below W.heap.size W W') : CkI p B W' m n := by
 obtain ⟨f, h1, h2⟩ := h
 refine ⟨f, h1.same (hb.block m h1.lt), fun s v hs => ?_⟩
 obtain ⟨l, X, k, e, ho, hg⟩ := h2 s v hs
 exact ⟨l, X, k, e, (Below.moves hb).row ho (fun j hj e => Nat.not_lt.2 e (ho.lt j hj).2), hg⟩
theorem SliceI.take {α : Type} {w : World} {Q : Nat → Prop} {C : Nat} {R : α → List Value → Prop} {l : List α} {A : Option Addr} {n cap : Nat} (h : SliceI w Q C R l (.slice A n cap)) {k : Nat} (hk : k ≤ l.length) : SliceI w Q C R (l.take k) (.slice A k cap) := by
 obtain ⟨A', cap', css, h1, h2, h3, h4⟩ := h
 injection h1 with e1 e2 e3
 subst e1 e2 e3
 refine ⟨A, cap, css, by rw [List.length_take, Nat.min_eq_left hk], ⟨by rw [List.length_take]; omega, h2.2⟩, fun h0 => ?_, fun i hi => ?_⟩
 ·have h5 : 0 < l.length := by rw [List.length_take] at h0; omega
  obtain ⟨a, ha, hq, hcs⟩ := h3 h5
  exact ⟨a, ha, hq, fun i hi => hcs i (by rw [List.length_take] at hi; omega)⟩
 ·rw [List.getElem_take]
  exact h4 i (by rw [List.length_take] at hi; omega)
end Go.Proofs.Ytimejkbmfbjomaa
namespace Go.Proofs.Ytimejkbmfbjomaa
open Go.ChangeShapes Go.WideShapes Go.ChangeAt Go.RowKit Go.Deep
set_option linter.unusedVariables false
set_option linter.unusedSimpArgs false
def refV (a : Ar) : List ByteArray := if a.ref = true then [a.nm] else []
def refsOf (args : List Ar) : List ByteArray := args.flatMap refV
theorem refsOf_len (args : List Ar) : (refsOf args).length ≤ args.length := by
 induction args with
 | nil => simp [refsOf]
 | cons a l ih =>
  have e : refsOf (a :: l) = refV a ++ refsOf l := rfl
  have h : (refV a).length ≤ 1 := by unfold refV; split <;> simp
  rw [e, List.length_append, List.length_cons]
  omega
set_option maxHeartbeats 4000000 in
set_option maxRecDepth 100000 in
theorem handedIn_any {w : World} {Q : Nat → Prop} {s : S} {cs : List Value} (h : StmtI w Q s cs) (hn : s.args.length ≤ 1000000) (W : World) (hI : In Q w W) :
 Calls Try.prog 111 #[.agg cs.toArray] W (NewRow (refsOf s.args) W) := by
 obtain ⟨id, kind, labels, nm, proc, x, has, args, th, el, L, lc, x0, x1, x2, X, xn, xc, R, rc, T, tc, U, uc, rfl, rfl, hid, hkind, hnm, hproc, hl, hx, ha, hth, hel⟩ := stmt_open h
 have HA := Lib.hid ha
 have HI := Lib.hid hI
 have HN : Hid ((refsOf args).length ≤ 1000000) := Lib.hid (Nat.le_trans (refsOf_len args) hn)
 have hok := hkind
 unfold i64 at hok
 obtain ⟨i0, hi0, hz0, hz1, hz2⟩ := info_parts string_info
 obtain ⟨_, har, hrc, _⟩ := slice_len ha
 clear h hn hI hl hx ha hth hel hid hkind hnm hproc
 simp only [List.toArray]
 show Calls _ _ _ _ (NewRow (refsOf args) W)
 go_enter Try.func111, Try.ntmps111
 go_upto_region 1 with fail
 have HBp : Hid (Blk (W.alloc (.cells #[.int .i64 id, .int .i64 kind, .slice L labels.length lc, .string nm, .string proc, .int .i64 x0, .int .i64 x1, .string x2, .slice X xn xc, .bool has, .slice R args.length rc, .slice T th.length tc, .slice U el.length uc] 55)) W.heap.size 55 #[.int .i64 id, .int .i64 kind, .slice L labels.length lc, .string nm, .string proc, .int .i64 x0, .int .i64 x1, .string x2, .slice X xn xc, .bool has, .slice R args.length rc, .slice T th.length tc, .slice U el.length uc]) := Lib.hid (Blk.new _ _ _)
 have HB0 : Hid (Below W.heap.size W (W.alloc (.cells #[.int .i64 id, .int .i64 kind, .slice L labels.length lc, .string nm, .string proc, .int .i64 x0, .int .i64 x1, .string x2, .slice X xn xc, .bool has, .slice R args.length rc, .slice T th.length tc, .slice U el.length uc] 55))) := Lib.hid (below_box _)
 generalize World.alloc _ _ = V at HBp HB0 ⊢
 generalize W.heap.size = b at HBp ⊢
 have HI0 := Lib.hid (HI.out.on HB0.out)
 have hbl := HBp.out.lt
 have q10 : V.cell? ⟨b, 10, none⟩ = some (.slice R args.length rc) := by rw [HBp.out.cell]; rfl
 go_upto_region 3 with fail
 clear q10
 go_loopg [3, 9] args.length (fun kk ov iv wr => ∃ (k : Nat) (Xr : Option Addr) (n c : Nat), k + kk = args.length ∧ iv = .int .i64 k ∧ ov = .slice Xr n c ∧ n = (refsOf (args.take k)).length ∧ Hid (NmI V wr (refsOf (args.take k)) Xr n c))
 case atStart => exact ⟨0, none, 0, 0, by omega, rfl, rfl, rfl, Lib.hid ⟨World.ownsRow_nil _ _ _ _, Below.refl _ _⟩⟩
 case round =>
  obtain ⟨k, Xr, n, c, hk, rfl, rfl, hnl, HR⟩ := hrel
  have HIr := Lib.hid (HI0.out.on HR.out.below)
  by_cases hlt : k < args.length
  ·obtain ⟨a, o1, n1, s1, A1, l1, k1, rfl, _, ⟨p0, p1, p2, p3, p4, p5, _⟩, hs, hxa⟩ := arg_at HA.out HIr.out hlt
   have HT : Hid (refsOf (args.take (k + 1)) = refsOf (args.take k) ++ refV args[k]) := Lib.hid (flat_take hlt)
   have HNk : Hid (n + (refV args[k]).length ≤ 1000000) := Lib.hid (by
    have h1 := flat_take_le (f := refV) (l := args) (k := k + 1)
    have h2 := HN.out
    have h3 := HT.out
    unfold refsOf at h2 h3 hnl
    rw [h3, List.length_append] at h1
    omega)
   have HLk : Hid (n = (refsOf (args.take k)).length) := Lib.hid hnl
   generalize refsOf (args.take k) = pre at HR HT HLk
   have HV2 : Hid (refV args[k] = if args[k].ref = true then [args[k].nm] else []) := Lib.hid rfl
   generalize args[k] = y at p0 p1 hs HT HNk HV2
   clear hxa hnl
   obtain ⟨xr, xnm, xx⟩ := y
   simp only at p0 p1 hs HV2
   go_upto_region 5 with fail
   have HBx : Hid (Blk (wr.alloc (.cells #[.bool xr, .string xnm, .int .i64 o1, .int .i64 n1, .string s1, .slice A1 l1 k1] 59)) wr.heap.size 59 #[.bool xr, .string xnm, .int .i64 o1, .int .i64 n1, .string s1, .slice A1 l1 k1]) := Lib.hid (Blk.new _ _ _)
   have HO4 : Hid ((wr.alloc (.cells #[.bool xr, .string xnm, .int .i64 o1, .int .i64 n1, .string s1, .slice A1 l1 k1] 59)).ownsRow V.heap.size 9 1 (.slice Xr n c) n (strs pre)) := Lib.hid (HR.out.row.alloc _)
   have HB4 : Hid (Below V.heap.size V (wr.alloc (.cells #[.bool xr, .string xnm, .int .i64 o1, .int .i64 n1, .string s1, .slice A1 l1 k1] 59))) := Lib.hid (below_stepA HR.out.below _)
   clear p0 p1 p2 p3 p4 p5 HIr HR
   generalize World.alloc wr _ = V4 at HBx HO4 HB4 ⊢
   generalize wr.heap.size = bx at HBx ⊢
   have z0 : V4.cell? ⟨bx, 0, none⟩ = some (.bool xr) := by rw [HBx.out.cell]; rfl
   have z1 : V4.cell? ⟨bx, 1, none⟩ = some (.string xnm) := by rw [HBx.out.cell]; rfl
   cases xr with
   | false =>
    have HK2 : Hid (refsOf (args.take (k + 1)) = pre) := Lib.hid (by rw [HT.out, HV2.out]; simp)
    have HS : Hid (NmI V V4 (refsOf (args.take (k + 1))) Xr n c) := Lib.hid (by rw [HK2.out]; exact ⟨HO4.out, HB4.out⟩)
    go_wp2_with fail
    go_roundg (args.length - k - 1)
    case measure => omega
    case rel => exact ⟨k + 1, Xr, n, c, by omega, by go_num, rfl, by rw [HK2.out]; exact HLk.out, HS⟩
   | true =>
    have HK2 : Hid (refsOf (args.take (k + 1)) = pre ++ [xnm]) := Lib.hid (by rw [HT.out, HV2.out]; simp)
    have hn1 : n + 1 ≤ 1000000 := by have h := HNk.out; rw [HV2.out] at h; simpa using h
    have HW := Lib.hid (new_one V4 xnm)
    have HO5 : Hid ((V4.alloc (.cells #[.string xnm] 9)).ownsRow V.heap.size 9 1 (.slice Xr n c) n (strs pre)) := Lib.hid (HO4.out.alloc _)
    have HB5 : Hid (Below V.heap.size V (V4.alloc (.cells #[.string xnm] 9))) := Lib.hid (below_stepA HB4.out _)
    go_wp2_with (at_builtin; refine wpList_append_own_at _ rfl (.tmp 15) (.tmp 18) 22 rfl V.heap.size 9 i0 _ 1 16 Try.underlying22 hi0 hz0 hz1 hz2 rfl (by decide) _ n (strs pre) rfl HO5.out ⟨V4.heap.size, 0, none⟩ 1 1 [.string xnm] rfl rfl HW.out (by simp [Value.oneCell']) (by unfold maxLen; omega) (by omega) HB5.out.size ?_; intro v6 w7 hown6 hg6 _ hat6; obtain ⟨X6, k6, rfl, _, _⟩ := own_shape hown6; have HS : Hid (NmI V w7 (refsOf (args.take (k + 1))) X6 (n + 1) k6) := Lib.hid ⟨by rw [HK2.out, strs_append]; exact hown6, HB5.out.grown hg6 HB5.out.size (fun j hj => (HO5.out.lt j hj).1)⟩; clear hown6 hg6 hat6)
    go_roundg (args.length - k - 1)
    case measure => omega
    case rel => exact ⟨k + 1, X6, n + 1, k6, by omega, by go_num, rfl, by rw [HK2.out, List.length_append, ← HLk.out]; rfl, HS⟩
  ·obtain rfl : k = args.length := by omega
   go_wp2_with fail
   go_ret
   refine ⟨_, rfl, own_lower ?_ HB0.out.size, below_step HB0.out HR.out.below⟩
   have h := HR.out.row
   rw [List.take_length] at h hnl
   rw [hnl] at h ⊢
   exact h
end Go.Proofs.Ytimejkbmfbjomaa
namespace Go.Proofs.Ytimejkbmfbjomaa
open Go.ChangeShapes Go.WideShapes Go.ChangeAt Go.RowKit Go.Deep
set_option linter.unusedVariables false
set_option linter.unusedSimpArgs false
theorem ck_ok9 {p : Pg} (hc : chkOK p = true) : ChOk p := chk_ok (of_decide_eq_true hc)
theorem fits_hck {p : Pg} (hf : fitsP p = true) (hc : chkOK p = true) : p.procs.length ≤ 16 ∧ ∀ q ∈ p.procs, (saidOf (preSL q.body)).length ≤ 10000000 := by
 have hok := ck_ok9 hc
 obtain ⟨hl1, hl2, hl3⟩ := may_lens hok.may
 refine ⟨hl2, fun q hq => ?_⟩
 unfold fitsP weighP at hf
 have h0 := of_decide_eq_true hf
 obtain ⟨_, h2⟩ := weighQs_full p.procs _ h0
 have hw := (h2 q hq).1
 have hlen := ((may_flat hok.may).1 q hq).2
 have key : ∀ L : List S, (∀ s ∈ L, (saidS s).length ≤ 20000) → (saidOf L).length ≤ L.length * 20000 := by
  intro L
  induction L with
  | nil => intro _; simp [saidOf]
  | cons s L ih =>
   intro h
   have h1 := h s (List.mem_cons_self ..)
   have h2 := ih (fun x hx => h x (List.mem_cons_of_mem _ hx))
   rw [show saidOf (s :: L) = saidS s ++ saidOf L by simp [saidOf], List.length_append, List.length_cons]
   omega
 have h3 := key (preSL q.body) (fun s hs => Nat.le_trans (saidS_w (may_stm hok.may q hq s hs)) (Nat.le_trans (preSL_w _ _ hs) hw))
 have h4 : (preSL q.body).length * 20000 ≤ 200 * 20000 := Nat.mul_le_mul_right _ hlen
 omega
end Go.Proofs.Ytimejkbmfbjomaa
