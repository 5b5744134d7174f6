/- The walk of TreeOwn. -/
import Derived.Test.YtkbjlnmdlolhiaaTreeA
import Derived.Test.YtkbjlnmdlolhiaaTreeWW
import Derived.Test.YtkbjlnmdlolhiaaTreeN16
import Derived.Test.YtkbjlnmdlolhiaaTreeU11
namespace Go.Proofs.Ytkbjlnmdlolhiaa
open Go.ChangeShapes Go.WideShapes Go.ChangeAt Go.RowKit Go.Deep
open U (Unf)
set_option linter.unusedVariables false
set_option linter.unusedSimpArgs false

/-- what was made (from the block B on) may have turned, but each cell is of its kind, and none is shut -/
structure Kn (w1 wr : World) (B : Nat) : Prop where
  below : Below B w1 wr
  sl : ∀ p A n c, w1.cell? p = some (.slice A n c) → wr.cell? p = some (.slice A n c)
  st : ∀ p s, w1.cell? p = some (.string s) → ∃ s', wr.cell? p = some (.string s')
  it : ∀ p z, w1.cell? p = some (.int .i64 z) → ∃ z', wr.cell? p = some (.int .i64 z')
  unf : ∀ b, Unf w1 b → Unf wr b
theorem Kn.refl (w : World) (B : Nat) : Kn w w B := ⟨Below.refl _ _, fun _ _ _ _ h => h, fun _ s h => ⟨s, h⟩, fun _ z h => ⟨z, h⟩, fun _ h => h⟩
theorem Kn.str {w1 wr : World} {B : Nat} (h : Kn w1 wr B) {a : Addr} {s : ByteArray} (ha : w1.cell? a = some (.string s)) (hB : B ≤ a.block) (t : ByteArray) : Kn w1 (wr.setCell a (.string t)) B := by
  obtain ⟨s', hs'⟩ := h.st a s ha
  have hsame : (wr.setCell a (.string t)).cell? a = some (.string t) := World.cell?_setCell_same wr a _ hs'
  refine ⟨below_setc h.below hB _, fun p A n c hp => ?_, fun p s hp => ?_, fun p z hp => ?_, fun b hb => (h.unf b hb).set_ _ _⟩
  · rw [cell_set_ne _ (fun e => by subst e; rw [ha] at hp; cases hp)]; exact h.sl p A n c hp
  · by_cases e : p = a
    · subst e; exact ⟨t, hsame⟩
    · rw [cell_set_ne _ e]; exact h.st p s hp
  · rw [cell_set_ne _ (fun e => by subst e; rw [ha] at hp; cases hp)]; exact h.it p z hp
theorem Kn.int {w1 wr : World} {B : Nat} (h : Kn w1 wr B) {a : Addr} {z : Int} (ha : w1.cell? a = some (.int .i64 z)) (hB : B ≤ a.block) (t : Int) : Kn w1 (wr.setCell a (.int .i64 t)) B := by
  obtain ⟨s', hs'⟩ := h.it a z ha
  have hsame : (wr.setCell a (.int .i64 t)).cell? a = some (.int .i64 t) := World.cell?_setCell_same wr a _ hs'
  refine ⟨below_setc h.below hB _, fun p A n c hp => ?_, fun p s hp => ?_, fun p z hp => ?_, fun b hb => (h.unf b hb).set_ _ _⟩
  · rw [cell_set_ne _ (fun e => by subst e; rw [ha] at hp; cases hp)]; exact h.sl p A n c hp
  · rw [cell_set_ne _ (fun e => by subst e; rw [ha] at hp; cases hp)]; exact h.st p s hp
  · by_cases e : p = a
    · subst e; exact ⟨t, hsame⟩
    · rw [cell_set_ne _ e]; exact h.it p z hp
theorem Kn.free {w1 wr : World} {B : Nat} (h : Kn w1 wr B) {a : Addr} (hu : Unf w1 a.block) : wr.frozen? a = false := U.Unf.frozen' (h.unf _ hu)
set_option maxHeartbeats 8000000 in
set_option maxRecDepth 100000 in
theorem treeOwn_walk {w : World} {Q : Nat → Prop} {p : Pg} {c0 c1 : Value} (h : ProgI w Q p [c0, c1]) (W : World) (hI : In Q w W) :
    Calls Try.prog 7 #[.agg #[c0, c1]] W fun e w' => e = .returned (.bool true) ∧ Below W.heap.size W w' := by
  have HP := Lib.hid h
  have HF := Lib.hid (fun V h1 => Fits_any h V h1)
  have HM := Lib.hid (fun V h1 => May_any h V h1)
  have HI := Lib.hid hI
  obtain ⟨Ag, cg, Ap, cp, rfl, rfl, _⟩ := prog_open h
  clear h hI
  go_enter Try.func7, Try.ntmps7
  go_upto_region 1 with fail
  have HB0 : Hid (Below W.heap.size W (W.alloc (.cells #[.slice Ag p.globals.length cg, .slice Ap p.procs.length cp] 25))) := Lib.hid (below_box _)
  have HBp0 : Hid (Blk (W.alloc (.cells #[.slice Ag p.globals.length cg, .slice Ap p.procs.length cp] 25)) W.heap.size 25 #[.slice Ag p.globals.length cg, .slice Ap p.procs.length cp]) := Lib.hid (Blk.new _ _ _)
  generalize World.alloc _ _ = W0 at HB0 HBp0 ⊢
  have HI0 := Lib.hid (HI.out.on HB0.out)
  generalize hbe : W.heap.size = b at HBp0 ⊢
  clear hbe
  go_upto_region 3 with (go_at_call 15; refine (treed_any W0).mono ?_; rintro e' W1 ⟨rfl, hb1⟩)
  have HB1 : Hid (Below W.heap.size W W1) := Lib.hid (below_step HB0.out hb1)
  have HI1 := Lib.hid (HI0.out.on hb1)
  have HBp1 := Lib.hid (HBp0.out.on_ hb1)
  clear hb1 HB0 HBp0 HI0
  have q0 : W1.cell? ⟨b, 0, none⟩ = some (.slice Ag p.globals.length cg) := by rw [HBp1.out.cell]; rfl
  have q1 : W1.cell? ⟨b, 1, none⟩ = some (.slice Ap p.procs.length cp) := by rw [HBp1.out.cell]; rfl
  have hbl := HBp1.out.lt
  cases hf : fitsP p with
  | false =>
    rw [hf] at HF
    clear hf
    go_wp2_with (go_at_call 16; refine (HF.out _ HI1.out).mono ?_; rintro e' W2 ⟨rfl, hb2⟩)
    go_ret
    exact ⟨rfl, below_step HB1.out hb2⟩
  | true =>
    have HSg := Lib.hid (fits_smG hf)
    rw [hf] at HF
    clear hf
    go_upto_region 5 with (go_at_call 16; refine (HF.out _ HI1.out).mono ?_; rintro e' W2 ⟨rfl, hb2⟩)
    have HB2 : Hid (Below W.heap.size W W2) := Lib.hid (below_step HB1.out hb2)
    have HI2 := Lib.hid (HI1.out.on hb2)
    have HBp2 := Lib.hid (HBp1.out.on_ hb2)
    clear hb2 HB1 HI1 HBp1 q0 q1 hbl HF
    have q0 : W2.cell? ⟨b, 0, none⟩ = some (.slice Ag p.globals.length cg) := by rw [HBp2.out.cell]; rfl
    have q1 : W2.cell? ⟨b, 1, none⟩ = some (.slice Ap p.procs.length cp) := by rw [HBp2.out.cell]; rfl
    have hbl := HBp2.out.lt
    cases hm : mayP p with
    | false =>
      rw [hm] at HM
      clear hm
      go_wp2_with (go_at_call 17; refine (HM.out _ HI2.out).mono ?_; rintro e' W3 ⟨rfl, hb3⟩)
      go_ret
      exact ⟨rfl, below_step HB2.out hb3⟩
    | true =>
      have HIds := Lib.hid (may_ids hm)
      have HCp := Lib.hid (fun V hV => Copy_any (W := V) HP.out hV HSg.out HIds.out)
      have HNu := Lib.hid (fun V hV => U.Number_any (W := V) HP.out hV HSg.out hm)
      rw [hm] at HM
      clear hm HSg HIds
      go_upto_region 7 with (go_at_call 17; refine (HM.out _ HI2.out).mono ?_; rintro e' W3 ⟨rfl, hb3⟩)
      have HB3 : Hid (Below W.heap.size W W3) := Lib.hid (below_step HB2.out hb3)
      have HI3 := Lib.hid (HI2.out.on hb3)
      have HBp3 := Lib.hid (HBp2.out.on_ hb3)
      clear hb3 HB2 HI2 HBp2 q0 q1 hbl HM
      have q0 : W3.cell? ⟨b, 0, none⟩ = some (.slice Ag p.globals.length cg) := by rw [HBp3.out.cell]; rfl
      have q1 : W3.cell? ⟨b, 1, none⟩ = some (.slice Ap p.procs.length cp) := by rw [HBp3.out.cell]; rfl
      have hbl := HBp3.out.lt
      go_upto_region 8 with (go_at_call 31; refine (HCp.out _ HI3.out).mono ?_; rintro e' W4 ⟨o0, o1, rfl, hb4, hp4⟩; obtain ⟨Og, og, Op_, op, rfl, rfl, _⟩ := prog_open hp4)
      have HO4 := Lib.hid hp4
      have HB45 : Hid (Below W4.heap.size W4 (W4.alloc (.cells #[.slice Og p.globals.length og, .slice Op_ p.procs.length op] 25))) := Lib.hid (below_box _)
      have HBo5 : Hid (Blk (W4.alloc (.cells #[.slice Og p.globals.length og, .slice Op_ p.procs.length op] 25)) W4.heap.size 25 #[.slice Og p.globals.length og, .slice Op_ p.procs.length op]) := Lib.hid (Blk.new _ _ _)
      have HB35 := Lib.hid (below_step hb4 HB45.out)
      have HB5 := Lib.hid (below_step HB3.out HB35.out)
      have HI5 := Lib.hid (HI3.out.on HB35.out)
      have HBp5 := Lib.hid (HBp3.out.on_ HB35.out)
      have HOI5 : Hid (In (nw W3 W4) W4 (W4.alloc (.cells #[.slice Og p.globals.length og, .slice Op_ p.procs.length op] 25))) := Lib.hid ⟨fun b h => Nat.lt_of_lt_of_le h.2 HB45.out.size, fun q hq => HB45.out.cell hq.2⟩
      clear hb4 hp4 HB3 HI3 HBp3 q0 q1 hbl HCp HB45 HB35
      generalize World.alloc _ _ = W5 at HBo5 HB5 HI5 HBp5 HOI5 ⊢
      generalize W4.heap.size = bo at HBo5 ⊢
      have q0 : W5.cell? ⟨b, 0, none⟩ = some (.slice Ag p.globals.length cg) := by rw [HBp5.out.cell]; rfl
      have q1 : W5.cell? ⟨b, 1, none⟩ = some (.slice Ap p.procs.length cp) := by rw [HBp5.out.cell]; rfl
      have hbl := HBp5.out.lt
      go_upto_region 9 with (go_at_call 21; refine (HNu.out _ HI5.out).mono ?_; rintro e' W6 ⟨d0, d1, rfl, hb6, hp6⟩; obtain ⟨Bg, dg, Bp, dp, rfl, rfl, _, _, hdp1, hdp2, _, hpr6⟩ := prog_open hp6)
      have HB67 : Hid (Below W6.heap.size W6 (W6.alloc (.cells #[.slice Bg p.globals.length dg, .slice Bp p.procs.length dp] 25))) := Lib.hid (below_box _)
      have HBy7 : Hid (Blk (W6.alloc (.cells #[.slice Bg p.globals.length dg, .slice Bp p.procs.length dp] 25)) W6.heap.size 25 #[.slice Bg p.globals.length dg, .slice Bp p.procs.length dp]) := Lib.hid (Blk.new _ _ _)
      have HB57 := Lib.hid (below_step hb6 HB67.out)
      have HPr := Lib.hid hpr6
      have HIn7 : Hid (In (U.nw W5 W6) W6 (W6.alloc (.cells #[.slice Bg p.globals.length dg, .slice Bp p.procs.length dp] 25))) := Lib.hid ⟨fun b h => Nat.lt_of_lt_of_le h.2.lt HB67.out.size, fun q hq => HB67.out.cell hq.2.lt⟩
      have HUn7 : Hid (∀ b, U.nw W5 W6 b → W5.heap.size ≤ b ∧ Unf (W6.alloc (.cells #[.slice Bg p.globals.length dg, .slice Bp p.procs.length dp] 25)) b) := Lib.hid (fun b hb => ⟨hb.1, hb.2.below HB67.out hb.2.lt⟩)
      clear hb6 hp6 hpr6 HNu q0 q1 hbl HB67
      generalize World.alloc _ _ = W7 at HBy7 HB57 HIn7 HUn7 ⊢
      generalize W6.heap.size = yb at HBy7 ⊢
      have y1_ : W7.cell? ⟨yb, 1, none⟩ = some (.slice Bp p.procs.length dp) := by rw [HBy7.out.cell]; rfl
      have hyl := HBy7.out.lt
      have HY := Lib.hid y1_
      go_wp2_with fail
      clear y1_ hyl
      go_loopg [24] p.procs.length (fun kk iv wr => ∃ k : Nat, k + kk = p.procs.length ∧ iv = .int .i64 k ∧ Hid (Kn W7 wr W5.heap.size))
      case atStart => exact ⟨0, by omega, rfl, Lib.hid (Kn.refl _ _)⟩
      case round =>
        obtain ⟨k, hk, rfl, HK⟩ := hrel
        by_cases hlt : k < p.procs.length
        · obtain ⟨a, Cp, kp, Cv, kv, Cb, kb, Ce, ke, rfl, hqa, ⟨p0, p1, p2, p3, p4, _⟩, _, hpp, _, hbody, _⟩ := proc_at HPr.out HIn7.out hlt
          have hua : W5.heap.size ≤ (a.add (k * 5)).block ∧ Unf W7 (a.add (k * 5)).block := by rw [block_add]; exact HUn7.out _ hqa
          have HUa := Lib.hid hua
          have HP0 := Lib.hid p0
          have HP1 : Hid (W7.cell? ⟨(a.add (k * 5)).block, (a.add (k * 5)).off + 1, none⟩ = some (.slice Cp p.procs[k].params.length kp)) := Lib.hid p1
          have HP3 : Hid (W7.cell? ⟨(a.add (k * 5)).block, (a.add (k * 5)).off + 3, none⟩ = some (.slice Cb p.procs[k].body.length kb)) := Lib.hid p3
          have HPp := Lib.hid hpp
          have HBd := Lib.hid hbody
          generalize p.procs[k].params = pp at HP1 HPp
          generalize p.procs[k].body = body at HP3 HBd
          generalize p.procs[k].nm = pn at HP0
          obtain ⟨_, hpl1, hpl2, _⟩ := slice_len HPp.out
          obtain ⟨_, hbl1, hbl2, _⟩ := slice_len HBd.out
          clear p0 p1 p2 p3 p4 hpp hbody hqa hua
          have z1 := HK.out.sl _ _ _ _ HY.out
          have z2 := HK.out.sl _ _ _ _ HP1.out
          go_wp2_with fail
          clear z1 z2
          generalize wr = wo at *
          go_loopg [34] pp.length (fun kk iv wr => ∃ k2 : Nat, k2 + kk = pp.length ∧ iv = .int .i64 k2 ∧ Hid (Kn W7 wr W5.heap.size))
          case atStart => exact ⟨0, by omega, rfl, HK⟩
          case round =>
            clear HK
            obtain ⟨k2, hk2, rfl, HK⟩ := hrel
            have z1 := HK.out.sl _ _ _ _ HY.out
            have z2 := HK.out.sl _ _ _ _ HP1.out
            have z3 := HK.out.sl _ _ _ _ HP3.out
            by_cases hlt2 : k2 < pp.length
            · obtain ⟨a2, rfl, hqa2, ⟨r0, _⟩, _⟩ := par_at HPp.out HIn7.out hlt2
              have hu2 : W5.heap.size ≤ (a2.add (k2 * 2)).block ∧ Unf W7 (a2.add (k2 * 2)).block := by rw [block_add]; exact HUn7.out _ hqa2
              have f2 := HK.out.free hu2.2
              have HKn := Lib.hid (HK.out.str r0 hu2.1 ⟨#[122, 122]⟩)
              obtain ⟨s2, t2⟩ := HK.out.st _ _ r0
              clear r0 hqa2 z3 hu2
              go_wp2_with fail
              go_roundg (pp.length - k2 - 1)
              case measure => omega
              case rel => exact ⟨k2 + 1, by omega, by go_num, HKn⟩
            · clear z2
              go_wp2_with fail
              clear z1 z3
              generalize wr = wo at *
              go_loopg [54] body.length (fun kk iv wr => ∃ k3 : Nat, k3 + kk = body.length ∧ iv = .int .i64 k3 ∧ Hid (Kn W7 wr W5.heap.size))
              case atStart => exact ⟨0, by omega, rfl, HK⟩
              case round =>
                clear HK
                obtain ⟨k3, hk3, rfl, HK⟩ := hrel
                have z1 := HK.out.sl _ _ _ _ HY.out
                by_cases hlt3 : k3 < body.length
                · have z3 := HK.out.sl _ _ _ _ HP3.out
                  obtain ⟨a3, sid, skind, slabels, snm, sproc, sx, shas, sargs, sth, sel, L, lc, x0, x1, x2, X, xn, xc, R, rc, T, tc, U_, uc, rfl, hqa3, hmk, ⟨r0, r1, r2, r3, r4, r5, r6, r7, r8, r9, r10, _⟩, _, _, _, _, _, _, har, _⟩ := stmt_at HBd.out HIn7.out hlt3
                  have hu3 : W5.heap.size ≤ (a3.add (k3 * 13)).block ∧ Unf W7 (a3.add (k3 * 13)).block := by rw [block_add]; exact HUn7.out _ hqa3
                  have HR1 : Hid (W7.cell? ⟨(a3.add (k3 * 13)).block, (a3.add (k3 * 13)).off + 1, none⟩ = some (.int .i64 skind)) := Lib.hid r1
                  have HR10 : Hid (W7.cell? ⟨(a3.add (k3 * 13)).block, (a3.add (k3 * 13)).off + 10, none⟩ = some (.slice R sargs.length rc)) := Lib.hid r10
                  have HAr := Lib.hid har
                  obtain ⟨_, hal1, hal2, _⟩ := slice_len har
                  have f3 : wr.frozen? ⟨(a3.add (k3 * 13)).block, (a3.add (k3 * 13)).off + 1, none⟩ = false := HK.out.free hu3.2
                  have HKn := Lib.hid (HK.out.int (a := ⟨(a3.add (k3 * 13)).block, (a3.add (k3 * 13)).off + 1, none⟩) HR1.out hu3.1 77)
                  obtain ⟨s3, t3⟩ := HK.out.it _ _ HR1.out
                  clear r0 r1 r2 r3 r4 r5 r6 r7 r8 r9 r10 har hqa3 hu3 hmk HK
                  go_upto_region 21 with fail
                  clear z1 z3 f3 t3
                  generalize World.setCell _ _ _ = wv at HKn ⊢
                  have z1 := HKn.out.sl _ _ _ _ HY.out
                  have z3 := HKn.out.sl _ _ _ _ HP3.out
                  have z4 := HKn.out.sl _ _ _ _ HR10.out
                  go_wp2_with fail
                  clear z1 z3 z4
                  go_loopg [77] sargs.length (fun kk iv wr => ∃ k4 : Nat, k4 + kk = sargs.length ∧ iv = .int .i64 k4 ∧ Hid (Kn W7 wr W5.heap.size))
                  case atStart => exact ⟨0, by omega, rfl, HKn⟩
                  case round =>
                    clear HKn
                    obtain ⟨k4, hk4, rfl, HK⟩ := hrel
                    have z1 := HK.out.sl _ _ _ _ HY.out
                    have z3 := HK.out.sl _ _ _ _ HP3.out
                    have z4 := HK.out.sl _ _ _ _ HR10.out
                    by_cases hlt4 : k4 < sargs.length
                    · obtain ⟨a4, o1, n1, s1, A1, l1, c1, rfl, hqa4, ⟨r0, r1, _⟩, _⟩ := arg_at HAr.out HIn7.out hlt4
                      have hu4 : W5.heap.size ≤ (a4.add (k4 * 6)).block ∧ Unf W7 (a4.add (k4 * 6)).block := by rw [block_add]; exact HUn7.out _ hqa4
                      have hr1 : W7.cell? ⟨(a4.add (k4 * 6)).block, (a4.add (k4 * 6)).off + 1, none⟩ = some (.string sargs[k4].nm) := r1
                      have f4 : wr.frozen? ⟨(a4.add (k4 * 6)).block, (a4.add (k4 * 6)).off + 1, none⟩ = false := HK.out.free hu4.2
                      have HKn := Lib.hid (HK.out.str (a := ⟨(a4.add (k4 * 6)).block, (a4.add (k4 * 6)).off + 1, none⟩) hr1 hu4.1 ⟨#[122, 122]⟩)
                      obtain ⟨s4, t4⟩ := HK.out.st _ _ hr1
                      clear r0 r1 hr1 hqa4 hu4
                      go_wp2_with fail
                      go_roundg (sargs.length - k4 - 1)
                      case measure => omega
                      case rel => exact ⟨k4 + 1, by omega, by go_num, HKn⟩
                    · clear z1 z3 z4
                      go_wp2_with fail
                      go_roundg (body.length - k3 - 1)
                      case measure => omega
                      case rel => exact ⟨k3 + 1, by omega, by go_num, HK⟩
                · obtain ⟨s0, t0⟩ := HK.out.st _ _ HP0.out
                  have f0 : wr.frozen? (a.add (k * 5)) = false := HK.out.free HUa.out.2
                  have HKn := Lib.hid (HK.out.str HP0.out HUa.out.1 ⟨#[122, 122]⟩)
                  go_wp2_with fail
                  go_roundg (p.procs.length - k - 1)
                  case measure => omega
                  case rel => exact ⟨k + 1, by omega, by go_num, HKn⟩
        · have hb5r := HB57.out.trans HK.out.below
          have HBpr := Lib.hid (HBp5.out.on_ hb5r)
          have HBor := Lib.hid (HBo5.out.on_ hb5r)
          have hE := rEq_any (W := wr) HP.out HO4.out (HI5.out.on hb5r) (HOI5.out.on hb5r)
          rw [eqB_self] at hE
          have HE := Lib.hid hE
          have HBr := Lib.hid (below_step HB5.out hb5r)
          have q0 : wr.cell? ⟨b, 0, none⟩ = some (.slice Ag p.globals.length cg) := by rw [HBpr.out.cell]; rfl
          have q1 : wr.cell? ⟨b, 1, none⟩ = some (.slice Ap p.procs.length cp) := by rw [HBpr.out.cell]; rfl
          have o0 : wr.cell? ⟨bo, 0, none⟩ = some (.slice Og p.globals.length og) := by rw [HBor.out.cell]; rfl
          have o1 : wr.cell? ⟨bo, 1, none⟩ = some (.slice Op_ p.procs.length op) := by rw [HBor.out.cell]; rfl
          have hbl := HBpr.out.lt
          have hbo := HBor.out.lt
          clear hE hb5r
          go_wp2_with (go_at_call 22; refine HE.out.mono ?_; rintro e' W9 ⟨rfl, hb9⟩)
          go_ret
          exact ⟨rfl, below_step HBr.out hb9⟩
end Go.Proofs.Ytkbjlnmdlolhiaa
