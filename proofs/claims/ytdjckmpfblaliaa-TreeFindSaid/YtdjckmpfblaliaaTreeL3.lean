/- The contract of May (tree). -/
import Derived.Test.YtdjckmpfblaliaaTreeL2
namespace Go.Proofs.Ytdjckmpfblaliaa
open Go.ChangeShapes Go.WideShapes Go.ChangeAt Go.RowKit Go.Deep
set_option linter.unusedVariables false

def prOk : List Pr → Nat → Option Nat
  | [], c => some c
  | q :: qs, c => if headOk q = true then (blkOk q.body 1 c).bind fun c' => prOk qs c' else none
def mayP (p : Pg) : Bool := !decide (16 < p.globals.length) && !decide (16 < p.procs.length) && allN p.globals && (prOk p.procs 0).isSome
theorem prOk_drop {l : List Pr} {k c : Nat} (h : k < l.length) : prOk (l.drop k) c = if headOk l[k] = true then (blkOk l[k].body 1 c).bind fun c' => prOk (l.drop (k + 1)) c' else none := by
  rw [List.drop_eq_getElem_cons h, prOk]
set_option maxHeartbeats 2000000 in
theorem May_any {w : World} {Q : Nat → Prop} {p : Pg} {c0 c1 : Value} (h : ProgI w Q p [c0, c1]) (W : World) (hI : In Q w W) :
    Calls Try.prog 21 #[.agg #[c0, c1]] W (MayOk (mayP p) W) := by
  obtain ⟨Ag, cg, Ap, cp, rfl, rfl, hg1, hg2, hp1, hp2, hgl, hpr⟩ := prog_open h
  have HI := Lib.hid hI
  have HP := Lib.hid hpr
  have HG := Lib.hid (fun W h1 => mayNames_any (W := W) hgl h1)
  have HM : Hid (mayP p = (!decide (16 < p.globals.length) && !decide (16 < p.procs.length) && allN p.globals && (prOk p.procs 0).isSome)) := Lib.hid rfl
  clear h hI hpr hgl
  by_cases h1 : 16 < p.globals.length
  · rw [decide_eq_true h1] at HM
    go_enter Try.func21, Try.ntmps21
    go_wp2_with fail
    go_ret
    exact ⟨ret_bool (by rw [HM.out]; rfl), below_box _⟩
  · by_cases h2 : 16 < p.procs.length
    · rw [decide_eq_false h1, decide_eq_true h2] at HM
      go_enter Try.func21, Try.ntmps21
      go_wp2_with fail
      go_ret
      exact ⟨ret_bool (by rw [HM.out]; rfl), below_box _⟩
    · rw [decide_eq_false h1, decide_eq_false h2] at HM
      cases hv : allN p.globals with
      | false =>
        rw [hv] at HM HG
        clear hv
        go_enter Try.func21, Try.ntmps21
        go_wp2_with (go_at_call 49; refine (HG.out _ (HI.out.alloc _)).mono ?_; rintro e w' ⟨rfl, rfl⟩)
        go_ret
        exact ⟨ret_bool (by rw [HM.out]; rfl), below_box _⟩
      | true =>
        rw [hv] at HM HG
        simp only [Bool.not_false, Bool.true_and] at HM
        clear hv
        go_enter Try.func21, Try.ntmps21
        go_wp2_with (go_at_call 49; refine (HG.out _ (HI.out.alloc _)).mono ?_; rintro e w' ⟨rfl, rfl⟩)
        have HB1 : Hid (Below W.heap.size W ((W.alloc (.cells #[.slice Ag p.globals.length cg, .slice Ap p.procs.length cp] 32)).alloc (.cells #[.int .i64 0] 3))) := Lib.hid (below_two _ _)
        have HBc : Hid (Blk ((W.alloc (.cells #[.slice Ag p.globals.length cg, .slice Ap p.procs.length cp] 32)).alloc (.cells #[.int .i64 0] 3)) (W.heap.size + 1) 3 #[.int .i64 (0 : Nat)]) := Lib.hid (by
          have := Blk.new (W.alloc (.cells #[.slice Ag p.globals.length cg, .slice Ap p.procs.length cp] 32)) 3 #[.int .i64 0]
          simpa using this)
        generalize World.alloc _ _ = W1 at HB1 HBc ⊢
        have hcb : W.heap.size < W.heap.size + 1 := by omega
        generalize W.heap.size + 1 = cb at HBc hcb ⊢
        have HQ : Hid (¬ Q cb) := Lib.hid (fun hq => by have := HI.out.1 cb hq; omega)
        go_loopw [25] (fun i wr => ∃ k ck : Nat, k ≤ p.procs.length ∧ i = .int .i64 k ∧ ck ≤ 200 ∧ Hid (prOk (p.procs.drop k) ck = prOk p.procs 0) ∧ Hid (Blk wr cb 3 #[.int .i64 ck]) ∧ Hid (Below W.heap.size W wr)) (fun i _ => p.procs.length - (intOf i).toNat)
        case atStart => exact ⟨0, 0, Nat.zero_le _, rfl, by omega, Lib.hid (by rw [List.drop_zero]), HBc, HB1⟩
        case round =>
          obtain ⟨k, ck, hk, rfl, hck, HW, HB, HR⟩ := hrel
          by_cases hlt : k < p.procs.length
          · have hIr : In Q w wr := HI.out.on HR.out
            obtain ⟨a, Bp, bp, Bv, bv, Bb, bb, Be, be, rfl, _, ⟨p0, p1, p2, p3, p4, _⟩, hnm, hpp, hvv, hbody, hee⟩ := proc_at HP.out hIr hlt
            have HD := Lib.hid (prOk_drop (c := ck) hlt)
            rw [HW.out] at HD
            have HH := Lib.hid (fun W h1 => mayHead_any (W := W) (Ab := Bb) (nb := p.procs[k].body.length) (cb := bb) hnm hpp hvv hee h1)
            have HC := Lib.hid (fun W' h1 h2 => mayBlock_any ((preSL p.procs[k].body).length + 1) p.procs[k].body (by omega) (w := w) (W := W') 1 ck cb hbody h1 h2 HQ.out hck (by omega))
            have HIr := Lib.hid hIr
            have hcl := HB.out.lt
            obtain ⟨x, hx⟩ : ∃ x, x = p.procs[k] := ⟨_, rfl⟩
            rw [← hx] at p0 p1 p2 p3 p4 HD HH HC
            clear hx hIr hnm hpp hvv hbody hee
            obtain ⟨xn, xp, xv, xb, xe⟩ := x
            simp only at p0 p1 p2 p3 p4 HD HH HC
            have HC' : Hid (∀ W', In Q w W' → Blk W' cb 3 #[.int .i64 ck] → Calls Try.prog 51 #[.slice Bb xb.length bb, .int .i64 1, .pointer (some ⟨cb, 0, none⟩)] W' (BlkRes (blkOk xb 1 ck) cb W')) := HC
            clear HC
            cases hh : headOk ⟨xn, xp, xv, xb, xe⟩ with
            | false =>
              rw [hh] at HD HH
              have HV : Hid (prOk p.procs 0 = none) := Lib.hid (by rw [HD.out]; rfl)
              clear hh
              go_wp2_with (go_at_call 50; refine (HH.out _ (HIr.out.alloc _)).mono ?_; rintro e w2 ⟨rfl, hb2⟩)
              go_ret
              exact ⟨ret_bool (by rw [HM.out, HV.out]; rfl), HR.out.trans ((below_new hb2).mono HR.out.size)⟩
            | true =>
              rw [hh, if_pos rfl] at HD
              rw [hh] at HH
              clear hh
              cases hr : blkOk xb 1 ck with
              | none =>
                rw [hr] at HD HC'
                have HV : Hid (prOk p.procs 0 = none) := Lib.hid (by rw [HD.out]; rfl)
                clear hr
                go_wp2_with (first
                  | (go_at_call 50; refine (HH.out _ (HIr.out.alloc _)).mono ?_; rintro e w2 ⟨rfl, hb2⟩; have hc2 := (bcell hb2).1; have HB2 := Lib.hid (below_new hb2); have hz2 : wr.heap.size < w2.heap.size := (by have := hb2.size; rw [World.size_alloc] at this; omega); clear hb2)
                  | (go_at_call 51; refine (HC'.out _ (HIr.out.on HB2.out) (HB.out.below HB2.out hcl)).mono ?_; rintro e w3 ⟨rfl, hm3, _⟩))
                go_ret
                exact ⟨ret_bool (by rw [HM.out, HV.out]; rfl), (HR.out.trans (HB2.out.mono HR.out.size)).trans (hm3.below (by have := HR.out.size; have := HB2.out.size; omega) (fun j hj => by rw [hj]; omega))⟩
              | some c2 =>
                have hc2' := blkOk_le xb 1 ck c2 hck hr
                rw [hr] at HD HC'
                have HV : Hid (prOk (p.procs.drop (k + 1)) c2 = prOk p.procs 0) := Lib.hid (by rw [HD.out]; rfl)
                clear hr
                go_wp2_with (first
                  | (go_at_call 50; refine (HH.out _ (HIr.out.alloc _)).mono ?_; rintro e w2 ⟨rfl, hb2⟩; have hc2 := (bcell hb2).1; have HB2 := Lib.hid (below_new hb2); have hz2 : wr.heap.size < w2.heap.size := (by have := hb2.size; rw [World.size_alloc] at this; omega); clear hb2)
                  | (go_at_call 51; refine (HC'.out _ (HIr.out.on HB2.out) (HB.out.below HB2.out hcl)).mono ?_; rintro e w3 ⟨rfl, hm3, hk3⟩))
                go_roundw
                case rel => exact ⟨k + 1, c2, by omega, by go_num, hc2', HV, Lib.hid (hk3 c2 rfl), Lib.hid ((HR.out.trans (HB2.out.mono HR.out.size)).trans (hm3.below (by have := HR.out.size; have := HB2.out.size; omega) (fun j hj => by rw [hj]; omega)))⟩
                case measure => simp [intOf]; omega
          · have HV : Hid (prOk p.procs 0 = some ck) := Lib.hid (by
              have h1 := HW.out
              rw [List.drop_of_length_le (by omega), prOk] at h1
              exact h1.symm)
            go_wp2_with fail
            go_ret
            exact ⟨ret_bool (by rw [HM.out, HV.out]; rfl), HR.out⟩
end Go.Proofs.Ytdjckmpfblaliaa
