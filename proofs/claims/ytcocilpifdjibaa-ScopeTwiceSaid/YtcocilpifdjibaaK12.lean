/- Texts, merged by a program; only what is used. -/
import Derived.Test.YtcocilpifdjibaaK1
import Derived.Test.YtcocilpifdjibaaK2
import Derived.Test.YtcocilpifdjibaaK3
import Derived.Test.YtcocilpifdjibaaK4
import Derived.Test.YtcocilpifdjibaaK5
import Derived.Test.YtcocilpifdjibaaK6
import Derived.Test.YtcocilpifdjibaaK7
namespace Go.Proofs.Ytcocilpifdjibaa
open Go.ChangeShapes Go.WideShapes Go.ChangeAt Go.RowKit Go.Deep
set_option linter.unusedVariables false
mutual
theorem blkOk_le : ∀ (l : List S) (d c c' : Nat), c ≤ 200 → blkOk l d c = some c' → c' ≤ 200
  | [], d, c, c', hc, h => by rw [blkOk] at h; injection h with h; omega
  | s :: l, d, c, c', hc, h => by
    rw [blkOk] at h
    cases h1 : oneOk s d c with
    | none => rw [h1] at h; cases h
    | some c1 => rw [h1] at h; exact blkOk_le l d c1 c' (oneOk_le s d c c1 hc h1) h
theorem oneOk_le : ∀ (s : S) (d c c' : Nat), c ≤ 200 → oneOk s d c = some c' → c' ≤ 200
  | .mk id kind labels nm proc x has args th el, d, c, c', hc, h => by
    rw [oneOk] at h
    by_cases hb : d ≤ 12 ∧ c + 1 ≤ 200 ∧ id = ((c + 1 : Nat) : Int) ∧ stmtOk (.mk id kind labels nm proc x has args th el) = true
    · rw [if_pos hb] at h
      cases h1 : blkOk th (d + 1) (c + 1) with
      | none => rw [h1] at h; cases h
      | some c1 => rw [h1] at h; exact blkOk_le el (d + 1) c1 c' (blkOk_le th (d + 1) (c + 1) c1 (by omega) h1) h
    · rw [if_neg hb] at h; cases h
end
def BlkRes (r : Option Nat) (cb : Nat) (W : World) (e : Ending) (w' : World) : Prop :=
  e = .returned (.bool r.isSome) ∧ Moves (fun k => k = cb) W w' ∧ ∀ c, r = some c → Blk w' cb 3 #[.int .i64 c]
theorem In.on_moves {Q : Nat → Prop} {w W W' : World} {cb : Nat} (h : In Q w W) (hq : ¬ Q cb) (hm : Moves (fun k => k = cb) W W') : In Q w W' := h.moves hm (fun j hj hb => hq (hj ▸ hb))
set_option maxHeartbeats 4000000 in
theorem mayBlock_any : ∀ (N : Nat) (l : List S), (preSL l).length < N → ∀ {w W : World} {Q : Nat → Prop} {A : Option Addr} {cap : Nat} (d c cb : Nat), StmtsI w Q l (.slice A l.length cap) → In Q w W → Blk W cb 3 #[.int .i64 c] → ¬ Q cb → c ≤ 200 → d ≤ 13 →
    Calls Try.prog 59 #[.slice A l.length cap, .int .i64 d, .pointer (some ⟨cb, 0, none⟩)] W (BlkRes (blkOk l d c) cb W) := by
  intro N
  induction N with
  | zero => intro l h; omega
  | succ N ih =>
    intro l hN w W Q A cap d c cb hl hI hcb hq hc hd
    obtain ⟨_, hlc, hcap, _⟩ := slice_len hl
    have IH := Lib.hid @ih
    have HN := Lib.hid hN
    have HL := Lib.hid hl
    have HI := Lib.hid hI
    have HC := Lib.hid hcb
    have HQ := Lib.hid hq
    clear ih hN hl hI hcb hq
    go_enter Try.func59, Try.ntmps59
    go_wp2_with fail
    go_loopw [11] (fun i wr => ∃ k ck : Nat, k ≤ l.length ∧ i = .int .i64 k ∧ ck ≤ 200 ∧ Hid (blkOk (l.drop k) d ck = blkOk l d c) ∧ Hid (Blk wr cb 3 #[.int .i64 ck]) ∧ Hid (Moves (fun k => k = cb) W wr)) (fun i _ => l.length - (intOf i).toNat)
    case atStart => exact ⟨0, c, Nat.zero_le _, rfl, hc, Lib.hid (by rw [List.drop_zero]), HC, Lib.hid (Moves.refl _ _)⟩
    case round =>
      obtain ⟨k, ck, hk, rfl, hck, HW, HB, HR⟩ := hrel
      by_cases hlt : k < l.length
      · have hIr : In Q w wr := HI.out.on_moves HQ.out HR.out
        obtain ⟨a, id, kind, labels, nm, proc, x, has, args, th, el, L, lc, x0, x1, x2, X, xn, xc, R, rc, T, tc, U, uc, rfl, _, hmk, ⟨p0, p1, p2, p3, p4, p5, p6, p7, p8, p9, p10, p11, p12, _⟩, hid, hkind, _, _, _, _, _, hth, hel, hst⟩ := stmt_at HL.out hIr hlt
        have hsub := preSL_at hlt
        have HD : Hid (blkOk l d c = (oneOk (.mk id kind labels nm proc x has args th el) d ck).bind fun c' => blkOk (l.drop (k + 1)) d c') := Lib.hid (by rw [← hmk, ← blkOk_drop hlt]; exact HW.out.symm)
        rw [hmk] at hsub hst
        simp only [subS, List.length_append] at hsub
        have HST := Lib.hid (fun W h1 => mayStmt_any hst W h1)
        have HT := Lib.hid hth
        have HE := Lib.hid hel
        have hN1 : (preSL th).length < N := by have := HN.out; omega
        have hN2 : (preSL el).length < N := by have := HN.out; omega
        have HIr := Lib.hid hIr
        have c0 : wr.cell? ⟨cb, 0, none⟩ = some (.int .i64 ck) := by rw [HB.out.cell 0]; rfl
        have f0 := HB.out.frozen 0
        have hcl := HB.out.lt
        have hcl2 : cb ≠ wr.heap.size := by omega
        unfold i64 at hid
        clear hmk hsub hst hth hel hIr
        have HO : Hid (oneOk (.mk id kind labels nm proc x has args th el) d ck = if d ≤ 12 ∧ ck + 1 ≤ 200 ∧ id = ((ck + 1 : Nat) : Int) ∧ stmtOk (.mk id kind labels nm proc x has args th el) = true then ((blkOk th (d + 1) (ck + 1)).bind fun c1 => blkOk el (d + 1) c1) else none) := Lib.hid (by rw [oneOk])
        by_cases hd12 : d ≤ 12
        · have g1 : decide ((d : Int) > 12) = false := by simp; omega
          by_cases hc2 : ck + 1 ≤ 200
          · have g2 : decide ((ck : Int) + 1 > 200) = false := by simp; omega
            have hc2' := hc2
            by_cases hid2 : id = (ck : Int) + 1
            · have g3 : (id != (ck : Int) + 1) = false := by rw [hid2]; simp
              have g3' : (id == (ck : Int) + 1) = true := by rw [hid2]; simp
              have HO2 := HO
              clear hid2
              go_wp2_with fail
              have HBx : Hid (Blk ((wr.setCell ⟨cb, 0, none⟩ (.int .i64 ((ck : Int) + 1))).alloc (.cells #[.int .i64 id, .int .i64 kind, .slice L labels.length lc, .string nm, .string proc, .int .i64 x0, .int .i64 x1, .string x2, .slice X xn xc, .bool has, .slice R args.length rc, .slice T th.length tc, .slice U el.length uc] 64)) wr.heap.size 64 #[.int .i64 id, .int .i64 kind, .slice L labels.length lc, .string nm, .string proc, .int .i64 x0, .int .i64 x1, .string x2, .slice X xn xc, .bool has, .slice R args.length rc, .slice T th.length tc, .slice U el.length uc]) := Lib.hid (by have := Blk.new (wr.setCell ⟨cb, 0, none⟩ (.int .i64 ((ck : Int) + 1))) 64 #[.int .i64 id, .int .i64 kind, .slice L labels.length lc, .string nm, .string proc, .int .i64 x0, .int .i64 x1, .string x2, .slice X xn xc, .bool has, .slice R args.length rc, .slice T th.length tc, .slice U el.length uc]; simpa [World.setCell] using this)
              have HBc : Hid (Blk ((wr.setCell ⟨cb, 0, none⟩ (.int .i64 ((ck : Int) + 1))).alloc (.cells #[.int .i64 id, .int .i64 kind, .slice L labels.length lc, .string nm, .string proc, .int .i64 x0, .int .i64 x1, .string x2, .slice X xn xc, .bool has, .slice R args.length rc, .slice T th.length tc, .slice U el.length uc] 64)) cb 3 #[.int .i64 ((ck : Int) + 1)]) := Lib.hid ((HB.out.set_ 0 _).alloc _)
              have HM1 : Hid (Moves (fun k => k = cb) wr ((wr.setCell ⟨cb, 0, none⟩ (.int .i64 ((ck : Int) + 1))).alloc (.cells #[.int .i64 id, .int .i64 kind, .slice L labels.length lc, .string nm, .string proc, .int .i64 x0, .int .i64 x1, .string x2, .slice X xn xc, .bool has, .slice R args.length rc, .slice T th.length tc, .slice U el.length uc] 64))) := Lib.hid ((Moves.refl (fun k => k = cb) wr).set_ (p := ⟨cb, 0, none⟩) (.inl rfl) _ |>.alloc _)
              generalize World.alloc _ _ = W1 at HBx HBc HM1 ⊢
              have hb0 : cb ≠ wr.heap.size := hcl2
              generalize wr.heap.size = b0 at HBx hb0 ⊢
              have c1 : W1.cell? ⟨cb, 0, none⟩ = some (.int .i64 ((ck : Int) + 1)) := by rw [HBc.out.cell 0]; rfl
              have q0 : W1.cell? ⟨b0, 0, none⟩ = some (.int .i64 id) := by rw [HBx.out.cell 0]; rfl
              have q1 : W1.cell? ⟨b0, 1, none⟩ = some (.int .i64 kind) := by rw [HBx.out.cell 1]; rfl
              have q2 : W1.cell? ⟨b0, 2, none⟩ = some (.slice L labels.length lc) := by rw [HBx.out.cell 2]; rfl
              have q3 : W1.cell? ⟨b0, 3, none⟩ = some (.string nm) := by rw [HBx.out.cell 3]; rfl
              have q4 : W1.cell? ⟨b0, 4, none⟩ = some (.string proc) := by rw [HBx.out.cell 4]; rfl
              have q5 : W1.cell? ⟨b0, 5, none⟩ = some (.int .i64 x0) := by rw [HBx.out.cell 5]; rfl
              have q6 : W1.cell? ⟨b0, 6, none⟩ = some (.int .i64 x1) := by rw [HBx.out.cell 6]; rfl
              have q7 : W1.cell? ⟨b0, 7, none⟩ = some (.string x2) := by rw [HBx.out.cell 7]; rfl
              have q8 : W1.cell? ⟨b0, 8, none⟩ = some (.slice X xn xc) := by rw [HBx.out.cell 8]; rfl
              have q9 : W1.cell? ⟨b0, 9, none⟩ = some (.bool has) := by rw [HBx.out.cell 9]; rfl
              have q10 : W1.cell? ⟨b0, 10, none⟩ = some (.slice R args.length rc) := by rw [HBx.out.cell 10]; rfl
              have q11 : W1.cell? ⟨b0, 11, none⟩ = some (.slice T th.length tc) := by rw [HBx.out.cell 11]; rfl
              have q12 : W1.cell? ⟨b0, 12, none⟩ = some (.slice U el.length uc) := by rw [HBx.out.cell 12]; rfl
              have hbl := HBx.out.lt
              have hcl1 := HBc.out.lt
              have HI1 : Hid (In Q w W1) := Lib.hid (HIr.out.on_moves HQ.out HM1.out)
              have HSC : Hid (∀ W, In Q w W → Calls Try.prog 117 #[.agg #[.int .i64 id, .int .i64 kind, .slice L labels.length lc, .string nm, .string proc, .int .i64 x0, .int .i64 x1, .string x2, .slice X xn xc, .bool has, .slice R args.length rc, .slice T th.length tc, .slice U el.length uc]] W (MayOk (stmtOk (.mk id kind labels nm proc x has args th el)) W)) := HST
              obtain ⟨v, hv⟩ : ∃ v, v = stmtOk (.mk id kind labels nm proc x has args th el) := ⟨_, rfl⟩
              rw [← hv] at HSC HO
              have HO3 : Hid (oneOk (.mk id kind labels nm proc x has args th el) d ck = if v = true then ((blkOk th (d + 1) (ck + 1)).bind fun c1 => blkOk el (d + 1) c1) else none) := Lib.hid (by
                rw [HO.out]
                have e1 : id = ((ck + 1 : Nat) : Int) := by have := eq_of_beq g3'; omega
                simp only [hd12, hc2, e1, true_and])
              clear hv HST HO p0 p1 p2 p3 p4 p5 p6 p7 p8 p9 p10 p11 p12 c0 f0 HO2
              have hdr : ∀ W2 : World, In Q w W2 → In Q w W2.drew := fun W2 h => h
              go_region_held3 (fun w' => w'.cell? ⟨cb, 0, none⟩ = some (.int .i64 ((ck : Int) + 1)) ∧ w'.cell? ⟨b0, 0, none⟩ = some (.int .i64 id) ∧ w'.cell? ⟨b0, 1, none⟩ = some (.int .i64 kind) ∧ w'.cell? ⟨b0, 2, none⟩ = some (.slice L labels.length lc) ∧ w'.cell? ⟨b0, 3, none⟩ = some (.string nm) ∧ w'.cell? ⟨b0, 4, none⟩ = some (.string proc) ∧ w'.cell? ⟨b0, 5, none⟩ = some (.int .i64 x0) ∧ w'.cell? ⟨b0, 6, none⟩ = some (.int .i64 x1) ∧ w'.cell? ⟨b0, 7, none⟩ = some (.string x2) ∧ w'.cell? ⟨b0, 8, none⟩ = some (.slice X xn xc) ∧ w'.cell? ⟨b0, 9, none⟩ = some (.bool has) ∧ w'.cell? ⟨b0, 10, none⟩ = some (.slice R args.length rc) ∧ w'.cell? ⟨b0, 11, none⟩ = some (.slice T th.length tc) ∧ w'.cell? ⟨b0, 12, none⟩ = some (.slice U el.length uc))
                (go_keep)
                ((go_at_call 117; refine (HSC.out _ (hdr _ HI1.out)).mono ?_; rintro e w2 ⟨rfl, hb2⟩; have hb2' : Below W1.heap.size W1 w2 := (show Below W1.heap.size W1 W1.drew from (Below.refl _ _).drew).trans hb2; have hc2 := (bcell hb2').1))
              rename_i hheld
              have HBx2 := Lib.hid (HBx.out.below hb2' hbl)
              have HBc2 := Lib.hid (HBc.out.below hb2' hcl1)
              have HM2 : Hid (Moves (fun k => k = cb) wr w2) := Lib.hid (HM1.out.trans (own' := fun k => W1.heap.size ≤ k) (Below.moves hb2') (fun j hj => .inl (Nat.le_trans HM1.out.size hj)))
              have HI2 : Hid (In Q w w2) := Lib.hid (HI1.out.on hb2')
              have r11 : w2.cell? ⟨b0, 11, none⟩ = some (.slice T th.length tc) := by rw [HBx2.out.cell 11]; rfl
              have r12 : w2.cell? ⟨b0, 12, none⟩ = some (.slice U el.length uc) := by rw [HBx2.out.cell 12]; rfl
              have hbl2 := HBx2.out.lt
              clear hb2 hb2' hc2 hheld HSC hdr q0 q1 q2 q3 q4 q5 q6 q7 q8 q9 q10 q11 q12 c1
              cases v with
              | false =>
                have HV : Hid (blkOk l d c = none) := Lib.hid (by rw [HD.out, HO3.out]; rfl)
                go_wp2_with fail
                go_ret
                exact ⟨by rw [HV.out]; rfl, HR.out.trans HM2.out (fun j hj => .inr hj), fun c' h => by rw [HV.out] at h; cases h⟩
              | true =>
                rw [if_pos rfl] at HO3
                have hd1 : ((d + 1 : Nat) : Int) = (d : Int) + 1 := by omega
                have hck1 : ((ck + 1 : Nat) : Int) = (ck : Int) + 1 := by omega
                have HT1 : Hid (Calls Try.prog 59 #[.slice T th.length tc, .int .i64 ((d : Int) + 1), .pointer (some ⟨cb, 0, none⟩)] w2 (BlkRes (blkOk th (d + 1) (ck + 1)) cb w2)) := Lib.hid (by
                  have := IH.out th hN1 (d + 1) (ck + 1) cb HT.out HI2.out (by rw [hck1]; exact HBc2.out) HQ.out hc2' (by omega)
                  rw [hd1] at this
                  exact this)
                have HE1 : Hid (∀ (W' : World) (c1 : Nat), In Q w W' → Blk W' cb 3 #[.int .i64 c1] → c1 ≤ 200 → Calls Try.prog 59 #[.slice U el.length uc, .int .i64 ((d : Int) + 1), .pointer (some ⟨cb, 0, none⟩)] W' (BlkRes (blkOk el (d + 1) c1) cb W')) := Lib.hid (fun W' c1 h1 h2 h3 => by
                  have := IH.out el hN2 (d + 1) c1 cb HE.out h1 h2 HQ.out h3 (by omega)
                  rw [hd1] at this
                  exact this)
                clear hd1 hck1
                cases hr1 : blkOk th (d + 1) (ck + 1) with
                | none =>
                  rw [hr1] at HT1 HO3
                  have HV : Hid (blkOk l d c = none) := Lib.hid (by rw [HD.out, HO3.out]; rfl)
                  clear hr1
                  go_wp2_with (go_at_call 59; refine HT1.out.mono ?_; rintro e w3 ⟨rfl, hm3, _⟩)
                  go_ret
                  exact ⟨by rw [HV.out]; rfl, (HR.out.trans HM2.out (fun j hj => .inr hj)).trans hm3 (fun j hj => .inr hj), fun c' h => by rw [HV.out] at h; cases h⟩
                | some c1 =>
                  have hc1 := blkOk_le th (d + 1) (ck + 1) c1 hc2' hr1
                  rw [hr1] at HT1 HO3
                  clear hr1
                  cases hr2 : blkOk el (d + 1) c1 with
                  | none =>
                    have HV : Hid (blkOk l d c = none) := Lib.hid (by rw [HD.out, HO3.out]; simp [hr2])
                    have HE2 := Lib.hid (fun W' h1 h2 => HE1.out W' c1 h1 h2 hc1)
                    rw [hr2] at HE2
                    clear hr2
                    go_wp2_with (first
                      | (go_at_call 59; (with_reducible refine HT1.out.mono ?_); rintro e w3 ⟨rfl, hm3, hk3⟩; have HM3 := Lib.hid hm3; have HK3 := Lib.hid (hk3 c1 rfl); have hbx3 := hm3.blk HBx2.out (fun e => hb0 e.symm); have s12 : w3.cell? ⟨b0, 12, none⟩ = some (.slice U el.length uc) := (by rw [hbx3.cell 12]; rfl); have hbl3 := hbx3.lt; clear hm3 hk3 hbx3)
                      | (go_at_call 59; (with_reducible refine (HE2.out w3 (HI2.out.on_moves HQ.out HM3.out) HK3.out).mono ?_); rintro e w4 ⟨rfl, hm4, hk4⟩))
                    go_ret
                    exact ⟨by rw [HV.out]; rfl, ((HR.out.trans HM2.out (fun j hj => .inr hj)).trans HM3.out (fun j hj => .inr hj)).trans hm4 (fun j hj => .inr hj), fun c' h => by rw [HV.out] at h; cases h⟩
                  | some c2 =>
                    have HV : Hid (blkOk (l.drop (k + 1)) d c2 = blkOk l d c) := Lib.hid (by rw [HD.out, HO3.out]; simp [hr2])
                    have hc3 := blkOk_le el (d + 1) c1 c2 hc1 hr2
                    have HE2 := Lib.hid (fun W' h1 h2 => HE1.out W' c1 h1 h2 hc1)
                    rw [hr2] at HE2
                    clear hr2
                    go_wp2_with (first
                      | (go_at_call 59; (with_reducible refine HT1.out.mono ?_); rintro e w3 ⟨rfl, hm3, hk3⟩; have HM3 := Lib.hid hm3; have HK3 := Lib.hid (hk3 c1 rfl); have hbx3 := hm3.blk HBx2.out (fun e => hb0 e.symm); have s12 : w3.cell? ⟨b0, 12, none⟩ = some (.slice U el.length uc) := (by rw [hbx3.cell 12]; rfl); have hbl3 := hbx3.lt; clear hm3 hk3 hbx3)
                      | (go_at_call 59; (with_reducible refine (HE2.out w3 (HI2.out.on_moves HQ.out HM3.out) HK3.out).mono ?_); rintro e w4 ⟨rfl, hm4, hk4⟩))
                    go_roundw
                    case rel => exact ⟨k + 1, c2, by omega, by go_num, hc3, HV, Lib.hid (hk4 c2 rfl), Lib.hid (((HR.out.trans HM2.out (fun j hj => .inr hj)).trans HM3.out (fun j hj => .inr hj)).trans hm4 (fun j hj => .inr hj))⟩
                    case measure => simp [intOf]; omega
            · have g3 : (id == (ck : Int) + 1) = false := beq_eq_false_iff_ne.2 hid2
              have g3' : (id != (ck : Int) + 1) = true := by rw [bne, g3]; rfl
              have HV : Hid (blkOk l d c = none) := Lib.hid (by rw [HD.out, HO.out, if_neg (fun h => hid2 h.2.2.1)]; rfl)
              clear hid2
              go_wp2_with fail
              go_quiet (fail)
              go_wp2_with fail
              go_ret
              exact ⟨by rw [HV.out]; rfl, HR.out.trans (((Moves.refl (fun k => k = cb) wr).set_ (p := ⟨cb, 0, none⟩) (.inl rfl) _ |>.alloc _).drewN _) (fun j hj => .inr hj), fun c' h => by rw [HV.out] at h; cases h⟩
          · have g2 : decide ((ck : Int) + 1 > 200) = true := by simp; omega
            have HV : Hid (blkOk l d c = none) := Lib.hid (by rw [HD.out, HO.out, if_neg (fun h => hc2 h.2.1)]; rfl)
            go_wp2_with fail
            go_quiet (fail)
            go_wp2_with fail
            go_ret
            exact ⟨by rw [HV.out]; rfl, HR.out.trans (((Moves.refl (fun k => k = cb) wr).set_ (p := ⟨cb, 0, none⟩) (.inl rfl) _ |>.alloc _).drewN _) (fun j hj => .inr hj), fun c' h => by rw [HV.out] at h; cases h⟩
        · have g1 : decide ((d : Int) > 12) = true := by simp; omega
          have HV : Hid (blkOk l d c = none) := Lib.hid (by rw [HD.out, HO.out, if_neg (fun h => hd12 h.1)]; rfl)
          go_wp2_with fail
          go_quiet (fail)
          go_wp2_with fail
          go_ret
          exact ⟨by rw [HV.out]; rfl, HR.out.trans (((Moves.refl (fun k => k = cb) wr).set_ (p := ⟨cb, 0, none⟩) (.inl rfl) _ |>.alloc _).drewN _) (fun j hj => .inr hj), fun c' h => by rw [HV.out] at h; cases h⟩
      · have HV : Hid (blkOk l d c = some ck) := Lib.hid (by
          have h1 := HW.out
          rw [List.drop_of_length_le (by omega), blkOk] at h1
          exact h1.symm)
        go_wp2_with fail
        go_ret
        exact ⟨by rw [HV.out]; rfl, HR.out, fun c' h => by rw [HV.out] at h; injection h with h; rw [← h]; exact HB.out⟩
end Go.Proofs.Ytcocilpifdjibaa
namespace Go.Proofs.Ytcocilpifdjibaa
open Go.ChangeShapes Go.WideShapes Go.ChangeAt Go.RowKit Go.Deep
set_option linter.unusedVariables false
def prOk : List Pr → Nat → Option Nat
  | [], c => some c
  | q :: qs, c => if headOk q = true then (blkOk q.body 1 c).bind fun c' => prOk qs c' else none
def mayP (p : Pg) : Bool := !decide (16 < p.globals.length) && !decide (16 < p.procs.length) && allN p.globals && (prOk p.procs 0).isSome
theorem prOk_drop {l : List Pr} {k c : Nat} (h : k < l.length) : prOk (l.drop k) c = if headOk l[k] = true then (blkOk l[k].body 1 c).bind fun c' => prOk (l.drop (k + 1)) c' else none := by
  rw [List.drop_eq_getElem_cons h, prOk]
set_option maxHeartbeats 2000000 in
theorem May_any {w : World} {Q : Nat → Prop} {p : Pg} {c0 c1 : Value} (h : ProgI w Q p [c0, c1]) (W : World) (hI : In Q w W) :
    Calls Try.prog 17 #[.agg #[c0, c1]] W (MayOk (mayP p) W) := by
  obtain ⟨Ag, cg, Ap, cp, rfl, rfl, hg1, hg2, hp1, hp2, hgl, hpr⟩ := prog_open h
  have HI := Lib.hid hI
  have HP := Lib.hid hpr
  have HG := Lib.hid (fun W h1 => mayNames_any (W := W) hgl h1)
  have HM : Hid (mayP p = (!decide (16 < p.globals.length) && !decide (16 < p.procs.length) && allN p.globals && (prOk p.procs 0).isSome)) := Lib.hid rfl
  clear h hI hpr hgl
  by_cases h1 : 16 < p.globals.length
  · rw [decide_eq_true h1] at HM
    go_enter Try.func17, Try.ntmps17
    go_wp2_with fail
    go_ret
    exact ⟨ret_bool (by rw [HM.out]; rfl), below_box _⟩
  · by_cases h2 : 16 < p.procs.length
    · rw [decide_eq_false h1, decide_eq_true h2] at HM
      go_enter Try.func17, Try.ntmps17
      go_wp2_with fail
      go_ret
      exact ⟨ret_bool (by rw [HM.out]; rfl), below_box _⟩
    · rw [decide_eq_false h1, decide_eq_false h2] at HM
      cases hv : allN p.globals with
      | false =>
        rw [hv] at HM HG
        clear hv
        go_enter Try.func17, Try.ntmps17
        go_wp2_with (go_at_call 57; refine (HG.out _ (HI.out.alloc _)).mono ?_; rintro e w' ⟨rfl, rfl⟩)
        go_ret
        exact ⟨ret_bool (by rw [HM.out]; rfl), below_box _⟩
      | true =>
        rw [hv] at HM HG
        simp only [Bool.not_false, Bool.true_and] at HM
        clear hv
        go_enter Try.func17, Try.ntmps17
        go_wp2_with (go_at_call 57; refine (HG.out _ (HI.out.alloc _)).mono ?_; rintro e w' ⟨rfl, rfl⟩)
        have HB1 : Hid (Below W.heap.size W ((W.alloc (.cells #[.slice Ag p.globals.length cg, .slice Ap p.procs.length cp] 25)).alloc (.cells #[.int .i64 0] 3))) := Lib.hid (below_two _ _)
        have HBc : Hid (Blk ((W.alloc (.cells #[.slice Ag p.globals.length cg, .slice Ap p.procs.length cp] 25)).alloc (.cells #[.int .i64 0] 3)) (W.heap.size + 1) 3 #[.int .i64 (0 : Nat)]) := Lib.hid (by
          have := Blk.new (W.alloc (.cells #[.slice Ag p.globals.length cg, .slice Ap p.procs.length cp] 25)) 3 #[.int .i64 0]
          simpa using this)
        generalize World.alloc _ _ = W1 at HB1 HBc ⊢
        have hcb : W.heap.size < W.heap.size + 1 := by omega
        generalize W.heap.size + 1 = cb at HBc hcb ⊢
        have HQ : Hid (¬ Q cb) := Lib.hid (fun hq => by have := HI.out.1 cb hq; omega)
        go_loopw [25] (fun i wr => ∃ k ck : Nat, k ≤ p.procs.length ∧ i = .int .i64 k ∧ ck ≤ 200 ∧ Hid (prOk (p.procs.drop k) ck = prOk p.procs 0) ∧ Hid (Blk wr cb 3 #[.int .i64 ck]) ∧ Hid (Below W.heap.size W wr)) (fun i _ => p.procs.length - (intOf i).toNat)
        case atStart => exact ⟨0, 0, Nat.zero_le _, rfl, by omega, Lib.hid (by rw [List.drop_zero]), HBc, HB1⟩
        case round =>
          obtain ⟨k, ck, hk, rfl, hck, HW, HB, HR⟩ := hrel
          by_cases hlt : k < p.procs.length
          · have hIr : In Q w wr := HI.out.on HR.out
            obtain ⟨a, Bp, bp, Bv, bv, Bb, bb, Be, be, rfl, _, ⟨p0, p1, p2, p3, p4, _⟩, hnm, hpp, hvv, hbody, hee⟩ := proc_at HP.out hIr hlt
            have HD := Lib.hid (prOk_drop (c := ck) hlt)
            rw [HW.out] at HD
            have HH := Lib.hid (fun W h1 => mayHead_any (W := W) (Ab := Bb) (nb := p.procs[k].body.length) (cb := bb) hnm hpp hvv hee h1)
            have HC := Lib.hid (fun W' h1 h2 => mayBlock_any ((preSL p.procs[k].body).length + 1) p.procs[k].body (by omega) (w := w) (W := W') 1 ck cb hbody h1 h2 HQ.out hck (by omega))
            have HIr := Lib.hid hIr
            have hcl := HB.out.lt
            obtain ⟨x, hx⟩ : ∃ x, x = p.procs[k] := ⟨_, rfl⟩
            rw [← hx] at p0 p1 p2 p3 p4 HD HH HC
            clear hx hIr hnm hpp hvv hbody hee
            obtain ⟨xn, xp, xv, xb, xe⟩ := x
            simp only at p0 p1 p2 p3 p4 HD HH HC
            have HC' : Hid (∀ W', In Q w W' → Blk W' cb 3 #[.int .i64 ck] → Calls Try.prog 59 #[.slice Bb xb.length bb, .int .i64 1, .pointer (some ⟨cb, 0, none⟩)] W' (BlkRes (blkOk xb 1 ck) cb W')) := HC
            clear HC
            cases hh : headOk ⟨xn, xp, xv, xb, xe⟩ with
            | false =>
              rw [hh] at HD HH
              have HV : Hid (prOk p.procs 0 = none) := Lib.hid (by rw [HD.out]; rfl)
              clear hh
              go_wp2_with (go_at_call 58; refine (HH.out _ (HIr.out.alloc _)).mono ?_; rintro e w2 ⟨rfl, hb2⟩)
              go_ret
              exact ⟨ret_bool (by rw [HM.out, HV.out]; rfl), HR.out.trans ((below_new hb2).mono HR.out.size)⟩
            | true =>
              rw [hh, if_pos rfl] at HD
              rw [hh] at HH
              clear hh
              cases hr : blkOk xb 1 ck with
              | none =>
                rw [hr] at HD HC'
                have HV : Hid (prOk p.procs 0 = none) := Lib.hid (by rw [HD.out]; rfl)
                clear hr
                go_wp2_with (first
                  | (go_at_call 58; refine (HH.out _ (HIr.out.alloc _)).mono ?_; rintro e w2 ⟨rfl, hb2⟩; have hc2 := (bcell hb2).1; have HB2 := Lib.hid (below_new hb2); have hz2 : wr.heap.size < w2.heap.size := (by have := hb2.size; rw [World.size_alloc] at this; omega); clear hb2)
                  | (go_at_call 59; refine (HC'.out _ (HIr.out.on HB2.out) (HB.out.below HB2.out hcl)).mono ?_; rintro e w3 ⟨rfl, hm3, _⟩))
                go_ret
                exact ⟨ret_bool (by rw [HM.out, HV.out]; rfl), (HR.out.trans (HB2.out.mono HR.out.size)).trans (hm3.below (by have := HR.out.size; have := HB2.out.size; omega) (fun j hj => by rw [hj]; omega))⟩
              | some c2 =>
                have hc2' := blkOk_le xb 1 ck c2 hck hr
                rw [hr] at HD HC'
                have HV : Hid (prOk (p.procs.drop (k + 1)) c2 = prOk p.procs 0) := Lib.hid (by rw [HD.out]; rfl)
                clear hr
                go_wp2_with (first
                  | (go_at_call 58; refine (HH.out _ (HIr.out.alloc _)).mono ?_; rintro e w2 ⟨rfl, hb2⟩; have hc2 := (bcell hb2).1; have HB2 := Lib.hid (below_new hb2); have hz2 : wr.heap.size < w2.heap.size := (by have := hb2.size; rw [World.size_alloc] at this; omega); clear hb2)
                  | (go_at_call 59; refine (HC'.out _ (HIr.out.on HB2.out) (HB.out.below HB2.out hcl)).mono ?_; rintro e w3 ⟨rfl, hm3, hk3⟩))
                go_roundw
                case rel => exact ⟨k + 1, c2, by omega, by go_num, hc2', HV, Lib.hid (hk3 c2 rfl), Lib.hid ((HR.out.trans (HB2.out.mono HR.out.size)).trans (hm3.below (by have := HR.out.size; have := HB2.out.size; omega) (fun j hj => by rw [hj]; omega)))⟩
                case measure => simp [intOf]; omega
          · have HV : Hid (prOk p.procs 0 = some ck) := Lib.hid (by
              have h1 := HW.out
              rw [List.drop_of_length_le (by omega), prOk] at h1
              exact h1.symm)
            go_wp2_with fail
            go_ret
            exact ⟨ret_bool (by rw [HM.out, HV.out]; rfl), HR.out⟩
end Go.Proofs.Ytcocilpifdjibaa
