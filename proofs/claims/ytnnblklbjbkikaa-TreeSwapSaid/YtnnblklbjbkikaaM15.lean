/- Texts, merged by a program; only what is used. -/
import Derived.Deep.LoopGhost
import Derived.Test.YtnnblklbjbkikaaM1
import Derived.Test.YtnnblklbjbkikaaM2
import Derived.Test.YtnnblklbjbkikaaM3
import Derived.Test.YtnnblklbjbkikaaM4
import Derived.Test.YtnnblklbjbkikaaM5
import Derived.Test.YtnnblklbjbkikaaM6
import Derived.Test.YtnnblklbjbkikaaM7
import Derived.Test.YtnnblklbjbkikaaM8
import Derived.Test.YtnnblklbjbkikaaM9
import Derived.Test.YtnnblklbjbkikaaM10
import Derived.Test.YtnnblklbjbkikaaM12
import Derived.Test.YtnnblklbjbkikaaM13
import Derived.Test.YtnnblklbjbkikaaM14
namespace Go.Proofs.Ytnnblklbjbkikaa
open Go.ChangeShapes Go.WideShapes Go.ChangeAt Go.RowKit Go.Deep
set_option linter.unusedVariables false
mutual
theorem blkOk_le : ∀ (l : List S) (d c c' : Nat), c ≤ 200 → blkOk l d c = some c' → c' ≤ 200
  | [], d, c, c', hc, h => by rw [blkOk] at h; injection h with h; omega
  | s :: l, d, c, c', hc, h => by
    rw [blkOk] at h
    cases h1 : oneOk s d c with
    | none => rw [h1] at h; cases h
    | some c1 => rw [h1] at h; exact blkOk_le l d c1 c' (oneOk_le s d c c1 hc h1) h
theorem oneOk_le : ∀ (s : S) (d c c' : Nat), c ≤ 200 → oneOk s d c = some c' → c' ≤ 200
  | .mk id kind labels nm proc x has args th el, d, c, c', hc, h => by
    rw [oneOk] at h
    by_cases hb : d ≤ 12 ∧ c + 1 ≤ 200 ∧ id = ((c + 1 : Nat) : Int) ∧ stmtOk (.mk id kind labels nm proc x has args th el) = true
    · rw [if_pos hb] at h
      cases h1 : blkOk th (d + 1) (c + 1) with
      | none => rw [h1] at h; cases h
      | some c1 => rw [h1] at h; exact blkOk_le el (d + 1) c1 c' (blkOk_le th (d + 1) (c + 1) c1 (by omega) h1) h
    · rw [if_neg hb] at h; cases h
end
def BlkRes (r : Option Nat) (cb : Nat) (W : World) (e : Ending) (w' : World) : Prop :=
  e = .returned (.bool r.isSome) ∧ Moves (fun k => k = cb) W w' ∧ ∀ c, r = some c → Blk w' cb 3 #[.int .i64 c]
theorem In.on_moves {Q : Nat → Prop} {w W W' : World} {cb : Nat} (h : In Q w W) (hq : ¬ Q cb) (hm : Moves (fun k => k = cb) W W') : In Q w W' := h.moves hm (fun j hj hb => hq (hj ▸ hb))
set_option maxHeartbeats 4000000 in
theorem mayBlock_any : ∀ (N : Nat) (l : List S), (preSL l).length < N → ∀ {w W : World} {Q : Nat → Prop} {A : Option Addr} {cap : Nat} (d c cb : Nat), StmtsI w Q l (.slice A l.length cap) → In Q w W → Blk W cb 3 #[.int .i64 c] → ¬ Q cb → c ≤ 200 → d ≤ 13 →
    Calls Try.prog 58 #[.slice A l.length cap, .int .i64 d, .pointer (some ⟨cb, 0, none⟩)] W (BlkRes (blkOk l d c) cb W) := by
  intro N
  induction N with
  | zero => intro l h; omega
  | succ N ih =>
    intro l hN w W Q A cap d c cb hl hI hcb hq hc hd
    obtain ⟨_, hlc, hcap, _⟩ := slice_len hl
    have IH := Lib.hid @ih
    have HN := Lib.hid hN
    have HL := Lib.hid hl
    have HI := Lib.hid hI
    have HC := Lib.hid hcb
    have HQ := Lib.hid hq
    clear ih hN hl hI hcb hq
    go_enter Try.func58, Try.ntmps58
    go_wp2_with fail
    go_loopw [11] (fun i wr => ∃ k ck : Nat, k ≤ l.length ∧ i = .int .i64 k ∧ ck ≤ 200 ∧ Hid (blkOk (l.drop k) d ck = blkOk l d c) ∧ Hid (Blk wr cb 3 #[.int .i64 ck]) ∧ Hid (Moves (fun k => k = cb) W wr)) (fun i _ => l.length - (intOf i).toNat)
    case atStart => exact ⟨0, c, Nat.zero_le _, rfl, hc, Lib.hid (by rw [List.drop_zero]), HC, Lib.hid (Moves.refl _ _)⟩
    case round =>
      obtain ⟨k, ck, hk, rfl, hck, HW, HB, HR⟩ := hrel
      by_cases hlt : k < l.length
      · have hIr : In Q w wr := HI.out.on_moves HQ.out HR.out
        obtain ⟨a, id, kind, labels, nm, proc, x, has, args, th, el, L, lc, x0, x1, x2, X, xn, xc, R, rc, T, tc, U, uc, rfl, _, hmk, ⟨p0, p1, p2, p3, p4, p5, p6, p7, p8, p9, p10, p11, p12, _⟩, hid, hkind, _, _, _, _, _, hth, hel, hst⟩ := stmt_at HL.out hIr hlt
        have hsub := preSL_at hlt
        have HD : Hid (blkOk l d c = (oneOk (.mk id kind labels nm proc x has args th el) d ck).bind fun c' => blkOk (l.drop (k + 1)) d c') := Lib.hid (by rw [← hmk, ← blkOk_drop hlt]; exact HW.out.symm)
        rw [hmk] at hsub hst
        simp only [subS, List.length_append] at hsub
        have HST := Lib.hid (fun W h1 => mayStmt_any hst W h1)
        have HT := Lib.hid hth
        have HE := Lib.hid hel
        have hN1 : (preSL th).length < N := by have := HN.out; omega
        have hN2 : (preSL el).length < N := by have := HN.out; omega
        have HIr := Lib.hid hIr
        have c0 : wr.cell? ⟨cb, 0, none⟩ = some (.int .i64 ck) := by rw [HB.out.cell 0]; rfl
        have f0 := HB.out.frozen 0
        have hcl := HB.out.lt
        have hcl2 : cb ≠ wr.heap.size := by omega
        unfold i64 at hid
        clear hmk hsub hst hth hel hIr
        have HO : Hid (oneOk (.mk id kind labels nm proc x has args th el) d ck = if d ≤ 12 ∧ ck + 1 ≤ 200 ∧ id = ((ck + 1 : Nat) : Int) ∧ stmtOk (.mk id kind labels nm proc x has args th el) = true then ((blkOk th (d + 1) (ck + 1)).bind fun c1 => blkOk el (d + 1) c1) else none) := Lib.hid (by rw [oneOk])
        by_cases hd12 : d ≤ 12
        · have g1 : decide ((d : Int) > 12) = false := by simp; omega
          by_cases hc2 : ck + 1 ≤ 200
          · have g2 : decide ((ck : Int) + 1 > 200) = false := by simp; omega
            have hc2' := hc2
            by_cases hid2 : id = (ck : Int) + 1
            · have g3 : (id != (ck : Int) + 1) = false := by rw [hid2]; simp
              have g3' : (id == (ck : Int) + 1) = true := by rw [hid2]; simp
              have HO2 := HO
              clear hid2
              go_wp2_with fail
              have HBx : Hid (Blk ((wr.setCell ⟨cb, 0, none⟩ (.int .i64 ((ck : Int) + 1))).alloc (.cells #[.int .i64 id, .int .i64 kind, .slice L labels.length lc, .string nm, .string proc, .int .i64 x0, .int .i64 x1, .string x2, .slice X xn xc, .bool has, .slice R args.length rc, .slice T th.length tc, .slice U el.length uc] 55)) wr.heap.size 55 #[.int .i64 id, .int .i64 kind, .slice L labels.length lc, .string nm, .string proc, .int .i64 x0, .int .i64 x1, .string x2, .slice X xn xc, .bool has, .slice R args.length rc, .slice T th.length tc, .slice U el.length uc]) := Lib.hid (by have := Blk.new (wr.setCell ⟨cb, 0, none⟩ (.int .i64 ((ck : Int) + 1))) 55 #[.int .i64 id, .int .i64 kind, .slice L labels.length lc, .string nm, .string proc, .int .i64 x0, .int .i64 x1, .string x2, .slice X xn xc, .bool has, .slice R args.length rc, .slice T th.length tc, .slice U el.length uc]; simpa [World.setCell] using this)
              have HBc : Hid (Blk ((wr.setCell ⟨cb, 0, none⟩ (.int .i64 ((ck : Int) + 1))).alloc (.cells #[.int .i64 id, .int .i64 kind, .slice L labels.length lc, .string nm, .string proc, .int .i64 x0, .int .i64 x1, .string x2, .slice X xn xc, .bool has, .slice R args.length rc, .slice T th.length tc, .slice U el.length uc] 55)) cb 3 #[.int .i64 ((ck : Int) + 1)]) := Lib.hid ((HB.out.set_ 0 _).alloc _)
              have HM1 : Hid (Moves (fun k => k = cb) wr ((wr.setCell ⟨cb, 0, none⟩ (.int .i64 ((ck : Int) + 1))).alloc (.cells #[.int .i64 id, .int .i64 kind, .slice L labels.length lc, .string nm, .string proc, .int .i64 x0, .int .i64 x1, .string x2, .slice X xn xc, .bool has, .slice R args.length rc, .slice T th.length tc, .slice U el.length uc] 55))) := Lib.hid ((Moves.refl (fun k => k = cb) wr).set_ (p := ⟨cb, 0, none⟩) (.inl rfl) _ |>.alloc _)
              generalize World.alloc _ _ = W1 at HBx HBc HM1 ⊢
              have hb0 : cb ≠ wr.heap.size := hcl2
              generalize wr.heap.size = b0 at HBx hb0 ⊢
              have c1 : W1.cell? ⟨cb, 0, none⟩ = some (.int .i64 ((ck : Int) + 1)) := by rw [HBc.out.cell 0]; rfl
              have q0 : W1.cell? ⟨b0, 0, none⟩ = some (.int .i64 id) := by rw [HBx.out.cell 0]; rfl
              have q1 : W1.cell? ⟨b0, 1, none⟩ = some (.int .i64 kind) := by rw [HBx.out.cell 1]; rfl
              have q2 : W1.cell? ⟨b0, 2, none⟩ = some (.slice L labels.length lc) := by rw [HBx.out.cell 2]; rfl
              have q3 : W1.cell? ⟨b0, 3, none⟩ = some (.string nm) := by rw [HBx.out.cell 3]; rfl
              have q4 : W1.cell? ⟨b0, 4, none⟩ = some (.string proc) := by rw [HBx.out.cell 4]; rfl
              have q5 : W1.cell? ⟨b0, 5, none⟩ = some (.int .i64 x0) := by rw [HBx.out.cell 5]; rfl
              have q6 : W1.cell? ⟨b0, 6, none⟩ = some (.int .i64 x1) := by rw [HBx.out.cell 6]; rfl
              have q7 : W1.cell? ⟨b0, 7, none⟩ = some (.string x2) := by rw [HBx.out.cell 7]; rfl
              have q8 : W1.cell? ⟨b0, 8, none⟩ = some (.slice X xn xc) := by rw [HBx.out.cell 8]; rfl
              have q9 : W1.cell? ⟨b0, 9, none⟩ = some (.bool has) := by rw [HBx.out.cell 9]; rfl
              have q10 : W1.cell? ⟨b0, 10, none⟩ = some (.slice R args.length rc) := by rw [HBx.out.cell 10]; rfl
              have q11 : W1.cell? ⟨b0, 11, none⟩ = some (.slice T th.length tc) := by rw [HBx.out.cell 11]; rfl
              have q12 : W1.cell? ⟨b0, 12, none⟩ = some (.slice U el.length uc) := by rw [HBx.out.cell 12]; rfl
              have hbl := HBx.out.lt
              have hcl1 := HBc.out.lt
              have HI1 : Hid (In Q w W1) := Lib.hid (HIr.out.on_moves HQ.out HM1.out)
              have HSC : Hid (∀ W, In Q w W → Calls Try.prog 100 #[.agg #[.int .i64 id, .int .i64 kind, .slice L labels.length lc, .string nm, .string proc, .int .i64 x0, .int .i64 x1, .string x2, .slice X xn xc, .bool has, .slice R args.length rc, .slice T th.length tc, .slice U el.length uc]] W (MayOk (stmtOk (.mk id kind labels nm proc x has args th el)) W)) := HST
              obtain ⟨v, hv⟩ : ∃ v, v = stmtOk (.mk id kind labels nm proc x has args th el) := ⟨_, rfl⟩
              rw [← hv] at HSC HO
              have HO3 : Hid (oneOk (.mk id kind labels nm proc x has args th el) d ck = if v = true then ((blkOk th (d + 1) (ck + 1)).bind fun c1 => blkOk el (d + 1) c1) else none) := Lib.hid (by
                rw [HO.out]
                have e1 : id = ((ck + 1 : Nat) : Int) := by have := eq_of_beq g3'; omega
                simp only [hd12, hc2, e1, true_and])
              clear hv HST HO p0 p1 p2 p3 p4 p5 p6 p7 p8 p9 p10 p11 p12 c0 f0 HO2
              have hdr : ∀ W2 : World, In Q w W2 → In Q w W2.drew := fun W2 h => h
              go_region_held3 (fun w' => w'.cell? ⟨cb, 0, none⟩ = some (.int .i64 ((ck : Int) + 1)) ∧ w'.cell? ⟨b0, 0, none⟩ = some (.int .i64 id) ∧ w'.cell? ⟨b0, 1, none⟩ = some (.int .i64 kind) ∧ w'.cell? ⟨b0, 2, none⟩ = some (.slice L labels.length lc) ∧ w'.cell? ⟨b0, 3, none⟩ = some (.string nm) ∧ w'.cell? ⟨b0, 4, none⟩ = some (.string proc) ∧ w'.cell? ⟨b0, 5, none⟩ = some (.int .i64 x0) ∧ w'.cell? ⟨b0, 6, none⟩ = some (.int .i64 x1) ∧ w'.cell? ⟨b0, 7, none⟩ = some (.string x2) ∧ w'.cell? ⟨b0, 8, none⟩ = some (.slice X xn xc) ∧ w'.cell? ⟨b0, 9, none⟩ = some (.bool has) ∧ w'.cell? ⟨b0, 10, none⟩ = some (.slice R args.length rc) ∧ w'.cell? ⟨b0, 11, none⟩ = some (.slice T th.length tc) ∧ w'.cell? ⟨b0, 12, none⟩ = some (.slice U el.length uc))
                (go_keep)
                ((go_at_call 100; refine (HSC.out _ (hdr _ HI1.out)).mono ?_; rintro e w2 ⟨rfl, hb2⟩; have hb2' : Below W1.heap.size W1 w2 := (show Below W1.heap.size W1 W1.drew from (Below.refl _ _).drew).trans hb2; have hc2 := (bcell hb2').1))
              rename_i hheld
              have HBx2 := Lib.hid (HBx.out.below hb2' hbl)
              have HBc2 := Lib.hid (HBc.out.below hb2' hcl1)
              have HM2 : Hid (Moves (fun k => k = cb) wr w2) := Lib.hid (HM1.out.trans (own' := fun k => W1.heap.size ≤ k) (Below.moves hb2') (fun j hj => .inl (Nat.le_trans HM1.out.size hj)))
              have HI2 : Hid (In Q w w2) := Lib.hid (HI1.out.on hb2')
              have r11 : w2.cell? ⟨b0, 11, none⟩ = some (.slice T th.length tc) := by rw [HBx2.out.cell 11]; rfl
              have r12 : w2.cell? ⟨b0, 12, none⟩ = some (.slice U el.length uc) := by rw [HBx2.out.cell 12]; rfl
              have hbl2 := HBx2.out.lt
              clear hb2 hb2' hc2 hheld HSC hdr q0 q1 q2 q3 q4 q5 q6 q7 q8 q9 q10 q11 q12 c1
              cases v with
              | false =>
                have HV : Hid (blkOk l d c = none) := Lib.hid (by rw [HD.out, HO3.out]; rfl)
                go_wp2_with fail
                go_ret
                exact ⟨by rw [HV.out]; rfl, HR.out.trans HM2.out (fun j hj => .inr hj), fun c' h => by rw [HV.out] at h; cases h⟩
              | true =>
                rw [if_pos rfl] at HO3
                have hd1 : ((d + 1 : Nat) : Int) = (d : Int) + 1 := by omega
                have hck1 : ((ck + 1 : Nat) : Int) = (ck : Int) + 1 := by omega
                have HT1 : Hid (Calls Try.prog 58 #[.slice T th.length tc, .int .i64 ((d : Int) + 1), .pointer (some ⟨cb, 0, none⟩)] w2 (BlkRes (blkOk th (d + 1) (ck + 1)) cb w2)) := Lib.hid (by
                  have := IH.out th hN1 (d + 1) (ck + 1) cb HT.out HI2.out (by rw [hck1]; exact HBc2.out) HQ.out hc2' (by omega)
                  rw [hd1] at this
                  exact this)
                have HE1 : Hid (∀ (W' : World) (c1 : Nat), In Q w W' → Blk W' cb 3 #[.int .i64 c1] → c1 ≤ 200 → Calls Try.prog 58 #[.slice U el.length uc, .int .i64 ((d : Int) + 1), .pointer (some ⟨cb, 0, none⟩)] W' (BlkRes (blkOk el (d + 1) c1) cb W')) := Lib.hid (fun W' c1 h1 h2 h3 => by
                  have := IH.out el hN2 (d + 1) c1 cb HE.out h1 h2 HQ.out h3 (by omega)
                  rw [hd1] at this
                  exact this)
                clear hd1 hck1
                cases hr1 : blkOk th (d + 1) (ck + 1) with
                | none =>
                  rw [hr1] at HT1 HO3
                  have HV : Hid (blkOk l d c = none) := Lib.hid (by rw [HD.out, HO3.out]; rfl)
                  clear hr1
                  go_wp2_with (go_at_call 58; refine HT1.out.mono ?_; rintro e w3 ⟨rfl, hm3, _⟩)
                  go_ret
                  exact ⟨by rw [HV.out]; rfl, (HR.out.trans HM2.out (fun j hj => .inr hj)).trans hm3 (fun j hj => .inr hj), fun c' h => by rw [HV.out] at h; cases h⟩
                | some c1 =>
                  have hc1 := blkOk_le th (d + 1) (ck + 1) c1 hc2' hr1
                  rw [hr1] at HT1 HO3
                  clear hr1
                  cases hr2 : blkOk el (d + 1) c1 with
                  | none =>
                    have HV : Hid (blkOk l d c = none) := Lib.hid (by rw [HD.out, HO3.out]; simp [hr2])
                    have HE2 := Lib.hid (fun W' h1 h2 => HE1.out W' c1 h1 h2 hc1)
                    rw [hr2] at HE2
                    clear hr2
                    go_wp2_with (first
                      | (go_at_call 58; (with_reducible refine HT1.out.mono ?_); rintro e w3 ⟨rfl, hm3, hk3⟩; have HM3 := Lib.hid hm3; have HK3 := Lib.hid (hk3 c1 rfl); have hbx3 := hm3.blk HBx2.out (fun e => hb0 e.symm); have s12 : w3.cell? ⟨b0, 12, none⟩ = some (.slice U el.length uc) := (by rw [hbx3.cell 12]; rfl); have hbl3 := hbx3.lt; clear hm3 hk3 hbx3)
                      | (go_at_call 58; (with_reducible refine (HE2.out w3 (HI2.out.on_moves HQ.out HM3.out) HK3.out).mono ?_); rintro e w4 ⟨rfl, hm4, hk4⟩))
                    go_ret
                    exact ⟨by rw [HV.out]; rfl, ((HR.out.trans HM2.out (fun j hj => .inr hj)).trans HM3.out (fun j hj => .inr hj)).trans hm4 (fun j hj => .inr hj), fun c' h => by rw [HV.out] at h; cases h⟩
                  | some c2 =>
                    have HV : Hid (blkOk (l.drop (k + 1)) d c2 = blkOk l d c) := Lib.hid (by rw [HD.out, HO3.out]; simp [hr2])
                    have hc3 := blkOk_le el (d + 1) c1 c2 hc1 hr2
                    have HE2 := Lib.hid (fun W' h1 h2 => HE1.out W' c1 h1 h2 hc1)
                    rw [hr2] at HE2
                    clear hr2
                    go_wp2_with (first
                      | (go_at_call 58; (with_reducible refine HT1.out.mono ?_); rintro e w3 ⟨rfl, hm3, hk3⟩; have HM3 := Lib.hid hm3; have HK3 := Lib.hid (hk3 c1 rfl); have hbx3 := hm3.blk HBx2.out (fun e => hb0 e.symm); have s12 : w3.cell? ⟨b0, 12, none⟩ = some (.slice U el.length uc) := (by rw [hbx3.cell 12]; rfl); have hbl3 := hbx3.lt; clear hm3 hk3 hbx3)
                      | (go_at_call 58; (with_reducible refine (HE2.out w3 (HI2.out.on_moves HQ.out HM3.out) HK3.out).mono ?_); rintro e w4 ⟨rfl, hm4, hk4⟩))
                    go_roundw
                    case rel => exact ⟨k + 1, c2, by omega, by go_num, hc3, HV, Lib.hid (hk4 c2 rfl), Lib.hid (((HR.out.trans HM2.out (fun j hj => .inr hj)).trans HM3.out (fun j hj => .inr hj)).trans hm4 (fun j hj => .inr hj))⟩
                    case measure => simp [intOf]; omega
            · have g3 : (id == (ck : Int) + 1) = false := beq_eq_false_iff_ne.2 hid2
              have g3' : (id != (ck : Int) + 1) = true := by rw [bne, g3]; rfl
              have HV : Hid (blkOk l d c = none) := Lib.hid (by rw [HD.out, HO.out, if_neg (fun h => hid2 h.2.2.1)]; rfl)
              clear hid2
              go_wp2_with fail
              go_quiet (fail)
              go_wp2_with fail
              go_ret
              exact ⟨by rw [HV.out]; rfl, HR.out.trans (((Moves.refl (fun k => k = cb) wr).set_ (p := ⟨cb, 0, none⟩) (.inl rfl) _ |>.alloc _).drewN _) (fun j hj => .inr hj), fun c' h => by rw [HV.out] at h; cases h⟩
          · have g2 : decide ((ck : Int) + 1 > 200) = true := by simp; omega
            have HV : Hid (blkOk l d c = none) := Lib.hid (by rw [HD.out, HO.out, if_neg (fun h => hc2 h.2.1)]; rfl)
            go_wp2_with fail
            go_quiet (fail)
            go_wp2_with fail
            go_ret
            exact ⟨by rw [HV.out]; rfl, HR.out.trans (((Moves.refl (fun k => k = cb) wr).set_ (p := ⟨cb, 0, none⟩) (.inl rfl) _ |>.alloc _).drewN _) (fun j hj => .inr hj), fun c' h => by rw [HV.out] at h; cases h⟩
        · have g1 : decide ((d : Int) > 12) = true := by simp; omega
          have HV : Hid (blkOk l d c = none) := Lib.hid (by rw [HD.out, HO.out, if_neg (fun h => hd12 h.1)]; rfl)
          go_wp2_with fail
          go_quiet (fail)
          go_wp2_with fail
          go_ret
          exact ⟨by rw [HV.out]; rfl, HR.out.trans (((Moves.refl (fun k => k = cb) wr).set_ (p := ⟨cb, 0, none⟩) (.inl rfl) _ |>.alloc _).drewN _) (fun j hj => .inr hj), fun c' h => by rw [HV.out] at h; cases h⟩
      · have HV : Hid (blkOk l d c = some ck) := Lib.hid (by
          have h1 := HW.out
          rw [List.drop_of_length_le (by omega), blkOk] at h1
          exact h1.symm)
        go_wp2_with fail
        go_ret
        exact ⟨by rw [HV.out]; rfl, HR.out, fun c' h => by rw [HV.out] at h; injection h with h; rw [← h]; exact HB.out⟩
end Go.Proofs.Ytnnblklbjbkikaa
namespace Go.Proofs.Ytnnblklbjbkikaa
open Go.ChangeShapes Go.WideShapes Go.ChangeAt Go.RowKit Go.Deep
set_option linter.unusedVariables false
def prOk : List Pr → Nat → Option Nat
  | [], c => some c
  | q :: qs, c => if headOk q = true then (blkOk q.body 1 c).bind fun c' => prOk qs c' else none
def mayP (p : Pg) : Bool := !decide (16 < p.globals.length) && !decide (16 < p.procs.length) && allN p.globals && (prOk p.procs 0).isSome
theorem prOk_drop {l : List Pr} {k c : Nat} (h : k < l.length) : prOk (l.drop k) c = if headOk l[k] = true then (blkOk l[k].body 1 c).bind fun c' => prOk (l.drop (k + 1)) c' else none := by
  rw [List.drop_eq_getElem_cons h, prOk]
set_option maxHeartbeats 2000000 in
theorem May_any {w : World} {Q : Nat → Prop} {p : Pg} {c0 c1 : Value} (h : ProgI w Q p [c0, c1]) (W : World) (hI : In Q w W) :
    Calls Try.prog 14 #[.agg #[c0, c1]] W (MayOk (mayP p) W) := by
  obtain ⟨Ag, cg, Ap, cp, rfl, rfl, hg1, hg2, hp1, hp2, hgl, hpr⟩ := prog_open h
  have HI := Lib.hid hI
  have HP := Lib.hid hpr
  have HG := Lib.hid (fun W h1 => mayNames_any (W := W) hgl h1)
  have HM : Hid (mayP p = (!decide (16 < p.globals.length) && !decide (16 < p.procs.length) && allN p.globals && (prOk p.procs 0).isSome)) := Lib.hid rfl
  clear h hI hpr hgl
  by_cases h1 : 16 < p.globals.length
  · rw [decide_eq_true h1] at HM
    go_enter Try.func14, Try.ntmps14
    go_wp2_with fail
    go_ret
    exact ⟨ret_bool (by rw [HM.out]; rfl), below_box _⟩
  · by_cases h2 : 16 < p.procs.length
    · rw [decide_eq_false h1, decide_eq_true h2] at HM
      go_enter Try.func14, Try.ntmps14
      go_wp2_with fail
      go_ret
      exact ⟨ret_bool (by rw [HM.out]; rfl), below_box _⟩
    · rw [decide_eq_false h1, decide_eq_false h2] at HM
      cases hv : allN p.globals with
      | false =>
        rw [hv] at HM HG
        clear hv
        go_enter Try.func14, Try.ntmps14
        go_wp2_with (go_at_call 56; refine (HG.out _ (HI.out.alloc _)).mono ?_; rintro e w' ⟨rfl, rfl⟩)
        go_ret
        exact ⟨ret_bool (by rw [HM.out]; rfl), below_box _⟩
      | true =>
        rw [hv] at HM HG
        simp only [Bool.not_false, Bool.true_and] at HM
        clear hv
        go_enter Try.func14, Try.ntmps14
        go_wp2_with (go_at_call 56; refine (HG.out _ (HI.out.alloc _)).mono ?_; rintro e w' ⟨rfl, rfl⟩)
        have HB1 : Hid (Below W.heap.size W ((W.alloc (.cells #[.slice Ag p.globals.length cg, .slice Ap p.procs.length cp] 25)).alloc (.cells #[.int .i64 0] 3))) := Lib.hid (below_two _ _)
        have HBc : Hid (Blk ((W.alloc (.cells #[.slice Ag p.globals.length cg, .slice Ap p.procs.length cp] 25)).alloc (.cells #[.int .i64 0] 3)) (W.heap.size + 1) 3 #[.int .i64 (0 : Nat)]) := Lib.hid (by
          have := Blk.new (W.alloc (.cells #[.slice Ag p.globals.length cg, .slice Ap p.procs.length cp] 25)) 3 #[.int .i64 0]
          simpa using this)
        generalize World.alloc _ _ = W1 at HB1 HBc ⊢
        have hcb : W.heap.size < W.heap.size + 1 := by omega
        generalize W.heap.size + 1 = cb at HBc hcb ⊢
        have HQ : Hid (¬ Q cb) := Lib.hid (fun hq => by have := HI.out.1 cb hq; omega)
        go_loopw [25] (fun i wr => ∃ k ck : Nat, k ≤ p.procs.length ∧ i = .int .i64 k ∧ ck ≤ 200 ∧ Hid (prOk (p.procs.drop k) ck = prOk p.procs 0) ∧ Hid (Blk wr cb 3 #[.int .i64 ck]) ∧ Hid (Below W.heap.size W wr)) (fun i _ => p.procs.length - (intOf i).toNat)
        case atStart => exact ⟨0, 0, Nat.zero_le _, rfl, by omega, Lib.hid (by rw [List.drop_zero]), HBc, HB1⟩
        case round =>
          obtain ⟨k, ck, hk, rfl, hck, HW, HB, HR⟩ := hrel
          by_cases hlt : k < p.procs.length
          · have hIr : In Q w wr := HI.out.on HR.out
            obtain ⟨a, Bp, bp, Bv, bv, Bb, bb, Be, be, rfl, _, ⟨p0, p1, p2, p3, p4, _⟩, hnm, hpp, hvv, hbody, hee⟩ := proc_at HP.out hIr hlt
            have HD := Lib.hid (prOk_drop (c := ck) hlt)
            rw [HW.out] at HD
            have HH := Lib.hid (fun W h1 => mayHead_any (W := W) (Ab := Bb) (nb := p.procs[k].body.length) (cb := bb) hnm hpp hvv hee h1)
            have HC := Lib.hid (fun W' h1 h2 => mayBlock_any ((preSL p.procs[k].body).length + 1) p.procs[k].body (by omega) (w := w) (W := W') 1 ck cb hbody h1 h2 HQ.out hck (by omega))
            have HIr := Lib.hid hIr
            have hcl := HB.out.lt
            obtain ⟨x, hx⟩ : ∃ x, x = p.procs[k] := ⟨_, rfl⟩
            rw [← hx] at p0 p1 p2 p3 p4 HD HH HC
            clear hx hIr hnm hpp hvv hbody hee
            obtain ⟨xn, xp, xv, xb, xe⟩ := x
            simp only at p0 p1 p2 p3 p4 HD HH HC
            have HC' : Hid (∀ W', In Q w W' → Blk W' cb 3 #[.int .i64 ck] → Calls Try.prog 58 #[.slice Bb xb.length bb, .int .i64 1, .pointer (some ⟨cb, 0, none⟩)] W' (BlkRes (blkOk xb 1 ck) cb W')) := HC
            clear HC
            cases hh : headOk ⟨xn, xp, xv, xb, xe⟩ with
            | false =>
              rw [hh] at HD HH
              have HV : Hid (prOk p.procs 0 = none) := Lib.hid (by rw [HD.out]; rfl)
              clear hh
              go_wp2_with (go_at_call 57; refine (HH.out _ (HIr.out.alloc _)).mono ?_; rintro e w2 ⟨rfl, hb2⟩)
              go_ret
              exact ⟨ret_bool (by rw [HM.out, HV.out]; rfl), HR.out.trans ((below_new hb2).mono HR.out.size)⟩
            | true =>
              rw [hh, if_pos rfl] at HD
              rw [hh] at HH
              clear hh
              cases hr : blkOk xb 1 ck with
              | none =>
                rw [hr] at HD HC'
                have HV : Hid (prOk p.procs 0 = none) := Lib.hid (by rw [HD.out]; rfl)
                clear hr
                go_wp2_with (first
                  | (go_at_call 57; refine (HH.out _ (HIr.out.alloc _)).mono ?_; rintro e w2 ⟨rfl, hb2⟩; have hc2 := (bcell hb2).1; have HB2 := Lib.hid (below_new hb2); have hz2 : wr.heap.size < w2.heap.size := (by have := hb2.size; rw [World.size_alloc] at this; omega); clear hb2)
                  | (go_at_call 58; refine (HC'.out _ (HIr.out.on HB2.out) (HB.out.below HB2.out hcl)).mono ?_; rintro e w3 ⟨rfl, hm3, _⟩))
                go_ret
                exact ⟨ret_bool (by rw [HM.out, HV.out]; rfl), (HR.out.trans (HB2.out.mono HR.out.size)).trans (hm3.below (by have := HR.out.size; have := HB2.out.size; omega) (fun j hj => by rw [hj]; omega))⟩
              | some c2 =>
                have hc2' := blkOk_le xb 1 ck c2 hck hr
                rw [hr] at HD HC'
                have HV : Hid (prOk (p.procs.drop (k + 1)) c2 = prOk p.procs 0) := Lib.hid (by rw [HD.out]; rfl)
                clear hr
                go_wp2_with (first
                  | (go_at_call 57; refine (HH.out _ (HIr.out.alloc _)).mono ?_; rintro e w2 ⟨rfl, hb2⟩; have hc2 := (bcell hb2).1; have HB2 := Lib.hid (below_new hb2); have hz2 : wr.heap.size < w2.heap.size := (by have := hb2.size; rw [World.size_alloc] at this; omega); clear hb2)
                  | (go_at_call 58; refine (HC'.out _ (HIr.out.on HB2.out) (HB.out.below HB2.out hcl)).mono ?_; rintro e w3 ⟨rfl, hm3, hk3⟩))
                go_roundw
                case rel => exact ⟨k + 1, c2, by omega, by go_num, hc2', HV, Lib.hid (hk3 c2 rfl), Lib.hid ((HR.out.trans (HB2.out.mono HR.out.size)).trans (hm3.below (by have := HR.out.size; have := HB2.out.size; omega) (fun j hj => by rw [hj]; omega)))⟩
                case measure => simp [intOf]; omega
          · have HV : Hid (prOk p.procs 0 = some ck) := Lib.hid (by
              have h1 := HW.out
              rw [List.drop_of_length_le (by omega), prOk] at h1
              exact h1.symm)
            go_wp2_with fail
            go_ret
            exact ⟨ret_bool (by rw [HM.out, HV.out]; rfl), HR.out⟩
end Go.Proofs.Ytnnblklbjbkikaa
namespace Go.Proofs.Ytnnblklbjbkikaa
open Go.ChangeShapes Go.WideShapes Go.ChangeAt Go.RowKit Go.Deep
set_option linter.unusedVariables false
def AvE (w W : World) (Q : Nat → Prop) (base c : Nat) (v : Value) (o : Option Addr) (L : List E) : Prop := (o = none ∧ L = []) ∨ ∃ a x R, o = some a ∧ L = x :: R ∧ NodeI w Q (ExprI w Q) a x ∧ WalkE w W Q base c v R
theorem nextE_av {w W : World} {Q : Nat → Prop} {base c : Nat} {v : Value} {R : List E} (h : WalkE w W Q base c v R) (hI : In Q w W) (hbase : base ≤ W.heap.size) (hR : R.length ≤ 1099511627770) :
    Calls Try.prog 98 #[.pointer (some ⟨c, 0, none⟩)] W fun e w' => ∃ o v', e = .returned (.pointer o) ∧ AvE w w' Q base c v' o R ∧ Moves (ownE c v) W w' ∧ ∀ j, v'.ownBlock = some j → W.heap.size ≤ j ∨ v.ownBlock = some j := by
  refine (nextE_any h hI hbase hR).mono ?_
  rintro e w' ⟨v', hm, hl, hd⟩
  rcases hd with ⟨rfl, rfl⟩ | ⟨a, x, R', rfl, rfl, hn, hw⟩
  · exact ⟨none, v', rfl, .inl ⟨rfl, rfl⟩, hm, hl⟩
  · exact ⟨some a, v', rfl, .inr ⟨a, x, R', rfl, rfl, hn, hw⟩, hm, hl⟩
theorem AvE.keep {own : Nat → Prop} {w W W' : World} {Q : Nat → Prop} {base c : Nat} {v : Value} {o : Option Addr} {L : List E} (h : AvE w W Q base c v o L) (hm : Moves own W W') (hn : ∀ k, ownE c v k → ¬ own k) : AvE w W' Q base c v o L := by
  rcases h with h | ⟨a, x, R, h1, h2, h3, h4⟩
  · exact .inl h
  · exact .inr ⟨a, x, R, h1, h2, h3, h4.keep hm hn⟩
set_option maxHeartbeats 2000000 in
theorem sameHead_any {w1 w2 W : World} {Q1 Q2 : Nat → Prop} {a b : Addr} {x y : E} (h1 : NodeI w1 Q1 (ExprI w1 Q1) a x) (h2 : NodeI w2 Q2 (ExprI w2 Q2) b y) (hI1 : In Q1 w1 W) (hI2 : In Q2 w2 W) :
    Calls Try.prog 153 #[.pointer (some a), .pointer (some b)] W fun e w' => e = .returned (.bool (headE x y)) ∧ ∃ k, w' = W.drewN k := by
  obtain ⟨hqa, cs, hx, hca⟩ := h1
  obtain ⟨hqb, ds, hy, hcb⟩ := h2
  cases hx with
  | @mk op n nm ks A cap css hop hn hnm hcap hA hk =>
  cases hy with
  | @mk op' n' nm' ks' A' cap' css' hop' hn' hnm' hcap' hA' hk' =>
  have p0 : W.cell? a = some (.int .i64 op) := by have := (hI1.cell (p := a.add 0) (by rw [block_add]; exact hqa)).trans (hca 0 _ rfl); rwa [add_zero_] at this
  have p1 : W.cell? ⟨a.block, a.off + 1, none⟩ = some (.int .i64 n) := by rw [← add_ne a (by decide)]; exact (hI1.cell (by rw [block_add]; exact hqa)).trans (hca 1 _ rfl)
  have p2 : W.cell? ⟨a.block, a.off + 2, none⟩ = some (.string nm) := by rw [← add_ne a (by decide)]; exact (hI1.cell (by rw [block_add]; exact hqa)).trans (hca 2 _ rfl)
  have p3 : W.cell? ⟨a.block, a.off + 3, none⟩ = some (.slice A ks.length cap) := by rw [← add_ne a (by decide)]; exact (hI1.cell (by rw [block_add]; exact hqa)).trans (hca 3 _ rfl)
  have q0 : W.cell? b = some (.int .i64 op') := by have := (hI2.cell (p := b.add 0) (by rw [block_add]; exact hqb)).trans (hcb 0 _ rfl); rwa [add_zero_] at this
  have q1 : W.cell? ⟨b.block, b.off + 1, none⟩ = some (.int .i64 n') := by rw [← add_ne b (by decide)]; exact (hI2.cell (by rw [block_add]; exact hqb)).trans (hcb 1 _ rfl)
  have q2 : W.cell? ⟨b.block, b.off + 2, none⟩ = some (.string nm') := by rw [← add_ne b (by decide)]; exact (hI2.cell (by rw [block_add]; exact hqb)).trans (hcb 2 _ rfl)
  have q3 : W.cell? ⟨b.block, b.off + 3, none⟩ = some (.slice A' ks'.length cap') := by rw [← add_ne b (by decide)]; exact (hI2.cell (by rw [block_add]; exact hqb)).trans (hcb 3 _ rfl)
  have HM : Hid (headE (.mk op n nm ks) (.mk op' n' nm' ks') = ((op == op') && (n == n') && (nm.toList == nm'.toList) && (((ks.length : Nat) : Int) == ((ks'.length : Nat) : Int)))) := Lib.hid rfl
  clear hca hcb hA hk hA' hk' hI1 hI2 hqa hqb
  unfold i64 at hop hn hop' hn'
  cases b1 : (op == op') with
  | false =>
    rw [b1] at HM
    go_enter Try.func153, Try.ntmps153
    go_wp2_with fail
    go_quiet (fail)
    go_wp2_with fail
    go_ret
    exact ⟨ret_bool (by rw [HM.out]; rfl), _, rfl⟩
  | true =>
    cases b2 : (n == n') with
    | false =>
      rw [b1, b2] at HM
      go_enter Try.func153, Try.ntmps153
      go_wp2_with fail
      go_quiet (fail)
      go_wp2_with fail
      go_ret
      exact ⟨ret_bool (by rw [HM.out]; rfl), _, rfl⟩
    | true =>
      cases b3 : (nm.toList == nm'.toList) with
      | false =>
        rw [b1, b2, b3] at HM
        go_enter Try.func153, Try.ntmps153
        go_wp2_with fail
        go_quiet (fail)
        go_wp2_with fail
        go_ret
        exact ⟨ret_bool (by rw [HM.out]; rfl), _, rfl⟩
      | true =>
        cases b4 : (((ks.length : Nat) : Int) == ((ks'.length : Nat) : Int)) with
        | false =>
          rw [b1, b2, b3, b4] at HM
          go_enter Try.func153, Try.ntmps153
          go_wp2_with fail
          go_quiet (fail)
          go_wp2_with fail
          go_ret
          exact ⟨ret_bool (by rw [HM.out]; rfl), _, rfl⟩
        | true =>
          rw [b1, b2, b3, b4] at HM
          go_enter Try.func153, Try.ntmps153
          go_wp2_with fail
          go_quiet (fail)
          go_wp2_with fail
          go_ret
          exact ⟨ret_bool (by rw [HM.out]; rfl), _, rfl⟩
set_option maxHeartbeats 2000000 in
theorem sameNodesE_any {w1 w2 W : World} {Q1 Q2 : Nat → Prop} {B b1 b2 c1 c2 : Nat} {v1 v2 : Value} {R1 R2 : List E} (h1 : WalkE w1 W Q1 b1 c1 v1 R1) (h2 : WalkE w2 W Q2 b2 c2 v2 R2) (hI1 : In Q1 w1 W) (hI2 : In Q2 w2 W)
    (hQ1 : ∀ b, Q1 b → b < B) (hQ2 : ∀ b, Q2 b → b < B) (hB1 : B ≤ b1) (hB2 : B ≤ b2) (hc1 : b1 ≤ c1) (hc2 : b2 ≤ c2) (hb2 : b2 ≤ W.heap.size) (hd : ∀ k, ownE c1 v1 k → ¬ ownE c2 v2 k) (hR1 : R1.length ≤ 1000000000) (hR2 : R2.length ≤ 1000000000) :
    Calls Try.prog 154 #[.pointer (some ⟨c1, 0, none⟩), .pointer (some ⟨c2, 0, none⟩), .func (.func 153) #[] #[]] W fun e w' => e = .returned (.bool (sameP headE R1 R2)) ∧ Below B W w' := by
  have hsz1 : b1 ≤ W.heap.size := by have := h1.lt.1; omega
  have H1 := Lib.hid h1
  have H2 := Lib.hid h2
  have HI1 := Lib.hid hI1
  have HI2 := Lib.hid hI2
  have HD := Lib.hid hd
  have HQ1 := Lib.hid hQ1
  have HQ2 := Lib.hid hQ2
  have HN1 : Hid (∀ (v : Value) (R : List E) (W' : World), WalkE w1 W' Q1 b1 c1 v R → In Q1 w1 W' → b1 ≤ W'.heap.size → R.length ≤ 1000000000 → Calls Try.prog 98 #[.pointer (some ⟨c1, 0, none⟩)] W' fun e w' => ∃ o v', e = .returned (.pointer o) ∧ AvE w1 w' Q1 b1 c1 v' o R ∧ Moves (ownE c1 v) W' w' ∧ ∀ j, v'.ownBlock = some j → W'.heap.size ≤ j ∨ v.ownBlock = some j) :=
    Lib.hid (fun v R W' h1 h2 h3 h4 => nextE_av h1 h2 h3 (by omega))
  have HN2 : Hid (∀ (v : Value) (R : List E) (W' : World), WalkE w2 W' Q2 b2 c2 v R → In Q2 w2 W' → b2 ≤ W'.heap.size → R.length ≤ 1000000000 → Calls Try.prog 98 #[.pointer (some ⟨c2, 0, none⟩)] W' fun e w' => ∃ o v', e = .returned (.pointer o) ∧ AvE w2 w' Q2 b2 c2 v' o R ∧ Moves (ownE c2 v) W' w' ∧ ∀ j, v'.ownBlock = some j → W'.heap.size ≤ j ∨ v.ownBlock = some j) :=
    Lib.hid (fun v R W' h1 h2 h3 h4 => nextE_av h1 h2 h3 (by omega))
  clear h1 h2 hI1 hI2 hd hQ1 hQ2
  go_enter Try.func154, Try.ntmps154
  go_wp2_with fail
  go_loopg [6] R1.length (fun kk u wr => ∃ (L1 L2 : List E) (x1 x2 : Value), L1.length = kk ∧ u = .bool false ∧ L1.length ≤ 1000000000 ∧ L2.length ≤ 1000000000 ∧ W.heap.size ≤ wr.heap.size ∧ Hid (sameP headE L1 L2 = sameP headE R1 R2) ∧ Hid (WalkE w1 wr Q1 b1 c1 x1 L1) ∧ Hid (WalkE w2 wr Q2 b2 c2 x2 L2) ∧ Hid (∀ k, ownE c1 x1 k → ¬ ownE c2 x2 k) ∧
    Hid (In Q1 w1 wr) ∧ Hid (In Q2 w2 wr) ∧ Hid (Below B W wr))
  case atStart => exact ⟨R1, R2, v1, v2, rfl, rfl, hR1, hR2, Nat.le_refl _, Lib.hid rfl, H1, H2, HD, HI1, HI2, Lib.hid (Below.refl _ _)⟩
  case round =>
    obtain ⟨L1, L2, x1, x2, hLk, rfl, hL1, hL2, hrz, HP, HW1, HW2, HDr, HI1r, HI2r, HBr⟩ := hrel
    have hz1 : b1 ≤ wr.heap.size := by omega
    have hz2 : b2 ≤ wr.heap.size := by omega
    go_wp2_with fail
    refine (HN1.out x1 L1 wr HW1.out HI1r.out hz1 hL1).mono ?_
    rintro e w3 ⟨o1, y1, rfl, hat1, hm1, hl1⟩
    have low1 : ∀ j, ownE c1 x1 j → B ≤ j := fun j hj => by rcases hj with rfl | hj; omega; have := (HW1.out.lt.2 j hj).1; omega
    have low2 : ∀ j, ownE c2 x2 j → B ≤ j := fun j hj => by rcases hj with rfl | hj; omega; have := (HW2.out.lt.2 j hj).1; omega
    have hz3 : b2 ≤ w3.heap.size := Nat.le_trans hz2 hm1.size
    have HW3 := Lib.hid (HW2.out.keep hm1 (fun k h2 h1 => HDr.out k h1 h2))
    have HI13 := Lib.hid (HI1r.out.moves hm1 (fun j hj hq => by have := low1 j hj; have := HQ1.out j hq; omega))
    have HI23 := Lib.hid (HI2r.out.moves hm1 (fun j hj hq => by have := low1 j hj; have := HQ2.out j hq; omega))
    have HB3 := Lib.hid (HBr.out.trans (hm1.below (by omega) low1))
    have HD3 : Hid (∀ k, ownE c1 y1 k → ¬ ownE c2 x2 k) := Lib.hid (fun k hk h2 => by
      rcases hk with rfl | hk
      · exact HDr.out k (.inl rfl) h2
      · rcases hl1 k hk with h | h
        · rcases h2 with rfl | h2
          · have := HW2.out.lt.1; omega
          · have := (HW2.out.lt.2 k h2).2; omega
        · exact HDr.out k (.inr h) h2)
    have HA1 := Lib.hid hat1
    have hs3 := hm1.size
    clear hat1 hm1 hl1 low1
    go_wp2_with fail
    refine (HN2.out x2 L2 w3 HW3.out HI23.out hz3 hL2).mono ?_
    rintro e w4 ⟨o2, y2, rfl, hat2, hm2, hl2⟩
    have HA1' := Lib.hid (HA1.out.keep hm2 (fun k h1 h2 => HD3.out k h1 h2))
    have HI14 := Lib.hid (HI13.out.moves hm2 (fun j hj hq => by have := low2 j hj; have := HQ1.out j hq; omega))
    have HI24 := Lib.hid (HI23.out.moves hm2 (fun j hj hq => by have := low2 j hj; have := HQ2.out j hq; omega))
    have HB4 := Lib.hid (HB3.out.trans (hm2.below (by omega) low2))
    have HD4 : Hid (∀ a x R, o1 = some a → L1 = x :: R → WalkE w1 w4 Q1 b1 c1 y1 R → ∀ k, ownE c1 y1 k → ¬ ownE c2 y2 k) := Lib.hid (fun a x R e1 e2 hw k hk h2 => by
      rcases h2 with rfl | h2
      · exact HD3.out k hk (.inl rfl)
      · rcases hl2 k h2 with h | h
        · have hw3 : k < w3.heap.size := by
            rcases HA1.out with ⟨h5, _⟩ | ⟨a5, x5, R5, h5, h6, h7, h8⟩
            · rw [e1] at h5; cases h5
            · rcases hk with rfl | hk
              · exact h8.lt.1
              · exact (h8.lt.2 k hk).2
          omega
        · exact HD3.out k hk (.inr h))
    have HA2 := Lib.hid hat2
    have hs4 := hm2.size
    clear hat2 hm2 hl2 low2 HA1
    rcases HA1'.out with ⟨rfl, rfl⟩ | ⟨a1, n1, T1, rfl, rfl, hn1, hw1⟩
    · rcases HA2.out with ⟨rfl, rfl⟩ | ⟨a2, n2, T2, rfl, rfl, hn2, hw2⟩
      · go_wp2_with fail
        go_ret
        exact ⟨ret_bool (by rw [← HP.out]; rfl), HB4.out⟩
      · clear hn2 hw2
        go_wp2_with fail
        go_ret
        exact ⟨ret_bool (by rw [← HP.out]; rfl), HB4.out⟩
    · rcases HA2.out with ⟨rfl, rfl⟩ | ⟨a2, n2, T2, rfl, rfl, hn2, hw2⟩
      · clear hn1 hw1
        go_wp2_with fail
        go_ret
        exact ⟨ret_bool (by rw [← HP.out]; rfl), HB4.out⟩
      · have HD5 := Lib.hid (HD4.out a1 n1 T1 rfl rfl hw1)
        have HX1 := Lib.hid hw1
        have HX2 := Lib.hid hw2
        have HC := Lib.hid (sameHead_any hn1 hn2 HI14.out HI24.out)
        have HP2 : Hid (sameP headE R1 R2 = (headE n1 n2 && sameP headE T1 T2)) := Lib.hid (by rw [← HP.out]; rfl)
        simp only [List.length_cons] at hL1 hL2 hLk
        clear hn1 hn2 hw1 hw2
        cases hv : headE n1 n2 with
        | false =>
          rw [hv] at HC HP2
          clear hv
          go_wp2_with (go_at_call 153; refine HC.out.mono ?_; rintro e w5 ⟨rfl, kq, rfl⟩; have hb5 : Below w4.heap.size w4 (w4.drewN kq) := below_drewN (Below.refl _ _) kq; generalize w4.drewN kq = w5 at hb5 ⊢)
          go_ret
          exact ⟨ret_bool (by rw [HP2.out]; rfl), HB4.out.trans (hb5.mono (by have := HB4.out.size; omega))⟩
        | true =>
          rw [hv] at HC HP2
          clear hv
          go_wp2_with (go_at_call 153; refine HC.out.mono ?_; rintro e w5 ⟨rfl, kq, rfl⟩; have hb5 : Below w4.heap.size w4 (w4.drewN kq) := below_drewN (Below.refl _ _) kq; generalize w4.drewN kq = w5 at hb5 ⊢)
          have hm5 := Below.moves hb5
          have out1 : ∀ k, ownE c1 y1 k → ¬ w4.heap.size ≤ k := fun k hk => by rcases hk with rfl | hk; have := HX1.out.lt.1; omega; have := (HX1.out.lt.2 k hk).2; omega
          have out2 : ∀ k, ownE c2 y2 k → ¬ w4.heap.size ≤ k := fun k hk => by rcases hk with rfl | hk; have := HX2.out.lt.1; omega; have := (HX2.out.lt.2 k hk).2; omega
          have K1 := Lib.hid (HX1.out.keep hm5 out1)
          have K2 := Lib.hid (HX2.out.keep hm5 out2)
          have K3 := Lib.hid (HI14.out.on hb5)
          have K4 := Lib.hid (HI24.out.on hb5)
          have K5 := Lib.hid (HB4.out.trans (hb5.mono (by have := HB4.out.size; omega)))
          have hs5 := hb5.size
          clear hm5 out1 out2 hb5
          go_roundg T1.length
          case measure => omega
          case rel => exact ⟨T1, T2, y1, y2, rfl, rfl, by omega, by omega, by omega, Lib.hid (by rw [HP2.out]; rfl), K1, K2, HD5, K3, K4, K5⟩
end Go.Proofs.Ytnnblklbjbkikaa
