/- Equality of programs: the contract of Eq (whittlerref3). Plain facts on programs: what one weighs that fits; its ids if it may be; a statement put that is not there. -/
import Derived.Test.YtkbjlnmdlolhiaaTreeN13
import Derived.Test.YtkbjlnmdlolhiaaTreeN15
import Derived.Test.YtkbjlnmdlolhiaaTreeN17
import Derived.Test.YtkbjlnmdlolhiaaTreeWW
namespace Go.Proofs.Ytkbjlnmdlolhiaa
open Go.ChangeShapes Go.WideShapes Go.ChangeAt Go.RowKit Go.Deep
set_option linter.unusedVariables false
set_option linter.unusedSimpArgs false

/-- two procedures in blocks of their own -/
structure EqB (wr wx : World) (b b' : Nat) (ct ct' : Array Value) : Prop where
  b1 : Blk wx b 47 ct
  b2 : Blk wx b' 47 ct'
  below : Below wr.heap.size wr wx
theorem eqB_1 (wr : World) (ct ct' : Array Value) : EqB wr ((wr.alloc (.cells ct 47)).alloc (.cells ct' 47)).drew wr.heap.size (wr.heap.size + 1) ct ct' := ⟨(Blk.new wr _ ct).alloc (.cells ct' 47), blk22 wr (.cells ct 47) _ ct', (below_two _ _).drew⟩
theorem eqB_2 (wr : World) (ct ct' : Array Value) : EqB wr ((wr.alloc (.cells ct' 47)).alloc (.cells ct 47)).drew (wr.heap.size + 1) wr.heap.size ct ct' := ⟨blk22 wr (.cells ct' 47) _ ct, (Blk.new wr _ ct').alloc (.cells ct 47), (below_two _ _).drew⟩
set_option maxHeartbeats 8000000 in
set_option maxRecDepth 100000 in
theorem rEq_any {w1 w2 W : World} {Q1 Q2 : Nat → Prop} {p q : Pg} {a0 a1 b0 b1 : Value} (h1 : ProgI w1 Q1 p [a0, a1]) (h2 : ProgI w2 Q2 q [b0, b1]) (hI1 : In Q1 w1 W) (hI2 : In Q2 w2 W) :
    Calls Try.prog 22 #[.agg #[a0, a1], .agg #[b0, b1]] W (MayOk (eqB p q) W) := by
  obtain ⟨Ag, cg, Ap, cp, rfl, rfl, _, _, hp1, hp2, hg, hpr⟩ := prog_open h1
  obtain ⟨Ag', cg', Ap', cp', rfl, rfl, _, _, hp1', hp2', hg', hpr'⟩ := prog_open h2
  have HT := Lib.hid (fun V hV hV' => EqTexts_any (W := V) hg hg' hV hV')
  have HP := Lib.hid hpr
  have HP' := Lib.hid hpr'
  have HI1 := Lib.hid hI1
  have HI2 := Lib.hid hI2
  have HV := Lib.hid (eqB_prog p q)
  have hgb : decide (p.globals = q.globals) = eqB p.globals q.globals := eqB_dec _ _
  have HBp : Hid (Blk ((W.alloc (.cells #[.slice Ag p.globals.length cg, .slice Ap p.procs.length cp] 25)).alloc (.cells #[.slice Ag' q.globals.length cg', .slice Ap' q.procs.length cp'] 25)) W.heap.size 25 #[.slice Ag p.globals.length cg, .slice Ap p.procs.length cp]) := Lib.hid ((Blk.new _ _ _).alloc _)
  have HBq : Hid (Blk ((W.alloc (.cells #[.slice Ag p.globals.length cg, .slice Ap p.procs.length cp] 25)).alloc (.cells #[.slice Ag' q.globals.length cg', .slice Ap' q.procs.length cp'] 25)) (W.heap.size + 1) 25 #[.slice Ag' q.globals.length cg', .slice Ap' q.procs.length cp']) := Lib.hid (blk22 _ _ _ _)
  have HB0 : Hid (Below W.heap.size W ((W.alloc (.cells #[.slice Ag p.globals.length cg, .slice Ap p.procs.length cp] 25)).alloc (.cells #[.slice Ag' q.globals.length cg', .slice Ap' q.procs.length cp'] 25))) := Lib.hid (below_two _ _)
  clear h1 h2 hI1 hI2 hg hg' hpr hpr'
  go_enter Try.func22, Try.ntmps22
  go_upto_region 1 with fail
  generalize World.alloc _ _ = V at HBp HBq HB0 ⊢
  generalize hpb : W.heap.size = pb at HBp HBq ⊢
  clear hpb
  generalize hqb : pb + 1 = qb at HBq ⊢
  have hne : pb ≠ qb := by omega
  clear hqb
  have p0 : V.cell? ⟨pb, 0, none⟩ = some (.slice Ag p.globals.length cg) := by rw [HBp.out.cell]; rfl
  have p1 : V.cell? ⟨pb, 1, none⟩ = some (.slice Ap p.procs.length cp) := by rw [HBp.out.cell]; rfl
  have q0 : V.cell? ⟨qb, 0, none⟩ = some (.slice Ag' q.globals.length cg') := by rw [HBq.out.cell]; rfl
  have q1 : V.cell? ⟨qb, 1, none⟩ = some (.slice Ap' q.procs.length cp') := by rw [HBq.out.cell]; rfl
  have lp := HBp.out.lt
  have lq := HBq.out.lt
  have HIV1 := Lib.hid (HI1.out.on HB0.out)
  have HIV2 := Lib.hid (HI2.out.on HB0.out)
  rw [hgb] at HT
  clear hgb
  cases hgv : eqB p.globals q.globals with
  | false =>
    rw [hgv] at HV HT
    rw [Bool.false_and] at HV
    go_wp2_with (go_at_call 38; refine (HT.out _ HIV1.out HIV2.out).mono ?_; rintro e w3 ⟨rfl, hb3⟩)
    go_ret
    exact ⟨ret_bool HV.out.symm, below_step HB0.out hb3⟩
  | true =>
    rw [hgv] at HV HT
    rw [Bool.true_and] at HV
    clear hgv
    by_cases e4 : p.procs.length = q.procs.length
    rotate_left
    · have g4 := len_t e4
      have HF : Hid (eqB p q = false) := Lib.hid (by rw [HV.out]; exact eqB_ne (fun e => e4 (by rw [e])))
      clear e4
      go_wp2_with (go_at_call 38; refine (HT.out _ HIV1.out HIV2.out).mono ?_; rintro e w3 ⟨rfl, hb3⟩; have hc3 := (bcell hb3).1; have lp3 := Nat.lt_of_lt_of_le lp hb3.size; have lq3 := Nat.lt_of_lt_of_le lq hb3.size)
      go_ret
      exact ⟨ret_bool HF.out.symm, below_step HB0.out hb3⟩
    · have g4 := len_f e4
      have e4a : p.procs.length ≤ q.procs.length := by omega
      have e4b : q.procs.length ≤ p.procs.length := by omega
      clear e4
      go_upto_region 3 with (go_at_call 38; refine (HT.out _ HIV1.out HIV2.out).mono ?_; rintro e w3 ⟨rfl, hb3⟩; have hc3 := (bcell hb3).1; have lp3 := Nat.lt_of_lt_of_le lp hb3.size; have lq3 := Nat.lt_of_lt_of_le lq hb3.size)
      have HB3 : Hid (Below W.heap.size W w3) := Lib.hid (below_step HB0.out hb3)
      have HBp3 := Lib.hid (HBp.out.on_ hb3)
      have HBq3 := Lib.hid (HBq.out.on_ hb3)
      have HJ1 := Lib.hid (HIV1.out.on hb3)
      have HJ2 := Lib.hid (HIV2.out.on hb3)
      clear hb3 hc3 lp3 lq3 p0 p1 q0 q1 lp lq HBp HBq HB0 HIV1 HIV2 HI1 HI2 HT g4
      have p1 : w3.cell? ⟨pb, 1, none⟩ = some (.slice Ap p.procs.length cp) := by rw [HBp3.out.cell]; rfl
      have lp := HBp3.out.lt
      go_wp2_with fail
      clear p1 lp
      go_loopg [27] p.procs.length (fun kk iv wr => ∃ (k : Nat), k + kk = p.procs.length ∧ iv = .int .i64 k ∧ Hid (p.procs.take k = q.procs.take k) ∧ Hid (Below w3.heap.size w3 wr))
      case atStart => exact ⟨0, by omega, rfl, Lib.hid rfl, Lib.hid (Below.refl _ _)⟩
      case round =>
        obtain ⟨k, hk, rfl, HTk, HR⟩ := hrel
        have HJ1r := Lib.hid (HJ1.out.on HR.out)
        have HJ2r := Lib.hid (HJ2.out.on HR.out)
        by_cases hlt : k < p.procs.length
        · have hlt' : k < q.procs.length := by omega
          have hlti : (k : Int) < (q.procs.length : Int) := by omega
          obtain ⟨a, Bp, kp, Bv, kv, Bb, kb, Be, ke, rfl, hqa, hrow, _, hpp, hvv, hbody, hee⟩ := proc_at HP.out HJ1r.out hlt
          obtain ⟨a', Cp, mp, Cv, mv, Cb, mb, Ce, me, rfl, hqa', hrow', _, hpp', hvv', hbody', hee'⟩ := proc_at HP'.out HJ2r.out hlt'
          have HX : Hid (p.procs[k] = q.procs[k] → p.procs.take (k + 1) = q.procs.take (k + 1)) := Lib.hid (fun e => take_eq_step hlt hlt' HTk.out e)
          have HY : Hid (p.procs[k] ≠ q.procs[k] → eqB p q = false) := Lib.hid (fun e => by rw [HV.out]; exact eqB_ne (ne_of_at hlt hlt' e))
          generalize p.procs[k] = x at hrow hpp hvv hbody hee HX HY
          generalize q.procs[k] = y at hrow' hpp' hvv' hbody' hee' HX HY
          obtain ⟨xn, xp, xv, xb, xe⟩ := x
          obtain ⟨yn, yp, yv, yb, ye⟩ := y
          simp only at hrow hpp hvv hbody hee hrow' hpp' hvv' hbody' hee'
          obtain ⟨p0, p1, p2, p3, p4, _⟩ := hrow
          obtain ⟨r0, r1, r2, r3, r4, _⟩ := hrow'
          have HVv := Lib.hid (fun V hV hV' => EqTexts_any (W := V) hvv hvv' hV hV')
          have HEe := Lib.hid (fun V hV hV' => EqTexts_any (W := V) hee hee' hV hV')
          have HBb := Lib.hid (fun V hV hV' => EqStmts_any ((preSL xb).length + 1) xb (by omega) hbody hbody' V hV hV')
          have HPp := Lib.hid hpp
          have HPp' := Lib.hid hpp'
          obtain ⟨_, hpl1, hpl2, _⟩ := slice_len hpp
          obtain ⟨_, hpl1', hpl2', _⟩ := slice_len hpp'
          have HBp4 := Lib.hid (HBp3.out.below HR.out HBp3.out.lt)
          have HBq4 := Lib.hid (HBq3.out.below HR.out HBq3.out.lt)
          have s1 : wr.cell? ⟨pb, 1, none⟩ = some (.slice (some a) p.procs.length cp) := by rw [HBp4.out.cell]; rfl
          have s2 : wr.cell? ⟨qb, 1, none⟩ = some (.slice (some a') q.procs.length cp') := by rw [HBq4.out.cell]; rfl
          have lp := HBp4.out.lt
          have lq := HBq4.out.lt
          have la : (a.add (k * 5)).block < wr.heap.size := World.block_lt_of_cell? _ _ p0
          have la' : (a'.add (k * 5)).block < wr.heap.size := World.block_lt_of_cell? _ _ r0
          clear hvv hee hbody hpp hvv' hee' hbody' hpp'
          go_upto_region 6 with fail
          go_cut [6, 7] from 30 to 39 (fun s s' wx => ∃ b b', s = .pointer (some ⟨b, 0, none⟩) ∧ s' = .pointer (some ⟨b', 0, none⟩) ∧ Hid (EqB wr wx b b' #[.string xn, .slice Bp xp.length kp, .slice Bv xv.length kv, .slice Bb xb.length kb, .slice Be xe.length ke] #[.string yn, .slice Cp yp.length mp, .slice Cv yv.length mv, .slice Cb yb.length mb, .slice Ce ye.length me]))
          case first =>
            go_region_held3 (fun w' => w'.cell? ⟨pb, 1, none⟩ = some (.slice (some a) p.procs.length cp) ∧ w'.cell? ⟨qb, 1, none⟩ = some (.slice (some a') q.procs.length cp') ∧ w'.cell? (a.add (k * 5)) = some (.string xn) ∧ w'.cell? ⟨(a.add (k * 5)).block, (a.add (k * 5)).off + 1, none⟩ = some (.slice Bp xp.length kp) ∧ w'.cell? ⟨(a.add (k * 5)).block, (a.add (k * 5)).off + 2, none⟩ = some (.slice Bv xv.length kv) ∧ w'.cell? ⟨(a.add (k * 5)).block, (a.add (k * 5)).off + 3, none⟩ = some (.slice Bb xb.length kb) ∧ w'.cell? ⟨(a.add (k * 5)).block, (a.add (k * 5)).off + 4, none⟩ = some (.slice Be xe.length ke) ∧ w'.cell? (a'.add (k * 5)) = some (.string yn) ∧ w'.cell? ⟨(a'.add (k * 5)).block, (a'.add (k * 5)).off + 1, none⟩ = some (.slice Cp yp.length mp) ∧ w'.cell? ⟨(a'.add (k * 5)).block, (a'.add (k * 5)).off + 2, none⟩ = some (.slice Cv yv.length mv) ∧ w'.cell? ⟨(a'.add (k * 5)).block, (a'.add (k * 5)).off + 3, none⟩ = some (.slice Cb yb.length mb) ∧ w'.cell? ⟨(a'.add (k * 5)).block, (a'.add (k * 5)).off + 4, none⟩ = some (.slice Ce ye.length me))
              (go_keep)
              (fail)
            · go_wp2_with fail
              go_meet
              exact ⟨_, _, rfl, rfl, Lib.hid (eqB_1 _ _ _)⟩
            · go_wp2_with fail
              go_meet
              exact ⟨_, _, rfl, rfl, Lib.hid (eqB_2 _ _ _)⟩
          case rest =>
            obtain ⟨bx, by', rfl, rfl, HE⟩ := hcut
            have HBc : Hid (Below W.heap.size W wc) := Lib.hid (below_step (below_step HB3.out HR.out) HE.out.below)
            have HB3c : Hid (Below w3.heap.size w3 wc) := Lib.hid (below_step HR.out HE.out.below)
            have HJ1c := Lib.hid (HJ1r.out.on HE.out.below)
            have HJ2c := Lib.hid (HJ2r.out.on HE.out.below)
            obtain ⟨⟨x0_, x1_, x2_, x3_, x4_⟩, _⟩ := blkR5 HE.out.b1
            obtain ⟨⟨y0_, y1_, y2_, y3_, y4_⟩, _⟩ := blkR5 HE.out.b2
            have lx := HE.out.b1.lt
            have ly := HE.out.b2.lt
            clear s1 s2 p0 p1 p2 p3 p4 r0 r1 r2 r3 r4 lp lq la la' hqa hqa'
            cases hn : (xn.toList == yn.toList) with
            | false =>
              have HN := Lib.hid (HY.out (by intro e; injection e with e; rw [dec_bytes] at hn; simp [e] at hn))
              go_wp2_with fail
              go_ret
              exact ⟨ret_bool HN.out.symm, HBc.out⟩
            | true =>
              have HNm : Hid (xn = yn) := Lib.hid (by rw [dec_bytes] at hn; simpa using hn)
              by_cases e5 : xp.length = yp.length
              rotate_left
              · have g5 := len_t e5
                have HN := Lib.hid (HY.out (by intro e; injection e with _ e; exact e5 (by rw [e])))
                clear e5
                go_wp2_with fail
                go_ret
                exact ⟨ret_bool HN.out.symm, HBc.out⟩
              · have g5 := len_f e5
                have e5a : xp.length ≤ yp.length := by omega
                have e5b : yp.length ≤ xp.length := by omega
                clear e5
                obtain ⟨bv, hbv⟩ : ∃ b, b = decide (xv = yv) := ⟨_, rfl⟩
                obtain ⟨be, hbe⟩ : ∃ b, b = decide (xe = ye) := ⟨_, rfl⟩
                obtain ⟨bb, hbb⟩ : ∃ b, b = eqB xb yb := ⟨_, rfl⟩
                rw [← hbv] at HVv
                rw [← hbe] at HEe
                rw [← hbb] at HBb
                cases bv with
                | false =>
                  have HN := Lib.hid (HY.out (by intro e; injection e with _ _ e; exact of_decide_eq_false hbv.symm e))
                  clear hbv hbe hbb
                  go_wp2_with (go_at_call 38; (with_reducible refine (HVv.out _ HJ1c.out HJ2c.out).mono ?_); rintro e w4 ⟨rfl, hb4⟩; have hc4 := (bcell hb4).1; have lx4 := Nat.lt_of_lt_of_le lx hb4.size; have ly4 := Nat.lt_of_lt_of_le ly hb4.size; have HJ1d := Lib.hid (HJ1c.out.on hb4); have HJ2d := Lib.hid (HJ2c.out.on hb4))
                  go_ret
                  exact ⟨ret_bool HN.out.symm, below_step HBc.out hb4⟩
                | true =>
                  have HVe : Hid (xv = yv) := Lib.hid (of_decide_eq_true hbv.symm)
                  clear hbv
                  cases be with
                  | false =>
                    have HN := Lib.hid (HY.out (by intro e; injection e with _ _ _ _ e; exact of_decide_eq_false hbe.symm e))
                    clear hbe hbb
                    go_wp2_with (first
                      | (go_at_call 38; (with_reducible refine (HVv.out _ HJ1c.out HJ2c.out).mono ?_); rintro e w4 ⟨rfl, hb4⟩; have hc4 := (bcell hb4).1; have lx4 := Nat.lt_of_lt_of_le lx hb4.size; have ly4 := Nat.lt_of_lt_of_le ly hb4.size; have HJ1d := Lib.hid (HJ1c.out.on hb4); have HJ2d := Lib.hid (HJ2c.out.on hb4))
                      | (go_at_call 38; (with_reducible refine (HEe.out _ HJ1d.out HJ2d.out).mono ?_); rintro e w5 ⟨rfl, hb5⟩; have hc5 := (bcell hb5).1; have lx5 := Nat.lt_of_lt_of_le lx4 hb5.size; have ly5 := Nat.lt_of_lt_of_le ly4 hb5.size; have HJ1e := Lib.hid (HJ1d.out.on hb5); have HJ2e := Lib.hid (HJ2d.out.on hb5)))
                    go_ret
                    exact ⟨ret_bool HN.out.symm, below_step (below_step HBc.out hb4) hb5⟩
                  | true =>
                    have HEq : Hid (xe = ye) := Lib.hid (of_decide_eq_true hbe.symm)
                    clear hbe
                    cases bb with
                    | false =>
                      have HN := Lib.hid (HY.out (by intro e; injection e with _ _ _ e; rw [e, eqB_self] at hbb; simp at hbb))
                      clear hbb
                      go_wp2_with (first
                        | (go_at_call 38; (with_reducible refine (HVv.out _ HJ1c.out HJ2c.out).mono ?_); rintro e w4 ⟨rfl, hb4⟩; have hc4 := (bcell hb4).1; have lx4 := Nat.lt_of_lt_of_le lx hb4.size; have ly4 := Nat.lt_of_lt_of_le ly hb4.size; have HJ1d := Lib.hid (HJ1c.out.on hb4); have HJ2d := Lib.hid (HJ2c.out.on hb4))
                        | (go_at_call 38; (with_reducible refine (HEe.out _ HJ1d.out HJ2d.out).mono ?_); rintro e w5 ⟨rfl, hb5⟩; have hc5 := (bcell hb5).1; have lx5 := Nat.lt_of_lt_of_le lx4 hb5.size; have ly5 := Nat.lt_of_lt_of_le ly4 hb5.size; have HJ1e := Lib.hid (HJ1d.out.on hb5); have HJ2e := Lib.hid (HJ2d.out.on hb5))
                        | (go_at_call 26; refine (HBb.out _ HJ1e.out HJ2e.out).mono ?_; rintro e w6 ⟨rfl, hb6⟩; have hc6 := (bcell hb6).1; have lx6 := Nat.lt_of_lt_of_le lx5 hb6.size; have ly6 := Nat.lt_of_lt_of_le ly5 hb6.size))
                      go_ret
                      exact ⟨ret_bool HN.out.symm, below_step (below_step (below_step HBc.out hb4) hb5) hb6⟩
                    | true =>
                      have HBe : Hid (xb = yb) := Lib.hid (eqB_iff.1 hbb.symm)
                      clear hbb
                      go_upto_region 9 with (first
                        | (go_at_call 38; (with_reducible refine (HVv.out _ HJ1c.out HJ2c.out).mono ?_); rintro e w4 ⟨rfl, hb4⟩; have hc4 := (bcell hb4).1; have lx4 := Nat.lt_of_lt_of_le lx hb4.size; have ly4 := Nat.lt_of_lt_of_le ly hb4.size; have HJ1d := Lib.hid (HJ1c.out.on hb4); have HJ2d := Lib.hid (HJ2c.out.on hb4))
                        | (go_at_call 38; (with_reducible refine (HEe.out _ HJ1d.out HJ2d.out).mono ?_); rintro e w5 ⟨rfl, hb5⟩; have hc5 := (bcell hb5).1; have lx5 := Nat.lt_of_lt_of_le lx4 hb5.size; have ly5 := Nat.lt_of_lt_of_le ly4 hb5.size; have HJ1e := Lib.hid (HJ1d.out.on hb5); have HJ2e := Lib.hid (HJ2d.out.on hb5))
                        | (go_at_call 26; refine (HBb.out _ HJ1e.out HJ2e.out).mono ?_; rintro e w6 ⟨rfl, hb6⟩; have hc6 := (bcell hb6).1; have lx6 := Nat.lt_of_lt_of_le lx5 hb6.size; have ly6 := Nat.lt_of_lt_of_le ly5 hb6.size))
                      have HB6 : Hid (Below wc.heap.size wc w6) := Lib.hid (below_step (below_step hb4 hb5) hb6)
                      have HBW6 := Lib.hid (below_step HBc.out HB6.out)
                      have HB36 := Lib.hid (below_step HB3c.out HB6.out)
                      have HJ1f := Lib.hid (HJ1e.out.on hb6)
                      have HJ2f := Lib.hid (HJ2e.out.on hb6)
                      have HX6 := Lib.hid (HE.out.b1.below HB6.out lx)
                      have HY6 := Lib.hid (HE.out.b2.below HB6.out ly)
                      clear hb4 hb5 hb6 hc4 hc5 hc6 lx4 ly4 lx5 ly5 lx6 ly6 lx ly x0_ x1_ x2_ x3_ x4_ y0_ y1_ y2_ y3_ y4_ HJ1c HJ2c HJ1d HJ2d HJ1e HJ2e HBc HB3c HB6 HE HVv HEe HBb g5
                      have x1_ : w6.cell? ⟨bx, 1, none⟩ = some (.slice Bp xp.length kp) := by rw [HX6.out.cell]; rfl
                      have lx := HX6.out.lt
                      go_wp2_with fail
                      clear x1_ lx hn
                      go_loopw [81] (fun i wr => ∃ k2 : Nat, k2 ≤ xp.length ∧ i = .int .i64 k2 ∧ Hid (xp.take k2 = yp.take k2) ∧ Hid (Below w6.heap.size w6 wr)) (fun i _ => xp.length - (intOf i).toNat)
                      case atStart => exact ⟨0, Nat.zero_le _, rfl, Lib.hid (by simp), Lib.hid (Below.refl _ _)⟩
                      case round =>
                        obtain ⟨k2, hk2, rfl, HT2, HR2⟩ := hrel
                        have HX7 := Lib.hid (HX6.out.below HR2.out HX6.out.lt)
                        have HY7 := Lib.hid (HY6.out.below HR2.out HY6.out.lt)
                        have lx := HX7.out.lt
                        have ly := HY7.out.lt
                        by_cases hlt2 : k2 < xp.length
                        · obtain ⟨a1, rfl, _, ⟨p1, p2, _⟩, _⟩ := par_at HPp.out (HJ1f.out.on HR2.out) hlt2
                          obtain ⟨a2, rfl, _, ⟨r1, r2, _⟩, _⟩ := par_at HPp'.out (HJ2f.out.on HR2.out) (show k2 < yp.length by omega)
                          have x1_ : wr.cell? ⟨bx, 1, none⟩ = some (.slice (some a1) xp.length kp) := by rw [HX7.out.cell]; rfl
                          have y1_ : wr.cell? ⟨by', 1, none⟩ = some (.slice (some a2) yp.length mp) := by rw [HY7.out.cell]; rfl
                          have hk2i : (k2 : Int) < (yp.length : Int) := by omega
                          obtain ⟨z1, hz1⟩ : ∃ x, x = xp[k2] := ⟨_, rfl⟩
                          obtain ⟨z2, hz2⟩ : ∃ x, x = yp[k2] := ⟨_, rfl⟩
                          have HX2 : Hid (z1 = z2 → xp.take (k2 + 1) = yp.take (k2 + 1)) := Lib.hid (fun e => take_eq_step hlt2 (by omega) HT2.out (by rw [← hz1, ← hz2]; exact e))
                          have HY2 : Hid (z1 ≠ z2 → eqB p q = false) := Lib.hid (fun e => HY.out (by intro e2; injection e2 with _ e2; exact ne_of_at hlt2 (by omega) (by rw [← hz1, ← hz2]; exact e) e2))
                          rw [← hz1] at p1 p2
                          rw [← hz2] at r1 r2
                          clear hz1 hz2
                          obtain ⟨n1, f1⟩ := z1
                          obtain ⟨n2, f2⟩ := z2
                          simp only at p1 p2 r1 r2
                          cases hv1 : (n1.toList == n2.toList) with
                          | false =>
                            have HN := Lib.hid (HY2.out (by intro e; injection e with e _; rw [dec_bytes] at hv1; simp [e] at hv1))
                            go_wp2_with fail
                            go_quiet (fail)
                            go_wp2_with fail
                            go_ret
                            exact ⟨ret_bool HN.out.symm, below_drewN (below_step HBW6.out HR2.out) _⟩
                          | true =>
                            have HE1 : Hid (n1 = n2) := Lib.hid (by rw [dec_bytes] at hv1; simpa using hv1)
                            cases hv2 : (f1 == f2) with
                            | false =>
                              have HN := Lib.hid (HY2.out (by intro e; injection e with _ e; simp [e] at hv2))
                              go_wp2_with fail
                              go_quiet (fail)
                              go_wp2_with fail
                              go_ret
                              exact ⟨ret_bool HN.out.symm, below_drewN (below_step HBW6.out HR2.out) _⟩
                            | true =>
                              have HE2 : Hid (f1 = f2) := Lib.hid (by simpa using hv2)
                              go_wp2_with fail
                              go_quiet (fail)
                              go_wp2_with fail
                              go_roundw
                              case rel => exact ⟨k2 + 1, by omega, by go_num, Lib.hid (HX2.out (by rw [HE1.out, HE2.out])), Lib.hid (below_drewN HR2.out _)⟩
                              case measure => simp [intOf]; omega
                        · have HPe : Hid (xp = yp) := Lib.hid (by have := HT2.out; rw [List.take_of_length_le (by omega), List.take_of_length_le (by omega)] at this; exact this)
                          go_wp2_with fail
                          go_roundg (p.procs.length - k - 1)
                          case measure => omega
                          case rel => exact ⟨k + 1, by omega, by go_num, Lib.hid (HX.out (by rw [HNm.out, HVe.out, HEq.out, HBe.out, HPe.out])), Lib.hid (below_step HB36.out HR2.out)⟩
        · have HF : Hid (eqB p q = true) := Lib.hid (by rw [HV.out, eqB_iff]; have := HTk.out; rw [List.take_of_length_le (by omega), List.take_of_length_le (by omega)] at this; exact this)
          go_wp2_with fail
          go_ret
          exact ⟨ret_bool HF.out.symm, below_step HB3.out HR.out⟩
end Go.Proofs.Ytkbjlnmdlolhiaa
namespace Go.Proofs.Ytkbjlnmdlolhiaa
open Go.ChangeShapes Go.WideShapes Go.ChangeAt Go.RowKit Go.Deep
set_option linter.unusedVariables false

theorem weighPa_len : ∀ (l : List Pa) (n : Nat), weighPa l n ≤ 20000 → n + l.length ≤ weighPa l n
  | [], n, h => by rw [weighPa]; simp
  | a :: l, n, h => by
    rw [weighPa] at h ⊢
    split at h
    · rename_i hn
      rw [if_pos hn]
      have h1 := weighPa_len l _ h
      have h2 := weighT_eq (s := a.nm.size) (n := n) (by omega)
      rw [List.length_cons]
      omega
    · omega
theorem weighQs_full : ∀ (l : List Pr) (n : Nat), weighQs l n ≤ 20000 → n + l.length ≤ weighQs l n ∧ ∀ q ∈ l, wSL q.body ≤ 20000 ∧ wT q.vars ≤ 20000 ∧ wT q.end_ ≤ 20000 ∧ q.params.length ≤ 20000
  | [], n, h => by rw [weighQs]; exact ⟨by simp, fun q hq => by simp at hq⟩
  | q :: l, n, h => by
    rw [weighQs] at h ⊢
    split at h
    · rename_i hn
      rw [if_pos hn]
      obtain ⟨h1, h2⟩ := weighQs_full l _ h
      have hq : weighQ q n ≤ 20000 := by omega
      unfold weighQ at hq h1
      have h3 := weighSL_eq q.body _ hq
      have h4 := weighPa_len q.params (weighTs q.end_ (weighTs q.vars (weighT q.nm.size n))) (by omega)
      have h5 := weighTs_eq q.end_ _ (show weighTs q.end_ (weighTs q.vars (weighT q.nm.size n)) ≤ 20000 by omega)
      have h6 := weighTs_eq q.vars _ (show weighTs q.vars (weighT q.nm.size n) ≤ 20000 by omega)
      have h7 := weighT_eq (s := q.nm.size) (n := n) (by omega)
      refine ⟨by unfold weighQ; rw [List.length_cons]; omega, fun y hy => ?_⟩
      rcases List.mem_cons.1 hy with rfl | hy
      · exact ⟨by omega, by omega, by omega, by omega⟩
      · exact h2 y hy
    · omega
theorem fits_smG {p : Pg} (h : fitsP p = true) : SmG p := by
  unfold fitsP weighP at h
  have h0 := of_decide_eq_true h
  obtain ⟨h1, h2⟩ := weighQs_full p.procs _ h0
  have h3 := weighTs_eq p.globals 0 (by omega)
  exact ⟨by omega, by omega, fun q hq => by obtain ⟨a, b, c, d⟩ := h2 q hq; exact ⟨by omega, by omega, by omega, by omega⟩⟩
theorem szB_of {l : List S} (h : wSL l ≤ 1000000) : szB l := by
  refine ⟨by rw [preSL_siz]; have := sizSL_w l; omega, fun s hs => ?_⟩
  have h1 := preSL_w l s hs
  obtain ⟨id, kind, labels, nm, proc, x, has, args, th, el⟩ := s
  rw [wS] at h1
  refine ⟨?_, ?_⟩
  · have := sizE_w x; show sizE x ≤ _; omega
  · intro a ha
    have := wAr_mem (l := args) ha
    have := sizE_w a.x
    omega
theorem szQ_of {p : Pg} (h : SmG p) : szQ p.procs := fun q hq => szB_of (h.proc q hq).1
theorem prOk_ids : ∀ (l : List Pr) (c c' : Nat), prOk l c = some c' → c ≤ c' ∧ ∀ q ∈ l, ∀ s ∈ preSL q.body, (c : Int) < s.id ∧ s.id ≤ c'
  | [], c, c', h => by
    rw [prOk] at h
    injection h with h
    subst h
    exact ⟨Nat.le_refl _, fun q hq => by simp at hq⟩
  | q :: l, c, c', h => by
    rw [prOk] at h
    split at h
    · cases h1 : blkOk q.body 1 c with
      | none => rw [h1] at h; simp at h
      | some c1 =>
        rw [h1] at h
        simp only [Option.bind_some] at h
        obtain ⟨a1, a2, a3⟩ := flatL_pre q.body 1 c c1 h1
        obtain ⟨b1, b2⟩ := prOk_ids l c1 c' h
        refine ⟨by omega, fun y hy s hs => ?_⟩
        rcases List.mem_cons.1 hy with rfl | hy
        · obtain ⟨j, hj, rfl⟩ := List.getElem_of_mem hs
          rw [a2 j hj]
          exact ⟨by omega, by omega⟩
        · have := b2 y hy s hs
          exact ⟨by omega, this.2⟩
    · cases h
theorem may_ids {p : Pg} (h : mayP p = true) : ∀ q ∈ p.procs, ∀ s ∈ preSL q.body, 1 ≤ s.id ∧ s.id ≤ 200 := by
  have hc := (may_flat h).2.1
  unfold mayP at h
  rw [Bool.and_eq_true] at h
  obtain ⟨_, h⟩ := h
  cases hp : prOk p.procs 0 with
  | none => rw [hp] at h; cases h
  | some c' =>
    have h1 := (prOk_ids p.procs 0 c' hp).2
    have h2 := (prOk_flat p.procs 0 c' hp (by omega)).2.2.1
    intro q hq s hs
    have := h1 q hq s hs
    exact ⟨by omega, by omega⟩
mutual
theorem putS_none (t : S) : ∀ s : S, (∀ x ∈ preS s, x.id ≠ t.id) → putS t s = s
  | .mk id kind labels nm proc x has args th el, h => by
    rw [preS] at h
    have h1 := putSL_none t th (fun x hx => h x (List.mem_cons_of_mem _ (List.mem_append_left _ hx)))
    have h2 := putSL_none t el (fun x hx => h x (List.mem_cons_of_mem _ (List.mem_append_right _ hx)))
    have h3 : id ≠ t.id := h _ (List.mem_cons_self ..)
    obtain ⟨tid, tkind, tlabels, tnm, tproc, tx, thas, targs, tth, tel⟩ := t
    rw [putS, h1, h2]; exact if_neg h3
theorem putSL_none (t : S) : ∀ l : List S, (∀ x ∈ preSL l, x.id ≠ t.id) → putSL t l = l
  | [], _ => by rw [putSL]
  | s :: l, h => by
    rw [preSL] at h
    rw [putSL, putS_none t s (fun x hx => h x (List.mem_append_left _ hx)), putSL_none t l (fun x hx => h x (List.mem_append_right _ hx))]
end
theorem putP_none {t : S} {p : Pg} (h : ∀ q ∈ p.procs, ∀ s ∈ preSL q.body, s.id ≠ t.id) : putP t p = p := by
  obtain ⟨g, ps⟩ := p
  unfold putP
  congr 1
  have : ∀ l : List Pr, (∀ q ∈ l, ∀ s ∈ preSL q.body, s.id ≠ t.id) → l.map (putPr t) = l := by
    intro l
    induction l with
    | nil => intro _; rfl
    | cons q l ih =>
      intro hl
      rw [List.map_cons, ih (fun y hy => hl y (List.mem_cons_of_mem _ hy))]
      congr 1
      obtain ⟨a, b, c, d, e⟩ := q
      have := putSL_none t d (hl _ (List.mem_cons_self ..))
      unfold putPr
      simp only [this]
  exact this ps h
def Sneg : S := .mk (-1) 0 [] ⟨#[]⟩ ⟨#[]⟩ (.mk 0 0 ⟨#[]⟩ []) false [] [] []
abbrev zN : Array Value := #[.int .i64 (-1), .int .i64 0, .slice none 0 0, .string ⟨#[]⟩, .string ⟨#[]⟩, .int .i64 0, .int .i64 0, .string ⟨#[]⟩, .slice none 0 0, .bool false, .slice none 0 0, .slice none 0 0, .slice none 0 0]
theorem neg_stmt (w : World) (Q : Nat → Prop) : StmtI w Q Sneg zN.toList :=
  StmtI.of_slice ⟨by omega, by omega⟩ i64_zero (by decide) (by decide) nil_slice (ExprI.of_slice nil_slice i64_zero i64_zero (by decide)) nil_slice nil_slice nil_slice
set_option maxHeartbeats 1000000 in
theorem Copy_any {w W : World} {Q : Nat → Prop} {p : Pg} {g0 g1 : Value} (h : ProgI w Q p [g0, g1]) (hI : In Q w W) (hsm : SmG p) (hid : ∀ q ∈ p.procs, ∀ s ∈ preSL q.body, 1 ≤ s.id ∧ s.id ≤ 200) :
    Calls Try.prog 31 #[.agg #[g0, g1]] W fun e w' => ∃ d0 d1, e = .returned (.agg #[d0, d1]) ∧ Below W.heap.size W w' ∧ ProgI w' (nw W w') p [d0, d1] := by
  have hput : putP Sneg p = p := putP_none (fun q hq s hs e => by have := (hid q hq s hs).1; rw [e] at this; simp [Sneg, S.id] at this)
  have HC : Hid (∀ V, In Q w V → Calls Try.prog 49 #[.agg #[g0, g1], .agg zN] V fun e w' => ∃ d0 d1, e = .returned (.agg #[d0, d1]) ∧ Below V.heap.size V w' ∧ ProgI w' (nw V w') p [d0, d1]) := Lib.hid (fun V hV => by
    have := Put_any (W := V) (Q2 := fun _ => False) (w2 := V) h (neg_stmt V _) hV ⟨fun _ h => h.elim, fun _ h => h.elim⟩ hsm ⟨by simp only [wE, wL]; decide, by simp, by simp [wAr]⟩
    rw [hput] at this
    exact this)
  have HI := Lib.hid hI
  obtain ⟨Ag, cg, Ap, cp, rfl, rfl, _⟩ := prog_open h
  clear h hI hsm hid hput
  go_enter Try.func31, Try.ntmps31
  go_upto_region 1 with fail
  have HBp : Hid (Blk ((W.alloc (.cells #[.slice Ag p.globals.length cg, .slice Ap p.procs.length cp] 25)).alloc (.cells #[.slice none 0 0, .slice none 0 0] 25)) W.heap.size 25 #[.slice Ag p.globals.length cg, .slice Ap p.procs.length cp]) := Lib.hid ((Blk.new _ _ _).alloc _)
  have HBr : Hid (Blk ((W.alloc (.cells #[.slice Ag p.globals.length cg, .slice Ap p.procs.length cp] 25)).alloc (.cells #[.slice none 0 0, .slice none 0 0] 25)) (W.heap.size + 1) 25 #[.slice none 0 0, .slice none 0 0]) := Lib.hid (blk22 _ _ _ _)
  have HB0 : Hid (Below W.heap.size W ((W.alloc (.cells #[.slice Ag p.globals.length cg, .slice Ap p.procs.length cp] 25)).alloc (.cells #[.slice none 0 0, .slice none 0 0] 25))) := Lib.hid (below_two _ _)
  generalize World.alloc _ _ = V at HBp HBr HB0 ⊢
  have p0 : V.cell? ⟨W.heap.size, 0, none⟩ = some (.slice Ag p.globals.length cg) := by rw [HBp.out.cell]; rfl
  have p1 : V.cell? ⟨W.heap.size, 1, none⟩ = some (.slice Ap p.procs.length cp) := by rw [HBp.out.cell]; rfl
  have hl := HBr.out.lt
  go_wp2_with (go_at_call 49; refine (HC.out _ (HI.out.on HB0.out)).mono ?_; rintro e q1 ⟨d0, d1, rfl, hb1, hp1⟩; obtain ⟨Bg, dg, Bp, dp, rfl, rfl, _⟩ := prog_open hp1; have HR := Lib.hid (HBr.out.below hb1 hl); have r0 : q1.cell? ⟨W.heap.size + 1, 0, none⟩ = some (.slice none 0 0) := (by rw [HR.out.cell]; rfl); have r1 : q1.cell? ⟨W.heap.size + 1, 1, none⟩ = some (.slice none 0 0) := (by rw [HR.out.cell]; rfl); have f0 := HR.out.frozen 0; have f1 := HR.out.frozen 1; have hl1 := HR.out.lt)
  (try simp only [Exit.inBlock, Exit.then])
  refine bodyPost_ret (results_cell_row rfl _ _ (W.heap.size + 1) 25 _ (0, 0) _ rfl ((HR.out.set_ 0 _).set_ 1 _) Try.underlying25 rfl (by kernel_rfl)) rfl ⟨_, _, rfl, below_setc (below_setc (below_step HB0.out hb1) (by show W.heap.size ≤ W.heap.size + 1; omega) _) (by show W.heap.size ≤ W.heap.size + 1; omega) _, ?_⟩
  refine hp1.keep (fun j hj => ⟨by have := hj.1; have := HB0.out.size; omega, by simp only [size_set]; exact hj.2⟩) (fun p hp => ?_)
  have hne : p.block ≠ W.heap.size + 1 := by have := hp.1; omega
  rw [cell_set_ne _ (fun e => hne (by rw [e])), cell_set_ne _ (fun e => hne (by rw [e]))]
end Go.Proofs.Ytkbjlnmdlolhiaa
