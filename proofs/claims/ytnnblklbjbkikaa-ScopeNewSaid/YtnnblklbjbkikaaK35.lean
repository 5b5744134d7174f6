/- Texts, merged by a program; only what is used. -/
import Derived.Test.YtnnblklbjbkikaaK1
import Derived.Test.YtnnblklbjbkikaaK2
import Derived.Test.YtnnblklbjbkikaaK3
import Derived.Test.YtnnblklbjbkikaaK4
import Derived.Test.YtnnblklbjbkikaaK5
import Derived.Test.YtnnblklbjbkikaaK6
import Derived.Test.YtnnblklbjbkikaaK7
import Derived.Test.YtnnblklbjbkikaaK8
import Derived.Test.YtnnblklbjbkikaaK9
import Derived.Test.YtnnblklbjbkikaaK10
import Derived.Test.YtnnblklbjbkikaaK11
import Derived.Test.YtnnblklbjbkikaaK12
import Derived.Test.YtnnblklbjbkikaaK13
import Derived.Test.YtnnblklbjbkikaaK14
import Derived.Test.YtnnblklbjbkikaaK15
import Derived.Test.YtnnblklbjbkikaaK16
import Derived.Test.YtnnblklbjbkikaaK17
import Derived.Test.YtnnblklbjbkikaaK18
import Derived.Test.YtnnblklbjbkikaaK19
import Derived.Test.YtnnblklbjbkikaaK20
import Derived.Test.YtnnblklbjbkikaaK21
import Derived.Test.YtnnblklbjbkikaaK22
import Derived.Test.YtnnblklbjbkikaaK23
import Derived.Test.YtnnblklbjbkikaaK24
import Derived.Test.YtnnblklbjbkikaaK25
import Derived.Test.YtnnblklbjbkikaaK26
import Derived.Test.YtnnblklbjbkikaaK27
import Derived.Test.YtnnblklbjbkikaaK28
import Derived.Test.YtnnblklbjbkikaaK33
import Derived.Test.YtnnblklbjbkikaaK34
namespace Go.Proofs.Ytnnblklbjbkikaa
open Go.ChangeShapes Go.WideShapes Go.ChangeAt Go.RowKit Go.Deep
set_option linter.unusedVariables false
set_option linter.unusedSimpArgs false
theorem in_new (W w : World) : In (nw W w) w w := ⟨fun b h => h.2, fun _ _ => rfl⟩
theorem st_labels {w : World} {Q : Nat → Prop} {id kind : Int} {labels : List ByteArray} {nm proc : ByteArray} {x : E} {has : Bool} {args : List Ar} {th el : List S} {c0 c1 vl c3 c4 x0 x1 x2 x3 c9 va vt ve : Value} (h : StmtI w Q (.mk id kind labels nm proc x has args th el) [c0, c1, vl, c3, c4, x0, x1, x2, x3, c9, va, vt, ve]) : TextsI w Q labels vl := by
 cases h with
 | mk hid hkind hnm hproc hl hx ha hc1 hc2 hA1 hA2 hk1 hk2 => exact hl
theorem said_small {w : World} {Q : Nat → Prop} {s : S} {cs : List Value} (h : StmtI w Q s cs) : ∀ t ∈ saidS s, small t := by
 obtain ⟨id, kind, labels, nm, proc, x, has, args, th, el, L, lc, x0, x1, x2, X, xn, xc, R, rc, T, tc, U, uc, rfl, rfl, hid, hkind, hnm, hproc, hl, hx, ha, hth, hel⟩ := stmt_open h
 intro t ht
 unfold saidS at ht
 simp only [List.mem_append, S.x, S.nm, S.kind, S.args, List.mem_flatMap] at ht
 rcases ht with (ht | ht) | ⟨a, ham, ht⟩
 ·unfold ownV at ht
  split at ht
  ·rw [List.mem_singleton.1 ht]; exact hnm
  ·cases ht
 ·exact namesE_small hx t ht
 ·obtain ⟨cs, xcs, _, h1, h2⟩ := slice_mem ha a ham
  unfold saidV at ht
  rw [List.mem_append] at ht
  rcases ht with ht | ht
  ·split at ht
   ·rw [List.mem_singleton.1 ht]; exact h1
   ·cases ht
  ·exact namesE_small h2 t ht
def notQ (q : Pr) (s : ByteArray) : Prop := (q.nm.toList == s.toList) = false ∧ (q.params.map Pa.nm).any (isT s) = false ∧ q.vars.any (isT s) = false
def notIn (p : Pg) (s : ByteArray) : Prop := p.globals.any (isT s) = false ∧ ∀ q ∈ p.procs, notQ q s
set_option maxHeartbeats 16000000 in
set_option maxRecDepth 100000 in
theorem Used_any {w : World} {Q : Nat → Prop} {p : Pg} {c0 c1 : Value} (h : ProgI w Q p [c0, c1]) (hsm : SmG p) (hm : mayP p = true) (s : ByteArray) (W : World) (hI : In Q w W) :
 Calls Try.prog 28 #[.agg #[c0, c1], .string s] W fun e w' => ∃ b, e = .returned (.bool b) ∧ Below W.heap.size W w' ∧ (b = false → notIn p s) := by
 obtain ⟨Ag, cg, Ap, cp, rfl, rfl, hg1, hg2, hp1, hp2, hgl, hpr⟩ := prog_open h
 have HG := Lib.hid hgl
 have HP := Lib.hid hpr
 have HI := Lib.hid hI
 have HSm := Lib.hid hsm
 have HMy := Lib.hid hm
 obtain ⟨hl1, hl2, hl3⟩ := may_lens hm
 have HL3 := Lib.hid hl3
 have HGi := Lib.hid (fun V hV => rIn_any (W := V) hgl hV s)
 clear h hI hgl hpr hsm hm hl3 hg1 hg2
 go_enter Try.func28, Try.ntmps28
 go_upto_region 1 with fail
 have HB0 : Hid (Below W.heap.size W (W.alloc (.cells #[.slice Ag p.globals.length cg, .slice Ap p.procs.length cp] 25))) := Lib.hid (below_box _)
 have HBp : Hid (Blk (W.alloc (.cells #[.slice Ag p.globals.length cg, .slice Ap p.procs.length cp] 25)) W.heap.size 25 #[.slice Ag p.globals.length cg, .slice Ap p.procs.length cp]) := Lib.hid (Blk.new _ _ _)
 generalize World.alloc _ _ = V at HB0 HBp ⊢
 have HI0 := Lib.hid (HI.out.on HB0.out)
 generalize W.heap.size = b at HBp ⊢
 have q0 : V.cell? ⟨b, 0, none⟩ = some (.slice Ag p.globals.length cg) := by rw [HBp.out.cell]; rfl
 have q1 : V.cell? ⟨b, 1, none⟩ = some (.slice Ap p.procs.length cp) := by rw [HBp.out.cell]; rfl
 cases hgb : p.globals.any (isT s) with
 | true =>
  rw [hgb] at HGi
  go_wp2_with (go_at_call 35; (with_reducible refine (HGi.out V HI0.out).mono ?_); rintro e' w' ⟨rfl, rfl⟩)
  go_ret
  exact ⟨true, rfl, HB0.out, by simp⟩
 | false =>
  rw [hgb] at HGi
  have HGb := Lib.hid hgb
  clear hgb
  go_upto_region 4 with (go_at_call 35; (with_reducible refine (HGi.out V HI0.out).mono ?_); rintro e' w' ⟨rfl, rfl⟩)
  clear q0 q1 HGi
  go_loopg [16] p.procs.length (fun kk iv wr => ∃ (k : Nat), k + kk = p.procs.length ∧ iv = .int .i64 k ∧ Hid (Below V.heap.size V wr) ∧ Hid (∀ q ∈ p.procs.take k, notQ q s))
  case atStart => exact ⟨0, by omega, rfl, Lib.hid (Below.refl _ _), Lib.hid (fun q hq => by simp at hq)⟩
  case round =>
   obtain ⟨k, hk, rfl, HBr, HA⟩ := hrel
   generalize wr = wo at *
   have HIr := Lib.hid (HI0.out.on HBr.out)
   by_cases hlt : k < p.procs.length
   ·obtain ⟨a, Bp, kp, Bv, kv, Bb, kb, Be, ke, rfl, hqa, hrow, hnm, hpp, hvv, hbody, hee⟩ := proc_at HP.out HIr.out hlt
    have HPI : Hid (ProcI w Q p.procs[k] [.string p.procs[k].nm, .slice Bp p.procs[k].params.length kp, .slice Bv p.procs[k].vars.length kv, .slice Bb p.procs[k].body.length kb, .slice Be p.procs[k].end_.length ke]) := Lib.hid ⟨_, _, _, _, rfl, hnm, hpp, hvv, hbody, hee⟩
    have hmem := List.getElem_mem hlt
    have hls := HL3.out _ hmem
    have HCp := Lib.hid (fun V hV => rparams_any HPI.out (by omega) V hV)
    have HFl := Lib.hid (fun V hV => Flat_any (W := V) HPI.out hV hV.1)
    have HNs := Lib.hid (namesP_sm HG.out HPI.out)
    have HSp : Hid (∀ t ∈ p.procs[k].params.map Pa.nm, small t) := Lib.hid (fun t ht => HNs.out t (by unfold namesP; simp only [List.mem_append]; exact .inl (.inr ht)))
    have HNv := Lib.hid (fun V hV => rIn_any (W := V) hvv hV s)
    have HNe := Lib.hid (fun V hV => rIn_any (W := V) hee hV s)
    have hfm := (may_flat HMy.out).1 _ hmem
    have hwl := (HSm.out.proc _ hmem).1
    have HIt : Hid (∀ x ∈ flatOf p.procs[k], (saidS x.s).length ≤ 1000000) := Lib.hid (fun x hx => by
     have hxm : x.s ∈ preSL p.procs[k].body := by rw [← hfm.1]; exact List.mem_map_of_mem hx
     exact Nat.le_trans (saidS_w (may_stm HMy.out _ hmem _ hxm)) (Nat.le_trans (preSL_w _ _ hxm) hwl))
    have HNq : Hid (∀ b1 b2 b3 : Bool, b1 = (p.procs[k].nm.toList == s.toList) → b2 = (p.procs[k].params.map Pa.nm).any (isT s) → b3 = p.procs[k].vars.any (isT s) → b1 = false → b2 = false → b3 = false → ∀ q ∈ p.procs.take (k + 1), notQ q s) := Lib.hid (fun b1 b2 b3 h1 h2 h3 e1 e2 e3 q hq => by
     rw [List.take_succ_eq_append_getElem hlt, List.mem_append] at hq
     rcases hq with hq | hq
     ·exact HA.out q hq
     ·rw [List.mem_singleton.1 hq]
      exact ⟨by rw [← h1, e1], by rw [← h2, e2], by rw [← h3, e3]⟩)
    have hfll := flatOf_len p.procs[k]
    clear HPI hnm hpp hvv hbody hee hwl hls hmem hqa hfm HA HNs
    generalize p.procs[k].params.map Pa.nm = pl at HCp HSp HNq
    generalize hits : flatOf p.procs[k] = its at HFl HIt hfll
    clear hits
    generalize hvl : p.procs[k].vars.length = x2 at hrow HCp HFl HNv
    generalize p.procs[k].vars.any (isT s) = vb at HNv HNq
    generalize p.procs[k].end_.any (isT s) = eb at HNe
    clear hvl
    generalize p.procs[k].nm = x0 at hrow HCp HFl HNq
    generalize p.procs[k].params.length = x1 at hrow HCp HFl
    generalize p.procs[k].body.length = x3 at hrow HCp HFl
    generalize p.procs[k].end_.length = x4 at hrow HCp HFl HNe
    obtain ⟨p0, p1, p2, p3, p4, _⟩ := hrow
    go_upto_region 6 with fail
    have HBx : Hid (Blk (wo.alloc (.cells #[.string x0, .slice Bp x1 kp, .slice Bv x2 kv, .slice Bb x3 kb, .slice Be x4 ke] 62)) wo.heap.size 62 #[.string x0, .slice Bp x1 kp, .slice Bv x2 kv, .slice Bb x3 kb, .slice Be x4 ke]) := Lib.hid (Blk.new _ _ _)
    have HB4 : Hid (Below V.heap.size V (wo.alloc (.cells #[.string x0, .slice Bp x1 kp, .slice Bv x2 kv, .slice Bb x3 kb, .slice Be x4 ke] 62))) := Lib.hid (below_stepA HBr.out _)
    have HI4 : Hid (In Q w (wo.alloc (.cells #[.string x0, .slice Bp x1 kp, .slice Bv x2 kv, .slice Bb x3 kb, .slice Be x4 ke] 62))) := Lib.hid (HIr.out.alloc _)
    clear p0 p1 p2 p3 p4 HIr HBr
    generalize World.alloc wo _ = V4 at HBx HB4 HI4 ⊢
    generalize wo.heap.size = bx at HBx ⊢
    have hbx := HBx.out.lt
    have z0 : V4.cell? ⟨bx, 0, none⟩ = some (.string x0) := by rw [HBx.out.cell]; rfl
    have z1 : V4.cell? ⟨bx, 1, none⟩ = some (.slice Bp x1 kp) := by rw [HBx.out.cell]; rfl
    have z2 : V4.cell? ⟨bx, 2, none⟩ = some (.slice Bv x2 kv) := by rw [HBx.out.cell]; rfl
    have z3 : V4.cell? ⟨bx, 3, none⟩ = some (.slice Bb x3 kb) := by rw [HBx.out.cell]; rfl
    have z4 : V4.cell? ⟨bx, 4, none⟩ = some (.slice Be x4 ke) := by rw [HBx.out.cell]; rfl
    have HB4W := Lib.hid (below_step HB0.out HB4.out)
    cases hnb : (x0.toList == s.toList) with
    | true =>
     go_wp2_with fail
     go_ret
     exact ⟨true, rfl, HB4W.out, by simp⟩
    | false =>
     cases hpb : pl.any (isT s) with
     | true =>
      go_wp2_with (first
       | (go_at_call 81; refine (HCp.out V4 HI4.out).mono ?_; rintro e' W5 ⟨v5, rfl, ho5, hb5⟩; have HT5 := Lib.hid (new_small HSp.out ho5); obtain ⟨X5, k5, rfl, _, _⟩ := own_shape ho5; have HNp := Lib.hid (rIn_any HT5.out (in_new V4 W5) s); rw [hpb] at HNp; have HI5 := Lib.hid (HI4.out.on hb5); have z0 : W5.cell? ⟨bx, 0, none⟩ = some (.string x0) := (hb5.cell (p := ⟨bx, 0, none⟩) hbx).trans z0; have z1 : W5.cell? ⟨bx, 1, none⟩ = some (.slice Bp x1 kp) := (hb5.cell (p := ⟨bx, 1, none⟩) hbx).trans z1; have z2 : W5.cell? ⟨bx, 2, none⟩ = some (.slice Bv x2 kv) := (hb5.cell (p := ⟨bx, 2, none⟩) hbx).trans z2; have z3 : W5.cell? ⟨bx, 3, none⟩ = some (.slice Bb x3 kb) := (hb5.cell (p := ⟨bx, 3, none⟩) hbx).trans z3; have z4 : W5.cell? ⟨bx, 4, none⟩ = some (.slice Be x4 ke) := (hb5.cell (p := ⟨bx, 4, none⟩) hbx).trans z4; have hb5x := Nat.lt_of_lt_of_le hbx hb5.size)
       | (go_at_call 35; (with_reducible refine HNp.out.mono ?_); rintro e' w' ⟨rfl, rfl⟩)
       | (go_at_call 35; (with_reducible refine (HNv.out W5 HI5.out).mono ?_); rintro e' w' ⟨rfl, rfl⟩)
       | (go_at_call 35; (with_reducible refine (HNe.out W5 HI5.out).mono ?_); rintro e' w' ⟨rfl, rfl⟩))
      go_ret
      exact ⟨true, rfl, below_step HB4W.out hb5, by simp⟩
     | false =>
      cases vb with
      | true =>
       go_wp2_with (first
        | (go_at_call 81; refine (HCp.out V4 HI4.out).mono ?_; rintro e' W5 ⟨v5, rfl, ho5, hb5⟩; have HT5 := Lib.hid (new_small HSp.out ho5); obtain ⟨X5, k5, rfl, _, _⟩ := own_shape ho5; have HNp := Lib.hid (rIn_any HT5.out (in_new V4 W5) s); rw [hpb] at HNp; have HI5 := Lib.hid (HI4.out.on hb5); have z0 : W5.cell? ⟨bx, 0, none⟩ = some (.string x0) := (hb5.cell (p := ⟨bx, 0, none⟩) hbx).trans z0; have z1 : W5.cell? ⟨bx, 1, none⟩ = some (.slice Bp x1 kp) := (hb5.cell (p := ⟨bx, 1, none⟩) hbx).trans z1; have z2 : W5.cell? ⟨bx, 2, none⟩ = some (.slice Bv x2 kv) := (hb5.cell (p := ⟨bx, 2, none⟩) hbx).trans z2; have z3 : W5.cell? ⟨bx, 3, none⟩ = some (.slice Bb x3 kb) := (hb5.cell (p := ⟨bx, 3, none⟩) hbx).trans z3; have z4 : W5.cell? ⟨bx, 4, none⟩ = some (.slice Be x4 ke) := (hb5.cell (p := ⟨bx, 4, none⟩) hbx).trans z4; have hb5x := Nat.lt_of_lt_of_le hbx hb5.size)
        | (go_at_call 35; (with_reducible refine HNp.out.mono ?_); rintro e' w' ⟨rfl, rfl⟩)
        | (go_at_call 35; (with_reducible refine (HNv.out W5 HI5.out).mono ?_); rintro e' w' ⟨rfl, rfl⟩)
        | (go_at_call 35; (with_reducible refine (HNe.out W5 HI5.out).mono ?_); rintro e' w' ⟨rfl, rfl⟩))
       go_ret
       exact ⟨true, rfl, below_step HB4W.out hb5, by simp⟩
      | false =>
       cases eb with
       | true =>
        go_wp2_with (first
         | (go_at_call 81; refine (HCp.out V4 HI4.out).mono ?_; rintro e' W5 ⟨v5, rfl, ho5, hb5⟩; have HT5 := Lib.hid (new_small HSp.out ho5); obtain ⟨X5, k5, rfl, _, _⟩ := own_shape ho5; have HNp := Lib.hid (rIn_any HT5.out (in_new V4 W5) s); rw [hpb] at HNp; have HI5 := Lib.hid (HI4.out.on hb5); have z0 : W5.cell? ⟨bx, 0, none⟩ = some (.string x0) := (hb5.cell (p := ⟨bx, 0, none⟩) hbx).trans z0; have z1 : W5.cell? ⟨bx, 1, none⟩ = some (.slice Bp x1 kp) := (hb5.cell (p := ⟨bx, 1, none⟩) hbx).trans z1; have z2 : W5.cell? ⟨bx, 2, none⟩ = some (.slice Bv x2 kv) := (hb5.cell (p := ⟨bx, 2, none⟩) hbx).trans z2; have z3 : W5.cell? ⟨bx, 3, none⟩ = some (.slice Bb x3 kb) := (hb5.cell (p := ⟨bx, 3, none⟩) hbx).trans z3; have z4 : W5.cell? ⟨bx, 4, none⟩ = some (.slice Be x4 ke) := (hb5.cell (p := ⟨bx, 4, none⟩) hbx).trans z4; have hb5x := Nat.lt_of_lt_of_le hbx hb5.size)
         | (go_at_call 35; (with_reducible refine HNp.out.mono ?_); rintro e' w' ⟨rfl, rfl⟩)
         | (go_at_call 35; (with_reducible refine (HNv.out W5 HI5.out).mono ?_); rintro e' w' ⟨rfl, rfl⟩)
         | (go_at_call 35; (with_reducible refine (HNe.out W5 HI5.out).mono ?_); rintro e' w' ⟨rfl, rfl⟩))
        go_ret
        exact ⟨true, rfl, below_step HB4W.out hb5, by simp⟩
       | false =>
        have HNk := Lib.hid (HNq.out _ _ _ hnb.symm hpb.symm rfl rfl rfl rfl)
        go_upto_region 9 with (first
         | (go_at_call 81; refine (HCp.out V4 HI4.out).mono ?_; rintro e' W5 ⟨v5, rfl, ho5, hb5⟩; have HT5 := Lib.hid (new_small HSp.out ho5); obtain ⟨X5, k5, rfl, _, _⟩ := own_shape ho5; have HNp := Lib.hid (rIn_any HT5.out (in_new V4 W5) s); rw [hpb] at HNp; have HI5 := Lib.hid (HI4.out.on hb5); have z0 : W5.cell? ⟨bx, 0, none⟩ = some (.string x0) := (hb5.cell (p := ⟨bx, 0, none⟩) hbx).trans z0; have z1 : W5.cell? ⟨bx, 1, none⟩ = some (.slice Bp x1 kp) := (hb5.cell (p := ⟨bx, 1, none⟩) hbx).trans z1; have z2 : W5.cell? ⟨bx, 2, none⟩ = some (.slice Bv x2 kv) := (hb5.cell (p := ⟨bx, 2, none⟩) hbx).trans z2; have z3 : W5.cell? ⟨bx, 3, none⟩ = some (.slice Bb x3 kb) := (hb5.cell (p := ⟨bx, 3, none⟩) hbx).trans z3; have z4 : W5.cell? ⟨bx, 4, none⟩ = some (.slice Be x4 ke) := (hb5.cell (p := ⟨bx, 4, none⟩) hbx).trans z4; have hb5x := Nat.lt_of_lt_of_le hbx hb5.size)
         | (go_at_call 35; (with_reducible refine HNp.out.mono ?_); rintro e' w' ⟨rfl, rfl⟩)
         | (go_at_call 35; (with_reducible refine (HNv.out W5 HI5.out).mono ?_); rintro e' w' ⟨rfl, rfl⟩)
         | (go_at_call 35; (with_reducible refine (HNe.out W5 HI5.out).mono ?_); rintro e' w' ⟨rfl, rfl⟩)
         | (go_at_call 48; refine (HFl.out W5 HI5.out).mono ?_; rintro e' W9 ⟨v9, rows9, rfl, ho9, ha9, hb9⟩; obtain ⟨X9, cx9, rfl, hx9, hx9'⟩ := own_shape ho9))
        have HSl := Lib.hid (slice_of_own ho9 ha9 (fun x cs h => by obtain ⟨c, rfl, hc⟩ := h; obtain ⟨_, _, _, _, _, _, _, _, _, _, _, _, _, _, _, _, _, _, _, _, _, _, _, _, _, rfl, _⟩ := stmt_open hc; rfl))
        have HB9 := Lib.hid (below_step HB4.out (below_step hb5 hb9))
        have HI9 := Lib.hid (HI5.out.on hb9)
        clear ho9 ha9 hb9 z0 z1 z2 z3 z4 hb5 HB4 HI4 HI5 HT5 HNp HFl HCp HBx hbx HB4W HNv HNe HNq HSp hb5x hnb hpb ho5
        go_loopg [45] its.length (fun kk iv wr => ∃ (j : Nat), j + kk = its.length ∧ iv = .int .i64 j ∧ Hid (Below W9.heap.size W9 wr))
        case atStart => exact ⟨0, by omega, rfl, Lib.hid (Below.refl _ _)⟩
        case round =>
         obtain ⟨j, hj, rfl, HR2⟩ := hrel
         generalize wr = wq at *
         have HIq := Lib.hid (HI9.out.on HR2.out)
         by_cases hlt2 : j < its.length
         ·obtain ⟨a2, sid, kind, labels, nm, proc, x, has, args, th, el, L, lc, y0, y1, y2, X, xn, xc, R, rc, T, tc, U, uc, dp, inn, els, rfl, hq2, hmk, hrow2, hid, hkind, hst⟩ := item_at HSl.out (W := wq) ⟨fun b h => Nat.lt_of_lt_of_le h.2 HR2.out.size, fun p hp => HR2.out.cell hp.2⟩ hlt2
          have hi3 := HIt.out _ (List.getElem_mem hlt2)
          rw [hmk] at hi3
          have HSa := Lib.hid (fun V hV => rSaid_any hst hi3 V hV)
          have HSs := Lib.hid (said_small hst)
          have HLa := Lib.hid (fun V hV => rIn_any (W := V) (st_labels hst) hV s)
          obtain ⟨l, hl⟩ : ∃ l, l = saidS (.mk sid kind labels nm proc x has args th el) := ⟨_, rfl⟩
          rw [← hl] at HSa HSs
          generalize labels.any (isT s) = lb at HLa
          generalize labels.length = ll at *
          have hkb := hkind
          unfold i64 at hkb
          obtain ⟨p0, p1, p2, p3, p4, p5, p6, p7, p8, p9, p10, p11, p12, p13, p14, p15, _⟩ := hrow2
          simp only [List.toArray] at HSa
          clear hl hmk hst hid hkind hi3 hq2
          go_upto_region 11 with fail
          have HBi : Hid (Blk (wq.alloc (.cells #[.int .i64 sid, .int .i64 kind, .slice L ll lc, .string nm, .string proc, .int .i64 y0, .int .i64 y1, .string y2, .slice X xn xc, .bool has, .slice R args.length rc, .slice T th.length tc, .slice U el.length uc, .int .i64 dp, .int .i64 inn, .bool els] 81)) wq.heap.size 81 #[.int .i64 sid, .int .i64 kind, .slice L ll lc, .string nm, .string proc, .int .i64 y0, .int .i64 y1, .string y2, .slice X xn xc, .bool has, .slice R args.length rc, .slice T th.length tc, .slice U el.length uc, .int .i64 dp, .int .i64 inn, .bool els]) := Lib.hid (Blk.new _ _ _)
          have HB10 : Hid (Below W9.heap.size W9 (wq.alloc (.cells #[.int .i64 sid, .int .i64 kind, .slice L ll lc, .string nm, .string proc, .int .i64 y0, .int .i64 y1, .string y2, .slice X xn xc, .bool has, .slice R args.length rc, .slice T th.length tc, .slice U el.length uc, .int .i64 dp, .int .i64 inn, .bool els] 81))) := Lib.hid (below_stepA HR2.out _)
          have HI10 : Hid (In Q w (wq.alloc (.cells #[.int .i64 sid, .int .i64 kind, .slice L ll lc, .string nm, .string proc, .int .i64 y0, .int .i64 y1, .string y2, .slice X xn xc, .bool has, .slice R args.length rc, .slice T th.length tc, .slice U el.length uc, .int .i64 dp, .int .i64 inn, .bool els] 81))) := Lib.hid (HIq.out.alloc _)
          clear p0 p1 p2 p3 p4 p5 p6 p7 p8 p9 p10 p11 p12 p13 p14 p15 HIq HR2
          generalize World.alloc wq _ = V10 at HBi HB10 HI10 ⊢
          generalize wq.heap.size = bi at HBi ⊢
          have HB10W := Lib.hid (below_step HB0.out (below_step HB9.out HB10.out))
          have s0 : V10.cell? ⟨bi, 0, none⟩ = some (.int .i64 sid) := by rw [HBi.out.cell]; rfl
          have s1 : V10.cell? ⟨bi, 1, none⟩ = some (.int .i64 kind) := by rw [HBi.out.cell]; rfl
          have s2 : V10.cell? ⟨bi, 2, none⟩ = some (.slice L ll lc) := by rw [HBi.out.cell]; rfl
          have s3 : V10.cell? ⟨bi, 3, none⟩ = some (.string nm) := by rw [HBi.out.cell]; rfl
          have s4 : V10.cell? ⟨bi, 4, none⟩ = some (.string proc) := by rw [HBi.out.cell]; rfl
          have s5 : V10.cell? ⟨bi, 5, none⟩ = some (.int .i64 y0) := by rw [HBi.out.cell]; rfl
          have s6 : V10.cell? ⟨bi, 6, none⟩ = some (.int .i64 y1) := by rw [HBi.out.cell]; rfl
          have s7 : V10.cell? ⟨bi, 7, none⟩ = some (.string y2) := by rw [HBi.out.cell]; rfl
          have s8 : V10.cell? ⟨bi, 8, none⟩ = some (.slice X xn xc) := by rw [HBi.out.cell]; rfl
          have s9 : V10.cell? ⟨bi, 9, none⟩ = some (.bool has) := by rw [HBi.out.cell]; rfl
          have s10 : V10.cell? ⟨bi, 10, none⟩ = some (.slice R args.length rc) := by rw [HBi.out.cell]; rfl
          have s11 : V10.cell? ⟨bi, 11, none⟩ = some (.slice T th.length tc) := by rw [HBi.out.cell]; rfl
          have s12 : V10.cell? ⟨bi, 12, none⟩ = some (.slice U el.length uc) := by rw [HBi.out.cell]; rfl
          cases lb with
          | true =>
           go_wp2_with (go_at_call 35; (with_reducible refine (HLa.out V10 HI10.out).mono ?_); rintro e' w' ⟨rfl, rfl⟩)
           go_ret
           exact ⟨true, rfl, HB10W.out, by simp⟩
          | false =>
           cases hn1 : (nm.toList == s.toList) with
           | true =>
            go_wp2_with (go_at_call 35; (with_reducible refine (HLa.out V10 HI10.out).mono ?_); rintro e' w' ⟨rfl, rfl⟩)
            go_ret
            exact ⟨true, rfl, HB10W.out, by simp⟩
           | false =>
            cases hn2 : (proc.toList == s.toList) with
            | true =>
             go_wp2_with (go_at_call 35; (with_reducible refine (HLa.out V10 HI10.out).mono ?_); rintro e' w' ⟨rfl, rfl⟩)
             go_ret
             exact ⟨true, rfl, HB10W.out, by simp⟩
            | false =>
             cases hsb : l.any (isT s) with
             | true =>
              go_wp2_with (first
               | (go_at_call 82; refine (HSa.out V10 HI10.out).mono ?_; rintro e' W11 ⟨v11, rfl, ho11, hb11⟩; have HT11 := Lib.hid (new_small HSs.out ho11); obtain ⟨X11, k11, rfl, _, _⟩ := own_shape ho11; have HNs := Lib.hid (rIn_any HT11.out (in_new V10 W11) s); rw [hsb] at HNs)
               | (go_at_call 35; (with_reducible refine HNs.out.mono ?_); rintro e' w' ⟨rfl, rfl⟩)
               | (go_at_call 35; (with_reducible refine (HLa.out V10 HI10.out).mono ?_); rintro e' w' ⟨rfl, rfl⟩))
              go_ret
              exact ⟨true, rfl, below_step HB10W.out hb11, by simp⟩
             | false =>
              go_wp2_with (first
               | (go_at_call 82; refine (HSa.out V10 HI10.out).mono ?_; rintro e' W11 ⟨v11, rfl, ho11, hb11⟩; have HT11 := Lib.hid (new_small HSs.out ho11); obtain ⟨X11, k11, rfl, _, _⟩ := own_shape ho11; have HNs := Lib.hid (rIn_any HT11.out (in_new V10 W11) s); rw [hsb] at HNs)
               | (go_at_call 35; (with_reducible refine HNs.out.mono ?_); rintro e' w' ⟨rfl, rfl⟩)
               | (go_at_call 35; (with_reducible refine (HLa.out V10 HI10.out).mono ?_); rintro e' w' ⟨rfl, rfl⟩))
              go_roundg (its.length - j - 1)
              case measure => omega
              case rel => exact ⟨j + 1, by omega, by go_num, Lib.hid (below_step HB10.out hb11)⟩
         ·go_wp2_with fail
          go_roundg (p.procs.length - k - 1)
          case measure => omega
          case rel => exact ⟨k + 1, by omega, by go_num, Lib.hid (below_step HB9.out HR2.out), HNk⟩
   ·have hke : k = p.procs.length := by omega
    have HA2 : Hid (∀ q ∈ p.procs, notQ q s) := Lib.hid (by have := HA.out; rwa [List.take_of_length_le (by omega)] at this)
    go_wp2_with fail
    go_ret
    exact ⟨false, rfl, below_step HB0.out HBr.out, fun _ => ⟨HGb.out, HA2.out⟩⟩
end Go.Proofs.Ytnnblklbjbkikaa
namespace Go.Proofs.Ytnnblklbjbkikaa
open Go.ChangeShapes Go.WideShapes Go.ChangeAt Go.RowKit Go.Deep
set_option linter.unusedVariables false
set_option linter.unusedSimpArgs false
theorem dupL_false : ∀ (l p : List ByteArray), dupL p l = false → (∀ x ∈ l, x ∉ p) ∧ l.Nodup
 | [], p, _ => ⟨fun x hx => absurd hx (by simp), List.nodup_nil⟩
 | x :: l, p, h => by
  rw [dupL, Bool.or_eq_false_iff] at h
  obtain ⟨h1, h2⟩ := h
  obtain ⟨h3, h4⟩ := dupL_false l (p ++ [x]) h2
  have hx : x ∉ p := fun hp => by
   rw [List.any_eq_false] at h1
   exact h1 x hp (by simp [isT])
  refine ⟨fun y hy => ?_, List.nodup_cons.2 ⟨fun hy => h3 x hy (by simp), h4⟩⟩
  rcases List.mem_cons.1 hy with rfl | hy
  ·exact hx
  ·exact fun hp => h3 y hy (by simp [hp])
theorem dup_nodup {l : List ByteArray} (h : dup l = false) : l.Nodup := (dupL_false l [] h).2
theorem dupL_true : ∀ (l p : List ByteArray), p.Nodup → dupL p l = true → ¬ (p ++ l).Nodup
 | [], p, _, h => by rw [dupL] at h; cases h
 | x :: l, p, hp, h => by
  rw [dupL, Bool.or_eq_true] at h
  intro hn
  rcases h with h | h
  ·rw [List.any_eq_true] at h
   obtain ⟨y, hy, hxy⟩ := h
   have : x = y := by simpa [isT] using hxy
   subst this
   exact (List.nodup_append.1 hn).2.2 x hy x (by simp) rfl
  ·have h2 : p ++ x :: l = (p ++ [x]) ++ l := by simp
   rw [h2] at hn
   exact dupL_true l (p ++ [x]) (List.nodup_append.1 hn).1 h hn
theorem dup_of {l : List ByteArray} (h : l.Nodup) : dup l = false := by
 cases hd : dup l with
 | false => rfl
 | true => exact absurd h (by simpa using dupL_true l [] List.nodup_nil hd)
theorem chkL_ok {gl ps : List ByteArray} : ∀ (l : List Pr), (∀ q ∈ l, ∀ s ∈ preSL q.body, s.id ≠ 0) → (chkL gl ps l).1 = 0 → ∀ q ∈ l, dup (namesP gl q) = false ∧ ∀ s ∈ preSL q.body, badS gl q ps s = false
 | [], _, _, q, hq => by cases hq
 | x :: l, hz, h, q, hq => by
  rw [chkL] at h
  split at h
  ·cases h
  ·rename_i hd
   split at h
   ·rename_i hf
    rcases List.mem_cons.1 hq with rfl | hq
    ·refine ⟨by simpa using hd, fun s hs => ?_⟩
     cases hb : badS gl q ps s with
     | false => rfl
     | true =>
      unfold fstB at hf
      cases hfd : (preSL q.body).find? (badS gl q ps) with
      | none =>
       have := List.find?_eq_none.1 hfd s hs
       rw [hb] at this; exact absurd rfl this
      | some y =>
       rw [hfd, Option.elim_some] at hf
       exact absurd hf (hz q (List.mem_cons_self ..) y (List.mem_of_find?_eq_some hfd))
    ·exact chkL_ok l (fun q hq => hz q (List.mem_cons_of_mem _ hq)) h q hq
   ·cases h
structure ChOk (p : Pg) : Prop where
 may : mayP p = true
 main : mainBad p = false
 glob : p.globals.Nodup
 procs : (p.procs.map Pr.nm).Nodup
 names : ∀ q ∈ p.procs, (namesP p.globals q).Nodup
 stm : ∀ q ∈ p.procs, ∀ s ∈ preSL q.body, badS p.globals q (p.procs.map Pr.nm) s = false
theorem chk_ok {p : Pg} (h : (chkP p).1 = 0) : ChOk p := by
 unfold chkP at h
 split at h
 ·rename_i hm
  split at h
  ·cases h
  ·rename_i hh
   unfold hdBad at hh
   simp only [Bool.or_eq_true, not_or, Bool.not_eq_true] at hh
   have h1 := chkL_ok p.procs (fun q hq s hs => by have := may_ids hm q hq s hs; omega) h
   exact ⟨hm, hh.1.1, dup_nodup hh.1.2, dup_nodup hh.2, fun q hq => dup_nodup (h1 q hq).1, fun q hq => (h1 q hq).2⟩
 ·cases h
end Go.Proofs.Ytnnblklbjbkikaa
namespace Go.Proofs.Ytnnblklbjbkikaa
open Go.ChangeShapes Go.WideShapes Go.ChangeAt Go.RowKit Go.Deep
set_option linter.unusedVariables false
set_option linter.unusedSimpArgs false
theorem AlI.slice {w W wr : World} {Q : Nat → Prop} {out : List It} {X : Option Addr} {n c : Nat} (h : AlI w Q W wr out X n c) : n = out.length ∧ n ≤ c ∧ c ≤ 9223372036854775807 ∧ SliceI wr (fun b => W.heap.size ≤ b ∧ b < wr.heap.size) 16 (ItemI w Q) out (.slice X n c) := by
 obtain ⟨rows, ho, ha⟩ := h.row
 obtain ⟨X', c', he, h1, h2⟩ := own_shape ho
 injection he with e1 e2 e3
 subst e1 e2 e3
 exact ⟨rfl, h1, h2, slice_of_own ho ha (fun x cs h => (item_one h).1)⟩
end Go.Proofs.Ytnnblklbjbkikaa
namespace Go.Proofs.Ytnnblklbjbkikaa
open Go.ChangeShapes Go.WideShapes Go.ChangeAt Go.RowKit Go.Deep
set_option linter.unusedVariables false
set_option linter.unusedSimpArgs false
theorem allL_map : ∀ (l : List Pr) (out : List It), (∀ q ∈ l, (flatOf q).map It.s = preSL q.body) → out.length + cntL l ≤ 200 → (allL l out).map It.s = out.map It.s ++ l.flatMap (fun q => preSL q.body)
 | [], out, _, _ => by rw [allL]; simp
 | q :: l, out, h, hn => by
  have hq := h q (List.mem_cons_self ..)
  have hl : (flatOf q).length = (preSL q.body).length := by rw [← hq, List.length_map]
  rw [cntL] at hn
  rw [allL, if_neg (by rw [List.length_append]; omega), allL_map l _ (fun q hq => h q (List.mem_cons_of_mem _ hq)) (by rw [List.length_append]; omega), List.map_append, hq, List.flatMap_cons, List.append_assoc]
theorem all_map {p : Pg} (h : mayP p = true) : (allOf p).map It.s = p.procs.flatMap (fun q => preSL q.body) := by
 obtain ⟨h1, h2, _⟩ := may_flat h
 have := allL_map p.procs [] (fun q hq => (h1 q hq).1) (by simpa [cntP] using h2)
 simpa [allOf] using this
end Go.Proofs.Ytnnblklbjbkikaa
namespace Go.Proofs.Ytnnblklbjbkikaa
open Go.ChangeShapes Go.WideShapes Go.ChangeAt Go.RowKit Go.Deep
set_option linter.unusedVariables false
set_option linter.unusedSimpArgs false
theorem Mod_fix (n : Int) (k : Nat) (h1 : 1 ≤ k) (h2 : k ≤ 1000000) : ∃ m, m < k ∧ ∀ w : World, Calls Try.prog 16 #[.int .i64 n, .int .i64 k] w fun e w' => e = .returned (.int .i64 m) ∧ w = w' := by
 have hb : n.tmod k < k := Int.tmod_lt_of_pos n (by omega)
 have hb2 : -(k : Int) < n.tmod k := by
  have := Int.tmod_lt_of_pos (-n) (show (0 : Int) < k by omega)
  rw [Int.neg_tmod] at this
  omega
 by_cases hn : n.tmod k < 0
 ·refine ⟨(n.tmod k + k).toNat, by omega, fun w => ?_⟩
  go_enter Try.func16, Try.ntmps16
  go_wp2
  go_ret
  exact ⟨ret_int (by omega), rfl⟩
 ·refine ⟨(n.tmod k).toNat, by omega, fun w => ?_⟩
  go_enter Try.func16, Try.ntmps16
  go_wp2
  go_ret
  exact ⟨ret_int (by omega), rfl⟩
end Go.Proofs.Ytnnblklbjbkikaa
namespace Go.Proofs.Ytnnblklbjbkikaa
open Go.ChangeShapes Go.WideShapes Go.ChangeAt Go.RowKit Go.Deep
set_option linter.unusedVariables false
set_option linter.unusedSimpArgs false
theorem int_info : (Try.prog.info? 3).map (fun i => (i.zero, i.size, i.bytes)) = some (some (.int .i64 0), 1, 8) := by kernel_rfl
def intsV (l : List Int) : List Value := l.map (Value.int .i64)
def idsOf (kind : Int) (l : List It) : List Int := (l.filter (fun x => kind == 0 || x.s.kind == kind)).map (fun x => x.s.id)
theorem idsOf_take {kind : Int} {l : List It} {k : Nat} (h : k < l.length) : idsOf kind (l.take (k + 1)) = idsOf kind (l.take k) ++ if (kind == 0 || l[k].s.kind == kind) = true then [l[k].s.id] else [] := by
 unfold idsOf
 rw [List.take_succ_eq_append_getElem h, List.filter_append, List.map_append]
 congr 1
 rw [List.filter_cons, List.filter_nil]
 split <;> rfl
theorem idsOf_len {kind : Int} {l : List It} {k : Nat} : (idsOf kind (l.take k)).length ≤ k := by
 unfold idsOf
 rw [List.length_map]
 exact Nat.le_trans (List.length_filter_le ..) (by rw [List.length_take]; omega)
theorem new_int (w : World) (n : Int) : ∀ j u, [Value.int .i64 n][j]? = some u → (w.alloc (.cells #[.int .i64 n] 3)).cell? ((⟨w.heap.size, 0, none⟩ : Addr).add j) = some u := by
 intro j u hu
 have hj : j = 0 := by have := (List.getElem?_eq_some_iff.1 hu).1; simp at this; exact this
 subst hj
 simp at hu
 subst hu
 simp [Addr.add]
structure IdI (V wr : World) (l : List Int) (X : Option Addr) (n c : Nat) : Prop where
 row : wr.ownsRow V.heap.size 3 1 (.slice X n c) n (intsV l)
 len : n = l.length
 below : Below V.heap.size V wr
def NewInts (l : List Int) (w : World) (e : Ending) (w' : World) : Prop := ∃ v, e = .returned v ∧ w'.ownsRow w.heap.size 3 1 v l.length (intsV l) ∧ Below w.heap.size w w'
set_option maxHeartbeats 8000000 in
set_option maxRecDepth 100000 in
theorem Ids_any {w : World} {Q : Nat → Prop} {p : Pg} {c0 c1 : Value} (h : ProgI w Q p [c0, c1]) (kd : Int) (hkd : i64 kd) (W : World) (hI : In Q w W) :
 Calls Try.prog 29 #[.agg #[c0, c1], .int .i64 kd] W (NewInts (idsOf kd (allOf p)) W) := by
 have HAl := Lib.hid (fun V hV => All_any (W := V) h hV)
 obtain ⟨Ag, cg, Ap, cp, rfl, rfl, _⟩ := prog_open h
 have HI := Lib.hid hI
 have HLn : Hid ((allOf p).length ≤ 401) := Lib.hid (allL_len p.procs [] (by simp))
 obtain ⟨i0, hi0, hz0, hz1, hz2⟩ := info_parts int_info
 unfold i64 at hkd
 clear h hI
 generalize allOf p = its at HAl HLn ⊢
 go_enter Try.func29, Try.ntmps29
 go_upto_region 1 with fail
 have HB0 : Hid (Below W.heap.size W (W.alloc (.cells #[.slice Ag p.globals.length cg, .slice Ap p.procs.length cp] 25))) := Lib.hid (below_box _)
 have HBp : Hid (Blk (W.alloc (.cells #[.slice Ag p.globals.length cg, .slice Ap p.procs.length cp] 25)) W.heap.size 25 #[.slice Ag p.globals.length cg, .slice Ap p.procs.length cp]) := Lib.hid (Blk.new _ _ _)
 generalize World.alloc _ _ = V at HB0 HBp ⊢
 have HI0 := Lib.hid (HI.out.on HB0.out)
 generalize hbe : W.heap.size = b at HBp ⊢
 clear hbe
 have q0 : V.cell? ⟨b, 0, none⟩ = some (.slice Ag p.globals.length cg) := by rw [HBp.out.cell]; rfl
 have q1 : V.cell? ⟨b, 1, none⟩ = some (.slice Ap p.procs.length cp) := by rw [HBp.out.cell]; rfl
 go_upto_region 3 with (go_at_call 20; refine (HAl.out V HI0.out).mono ?_; rintro e w1 ⟨X1, n1, k1, rfl, hal⟩; obtain ⟨rfl, hn1, hk1, hsl⟩ := hal.slice)
 have HSl := Lib.hid hsl
 have HB1 := Lib.hid (below_step HB0.out hal.below)
 have HI1 := Lib.hid hal.inn
 have HIl : Hid (In (fun b => V.heap.size ≤ b ∧ b < w1.heap.size) w1 w1) := Lib.hid ⟨fun b h => h.2, fun _ _ => rfl⟩
 clear q0 q1 hal hsl HB0 HBp HI0 HAl
 generalize (fun b => V.heap.size ≤ b ∧ b < w1.heap.size) = T0 at HSl HIl
 have hll : its.length ≤ 401 := HLn.out
 have HS0 : Hid (IdI w1 w1 (idsOf kd (its.take 0)) none 0 0) := Lib.hid ⟨World.ownsRow_nil _ _ _ _, rfl, Below.refl _ _⟩
 go_loopg [5, 11] its.length (fun kk ov iv wr => ∃ (k : Nat) (Xr : Option Addr) (n c : Nat), k + kk = its.length ∧ iv = .int .i64 k ∧ ov = .slice Xr n c ∧ n ≤ 401 ∧ Hid (IdI w1 wr (idsOf kd (its.take k)) Xr n c))
 case atStart => exact ⟨0, none, 0, 0, by omega, rfl, rfl, by omega, HS0⟩
 case round =>
  clear HS0
  obtain ⟨k, Xr, n, c, hk, rfl, rfl, hn4, HR⟩ := hrel
  have HIr := Lib.hid (HI1.out.on HR.out.below)
  by_cases hlt : k < its.length
  ·obtain ⟨a2, id, kind, labels, nm, proc, x, has, args, th, el, L, lc, y0, y1, y2, X, xn, xc, R, rc, T, tc, U, uc, dp, inn, els, rfl, hq2, hmk, hrow2, hid, hkind, hst⟩ := item_at HSl.out (HIl.out.on HR.out.below) hlt
   have HT := Lib.hid (idsOf_take (kind := kd) hlt)
   rw [hmk] at HT
   have HLe : Hid (n = (idsOf kd (its.take k)).length ∧ n ≤ k) := Lib.hid ⟨HR.out.len, by rw [HR.out.len]; exact idsOf_len⟩
   generalize idsOf kd (its.take k) = pre at HR HT HLe
   have hkb := hkind
   unfold i64 at hkb
   obtain ⟨bb, hbb⟩ : ∃ bb, bb = (kd == 0 || kind == kd) := ⟨_, rfl⟩
   have HT2 : Hid (idsOf kd (its.take (k + 1)) = pre ++ if bb = true then [id] else []) := Lib.hid (by rw [hbb]; exact HT.out)
   have Hbb := Lib.hid hbb
   obtain ⟨p0, p1, p2, p3, p4, p5, p6, p7, p8, p9, p10, p11, p12, p13, p14, p15, _⟩ := hrow2
   clear hbb HT hmk hst hid hkind hq2
   go_upto_region 5 with fail
   have HBi : Hid (Blk (wr.alloc (.cells #[.int .i64 id, .int .i64 kind, .slice L labels.length lc, .string nm, .string proc, .int .i64 y0, .int .i64 y1, .string y2, .slice X xn xc, .bool has, .slice R args.length rc, .slice T th.length tc, .slice U el.length uc, .int .i64 dp, .int .i64 inn, .bool els] 81)) wr.heap.size 81 #[.int .i64 id, .int .i64 kind, .slice L labels.length lc, .string nm, .string proc, .int .i64 y0, .int .i64 y1, .string y2, .slice X xn xc, .bool has, .slice R args.length rc, .slice T th.length tc, .slice U el.length uc, .int .i64 dp, .int .i64 inn, .bool els]) := Lib.hid (Blk.new _ _ _)
   have HO4 : Hid ((wr.alloc (.cells #[.int .i64 id, .int .i64 kind, .slice L labels.length lc, .string nm, .string proc, .int .i64 y0, .int .i64 y1, .string y2, .slice X xn xc, .bool has, .slice R args.length rc, .slice T th.length tc, .slice U el.length uc, .int .i64 dp, .int .i64 inn, .bool els] 81)).ownsRow w1.heap.size 3 1 (.slice Xr n c) n (intsV pre)) := Lib.hid (HR.out.row.alloc _)
   have HB4 : Hid (Below w1.heap.size w1 (wr.alloc (.cells #[.int .i64 id, .int .i64 kind, .slice L labels.length lc, .string nm, .string proc, .int .i64 y0, .int .i64 y1, .string y2, .slice X xn xc, .bool has, .slice R args.length rc, .slice T th.length tc, .slice U el.length uc, .int .i64 dp, .int .i64 inn, .bool els] 81))) := Lib.hid (below_stepA HR.out.below _)
   clear p0 p1 p2 p3 p4 p5 p6 p7 p8 p9 p10 p11 p12 p13 p14 p15 HIr HR
   generalize World.alloc wr _ = V4 at HBi HB4 HO4 ⊢
   generalize wr.heap.size = bi at HBi ⊢
   have s0 : V4.cell? ⟨bi, 0, none⟩ = some (.int .i64 id) := by rw [HBi.out.cell]; rfl
   have s1 : V4.cell? ⟨bi, 1, none⟩ = some (.int .i64 kind) := by rw [HBi.out.cell]; rfl
   have hnk : n ≤ 400 := by have := HLe.out.2; omega
   go_cut [23] from 15 to 22 (fun s wx => s = .bool bb ∧ wx = V4)
   case first =>
    by_cases hk0 : kd = 0
    ·subst hk0
     have H2 : Hid (bb = true) := Lib.hid (by rw [Hbb.out]; rfl)
     go_wp2_with fail
     go_meet
     exact ⟨by rw [H2.out], rfl⟩
    ·have hk1 : (kd == 0) = false := beq_eq_false_iff_ne.2 hk0
     have H2 : Hid (bb = (kind == kd)) := Lib.hid (by rw [Hbb.out, hk1]; rfl)
     clear hk0
     go_wp2_with fail
     go_meet
     exact ⟨by rw [H2.out]; try rfl, rfl⟩
   case rest =>
    obtain ⟨rfl, hw⟩ := hcut
    replace hw := hw.symm
    subst hw
    cases bb with
    | true =>
     have HW := Lib.hid (new_int V4 id)
     have HO5 : Hid ((V4.alloc (.cells #[.int .i64 id] 3)).ownsRow w1.heap.size 3 1 (.slice Xr n c) n (intsV pre)) := Lib.hid (HO4.out.alloc _)
     have HB5 : Hid (Below w1.heap.size w1 (V4.alloc (.cells #[.int .i64 id] 3))) := Lib.hid (below_stepA HB4.out _)
     go_wp2_with (at_builtin; refine wpList_append_own_at _ rfl (.tmp 24) (.tmp 28) 49 rfl w1.heap.size 3 i0 _ 1 8 Try.underlying49 hi0 hz0 hz1 hz2 rfl (by decide) _ n (intsV pre) rfl HO5.out ⟨V4.heap.size, 0, none⟩ 1 1 [.int .i64 id] rfl rfl HW.out (by simp [Value.oneCell']) (by unfold maxLen; omega) (by omega) HB5.out.size ?_; intro v6 w6 hown6 hg6 _ hat6; obtain ⟨X6, k6, rfl, _, _⟩ := own_shape hown6; have HO6 := Lib.hid hown6; have HG6 := Lib.hid hg6; clear hown6 hg6 hat6)
     have HS : Hid (IdI w1 w6 (idsOf kd (its.take (k + 1))) X6 (n + 1) k6) := Lib.hid ⟨by rw [HT2.out]; show World.ownsRow _ _ _ _ _ _ (intsV (pre ++ [id])); unfold intsV; rw [List.map_append]; exact HO6.out, by rw [HT2.out]; show _ = (pre ++ [id]).length; rw [List.length_append, ← HLe.out.1]; rfl, HB5.out.grown HG6.out HB5.out.size (fun j hj => (HO5.out.lt j hj).1)⟩
     go_roundg (its.length - k - 1)
     case measure => omega
     case rel => exact ⟨k + 1, X6, _, k6, by omega, by go_num, rfl, by omega, HS⟩
    | false =>
     have HS : Hid (IdI w1 V4 (idsOf kd (its.take (k + 1))) Xr n c) := Lib.hid ⟨by rw [HT2.out]; show World.ownsRow _ _ _ _ _ _ (intsV (pre ++ [])); rw [List.append_nil]; exact HO4.out, by rw [HT2.out]; show _ = (pre ++ []).length; rw [List.append_nil]; exact HLe.out.1, HB4.out⟩
     go_wp2_with fail
     go_roundg (its.length - k - 1)
     case measure => omega
     case rel => exact ⟨k + 1, Xr, _, c, by omega, by go_num, rfl, by omega, HS⟩
  ·have hke : k = its.length := by omega
   subst hke
   go_wp2_with fail
   go_ret
   refine ⟨_, rfl, own_lower ?_ HB1.out.size, below_step HB1.out HR.out.below⟩
   have h1 := HR.out.row
   have h2 := HR.out.len
   rw [List.take_length] at h1 h2
   rw [h2] at h1 ⊢
   exact h1
theorem Pick_any {w W : World} {base c : Nat} {X : Option Addr} {l : List Int} (h : w.ownsRow base 3 1 (.slice X l.length c) l.length (intsV l)) (hl : l.length ≤ 1000) (hlb : ∀ i ∈ l, i64 i) (n : Int) (hb : Below w.heap.size w W) :
 Calls Try.prog 30 #[.slice X l.length c, .int .i64 n] W fun e w' => ∃ i : Int, (l = [] ∧ i = 0 ∨ i ∈ l) ∧ e = .returned (.int .i64 i) ∧ W = w' := by
 by_cases h0 : l.length = 0
 ·have hnil : l = [] := List.eq_nil_of_length_eq_zero h0
  have HN := Lib.hid hnil
  obtain ⟨len, hlen⟩ : ∃ len, len = l.length := ⟨_, rfl⟩
  rw [← hlen] at h0 ⊢
  subst h0
  clear h hl hlb hnil hlen
  go_enter Try.func30, Try.ntmps30
  go_wp2_with fail
  go_ret
  exact ⟨0, .inl ⟨HN.out, rfl⟩, rfl, rfl⟩
 ·obtain ⟨m, hm, hM⟩ := Mod_fix n l.length (by omega) (by omega)
  have HM := Lib.hid hM
  obtain ⟨a, cap, he, hc, _, _⟩ := own_at h hm
  injection he with h1 _ h3
  subst h1 h3
  have hcell := hc (.int .i64 l[m]) (by simp [intsV, List.getElem?_map, List.getElem?_eq_getElem hm])
  have hlt : (a.add m).block < w.heap.size := World.block_lt_of_cell? w _ hcell
  have p0 : W.cell? (a.add m) = some (.int .i64 l[m]) := (hb.cell hlt).trans hcell
  have hmem := List.getElem_mem hm
  have HMem := Lib.hid hmem
  have hb0 : (((l.length : Nat) : Int) == 0) = false := beq_eq_false_iff_ne.2 (by omega)
  clear h hl hlb hM hc hcell hlt hb hmem
  generalize l[m] = x at p0 HMem
  go_enter Try.func30, Try.ntmps30
  go_wp2_with (go_at_call 16; refine (HM.out _).mono ?_; rintro e w' ⟨rfl, rfl⟩)
  go_ret
  exact ⟨x, .inr HMem.out, rfl, rfl⟩
end Go.Proofs.Ytnnblklbjbkikaa
