/- Texts, merged by a program; only what is used. -/
import Derived.Test.YtcocilpifdjibaaK1
import Derived.Test.YtcocilpifdjibaaK2
import Derived.Test.YtcocilpifdjibaaK3
import Derived.Test.YtcocilpifdjibaaK4
import Derived.Test.YtcocilpifdjibaaK5
import Derived.Test.YtcocilpifdjibaaK6
import Derived.Test.YtcocilpifdjibaaK7
import Derived.Test.YtcocilpifdjibaaK8
import Derived.Test.YtcocilpifdjibaaK9
import Derived.Test.YtcocilpifdjibaaK10
import Derived.Test.YtcocilpifdjibaaK25
import Derived.Test.YtcocilpifdjibaaK26
import Derived.Test.YtcocilpifdjibaaK27
namespace Go.Proofs.Ytcocilpifdjibaa.U
open Go.ChangeShapes Go.WideShapes Go.ChangeAt Go.RowKit Go.Deep
set_option linter.unusedVariables false
theorem RowS'.start {w W : World} {Q : Nat → Prop} {l : List S} {A : Option Addr} {cap M M' : Nat} (h : RowS' w Q l A cap M M' W) (hl : l.length ≤ 1000000) (hM : M' ≤ W.heap.size) :
    ∃ hs T, pushS [] A l.length cap = hs.map slH ∧ CopyS w Q M (fun V => StmtsI V (nb M V) l (.slice A l.length cap)) W hs T ∧ szHS hs = sizSL l ∧ (∀ b, T b → b < M') ∧ (0 < l.length → A ≠ none) := by
  obtain ⟨new, e1, z1, r1, d1, a1, f1⟩ := row_holes h hl
  exact ⟨new, fun k => M ≤ k ∧ k < M', by rw [e1, List.append_nil], ⟨fun b hb => ⟨hb.1, by omega⟩, fun k hk => ⟨⟨(r1 k hk).1, (r1 k hk).2.1⟩, (r1 k hk).2.2⟩, d1, fun V _ _ hu hd => f1 V M (Nat.le_refl _) (fun b h1 h2 h3 => hu b ⟨h1, h2⟩ h3) hd⟩, z1, fun b hb => hb.2, a1⟩
abbrev NN (B : Nat) (y : World) : Nat → Prop := fun k => B ≤ k ∧ Unf y k
theorem nn_mono {B : Nat} {y y' : World} (h : ∀ k, Unf y k → Unf y' k) : ∀ k, NN B y k → NN B y' k := fun k hk => ⟨hk.1, h k hk.2⟩
set_option maxHeartbeats 4000000 in
theorem cloneStmts_any {w W : World} {Q : Nat → Prop} {l : List S} {v : Value} (h : StmtsI w Q l v) (hI : In Q w W) (hw : wSL l ≤ 1000000) :
    Calls Try.prog 122 #[v] W fun e w' => ∃ v', e = .returned v' ∧ Below W.heap.size W w' ∧ StmtsI w' (nw W w') l v' := by
  obtain ⟨A, cap, rfl, _, _⟩ := h.shape
  have hlen : l.length ≤ 1000000 := Nat.le_trans (wSL_len l) hw
  have hszl : sizSL l ≤ 1000000 := Nat.le_trans (sizSL_w l) hw
  have HF := Lib.hid (freshS_v h hI hw)
  have HI := Lib.hid hI
  clear h hI
  go_enter Try.func122, Try.ntmps122
  go_wp2_with fail
  refine HF.out.mono ?_
  rintro e w1 ⟨A', cap', rfl, hr, hb1⟩
  obtain ⟨_, _, _, _, _, _, hA0⟩ := hr.start hlen (Nat.le_refl _)
  have HMK := Lib.hid (makeS_any A' l.length cap' w1 hA0 hr.1.1 hr.1.2)
  have HR := Lib.hid hr
  have HB1 := Lib.hid hb1
  clear hr hb1 HF hA0
  go_wp2_with fail
  refine HMK.out.mono ?_
  rintro e w2 ⟨v2, rfl, hc2, hb2, hj2⟩
  obtain ⟨hs, T, e1, hcp, hsh, hT, _⟩ := U.RowS'.start (HR.out.on (W' := w2) (fun k _ hk => hb2.block k hk)) hlen hb2.size
  rw [e1] at hc2
  have HN1 := Lib.hid (nextCS_first hc2 hcp (fun b hb ho => by have := hT b hb; rcases ho with rfl | ho; omega; have := hj2 b ho; omega) (Nat.le_refl _) hb2.size (by omega))
  rw [hsh] at HN1
  have HB2 : Hid (Below W.heap.size W w2) := Lib.hid (below_step HB1.out hb2)
  have hmx : W.heap.size ≤ w1.heap.size := HB1.out.size
  clear hc2 hcp hj2 hT e1 hsh hb2 HMK
  obtain ⟨c, hc⟩ : ∃ c, c = w1.heap.size := ⟨_, rfl⟩
  rw [← hc] at HN1 hmx ⊢
  clear hc
  go_wp2_with fail
  refine HN1.out.mono ?_
  rintro e w3 ⟨p, rfl, hat, hb3⟩
  have HA3 := Lib.hid hat
  have HB3 : Hid (Below W.heap.size W w3) := Lib.hid (HB2.out.trans (hb3.mono hmx))
  clear hat hb3 HN1
  go_wp2_with fail
  go_loopg [5] (sizSL l) (fun kk u5 wr => ∃ p, u5 = .pointer p ∧ kk ≤ 1000000 ∧ Hid (AtCS w Q W.heap.size c c (fun V => StmtsI V (nb W.heap.size V) l (.slice A' l.length cap')) wr p kk) ∧ Hid (Below W.heap.size W wr))
  case atStart => exact ⟨p, rfl, hszl, HA3, HB3⟩
  case round =>
    clear HA3 HB3 HB2 HB1 HR
    obtain ⟨p, rfl, hkk, HA, HBr⟩ := hrel
    obtain ⟨v, hs, T, hc, hd, hor⟩ := HA.out
    have HIr := Lib.hid (HI.out.on HBr.out)
    rcases hor with ⟨rfl, rfl, hcp, rfl⟩ | ⟨b, o, t, rfl, hcp, rfl⟩
    · have HG := Lib.hid hcp.end_
      clear hc hd hcp
      go_wp2_with fail
      go_ret
      exact ⟨_, rfl, HBr.out, HG.out⟩
    · obtain ⟨hTb, ⟨bt, bc, hBk⟩, hraw⟩ := hcp.raw _ (List.mem_cons_self ..)
      obtain ⟨cs, ⟨hx, hwx⟩, hcell⟩ := hraw 0 (by simp)
      simp only [List.getElem_cons_zero] at hx hwx
      obtain ⟨id, kind, labels, nm, proc, ex, has, args, th, el, L, lc, x0, x1, x2, X, xn, xc, R, rc, Tt, tc, U, uc, rfl, rfl, hid, hkind, hnm, hproc, hl, hxx, ha, hth, hel⟩ := stmt_open hx
      have hws : wT labels ≤ 1000000 ∧ nm.size ≤ 281474976710656 ∧ proc.size ≤ 281474976710656 ∧ wE ex ≤ 1000000 ∧ wAr args ≤ 1000000 ∧ wSL th ≤ 1000000 ∧ wSL el ≤ 1000000 := by rw [wS] at hwx; omega
      have N0 := NodeW.start (o := o) hBk rfl hcell
      have HLa := Lib.hid (fun V hV => cloneNames_any (W := V) hl hV (smT_of hws.1))
      have HNm := Lib.hid (fun V => Clone_any nm V hws.2.1)
      have HPr := Lib.hid (fun V => Clone_any proc V hws.2.2.1)
      have HEx := Lib.hid (fun V hV => cloneExpr_any (W := V) hxx hV hws.2.2.2.1)
      have HAr := Lib.hid (fun V hV => cloneArgs_any (W := V) ha hV hws.2.2.2.2.1)
      have HTh := Lib.hid (fun V hV => freshS_v (W := V) hth hV hws.2.2.2.2.2.1)
      have HEl := Lib.hid (fun V hV => freshS_v (W := V) hel hV hws.2.2.2.2.2.2)
      have hVb := (hcp.tb b hTb).1
      have hbl := hBk.lt
      have HQ : Hid (¬ Q b) := Lib.hid (fun hq => by have := HI.out.1 b hq; omega)
      have HFl := Lib.hid (fun w4 M M2 M3 (K : Nat → Prop) (vl va y0 y1 y2 y3 : Value) A1 A2 cap1 cap2 => fillS (w4 := w4) (K := K) (M := M) (M2 := M2) (M3 := M3) (vl := vl) (va := va) (x0 := y0) (x1 := y1) (x2 := y2) (x3 := y3) (A1 := A1) (A2 := A2) (cap1 := cap1) (cap2 := cap2) hcp HBr.out.size hid hkind hnm hproc hwx)
      have HC := Lib.hid hc
      have HD := Lib.hid hd
      have HTb := Lib.hid hTb
      have HN0 := Lib.hid N0
      have p2 := N0.at_ 2 _ rfl
      have hw0 : wr.heap.size ≤ wr.heap.size := Nat.le_refl _
      rw [sizS] at hkk
      clear hx hwx hraw hid hkind hnm hproc hcell hBk hc hd hcp hTb hl hxx ha hth hel hws N0
      go_wp2_with fail
      refine (HLa.out _ HIr.out).mono ?_
      rintro e q1 ⟨v1, rfl, hb1, hl1⟩
      obtain ⟨L1, lc1, rfl, _, _⟩ := hl1.shape
      have n1 := HN0.out.below hb1
      have c1_0 := n1.at_ 2 _ rfl
      have f1_0 := n1.frozen 2
      have d1_3 := n1.at_ 3 _ rfl
      have HN_1 : Hid (NodeW wr (World.setCell q1 ⟨b, o + 2, none⟩ (.slice L1 labels.length lc1)) b o [.int .i64 id, .int .i64 kind, .slice L1 labels.length lc1, .string nm, .string proc, .int .i64 x0, .int .i64 x1, .string x2, .slice X xn xc, .bool has, .slice R args.length rc, .slice Tt th.length tc, .slice U el.length uc]) := Lib.hid (n1.set (show 2 < 13 by omega) (.slice L1 labels.length lc1))
      have hcl1 : ∀ p : Addr, (wr.heap.size ≤ p.block ∧ p.block < q1.heap.size) → (World.setCell q1 ⟨b, o + 2, none⟩ (.slice L1 labels.length lc1)).cell? p = q1.cell? p := fun p hp => by
        have hne : ∀ j, p ≠ ⟨b, j, none⟩ := fun j e => by have := hp.1; rw [e] at this; simp at this; omega
        rw [cell_set_ne _ (hne _)]
      have hz1 : q1.heap.size = (World.setCell q1 ⟨b, o + 2, none⟩ (.slice L1 labels.length lc1)).heap.size := by simp only [size_set]
      have hy1 : wr.heap.size ≤ (World.setCell q1 ⟨b, o + 2, none⟩ (.slice L1 labels.length lc1)).heap.size := by rw [← hz1]; exact hb1.size
      have hu1 : ∀ k, Unf wr k → Unf (World.setCell q1 ⟨b, o + 2, none⟩ (.slice L1 labels.length lc1)) k := fun k hk => (hk.on hb1).set_ _ _
      have hcy1 : ∀ p : Addr, (wr.heap.size ≤ p.block ∧ p.block < wr.heap.size) → (World.setCell q1 ⟨b, o + 2, none⟩ (.slice L1 labels.length lc1)).cell? p = wr.cell? p := fun p hp => (hcl1 p ⟨hp.1, Nat.lt_of_lt_of_le hp.2 hb1.size⟩).trans (hb1.cell hp.2)
      have HI_1 : Hid (In Q w (World.setCell q1 ⟨b, o + 2, none⟩ (.slice L1 labels.length lc1))) := Lib.hid ((HIr.out.on hb1).setCell (a := ⟨b, o + 2, none⟩) HQ.out (.slice L1 labels.length lc1))
      have RL_1 : Hid (TextsI (World.setCell q1 ⟨b, o + 2, none⟩ (.slice L1 labels.length lc1)) (NN wr.heap.size (World.setCell q1 ⟨b, o + 2, none⟩ (.slice L1 labels.length lc1))) labels (.slice L1 labels.length lc1)) := Lib.hid (hl1.keep (fun k hk => ⟨Nat.le_trans hw0 hk.1, hk.2.set_ _ _⟩) (fun p hp => hcl1 p ⟨Nat.le_trans hw0 hp.1, hp.2.lt⟩) fun _ _ _ h => h)
      have hw1 : wr.heap.size ≤ (World.setCell q1 ⟨b, o + 2, none⟩ (.slice L1 labels.length lc1)).heap.size := hy1
      clear hcl1 hcy1 hz1 hb1 n1 hl1
      go_wp2_with fail
      obtain ⟨y1, hey1⟩ : ∃ y, y = (World.setCell q1 ⟨b, o + 2, none⟩ (.slice L1 labels.length lc1)) := ⟨_, rfl⟩
      rw [← hey1] at HN_1 HI_1 hy1 hw1 hu1 RL_1 ⊢
      clear hey1 c1_0 f1_0
      clear d1_3
      refine (HNm.out _).mono ?_
      rintro e q2 ⟨rfl, hb2⟩
      have n2 := HN_1.out.below hb2
      have c2_0 := n2.at_ 3 _ rfl
      have f2_0 := n2.frozen 3
      have d2_4 := n2.at_ 4 _ rfl
      have HN_2 : Hid (NodeW wr (World.setCell q2 ⟨b, o + 3, none⟩ (.string nm)) b o [.int .i64 id, .int .i64 kind, .slice L1 labels.length lc1, .string nm, .string proc, .int .i64 x0, .int .i64 x1, .string x2, .slice X xn xc, .bool has, .slice R args.length rc, .slice Tt th.length tc, .slice U el.length uc]) := Lib.hid (n2.set (show 3 < 13 by omega) (.string nm))
      have hcl2 : ∀ p : Addr, (wr.heap.size ≤ p.block ∧ p.block < q2.heap.size) → (World.setCell q2 ⟨b, o + 3, none⟩ (.string nm)).cell? p = q2.cell? p := fun p hp => by
        have hne : ∀ j, p ≠ ⟨b, j, none⟩ := fun j e => by have := hp.1; rw [e] at this; simp at this; omega
        rw [cell_set_ne _ (hne _)]
      have hz2 : q2.heap.size = (World.setCell q2 ⟨b, o + 3, none⟩ (.string nm)).heap.size := by simp only [size_set]
      have hy2 : y1.heap.size ≤ (World.setCell q2 ⟨b, o + 3, none⟩ (.string nm)).heap.size := by rw [← hz2]; exact hb2.size
      have hu2 : ∀ k, Unf y1 k → Unf (World.setCell q2 ⟨b, o + 3, none⟩ (.string nm)) k := fun k hk => (hk.on hb2).set_ _ _
      have hcy2 : ∀ p : Addr, (wr.heap.size ≤ p.block ∧ p.block < y1.heap.size) → (World.setCell q2 ⟨b, o + 3, none⟩ (.string nm)).cell? p = y1.cell? p := fun p hp => (hcl2 p ⟨hp.1, Nat.lt_of_lt_of_le hp.2 hb2.size⟩).trans (hb2.cell hp.2)
      have HI_2 : Hid (In Q w (World.setCell q2 ⟨b, o + 3, none⟩ (.string nm))) := Lib.hid ((HI_1.out.on hb2).setCell (a := ⟨b, o + 3, none⟩) HQ.out (.string nm))
      have RL_2 : Hid (TextsI (World.setCell q2 ⟨b, o + 3, none⟩ (.string nm)) (NN wr.heap.size (World.setCell q2 ⟨b, o + 3, none⟩ (.string nm))) labels (.slice L1 labels.length lc1)) := Lib.hid (RL_1.out.keep (nn_mono hu2) (fun p hp => hcy2 p ⟨hp.1, hp.2.lt⟩) fun _ _ _ h => h)
      have hw2 : wr.heap.size ≤ (World.setCell q2 ⟨b, o + 3, none⟩ (.string nm)).heap.size := Nat.le_trans hw1 hy2
      clear hcl2 hcy2 hz2 hb2 n2
      go_wp2_with fail
      obtain ⟨y2, hey2⟩ : ∃ y, y = (World.setCell q2 ⟨b, o + 3, none⟩ (.string nm)) := ⟨_, rfl⟩
      rw [← hey2] at HN_2 HI_2 hy2 hw2 hu2 RL_2 ⊢
      clear hey2 c2_0 f2_0
      clear d2_4
      refine (HPr.out _).mono ?_
      rintro e q3 ⟨rfl, hb3⟩
      have n3 := HN_2.out.below hb3
      have c3_0 := n3.at_ 4 _ rfl
      have f3_0 := n3.frozen 4
      have d3_5 := n3.at_ 5 _ rfl
      have d3_6 := n3.at_ 6 _ rfl
      have d3_7 := n3.at_ 7 _ rfl
      have d3_8 := n3.at_ 8 _ rfl
      have HN_3 : Hid (NodeW wr (World.setCell q3 ⟨b, o + 4, none⟩ (.string proc)) b o [.int .i64 id, .int .i64 kind, .slice L1 labels.length lc1, .string nm, .string proc, .int .i64 x0, .int .i64 x1, .string x2, .slice X xn xc, .bool has, .slice R args.length rc, .slice Tt th.length tc, .slice U el.length uc]) := Lib.hid (n3.set (show 4 < 13 by omega) (.string proc))
      have hcl3 : ∀ p : Addr, (wr.heap.size ≤ p.block ∧ p.block < q3.heap.size) → (World.setCell q3 ⟨b, o + 4, none⟩ (.string proc)).cell? p = q3.cell? p := fun p hp => by
        have hne : ∀ j, p ≠ ⟨b, j, none⟩ := fun j e => by have := hp.1; rw [e] at this; simp at this; omega
        rw [cell_set_ne _ (hne _)]
      have hz3 : q3.heap.size = (World.setCell q3 ⟨b, o + 4, none⟩ (.string proc)).heap.size := by simp only [size_set]
      have hy3 : y2.heap.size ≤ (World.setCell q3 ⟨b, o + 4, none⟩ (.string proc)).heap.size := by rw [← hz3]; exact hb3.size
      have hu3 : ∀ k, Unf y2 k → Unf (World.setCell q3 ⟨b, o + 4, none⟩ (.string proc)) k := fun k hk => (hk.on hb3).set_ _ _
      have hcy3 : ∀ p : Addr, (wr.heap.size ≤ p.block ∧ p.block < y2.heap.size) → (World.setCell q3 ⟨b, o + 4, none⟩ (.string proc)).cell? p = y2.cell? p := fun p hp => (hcl3 p ⟨hp.1, Nat.lt_of_lt_of_le hp.2 hb3.size⟩).trans (hb3.cell hp.2)
      have HI_3 : Hid (In Q w (World.setCell q3 ⟨b, o + 4, none⟩ (.string proc))) := Lib.hid ((HI_2.out.on hb3).setCell (a := ⟨b, o + 4, none⟩) HQ.out (.string proc))
      have RL_3 : Hid (TextsI (World.setCell q3 ⟨b, o + 4, none⟩ (.string proc)) (NN wr.heap.size (World.setCell q3 ⟨b, o + 4, none⟩ (.string proc))) labels (.slice L1 labels.length lc1)) := Lib.hid (RL_2.out.keep (nn_mono hu3) (fun p hp => hcy3 p ⟨hp.1, hp.2.lt⟩) fun _ _ _ h => h)
      have hw3 : wr.heap.size ≤ (World.setCell q3 ⟨b, o + 4, none⟩ (.string proc)).heap.size := Nat.le_trans hw2 hy3
      clear hcl3 hcy3 hz3 hb3 n3
      go_wp2_with fail
      obtain ⟨y3, hey3⟩ : ∃ y, y = (World.setCell q3 ⟨b, o + 4, none⟩ (.string proc)) := ⟨_, rfl⟩
      rw [← hey3] at HN_3 HI_3 hy3 hw3 hu3 RL_3 ⊢
      clear hey3 c3_0 f3_0
      clear d3_5 d3_6 d3_7 d3_8
      refine (HEx.out _ HI_3.out).mono ?_
      rintro e q4 ⟨v0, v1, v2, v3, rfl, hb4, hx4⟩
      obtain ⟨z0, z1, z2, Z, zn, zc, hze⟩ := hx4.form
      simp only [List.cons.injEq, and_true] at hze
      obtain ⟨rfl, rfl, rfl, rfl⟩ := hze
      have n4 := HN_3.out.below hb4
      have c4_0 := n4.at_ 5 _ rfl
      have f4_0 := n4.frozen 5
      have c4_1 := n4.at_ 6 _ rfl
      have f4_1 := n4.frozen 6
      have c4_2 := n4.at_ 7 _ rfl
      have f4_2 := n4.frozen 7
      have c4_3 := n4.at_ 8 _ rfl
      have f4_3 := n4.frozen 8
      have d4_10 := n4.at_ 10 _ rfl
      have HN_4 : Hid (NodeW wr (World.setCell (World.setCell (World.setCell (World.setCell q4 ⟨b, o + 5, none⟩ (.int .i64 z0)) ⟨b, o + 5 + 1, none⟩ (.int .i64 z1)) ⟨b, o + 5 + 2, none⟩ (.string z2)) ⟨b, o + 5 + 3, none⟩ (.slice Z zn zc)) b o [.int .i64 id, .int .i64 kind, .slice L1 labels.length lc1, .string nm, .string proc, .int .i64 z0, .int .i64 z1, .string z2, .slice Z zn zc, .bool has, .slice R args.length rc, .slice Tt th.length tc, .slice U el.length uc]) := Lib.hid ((((n4.set (show 5 < 13 by omega) (.int .i64 z0)).set (show 6 < 13 by omega) (.int .i64 z1)).set (show 7 < 13 by omega) (.string z2)).set (show 8 < 13 by omega) (.slice Z zn zc))
      have hcl4 : ∀ p : Addr, (wr.heap.size ≤ p.block ∧ p.block < q4.heap.size) → (World.setCell (World.setCell (World.setCell (World.setCell q4 ⟨b, o + 5, none⟩ (.int .i64 z0)) ⟨b, o + 5 + 1, none⟩ (.int .i64 z1)) ⟨b, o + 5 + 2, none⟩ (.string z2)) ⟨b, o + 5 + 3, none⟩ (.slice Z zn zc)).cell? p = q4.cell? p := fun p hp => by
        have hne : ∀ j, p ≠ ⟨b, j, none⟩ := fun j e => by have := hp.1; rw [e] at this; simp at this; omega
        rw [cell_set_ne _ (hne _), cell_set_ne _ (hne _), cell_set_ne _ (hne _), cell_set_ne _ (hne _)]
      have hz4 : q4.heap.size = (World.setCell (World.setCell (World.setCell (World.setCell q4 ⟨b, o + 5, none⟩ (.int .i64 z0)) ⟨b, o + 5 + 1, none⟩ (.int .i64 z1)) ⟨b, o + 5 + 2, none⟩ (.string z2)) ⟨b, o + 5 + 3, none⟩ (.slice Z zn zc)).heap.size := by simp only [size_set]
      have hy4 : y3.heap.size ≤ (World.setCell (World.setCell (World.setCell (World.setCell q4 ⟨b, o + 5, none⟩ (.int .i64 z0)) ⟨b, o + 5 + 1, none⟩ (.int .i64 z1)) ⟨b, o + 5 + 2, none⟩ (.string z2)) ⟨b, o + 5 + 3, none⟩ (.slice Z zn zc)).heap.size := by rw [← hz4]; exact hb4.size
      have hu4 : ∀ k, Unf y3 k → Unf (World.setCell (World.setCell (World.setCell (World.setCell q4 ⟨b, o + 5, none⟩ (.int .i64 z0)) ⟨b, o + 5 + 1, none⟩ (.int .i64 z1)) ⟨b, o + 5 + 2, none⟩ (.string z2)) ⟨b, o + 5 + 3, none⟩ (.slice Z zn zc)) k := fun k hk => ((((hk.on hb4).set_ _ _).set_ _ _).set_ _ _).set_ _ _
      have hcy4 : ∀ p : Addr, (wr.heap.size ≤ p.block ∧ p.block < y3.heap.size) → (World.setCell (World.setCell (World.setCell (World.setCell q4 ⟨b, o + 5, none⟩ (.int .i64 z0)) ⟨b, o + 5 + 1, none⟩ (.int .i64 z1)) ⟨b, o + 5 + 2, none⟩ (.string z2)) ⟨b, o + 5 + 3, none⟩ (.slice Z zn zc)).cell? p = y3.cell? p := fun p hp => (hcl4 p ⟨hp.1, Nat.lt_of_lt_of_le hp.2 hb4.size⟩).trans (hb4.cell hp.2)
      have HI_4 : Hid (In Q w (World.setCell (World.setCell (World.setCell (World.setCell q4 ⟨b, o + 5, none⟩ (.int .i64 z0)) ⟨b, o + 5 + 1, none⟩ (.int .i64 z1)) ⟨b, o + 5 + 2, none⟩ (.string z2)) ⟨b, o + 5 + 3, none⟩ (.slice Z zn zc))) := Lib.hid (((((HI_3.out.on hb4).setCell (a := ⟨b, o + 5, none⟩) HQ.out (.int .i64 z0)).setCell (a := ⟨b, o + 6, none⟩) HQ.out (.int .i64 z1)).setCell (a := ⟨b, o + 7, none⟩) HQ.out (.string z2)).setCell (a := ⟨b, o + 8, none⟩) HQ.out (.slice Z zn zc))
      have RL_4 : Hid (TextsI (World.setCell (World.setCell (World.setCell (World.setCell q4 ⟨b, o + 5, none⟩ (.int .i64 z0)) ⟨b, o + 5 + 1, none⟩ (.int .i64 z1)) ⟨b, o + 5 + 2, none⟩ (.string z2)) ⟨b, o + 5 + 3, none⟩ (.slice Z zn zc)) (NN wr.heap.size (World.setCell (World.setCell (World.setCell (World.setCell q4 ⟨b, o + 5, none⟩ (.int .i64 z0)) ⟨b, o + 5 + 1, none⟩ (.int .i64 z1)) ⟨b, o + 5 + 2, none⟩ (.string z2)) ⟨b, o + 5 + 3, none⟩ (.slice Z zn zc))) labels (.slice L1 labels.length lc1)) := Lib.hid (RL_3.out.keep (nn_mono hu4) (fun p hp => hcy4 p ⟨hp.1, hp.2.lt⟩) fun _ _ _ h => h)
      have RX_4 : Hid (ExprI (World.setCell (World.setCell (World.setCell (World.setCell q4 ⟨b, o + 5, none⟩ (.int .i64 z0)) ⟨b, o + 5 + 1, none⟩ (.int .i64 z1)) ⟨b, o + 5 + 2, none⟩ (.string z2)) ⟨b, o + 5 + 3, none⟩ (.slice Z zn zc)) (NN wr.heap.size (World.setCell (World.setCell (World.setCell (World.setCell q4 ⟨b, o + 5, none⟩ (.int .i64 z0)) ⟨b, o + 5 + 1, none⟩ (.int .i64 z1)) ⟨b, o + 5 + 2, none⟩ (.string z2)) ⟨b, o + 5 + 3, none⟩ (.slice Z zn zc))) ex [.int .i64 z0, .int .i64 z1, .string z2, .slice Z zn zc]) := Lib.hid (hx4.keep (fun k hk => ⟨Nat.le_trans hw3 hk.1, (((hk.2.set_ _ _).set_ _ _).set_ _ _).set_ _ _⟩) (fun p hp => hcl4 p ⟨Nat.le_trans hw3 hp.1, hp.2.lt⟩))
      have hw4 : wr.heap.size ≤ (World.setCell (World.setCell (World.setCell (World.setCell q4 ⟨b, o + 5, none⟩ (.int .i64 z0)) ⟨b, o + 5 + 1, none⟩ (.int .i64 z1)) ⟨b, o + 5 + 2, none⟩ (.string z2)) ⟨b, o + 5 + 3, none⟩ (.slice Z zn zc)).heap.size := Nat.le_trans hw3 hy4
      clear hcl4 hcy4 hz4 hb4 n4 hx4
      go_wp2_with fail
      obtain ⟨y4, hey4⟩ : ∃ y, y = (World.setCell (World.setCell (World.setCell (World.setCell q4 ⟨b, o + 5, none⟩ (.int .i64 z0)) ⟨b, o + 5 + 1, none⟩ (.int .i64 z1)) ⟨b, o + 5 + 2, none⟩ (.string z2)) ⟨b, o + 5 + 3, none⟩ (.slice Z zn zc)) := ⟨_, rfl⟩
      rw [← hey4] at HN_4 HI_4 hy4 hw4 hu4 RL_4 RX_4 ⊢
      clear hey4 c4_0 f4_0 c4_1 f4_1 c4_2 f4_2 c4_3 f4_3
      clear d4_10
      refine (HAr.out _ HI_4.out).mono ?_
      rintro e q5 ⟨va, rfl, hb5, ha5⟩
      obtain ⟨R1, rc1, rfl, _, _⟩ := ha5.shape
      have n5 := HN_4.out.below hb5
      have c5_0 := n5.at_ 10 _ rfl
      have f5_0 := n5.frozen 10
      have d5_11 := n5.at_ 11 _ rfl
      have HN_5 : Hid (NodeW wr (World.setCell q5 ⟨b, o + 10, none⟩ (.slice R1 args.length rc1)) b o [.int .i64 id, .int .i64 kind, .slice L1 labels.length lc1, .string nm, .string proc, .int .i64 z0, .int .i64 z1, .string z2, .slice Z zn zc, .bool has, .slice R1 args.length rc1, .slice Tt th.length tc, .slice U el.length uc]) := Lib.hid (n5.set (show 10 < 13 by omega) (.slice R1 args.length rc1))
      have hcl5 : ∀ p : Addr, (wr.heap.size ≤ p.block ∧ p.block < q5.heap.size) → (World.setCell q5 ⟨b, o + 10, none⟩ (.slice R1 args.length rc1)).cell? p = q5.cell? p := fun p hp => by
        have hne : ∀ j, p ≠ ⟨b, j, none⟩ := fun j e => by have := hp.1; rw [e] at this; simp at this; omega
        rw [cell_set_ne _ (hne _)]
      have hz5 : q5.heap.size = (World.setCell q5 ⟨b, o + 10, none⟩ (.slice R1 args.length rc1)).heap.size := by simp only [size_set]
      have hy5 : y4.heap.size ≤ (World.setCell q5 ⟨b, o + 10, none⟩ (.slice R1 args.length rc1)).heap.size := by rw [← hz5]; exact hb5.size
      have hu5 : ∀ k, Unf y4 k → Unf (World.setCell q5 ⟨b, o + 10, none⟩ (.slice R1 args.length rc1)) k := fun k hk => (hk.on hb5).set_ _ _
      have hcy5 : ∀ p : Addr, (wr.heap.size ≤ p.block ∧ p.block < y4.heap.size) → (World.setCell q5 ⟨b, o + 10, none⟩ (.slice R1 args.length rc1)).cell? p = y4.cell? p := fun p hp => (hcl5 p ⟨hp.1, Nat.lt_of_lt_of_le hp.2 hb5.size⟩).trans (hb5.cell hp.2)
      have HI_5 : Hid (In Q w (World.setCell q5 ⟨b, o + 10, none⟩ (.slice R1 args.length rc1))) := Lib.hid ((HI_4.out.on hb5).setCell (a := ⟨b, o + 10, none⟩) HQ.out (.slice R1 args.length rc1))
      have RL_5 : Hid (TextsI (World.setCell q5 ⟨b, o + 10, none⟩ (.slice R1 args.length rc1)) (NN wr.heap.size (World.setCell q5 ⟨b, o + 10, none⟩ (.slice R1 args.length rc1))) labels (.slice L1 labels.length lc1)) := Lib.hid (RL_4.out.keep (nn_mono hu5) (fun p hp => hcy5 p ⟨hp.1, hp.2.lt⟩) fun _ _ _ h => h)
      have RX_5 : Hid (ExprI (World.setCell q5 ⟨b, o + 10, none⟩ (.slice R1 args.length rc1)) (NN wr.heap.size (World.setCell q5 ⟨b, o + 10, none⟩ (.slice R1 args.length rc1))) ex [.int .i64 z0, .int .i64 z1, .string z2, .slice Z zn zc]) := Lib.hid (RX_4.out.keep (nn_mono hu5) (fun p hp => hcy5 p ⟨hp.1, hp.2.lt⟩))
      have RA_5 : Hid (SliceI (World.setCell q5 ⟨b, o + 10, none⟩ (.slice R1 args.length rc1)) (NN wr.heap.size (World.setCell q5 ⟨b, o + 10, none⟩ (.slice R1 args.length rc1))) 6 (ArgI (World.setCell q5 ⟨b, o + 10, none⟩ (.slice R1 args.length rc1)) (NN wr.heap.size (World.setCell q5 ⟨b, o + 10, none⟩ (.slice R1 args.length rc1)))) args (.slice R1 args.length rc1)) := Lib.hid (ha5.keep (fun k hk => ⟨Nat.le_trans hw4 hk.1, hk.2.set_ _ _⟩) (fun p hp => hcl5 p ⟨Nat.le_trans hw4 hp.1, hp.2.lt⟩) fun _ _ _ h => h.keep (fun k hk => ⟨Nat.le_trans hw4 hk.1, hk.2.set_ _ _⟩) (fun p hp => hcl5 p ⟨Nat.le_trans hw4 hp.1, hp.2.lt⟩))
      have hw5 : wr.heap.size ≤ (World.setCell q5 ⟨b, o + 10, none⟩ (.slice R1 args.length rc1)).heap.size := Nat.le_trans hw4 hy5
      clear hcl5 hcy5 hz5 hb5 n5 ha5
      go_wp2_with fail
      obtain ⟨y5, hey5⟩ : ∃ y, y = (World.setCell q5 ⟨b, o + 10, none⟩ (.slice R1 args.length rc1)) := ⟨_, rfl⟩
      rw [← hey5] at HN_5 HI_5 hy5 hw5 hu5 RL_5 RX_5 RA_5 ⊢
      clear hey5 c5_0 f5_0
      clear d5_11
      refine (HTh.out _ HI_5.out).mono ?_
      rintro e q6 ⟨A1, cap1, rfl, ht6, hb6⟩
      have n6 := HN_5.out.below hb6
      have c6_0 := n6.at_ 11 _ rfl
      have f6_0 := n6.frozen 11
      have d6_12 := n6.at_ 12 _ rfl
      have HN_6 : Hid (NodeW wr (World.setCell q6 ⟨b, o + 11, none⟩ (.slice A1 th.length cap1)) b o [.int .i64 id, .int .i64 kind, .slice L1 labels.length lc1, .string nm, .string proc, .int .i64 z0, .int .i64 z1, .string z2, .slice Z zn zc, .bool has, .slice R1 args.length rc1, .slice A1 th.length cap1, .slice U el.length uc]) := Lib.hid (n6.set (show 11 < 13 by omega) (.slice A1 th.length cap1))
      have hcl6 : ∀ p : Addr, (wr.heap.size ≤ p.block ∧ p.block < q6.heap.size) → (World.setCell q6 ⟨b, o + 11, none⟩ (.slice A1 th.length cap1)).cell? p = q6.cell? p := fun p hp => by
        have hne : ∀ j, p ≠ ⟨b, j, none⟩ := fun j e => by have := hp.1; rw [e] at this; simp at this; omega
        rw [cell_set_ne _ (hne _)]
      have hz6 : q6.heap.size = (World.setCell q6 ⟨b, o + 11, none⟩ (.slice A1 th.length cap1)).heap.size := by simp only [size_set]
      have hy6 : y5.heap.size ≤ (World.setCell q6 ⟨b, o + 11, none⟩ (.slice A1 th.length cap1)).heap.size := by rw [← hz6]; exact hb6.size
      have hu6 : ∀ k, Unf y5 k → Unf (World.setCell q6 ⟨b, o + 11, none⟩ (.slice A1 th.length cap1)) k := fun k hk => (hk.on hb6).set_ _ _
      have hcy6 : ∀ p : Addr, (wr.heap.size ≤ p.block ∧ p.block < y5.heap.size) → (World.setCell q6 ⟨b, o + 11, none⟩ (.slice A1 th.length cap1)).cell? p = y5.cell? p := fun p hp => (hcl6 p ⟨hp.1, Nat.lt_of_lt_of_le hp.2 hb6.size⟩).trans (hb6.cell hp.2)
      have HI_6 : Hid (In Q w (World.setCell q6 ⟨b, o + 11, none⟩ (.slice A1 th.length cap1))) := Lib.hid ((HI_5.out.on hb6).setCell (a := ⟨b, o + 11, none⟩) HQ.out (.slice A1 th.length cap1))
      have RL_6 : Hid (TextsI (World.setCell q6 ⟨b, o + 11, none⟩ (.slice A1 th.length cap1)) (NN wr.heap.size y5) labels (.slice L1 labels.length lc1)) := Lib.hid (RL_5.out.keep (fun _ h => h) (fun p hp => hcy6 p ⟨hp.1, Nat.lt_of_lt_of_le hp.2.lt (Nat.le_refl _)⟩) fun _ _ _ h => h)
      have RX_6 : Hid (ExprI (World.setCell q6 ⟨b, o + 11, none⟩ (.slice A1 th.length cap1)) (NN wr.heap.size y5) ex [.int .i64 z0, .int .i64 z1, .string z2, .slice Z zn zc]) := Lib.hid (RX_5.out.keep (fun _ h => h) (fun p hp => hcy6 p ⟨hp.1, Nat.lt_of_lt_of_le hp.2.lt (Nat.le_refl _)⟩))
      have RA_6 : Hid (SliceI (World.setCell q6 ⟨b, o + 11, none⟩ (.slice A1 th.length cap1)) (NN wr.heap.size y5) 6 (ArgI (World.setCell q6 ⟨b, o + 11, none⟩ (.slice A1 th.length cap1)) (NN wr.heap.size y5)) args (.slice R1 args.length rc1)) := Lib.hid (RA_5.out.keep (fun _ h => h) (fun p hp => hcy6 p ⟨hp.1, Nat.lt_of_lt_of_le hp.2.lt (Nat.le_refl _)⟩) fun _ _ _ h => h.keep (fun _ h => h) (fun p hp => hcy6 p ⟨hp.1, Nat.lt_of_lt_of_le hp.2.lt (Nat.le_refl _)⟩))
      have RT_6 : Hid (RowS' w Q th A1 cap1 y5.heap.size (World.setCell q6 ⟨b, o + 11, none⟩ (.slice A1 th.length cap1)).heap.size (World.setCell q6 ⟨b, o + 11, none⟩ (.slice A1 th.length cap1))) := Lib.hid (by rw [← hz6]; exact ht6.on (fun k hk1 hk2 => Below.heap_setCell _ _ _ _ (by simp; have := hw5; omega)))
      have hw6 : wr.heap.size ≤ (World.setCell q6 ⟨b, o + 11, none⟩ (.slice A1 th.length cap1)).heap.size := Nat.le_trans hw5 hy6
      clear hcl6 hcy6 hz6 hb6 n6 ht6
      go_wp2_with fail
      obtain ⟨y6, hey6⟩ : ∃ y, y = (World.setCell q6 ⟨b, o + 11, none⟩ (.slice A1 th.length cap1)) := ⟨_, rfl⟩
      rw [← hey6] at HN_6 HI_6 hy6 hw6 hu6 RL_6 RX_6 RA_6 RT_6 ⊢
      clear hey6 c6_0 f6_0
      clear d6_12
      refine (HEl.out _ HI_6.out).mono ?_
      rintro e q7 ⟨A2, cap2, rfl, he7, hb7⟩
      have n7 := HN_6.out.below hb7
      have c7_0 := n7.at_ 12 _ rfl
      have f7_0 := n7.frozen 12
      have HN_7 : Hid (NodeW wr (World.setCell q7 ⟨b, o + 12, none⟩ (.slice A2 el.length cap2)) b o [.int .i64 id, .int .i64 kind, .slice L1 labels.length lc1, .string nm, .string proc, .int .i64 z0, .int .i64 z1, .string z2, .slice Z zn zc, .bool has, .slice R1 args.length rc1, .slice A1 th.length cap1, .slice A2 el.length cap2]) := Lib.hid (n7.set (show 12 < 13 by omega) (.slice A2 el.length cap2))
      have hcl7 : ∀ p : Addr, (wr.heap.size ≤ p.block ∧ p.block < q7.heap.size) → (World.setCell q7 ⟨b, o + 12, none⟩ (.slice A2 el.length cap2)).cell? p = q7.cell? p := fun p hp => by
        have hne : ∀ j, p ≠ ⟨b, j, none⟩ := fun j e => by have := hp.1; rw [e] at this; simp at this; omega
        rw [cell_set_ne _ (hne _)]
      have hz7 : q7.heap.size = (World.setCell q7 ⟨b, o + 12, none⟩ (.slice A2 el.length cap2)).heap.size := by simp only [size_set]
      have hy7 : y6.heap.size ≤ (World.setCell q7 ⟨b, o + 12, none⟩ (.slice A2 el.length cap2)).heap.size := by rw [← hz7]; exact hb7.size
      have hu7 : ∀ k, Unf y6 k → Unf (World.setCell q7 ⟨b, o + 12, none⟩ (.slice A2 el.length cap2)) k := fun k hk => (hk.on hb7).set_ _ _
      have hcy7 : ∀ p : Addr, (wr.heap.size ≤ p.block ∧ p.block < y6.heap.size) → (World.setCell q7 ⟨b, o + 12, none⟩ (.slice A2 el.length cap2)).cell? p = y6.cell? p := fun p hp => (hcl7 p ⟨hp.1, Nat.lt_of_lt_of_le hp.2 hb7.size⟩).trans (hb7.cell hp.2)
      have HI_7 : Hid (In Q w (World.setCell q7 ⟨b, o + 12, none⟩ (.slice A2 el.length cap2))) := Lib.hid ((HI_6.out.on hb7).setCell (a := ⟨b, o + 12, none⟩) HQ.out (.slice A2 el.length cap2))
      have RL_7 : Hid (TextsI (World.setCell q7 ⟨b, o + 12, none⟩ (.slice A2 el.length cap2)) (NN wr.heap.size y5) labels (.slice L1 labels.length lc1)) := Lib.hid (RL_6.out.keep (fun _ h => h) (fun p hp => hcy7 p ⟨hp.1, Nat.lt_of_lt_of_le hp.2.lt (hy6)⟩) fun _ _ _ h => h)
      have RX_7 : Hid (ExprI (World.setCell q7 ⟨b, o + 12, none⟩ (.slice A2 el.length cap2)) (NN wr.heap.size y5) ex [.int .i64 z0, .int .i64 z1, .string z2, .slice Z zn zc]) := Lib.hid (RX_6.out.keep (fun _ h => h) (fun p hp => hcy7 p ⟨hp.1, Nat.lt_of_lt_of_le hp.2.lt (hy6)⟩))
      have RA_7 : Hid (SliceI (World.setCell q7 ⟨b, o + 12, none⟩ (.slice A2 el.length cap2)) (NN wr.heap.size y5) 6 (ArgI (World.setCell q7 ⟨b, o + 12, none⟩ (.slice A2 el.length cap2)) (NN wr.heap.size y5)) args (.slice R1 args.length rc1)) := Lib.hid (RA_6.out.keep (fun _ h => h) (fun p hp => hcy7 p ⟨hp.1, Nat.lt_of_lt_of_le hp.2.lt (hy6)⟩) fun _ _ _ h => h.keep (fun _ h => h) (fun p hp => hcy7 p ⟨hp.1, Nat.lt_of_lt_of_le hp.2.lt (hy6)⟩))
      have RT_7 : Hid (RowS' w Q th A1 cap1 y5.heap.size y6.heap.size (World.setCell q7 ⟨b, o + 12, none⟩ (.slice A2 el.length cap2))) := Lib.hid (RT_6.out.on (fun k hk1 hk2 => (Below.heap_setCell _ _ _ _ (by simp; have := hw5; omega)).trans (hb7.block k hk2)))
      have RU_7 : Hid (RowS' w Q el A2 cap2 y6.heap.size (World.setCell q7 ⟨b, o + 12, none⟩ (.slice A2 el.length cap2)).heap.size (World.setCell q7 ⟨b, o + 12, none⟩ (.slice A2 el.length cap2))) := Lib.hid (by rw [← hz7]; exact he7.on (fun k hk1 hk2 => Below.heap_setCell _ _ _ _ (by simp; have := hw6; omega)))
      have hw7 : wr.heap.size ≤ (World.setCell q7 ⟨b, o + 12, none⟩ (.slice A2 el.length cap2)).heap.size := Nat.le_trans hw6 hy7
      clear hcl7 hcy7 hz7 hb7 n7 he7
      go_wp2_with fail
      obtain ⟨y7, hey7⟩ : ∃ y, y = (World.setCell q7 ⟨b, o + 12, none⟩ (.slice A2 el.length cap2)) := ⟨_, rfl⟩
      rw [← hey7] at HN_7 HI_7 hy7 hw7 hu7 RL_7 RX_7 RA_7 RT_7 RU_7 ⊢
      clear hey7 c7_0 f7_0
      obtain ⟨new, T', hcp7, hp7, hs7, hT7, a1, a2⟩ := HFl.out y7 y5.heap.size y6.heap.size y7.heap.size (NN wr.heap.size y5) _ _ _ _ _ _ A1 A2 cap1 cap2 HN_7.out hw5 hy6 hy7 (Nat.le_refl _) (fun k hk => ⟨hk.1, hk.2.lt, hu7 k (hu6 k hk.2)⟩) RL_7.out RX_7.out RA_7.out RT_7.out RU_7.out
      have hc7 := HC.out.keep HN_7.out.mv (fun k hk e => HD.out b HTb.out (e ▸ hk))
      have hd7 : ∀ k, T' k → ¬ ownS c v k := fun k hk ho => by
        rcases hT7 k hk with h1 | h1
        · exact HD.out k h1 ho
        · have := HC.out.own_lt ho; omega
      have hcw : c ≤ wr.heap.size := Nat.le_of_lt HC.out.blk.lt
      refine (nextCS_again hc7 (HN_7.out.at_ 11 _ rfl) (HN_7.out.at_ 12 _ rfl) a1 RT_7.out.1.1 RT_7.out.1.2 a2 RU_7.out.1.1 RU_7.out.1.2 hp7 hcp7 hd7 (Nat.le_refl _) (Nat.le_trans hcw hw7) (by omega)).mono ?_
      rintro e y8 ⟨p8, rfl, hat8, hb8⟩
      have HB8 : Hid (Below W.heap.size W y8) := Lib.hid ((HBr.out.trans (HN_7.out.mv.below HBr.out.size (fun j e => by subst e; exact hVb))).trans (hb8.mono hmx))
      have HA8 := Lib.hid hat8
      rw [hs7] at HA8
      clear hat8 hb8 hcp7 hp7 hs7 hT7 hc7 hd7 HFl
      go_wp2_with fail
      go_roundg (sizSL th + sizSL el + szHS hs)
      case measure => rw [sizS]; omega
      case rel => exact ⟨p8, rfl, by omega, HA8, HB8⟩
end Go.Proofs.Ytcocilpifdjibaa.U
