/- Texts, merged by a program; only what is used. -/
import Derived.Deep.LoopGhost
import Derived.Test.YtnnblklbjbkikaaM1
import Derived.Test.YtnnblklbjbkikaaM2
import Derived.Test.YtnnblklbjbkikaaM3
import Derived.Test.YtnnblklbjbkikaaM4
import Derived.Test.YtnnblklbjbkikaaM5
import Derived.Test.YtnnblklbjbkikaaM6
import Derived.Test.YtnnblklbjbkikaaM7
import Derived.Test.YtnnblklbjbkikaaM8
import Derived.Test.YtnnblklbjbkikaaM9
import Derived.Test.YtnnblklbjbkikaaM10
import Derived.Test.YtnnblklbjbkikaaM12
import Derived.Test.YtnnblklbjbkikaaM13
import Derived.Test.YtnnblklbjbkikaaM14
import Derived.Test.YtnnblklbjbkikaaM15
import Derived.Test.YtnnblklbjbkikaaM16
import Derived.Test.YtnnblklbjbkikaaM17
import Derived.Test.YtnnblklbjbkikaaM18
namespace Go.Proofs.Ytnnblklbjbkikaa
open Go.ChangeShapes Go.WideShapes Go.ChangeAt Go.RowKit Go.Deep
set_option linter.unusedVariables false
def AvS (w W : World) (Q : Nat → Prop) (base c : Nat) (v : Value) (o : Option Addr) (L : List S) : Prop := (o = none ∧ L = []) ∨ ∃ a x R, o = some a ∧ L = x :: R ∧ NodeI w Q (StmtI w Q) a x ∧ WalkS w W Q base c v R
theorem nextS_av {w W : World} {Q : Nat → Prop} {base c : Nat} {v : Value} {R : List S} (h : WalkS w W Q base c v R) (hI : In Q w W) (hbase : base ≤ W.heap.size) (hR : R.length ≤ 1099511627770) :
    Calls Try.prog 62 #[.pointer (some ⟨c, 0, none⟩)] W fun e w' => ∃ o v', e = .returned (.pointer o) ∧ AvS w w' Q base c v' o R ∧ Moves (ownS c v) W w' ∧ ∀ j, v'.ownBlock = some j → W.heap.size ≤ j ∨ v.ownBlock = some j := by
  refine (nextS_any h hI hbase hR).mono ?_
  rintro e w' ⟨v', hm, hl, hd⟩
  rcases hd with ⟨rfl, rfl⟩ | ⟨a, x, R', rfl, rfl, hn, hw⟩
  · exact ⟨none, v', rfl, .inl ⟨rfl, rfl⟩, hm, hl⟩
  · exact ⟨some a, v', rfl, .inr ⟨a, x, R', rfl, rfl, hn, hw⟩, hm, hl⟩
theorem AvS.keep {own : Nat → Prop} {w W W' : World} {Q : Nat → Prop} {base c : Nat} {v : Value} {o : Option Addr} {L : List S} (h : AvS w W Q base c v o L) (hm : Moves own W W') (hn : ∀ k, ownS c v k → ¬ own k) : AvS w W' Q base c v o L := by
  rcases h with h | ⟨a, x, R, h1, h2, h3, h4⟩
  · exact .inl h
  · exact .inr ⟨a, x, R, h1, h2, h3, h4.keep hm hn⟩
set_option maxHeartbeats 2000000 in
theorem sameNodesS_any {w1 w2 W : World} {Q1 Q2 : Nat → Prop} {B b1 b2 c1 c2 : Nat} {v1 v2 : Value} {R1 R2 : List S} (h1 : WalkS w1 W Q1 b1 c1 v1 R1) (h2 : WalkS w2 W Q2 b2 c2 v2 R2) (hI1 : In Q1 w1 W) (hI2 : In Q2 w2 W)
    (hQ1 : ∀ b, Q1 b → b < B) (hQ2 : ∀ b, Q2 b → b < B) (hB1 : B ≤ b1) (hB2 : B ≤ b2) (hc1 : b1 ≤ c1) (hc2 : b2 ≤ c2) (hb2 : b2 ≤ W.heap.size) (hd : ∀ k, ownS c1 v1 k → ¬ ownS c2 v2 k) (hR1 : R1.length ≤ 1000000000) (hR2 : R2.length ≤ 1000000000) (hs1 : ∀ x ∈ R1, szS x) (hs2 : ∀ y ∈ R2, szS y) :
    Calls Try.prog 112 #[.pointer (some ⟨c1, 0, none⟩), .pointer (some ⟨c2, 0, none⟩), .func (.func 113) #[] #[]] W fun e w' => e = .returned (.bool (sameP headS R1 R2)) ∧ Below B W w' := by
  have hsz1 : b1 ≤ W.heap.size := by have := h1.lt.1; omega
  have H1 := Lib.hid h1
  have H2 := Lib.hid h2
  have HI1 := Lib.hid hI1
  have HI2 := Lib.hid hI2
  have HD := Lib.hid hd
  have HQ1 := Lib.hid hQ1
  have HQ2 := Lib.hid hQ2
  have HS1 := Lib.hid hs1
  have HS2 := Lib.hid hs2
  have HN1 : Hid (∀ (v : Value) (R : List S) (W' : World), WalkS w1 W' Q1 b1 c1 v R → In Q1 w1 W' → b1 ≤ W'.heap.size → R.length ≤ 1000000000 → Calls Try.prog 62 #[.pointer (some ⟨c1, 0, none⟩)] W' fun e w' => ∃ o v', e = .returned (.pointer o) ∧ AvS w1 w' Q1 b1 c1 v' o R ∧ Moves (ownS c1 v) W' w' ∧ ∀ j, v'.ownBlock = some j → W'.heap.size ≤ j ∨ v.ownBlock = some j) :=
    Lib.hid (fun v R W' h1 h2 h3 h4 => nextS_av h1 h2 h3 (by omega))
  have HN2 : Hid (∀ (v : Value) (R : List S) (W' : World), WalkS w2 W' Q2 b2 c2 v R → In Q2 w2 W' → b2 ≤ W'.heap.size → R.length ≤ 1000000000 → Calls Try.prog 62 #[.pointer (some ⟨c2, 0, none⟩)] W' fun e w' => ∃ o v', e = .returned (.pointer o) ∧ AvS w2 w' Q2 b2 c2 v' o R ∧ Moves (ownS c2 v) W' w' ∧ ∀ j, v'.ownBlock = some j → W'.heap.size ≤ j ∨ v.ownBlock = some j) :=
    Lib.hid (fun v R W' h1 h2 h3 h4 => nextS_av h1 h2 h3 (by omega))
  clear h1 h2 hI1 hI2 hd hQ1 hQ2 hs1 hs2
  go_enter Try.func112, Try.ntmps112
  go_wp2_with fail
  go_loopg [6] R1.length (fun kk u wr => ∃ (L1 L2 : List S) (x1 x2 : Value), L1.length = kk ∧ u = .bool false ∧ L1.length ≤ 1000000000 ∧ L2.length ≤ 1000000000 ∧ W.heap.size ≤ wr.heap.size ∧ Hid (sameP headS L1 L2 = sameP headS R1 R2) ∧ Hid (WalkS w1 wr Q1 b1 c1 x1 L1) ∧ Hid (WalkS w2 wr Q2 b2 c2 x2 L2) ∧ Hid (∀ k, ownS c1 x1 k → ¬ ownS c2 x2 k) ∧
    Hid (In Q1 w1 wr) ∧ Hid (In Q2 w2 wr) ∧ Hid (Below B W wr) ∧ Hid (∀ x ∈ L1, szS x) ∧ Hid (∀ y ∈ L2, szS y))
  case atStart => exact ⟨R1, R2, v1, v2, rfl, rfl, hR1, hR2, Nat.le_refl _, Lib.hid rfl, H1, H2, HD, HI1, HI2, Lib.hid (Below.refl _ _), HS1, HS2⟩
  case round =>
    obtain ⟨L1, L2, x1, x2, hLk, rfl, hL1, hL2, hrz, HP, HW1, HW2, HDr, HI1r, HI2r, HBr, HZ1, HZ2⟩ := hrel
    have hz1 : b1 ≤ wr.heap.size := by omega
    have hz2 : b2 ≤ wr.heap.size := by omega
    go_wp2_with fail
    refine (HN1.out x1 L1 wr HW1.out HI1r.out hz1 hL1).mono ?_
    rintro e w3 ⟨o1, y1, rfl, hat1, hm1, hl1⟩
    have low1 : ∀ j, ownS c1 x1 j → B ≤ j := fun j hj => by rcases hj with rfl | hj; omega; have := (HW1.out.lt.2 j hj).1; omega
    have low2 : ∀ j, ownS c2 x2 j → B ≤ j := fun j hj => by rcases hj with rfl | hj; omega; have := (HW2.out.lt.2 j hj).1; omega
    have hz3 : b2 ≤ w3.heap.size := Nat.le_trans hz2 hm1.size
    have HW3 := Lib.hid (HW2.out.keep hm1 (fun k h2 h1 => HDr.out k h1 h2))
    have HI13 := Lib.hid (HI1r.out.moves hm1 (fun j hj hq => by have := low1 j hj; have := HQ1.out j hq; omega))
    have HI23 := Lib.hid (HI2r.out.moves hm1 (fun j hj hq => by have := low1 j hj; have := HQ2.out j hq; omega))
    have HB3 := Lib.hid (HBr.out.trans (hm1.below (by omega) low1))
    have HD3 : Hid (∀ k, ownS c1 y1 k → ¬ ownS c2 x2 k) := Lib.hid (fun k hk h2 => by
      rcases hk with rfl | hk
      · exact HDr.out k (.inl rfl) h2
      · rcases hl1 k hk with h | h
        · rcases h2 with rfl | h2
          · have := HW2.out.lt.1; omega
          · have := (HW2.out.lt.2 k h2).2; omega
        · exact HDr.out k (.inr h) h2)
    have HA1 := Lib.hid hat1
    have hs3 := hm1.size
    clear hat1 hm1 hl1 low1
    go_wp2_with fail
    refine (HN2.out x2 L2 w3 HW3.out HI23.out hz3 hL2).mono ?_
    rintro e w4 ⟨o2, y2, rfl, hat2, hm2, hl2⟩
    have HA1' := Lib.hid (HA1.out.keep hm2 (fun k h1 h2 => HD3.out k h1 h2))
    have HI14 := Lib.hid (HI13.out.moves hm2 (fun j hj hq => by have := low2 j hj; have := HQ1.out j hq; omega))
    have HI24 := Lib.hid (HI23.out.moves hm2 (fun j hj hq => by have := low2 j hj; have := HQ2.out j hq; omega))
    have HB4 := Lib.hid (HB3.out.trans (hm2.below (by omega) low2))
    have HD4 : Hid (∀ a x R, o1 = some a → L1 = x :: R → WalkS w1 w4 Q1 b1 c1 y1 R → ∀ k, ownS c1 y1 k → ¬ ownS c2 y2 k) := Lib.hid (fun a x R e1 e2 hw k hk h2 => by
      rcases h2 with rfl | h2
      · exact HD3.out k hk (.inl rfl)
      · rcases hl2 k h2 with h | h
        · have hw3 : k < w3.heap.size := by
            rcases HA1.out with ⟨h5, _⟩ | ⟨a5, x5, R5, h5, h6, h7, h8⟩
            · rw [e1] at h5; cases h5
            · rcases hk with rfl | hk
              · exact h8.lt.1
              · exact (h8.lt.2 k hk).2
          omega
        · exact HD3.out k hk (.inr h))
    have HA2 := Lib.hid hat2
    have hs4 := hm2.size
    clear hat2 hm2 hl2 low2 HA1
    rcases HA1'.out with ⟨rfl, rfl⟩ | ⟨a1, n1, T1, rfl, rfl, hn1, hw1⟩
    · rcases HA2.out with ⟨rfl, rfl⟩ | ⟨a2, n2, T2, rfl, rfl, hn2, hw2⟩
      · go_wp2_with fail
        go_ret
        exact ⟨ret_bool (by rw [← HP.out]; rfl), HB4.out⟩
      · clear hn2 hw2
        go_wp2_with fail
        go_ret
        exact ⟨ret_bool (by rw [← HP.out]; rfl), HB4.out⟩
    · rcases HA2.out with ⟨rfl, rfl⟩ | ⟨a2, n2, T2, rfl, rfl, hn2, hw2⟩
      · clear hn1 hw1
        go_wp2_with fail
        go_ret
        exact ⟨ret_bool (by rw [← HP.out]; rfl), HB4.out⟩
      · have HD5 := Lib.hid (HD4.out a1 n1 T1 rfl rfl hw1)
        have HX1 := Lib.hid hw1
        have HX2 := Lib.hid hw2
        have HC := Lib.hid (sameStmt_any hn1 hn2 HI14.out HI24.out (HZ1.out _ (List.mem_cons_self ..)) (HZ2.out _ (List.mem_cons_self ..)))
        have HP2 : Hid (sameP headS R1 R2 = (headS n1 n2 && sameP headS T1 T2)) := Lib.hid (by rw [← HP.out]; rfl)
        simp only [List.length_cons] at hL1 hL2 hLk
        clear hn1 hn2 hw1 hw2
        cases hv : headS n1 n2 with
        | false =>
          rw [hv] at HC HP2
          clear hv
          go_wp2_with (go_at_call 113; refine HC.out.mono ?_; rintro e w5 ⟨rfl, hb5⟩)
          go_ret
          exact ⟨ret_bool (by rw [HP2.out]; rfl), HB4.out.trans (hb5.mono (by have := HB4.out.size; omega))⟩
        | true =>
          rw [hv] at HC HP2
          clear hv
          go_wp2_with (go_at_call 113; refine HC.out.mono ?_; rintro e w5 ⟨rfl, hb5⟩)
          have hm5 := Below.moves hb5
          have out1 : ∀ k, ownS c1 y1 k → ¬ w4.heap.size ≤ k := fun k hk => by rcases hk with rfl | hk; have := HX1.out.lt.1; omega; have := (HX1.out.lt.2 k hk).2; omega
          have out2 : ∀ k, ownS c2 y2 k → ¬ w4.heap.size ≤ k := fun k hk => by rcases hk with rfl | hk; have := HX2.out.lt.1; omega; have := (HX2.out.lt.2 k hk).2; omega
          have K1 := Lib.hid (HX1.out.keep hm5 out1)
          have K2 := Lib.hid (HX2.out.keep hm5 out2)
          have K3 := Lib.hid (HI14.out.on hb5)
          have K4 := Lib.hid (HI24.out.on hb5)
          have K5 := Lib.hid (HB4.out.trans (hb5.mono (by have := HB4.out.size; omega)))
          have hs5 := hb5.size
          clear hm5 out1 out2 hb5
          go_roundg T1.length
          case measure => omega
          case rel => exact ⟨T1, T2, y1, y2, rfl, rfl, by omega, by omega, by omega, Lib.hid (by rw [HP2.out]; rfl), K1, K2, HD5, K3, K4, K5, Lib.hid (fun z hz => HZ1.out z (List.mem_cons_of_mem _ hz)), Lib.hid (fun z hz => HZ2.out z (List.mem_cons_of_mem _ hz))⟩
end Go.Proofs.Ytnnblklbjbkikaa
namespace Go.Proofs.Ytnnblklbjbkikaa
open Go.ChangeShapes Go.WideShapes Go.ChangeAt Go.RowKit Go.Deep
set_option linter.unusedVariables false
set_option linter.unusedSimpArgs false
theorem WalkS.heap {w W W' : World} {Q : Nat → Prop} {base c : Nat} {v : Value} {R : List S} (h : WalkS w W Q base c v R) (e : W'.heap = W.heap) : WalkS w W' Q base c v R := by
  obtain ⟨last, s, R0, ⟨h1, h2, h3⟩, hp, hl⟩ := h
  exact ⟨last, s, R0, ⟨by unfold Blk at h1 ⊢; rw [e]; exact h1, by unfold World.ownsRow at h2 ⊢; rw [e]; exact h2, h3⟩, hp, hl⟩
theorem WalkS.on {w W U w' : World} {Q : Nat → Prop} {base c : Nat} {v : Value} {R : List S} (h : WalkS w W Q base c v R) (e : U.heap = W.heap) (hb : Below U.heap.size U w') : WalkS w w' Q base c v R := by
  have h' := h.heap e
  exact h'.keep (Below.moves hb) (fun k hk hn => by rcases hk with rfl | hk; have := h'.lt.1; omega; have := (h'.lt.2 k hk).2; omega)
theorem two_apartS {w1 w2 W U w' : World} {Q1 Q2 : Nat → Prop} {b1 c1 c2 : Nat} {v1 v2 : Value} {R1 R2 : List S} (h1 : WalkS w1 W Q1 b1 c1 v1 R1) (e : U.heap = W.heap) (hc : U.heap.size ≤ c2) (hj : ∀ j, v2.ownBlock = some j → U.heap.size < j) : ∀ k, ownS c1 v1 k → ¬ ownS c2 v2 k := fun k hk h2 => by
  have hl : k < U.heap.size := by rw [e]; rcases hk with rfl | hk; exact h1.lt.1; exact (h1.lt.2 k hk).2
  rcases h2 with rfl | h2
  · omega
  · have := hj k h2; omega
theorem stmts_c {w W : World} {Q : Nat → Prop} {l : List S} {A : Option Addr} {n cap : Nat} (h : SliceI w Q 13 (StmtI w Q) l (.slice A n cap)) :
    Calls Try.prog 61 #[.slice A n cap] W fun e w' => ∃ c v, e = .returned (.pointer (some ⟨c, 0, none⟩)) ∧ WalkS w w' Q c c v (preSL l) ∧ Below W.heap.size W w' ∧ W.heap.size ≤ c ∧ ∀ j, v.ownBlock = some j → W.heap.size < j := by
  refine (stmts_any (W := W) h).mono ?_
  rintro e w' ⟨v, rfl, h1, h2, h3⟩
  exact ⟨W.heap.size, v, rfl, h1, h2, Nat.le_refl _, h3⟩
theorem run_field52_0 {o : Oper} {ρ : Operand → Value} {w : World} {x : Operand} {p : Addr} (ho : o.op = .fieldAddr 62 x 0) (hx : ρ x = .pointer (some p)) : (execOp ρ o).run Try.prog w = .ok (.value (.pointer (some (p.add 0)))) w := by
  have hs : (sizeOf 9).run Try.prog w = .ok 1 w := size_of_info (by kernel_rfl)
  simp [execOp, ho, hx, go_sem, run_underlying Try.underlying62, hs]
theorem run_field52_1 {o : Oper} {ρ : Operand → Value} {w : World} {x : Operand} {p : Addr} (ho : o.op = .fieldAddr 62 x 1) (hx : ρ x = .pointer (some p)) : (execOp ρ o).run Try.prog w = .ok (.value (.pointer (some (p.add 1)))) w := by
  have hs : (sizeOf 60).run Try.prog w = .ok 1 w := size_of_info (by kernel_rfl)
  simp [execOp, ho, hx, go_sem, run_underlying Try.underlying62, hs]
theorem run_field52_2 {o : Oper} {ρ : Operand → Value} {w : World} {x : Operand} {p : Addr} (ho : o.op = .fieldAddr 62 x 2) (hx : ρ x = .pointer (some p)) : (execOp ρ o).run Try.prog w = .ok (.value (.pointer (some (p.add 2)))) w := by
  have hs : (sizeOf 22).run Try.prog w = .ok 1 w := size_of_info (by kernel_rfl)
  simp [execOp, ho, hx, go_sem, run_underlying Try.underlying62, hs]
theorem run_field52_4 {o : Oper} {ρ : Operand → Value} {w : World} {x : Operand} {p : Addr} (ho : o.op = .fieldAddr 62 x 4) (hx : ρ x = .pointer (some p)) : (execOp ρ o).run Try.prog w = .ok (.value (.pointer (some (p.add 4)))) w := by
  have hs : (sizeOf 22).run Try.prog w = .ok 1 w := size_of_info (by kernel_rfl)
  simp [execOp, ho, hx, go_sem, run_underlying Try.underlying62, hs]
theorem run_load_pars {o : Oper} {ρ : Operand → Value} {w : World} {x : Operand} {p : Addr} {v : Value} (ho : o.op = .load 60 x) (hx : ρ x = .pointer (some p)) (hc : w.cell? p = some v) : (execOp ρ o).run Try.prog w = .ok (.value v) w := by
  simp [execOp, ho, hx, go_sem, isAgg, run_underlying Try.underlying60, hc]
noncomputable def opsSP : List Oper := ((Try.f72.body).bind (regionOps 1)).getD []
theorem lenSP : opsSP.length = 36 := by kernel_rfl
theorem lexSP0 : (List.range' 0 6).all (lexAt opsSP) = true := by kernel_rfl
theorem lexSP6 : (List.range' 6 6).all (lexAt opsSP) = true := by kernel_rfl
theorem lexSP12 : (List.range' 12 6).all (lexAt opsSP) = true := by kernel_rfl
theorem lexSP18 : (List.range' 18 6).all (lexAt opsSP) = true := by kernel_rfl
theorem lexSP24 : (List.range' 24 6).all (lexAt opsSP) = true := by kernel_rfl
theorem lexSP30 : (List.range' 30 6).all (lexAt opsSP) = true := by kernel_rfl
theorem lexSP : Region.lexB .any opsSP.toArray = true := by
  refine lexB_of opsSP (by kernel_rfl) (fun k hk => ?_) (by kernel_rfl)
  rw [lenSP] at hk
  by_cases h0 : k < 6
  · exact lex_chunk lexSP0 k (by omega) (by omega)
  by_cases h6 : k < 12
  · exact lex_chunk lexSP6 k (by omega) (by omega)
  by_cases h12 : k < 18
  · exact lex_chunk lexSP12 k (by omega) (by omega)
  by_cases h18 : k < 24
  · exact lex_chunk lexSP18 k (by omega) (by omega)
  by_cases h24 : k < 30
  · exact lex_chunk lexSP24 k (by omega) (by omega)
  exact lex_chunk lexSP30 k (by omega) (by omega)
set_option maxHeartbeats 1000000 in
theorem spF1 {C : World → Prop} {Q : Act → Prop} {a b : Addr} {nm nm' : ByteArray} {params params' : List Pa} {vars vars' ends ends' : List ByteArray} {body body' : List S} {Ap Av Ab Ae Ap' Av' Ab' Ae' : Option Addr} {cp cv cb ce cp' cv' cb' ce' : Nat} (hca : ∀ w, C w → ∀ j u, [.string nm, .slice Ap params.length cp, .slice Av vars.length cv, .slice Ab body.length cb, .slice Ae ends.length ce][j]? = some u → w.cell? (a.add j) = some u) (hcb : ∀ w, C w → ∀ j u, [.string nm', .slice Ap' params'.length cp', .slice Av' vars'.length cv', .slice Ab' body'.length cb', .slice Ae' ends'.length ce'][j]? = some u → w.cell? (b.add j) = some u) (hnm : (nm.toList == nm'.toList) = true) (HP : ∀ w, C w → Calls Try.prog 111 #[.slice Ap params.length cp, .slice Ap' params'.length cp'] w fun e w' => e = .returned (.bool false) ∧ C w') (f0 : Act) (hz : f0.tmps.size = 40) (hdf : f0.defers = []) (F2 : f0.tmps[2]? = some (.pointer (some a))) (F3 : f0.tmps[3]? = some (.pointer (some b)))
    (k : ∀ f, f.tmps.size = 40 → f.defers = [] → f.tmps[4]? = some (.bool false) → QW Try.prog opsSP C Q 36 f) : QW Try.prog opsSP C Q 0 f0 := by
  refine qs_val (v := .pointer (some (a.add 0))) (by kernel_rfl : (opsSP[0]?).map inf = some (some 5, .fieldAddr 62 (.tmp 2) 0, none)) hz (by decide) (fun o w ho hw => run_field52_0 ho (ev_of F2)) ?_
  intro f1 nx
  have hz := nx.size
  have hdf := nx.defers.trans hdf
  have F5 := nx.new
  have F2 := (nx.old 2 (by decide)).trans F2
  have F3 := (nx.old 3 (by decide)).trans F3
  clear nx
  refine qs_val (v := .string nm) (by kernel_rfl : (opsSP[1]?).map inf = some (some 6, .load 9 (.tmp 5), none)) hz (by decide) (fun o w ho hw => run_load_str ho (ev_of F5) (hca w hw 0 _ rfl)) ?_
  intro f2 nx
  have hz := nx.size
  have hdf := nx.defers.trans hdf
  have F6 := nx.new
  have F2 := (nx.old 2 (by decide)).trans F2
  have F3 := (nx.old 3 (by decide)).trans F3
  clear nx
  refine qs_val (v := .pointer (some (b.add 0))) (by kernel_rfl : (opsSP[2]?).map inf = some (some 7, .fieldAddr 62 (.tmp 3) 0, none)) hz (by decide) (fun o w ho hw => run_field52_0 ho (ev_of F3)) ?_
  intro f3 nx
  have hz := nx.size
  have hdf := nx.defers.trans hdf
  have F7 := nx.new
  have F2 := (nx.old 2 (by decide)).trans F2
  have F3 := (nx.old 3 (by decide)).trans F3
  have F6 := (nx.old 6 (by decide)).trans F6
  clear nx
  refine qs_val (v := .string nm') (by kernel_rfl : (opsSP[3]?).map inf = some (some 8, .load 9 (.tmp 7), none)) hz (by decide) (fun o w ho hw => run_load_str ho (ev_of F7) (hcb w hw 0 _ rfl)) ?_
  intro f4 nx
  have hz := nx.size
  have hdf := nx.defers.trans hdf
  have F8 := nx.new
  have F2 := (nx.old 2 (by decide)).trans F2
  have F3 := (nx.old 3 (by decide)).trans F3
  have F6 := (nx.old 6 (by decide)).trans F6
  clear nx
  refine qs_val (v := .bool true) (by kernel_rfl : (opsSP[4]?).map inf = some (some 9, .binOp .eql 9 (.tmp 6) (.tmp 8) 9, none)) hz (by decide) (fun o w ho hw => (run_eqStr_ ho (ev_of F6) (ev_of F8)).trans (by rw [hnm])) ?_
  intro f5 nx
  have hz := nx.size
  have hdf := nx.defers.trans hdf
  have F9 := nx.new
  have F2 := (nx.old 2 (by decide)).trans F2
  have F3 := (nx.old 3 (by decide)).trans F3
  clear nx
  refine qs_val (v := .bool true) (by kernel_rfl : (opsSP[5]?).map inf = some (some 10, .move (.tmp 9), none)) hz (by decide) (fun o w ho hw => (run_move_ ho).trans (by rw [ev_of F9])) ?_
  intro f6 nx
  have hz := nx.size
  have hdf := nx.defers.trans hdf
  have F10 := nx.new
  have F2 := (nx.old 2 (by decide)).trans F2
  have F3 := (nx.old 3 (by decide)).trans F3
  clear nx
  refine qs_valG (v := .pointer (some (a.add 1))) (by kernel_rfl : (opsSP[6]?).map inf = some (some 11, .fieldAddr 62 (.tmp 2) 1, some (5, true))) (j := 5) (dj := 10) (by kernel_rfl) F10 hz (by decide) (fun o w ho hw => run_field52_1 ho (ev_of F2)) ?_
  intro f7 nx
  have hz := nx.size
  have hdf := nx.defers.trans hdf
  have F11 := nx.new
  have F2 := (nx.old 2 (by decide)).trans F2
  have F3 := (nx.old 3 (by decide)).trans F3
  have F10 := (nx.old 10 (by decide)).trans F10
  clear nx
  refine qs_valG (v := .slice Ap params.length cp) (by kernel_rfl : (opsSP[7]?).map inf = some (some 12, .load 60 (.tmp 11), some (5, true))) (j := 5) (dj := 10) (by kernel_rfl) F10 hz (by decide) (fun o w ho hw => run_load_pars ho (ev_of F11) (hca w hw 1 _ rfl)) ?_
  intro f8 nx
  have hz := nx.size
  have hdf := nx.defers.trans hdf
  have F12 := nx.new
  have F2 := (nx.old 2 (by decide)).trans F2
  have F3 := (nx.old 3 (by decide)).trans F3
  have F10 := (nx.old 10 (by decide)).trans F10
  clear nx
  refine qs_valG (v := .pointer (some (b.add 1))) (by kernel_rfl : (opsSP[8]?).map inf = some (some 13, .fieldAddr 62 (.tmp 3) 1, some (5, true))) (j := 5) (dj := 10) (by kernel_rfl) F10 hz (by decide) (fun o w ho hw => run_field52_1 ho (ev_of F3)) ?_
  intro f9 nx
  have hz := nx.size
  have hdf := nx.defers.trans hdf
  have F13 := nx.new
  have F2 := (nx.old 2 (by decide)).trans F2
  have F3 := (nx.old 3 (by decide)).trans F3
  have F10 := (nx.old 10 (by decide)).trans F10
  have F12 := (nx.old 12 (by decide)).trans F12
  clear nx
  refine qs_valG (v := .slice Ap' params'.length cp') (by kernel_rfl : (opsSP[9]?).map inf = some (some 14, .load 60 (.tmp 13), some (5, true))) (j := 5) (dj := 10) (by kernel_rfl) F10 hz (by decide) (fun o w ho hw => run_load_pars ho (ev_of F13) (hcb w hw 1 _ rfl)) ?_
  intro f10 nx
  have hz := nx.size
  have hdf := nx.defers.trans hdf
  have F14 := nx.new
  have F2 := (nx.old 2 (by decide)).trans F2
  have F3 := (nx.old 3 (by decide)).trans F3
  have F10 := (nx.old 10 (by decide)).trans F10
  have F12 := (nx.old 12 (by decide)).trans F12
  clear nx
  refine qs_quietG (v := .bool false) (by kernel_rfl : (opsSP[10]?).map inf = some (some 15, .call { callee := .value (.func 111), args := #[.tmp 12, .tmp 14], argTypes := #[60, 60] }, some (5, true))) (j := 5) (dj := 10) (by kernel_rfl) F10 hz (by decide) (fun o K ho hk => quiet_call ho (fn := Try.f111) Try.func111 (by kernel_rfl) (by kernel_rfl) (fun w hw => by
    have e1 := ev_of F12
    have e2 := ev_of F14
    have e0 : (#[.tmp 12, .tmp 14] : Array Operand).map f10.eval = #[.slice Ap params.length cp, .slice Ap' params'.length cp'] := by simp only [List.map_toArray, List.map_cons, List.map_nil, e1, e2]
    rw [e0]
    exact HP w hw) hk) ?_
  intro f11 nx
  have hz := nx.size
  have hdf := nx.defers.trans hdf
  have F15 := nx.new
  have F2 := (nx.old 2 (by decide)).trans F2
  have F3 := (nx.old 3 (by decide)).trans F3
  have F10 := (nx.old 10 (by decide)).trans F10
  clear nx
  refine qs_val (v := .bool false) (by kernel_rfl : (opsSP[11]?).map inf = some (some 16, .pick (.tmp 10) (.tmp 15) (.const (.bool false)), none)) hz (by decide) (fun o w ho hw => (run_pick_ ho (ev_of F10)).trans (by rw [if_pos rfl, ev_of F15])) ?_
  intro f12 nx
  have hz := nx.size
  have hdf := nx.defers.trans hdf
  have F16 := nx.new
  have F2 := (nx.old 2 (by decide)).trans F2
  have F3 := (nx.old 3 (by decide)).trans F3
  clear nx
  refine qs_val (v := .bool false) (by kernel_rfl : (opsSP[12]?).map inf = some (some 17, .move (.tmp 16), none)) hz (by decide) (fun o w ho hw => (run_move_ ho).trans (by rw [ev_of F16])) ?_
  intro f13 nx
  have hz := nx.size
  have hdf := nx.defers.trans hdf
  have F17 := nx.new
  have F2 := (nx.old 2 (by decide)).trans F2
  have F3 := (nx.old 3 (by decide)).trans F3
  clear nx
  refine qs_skips (j := 12) (dj := 17) (by kernel_rfl) 18 22 (by decide) 5 13 f13 hz F17 (by kernel_rfl) ?_
  intro f14 hz hdf' old
  have hdf := hdf'.trans hdf
  have F2 := (old 2 (by decide)).trans F2
  have F3 := (old 3 (by decide)).trans F3
  have F17 := (old 17 (by decide)).trans F17
  clear old hdf'
  refine qs_val (v := .bool false) (by kernel_rfl : (opsSP[18]?).map inf = some (some 23, .pick (.tmp 17) (.tmp 22) (.const (.bool false)), none)) hz (by decide) (fun o w ho hw => (run_pick_ ho (ev_of F17)).trans (by rw [if_neg (by decide)]; rfl)) ?_
  intro f15 nx
  have hz := nx.size
  have hdf := nx.defers.trans hdf
  have F23 := nx.new
  have F2 := (nx.old 2 (by decide)).trans F2
  have F3 := (nx.old 3 (by decide)).trans F3
  clear nx
  refine qs_val (v := .bool false) (by kernel_rfl : (opsSP[19]?).map inf = some (some 24, .move (.tmp 23), none)) hz (by decide) (fun o w ho hw => (run_move_ ho).trans (by rw [ev_of F23])) ?_
  intro f16 nx
  have hz := nx.size
  have hdf := nx.defers.trans hdf
  have F24 := nx.new
  have F2 := (nx.old 2 (by decide)).trans F2
  have F3 := (nx.old 3 (by decide)).trans F3
  clear nx
  refine qs_skips (j := 19) (dj := 24) (by kernel_rfl) 25 29 (by decide) 5 20 f16 hz F24 (by kernel_rfl) ?_
  intro f17 hz hdf' old
  have hdf := hdf'.trans hdf
  have F2 := (old 2 (by decide)).trans F2
  have F3 := (old 3 (by decide)).trans F3
  have F24 := (old 24 (by decide)).trans F24
  clear old hdf'
  refine qs_val (v := .bool false) (by kernel_rfl : (opsSP[25]?).map inf = some (some 30, .pick (.tmp 24) (.tmp 29) (.const (.bool false)), none)) hz (by decide) (fun o w ho hw => (run_pick_ ho (ev_of F24)).trans (by rw [if_neg (by decide)]; rfl)) ?_
  intro f18 nx
  have hz := nx.size
  have hdf := nx.defers.trans hdf
  have F30 := nx.new
  have F2 := (nx.old 2 (by decide)).trans F2
  have F3 := (nx.old 3 (by decide)).trans F3
  clear nx
  refine qs_val (v := .bool false) (by kernel_rfl : (opsSP[26]?).map inf = some (some 31, .move (.tmp 30), none)) hz (by decide) (fun o w ho hw => (run_move_ ho).trans (by rw [ev_of F30])) ?_
  intro f19 nx
  have hz := nx.size
  have hdf := nx.defers.trans hdf
  have F31 := nx.new
  have F2 := (nx.old 2 (by decide)).trans F2
  have F3 := (nx.old 3 (by decide)).trans F3
  clear nx
  refine qs_skips (j := 26) (dj := 31) (by kernel_rfl) 32 38 (by decide) 7 27 f19 hz F31 (by kernel_rfl) ?_
  intro f20 hz hdf' old
  have hdf := hdf'.trans hdf
  have F31 := (old 31 (by decide)).trans F31
  clear old hdf'
  refine qs_val (v := .bool false) (by kernel_rfl : (opsSP[34]?).map inf = some (some 39, .pick (.tmp 31) (.tmp 38) (.const (.bool false)), none)) hz (by decide) (fun o w ho hw => (run_pick_ ho (ev_of F31)).trans (by rw [if_neg (by decide)]; rfl)) ?_
  intro f21 nx
  have hz := nx.size
  have hdf := nx.defers.trans hdf
  have F39 := nx.new
  clear nx
  refine qs_val (v := .bool false) (by kernel_rfl : (opsSP[35]?).map inf = some (some 4, .assign (.tmp 39), none)) hz (by decide) (fun o w ho hw => (run_assign_ ho).trans (by rw [ev_of F39])) ?_
  intro f22 nx
  have hz := nx.size
  have hdf := nx.defers.trans hdf
  have F4 := nx.new
  clear nx
  exact k f22 hz hdf F4
set_option maxHeartbeats 1000000 in
theorem spF2 {C : World → Prop} {Q : Act → Prop} {a b : Addr} {nm nm' : ByteArray} {params params' : List Pa} {vars vars' ends ends' : List ByteArray} {body body' : List S} {Ap Av Ab Ae Ap' Av' Ab' Ae' : Option Addr} {cp cv cb ce cp' cv' cb' ce' : Nat} (hca : ∀ w, C w → ∀ j u, [.string nm, .slice Ap params.length cp, .slice Av vars.length cv, .slice Ab body.length cb, .slice Ae ends.length ce][j]? = some u → w.cell? (a.add j) = some u) (hcb : ∀ w, C w → ∀ j u, [.string nm', .slice Ap' params'.length cp', .slice Av' vars'.length cv', .slice Ab' body'.length cb', .slice Ae' ends'.length ce'][j]? = some u → w.cell? (b.add j) = some u) (hnm : (nm.toList == nm'.toList) = true) (HP : ∀ w, C w → Calls Try.prog 111 #[.slice Ap params.length cp, .slice Ap' params'.length cp'] w fun e w' => e = .returned (.bool true) ∧ C w') (HV : ∀ w, C w → Calls Try.prog 70 #[.slice Av vars.length cv, .slice Av' vars'.length cv'] w fun e w' => e = .returned (.bool false) ∧ C w') (f0 : Act) (hz : f0.tmps.size = 40) (hdf : f0.defers = []) (F2 : f0.tmps[2]? = some (.pointer (some a))) (F3 : f0.tmps[3]? = some (.pointer (some b)))
    (k : ∀ f, f.tmps.size = 40 → f.defers = [] → f.tmps[4]? = some (.bool false) → QW Try.prog opsSP C Q 36 f) : QW Try.prog opsSP C Q 0 f0 := by
  refine qs_val (v := .pointer (some (a.add 0))) (by kernel_rfl : (opsSP[0]?).map inf = some (some 5, .fieldAddr 62 (.tmp 2) 0, none)) hz (by decide) (fun o w ho hw => run_field52_0 ho (ev_of F2)) ?_
  intro f1 nx
  have hz := nx.size
  have hdf := nx.defers.trans hdf
  have F5 := nx.new
  have F2 := (nx.old 2 (by decide)).trans F2
  have F3 := (nx.old 3 (by decide)).trans F3
  clear nx
  refine qs_val (v := .string nm) (by kernel_rfl : (opsSP[1]?).map inf = some (some 6, .load 9 (.tmp 5), none)) hz (by decide) (fun o w ho hw => run_load_str ho (ev_of F5) (hca w hw 0 _ rfl)) ?_
  intro f2 nx
  have hz := nx.size
  have hdf := nx.defers.trans hdf
  have F6 := nx.new
  have F2 := (nx.old 2 (by decide)).trans F2
  have F3 := (nx.old 3 (by decide)).trans F3
  clear nx
  refine qs_val (v := .pointer (some (b.add 0))) (by kernel_rfl : (opsSP[2]?).map inf = some (some 7, .fieldAddr 62 (.tmp 3) 0, none)) hz (by decide) (fun o w ho hw => run_field52_0 ho (ev_of F3)) ?_
  intro f3 nx
  have hz := nx.size
  have hdf := nx.defers.trans hdf
  have F7 := nx.new
  have F2 := (nx.old 2 (by decide)).trans F2
  have F3 := (nx.old 3 (by decide)).trans F3
  have F6 := (nx.old 6 (by decide)).trans F6
  clear nx
  refine qs_val (v := .string nm') (by kernel_rfl : (opsSP[3]?).map inf = some (some 8, .load 9 (.tmp 7), none)) hz (by decide) (fun o w ho hw => run_load_str ho (ev_of F7) (hcb w hw 0 _ rfl)) ?_
  intro f4 nx
  have hz := nx.size
  have hdf := nx.defers.trans hdf
  have F8 := nx.new
  have F2 := (nx.old 2 (by decide)).trans F2
  have F3 := (nx.old 3 (by decide)).trans F3
  have F6 := (nx.old 6 (by decide)).trans F6
  clear nx
  refine qs_val (v := .bool true) (by kernel_rfl : (opsSP[4]?).map inf = some (some 9, .binOp .eql 9 (.tmp 6) (.tmp 8) 9, none)) hz (by decide) (fun o w ho hw => (run_eqStr_ ho (ev_of F6) (ev_of F8)).trans (by rw [hnm])) ?_
  intro f5 nx
  have hz := nx.size
  have hdf := nx.defers.trans hdf
  have F9 := nx.new
  have F2 := (nx.old 2 (by decide)).trans F2
  have F3 := (nx.old 3 (by decide)).trans F3
  clear nx
  refine qs_val (v := .bool true) (by kernel_rfl : (opsSP[5]?).map inf = some (some 10, .move (.tmp 9), none)) hz (by decide) (fun o w ho hw => (run_move_ ho).trans (by rw [ev_of F9])) ?_
  intro f6 nx
  have hz := nx.size
  have hdf := nx.defers.trans hdf
  have F10 := nx.new
  have F2 := (nx.old 2 (by decide)).trans F2
  have F3 := (nx.old 3 (by decide)).trans F3
  clear nx
  refine qs_valG (v := .pointer (some (a.add 1))) (by kernel_rfl : (opsSP[6]?).map inf = some (some 11, .fieldAddr 62 (.tmp 2) 1, some (5, true))) (j := 5) (dj := 10) (by kernel_rfl) F10 hz (by decide) (fun o w ho hw => run_field52_1 ho (ev_of F2)) ?_
  intro f7 nx
  have hz := nx.size
  have hdf := nx.defers.trans hdf
  have F11 := nx.new
  have F2 := (nx.old 2 (by decide)).trans F2
  have F3 := (nx.old 3 (by decide)).trans F3
  have F10 := (nx.old 10 (by decide)).trans F10
  clear nx
  refine qs_valG (v := .slice Ap params.length cp) (by kernel_rfl : (opsSP[7]?).map inf = some (some 12, .load 60 (.tmp 11), some (5, true))) (j := 5) (dj := 10) (by kernel_rfl) F10 hz (by decide) (fun o w ho hw => run_load_pars ho (ev_of F11) (hca w hw 1 _ rfl)) ?_
  intro f8 nx
  have hz := nx.size
  have hdf := nx.defers.trans hdf
  have F12 := nx.new
  have F2 := (nx.old 2 (by decide)).trans F2
  have F3 := (nx.old 3 (by decide)).trans F3
  have F10 := (nx.old 10 (by decide)).trans F10
  clear nx
  refine qs_valG (v := .pointer (some (b.add 1))) (by kernel_rfl : (opsSP[8]?).map inf = some (some 13, .fieldAddr 62 (.tmp 3) 1, some (5, true))) (j := 5) (dj := 10) (by kernel_rfl) F10 hz (by decide) (fun o w ho hw => run_field52_1 ho (ev_of F3)) ?_
  intro f9 nx
  have hz := nx.size
  have hdf := nx.defers.trans hdf
  have F13 := nx.new
  have F2 := (nx.old 2 (by decide)).trans F2
  have F3 := (nx.old 3 (by decide)).trans F3
  have F10 := (nx.old 10 (by decide)).trans F10
  have F12 := (nx.old 12 (by decide)).trans F12
  clear nx
  refine qs_valG (v := .slice Ap' params'.length cp') (by kernel_rfl : (opsSP[9]?).map inf = some (some 14, .load 60 (.tmp 13), some (5, true))) (j := 5) (dj := 10) (by kernel_rfl) F10 hz (by decide) (fun o w ho hw => run_load_pars ho (ev_of F13) (hcb w hw 1 _ rfl)) ?_
  intro f10 nx
  have hz := nx.size
  have hdf := nx.defers.trans hdf
  have F14 := nx.new
  have F2 := (nx.old 2 (by decide)).trans F2
  have F3 := (nx.old 3 (by decide)).trans F3
  have F10 := (nx.old 10 (by decide)).trans F10
  have F12 := (nx.old 12 (by decide)).trans F12
  clear nx
  refine qs_quietG (v := .bool true) (by kernel_rfl : (opsSP[10]?).map inf = some (some 15, .call { callee := .value (.func 111), args := #[.tmp 12, .tmp 14], argTypes := #[60, 60] }, some (5, true))) (j := 5) (dj := 10) (by kernel_rfl) F10 hz (by decide) (fun o K ho hk => quiet_call ho (fn := Try.f111) Try.func111 (by kernel_rfl) (by kernel_rfl) (fun w hw => by
    have e1 := ev_of F12
    have e2 := ev_of F14
    have e0 : (#[.tmp 12, .tmp 14] : Array Operand).map f10.eval = #[.slice Ap params.length cp, .slice Ap' params'.length cp'] := by simp only [List.map_toArray, List.map_cons, List.map_nil, e1, e2]
    rw [e0]
    exact HP w hw) hk) ?_
  intro f11 nx
  have hz := nx.size
  have hdf := nx.defers.trans hdf
  have F15 := nx.new
  have F2 := (nx.old 2 (by decide)).trans F2
  have F3 := (nx.old 3 (by decide)).trans F3
  have F10 := (nx.old 10 (by decide)).trans F10
  clear nx
  refine qs_val (v := .bool true) (by kernel_rfl : (opsSP[11]?).map inf = some (some 16, .pick (.tmp 10) (.tmp 15) (.const (.bool false)), none)) hz (by decide) (fun o w ho hw => (run_pick_ ho (ev_of F10)).trans (by rw [if_pos rfl, ev_of F15])) ?_
  intro f12 nx
  have hz := nx.size
  have hdf := nx.defers.trans hdf
  have F16 := nx.new
  have F2 := (nx.old 2 (by decide)).trans F2
  have F3 := (nx.old 3 (by decide)).trans F3
  clear nx
  refine qs_val (v := .bool true) (by kernel_rfl : (opsSP[12]?).map inf = some (some 17, .move (.tmp 16), none)) hz (by decide) (fun o w ho hw => (run_move_ ho).trans (by rw [ev_of F16])) ?_
  intro f13 nx
  have hz := nx.size
  have hdf := nx.defers.trans hdf
  have F17 := nx.new
  have F2 := (nx.old 2 (by decide)).trans F2
  have F3 := (nx.old 3 (by decide)).trans F3
  clear nx
  refine qs_valG (v := .pointer (some (a.add 2))) (by kernel_rfl : (opsSP[13]?).map inf = some (some 18, .fieldAddr 62 (.tmp 2) 2, some (12, true))) (j := 12) (dj := 17) (by kernel_rfl) F17 hz (by decide) (fun o w ho hw => run_field52_2 ho (ev_of F2)) ?_
  intro f14 nx
  have hz := nx.size
  have hdf := nx.defers.trans hdf
  have F18 := nx.new
  have F2 := (nx.old 2 (by decide)).trans F2
  have F3 := (nx.old 3 (by decide)).trans F3
  have F17 := (nx.old 17 (by decide)).trans F17
  clear nx
  refine qs_valG (v := .slice Av vars.length cv) (by kernel_rfl : (opsSP[14]?).map inf = some (some 19, .load 22 (.tmp 18), some (12, true))) (j := 12) (dj := 17) (by kernel_rfl) F17 hz (by decide) (fun o w ho hw => run_load_strs ho (ev_of F18) (hca w hw 2 _ rfl)) ?_
  intro f15 nx
  have hz := nx.size
  have hdf := nx.defers.trans hdf
  have F19 := nx.new
  have F2 := (nx.old 2 (by decide)).trans F2
  have F3 := (nx.old 3 (by decide)).trans F3
  have F17 := (nx.old 17 (by decide)).trans F17
  clear nx
  refine qs_valG (v := .pointer (some (b.add 2))) (by kernel_rfl : (opsSP[15]?).map inf = some (some 20, .fieldAddr 62 (.tmp 3) 2, some (12, true))) (j := 12) (dj := 17) (by kernel_rfl) F17 hz (by decide) (fun o w ho hw => run_field52_2 ho (ev_of F3)) ?_
  intro f16 nx
  have hz := nx.size
  have hdf := nx.defers.trans hdf
  have F20 := nx.new
  have F2 := (nx.old 2 (by decide)).trans F2
  have F3 := (nx.old 3 (by decide)).trans F3
  have F17 := (nx.old 17 (by decide)).trans F17
  have F19 := (nx.old 19 (by decide)).trans F19
  clear nx
  refine qs_valG (v := .slice Av' vars'.length cv') (by kernel_rfl : (opsSP[16]?).map inf = some (some 21, .load 22 (.tmp 20), some (12, true))) (j := 12) (dj := 17) (by kernel_rfl) F17 hz (by decide) (fun o w ho hw => run_load_strs ho (ev_of F20) (hcb w hw 2 _ rfl)) ?_
  intro f17 nx
  have hz := nx.size
  have hdf := nx.defers.trans hdf
  have F21 := nx.new
  have F2 := (nx.old 2 (by decide)).trans F2
  have F3 := (nx.old 3 (by decide)).trans F3
  have F17 := (nx.old 17 (by decide)).trans F17
  have F19 := (nx.old 19 (by decide)).trans F19
  clear nx
  refine qs_quietG (v := .bool false) (by kernel_rfl : (opsSP[17]?).map inf = some (some 22, .call { callee := .value (.func 70), args := #[.tmp 19, .tmp 21], argTypes := #[22, 22] }, some (12, true))) (j := 12) (dj := 17) (by kernel_rfl) F17 hz (by decide) (fun o K ho hk => quiet_call ho (fn := Try.f70) Try.func70 (by kernel_rfl) (by kernel_rfl) (fun w hw => by
    have e1 := ev_of F19
    have e2 := ev_of F21
    have e0 : (#[.tmp 19, .tmp 21] : Array Operand).map f17.eval = #[.slice Av vars.length cv, .slice Av' vars'.length cv'] := by simp only [List.map_toArray, List.map_cons, List.map_nil, e1, e2]
    rw [e0]
    exact HV w hw) hk) ?_
  intro f18 nx
  have hz := nx.size
  have hdf := nx.defers.trans hdf
  have F22 := nx.new
  have F2 := (nx.old 2 (by decide)).trans F2
  have F3 := (nx.old 3 (by decide)).trans F3
  have F17 := (nx.old 17 (by decide)).trans F17
  clear nx
  refine qs_val (v := .bool false) (by kernel_rfl : (opsSP[18]?).map inf = some (some 23, .pick (.tmp 17) (.tmp 22) (.const (.bool false)), none)) hz (by decide) (fun o w ho hw => (run_pick_ ho (ev_of F17)).trans (by rw [if_pos rfl, ev_of F22])) ?_
  intro f19 nx
  have hz := nx.size
  have hdf := nx.defers.trans hdf
  have F23 := nx.new
  have F2 := (nx.old 2 (by decide)).trans F2
  have F3 := (nx.old 3 (by decide)).trans F3
  clear nx
  refine qs_val (v := .bool false) (by kernel_rfl : (opsSP[19]?).map inf = some (some 24, .move (.tmp 23), none)) hz (by decide) (fun o w ho hw => (run_move_ ho).trans (by rw [ev_of F23])) ?_
  intro f20 nx
  have hz := nx.size
  have hdf := nx.defers.trans hdf
  have F24 := nx.new
  have F2 := (nx.old 2 (by decide)).trans F2
  have F3 := (nx.old 3 (by decide)).trans F3
  clear nx
  refine qs_skips (j := 19) (dj := 24) (by kernel_rfl) 25 29 (by decide) 5 20 f20 hz F24 (by kernel_rfl) ?_
  intro f21 hz hdf' old
  have hdf := hdf'.trans hdf
  have F2 := (old 2 (by decide)).trans F2
  have F3 := (old 3 (by decide)).trans F3
  have F24 := (old 24 (by decide)).trans F24
  clear old hdf'
  refine qs_val (v := .bool false) (by kernel_rfl : (opsSP[25]?).map inf = some (some 30, .pick (.tmp 24) (.tmp 29) (.const (.bool false)), none)) hz (by decide) (fun o w ho hw => (run_pick_ ho (ev_of F24)).trans (by rw [if_neg (by decide)]; rfl)) ?_
  intro f22 nx
  have hz := nx.size
  have hdf := nx.defers.trans hdf
  have F30 := nx.new
  have F2 := (nx.old 2 (by decide)).trans F2
  have F3 := (nx.old 3 (by decide)).trans F3
  clear nx
  refine qs_val (v := .bool false) (by kernel_rfl : (opsSP[26]?).map inf = some (some 31, .move (.tmp 30), none)) hz (by decide) (fun o w ho hw => (run_move_ ho).trans (by rw [ev_of F30])) ?_
  intro f23 nx
  have hz := nx.size
  have hdf := nx.defers.trans hdf
  have F31 := nx.new
  have F2 := (nx.old 2 (by decide)).trans F2
  have F3 := (nx.old 3 (by decide)).trans F3
  clear nx
  refine qs_skips (j := 26) (dj := 31) (by kernel_rfl) 32 38 (by decide) 7 27 f23 hz F31 (by kernel_rfl) ?_
  intro f24 hz hdf' old
  have hdf := hdf'.trans hdf
  have F31 := (old 31 (by decide)).trans F31
  clear old hdf'
  refine qs_val (v := .bool false) (by kernel_rfl : (opsSP[34]?).map inf = some (some 39, .pick (.tmp 31) (.tmp 38) (.const (.bool false)), none)) hz (by decide) (fun o w ho hw => (run_pick_ ho (ev_of F31)).trans (by rw [if_neg (by decide)]; rfl)) ?_
  intro f25 nx
  have hz := nx.size
  have hdf := nx.defers.trans hdf
  have F39 := nx.new
  clear nx
  refine qs_val (v := .bool false) (by kernel_rfl : (opsSP[35]?).map inf = some (some 4, .assign (.tmp 39), none)) hz (by decide) (fun o w ho hw => (run_assign_ ho).trans (by rw [ev_of F39])) ?_
  intro f26 nx
  have hz := nx.size
  have hdf := nx.defers.trans hdf
  have F4 := nx.new
  clear nx
  exact k f26 hz hdf F4
set_option maxHeartbeats 1000000 in
theorem spF3 {C : World → Prop} {Q : Act → Prop} {a b : Addr} {nm nm' : ByteArray} {params params' : List Pa} {vars vars' ends ends' : List ByteArray} {body body' : List S} {Ap Av Ab Ae Ap' Av' Ab' Ae' : Option Addr} {cp cv cb ce cp' cv' cb' ce' : Nat} (hca : ∀ w, C w → ∀ j u, [.string nm, .slice Ap params.length cp, .slice Av vars.length cv, .slice Ab body.length cb, .slice Ae ends.length ce][j]? = some u → w.cell? (a.add j) = some u) (hcb : ∀ w, C w → ∀ j u, [.string nm', .slice Ap' params'.length cp', .slice Av' vars'.length cv', .slice Ab' body'.length cb', .slice Ae' ends'.length ce'][j]? = some u → w.cell? (b.add j) = some u) (hnm : (nm.toList == nm'.toList) = true) (HP : ∀ w, C w → Calls Try.prog 111 #[.slice Ap params.length cp, .slice Ap' params'.length cp'] w fun e w' => e = .returned (.bool true) ∧ C w') (HV : ∀ w, C w → Calls Try.prog 70 #[.slice Av vars.length cv, .slice Av' vars'.length cv'] w fun e w' => e = .returned (.bool true) ∧ C w') (HE : ∀ w, C w → Calls Try.prog 70 #[.slice Ae ends.length ce, .slice Ae' ends'.length ce'] w fun e w' => e = .returned (.bool false) ∧ C w') (f0 : Act) (hz : f0.tmps.size = 40) (hdf : f0.defers = []) (F2 : f0.tmps[2]? = some (.pointer (some a))) (F3 : f0.tmps[3]? = some (.pointer (some b)))
    (k : ∀ f, f.tmps.size = 40 → f.defers = [] → f.tmps[4]? = some (.bool false) → QW Try.prog opsSP C Q 36 f) : QW Try.prog opsSP C Q 0 f0 := by
  refine qs_val (v := .pointer (some (a.add 0))) (by kernel_rfl : (opsSP[0]?).map inf = some (some 5, .fieldAddr 62 (.tmp 2) 0, none)) hz (by decide) (fun o w ho hw => run_field52_0 ho (ev_of F2)) ?_
  intro f1 nx
  have hz := nx.size
  have hdf := nx.defers.trans hdf
  have F5 := nx.new
  have F2 := (nx.old 2 (by decide)).trans F2
  have F3 := (nx.old 3 (by decide)).trans F3
  clear nx
  refine qs_val (v := .string nm) (by kernel_rfl : (opsSP[1]?).map inf = some (some 6, .load 9 (.tmp 5), none)) hz (by decide) (fun o w ho hw => run_load_str ho (ev_of F5) (hca w hw 0 _ rfl)) ?_
  intro f2 nx
  have hz := nx.size
  have hdf := nx.defers.trans hdf
  have F6 := nx.new
  have F2 := (nx.old 2 (by decide)).trans F2
  have F3 := (nx.old 3 (by decide)).trans F3
  clear nx
  refine qs_val (v := .pointer (some (b.add 0))) (by kernel_rfl : (opsSP[2]?).map inf = some (some 7, .fieldAddr 62 (.tmp 3) 0, none)) hz (by decide) (fun o w ho hw => run_field52_0 ho (ev_of F3)) ?_
  intro f3 nx
  have hz := nx.size
  have hdf := nx.defers.trans hdf
  have F7 := nx.new
  have F2 := (nx.old 2 (by decide)).trans F2
  have F3 := (nx.old 3 (by decide)).trans F3
  have F6 := (nx.old 6 (by decide)).trans F6
  clear nx
  refine qs_val (v := .string nm') (by kernel_rfl : (opsSP[3]?).map inf = some (some 8, .load 9 (.tmp 7), none)) hz (by decide) (fun o w ho hw => run_load_str ho (ev_of F7) (hcb w hw 0 _ rfl)) ?_
  intro f4 nx
  have hz := nx.size
  have hdf := nx.defers.trans hdf
  have F8 := nx.new
  have F2 := (nx.old 2 (by decide)).trans F2
  have F3 := (nx.old 3 (by decide)).trans F3
  have F6 := (nx.old 6 (by decide)).trans F6
  clear nx
  refine qs_val (v := .bool true) (by kernel_rfl : (opsSP[4]?).map inf = some (some 9, .binOp .eql 9 (.tmp 6) (.tmp 8) 9, none)) hz (by decide) (fun o w ho hw => (run_eqStr_ ho (ev_of F6) (ev_of F8)).trans (by rw [hnm])) ?_
  intro f5 nx
  have hz := nx.size
  have hdf := nx.defers.trans hdf
  have F9 := nx.new
  have F2 := (nx.old 2 (by decide)).trans F2
  have F3 := (nx.old 3 (by decide)).trans F3
  clear nx
  refine qs_val (v := .bool true) (by kernel_rfl : (opsSP[5]?).map inf = some (some 10, .move (.tmp 9), none)) hz (by decide) (fun o w ho hw => (run_move_ ho).trans (by rw [ev_of F9])) ?_
  intro f6 nx
  have hz := nx.size
  have hdf := nx.defers.trans hdf
  have F10 := nx.new
  have F2 := (nx.old 2 (by decide)).trans F2
  have F3 := (nx.old 3 (by decide)).trans F3
  clear nx
  refine qs_valG (v := .pointer (some (a.add 1))) (by kernel_rfl : (opsSP[6]?).map inf = some (some 11, .fieldAddr 62 (.tmp 2) 1, some (5, true))) (j := 5) (dj := 10) (by kernel_rfl) F10 hz (by decide) (fun o w ho hw => run_field52_1 ho (ev_of F2)) ?_
  intro f7 nx
  have hz := nx.size
  have hdf := nx.defers.trans hdf
  have F11 := nx.new
  have F2 := (nx.old 2 (by decide)).trans F2
  have F3 := (nx.old 3 (by decide)).trans F3
  have F10 := (nx.old 10 (by decide)).trans F10
  clear nx
  refine qs_valG (v := .slice Ap params.length cp) (by kernel_rfl : (opsSP[7]?).map inf = some (some 12, .load 60 (.tmp 11), some (5, true))) (j := 5) (dj := 10) (by kernel_rfl) F10 hz (by decide) (fun o w ho hw => run_load_pars ho (ev_of F11) (hca w hw 1 _ rfl)) ?_
  intro f8 nx
  have hz := nx.size
  have hdf := nx.defers.trans hdf
  have F12 := nx.new
  have F2 := (nx.old 2 (by decide)).trans F2
  have F3 := (nx.old 3 (by decide)).trans F3
  have F10 := (nx.old 10 (by decide)).trans F10
  clear nx
  refine qs_valG (v := .pointer (some (b.add 1))) (by kernel_rfl : (opsSP[8]?).map inf = some (some 13, .fieldAddr 62 (.tmp 3) 1, some (5, true))) (j := 5) (dj := 10) (by kernel_rfl) F10 hz (by decide) (fun o w ho hw => run_field52_1 ho (ev_of F3)) ?_
  intro f9 nx
  have hz := nx.size
  have hdf := nx.defers.trans hdf
  have F13 := nx.new
  have F2 := (nx.old 2 (by decide)).trans F2
  have F3 := (nx.old 3 (by decide)).trans F3
  have F10 := (nx.old 10 (by decide)).trans F10
  have F12 := (nx.old 12 (by decide)).trans F12
  clear nx
  refine qs_valG (v := .slice Ap' params'.length cp') (by kernel_rfl : (opsSP[9]?).map inf = some (some 14, .load 60 (.tmp 13), some (5, true))) (j := 5) (dj := 10) (by kernel_rfl) F10 hz (by decide) (fun o w ho hw => run_load_pars ho (ev_of F13) (hcb w hw 1 _ rfl)) ?_
  intro f10 nx
  have hz := nx.size
  have hdf := nx.defers.trans hdf
  have F14 := nx.new
  have F2 := (nx.old 2 (by decide)).trans F2
  have F3 := (nx.old 3 (by decide)).trans F3
  have F10 := (nx.old 10 (by decide)).trans F10
  have F12 := (nx.old 12 (by decide)).trans F12
  clear nx
  refine qs_quietG (v := .bool true) (by kernel_rfl : (opsSP[10]?).map inf = some (some 15, .call { callee := .value (.func 111), args := #[.tmp 12, .tmp 14], argTypes := #[60, 60] }, some (5, true))) (j := 5) (dj := 10) (by kernel_rfl) F10 hz (by decide) (fun o K ho hk => quiet_call ho (fn := Try.f111) Try.func111 (by kernel_rfl) (by kernel_rfl) (fun w hw => by
    have e1 := ev_of F12
    have e2 := ev_of F14
    have e0 : (#[.tmp 12, .tmp 14] : Array Operand).map f10.eval = #[.slice Ap params.length cp, .slice Ap' params'.length cp'] := by simp only [List.map_toArray, List.map_cons, List.map_nil, e1, e2]
    rw [e0]
    exact HP w hw) hk) ?_
  intro f11 nx
  have hz := nx.size
  have hdf := nx.defers.trans hdf
  have F15 := nx.new
  have F2 := (nx.old 2 (by decide)).trans F2
  have F3 := (nx.old 3 (by decide)).trans F3
  have F10 := (nx.old 10 (by decide)).trans F10
  clear nx
  refine qs_val (v := .bool true) (by kernel_rfl : (opsSP[11]?).map inf = some (some 16, .pick (.tmp 10) (.tmp 15) (.const (.bool false)), none)) hz (by decide) (fun o w ho hw => (run_pick_ ho (ev_of F10)).trans (by rw [if_pos rfl, ev_of F15])) ?_
  intro f12 nx
  have hz := nx.size
  have hdf := nx.defers.trans hdf
  have F16 := nx.new
  have F2 := (nx.old 2 (by decide)).trans F2
  have F3 := (nx.old 3 (by decide)).trans F3
  clear nx
  refine qs_val (v := .bool true) (by kernel_rfl : (opsSP[12]?).map inf = some (some 17, .move (.tmp 16), none)) hz (by decide) (fun o w ho hw => (run_move_ ho).trans (by rw [ev_of F16])) ?_
  intro f13 nx
  have hz := nx.size
  have hdf := nx.defers.trans hdf
  have F17 := nx.new
  have F2 := (nx.old 2 (by decide)).trans F2
  have F3 := (nx.old 3 (by decide)).trans F3
  clear nx
  refine qs_valG (v := .pointer (some (a.add 2))) (by kernel_rfl : (opsSP[13]?).map inf = some (some 18, .fieldAddr 62 (.tmp 2) 2, some (12, true))) (j := 12) (dj := 17) (by kernel_rfl) F17 hz (by decide) (fun o w ho hw => run_field52_2 ho (ev_of F2)) ?_
  intro f14 nx
  have hz := nx.size
  have hdf := nx.defers.trans hdf
  have F18 := nx.new
  have F2 := (nx.old 2 (by decide)).trans F2
  have F3 := (nx.old 3 (by decide)).trans F3
  have F17 := (nx.old 17 (by decide)).trans F17
  clear nx
  refine qs_valG (v := .slice Av vars.length cv) (by kernel_rfl : (opsSP[14]?).map inf = some (some 19, .load 22 (.tmp 18), some (12, true))) (j := 12) (dj := 17) (by kernel_rfl) F17 hz (by decide) (fun o w ho hw => run_load_strs ho (ev_of F18) (hca w hw 2 _ rfl)) ?_
  intro f15 nx
  have hz := nx.size
  have hdf := nx.defers.trans hdf
  have F19 := nx.new
  have F2 := (nx.old 2 (by decide)).trans F2
  have F3 := (nx.old 3 (by decide)).trans F3
  have F17 := (nx.old 17 (by decide)).trans F17
  clear nx
  refine qs_valG (v := .pointer (some (b.add 2))) (by kernel_rfl : (opsSP[15]?).map inf = some (some 20, .fieldAddr 62 (.tmp 3) 2, some (12, true))) (j := 12) (dj := 17) (by kernel_rfl) F17 hz (by decide) (fun o w ho hw => run_field52_2 ho (ev_of F3)) ?_
  intro f16 nx
  have hz := nx.size
  have hdf := nx.defers.trans hdf
  have F20 := nx.new
  have F2 := (nx.old 2 (by decide)).trans F2
  have F3 := (nx.old 3 (by decide)).trans F3
  have F17 := (nx.old 17 (by decide)).trans F17
  have F19 := (nx.old 19 (by decide)).trans F19
  clear nx
  refine qs_valG (v := .slice Av' vars'.length cv') (by kernel_rfl : (opsSP[16]?).map inf = some (some 21, .load 22 (.tmp 20), some (12, true))) (j := 12) (dj := 17) (by kernel_rfl) F17 hz (by decide) (fun o w ho hw => run_load_strs ho (ev_of F20) (hcb w hw 2 _ rfl)) ?_
  intro f17 nx
  have hz := nx.size
  have hdf := nx.defers.trans hdf
  have F21 := nx.new
  have F2 := (nx.old 2 (by decide)).trans F2
  have F3 := (nx.old 3 (by decide)).trans F3
  have F17 := (nx.old 17 (by decide)).trans F17
  have F19 := (nx.old 19 (by decide)).trans F19
  clear nx
  refine qs_quietG (v := .bool true) (by kernel_rfl : (opsSP[17]?).map inf = some (some 22, .call { callee := .value (.func 70), args := #[.tmp 19, .tmp 21], argTypes := #[22, 22] }, some (12, true))) (j := 12) (dj := 17) (by kernel_rfl) F17 hz (by decide) (fun o K ho hk => quiet_call ho (fn := Try.f70) Try.func70 (by kernel_rfl) (by kernel_rfl) (fun w hw => by
    have e1 := ev_of F19
    have e2 := ev_of F21
    have e0 : (#[.tmp 19, .tmp 21] : Array Operand).map f17.eval = #[.slice Av vars.length cv, .slice Av' vars'.length cv'] := by simp only [List.map_toArray, List.map_cons, List.map_nil, e1, e2]
    rw [e0]
    exact HV w hw) hk) ?_
  intro f18 nx
  have hz := nx.size
  have hdf := nx.defers.trans hdf
  have F22 := nx.new
  have F2 := (nx.old 2 (by decide)).trans F2
  have F3 := (nx.old 3 (by decide)).trans F3
  have F17 := (nx.old 17 (by decide)).trans F17
  clear nx
  refine qs_val (v := .bool true) (by kernel_rfl : (opsSP[18]?).map inf = some (some 23, .pick (.tmp 17) (.tmp 22) (.const (.bool false)), none)) hz (by decide) (fun o w ho hw => (run_pick_ ho (ev_of F17)).trans (by rw [if_pos rfl, ev_of F22])) ?_
  intro f19 nx
  have hz := nx.size
  have hdf := nx.defers.trans hdf
  have F23 := nx.new
  have F2 := (nx.old 2 (by decide)).trans F2
  have F3 := (nx.old 3 (by decide)).trans F3
  clear nx
  refine qs_val (v := .bool true) (by kernel_rfl : (opsSP[19]?).map inf = some (some 24, .move (.tmp 23), none)) hz (by decide) (fun o w ho hw => (run_move_ ho).trans (by rw [ev_of F23])) ?_
  intro f20 nx
  have hz := nx.size
  have hdf := nx.defers.trans hdf
  have F24 := nx.new
  have F2 := (nx.old 2 (by decide)).trans F2
  have F3 := (nx.old 3 (by decide)).trans F3
  clear nx
  refine qs_valG (v := .pointer (some (a.add 4))) (by kernel_rfl : (opsSP[20]?).map inf = some (some 25, .fieldAddr 62 (.tmp 2) 4, some (19, true))) (j := 19) (dj := 24) (by kernel_rfl) F24 hz (by decide) (fun o w ho hw => run_field52_4 ho (ev_of F2)) ?_
  intro f21 nx
  have hz := nx.size
  have hdf := nx.defers.trans hdf
  have F25 := nx.new
  have F2 := (nx.old 2 (by decide)).trans F2
  have F3 := (nx.old 3 (by decide)).trans F3
  have F24 := (nx.old 24 (by decide)).trans F24
  clear nx
  refine qs_valG (v := .slice Ae ends.length ce) (by kernel_rfl : (opsSP[21]?).map inf = some (some 26, .load 22 (.tmp 25), some (19, true))) (j := 19) (dj := 24) (by kernel_rfl) F24 hz (by decide) (fun o w ho hw => run_load_strs ho (ev_of F25) (hca w hw 4 _ rfl)) ?_
  intro f22 nx
  have hz := nx.size
  have hdf := nx.defers.trans hdf
  have F26 := nx.new
  have F2 := (nx.old 2 (by decide)).trans F2
  have F3 := (nx.old 3 (by decide)).trans F3
  have F24 := (nx.old 24 (by decide)).trans F24
  clear nx
  refine qs_valG (v := .pointer (some (b.add 4))) (by kernel_rfl : (opsSP[22]?).map inf = some (some 27, .fieldAddr 62 (.tmp 3) 4, some (19, true))) (j := 19) (dj := 24) (by kernel_rfl) F24 hz (by decide) (fun o w ho hw => run_field52_4 ho (ev_of F3)) ?_
  intro f23 nx
  have hz := nx.size
  have hdf := nx.defers.trans hdf
  have F27 := nx.new
  have F2 := (nx.old 2 (by decide)).trans F2
  have F3 := (nx.old 3 (by decide)).trans F3
  have F24 := (nx.old 24 (by decide)).trans F24
  have F26 := (nx.old 26 (by decide)).trans F26
  clear nx
  refine qs_valG (v := .slice Ae' ends'.length ce') (by kernel_rfl : (opsSP[23]?).map inf = some (some 28, .load 22 (.tmp 27), some (19, true))) (j := 19) (dj := 24) (by kernel_rfl) F24 hz (by decide) (fun o w ho hw => run_load_strs ho (ev_of F27) (hcb w hw 4 _ rfl)) ?_
  intro f24 nx
  have hz := nx.size
  have hdf := nx.defers.trans hdf
  have F28 := nx.new
  have F2 := (nx.old 2 (by decide)).trans F2
  have F3 := (nx.old 3 (by decide)).trans F3
  have F24 := (nx.old 24 (by decide)).trans F24
  have F26 := (nx.old 26 (by decide)).trans F26
  clear nx
  refine qs_quietG (v := .bool false) (by kernel_rfl : (opsSP[24]?).map inf = some (some 29, .call { callee := .value (.func 70), args := #[.tmp 26, .tmp 28], argTypes := #[22, 22] }, some (19, true))) (j := 19) (dj := 24) (by kernel_rfl) F24 hz (by decide) (fun o K ho hk => quiet_call ho (fn := Try.f70) Try.func70 (by kernel_rfl) (by kernel_rfl) (fun w hw => by
    have e1 := ev_of F26
    have e2 := ev_of F28
    have e0 : (#[.tmp 26, .tmp 28] : Array Operand).map f24.eval = #[.slice Ae ends.length ce, .slice Ae' ends'.length ce'] := by simp only [List.map_toArray, List.map_cons, List.map_nil, e1, e2]
    rw [e0]
    exact HE w hw) hk) ?_
  intro f25 nx
  have hz := nx.size
  have hdf := nx.defers.trans hdf
  have F29 := nx.new
  have F2 := (nx.old 2 (by decide)).trans F2
  have F3 := (nx.old 3 (by decide)).trans F3
  have F24 := (nx.old 24 (by decide)).trans F24
  clear nx
  refine qs_val (v := .bool false) (by kernel_rfl : (opsSP[25]?).map inf = some (some 30, .pick (.tmp 24) (.tmp 29) (.const (.bool false)), none)) hz (by decide) (fun o w ho hw => (run_pick_ ho (ev_of F24)).trans (by rw [if_pos rfl, ev_of F29])) ?_
  intro f26 nx
  have hz := nx.size
  have hdf := nx.defers.trans hdf
  have F30 := nx.new
  have F2 := (nx.old 2 (by decide)).trans F2
  have F3 := (nx.old 3 (by decide)).trans F3
  clear nx
  refine qs_val (v := .bool false) (by kernel_rfl : (opsSP[26]?).map inf = some (some 31, .move (.tmp 30), none)) hz (by decide) (fun o w ho hw => (run_move_ ho).trans (by rw [ev_of F30])) ?_
  intro f27 nx
  have hz := nx.size
  have hdf := nx.defers.trans hdf
  have F31 := nx.new
  have F2 := (nx.old 2 (by decide)).trans F2
  have F3 := (nx.old 3 (by decide)).trans F3
  clear nx
  refine qs_skips (j := 26) (dj := 31) (by kernel_rfl) 32 38 (by decide) 7 27 f27 hz F31 (by kernel_rfl) ?_
  intro f28 hz hdf' old
  have hdf := hdf'.trans hdf
  have F31 := (old 31 (by decide)).trans F31
  clear old hdf'
  refine qs_val (v := .bool false) (by kernel_rfl : (opsSP[34]?).map inf = some (some 39, .pick (.tmp 31) (.tmp 38) (.const (.bool false)), none)) hz (by decide) (fun o w ho hw => (run_pick_ ho (ev_of F31)).trans (by rw [if_neg (by decide)]; rfl)) ?_
  intro f29 nx
  have hz := nx.size
  have hdf := nx.defers.trans hdf
  have F39 := nx.new
  clear nx
  refine qs_val (v := .bool false) (by kernel_rfl : (opsSP[35]?).map inf = some (some 4, .assign (.tmp 39), none)) hz (by decide) (fun o w ho hw => (run_assign_ ho).trans (by rw [ev_of F39])) ?_
  intro f30 nx
  have hz := nx.size
  have hdf := nx.defers.trans hdf
  have F4 := nx.new
  clear nx
  exact k f30 hz hdf F4
theorem box_cell {V : World} {b : Nat} {t : TypeId} {l : List Value} (h : Blk V b t l.toArray) : ∀ w, Below V.heap.size V w → ∀ j u, l[j]? = some u → w.cell? ((⟨b, 0, none⟩ : Addr).add j) = some u := by
  intro w hw j u hu
  have ha : (⟨b, 0, none⟩ : Addr).add j = ⟨b, j, none⟩ := by
    by_cases h0 : j = 0
    · subst h0; rw [add_zero_]
    · rw [add_ne _ h0]; simp
  rw [ha, hw.cell (p := ⟨b, j, none⟩) h.lt, h.cell j]
  simpa using hu
theorem keepS {V U w' : World} (e : U.heap = V.heap) (hb : Below U.heap.size U w') {p : Addr} {v : Value} (hp : p.block < V.heap.size) (h : V.cell? p = some v) : w'.cell? p = some v := by
  have h1 : p.block < U.heap.size := by rw [e]; exact hp
  rw [hb.cell h1, World.cell?_of_block (w := V) (by rw [e])]
  exact h
theorem below_on {W V U w' : World} (h : Below W.heap.size W V) (e : U.heap = V.heap) (e1 : U.os = V.os) (e2 : U.tape = V.tape) (e3 : U.output = V.output) (hb : Below U.heap.size U w') : Below W.heap.size W w' :=
  (below_re h e e1 e2 e3).trans (hb.mono (by rw [e]; exact h.size))
set_option maxHeartbeats 4000000 in
theorem sameProc_any {w1 w2 W : World} {Q1 Q2 : Nat → Prop} {nm nm' : ByteArray} {params params' : List Pa} {vars vars' ends ends' : List ByteArray} {body body' : List S} {Ap Av Ab Ae Ap' Av' Ab' Ae' : Option Addr} {cp cv cb ce cp' cv' cb' ce' : Nat}
    (hp1 : SliceI w1 Q1 2 ParI params (.slice Ap params.length cp)) (hv1 : TextsI w1 Q1 vars (.slice Av vars.length cv)) (hb1 : StmtsI w1 Q1 body (.slice Ab body.length cb)) (he1 : TextsI w1 Q1 ends (.slice Ae ends.length ce))
    (hp2 : SliceI w2 Q2 2 ParI params' (.slice Ap' params'.length cp')) (hv2 : TextsI w2 Q2 vars' (.slice Av' vars'.length cv')) (hb2 : StmtsI w2 Q2 body' (.slice Ab' body'.length cb')) (he2 : TextsI w2 Q2 ends' (.slice Ae' ends'.length ce'))
    (hI1 : In Q1 w1 W) (hI2 : In Q2 w2 W) (hz1 : szB body) (hz2 : szB body') :
    Calls Try.prog 72 #[.agg #[.string nm, .slice Ap params.length cp, .slice Av vars.length cv, .slice Ab body.length cb, .slice Ae ends.length ce], .agg #[.string nm', .slice Ap' params'.length cp', .slice Av' vars'.length cv', .slice Ab' body'.length cb', .slice Ae' ends'.length ce']] W (MayOk (eqB (⟨nm, params, vars, body, ends⟩ : Pr) ⟨nm', params', vars', body', ends'⟩) W) := by
  have HI1 := Lib.hid hI1
  have HI2 := Lib.hid hI2
  have HP := Lib.hid (fun V hV hV' => EqualP_any (W := V) hp1 hp2 hV hV')
  have HV := Lib.hid (fun V hV hV' => EqualT_any (W := V) hv1 hv2 hV hV')
  have HE := Lib.hid (fun V hV hV' => EqualT_any (W := V) he1 he2 hV hV')
  have HC1 := Lib.hid (fun V => stmts_c (W := V) hb1)
  have HC2 := Lib.hid (fun V => stmts_c (W := V) hb2)
  rw [eqB_proc]
  simp only [eqB_dec] at HV HE ⊢
  rw [← same_body body body']
  have HZ1 := Lib.hid hz1
  have HZ2 := Lib.hid hz2
  clear hp1 hv1 hb1 he1 hp2 hv2 hb2 he2 hI1 hI2 hz1 hz2
  have HBa : Hid (Blk ((W.alloc (.cells #[.string nm, .slice Ap params.length cp, .slice Av vars.length cv, .slice Ab body.length cb, .slice Ae ends.length ce] 62)).alloc (.cells #[.string nm', .slice Ap' params'.length cp', .slice Av' vars'.length cv', .slice Ab' body'.length cb', .slice Ae' ends'.length ce'] 62)) W.heap.size 62 #[.string nm, .slice Ap params.length cp, .slice Av vars.length cv, .slice Ab body.length cb, .slice Ae ends.length ce]) := Lib.hid ((Blk.new _ _ _).alloc _)
  have HBb : Hid (Blk ((W.alloc (.cells #[.string nm, .slice Ap params.length cp, .slice Av vars.length cv, .slice Ab body.length cb, .slice Ae ends.length ce] 62)).alloc (.cells #[.string nm', .slice Ap' params'.length cp', .slice Av' vars'.length cv', .slice Ab' body'.length cb', .slice Ae' ends'.length ce'] 62)) (W.heap.size + 1) 62 #[.string nm', .slice Ap' params'.length cp', .slice Av' vars'.length cv', .slice Ab' body'.length cb', .slice Ae' ends'.length ce']) := Lib.hid (by have := Blk.new (W.alloc (.cells #[.string nm, .slice Ap params.length cp, .slice Av vars.length cv, .slice Ab body.length cb, .slice Ae ends.length ce] 62)) 62 #[.string nm', .slice Ap' params'.length cp', .slice Av' vars'.length cv', .slice Ab' body'.length cb', .slice Ae' ends'.length ce']; simpa using this)
  have HBW : Hid (Below W.heap.size W ((W.alloc (.cells #[.string nm, .slice Ap params.length cp, .slice Av vars.length cv, .slice Ab body.length cb, .slice Ae ends.length ce] 62)).alloc (.cells #[.string nm', .slice Ap' params'.length cp', .slice Av' vars'.length cv', .slice Ab' body'.length cb', .slice Ae' ends'.length ce'] 62))) := Lib.hid (below_two _ _)
  have L0 := HBa.out.lt
  have L1 := HBb.out.lt
  have k0 : ((W.alloc (.cells #[.string nm, .slice Ap params.length cp, .slice Av vars.length cv, .slice Ab body.length cb, .slice Ae ends.length ce] 62)).alloc (.cells #[.string nm', .slice Ap' params'.length cp', .slice Av' vars'.length cv', .slice Ab' body'.length cb', .slice Ae' ends'.length ce'] 62)).cell? ⟨W.heap.size, 0, none⟩ = some (.string nm) := by rw [HBa.out.cell 0]; rfl
  have k1 : ((W.alloc (.cells #[.string nm, .slice Ap params.length cp, .slice Av vars.length cv, .slice Ab body.length cb, .slice Ae ends.length ce] 62)).alloc (.cells #[.string nm', .slice Ap' params'.length cp', .slice Av' vars'.length cv', .slice Ab' body'.length cb', .slice Ae' ends'.length ce'] 62)).cell? ⟨W.heap.size, 1, none⟩ = some (.slice Ap params.length cp) := by rw [HBa.out.cell 1]; rfl
  have k2 : ((W.alloc (.cells #[.string nm, .slice Ap params.length cp, .slice Av vars.length cv, .slice Ab body.length cb, .slice Ae ends.length ce] 62)).alloc (.cells #[.string nm', .slice Ap' params'.length cp', .slice Av' vars'.length cv', .slice Ab' body'.length cb', .slice Ae' ends'.length ce'] 62)).cell? ⟨W.heap.size, 2, none⟩ = some (.slice Av vars.length cv) := by rw [HBa.out.cell 2]; rfl
  have k3 : ((W.alloc (.cells #[.string nm, .slice Ap params.length cp, .slice Av vars.length cv, .slice Ab body.length cb, .slice Ae ends.length ce] 62)).alloc (.cells #[.string nm', .slice Ap' params'.length cp', .slice Av' vars'.length cv', .slice Ab' body'.length cb', .slice Ae' ends'.length ce'] 62)).cell? ⟨W.heap.size, 3, none⟩ = some (.slice Ab body.length cb) := by rw [HBa.out.cell 3]; rfl
  have k4 : ((W.alloc (.cells #[.string nm, .slice Ap params.length cp, .slice Av vars.length cv, .slice Ab body.length cb, .slice Ae ends.length ce] 62)).alloc (.cells #[.string nm', .slice Ap' params'.length cp', .slice Av' vars'.length cv', .slice Ab' body'.length cb', .slice Ae' ends'.length ce'] 62)).cell? ⟨W.heap.size, 4, none⟩ = some (.slice Ae ends.length ce) := by rw [HBa.out.cell 4]; rfl
  have k5 : ((W.alloc (.cells #[.string nm, .slice Ap params.length cp, .slice Av vars.length cv, .slice Ab body.length cb, .slice Ae ends.length ce] 62)).alloc (.cells #[.string nm', .slice Ap' params'.length cp', .slice Av' vars'.length cv', .slice Ab' body'.length cb', .slice Ae' ends'.length ce'] 62)).cell? ⟨W.heap.size + 1, 0, none⟩ = some (.string nm') := by rw [HBb.out.cell 0]; rfl
  have k6 : ((W.alloc (.cells #[.string nm, .slice Ap params.length cp, .slice Av vars.length cv, .slice Ab body.length cb, .slice Ae ends.length ce] 62)).alloc (.cells #[.string nm', .slice Ap' params'.length cp', .slice Av' vars'.length cv', .slice Ab' body'.length cb', .slice Ae' ends'.length ce'] 62)).cell? ⟨W.heap.size + 1, 1, none⟩ = some (.slice Ap' params'.length cp') := by rw [HBb.out.cell 1]; rfl
  have k7 : ((W.alloc (.cells #[.string nm, .slice Ap params.length cp, .slice Av vars.length cv, .slice Ab body.length cb, .slice Ae ends.length ce] 62)).alloc (.cells #[.string nm', .slice Ap' params'.length cp', .slice Av' vars'.length cv', .slice Ab' body'.length cb', .slice Ae' ends'.length ce'] 62)).cell? ⟨W.heap.size + 1, 2, none⟩ = some (.slice Av' vars'.length cv') := by rw [HBb.out.cell 2]; rfl
  have k8 : ((W.alloc (.cells #[.string nm, .slice Ap params.length cp, .slice Av vars.length cv, .slice Ab body.length cb, .slice Ae ends.length ce] 62)).alloc (.cells #[.string nm', .slice Ap' params'.length cp', .slice Av' vars'.length cv', .slice Ab' body'.length cb', .slice Ae' ends'.length ce'] 62)).cell? ⟨W.heap.size + 1, 3, none⟩ = some (.slice Ab' body'.length cb') := by rw [HBb.out.cell 3]; rfl
  have k9 : ((W.alloc (.cells #[.string nm, .slice Ap params.length cp, .slice Av vars.length cv, .slice Ab body.length cb, .slice Ae ends.length ce] 62)).alloc (.cells #[.string nm', .slice Ap' params'.length cp', .slice Av' vars'.length cv', .slice Ab' body'.length cb', .slice Ae' ends'.length ce'] 62)).cell? ⟨W.heap.size + 1, 4, none⟩ = some (.slice Ae' ends'.length ce') := by rw [HBb.out.cell 4]; rfl
  have HIa := Lib.hid (HI1.out.on HBW.out)
  have HIb := Lib.hid (HI2.out.on HBW.out)
  cases e0 : (nm.toList == nm'.toList) with
  | false =>
    go_enter Try.func72, Try.ntmps72
    go_wp2_with fail
    go_quiet (fail)
    go_wp2_with fail
    go_ret
    exact ⟨ret_bool (by simp), below_drewN HBW.out _⟩
  | true =>
  obtain ⟨b1, hb1⟩ : ∃ b, b = eqB params params' := ⟨_, rfl⟩
  rw [← hb1] at HP ⊢
  clear hb1
  cases b1 with
  | false =>
    go_enter Try.func72, Try.ntmps72
    go_wp2_with fail
    generalize World.alloc _ _ = V at HBa HBb HBW HIa HIb k0 k1 k2 k3 k4 k5 k6 k7 k8 k9 L0 L1 ⊢
    rename_i KK hKK
    refine region_qw (C := fun w' => Below V.heap.size V w') (l := opsSP) (by kernel_rfl) (by kernel_rfl) lexSP (Below.refl _ _).drew ?_
    refine spF1 (a := ⟨W.heap.size, 0, none⟩) (b := ⟨W.heap.size + 1, 0, none⟩) (box_cell HBa.out) (box_cell HBb.out) e0 (fun w hw => (HP.out w (HIa.out.on hw) (HIb.out.on hw)).mono fun e w' ⟨h, k⟩ => ⟨h, hw.trans (k.mono hw.size)⟩) _ (by kernel_rfl) rfl rfl rfl ?_
    intro f hz hdf F
    refine qw_end (by rw [lenSP]; decide) ?_
    intro w' hw'
    have key : MayOk false W (.returned (f.tmps.getD 4 undef)) w' := ⟨by rw [Array.getD_eq_getD_getElem?, F]; rfl, HBW.out.trans (hw'.mono HBW.out.size)⟩
    simp only [Bool.true_and, Bool.and_true, Bool.false_and, Bool.and_false] at hKK
    have fin := bodyPost_ret (P := Try.prog) (R := MayOk false W) (results_tmp Try.results72 f.tmps Try.prog w') hdf key
    exact hKK f w' (wp_ret fin)
  | true =>
  obtain ⟨b2, hb2⟩ : ∃ b, b = eqB vars vars' := ⟨_, rfl⟩
  rw [← hb2] at HV ⊢
  clear hb2
  cases b2 with
  | false =>
    go_enter Try.func72, Try.ntmps72
    go_wp2_with fail
    generalize World.alloc _ _ = V at HBa HBb HBW HIa HIb k0 k1 k2 k3 k4 k5 k6 k7 k8 k9 L0 L1 ⊢
    rename_i KK hKK
    refine region_qw (C := fun w' => Below V.heap.size V w') (l := opsSP) (by kernel_rfl) (by kernel_rfl) lexSP (Below.refl _ _).drew ?_
    refine spF2 (a := ⟨W.heap.size, 0, none⟩) (b := ⟨W.heap.size + 1, 0, none⟩) (box_cell HBa.out) (box_cell HBb.out) e0 (fun w hw => (HP.out w (HIa.out.on hw) (HIb.out.on hw)).mono fun e w' ⟨h, k⟩ => ⟨h, hw.trans (k.mono hw.size)⟩) (fun w hw => (HV.out w (HIa.out.on hw) (HIb.out.on hw)).mono fun e w' ⟨h, k⟩ => ⟨h, hw.trans (k.mono hw.size)⟩) _ (by kernel_rfl) rfl rfl rfl ?_
    intro f hz hdf F
    refine qw_end (by rw [lenSP]; decide) ?_
    intro w' hw'
    have key : MayOk false W (.returned (f.tmps.getD 4 undef)) w' := ⟨by rw [Array.getD_eq_getD_getElem?, F]; rfl, HBW.out.trans (hw'.mono HBW.out.size)⟩
    simp only [Bool.true_and, Bool.and_true, Bool.false_and, Bool.and_false] at hKK
    have fin := bodyPost_ret (P := Try.prog) (R := MayOk false W) (results_tmp Try.results72 f.tmps Try.prog w') hdf key
    exact hKK f w' (wp_ret fin)
  | true =>
  obtain ⟨b3, hb3⟩ : ∃ b, b = eqB ends ends' := ⟨_, rfl⟩
  rw [← hb3] at HE ⊢
  clear hb3
  cases b3 with
  | false =>
    go_enter Try.func72, Try.ntmps72
    go_wp2_with fail
    generalize World.alloc _ _ = V at HBa HBb HBW HIa HIb k0 k1 k2 k3 k4 k5 k6 k7 k8 k9 L0 L1 ⊢
    rename_i KK hKK
    refine region_qw (C := fun w' => Below V.heap.size V w') (l := opsSP) (by kernel_rfl) (by kernel_rfl) lexSP (Below.refl _ _).drew ?_
    refine spF3 (a := ⟨W.heap.size, 0, none⟩) (b := ⟨W.heap.size + 1, 0, none⟩) (box_cell HBa.out) (box_cell HBb.out) e0 (fun w hw => (HP.out w (HIa.out.on hw) (HIb.out.on hw)).mono fun e w' ⟨h, k⟩ => ⟨h, hw.trans (k.mono hw.size)⟩) (fun w hw => (HV.out w (HIa.out.on hw) (HIb.out.on hw)).mono fun e w' ⟨h, k⟩ => ⟨h, hw.trans (k.mono hw.size)⟩) (fun w hw => (HE.out w (HIa.out.on hw) (HIb.out.on hw)).mono fun e w' ⟨h, k⟩ => ⟨h, hw.trans (k.mono hw.size)⟩) _ (by kernel_rfl) rfl rfl rfl ?_
    intro f hz hdf F
    refine qw_end (by rw [lenSP]; decide) ?_
    intro w' hw'
    have key : MayOk false W (.returned (f.tmps.getD 4 undef)) w' := ⟨by rw [Array.getD_eq_getD_getElem?, F]; rfl, HBW.out.trans (hw'.mono HBW.out.size)⟩
    simp only [Bool.true_and, Bool.and_true, Bool.false_and, Bool.and_false] at hKK
    have fin := bodyPost_ret (P := Try.prog) (R := MayOk false W) (results_tmp Try.results72 f.tmps Try.prog w') hdf key
    exact hKK f w' (wp_ret fin)
  | true =>
    go_enter Try.func72, Try.ntmps72
    go_wp2_with fail
    generalize World.alloc _ _ = V at HBa HBb HBW HIa HIb k0 k1 k2 k3 k4 k5 k6 k7 k8 k9 L0 L1 ⊢
    go_region_held3 (fun w' => w'.cell? ⟨W.heap.size, 0, none⟩ = some (.string nm) ∧ w'.cell? ⟨W.heap.size, 1, none⟩ = some (.slice Ap params.length cp) ∧ w'.cell? ⟨W.heap.size, 2, none⟩ = some (.slice Av vars.length cv) ∧ w'.cell? ⟨W.heap.size, 3, none⟩ = some (.slice Ab body.length cb) ∧ w'.cell? ⟨W.heap.size, 4, none⟩ = some (.slice Ae ends.length ce) ∧ w'.cell? ⟨W.heap.size + 1, 0, none⟩ = some (.string nm') ∧ w'.cell? ⟨W.heap.size + 1, 1, none⟩ = some (.slice Ap' params'.length cp') ∧ w'.cell? ⟨W.heap.size + 1, 2, none⟩ = some (.slice Av' vars'.length cv') ∧ w'.cell? ⟨W.heap.size + 1, 3, none⟩ = some (.slice Ab' body'.length cb') ∧ w'.cell? ⟨W.heap.size + 1, 4, none⟩ = some (.slice Ae' ends'.length ce'))
      (go_keep)
      (first
        | ((go_at_call 111; (with_reducible refine (HP.out _ ?ia ?ib).mono ?_); (case ia => exact HIa.out.heap (by rfl)); (case ib => exact HIb.out.heap (by rfl)); rintro e q1 ⟨rfl, hb1⟩; have HIa_1 := Lib.hid ((HIa.out.heap (W' := _) (by rfl)).on hb1); have HIb_1 := Lib.hid ((HIb.out.heap (W' := _) (by rfl)).on hb1); have HBW_1 : Hid (Below W.heap.size W q1) := Lib.hid (below_on HBW.out (by rfl) (by rfl) (by rfl) (by rfl) hb1); have HVV_1 : Hid (Below V.heap.size V q1) := Lib.hid (below_on (Below.refl _ _) (by rfl) (by rfl) (by rfl) (by rfl) hb1); have k0_1 : q1.cell? ⟨W.heap.size, 0, none⟩ = some (.string nm) := keepS (by rfl) hb1 (p := ⟨W.heap.size, 0, none⟩) L0 k0; have k1_1 : q1.cell? ⟨W.heap.size, 1, none⟩ = some (.slice Ap params.length cp) := keepS (by rfl) hb1 (p := ⟨W.heap.size, 1, none⟩) L0 k1; have k2_1 : q1.cell? ⟨W.heap.size, 2, none⟩ = some (.slice Av vars.length cv) := keepS (by rfl) hb1 (p := ⟨W.heap.size, 2, none⟩) L0 k2; have k3_1 : q1.cell? ⟨W.heap.size, 3, none⟩ = some (.slice Ab body.length cb) := keepS (by rfl) hb1 (p := ⟨W.heap.size, 3, none⟩) L0 k3; have k4_1 : q1.cell? ⟨W.heap.size, 4, none⟩ = some (.slice Ae ends.length ce) := keepS (by rfl) hb1 (p := ⟨W.heap.size, 4, none⟩) L0 k4; have k5_1 : q1.cell? ⟨W.heap.size + 1, 0, none⟩ = some (.string nm') := keepS (by rfl) hb1 (p := ⟨W.heap.size + 1, 0, none⟩) L1 k5; have k6_1 : q1.cell? ⟨W.heap.size + 1, 1, none⟩ = some (.slice Ap' params'.length cp') := keepS (by rfl) hb1 (p := ⟨W.heap.size + 1, 1, none⟩) L1 k6; have k7_1 : q1.cell? ⟨W.heap.size + 1, 2, none⟩ = some (.slice Av' vars'.length cv') := keepS (by rfl) hb1 (p := ⟨W.heap.size + 1, 2, none⟩) L1 k7; have k8_1 : q1.cell? ⟨W.heap.size + 1, 3, none⟩ = some (.slice Ab' body'.length cb') := keepS (by rfl) hb1 (p := ⟨W.heap.size + 1, 3, none⟩) L1 k8; have k9_1 : q1.cell? ⟨W.heap.size + 1, 4, none⟩ = some (.slice Ae' ends'.length ce') := keepS (by rfl) hb1 (p := ⟨W.heap.size + 1, 4, none⟩) L1 k9; have L0_1 := Nat.lt_of_lt_of_le L0 (show V.heap.size ≤ q1.heap.size from hb1.size); have L1_1 := Nat.lt_of_lt_of_le L1 (show V.heap.size ≤ q1.heap.size from hb1.size); clear hb1))
        | ((go_at_call 70; (with_reducible refine (HV.out _ ?ia ?ib).mono ?_); (case ia => exact HIa_1.out.heap (by rfl)); (case ib => exact HIb_1.out.heap (by rfl)); rintro e q2 ⟨rfl, hb2⟩; have HIa_2 := Lib.hid ((HIa_1.out.heap (W' := _) (by rfl)).on hb2); have HIb_2 := Lib.hid ((HIb_1.out.heap (W' := _) (by rfl)).on hb2); have HBW_2 : Hid (Below W.heap.size W q2) := Lib.hid (below_on HBW_1.out (by rfl) (by rfl) (by rfl) (by rfl) hb2); have HVV_2 : Hid (Below V.heap.size V q2) := Lib.hid (below_on HVV_1.out (by rfl) (by rfl) (by rfl) (by rfl) hb2); have k0_2 : q2.cell? ⟨W.heap.size, 0, none⟩ = some (.string nm) := keepS (by rfl) hb2 (p := ⟨W.heap.size, 0, none⟩) L0_1 k0_1; have k1_2 : q2.cell? ⟨W.heap.size, 1, none⟩ = some (.slice Ap params.length cp) := keepS (by rfl) hb2 (p := ⟨W.heap.size, 1, none⟩) L0_1 k1_1; have k2_2 : q2.cell? ⟨W.heap.size, 2, none⟩ = some (.slice Av vars.length cv) := keepS (by rfl) hb2 (p := ⟨W.heap.size, 2, none⟩) L0_1 k2_1; have k3_2 : q2.cell? ⟨W.heap.size, 3, none⟩ = some (.slice Ab body.length cb) := keepS (by rfl) hb2 (p := ⟨W.heap.size, 3, none⟩) L0_1 k3_1; have k4_2 : q2.cell? ⟨W.heap.size, 4, none⟩ = some (.slice Ae ends.length ce) := keepS (by rfl) hb2 (p := ⟨W.heap.size, 4, none⟩) L0_1 k4_1; have k5_2 : q2.cell? ⟨W.heap.size + 1, 0, none⟩ = some (.string nm') := keepS (by rfl) hb2 (p := ⟨W.heap.size + 1, 0, none⟩) L1_1 k5_1; have k6_2 : q2.cell? ⟨W.heap.size + 1, 1, none⟩ = some (.slice Ap' params'.length cp') := keepS (by rfl) hb2 (p := ⟨W.heap.size + 1, 1, none⟩) L1_1 k6_1; have k7_2 : q2.cell? ⟨W.heap.size + 1, 2, none⟩ = some (.slice Av' vars'.length cv') := keepS (by rfl) hb2 (p := ⟨W.heap.size + 1, 2, none⟩) L1_1 k7_1; have k8_2 : q2.cell? ⟨W.heap.size + 1, 3, none⟩ = some (.slice Ab' body'.length cb') := keepS (by rfl) hb2 (p := ⟨W.heap.size + 1, 3, none⟩) L1_1 k8_1; have k9_2 : q2.cell? ⟨W.heap.size + 1, 4, none⟩ = some (.slice Ae' ends'.length ce') := keepS (by rfl) hb2 (p := ⟨W.heap.size + 1, 4, none⟩) L1_1 k9_1; have L0_2 := Nat.lt_of_lt_of_le L0_1 (show q1.heap.size ≤ q2.heap.size from hb2.size); have L1_2 := Nat.lt_of_lt_of_le L1_1 (show q1.heap.size ≤ q2.heap.size from hb2.size); clear hb2))
        | ((go_at_call 70; (with_reducible refine (HE.out _ ?ia ?ib).mono ?_); (case ia => exact HIa_2.out.heap (by rfl)); (case ib => exact HIb_2.out.heap (by rfl)); rintro e q3 ⟨rfl, hb3⟩; have HIa_3 := Lib.hid ((HIa_2.out.heap (W' := _) (by rfl)).on hb3); have HIb_3 := Lib.hid ((HIb_2.out.heap (W' := _) (by rfl)).on hb3); have HBW_3 : Hid (Below W.heap.size W q3) := Lib.hid (below_on HBW_2.out (by rfl) (by rfl) (by rfl) (by rfl) hb3); have HVV_3 : Hid (Below V.heap.size V q3) := Lib.hid (below_on HVV_2.out (by rfl) (by rfl) (by rfl) (by rfl) hb3); have k0_3 : q3.cell? ⟨W.heap.size, 0, none⟩ = some (.string nm) := keepS (by rfl) hb3 (p := ⟨W.heap.size, 0, none⟩) L0_2 k0_2; have k1_3 : q3.cell? ⟨W.heap.size, 1, none⟩ = some (.slice Ap params.length cp) := keepS (by rfl) hb3 (p := ⟨W.heap.size, 1, none⟩) L0_2 k1_2; have k2_3 : q3.cell? ⟨W.heap.size, 2, none⟩ = some (.slice Av vars.length cv) := keepS (by rfl) hb3 (p := ⟨W.heap.size, 2, none⟩) L0_2 k2_2; have k3_3 : q3.cell? ⟨W.heap.size, 3, none⟩ = some (.slice Ab body.length cb) := keepS (by rfl) hb3 (p := ⟨W.heap.size, 3, none⟩) L0_2 k3_2; have k4_3 : q3.cell? ⟨W.heap.size, 4, none⟩ = some (.slice Ae ends.length ce) := keepS (by rfl) hb3 (p := ⟨W.heap.size, 4, none⟩) L0_2 k4_2; have k5_3 : q3.cell? ⟨W.heap.size + 1, 0, none⟩ = some (.string nm') := keepS (by rfl) hb3 (p := ⟨W.heap.size + 1, 0, none⟩) L1_2 k5_2; have k6_3 : q3.cell? ⟨W.heap.size + 1, 1, none⟩ = some (.slice Ap' params'.length cp') := keepS (by rfl) hb3 (p := ⟨W.heap.size + 1, 1, none⟩) L1_2 k6_2; have k7_3 : q3.cell? ⟨W.heap.size + 1, 2, none⟩ = some (.slice Av' vars'.length cv') := keepS (by rfl) hb3 (p := ⟨W.heap.size + 1, 2, none⟩) L1_2 k7_2; have k8_3 : q3.cell? ⟨W.heap.size + 1, 3, none⟩ = some (.slice Ab' body'.length cb') := keepS (by rfl) hb3 (p := ⟨W.heap.size + 1, 3, none⟩) L1_2 k8_2; have k9_3 : q3.cell? ⟨W.heap.size + 1, 4, none⟩ = some (.slice Ae' ends'.length ce') := keepS (by rfl) hb3 (p := ⟨W.heap.size + 1, 4, none⟩) L1_2 k9_2; have L0_3 := Nat.lt_of_lt_of_le L0_2 (show q2.heap.size ≤ q3.heap.size from hb3.size); have L1_3 := Nat.lt_of_lt_of_le L1_2 (show q2.heap.size ≤ q3.heap.size from hb3.size); clear hb3))
        | ((go_at_call 61; (with_reducible refine (HC1.out _).mono ?_); rintro e q4 ⟨c4, v4, rfl, hw4, hb4, hc4, hj4⟩; have HIa_4 := Lib.hid ((HIa_3.out.heap (W' := _) (by rfl)).on hb4); have HIb_4 := Lib.hid ((HIb_3.out.heap (W' := _) (by rfl)).on hb4); have HBW_4 : Hid (Below W.heap.size W q4) := Lib.hid (below_on HBW_3.out (by rfl) (by rfl) (by rfl) (by rfl) hb4); have HVV_4 : Hid (Below V.heap.size V q4) := Lib.hid (below_on HVV_3.out (by rfl) (by rfl) (by rfl) (by rfl) hb4); have k0_4 : q4.cell? ⟨W.heap.size, 0, none⟩ = some (.string nm) := keepS (by rfl) hb4 (p := ⟨W.heap.size, 0, none⟩) L0_3 k0_3; have k1_4 : q4.cell? ⟨W.heap.size, 1, none⟩ = some (.slice Ap params.length cp) := keepS (by rfl) hb4 (p := ⟨W.heap.size, 1, none⟩) L0_3 k1_3; have k2_4 : q4.cell? ⟨W.heap.size, 2, none⟩ = some (.slice Av vars.length cv) := keepS (by rfl) hb4 (p := ⟨W.heap.size, 2, none⟩) L0_3 k2_3; have k3_4 : q4.cell? ⟨W.heap.size, 3, none⟩ = some (.slice Ab body.length cb) := keepS (by rfl) hb4 (p := ⟨W.heap.size, 3, none⟩) L0_3 k3_3; have k4_4 : q4.cell? ⟨W.heap.size, 4, none⟩ = some (.slice Ae ends.length ce) := keepS (by rfl) hb4 (p := ⟨W.heap.size, 4, none⟩) L0_3 k4_3; have k5_4 : q4.cell? ⟨W.heap.size + 1, 0, none⟩ = some (.string nm') := keepS (by rfl) hb4 (p := ⟨W.heap.size + 1, 0, none⟩) L1_3 k5_3; have k6_4 : q4.cell? ⟨W.heap.size + 1, 1, none⟩ = some (.slice Ap' params'.length cp') := keepS (by rfl) hb4 (p := ⟨W.heap.size + 1, 1, none⟩) L1_3 k6_3; have k7_4 : q4.cell? ⟨W.heap.size + 1, 2, none⟩ = some (.slice Av' vars'.length cv') := keepS (by rfl) hb4 (p := ⟨W.heap.size + 1, 2, none⟩) L1_3 k7_3; have k8_4 : q4.cell? ⟨W.heap.size + 1, 3, none⟩ = some (.slice Ab' body'.length cb') := keepS (by rfl) hb4 (p := ⟨W.heap.size + 1, 3, none⟩) L1_3 k8_3; have k9_4 : q4.cell? ⟨W.heap.size + 1, 4, none⟩ = some (.slice Ae' ends'.length ce') := keepS (by rfl) hb4 (p := ⟨W.heap.size + 1, 4, none⟩) L1_3 k9_3; have L0_4 := Nat.lt_of_lt_of_le L0_3 (show q3.heap.size ≤ q4.heap.size from hb4.size); have L1_4 := Nat.lt_of_lt_of_le L1_3 (show q3.heap.size ≤ q4.heap.size from hb4.size)))
        | ((go_at_call 61; (with_reducible refine (HC2.out _).mono ?_); rintro e q5 ⟨c5, v5, rfl, hw5, hb5, hc5, hj5⟩; have HIa_5 := Lib.hid ((HIa_4.out.heap (W' := _) (by rfl)).on hb5); have HIb_5 := Lib.hid ((HIb_4.out.heap (W' := _) (by rfl)).on hb5); have HBW_5 : Hid (Below W.heap.size W q5) := Lib.hid (below_on HBW_4.out (by rfl) (by rfl) (by rfl) (by rfl) hb5); have HVV_5 : Hid (Below V.heap.size V q5) := Lib.hid (below_on HVV_4.out (by rfl) (by rfl) (by rfl) (by rfl) hb5); have k0_5 : q5.cell? ⟨W.heap.size, 0, none⟩ = some (.string nm) := keepS (by rfl) hb5 (p := ⟨W.heap.size, 0, none⟩) L0_4 k0_4; have k1_5 : q5.cell? ⟨W.heap.size, 1, none⟩ = some (.slice Ap params.length cp) := keepS (by rfl) hb5 (p := ⟨W.heap.size, 1, none⟩) L0_4 k1_4; have k2_5 : q5.cell? ⟨W.heap.size, 2, none⟩ = some (.slice Av vars.length cv) := keepS (by rfl) hb5 (p := ⟨W.heap.size, 2, none⟩) L0_4 k2_4; have k3_5 : q5.cell? ⟨W.heap.size, 3, none⟩ = some (.slice Ab body.length cb) := keepS (by rfl) hb5 (p := ⟨W.heap.size, 3, none⟩) L0_4 k3_4; have k4_5 : q5.cell? ⟨W.heap.size, 4, none⟩ = some (.slice Ae ends.length ce) := keepS (by rfl) hb5 (p := ⟨W.heap.size, 4, none⟩) L0_4 k4_4; have k5_5 : q5.cell? ⟨W.heap.size + 1, 0, none⟩ = some (.string nm') := keepS (by rfl) hb5 (p := ⟨W.heap.size + 1, 0, none⟩) L1_4 k5_4; have k6_5 : q5.cell? ⟨W.heap.size + 1, 1, none⟩ = some (.slice Ap' params'.length cp') := keepS (by rfl) hb5 (p := ⟨W.heap.size + 1, 1, none⟩) L1_4 k6_4; have k7_5 : q5.cell? ⟨W.heap.size + 1, 2, none⟩ = some (.slice Av' vars'.length cv') := keepS (by rfl) hb5 (p := ⟨W.heap.size + 1, 2, none⟩) L1_4 k7_4; have k8_5 : q5.cell? ⟨W.heap.size + 1, 3, none⟩ = some (.slice Ab' body'.length cb') := keepS (by rfl) hb5 (p := ⟨W.heap.size + 1, 3, none⟩) L1_4 k8_4; have k9_5 : q5.cell? ⟨W.heap.size + 1, 4, none⟩ = some (.slice Ae' ends'.length ce') := keepS (by rfl) hb5 (p := ⟨W.heap.size + 1, 4, none⟩) L1_4 k9_4; have L0_5 := Nat.lt_of_lt_of_le L0_4 (show q4.heap.size ≤ q5.heap.size from hb5.size); have L1_5 := Nat.lt_of_lt_of_le L1_4 (show q4.heap.size ≤ q5.heap.size from hb5.size); have HK1 := Lib.hid (hw4.on (U := _) (by rfl) hb5); have HK2 := Lib.hid hw5; have HKd := Lib.hid (two_apartS (w2 := w2) (w' := q5) (Q2 := Q2) (R2 := preSL body') hw4 (U := _) (by rfl) hc5 hj5); have hc4' : V.heap.size ≤ c4 := Nat.le_trans HVV_3.out.size hc4; have hc5' : V.heap.size ≤ c5 := Nat.le_trans HVV_4.out.size hc5; have hc6 := hw5.lt.1; clear hw4 hw5 hb4 hb5 hc4 hc5 hj4 hj5))
        | ((go_at_call 112; refine (sameNodesS_any (W := _) (B := V.heap.size) (b1 := c4) (b2 := c5) (HK1.out.heap (by rfl)) (HK2.out.heap (by rfl)) (HIa_5.out.heap (by rfl)) (HIb_5.out.heap (by rfl)) HIa.out.1 HIb.out.1 hc4' hc5' (Nat.le_refl _) (Nat.le_refl _) (Nat.le_of_lt hc6) HKd.out HZ1.out.1 HZ2.out.1 HZ1.out.2 HZ2.out.2).mono ?_; rintro e q6 ⟨rfl, hb6⟩; have HBW_6 : Hid (Below W.heap.size W q6) := Lib.hid ((below_re HBW_5.out (W' := _) (by rfl) (by rfl) (by rfl) (by rfl)).trans (hb6.mono HBW.out.size)); have k0_6 : q6.cell? ⟨W.heap.size, 0, none⟩ = some (.string nm) := (hb6.cell (p := ⟨W.heap.size, 0, none⟩) L0).trans k0_5; have k1_6 : q6.cell? ⟨W.heap.size, 1, none⟩ = some (.slice Ap params.length cp) := (hb6.cell (p := ⟨W.heap.size, 1, none⟩) L0).trans k1_5; have k2_6 : q6.cell? ⟨W.heap.size, 2, none⟩ = some (.slice Av vars.length cv) := (hb6.cell (p := ⟨W.heap.size, 2, none⟩) L0).trans k2_5; have k3_6 : q6.cell? ⟨W.heap.size, 3, none⟩ = some (.slice Ab body.length cb) := (hb6.cell (p := ⟨W.heap.size, 3, none⟩) L0).trans k3_5; have k4_6 : q6.cell? ⟨W.heap.size, 4, none⟩ = some (.slice Ae ends.length ce) := (hb6.cell (p := ⟨W.heap.size, 4, none⟩) L0).trans k4_5; have k5_6 : q6.cell? ⟨W.heap.size + 1, 0, none⟩ = some (.string nm') := (hb6.cell (p := ⟨W.heap.size + 1, 0, none⟩) L1).trans k5_5; have k6_6 : q6.cell? ⟨W.heap.size + 1, 1, none⟩ = some (.slice Ap' params'.length cp') := (hb6.cell (p := ⟨W.heap.size + 1, 1, none⟩) L1).trans k6_5; have k7_6 : q6.cell? ⟨W.heap.size + 1, 2, none⟩ = some (.slice Av' vars'.length cv') := (hb6.cell (p := ⟨W.heap.size + 1, 2, none⟩) L1).trans k7_5; have k8_6 : q6.cell? ⟨W.heap.size + 1, 3, none⟩ = some (.slice Ab' body'.length cb') := (hb6.cell (p := ⟨W.heap.size + 1, 3, none⟩) L1).trans k8_5; have k9_6 : q6.cell? ⟨W.heap.size + 1, 4, none⟩ = some (.slice Ae' ends'.length ce') := (hb6.cell (p := ⟨W.heap.size + 1, 4, none⟩) L1).trans k9_5)))
    go_wp2_with fail
    go_ret
    exact ⟨ret_bool (by simp), HBW_6.out⟩
end Go.Proofs.Ytnnblklbjbkikaa
namespace Go.Proofs.Ytnnblklbjbkikaa
open Go.ChangeShapes Go.WideShapes Go.ChangeAt Go.RowKit Go.Deep
set_option linter.unusedVariables false
set_option linter.unusedSimpArgs false
set_option maxHeartbeats 2000000 in
theorem EqualQ_any {w1 w2 W : World} {Q1 Q2 : Nat → Prop} {l1 l2 : List Pr} {v1 v2 : Value} (h1 : SliceI w1 Q1 5 (ProcI w1 Q1) l1 v1) (h2 : SliceI w2 Q2 5 (ProcI w2 Q2) l2 v2) (hI1 : In Q1 w1 W) (hI2 : In Q2 w2 W) (hz1 : szQ l1) (hz2 : szQ l2) :
    Calls Try.prog 71 #[v1, v2, .func (.func 72) #[] #[]] W (MayOk (eqB l1 l2) W) := by
  obtain ⟨A1, k1, rfl, hlc1, hc1⟩ := h1.shape
  obtain ⟨A2, k2, rfl, hlc2, hc2⟩ := h2.shape
  have H1 := Lib.hid h1
  have H2 := Lib.hid h2
  have HI1 := Lib.hid hI1
  have HI2 := Lib.hid hI2
  have HZ1 := Lib.hid hz1
  have HZ2 := Lib.hid hz2
  clear h1 h2 hI1 hI2 hz1 hz2
  cases hl : (((l1.length : Nat) : Int) == ((l2.length : Nat) : Int)) with
  | false =>
    have hne : l1.length ≠ l2.length := by intro e; rw [e] at hl; simp at hl
    have HM : Hid (eqB l1 l2 = false) := Lib.hid (eqB_ne (by rintro rfl; exact hne rfl))
    have hb : (((l1.length : Nat) : Int) != ((l2.length : Nat) : Int)) = true := by rw [bne, hl]; rfl
    clear hl hne
    go_enter Try.func71, Try.ntmps71
    go_wp2_with fail
    go_ret
    exact ⟨ret_bool HM.out.symm, Below.refl _ _⟩
  | true =>
    have heq : l1.length = l2.length := by have := eq_of_beq hl; omega
    have hb : (((l1.length : Nat) : Int) != ((l2.length : Nat) : Int)) = false := by rw [bne, hl]; rfl
    have he1 : l1.length ≤ l2.length := by omega
    have he2 : l2.length ≤ l1.length := by omega
    clear hl heq
    go_enter Try.func71, Try.ntmps71
    go_wp2_with fail
    go_loopw [17] (fun i wr => ∃ k : Nat, k ≤ l1.length ∧ i = .int .i64 k ∧ Hid (l1.take k = l2.take k) ∧ Hid (Below W.heap.size W wr)) (fun i _ => l1.length - (intOf i).toNat)
    case atStart => exact ⟨0, Nat.zero_le _, rfl, Lib.hid (by simp), Lib.hid (Below.refl _ _)⟩
    case round =>
      obtain ⟨k, hk, rfl, HT, HR⟩ := hrel
      by_cases hlt : k < l1.length
      · have hlt2 : k < l2.length := by omega
        obtain ⟨a1, Ap, cp, Av, cv, Ab, cb, Ae, ce, rfl, hqa, ⟨p0, p1, p2, p3, p4, _⟩, _, g1, g2, g3, g4⟩ := proc_at H1.out (HI1.out.on HR.out) hlt
        obtain ⟨a2, Ap', cp', Av', cv', Ab', cb', Ae', ce', rfl, hqb, ⟨r0, r1, r2, r3, r4, _⟩, _, g1', g2', g3', g4'⟩ := proc_at H2.out (HI2.out.on HR.out) hlt2
        have hlb : (a2.add (k * 5)).block < wr.heap.size := by rw [block_add]; exact (HI2.out.on HR.out).1 _ hqb
        have hk2 : (k : Int) < (l2.length : Int) := by omega
        have HC := Lib.hid (fun V hV hV' => sameProc_any (W := V) (nm := l1[k].nm) (nm' := l2[k].nm) g1 g2 g3 g4 g1' g2' g3' g4' hV hV' (HZ1.out _ (List.getElem_mem hlt)) (HZ2.out _ (List.getElem_mem hlt2)))
        obtain ⟨x, hx⟩ : ∃ x, x = l1[k] := ⟨_, rfl⟩
        obtain ⟨y, hy⟩ : ∃ y, y = l2[k] := ⟨_, rfl⟩
        have HX : Hid (x = y → l1.take (k + 1) = l2.take (k + 1)) := Lib.hid (fun e => take_eq_step hlt hlt2 HT.out (by rw [← hx, ← hy]; exact e))
        have HY : Hid (x ≠ y → eqB l1 l2 = false) := Lib.hid (fun e => eqB_ne (ne_of_at hlt hlt2 (by rw [← hx, ← hy]; exact e)))
        rw [← hx] at p0 p1 p2 p3 p4 HC
        rw [← hy] at r0 r1 r2 r3 r4 HC
        have HIr1 := Lib.hid (HI1.out.on HR.out)
        have HIr2 := Lib.hid (HI2.out.on HR.out)
        clear hx hy g1 g2 g3 g4 g1' g2' g3' g4' hqa hqb
        obtain ⟨xn, xp, xv, xb, xe⟩ := x
        obtain ⟨yn, yp, yv, yb, ye⟩ := y
        simp only at p0 p1 p2 p3 p4 r0 r1 r2 r3 r4 HC
        cases hv : eqB (⟨xn, xp, xv, xb, xe⟩ : Pr) ⟨yn, yp, yv, yb, ye⟩ with
        | false =>
          have HN := Lib.hid (HY.out (fun e => by rw [e, eqB_self] at hv; cases hv))
          rw [hv] at HC
          clear hv
          go_wp2_with (go_at_call 72; refine (HC.out _ ((HIr1.out.alloc _).alloc _) ((HIr2.out.alloc _).alloc _)).mono ?_; rintro e w3 ⟨rfl, hb3⟩)
          go_ret
          exact ⟨ret_bool HN.out.symm, HR.out.trans (((below_two _ _).trans (hb3.mono (by simp; omega))).mono HR.out.size)⟩
        | true =>
          have HN := Lib.hid (HX.out (eqB_iff.1 hv))
          rw [hv] at HC
          clear hv
          go_wp2_with (go_at_call 72; refine (HC.out _ ((HIr1.out.alloc _).alloc _) ((HIr2.out.alloc _).alloc _)).mono ?_; rintro e w3 ⟨rfl, hb3⟩)
          go_roundw
          case rel => exact ⟨k + 1, by omega, by go_num, HN, Lib.hid (HR.out.trans (((below_two _ _).trans (hb3.mono (by simp; omega))).mono HR.out.size))⟩
          case measure => simp [intOf]; omega
      · have HN : Hid (eqB l1 l2 = true) := Lib.hid (by
          have := HT.out
          rw [List.take_of_length_le (by omega), List.take_of_length_le (by omega)] at this
          exact eqB_iff.2 this)
        go_wp2_with fail
        go_ret
        exact ⟨ret_bool HN.out.symm, HR.out⟩
set_option maxHeartbeats 2000000 in
theorem Eq_any {w1 w2 W : World} {Q1 Q2 : Nat → Prop} {p q : Pg} {a0 a1 b0 b1 : Value} (h1 : ProgI w1 Q1 p [a0, a1]) (h2 : ProgI w2 Q2 q [b0, b1]) (hI1 : In Q1 w1 W) (hI2 : In Q2 w2 W) (hz1 : szQ p.procs) (hz2 : szQ q.procs) :
    Calls Try.prog 23 #[.agg #[a0, a1], .agg #[b0, b1]] W (MayOk (eqB p q) W) := by
  obtain ⟨Ag, cg, Ap, cp, rfl, rfl, _, _, _, _, g1, g2⟩ := prog_open h1
  obtain ⟨Ag', cg', Ap', cp', rfl, rfl, _, _, _, _, g1', g2'⟩ := prog_open h2
  have HT := Lib.hid (fun V hV hV' => EqualT_any (W := V) g1 g1' hV hV')
  have HQ := Lib.hid (fun V hV hV' => EqualQ_any (W := V) g2 g2' hV hV' hz1 hz2)
  rw [eqB_prog]
  simp only [eqB_dec] at HT
  have HI1 := Lib.hid hI1
  have HI2 := Lib.hid hI2
  clear h1 h2 hI1 hI2 g1 g2 g1' g2' hz1 hz2
  obtain ⟨b, hb⟩ : ∃ b, b = eqB p.globals q.globals := ⟨_, rfl⟩
  rw [← hb] at HT ⊢
  clear hb
  cases b with
  | false =>
    go_enter Try.func23, Try.ntmps23
    go_wp2_with (first
      | ((go_at_call 70; (with_reducible refine (HT.out _ ((HI1.out.alloc _).alloc _) ((HI2.out.alloc _).alloc _)).mono ?_); rintro e q1 ⟨rfl, hb1⟩)))
    go_ret
    exact ⟨ret_bool (by simp), (below_two _ _).trans (hb1.mono (by simp; omega))⟩
  | true =>
    have k1 : ((W.alloc (.cells #[.slice Ag p.globals.length cg, .slice Ap p.procs.length cp] 25)).alloc (.cells #[.slice Ag' q.globals.length cg', .slice Ap' q.procs.length cp'] 25)).cell? ⟨W.heap.size, 1, none⟩ = some (.slice Ap p.procs.length cp) := by rw [((Blk.new W 25 #[.slice Ag p.globals.length cg, .slice Ap p.procs.length cp]).alloc _).cell 1]; rfl
    have k2 : ((W.alloc (.cells #[.slice Ag p.globals.length cg, .slice Ap p.procs.length cp] 25)).alloc (.cells #[.slice Ag' q.globals.length cg', .slice Ap' q.procs.length cp'] 25)).cell? ⟨W.heap.size + 1, 1, none⟩ = some (.slice Ap' q.procs.length cp') := by simp
    go_enter Try.func23, Try.ntmps23
    go_wp2_with (first
      | ((go_at_call 70; (with_reducible refine (HT.out _ ((HI1.out.alloc _).alloc _) ((HI2.out.alloc _).alloc _)).mono ?_); rintro e q1 ⟨rfl, hb1⟩; have k1' := (hb1.cell (p := ⟨W.heap.size, 1, none⟩) (by simp; omega)).trans k1; have k2' := (hb1.cell (p := ⟨W.heap.size + 1, 1, none⟩) (by simp)).trans k2))
      | ((go_at_call 71; (with_reducible refine (HQ.out _ (((HI1.out.alloc _).alloc _).on hb1) (((HI2.out.alloc _).alloc _).on hb1)).mono ?_); rintro e q2 ⟨rfl, hb2⟩)))
    go_ret
    exact ⟨ret_bool (by simp), (below_two _ _).trans ((hb1.trans (hb2.mono hb1.size)).mono (by simp; omega))⟩
end Go.Proofs.Ytnnblklbjbkikaa
