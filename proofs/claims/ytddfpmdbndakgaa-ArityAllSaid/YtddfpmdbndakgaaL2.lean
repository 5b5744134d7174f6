/- Texts, merged by a program; only what is used. -/
import Derived.Deep.RegionHeld3
import Derived.Deep.LoopGhost
import Derived.Deep.Cut
import Derived.Deep.CutRange
import Derived.Laws.Rows
import Derived.Test.YtddfpmdbndakgaaK1
import Derived.Test.YtddfpmdbndakgaaK2
import Derived.Test.YtddfpmdbndakgaaK3
import Derived.Test.YtddfpmdbndakgaaK4
import Derived.Test.YtddfpmdbndakgaaK5
import Derived.Test.YtddfpmdbndakgaaK6
import Derived.Test.YtddfpmdbndakgaaK7
import Derived.Test.YtddfpmdbndakgaaK8
import Derived.Test.YtddfpmdbndakgaaK9
import Derived.Test.YtddfpmdbndakgaaK10
import Derived.Test.YtddfpmdbndakgaaK11
import Derived.Test.YtddfpmdbndakgaaK12
import Derived.Test.YtddfpmdbndakgaaK13
import Derived.Test.YtddfpmdbndakgaaK14
import Derived.Test.YtddfpmdbndakgaaK15
import Derived.Test.YtddfpmdbndakgaaK16
import Derived.Test.YtddfpmdbndakgaaK17
import Derived.Test.YtddfpmdbndakgaaK18
import Derived.Test.YtddfpmdbndakgaaK19
import Derived.Test.YtddfpmdbndakgaaK20
import Derived.Test.YtddfpmdbndakgaaK21
import Derived.Test.YtddfpmdbndakgaaK22
import Derived.Test.YtddfpmdbndakgaaK23
import Derived.Test.YtddfpmdbndakgaaK24
import Derived.Test.YtddfpmdbndakgaaK25
import Derived.Test.YtddfpmdbndakgaaK26
import Derived.Test.YtddfpmdbndakgaaK27
import Derived.Test.YtddfpmdbndakgaaK28
import Derived.Test.YtddfpmdbndakgaaK29
import Derived.Test.YtddfpmdbndakgaaK30
import Derived.Test.YtddfpmdbndakgaaL1
namespace Go.Proofs.Ytddfpmdbndakgaa
open Go.ChangeShapes Go.WideShapes Go.ChangeAt Go.RowKit Go.Deep
set_option linter.unusedVariables false
section
variable {α : Type} {C : Nat} {R : World → (Nat → Prop) → α → List Value → Prop} {w W W' : World} {Q : Nat → Prop} {base : Nat} {G : World → Prop} {hs : List (Hole α)} {T : Nat → Prop}
/-- a block more that stays as it is -/
theorem Copy.also {k : Nat} (h : Copy C R w Q base G W hs T) (hk : base ≤ k ∧ k < W.heap.size) (hn : ∀ h ∈ hs, h.b ≠ k) : Copy C R w Q base (fun V => G V ∧ ∀ off, V.cell? ⟨k, off, none⟩ = W.cell? ⟨k, off, none⟩) W hs (fun b => T b ∨ b = k) := by
  refine ⟨fun b hb => ?_, fun x hx => ?_, h.dis, fun V hs' hv hd => ⟨h.compl V hs' (fun p ht hc => hv p (.inl ht) hc) hd, fun off => hv ⟨k, off, none⟩ (.inr rfl) (fun ⟨x, hx, e, _⟩ => hn x hx e)⟩⟩
  · rcases hb with h1 | rfl
    · exact h.tb b h1
    · exact hk
  · obtain ⟨h1, h2⟩ := h.raw x hx
    exact ⟨.inl h1, h2⟩
theorem Copy.start0 {l : List α} {A : Option Addr} {cap : Nat} (hl : l = []) (hc : l.length ≤ cap ∧ cap ≤ 9223372036854775807) : Copy C R w Q base (fun V => SliceI V (nb base V) C (R V (nb base V)) l (.slice A l.length cap)) W [] (fun _ => False) := by
  subst hl
  exact ⟨fun _ h => h.elim, fun _ h => absurd h (by simp), .nil, fun V _ _ _ => ⟨A, cap, fun _ => [], rfl, hc, fun h => absurd h (by simp), fun i h => absurd h (by simp)⟩⟩
end
/-- what is to hold of the copy in the end -/
def GE (base ob : Nat) (op n : Int) (nm : ByteArray) (ks : List E) (A : Option Addr) (cap : Nat) (V : World) : Prop :=
  SliceI V (nb base V) 4 (RE V (nb base V)) ks (.slice A ks.length cap) ∧ V.cell? ⟨ob, 0, none⟩ = some (.int .i64 op) ∧ V.cell? ⟨ob, 1, none⟩ = some (.int .i64 n) ∧ V.cell? ⟨ob, 2, none⟩ = some (.string nm) ∧ V.cell? ⟨ob, 3, none⟩ = some (.slice A ks.length cap)
theorem RelX.start {w V W w' : World} {Q : Nat → Prop} {op n : Int} {nm : ByteArray} {ks : List E} {ob : Nat} {A : Option Addr} {cap : Nat} (h : RelX w Q V op n nm ks ob A cap W) (hb : Below W.heap.size W w') (hl : ks.length ≤ 1000000) :
    ∃ hs T, hs.map slH = pushS [] A ks.length cap ∧ CopyE w Q V.heap.size (GE V.heap.size ob op n nm ks A cap) w' hs T ∧ szH hs = sizL ks ∧ ∀ b, T b → b < W.heap.size := by
  have hB' := h.blk.below hb h.blk.lt
  have fin : ∀ {hs : List (Hole E)} {T : Nat → Prop}, Copy 4 RE w Q V.heap.size (fun V' => SliceI V' (nb V.heap.size V') 4 (RE V' (nb V.heap.size V')) ks (.slice A ks.length cap)) w' hs T → (∀ k ∈ hs, k.b ≠ ob) → CopyE w Q V.heap.size (GE V.heap.size ob op n nm ks A cap) w' hs (fun b => T b ∨ b = ob) := fun hc hn => by
    have h1 := hc.also (k := ob) ⟨h.le, hB'.lt⟩ hn
    refine ⟨h1.tb, h1.raw, h1.dis, fun V' hs' hv hd => ?_⟩
    obtain ⟨h2, h3⟩ := h1.compl V' hs' hv hd
    exact ⟨h2, (h3 0).trans (by rw [hB'.cell]; rfl), (h3 1).trans (by rw [hB'.cell]; rfl), (h3 2).trans (by rw [hB'.cell]; rfl), (h3 3).trans (by rw [hB'.cell]; rfl)⟩
  obtain ⟨h1, h2⟩ := h.kid
  rcases h2 with rfl | ⟨b, css, rfl, rfl, h3, h4, h5, h6⟩
  · exact ⟨[], _, by rw [List.length_nil, pushS_zero]; rfl, fin (Copy.start0 rfl h1) (fun _ h => absurd h (by simp)), by rw [szH, sizL], fun b hb' => by rcases hb' with h | rfl; exact h.elim; exact h.blk.lt⟩
  · have hc := Copy.start (base := V.heap.size) (w := w) (Q := Q) (R := RE) h3 (h5.below hb h5.lt) h6 reOk (by omega) hl
    refine ⟨_, _, ?_, fin hc (fun k hk => ?_), ?_, fun b' hb' => by rcases hb' with rfl | rfl; exact h5.lt; exact h.blk.lt⟩
    · split
      · rename_i h0; rw [h0, pushS_zero]; rfl
      · rw [pushS_pos _ _ _ (by omega)]; rfl
    · split at hk
      · simp at hk
      · have : k = ⟨b, 0, ks, ks.length⟩ := by simpa using hk
        subst this; exact h4
    · split
      · rename_i h0; rw [List.length_eq_zero_iff.1 h0, szH, sizL]
      · rw [szH, szH]; simp
/-- the cursor's answer, while the copy is under way -/
def NextCE (w : World) (Q : Nat → Prop) (base bs c : Nat) (G : World → Prop) (n : Nat) (W : World) (e : Ending) (w' : World) : Prop :=
  ∃ p, e = .returned (.pointer p) ∧ AtCE w Q base bs c G w' p n ∧ Below bs W w'
theorem nextCE_first {w W : World} {Q : Nat → Prop} {base bs c : Nat} {G : World → Prop} {v : Value} {hs : List (Hole E)} {T : Nat → Prop} (hc : CurE W bs c v none (hs.map slH)) (hcp : CopyE w Q base G W hs T) (hd : ∀ b, T b → ¬ ownE c v b) (hbc : bs ≤ c) (hbW : bs ≤ W.heap.size) (hl : szH hs ≤ 1000000) :
    Calls Try.prog 99 #[.pointer (some ⟨c, 0, none⟩)] W (NextCE w Q base bs c G (szH hs) W) := by
  refine (nextE_none bs c v _ W hc (by have := len_szH hc.good; rw [List.length_map]; omega)).mono ?_
  rintro e w' ⟨v', rfl, hc', hm, hj⟩
  exact ⟨_, rfl, pop_copyE (.inl hc) hcp hd hc' hm hj, hm.below hbW (fun j hj => by rcases hj with rfl | hj; exact hbc; exact own_ge hc.row hj)⟩
theorem nextCE_again {w W : World} {Q : Nat → Prop} {base bs c : Nat} {G : World → Prop} {v : Value} {hs new : List (Hole E)} {T : Nat → Prop} {b o : Nat} {A : Option Addr} {n cap : Nat} (hc : CurE W bs c v (some ⟨b, o, none⟩) (hs.map slH)) (hk : W.cell? ⟨b, o + 3, none⟩ = some (.slice A n cap)) (hA : 0 < n → A ≠ none) (hn : n ≤ cap) (hcap : cap ≤ 9223372036854775807)
    (hp : pushS (hs.map slH) A n cap = (new ++ hs).map slH) (hcp : CopyE w Q base G W (new ++ hs) T) (hd : ∀ b, T b → ¬ ownE c v b) (hbc : bs ≤ c) (hbW : bs ≤ W.heap.size) (hl : szH hs ≤ 1000000) :
    Calls Try.prog 99 #[.pointer (some ⟨c, 0, none⟩)] W (NextCE w Q base bs c G (szH (new ++ hs)) W) := by
  refine (nextE_some bs c v _ ⟨b, o, none⟩ A n cap W hc hk hA hn hcap hbW (by have := len_szH hc.good; rw [List.length_map]; omega)).mono ?_
  rintro e w' ⟨v', rfl, hc', hm, hj⟩
  rw [hp] at hc' ⊢
  exact ⟨_, rfl, pop_copyE (last := none) (.inr (by rw [← hp]; exact pushS_goodE hc.good hn hcap)) hcp hd hc' hm hj, hm.below hbW (fun j hj => by rcases hj with rfl | hj; exact hbc; exact own_ge hc.row hj)⟩
set_option maxHeartbeats 4000000 in
theorem cloneExpr_any {w W : World} {Q : Nat → Prop} {x : E} {c0 c1 c2 c3 : Value} (h : ExprI w Q x [c0, c1, c2, c3]) (hI : In Q w W) (hw : wE x ≤ 1000000) :
    Calls Try.prog 143 #[.agg #[c0, c1, c2, c3]] W fun e w' => ∃ v0 v1 v2 v3, e = .returned (.agg #[v0, v1, v2, v3]) ∧ Below W.heap.size W w' ∧ ExprI w' (nw W w') x [v0, v1, v2, v3] := by
  obtain ⟨op, n, nm, ks⟩ := x
  obtain ⟨kv, hcs, hk, hop, hn, hnm⟩ := h.to_slice
  simp only [List.cons.injEq, and_true] at hcs
  obtain ⟨rfl, rfl, rfl, rfl⟩ := hcs
  obtain ⟨A, cap, rfl, hl1, hl2⟩ := hk.shape
  have hwL : wL ks ≤ 1000000 := by rw [wE] at hw; omega
  have hnz : nm.size ≤ 281474976710656 := by rw [wE] at hw; omega
  have HF := Lib.hid (fun V hV => freshE_v (W := V) hk hV hwL)
  have HCl := Lib.hid (fun V => Clone_any nm V hnz)
  have HI := Lib.hid hI
  have HN := Lib.hid (And.intro hop (And.intro hn hnm))
  have hsz : ks.length ≤ 1000000 := Nat.le_trans (wL_len ks) hwL
  clear h hI hk hop hn hnm hnz
  go_enter Try.func143, Try.ntmps143
  go_upto_region 1 with fail
  have HBa : Hid (Blk ((W.alloc (.cells #[.int .i64 op, .int .i64 n, .string nm, .slice A ks.length cap] 41)).alloc (.cells #[.int .i64 0, .int .i64 0, .string ⟨#[]⟩, .slice none 0 0] 41)) W.heap.size 41 #[.int .i64 op, .int .i64 n, .string nm, .slice A ks.length cap]) := Lib.hid ((Blk.new _ _ _).alloc _)
  have HBb : Hid (Blk ((W.alloc (.cells #[.int .i64 op, .int .i64 n, .string nm, .slice A ks.length cap] 41)).alloc (.cells #[.int .i64 0, .int .i64 0, .string ⟨#[]⟩, .slice none 0 0] 41)) (W.heap.size + 1) 41 #[.int .i64 0, .int .i64 0, .string ⟨#[]⟩, .slice none 0 0]) := Lib.hid (by have := Blk.new (W.alloc (.cells #[.int .i64 op, .int .i64 n, .string nm, .slice A ks.length cap] 41)) 41 #[.int .i64 0, .int .i64 0, .string ⟨#[]⟩, .slice none 0 0]; simpa using this)
  have HBW : Hid (Below W.heap.size W ((W.alloc (.cells #[.int .i64 op, .int .i64 n, .string nm, .slice A ks.length cap] 41)).alloc (.cells #[.int .i64 0, .int .i64 0, .string ⟨#[]⟩, .slice none 0 0] 41))) := Lib.hid (below_two _ _)
  generalize World.alloc _ _ = V at HBa HBb HBW ⊢
  have L0 := HBa.out.lt
  have k0 : V.cell? ⟨W.heap.size, 0, none⟩ = some (.int .i64 op) := by rw [HBa.out.cell]; rfl
  have k1 : V.cell? ⟨W.heap.size, 1, none⟩ = some (.int .i64 n) := by rw [HBa.out.cell]; rfl
  have k2 : V.cell? ⟨W.heap.size, 2, none⟩ = some (.string nm) := by rw [HBa.out.cell]; rfl
  have k3 : V.cell? ⟨W.heap.size, 3, none⟩ = some (.slice A ks.length cap) := by rw [HBa.out.cell]; rfl
  have HIV := Lib.hid (HI.out.on HBW.out)
  have HK := Lib.hid (And.intro L0 (And.intro k0 (And.intro k1 (And.intro k2 k3))))
  clear k0 k1 k2 k3
  go_cut [3] from 6 to 16 (fun s wx => ∃ ob A' cap', s = .pointer (some ⟨ob, 0, none⟩) ∧ Hid (RelX w Q V op n nm ks ob A' cap' wx))
  case first =>
    go_region_held3 (fun w' => w'.cell? ⟨W.heap.size, 0, none⟩ = some (.int .i64 op) ∧ w'.cell? ⟨W.heap.size, 1, none⟩ = some (.int .i64 n) ∧ w'.cell? ⟨W.heap.size, 2, none⟩ = some (.string nm) ∧ w'.cell? ⟨W.heap.size, 3, none⟩ = some (.slice A ks.length cap) ∧ Below V.heap.size V w')
      (first | exact sx_of (Below.refl _ _).drew HK.out | exact sx_of (by assumption) HK.out | (go_split_ands; exact sx_of (below_stepA (by assumption) _) HK.out) | (go_split_ands; exact sx_of (below_set4 (by assumption) (by first | exact Nat.le_refl _ | exact hB1.size | exact hB2.size) _ _ _ _) HK.out))
      (first
        | ((go_at_call 84; (with_reducible refine (HCl.out _).mono ?_); rintro e q1 ⟨rfl, hb1⟩; have hB1 := below_step (V := V) (by go_split_ands; assumption) hb1; try (have z1 : Hid (Blk q1 V.heap.size 41 zE) := Lib.hid ((Blk.new V.drew 41 zE).below hb1 (by simp)))))
        | ((go_at_call 158; have hBU := below_step (V := V) (by go_split_ands; assumption) (Below.refl _ _); refine (HF.out _ (HIV.out.on hBU)).mono ?_; rintro e q2 ⟨A', cap', rfl, hf, hb2⟩; have hB2 := below_step (V := V) (by go_split_ands; assumption) hb2; try (first | (have z2 : Hid (Blk q2 V.heap.size 41 zE) := Lib.hid (z1.out.below hb2 z1.out.lt)) | (have z2 : Hid (Blk q2 q1.heap.size 41 zE) := Lib.hid ((Blk.new q1 41 zE).below hb2 (by simp)))); try (obtain ⟨⟨y0, y1, y2, y3⟩, y4, y5, y6, y7⟩ := newE_of z2.out))))
    all_goals
      go_wp2_with fail
      go_meet
      first
        | exact ⟨_, A', cap', rfl, Lib.hid (relX_alloc hB2 hf hsz hB1.size)⟩
        | exact ⟨_, A', cap', rfl, Lib.hid (relX_set z2.out hB2 hf hsz hB1.size (Nat.le_refl _) (Nat.ne_of_gt z1.out.lt))⟩
        | exact ⟨_, A', cap', rfl, Lib.hid (relX_set z2.out hB2 hf hsz hBU.size hB1.size (by simp))⟩
  case rest =>
    obtain ⟨ob, A', cap', rfl, HX⟩ := hcut
    have kk3 : wc.cell? ⟨ob, 3, none⟩ = some (.slice A' ks.length cap') := by rw [HX.out.blk.cell]; rfl
    have HMK := Lib.hid (makeE_any A' ks.length cap' wc (fun h0 => by rcases HX.out.kid.2 with rfl | ⟨b, css, rfl, _⟩; simp at h0; simp) HX.out.kid.1.1 HX.out.kid.1.2)
    have hmx : V.heap.size ≤ wc.heap.size := HX.out.below.size
    go_wp2_with fail
    refine HMK.out.mono ?_
    rintro e w2 ⟨v2, rfl, hc2, hb2, hj2⟩
    obtain ⟨hs, T, e1, hcp, hsh, hT⟩ := HX.out.start hb2 hsz
    rw [← e1] at hc2
    have hszL : sizL ks ≤ 1000000 := Nat.le_trans (sizL_w ks) hwL
    have HN1 := Lib.hid (nextCE_first hc2 hcp (fun b hb ho => by have := hT b hb; rcases ho with rfl | ho; omega; have := hj2 b ho; omega) (Nat.le_refl _) hb2.size (by omega))
    rw [hsh] at HN1
    have HB2 : Hid (Below V.heap.size V w2) := Lib.hid (below_step HX.out.below hb2)
    clear hc2 hcp hj2 hT e1 hsh hb2 HMK
    obtain ⟨c, hc⟩ : ∃ c, c = wc.heap.size := ⟨_, rfl⟩
    rw [← hc] at HN1 hmx ⊢
    clear hc
    go_wp2_with fail
    refine HN1.out.mono ?_
    rintro e w3 ⟨p, rfl, hat, hb3⟩
    have HA3 := Lib.hid hat
    have HB3 : Hid (Below V.heap.size V w3) := Lib.hid (HB2.out.trans (hb3.mono hmx))
    clear hat hb3 HN1
    have HBW' := HBW
    go_wp2_with fail
    go_loopg [5] (sizL ks) (fun kk u5 wr => ∃ p, u5 = .pointer p ∧ kk ≤ 1000000 ∧ Hid (AtCE w Q V.heap.size c c (GE V.heap.size ob op n nm ks A' cap') wr p kk) ∧ Hid (Below V.heap.size V wr))
    case atStart => exact ⟨p, rfl, hszL, HA3, HB3⟩
    case round =>
      obtain ⟨p, rfl, hkk, HA, HBr⟩ := hrel
      obtain ⟨v, hs, T, hc, hd, hor⟩ := HA.out
      have HIr := Lib.hid (HIV.out.on HBr.out)
      rcases hor with ⟨rfl, rfl, hcp, rfl⟩ | ⟨b, o, t, rfl, hcp, rfl⟩
      · have hG := hcp.end_
        obtain ⟨hsl, g0, g1, g2, g3⟩ := hG
        have HSl := Lib.hid hsl
        have HBb' := Lib.hid (HBb.out.below HBr.out HBb.out.lt)
        obtain ⟨⟨y0, y1, y2, y3⟩, y4, y5, y6, y7⟩ := newE_of HBb'.out
        clear hsl hc hd hcp
        go_wp2_with fail
        have HBz := Lib.hid ((((HBb'.out.set_ 0 (.int .i64 op)).set_ 1 (.int .i64 n)).set_ 2 (.string nm)).set_ 3 (.slice A' ks.length cap'))
        (try simp only [Exit.inBlock, Exit.then])
        refine bodyPost_ret (results_cell_row rfl _ _ (W.heap.size + 1) 41 _ (0, 0) _ rfl HBz.out Try.underlying41 rfl (by kernel_rfl)) rfl ?_
        have hlb := HBb.out.lt
        have hWV := HBW.out.size
        refine ⟨_, _, _, _, rfl, ?_, ?_⟩
        · exact below_setc (below_setc (below_setc (below_setc (HBW.out.trans (HBr.out.mono hWV)) (by simp) _) (by simp) _) (by simp) _) (by simp) _
        · refine ExprI.of_slice (SliceI.keep (slice_er HSl.out) (Q' := nw W _) (fun b hb => ⟨Nat.le_trans hWV hb.1, by simp only [World.setCell, Array.size_modify]; exact hb.2⟩) (fun p hp => ?_) (fun a cs _ h => h.keep (fun b hb => ⟨Nat.le_trans hWV hb.1, by simp only [World.setCell, Array.size_modify]; exact hb.2⟩) (fun p hp => ?_))) HN.out.1 HN.out.2.1 HN.out.2.2
          all_goals
            have hne : ∀ j, p ≠ ⟨W.heap.size + 1, j, none⟩ := fun j e => by have := hp.1; rw [e] at this; simp at this; omega
            rw [cell_set_ne _ (hne 3), cell_set_ne _ (hne 2), cell_set_ne _ (hne 1), cell_set_ne _ (hne 0)]
      · obtain ⟨hTb, ⟨bt, bc, hBk⟩, hraw⟩ := hcp.raw _ (List.mem_cons_self ..)
        obtain ⟨cs, ⟨hx, hwx⟩, hcell⟩ := hraw 0 (by simp)
        obtain ⟨op', n', nm', ks'⟩ := t
        simp only [List.getElem_cons_zero] at hx hwx
        obtain ⟨vk, rfl, hk', hop', hn', hnm'⟩ := hx.to_slice
        obtain ⟨A2, cap2, rfl, hl3, hl4⟩ := hk'.shape
        have p0 : wr.cell? ⟨b, o, none⟩ = some (.int .i64 op') := by have := hcell 0 _ rfl; simpa using this
        have p1 : wr.cell? ⟨b, o + 1, none⟩ = some (.int .i64 n') := by have := hcell 1 _ rfl; simpa using this
        have p2 : wr.cell? ⟨b, o + 2, none⟩ = some (.string nm') := by have := hcell 2 _ rfl; simpa using this
        have p3 : wr.cell? ⟨b, o + 3, none⟩ = some (.slice A2 ks'.length cap2) := by have := hcell 3 _ rfl; simpa using this
        have hbl := hBk.lt
        have hwL' : wL ks' ≤ 1000000 := by rw [wE] at hwx; omega
        have HF' := Lib.hid (fun V hV => freshE_v (W := V) hk' hV hwL')
        have HCl' := Lib.hid (fun V => Clone_any nm' V (by rw [wE] at hwx; omega))
        have HBk := Lib.hid hBk
        have HFl := Lib.hid (fun w1 w3 A3 cap3 hb1 hf => fillE (vk := .slice A2 ks'.length cap2) (w1 := w1) (w3 := w3) (v' := .slice A3 ks'.length cap3) (e := .returned (.slice A3 ks'.length cap3)) hcp (Nat.le_trans (Nat.le_refl _) HBr.out.size) hop' hn' hnm' hwx p0 p1 p2 p3 hb1 hf)
        have hVb := (hcp.tb b hTb).1
        have HQ : Hid (¬ Q b) := Lib.hid (fun hq => by have := HIV.out.1 b hq; omega)
        have HC := Lib.hid hc
        have HD := Lib.hid hd
        have HTb := Lib.hid hTb
        have HTl : Hid (∀ k, T k → k < wr.heap.size) := Lib.hid (fun k hk => (hcp.tb k hk).2)
        rw [sizE] at hkk
        clear hx hwx hraw hk' hop' hn' hnm' hcell hBk hc hd hcp hTb
        go_wp2_with (first
          | ((go_at_call 84; (with_reducible refine (HCl'.out _).mono ?_); rintro e q1 ⟨rfl, hb1⟩; have HK1 := Lib.hid (HBk.out.below hb1 HBk.out.lt); have r2 := (hb1.cell (p := ⟨b, o + 2, none⟩) hbl).trans p2; have r3 := (hb1.cell (p := ⟨b, o + 3, none⟩) hbl).trans p3; have f2 := HK1.out.frozen (o + 2); have hz1 : b < q1.heap.size := HK1.out.lt; have HI1 := Lib.hid ((HIr.out.on hb1).setCell (a := ⟨b, o + 2, none⟩) HQ.out (.string nm')); have HB1 := Lib.hid hb1; clear hb1))
          | ((go_at_call 158; (with_reducible refine (HF'.out _ HI1.out).mono ?_); rintro e q3 ⟨A3, cap3, rfl, hf, hb3⟩; have HK3 := Lib.hid ((HK1.out.set_ (o + 2) (.string nm')).below hb3 (HK1.out.set_ (o + 2) (.string nm')).lt); have s3 : q3.cell? ⟨b, o + 3, none⟩ = some (.slice A2 ks'.length cap2) := (by rw [HK3.out.cell, Array.getElem?_setIfInBounds_ne (by omega), ← HK1.out.cell]; exact r3); have f3 := HK3.out.frozen (o + 3); have HF3 := Lib.hid hf; have HB3' := Lib.hid hb3; clear hf hb3)))
        obtain ⟨new, T', A4, cap4, e4, hA4, hl5, hl6, hcp4, hp4, hs4, hT4, hm4, q4⟩ := HFl.out q1 q3 A3 cap3 HB1.out HF3.out
        simp only [Value.slice.injEq, true_and] at e4
        obtain ⟨rfl, rfl⟩ := e4
        have hc4 := HC.out.keep hm4 (fun k hk e => HD.out b HTb.out (e ▸ hk))
        have hd4 : ∀ k, T' k → ¬ ownE c v k := fun k hk ho => by
          rcases hT4 k hk with h1 | h1
          · exact HD.out k h1 ho
          · have := HC.out.own_lt ho; omega
        have hcw : c ≤ wr.heap.size := Nat.le_of_lt HC.out.blk.lt
        refine (nextCE_again hc4 q4 hA4 hl5 hl6 hp4 hcp4 hd4 (Nat.le_refl _) (Nat.le_trans hcw hm4.size) (by omega)).mono ?_
        rintro e w5 ⟨p5, rfl, hat5, hb5⟩
        have HB5 : Hid (Below V.heap.size V w5) := Lib.hid ((HBr.out.trans (hm4.below HBr.out.size (fun j e => by subst e; exact hVb))).trans (hb5.mono hmx))
        have HA5 := Lib.hid hat5
        rw [hs4] at HA5
        clear hat5 hb5 hcp4 hp4 hs4 hT4 hm4 q4 hc4 hd4 HFl
        go_wp2_with fail
        go_roundg (sizL ks' + szH hs)
        case measure => rw [sizE]; omega
        case rel => exact ⟨p5, rfl, by omega, HA5, HB5⟩
end Go.Proofs.Ytddfpmdbndakgaa
namespace Go.Proofs.Ytddfpmdbndakgaa
open Go.ChangeShapes Go.WideShapes Go.ChangeAt Go.RowKit Go.Deep
set_option linter.unusedVariables false
set_option maxHeartbeats 4000000 in
theorem cloneArgs_any {w W : World} {Q : Nat → Prop} {l : List Ar} {v : Value} (h : SliceI w Q 6 (ArgI w Q) l v) (hI : In Q w W) (hw : wAr l ≤ 1000000) :
    Calls Try.prog 144 #[v] W fun e w' => ∃ v', e = .returned v' ∧ Below W.heap.size W w' ∧ SliceI w' (nw W w') 6 (ArgI w' (nw W w')) l v' := by
  obtain ⟨A, cap, rfl, _, _⟩ := h.shape
  have hlen : l.length ≤ 1000000 := Nat.le_trans (wAr_len l) hw
  have HF := Lib.hid (freshA_any h hI (argCk w Q) hlen)
  have HI := Lib.hid hI
  clear h hI
  go_enter Try.func144, Try.ntmps144
  go_wp2_with fail
  refine HF.out.mono ?_
  rintro e w1 (⟨rfl, rfl, rfl⟩ | ⟨css, rfl, hw1, hr⟩)
  · clear HF
    go_wp2_with fail
    go_loopw [9] (fun i wr => i = .int .i64 0 ∧ Hid (wr = w1)) (fun i _ => 0)
    case atStart => exact ⟨rfl, Lib.hid rfl⟩
    case round =>
      obtain ⟨rfl, HR⟩ := hrel
      go_wp2_with fail
      go_ret
      exact ⟨_, rfl, by rw [HR.out]; exact Below.refl _ _, nil_slice⟩
  · have HB : Hid (Blk w1 W.heap.size 79 (flatN css l.length).toArray) := Lib.hid (by rw [hw1]; exact Blk.new _ _ _)
    have HW : Hid (Below W.heap.size W w1) := Lib.hid (by rw [hw1]; exact below_box _)
    have HR := Lib.hid hr
    obtain ⟨a, ha⟩ : ∃ a : Addr, a = ⟨W.heap.size, 0, none⟩ := ⟨_, rfl⟩
    have HA := Lib.hid ha
    rw [← ha]
    clear HF hw1 hr ha
    go_wp2_with fail
    go_loopw [9] (fun i wr => ∃ (k : Nat) (css : Nat → List Value), k ≤ l.length ∧ i = .int .i64 k ∧ Hid (Below W.heap.size W wr) ∧ Hid (Blk wr W.heap.size 79 (flatN css l.length).toArray) ∧ Hid (∀ i (h : i < l.length), i < k → ArgI wr (nb (W.heap.size + 1) wr) l[i] (css i)) ∧ Hid (∀ i (h : i < l.length), k ≤ i → ArgI w Q l[i] (css i))) (fun i _ => l.length - (intOf i).toNat)
    case atStart => exact ⟨0, css, Nat.zero_le _, rfl, HW, HB, Lib.hid (fun i h h0 => absurd h0 (by omega)), Lib.hid (fun i h _ => HR.out i h)⟩
    case round =>
      clear HR HB HW
      obtain ⟨k, css, hk, rfl, HWr, HBr, HDn, HRw⟩ := hrel
      by_cases hlt : k < l.length
      · have HC6 : Hid (∀ i, i < l.length → (css i).length = 6) := Lib.hid (fun i hi => by by_cases h : i < k; exact (argCk _ _ _ _ (HDn.out i hi h)).1; exact (argCk _ _ _ _ (HRw.out i hi (by omega))).1)
        obtain ⟨o1, n1, s1, A1, l1, c1, hcs, hnm, hx⟩ := (HRw.out k hlt (Nat.le_refl _)).open_
        have hc : a.add (k * 6) = ⟨W.heap.size, k * 6, none⟩ := by rw [HA.out, addr0]
        have HC := Lib.hid hc
        have hget := fun j (hj : j < 6) => HBr.out.getN HC6.out hlt hj
        rw [hcs] at hget
        have p1 : wr.cell? ⟨(a.add (k * 6)).block, (a.add (k * 6)).off + 1, none⟩ = some (.string l[k].nm) := by rw [hc]; exact hget 1 (by omega)
        have p2 : wr.cell? ⟨(a.add (k * 6)).block, (a.add (k * 6)).off + 2, none⟩ = some (.int .i64 o1) := by rw [hc]; exact hget 2 (by omega)
        have p3 : wr.cell? ⟨(a.add (k * 6)).block, (a.add (k * 6)).off + 3, none⟩ = some (.int .i64 n1) := by rw [hc]; exact hget 3 (by omega)
        have p4 : wr.cell? ⟨(a.add (k * 6)).block, (a.add (k * 6)).off + 4, none⟩ = some (.string s1) := by rw [hc]; exact hget 4 (by omega)
        have p5 : wr.cell? ⟨(a.add (k * 6)).block, (a.add (k * 6)).off + 5, none⟩ = some (.slice A1 l1 c1) := by rw [hc]; exact hget 5 (by omega)
        have hwk := wAr_mem (List.getElem_mem hlt)
        have HCl := Lib.hid (fun V => Clone_any l[k].nm V (by omega))
        have HCx := Lib.hid (fun V hV => cloneExpr_any (W := V) hx hV (by omega))
        have HIr := Lib.hid (HI.out.on HWr.out)
        have HQ : Hid (¬ Q W.heap.size) := Lib.hid (fun hq => by have := HI.out.1 _ hq; omega)
        have HNm := Lib.hid hnm
        have HCs := Lib.hid hcs
        have hbl : (a.add (k * 6)).block < wr.heap.size := by rw [hc]; exact HBr.out.lt
        clear hget hx hc hnm hcs hwk
        go_wp2_with (first
          | ((go_at_call 84; (with_reducible refine (HCl.out _).mono ?_); rintro e q1 ⟨rfl, hb1⟩; have HK1 := Lib.hid (HBr.out.below hb1 HBr.out.lt); have r1 := (hb1.cell (p := ⟨(a.add (k * 6)).block, (a.add (k * 6)).off + 1, none⟩) hbl).trans p1; have r2 := (hb1.cell (p := ⟨(a.add (k * 6)).block, (a.add (k * 6)).off + 2, none⟩) hbl).trans p2; have r3 := (hb1.cell (p := ⟨(a.add (k * 6)).block, (a.add (k * 6)).off + 3, none⟩) hbl).trans p3; have r4 := (hb1.cell (p := ⟨(a.add (k * 6)).block, (a.add (k * 6)).off + 4, none⟩) hbl).trans p4; have r5 := (hb1.cell (p := ⟨(a.add (k * 6)).block, (a.add (k * 6)).off + 5, none⟩) hbl).trans p5; have f1 : q1.frozen? ⟨(a.add (k * 6)).block, (a.add (k * 6)).off + 1, none⟩ = false := (by rw [HC.out]; exact HK1.out.frozen _); have HB1 := Lib.hid hb1; clear hb1)))
        have hb2 : Below W.heap.size W (q1.setCell ⟨(a.add (k * 6)).block, (a.add (k * 6)).off + 1, none⟩ (.string l[k].nm)) := below_setc (HWr.out.trans (HB1.out.mono HWr.out.size)) (by rw [HC.out]; exact Nat.le_refl _) _
        have hk2 : Blk (q1.setCell ⟨(a.add (k * 6)).block, (a.add (k * 6)).off + 1, none⟩ (.string l[k].nm)) W.heap.size 79 (flatN css l.length).toArray := by
          have h1 := HK1.out.setN HC6.out hlt (show 1 < 6 by omega) (.string l[k].nm)
          have e1 : (css k).set 1 (.string l[k].nm) = css k := by rw [HCs.out]; rfl
          rw [e1, upd_self] at h1
          rw [HC.out]
          exact h1
        have hd2 : ∀ p : Addr, p.block ≠ W.heap.size → p.block < wr.heap.size → (q1.setCell ⟨(a.add (k * 6)).block, (a.add (k * 6)).off + 1, none⟩ (.string l[k].nm)).cell? p = wr.cell? p := fun p hp hl => by
          rw [cell_set_ne _ (fun e => hp (by rw [e, HC.out]))]
          exact HB1.out.cell hl
        have hz2 : wr.heap.size ≤ (q1.setCell ⟨(a.add (k * 6)).block, (a.add (k * 6)).off + 1, none⟩ (.string l[k].nm)).heap.size := by simp only [World.setCell, Array.size_modify]; exact HB1.out.size
        generalize World.setCell q1 _ _ = q2 at hb2 hk2 hd2 hz2 ⊢
        refine (HCx.out _ (HI.out.on hb2)).mono ?_
        rintro e q3 ⟨v0, v1, v2, v3, rfl, hb3, hx3⟩
        have HK3 := Lib.hid (hk2.below hb3 hk2.lt)
        have HB3 := Lib.hid (hb2.trans (hb3.mono hb2.size))
        have hget := fun j (hj : j < 6) => HK3.out.getN HC6.out hlt hj
        rw [HCs.out] at hget
        have s2 : q3.cell? ⟨(a.add (k * 6)).block, (a.add (k * 6)).off + 2, none⟩ = some (.int .i64 o1) := by rw [HC.out]; exact hget 2 (by omega)
        have s3 : q3.cell? ⟨(a.add (k * 6)).block, (a.add (k * 6)).off + 3, none⟩ = some (.int .i64 n1) := by rw [HC.out]; exact hget 3 (by omega)
        have s4 : q3.cell? ⟨(a.add (k * 6)).block, (a.add (k * 6)).off + 4, none⟩ = some (.string s1) := by rw [HC.out]; exact hget 4 (by omega)
        have s5 : q3.cell? ⟨(a.add (k * 6)).block, (a.add (k * 6)).off + 5, none⟩ = some (.slice A1 l1 c1) := by rw [HC.out]; exact hget 5 (by omega)
        have t2 : q3.frozen? ⟨(a.add (k * 6)).block, (a.add (k * 6)).off + 2, none⟩ = false := by rw [HC.out]; exact HK3.out.frozen _
        have t3 : q3.frozen? ⟨(a.add (k * 6)).block, (a.add (k * 6)).off + 3, none⟩ = false := by rw [HC.out]; exact HK3.out.frozen _
        have t4 : q3.frozen? ⟨(a.add (k * 6)).block, (a.add (k * 6)).off + 4, none⟩ = false := by rw [HC.out]; exact HK3.out.frozen _
        have t5 : q3.frozen? ⟨(a.add (k * 6)).block, (a.add (k * 6)).off + 5, none⟩ = false := by rw [HC.out]; exact HK3.out.frozen _
        obtain ⟨x0, x1, x2, X, xn, xc, hxe⟩ := hx3.form
        simp only [List.cons.injEq, and_true] at hxe
        obtain ⟨rfl, rfl, rfl, rfl⟩ := hxe
        have HX3 := Lib.hid hx3
        have HZ3 : Hid (wr.heap.size ≤ q3.heap.size) := Lib.hid (Nat.le_trans hz2 hb3.size)
        have HD3 : Hid (∀ p : Addr, p.block ≠ W.heap.size → p.block < wr.heap.size → q3.cell? p = wr.cell? p) := Lib.hid (fun p hp hl => (hb3.cell (Nat.lt_of_lt_of_le hl hz2)).trans (hd2 p hp hl))
        have HNw : Hid (∀ b, nw q2 q3 b → nb (W.heap.size + 1) q3 b) := Lib.hid (fun b hb => ⟨by have := hk2.lt; have := hb.1; omega, hb.2⟩)
        clear hget hx3 hb3 hb2 hk2 hd2 hz2
        go_wp2_with fail
        go_roundw
        case rel =>
          rw [HC.out]
          have L0 := HC6.out
          have b0 := HK3.out
          have b1 := b0.setN L0 hlt (show 2 < 6 by omega) (.int .i64 x0)
          have L1 := fun i hi => upd_len (css := css) (k := k) (cs := (css k).set 2 (.int .i64 x0)) L0 (by rw [List.length_set]; exact L0 k hlt) i hi
          have b2 := b1.setN L1 hlt (show 3 < 6 by omega) (.int .i64 x1)
          rw [upd_same, upd_upd] at b2
          have L2 := fun i hi => upd_len (css := css) (k := k) (cs := ((css k).set 2 (.int .i64 x0)).set 3 (.int .i64 x1)) L0 (by rw [List.length_set, List.length_set]; exact L0 k hlt) i hi
          have b3 := b2.setN L2 hlt (show 4 < 6 by omega) (.string x2)
          rw [upd_same, upd_upd] at b3
          have L3 := fun i hi => upd_len (css := css) (k := k) (cs := (((css k).set 2 (.int .i64 x0)).set 3 (.int .i64 x1)).set 4 (.string x2)) L0 (by rw [List.length_set, List.length_set, List.length_set]; exact L0 k hlt) i hi
          have b4 := b3.setN L3 hlt (show 5 < 6 by omega) (.slice X xn xc)
          rw [upd_same, upd_upd] at b4
          have e1 : ((((css k).set 2 (.int .i64 x0)).set 3 (.int .i64 x1)).set 4 (.string x2)).set 5 (.slice X xn xc) = [.bool l[k].ref, .string l[k].nm, .int .i64 x0, .int .i64 x1, .string x2, .slice X xn xc] := by rw [HCs.out]; rfl
          rw [e1] at b4
          have hset := set4_cells q3 (b := W.heap.size) (o := k * 6 + 2) (.int .i64 x0) (.int .i64 x1) (.string x2) (.slice X xn xc)
          have hbl4 : Below W.heap.size W ((((q3.setCell ⟨W.heap.size, k * 6 + 2, none⟩ (.int .i64 x0)).setCell ⟨W.heap.size, k * 6 + 2 + 1, none⟩ (.int .i64 x1)).setCell ⟨W.heap.size, k * 6 + 2 + 2, none⟩ (.string x2)).setCell ⟨W.heap.size, k * 6 + 2 + 3, none⟩ (.slice X xn xc)) :=
            below_setc (below_setc (below_setc (below_setc HB3.out (Nat.le_refl _) _) (Nat.le_refl _) _) (Nat.le_refl _) _) (Nat.le_refl _) _
          refine ⟨k + 1, _, by omega, by go_num, Lib.hid hbl4, Lib.hid b4, Lib.hid (fun i hi hik => ?_), Lib.hid (fun i hi hik => ?_)⟩
          · have hN : ∀ b, nb (W.heap.size + 1) q3 b → nb (W.heap.size + 1) ((((q3.setCell ⟨W.heap.size, k * 6 + 2, none⟩ (.int .i64 x0)).setCell ⟨W.heap.size, k * 6 + 2 + 1, none⟩ (.int .i64 x1)).setCell ⟨W.heap.size, k * 6 + 2 + 2, none⟩ (.string x2)).setCell ⟨W.heap.size, k * 6 + 2 + 3, none⟩ (.slice X xn xc)) b := fun b hb => ⟨hb.1, by rw [hset.1]; exact hb.2⟩
            by_cases e : i = k
            · subst e
              rw [upd_same]
              exact ⟨_, rfl, HNm.out, HX3.out.keep (fun b hb => hN b (HNw.out b hb)) (fun p hp => hset.2 p (by have := (HNw.out _ hp).1; omega))⟩
            · rw [upd_ne _ _ e]
              exact (HDn.out i hi (by omega)).keep (fun b hb => hN b ⟨hb.1, Nat.lt_of_lt_of_le hb.2 HZ3.out⟩) (fun p hp => (hset.2 p (by have := hp.1; omega)).trans (HD3.out p (by have := hp.1; omega) hp.2))
          · rw [upd_ne _ _ (by omega)]
            exact HRw.out i hi (by omega)
        case measure => simp [intOf]; omega
      · go_wp2_with fail
        go_ret
        refine ⟨_, rfl, HWr.out, ?_⟩
        rw [HA.out]
        exact row_slice HBr.out (fun i hi => (HDn.out i hi (by omega)).keep (fun b hb => ⟨by have := hb.1; omega, hb.2⟩) (fun _ _ => rfl)) (argCk _ _) ⟨Nat.le_refl _, HBr.out.lt⟩ hlen
end Go.Proofs.Ytddfpmdbndakgaa
namespace Go.Proofs.Ytddfpmdbndakgaa
open Go.ChangeShapes Go.WideShapes Go.ChangeAt Go.RowKit Go.Deep
set_option linter.unusedVariables false
/-- the cursor over the copy: its answer p, what is ahead -/
def AtCS (w : World) (Q : Nat → Prop) (base bs c : Nat) (G : World → Prop) (W : World) (p : Option Addr) (n : Nat) : Prop :=
  ∃ v hs T, CurS W bs c v p (hs.map slH) ∧ (∀ b, T b → ¬ ownS c v b) ∧
    ((p = none ∧ hs = [] ∧ CopyS w Q base G W [] T ∧ n = 0) ∨ ∃ b o t, p = some ⟨b, o, none⟩ ∧ CopyS w Q base G W (⟨b, o, [t], 1⟩ :: hs) T ∧ n = sizS t + szHS hs)
theorem pop_copyS {w W w' : World} {Q : Nat → Prop} {base bs c : Nat} {G : World → Prop} {v v' : Value} {hs : List (Hole S)} {T : Nat → Prop} (hg : ∀ x ∈ hs.map slH, goodS x) (h : CopyS w Q base G W hs T) (hd : ∀ b, T b → ¬ ownS c v b)
    (hc : CurS w' bs c v' (popSS (hs.map slH)).1 (popSS (hs.map slH)).2) (hm : Moves (ownS c v) W w') (hl : ∀ j, v'.ownBlock = some j → W.heap.size ≤ j ∨ v.ownBlock = some j) : AtCS w Q base bs c G w' (popSS (hs.map slH)).1 (szHS hs) := by
  have h' := h.moves hm hd
  have hd' : ∀ b, T b → ¬ ownS c v' b := fun b ht e => by
    rcases e with rfl | e
    · exact hd _ ht (.inl rfl)
    · rcases hl b e with h1 | h1
      · have := (h.tb b ht).2; omega
      · exact hd b ht (.inr h1)
  cases hs with
  | nil => exact ⟨v', [], T, by simpa [popSS] using hc, hd', .inl ⟨rfl, rfl, h', rfl⟩⟩
  | cons k hs =>
    obtain ⟨b, o, ts, cap⟩ := k
    cases ts with
    | nil => have := (hg (slH ⟨b, o, [], cap⟩) (List.mem_map.2 ⟨_, List.mem_cons_self .., rfl⟩)).1; simp [slH] at this
    | cons t ts =>
      have e : (popSS (List.map slH (⟨b, o, t :: ts, cap⟩ :: hs))) = (some ⟨b, o, none⟩, (if ts.length = 0 then hs else ⟨b, o + 13, ts, cap - 1⟩ :: hs).map slH) := by
        simp only [List.map_cons, popSS, slH, List.length_cons, Nat.add_eq_right]
        by_cases h0 : ts.length = 0
        · rw [if_pos h0, if_pos h0]
        · rw [if_neg h0, if_neg h0, List.map_cons, add_ne _ (by decide)]; rfl
      rw [e] at hc ⊢
      refine ⟨v', _, T, hc, hd', .inr ⟨b, o, t, rfl, h'.pop, ?_⟩⟩
      rw [szHS, sizSL]
      split
      · rename_i h0
        have : ts = [] := List.length_eq_zero_iff.1 h0
        subst this; simp [sizSL]
      · rw [szHS]; simp; omega
/-- the cursor's answer, while the copy is under way -/
def NextCS (w : World) (Q : Nat → Prop) (base bs c : Nat) (G : World → Prop) (n : Nat) (W : World) (e : Ending) (w' : World) : Prop :=
  ∃ p, e = .returned (.pointer p) ∧ AtCS w Q base bs c G w' p n ∧ Below bs W w'
theorem nextCS_first {w W : World} {Q : Nat → Prop} {base bs c : Nat} {G : World → Prop} {v : Value} {hs : List (Hole S)} {T : Nat → Prop} (hc : CurS W bs c v none (hs.map slH)) (hcp : CopyS w Q base G W hs T) (hd : ∀ b, T b → ¬ ownS c v b) (hbc : bs ≤ c) (hbW : bs ≤ W.heap.size) (hl : szHS hs ≤ 1000000) :
    Calls Try.prog 60 #[.pointer (some ⟨c, 0, none⟩)] W (NextCS w Q base bs c G (szHS hs) W) := by
  refine (nextS_none bs c v _ W hc (by have := len_szHS hc.good; rw [List.length_map]; omega)).mono ?_
  rintro e w' ⟨v', rfl, hc', hm, hj⟩
  exact ⟨_, rfl, pop_copyS hc.good hcp hd hc' hm hj, hm.below hbW (fun j hj => by rcases hj with rfl | hj; exact hbc; exact own_ge hc.row hj)⟩
theorem nextCS_again {w W : World} {Q : Nat → Prop} {base bs c : Nat} {G : World → Prop} {v : Value} {hs new : List (Hole S)} {T : Nat → Prop} {b o : Nat} {A A2 : Option Addr} {n cap n2 cap2 : Nat} (hc : CurS W bs c v (some ⟨b, o, none⟩) (hs.map slH)) (hk : W.cell? ⟨b, o + 11, none⟩ = some (.slice A n cap)) (hk2 : W.cell? ⟨b, o + 12, none⟩ = some (.slice A2 n2 cap2)) (hA : 0 < n → A ≠ none) (hn : n ≤ cap) (hcap : cap ≤ 9223372036854775807) (hA2 : 0 < n2 → A2 ≠ none) (hn2 : n2 ≤ cap2) (hcap2 : cap2 ≤ 9223372036854775807)
    (hp : pushS (pushS (hs.map slH) A2 n2 cap2) A n cap = (new ++ hs).map slH) (hcp : CopyS w Q base G W (new ++ hs) T) (hd : ∀ b, T b → ¬ ownS c v b) (hbc : bs ≤ c) (hbW : bs ≤ W.heap.size) (hl : szHS hs ≤ 1000000) :
    Calls Try.prog 60 #[.pointer (some ⟨c, 0, none⟩)] W (NextCS w Q base bs c G (szHS (new ++ hs)) W) := by
  refine (nextS_some bs c v _ ⟨b, o, none⟩ A A2 n cap n2 cap2 W hc hk hk2 hA hn hcap hA2 hn2 hcap2 hbW (by have := len_szHS hc.good; rw [List.length_map]; omega)).mono ?_
  rintro e w' ⟨v', rfl, hc', hm, hj⟩
  rw [hp] at hc' ⊢
  exact ⟨_, rfl, pop_copyS (by rw [← hp]; exact pushS_goodS (pushS_goodS hc.good hn2 hcap2) hn hcap) hcp hd hc' hm hj, hm.below hbW (fun j hj => by rcases hj with rfl | hj; exact hbc; exact own_ge hc.row hj)⟩
theorem fillS {w W w4 : World} {Q : Nat → Prop} {base M M2 M3 : Nat} {G : World → Prop} {hs : List (Hole S)} {T : Nat → Prop} {b o : Nat} {id kind : Int} {labels : List ByteArray} {nm proc : ByteArray} {x : E} {has : Bool} {args : List Ar} {th el : List S} {vl va x0 x1 x2 x3 : Value} {A1 A2 : Option Addr} {cap1 cap2 : Nat}
    (h : CopyS w Q base G W (⟨b, o, [.mk id kind labels nm proc x has args th el], 1⟩ :: hs) T) (hbase : base ≤ W.heap.size) (hid : i64 id) (hkind : i64 kind) (hnm : nm.size ≤ 9223372036854775807) (hproc : proc.size ≤ 9223372036854775807) (hw : wS (.mk id kind labels nm proc x has args th el) ≤ 1000000)
    (hN : NodeW W w4 b o [.int .i64 id, .int .i64 kind, vl, .string nm, .string proc, x0, x1, x2, x3, .bool has, va, .slice A1 th.length cap1, .slice A2 el.length cap2])
    (hM : W.heap.size ≤ M) (hM2 : M ≤ M2) (hM3 : M2 ≤ M3) (hM4 : M3 ≤ w4.heap.size) (hl : TextsI w4 (fun k => W.heap.size ≤ k ∧ k < M) labels vl) (hx : ExprI w4 (fun k => W.heap.size ≤ k ∧ k < M) x [x0, x1, x2, x3]) (ha : SliceI w4 (fun k => W.heap.size ≤ k ∧ k < M) 6 (ArgI w4 (fun k => W.heap.size ≤ k ∧ k < M)) args va)
    (hth : RowS' w Q th A1 cap1 M M2 w4) (hel : RowS' w Q el A2 cap2 M2 M3 w4) :
    ∃ new T', CopyS w Q base G w4 (new ++ hs) T' ∧ pushS (pushS (hs.map slH) A2 el.length cap2) A1 th.length cap1 = (new ++ hs).map slH ∧ szHS (new ++ hs) = sizSL th + sizSL el + szHS hs ∧ (∀ k, T' k → T k ∨ W.heap.size ≤ k) ∧ (0 < th.length → A1 ≠ none) ∧ (0 < el.length → A2 ≠ none) := by
  obtain ⟨hTb, _, _⟩ := h.raw _ (List.mem_cons_self ..)
  have hw1 : wSL th ≤ 1000000 ∧ wSL el ≤ 1000000 := by rw [wS] at hw; omega
  obtain ⟨n1, e1, z1, r1, d1, a1, f1⟩ := row_holes hth (Nat.le_trans (wSL_len th) hw1.1)
  obtain ⟨n2, e2, z2, r2, d2, a2, f2⟩ := row_holes hel (Nat.le_trans (wSL_len el) hw1.2)
  refine ⟨n1 ++ n2, _, Copy.fill (new := n1 ++ n2) (W' := w4) rsOk h hbase hN.mv.size (fun p ht hn => ?_) (fun b' ht hB => ?_) (fun k hk => ?_) (List.pairwise_append.2 ⟨d1, d2, fun k hk k' hk' => .inl (by have := (r1 k hk).2.1; have := (r2 k' hk').1; omega)⟩) (fun V hs' hv hd hap => ?_), ?_, ?_, fun k hk => hk.imp (fun h => h) (fun h => h.1), a1, a2⟩
  · by_cases e : p.block = b
    · exact hN.oth p e (fun e' => hn ⟨e, e'⟩)
    · exact hN.mv.cell (h.tb _ ht).2 e
  · by_cases e : b' = b
    · subst e; exact hN.blk
    · obtain ⟨t, cs, hB⟩ := hB
      exact ⟨t, cs, hN.mv.blk hB e⟩
  · rcases List.mem_append.1 hk with hk | hk
    · obtain ⟨h1, h2, h3, h4⟩ := r1 k hk
      exact ⟨⟨by omega, by omega⟩, h3, h4⟩
    · obtain ⟨h1, h2, h3, h4⟩ := r2 k hk
      exact ⟨⟨by omega, by omega⟩, h3, h4⟩
  · have hin : ∀ p : Addr, (W.heap.size ≤ p.block ∧ p.block < M) → V.cell? p = w4.cell? p := fun p hp => by
      refine hv p (.inr ⟨hp.1, by omega⟩) (fun hc => ?_)
      obtain ⟨k, hk, k1, _⟩ := hc
      rcases List.mem_append.1 hk with hk | hk
      · rcases List.mem_append.1 hk with hk | hk
        · have := (r1 k hk).1; omega
        · have := (r2 k hk).1; omega
      · have := (h.tb _ (h.raw k (by simp [hk])).1).2; omega
    have hQ : ∀ k, (W.heap.size ≤ k ∧ k < M) → nb base V k := fun k hk => ⟨by omega, by omega⟩
    refine ⟨[.int .i64 id, .int .i64 kind, vl, .string nm, .string proc, x0, x1, x2, x3, .bool has, va, .slice A1 th.length cap1, .slice A2 el.length cap2], ⟨StmtI.of_slice hid hkind hnm hproc (hl.keep hQ hin fun _ _ _ h => h) (hx.keep hQ hin) (ha.keep hQ hin fun _ _ _ h => h.keep hQ hin) (f1 V base (by omega) (fun k hk => hd k (List.mem_append.2 (.inl hk)))) (f2 V base (by omega) (fun k hk => hd k (List.mem_append.2 (.inr hk)))), hw⟩, fun j u hu => ?_⟩
    · have hj : j < 13 := by have := (List.getElem?_eq_some_iff.1 hu).1; simpa using this
      rw [hv ⟨b, o + j, none⟩ (.inl hTb) (hap (o + j) (by omega) (by omega))]
      exact hN.at_ j u hu
  · rw [e2, e1, List.map_append, List.map_append, List.append_assoc]
  · rw [szHS_append, szHS_append, z1, z2]
end Go.Proofs.Ytddfpmdbndakgaa
