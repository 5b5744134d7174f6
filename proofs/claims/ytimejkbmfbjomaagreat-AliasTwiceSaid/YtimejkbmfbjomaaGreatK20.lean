/- Texts, merged by a program; only what is used. -/
import Derived.Deep.LoopGhost
import Derived.Test.YtimejkbmfbjomaaGreatK1
import Derived.Test.YtimejkbmfbjomaaGreatK2
import Derived.Test.YtimejkbmfbjomaaGreatK3
import Derived.Test.YtimejkbmfbjomaaGreatK4
import Derived.Test.YtimejkbmfbjomaaGreatK5
import Derived.Test.YtimejkbmfbjomaaGreatK6
import Derived.Test.YtimejkbmfbjomaaGreatK7
import Derived.Test.YtimejkbmfbjomaaGreatK8
import Derived.Test.YtimejkbmfbjomaaGreatK9
import Derived.Test.YtimejkbmfbjomaaGreatK10
import Derived.Test.YtimejkbmfbjomaaGreatK11
import Derived.Test.YtimejkbmfbjomaaGreatK12
import Derived.Test.YtimejkbmfbjomaaGreatK19
namespace Go.Proofs.YtimejkbmfbjomaaGreat
open Go.ChangeShapes Go.WideShapes Go.ChangeAt Go.RowKit Go.Deep
set_option linter.unusedVariables false
def stepN (l : List ByteArray) (x : E) : List ByteArray := if x.op = 2 then spoke l x.nm else l
mutual
theorem walkE_fold : ∀ (e : E) (l : List ByteArray), walkE e l = (preE e).foldl stepN l
  | .mk op n nm ks, l => by rw [walkE, preE, List.foldl_cons, walkL_fold ks]; rfl
theorem walkL_fold : ∀ (ks : List E) (l : List ByteArray), walkL ks l = (preL ks).foldl stepN l
  | [], l => by rw [walkL, preL]; rfl
  | k :: ks, l => by rw [walkL, preL, List.foldl_append, walkE_fold k, walkL_fold ks]
end
mutual
theorem preE_len : ∀ e : E, (preE e).length = sizE e
  | .mk op n nm ks => by rw [preE, sizE, List.length_cons, preL_len ks]
theorem preL_len : ∀ l : List E, (preL l).length = sizL l
  | [] => by rw [preL, sizL]; rfl
  | k :: ks => by rw [preL, sizL, List.length_append, preE_len k, preL_len ks]
end
mutual
theorem mayE_nm : ∀ (e : E) (d : Nat), mayE d e = true → ∀ x ∈ preE e, x.op = 2 → isNm (bl x.nm) = true
  | .mk op n nm ks, d, h, x, hx, ho => by
    rw [mayE, Bool.and_eq_true] at h
    rw [preE] at hx
    rcases List.mem_cons.1 hx with rfl | hx
    · have h2 : op = 2 := ho
      rw [if_neg (by omega), if_pos h2] at h
      simp only [Bool.and_eq_true] at h
      exact h.2.1.2
    · by_cases h1 : op = 1
      · rw [if_pos h1] at h
        simp only [Bool.and_eq_true, decide_eq_true_eq] at h
        obtain rfl : ks = [] := List.eq_nil_of_length_eq_zero h.2.2
        rw [preL] at hx; cases hx
      · rw [if_neg h1] at h
        by_cases h2 : op = 2
        · rw [if_pos h2] at h
          simp only [Bool.and_eq_true, decide_eq_true_eq] at h
          obtain rfl : ks = [] := List.eq_nil_of_length_eq_zero h.2.2
          rw [preL] at hx; cases hx
        · rw [if_neg h2] at h
          simp only [Bool.and_eq_true] at h
          exact mayL_nm ks (d - 1) h.2.2 x hx ho
theorem mayL_nm : ∀ (ks : List E) (d : Nat), mayL d ks = true → ∀ x ∈ preL ks, x.op = 2 → isNm (bl x.nm) = true
  | [], d, _, x, hx, _ => by rw [preL] at hx; cases hx
  | k :: ks, d, h, x, hx, ho => by
    rw [mayL, Bool.and_eq_true] at h
    rw [preL] at hx
    rcases List.mem_append.1 hx with hx | hx
    · exact mayE_nm k d h.1 x hx ho
    · exact mayL_nm ks d h.2 x hx ho
end
/-- one list of the one expression e, at the block b -/
theorem one_slice {w : World} {Q : Nat → Prop} {e : E} {c0 c1 c2 c3 : Value} {b : Nat} (h : ExprI w Q e [c0, c1, c2, c3]) (hQ : Q b) (hb : Blk w b 46 #[c0, c1, c2, c3]) : SliceI w Q 4 (ExprI w Q) [e] (.slice (some ⟨b, 0, none⟩) 1 1) := by
  refine ⟨some ⟨b, 0, none⟩, 1, fun _ => [c0, c1, c2, c3], rfl, ⟨Nat.le_refl _, by omega⟩, fun _ => ⟨_, rfl, hQ, fun i hi j u hu => ?_⟩, fun i hi => ?_⟩
  · have hi0 : i = 0 := by simpa using hi
    subst hi0
    have hj : j < 4 := by have := (List.getElem?_eq_some_iff.1 hu).1; simpa using this
    have ha : (⟨b, 0, none⟩ : Addr).add (0 * 4 + j) = ⟨b, j, none⟩ := by
      rw [Nat.zero_mul, Nat.zero_add]
      by_cases h0 : j = 0
      · subst h0; rw [add_zero_]
      · rw [add_ne _ h0]; simp
    rw [ha, hb.cell j]
    simpa using hu
  · have hi0 : i = 0 := by simpa using hi
    subst hi0
    exact h
theorem own_walk_ne {w W : World} {Q : Nat → Prop} {base base' c n : Nat} {v v' : Value} {R : List E} {xs : List Value} (h : W.ownsRow base' 9 1 v n xs) (hw : WalkE w W Q base c v' R) {j : Nat} (hj : v.ownBlock = some j) : ¬ ownE c v' j := by
  obtain ⟨last, s, R0, hc, hp, hl⟩ := hw
  rintro (rfl | h2)
  · exact own_blk_ne h hc.blk (by decide) hj
  · exact own_own_ne h hc.row (by decide) hj h2
set_option maxRecDepth 100000 in
set_option maxHeartbeats 2000000 in
theorem Names_any {w : World} {Q : Nat → Prop} {e : E} {c0 c1 c2 c3 : Value} (h : ExprI w Q e [c0, c1, c2, c3]) (W : World) (hI : In Q w W) :
    Calls Tryz.prog 116 #[.agg #[c0, c1, c2, c3]] W (NewRow (namesE e) W) := by
  have HM := Lib.hid (fun W h1 => MayExpr_any h W h1)
  have HI := Lib.hid hI
  have HE := Lib.hid h
  unfold namesE
  have hz := mayE_siz e 20
  have hnm := mayE_nm e 20
  obtain ⟨d0, d1, d2, d3, l3, k3, hd'⟩ := h.form
  simp only [List.cons.injEq, and_true] at hd'
  obtain ⟨rfl, rfl, rfl, rfl⟩ := hd'
  clear h hI
  cases hm : mayE 20 e with
  | false =>
    rw [hm] at HM
    clear hm hz hnm
    go_enter Tryz.func116, Tryz.ntmps116
    go_wp2_with (go_at_call 156; refine (HM.out _ (HI.out.alloc _)).mono ?_; rintro e' w2 ⟨rfl, hb2⟩)
    go_ret
    exact ⟨.slice none 0 0, rfl, World.ownsRow_nil _ _ _ _, below_new hb2⟩
  | true =>
    have hz2 : sizE e ≤ 2000000 := by have := hz hm; omega
    have HNm := Lib.hid (hnm hm)
    rw [hm] at HM
    clear hm hz hnm
    have hmm := @run_makeMap Tryz.prog
    go_enter Tryz.func116, Tryz.ntmps116
    go_wp2_with (go_at_call 156; refine (HM.out _ (HI.out.alloc _)).mono ?_; rintro e' w2 ⟨rfl, hb2⟩; have hc2 := (bcell hb2).1; have HB2 := Lib.hid (below_new hb2); have hz3 : W.heap.size < w2.heap.size := (by have := hb2.size; rw [World.size_alloc] at this; omega); clear hb2)
    have HS0 : Hid (SeenI ((w2.alloc (.map #[] 0)).alloc (.cells #[.int .i64 d0, .int .i64 d1, .string d2, .slice d3 l3 k3] 46)) w2.heap.size 0 []) := Lib.hid ((SeenI.new w2).keep (own := fun _ => False) ((Moves.refl _ _).alloc _) (fun h => h))
    have HBl : Hid (Blk ((w2.alloc (.map #[] 0)).alloc (.cells #[.int .i64 d0, .int .i64 d1, .string d2, .slice d3 l3 k3] 46)) (w2.heap.size + 1) 46 #[.int .i64 d0, .int .i64 d1, .string d2, .slice d3 l3 k3]) := Lib.hid (by have := Blk.new (w2.alloc (.map #[] 0)) 46 #[.int .i64 d0, .int .i64 d1, .string d2, .slice d3 l3 k3]; simpa using this)
    have HI3 : Hid (In Q w ((w2.alloc (.map #[] 0)).alloc (.cells #[.int .i64 d0, .int .i64 d1, .string d2, .slice d3 l3 k3] 46))) := Lib.hid (((HI.out.on HB2.out).alloc _).alloc _)
    have HB3 : Hid (Below W.heap.size W ((w2.alloc (.map #[] 0)).alloc (.cells #[.int .i64 d0, .int .i64 d1, .string d2, .slice d3 l3 k3] 46))) := Lib.hid ((HB2.out.alloc (by omega) _).alloc (by simp; omega) _)
    have hsz3 : w2.heap.size + 1 < ((w2.alloc (.map #[] 0)).alloc (.cells #[.int .i64 d0, .int .i64 d1, .string d2, .slice d3 l3 k3] 46)).heap.size := by simp
    have hmb : W.heap.size < w2.heap.size := hz3
    clear hc2 hmm HB2 hz3
    generalize World.alloc _ _ = W3 at HS0 HBl HI3 HB3 hsz3 ⊢
    generalize w2.heap.size = mb at HS0 HBl hsz3 hmb ⊢
    obtain ⟨Q', hQ'⟩ : ∃ Q' : Nat → Prop, Q' = fun b => Q b ∨ b = mb + 1 := ⟨_, rfl⟩
    have HQ1 : Hid (∀ b, Q' b → b < W3.heap.size ∧ b ≠ mb) := Lib.hid (by
      rw [hQ']
      rintro b (hb | rfl)
      · exact ⟨HI3.out.1 b hb, by have := HI.out.1 b hb; omega⟩
      · exact ⟨hsz3, by omega⟩)
    have HI4 : Hid (In Q' W3 W3) := Lib.hid ⟨fun b hb => (HQ1.out b hb).1, fun _ _ => rfl⟩
    have HSl : Hid (SliceI W3 Q' 4 (ExprI W3 Q') [e] (.slice (some ⟨mb + 1, 0, none⟩) 1 1)) := Lib.hid (one_slice (HE.out.keep (fun b hb => by rw [hQ']; exact .inl hb) HI3.out.2) (by rw [hQ']; exact .inr rfl) HBl.out)
    clear hQ' HBl HI3
    refine (exprs_any (W := W3) HSl.out).mono ?_
    rintro e' w4 ⟨v, rfl, hw4, hb4, hj4⟩
    have HW4 : Hid (WalkE W3 w4 Q' W3.heap.size W3.heap.size v (preE e)) := Lib.hid (by have := hw4; rw [preL, preL, List.append_nil] at this; exact this)
    have hcl := hw4.lt.1
    have HS4 := Lib.hid (HS0.out.keep (Below.moves hb4) (by omega))
    have HI5 := Lib.hid (HI4.out.on hb4)
    have HB5 : Hid (Below W.heap.size W w4) := Lib.hid (HB3.out.trans (hb4.mono HB3.out.size))
    have HN : Hid (∀ (v : Value) (R : List E) (W' : World), WalkE W3 W' Q' W3.heap.size W3.heap.size v R → In Q' W3 W' → R.length ≤ 2000000 → Calls Tryz.prog 158 #[.pointer (some ⟨W3.heap.size, 0, none⟩)] W' fun e w' => ∃ o, e = .returned (.pointer o) ∧ AtE W3 w' Q' W3.heap.size W3.heap.size o R ∧ Moves (ownE W3.heap.size v) W' w') :=
      Lib.hid (fun v R W' h1 h2 h3 => nextE_mv h1 h2 (by have := h1.lt.1; omega) (by omega))
    have hWc : W.heap.size ≤ W3.heap.size := HB3.out.size
    clear hw4 hb4 hj4
    generalize hc : W3.heap.size = c at *
    have HC := Lib.hid hc
    clear hc
    have hpl := preE_len e
    have hz2' : (preE e).length ≤ 2000000 := by omega
    clear hpl
    go_wp2_with fail
    refine (HN.out v (preE e) w4 HW4.out HI5.out hz2').mono ?_
    rintro e' w5 ⟨o5, rfl, hat5, hm5⟩
    have HA5 := Lib.hid hat5
    have howb : ∀ j, ownE c v j → c ≤ j := fun j hj => by rcases hj with rfl | hj; exact Nat.le_refl _; exact (HW4.out.lt.2 j hj).1
    have hmbc : mb + 1 < c := by have := HC.out; omega
    have HS5 := Lib.hid (HS4.out.keep hm5 (fun h => by have := howb mb h; omega))
    have HI6 := Lib.hid (HI5.out.moves hm5 (fun j hj hq => by have := howb j hj; have := (HQ1.out j hq).1; omega))
    have HB6 : Hid (Below W.heap.size W w5) := Lib.hid (HB5.out.trans (hm5.below (by have := HB5.out.size; omega) (fun j hj => by have := howb j hj; omega)))
    clear hm5 hat5 howb HS4 HI5 HB5 HW4 HS0 HI4 HSl HB3
    go_wp2_with fail
    go_loopg [3, 6] (preE e).length (fun kk u3 u6 wr => ∃ (l : List ByteArray) (X : Option Addr) (cx : Nat) (o : Option Addr) (L : List E), L.length = kk ∧ u3 = .slice X l.length cx ∧ u6 = .pointer o ∧ l.length + L.length ≤ 2000000 ∧ Hid (L.foldl stepN l = walkE e []) ∧ Hid (∀ x ∈ L, x.op = 2 → isNm (bl x.nm) = true) ∧ Hid (∀ t ∈ l, small t) ∧
      Hid (AtE W3 wr Q' c c o L) ∧ Hid (SeenI wr mb l.length l) ∧ Hid (wr.ownsRow c 9 1 (.slice X l.length cx) l.length (strs l)) ∧ Hid (In Q' W3 wr) ∧ Hid (Below W.heap.size W wr))
    case atStart => exact ⟨[], none, 0, o5, preE e, rfl, rfl, rfl, by simp; omega, Lib.hid (walkE_fold e []).symm, HNm, Lib.hid (by simp), HA5, HS5, Lib.hid (World.ownsRow_nil _ _ _ _), HI6, HB6⟩
    case round =>
      obtain ⟨l, X, cx, o, L, hLk, rfl, rfl, hlen, HF, HNx, HSm, HA, HS, HO, HIr, HBr⟩ := hrel
      rcases HA.out with ⟨rfl, rfl⟩ | ⟨a, x, R, vr, rfl, rfl, hnd, hwk⟩
      · have HF2 : Hid (l = walkE e []) := Lib.hid HF.out
        go_wp2_with fail
        go_ret
        exact ⟨.slice X l.length cx, rfl, by rw [← HF2.out]; exact own_lower HO.out hWc, HBr.out⟩
      · obtain ⟨hqa, cs, hx, hcell⟩ := hnd
        cases hx with
        | @mk op n nm ks A cap css hop hn hnm hcap hA hk =>
        have p0 : wr.cell? a = some (.int .i64 op) := by have := (HIr.out.cell (p := a.add 0) (by rw [block_add]; exact hqa)).trans (hcell 0 _ rfl); rwa [add_zero_] at this
        have p2 : wr.cell? ⟨a.block, a.off + 2, none⟩ = some (.string nm) := by rw [← add_ne a (by decide)]; exact (HIr.out.cell (by rw [block_add]; exact hqa)).trans (hcell 2 _ rfl)
        have HWk := Lib.hid hwk
        have HQa := Lib.hid hqa
        clear hcell hA hk hwk hqa
        have hsm : small nm := hnm
        by_cases h2 : op = 2
        · have q2 : (op == 2) = true := by simp [h2]
          have hNm : 0 < nm.size ∧ nm.size ≤ 8 := nm_short (HNx.out (.mk op n nm ks) (List.mem_cons_self ..) h2)
          have HFs : Hid (R.foldl stepN (spoke l nm) = walkE e []) := Lib.hid (by have := HF.out; rw [List.foldl_cons, stepN] at this; rw [if_pos (show E.op (.mk op n nm ks) = 2 from h2)] at this; exact this)
          clear h2
          cases hhas : hasB l nm with
          | true =>
            have hlk := HS.out.look hsm
            rw [hhas] at hlk
            have HFt : Hid (R.foldl stepN l = walkE e []) := Lib.hid (by have := HFs.out; rw [spoke, if_pos hhas] at this; exact this)
            clear hhas
            go_wp2_with (go_at_call 158; refine (HN.out vr R wr HWk.out HIr.out (by simp only [List.length_cons] at hlen; omega)).mono ?_; rintro e' w9 ⟨o9, rfl, hat9, hm9⟩)
            have HA9 := Lib.hid hat9
            have howb : ∀ j, ownE c vr j → c ≤ j := fun j hj => by rcases hj with rfl | hj; exact Nat.le_refl _; exact (HWk.out.lt.2 j hj).1
            have HS9 := Lib.hid (HS.out.keep hm9 (fun h => by have := howb mb h; omega))
            have HI9 := Lib.hid (HIr.out.moves hm9 (fun j hj hq => by have := howb j hj; have := (HQ1.out j hq).1; omega))
            have HB9 : Hid (Below W.heap.size W w9) := Lib.hid (HBr.out.trans (hm9.below (by have := HBr.out.size; omega) (fun j hj => by have := howb j hj; omega)))
            have HO9 := Lib.hid (hm9.row HO.out (fun j hj ho => own_walk_ne HO.out HWk.out hj ho))
            clear hm9 hat9 howb
            go_roundg R.length
            case measure => simp only [List.length_cons] at hLk; omega
            case rel => exact ⟨l, X, cx, o9, R, rfl, rfl, rfl, by simp only [List.length_cons] at hlen; omega, HFt, Lib.hid (fun y hy => HNx.out y (List.mem_cons_of_mem _ hy)), HSm, HA9, HS9, HO9, HI9, HB9⟩
          | false =>
            have hlk := HS.out.look hsm
            rw [hhas] at hlk
            have HFt : Hid (R.foldl stepN (l ++ [nm]) = walkE e []) := Lib.hid (by have := HFs.out; rw [spoke, if_neg (by rw [hhas]; simp)] at this; exact this)
            clear hhas
            obtain ⟨w1, hup, hs1, hg1⟩ := HS.out.put (s := nm) (by omega) hsm
            have HS1 := Lib.hid hs1
            have HM1 : Hid (Moves (fun k => k = mb) wr w1) := Lib.hid ((moves_grown hg1).mono (fun j hj => (Option.some.inj hj).symm))
            have HI1 := Lib.hid (HIr.out.moves HM1.out (fun j hj hq => (HQ1.out j hq).2 hj))
            have r2 : w1.cell? ⟨a.block, a.off + 2, none⟩ = some (.string nm) := (HM1.out.cell (p := ⟨a.block, a.off + 2, none⟩) (HIr.out.1 _ HQa.out) (HQ1.out _ HQa.out).2).trans p2
            have HO1 := Lib.hid (HM1.out.row HO.out (fun j hj e => own_map_ne HO.out HS.out (hj.trans (congrArg some e))))
            have HB1 : Hid (Below W.heap.size W w1) := Lib.hid (HBr.out.trans (HM1.out.below (by have := HBr.out.size; omega) (fun j hj => by omega)))
            have HCl := Lib.hid (fun W => Clone_any nm W (by omega))
            have HSm2 : Hid (∀ t ∈ l ++ [nm], small t) := Lib.hid (fun t ht => by rcases List.mem_append.1 ht with ht | ht; exact HSm.out t ht; simp at ht; rw [ht]; exact hsm)
            obtain ⟨i0, hi0, hz0, hz1', hz2''⟩ := info_parts string_info
            clear hs1 hg1
            go_wp2_with (first
              | (go_at_call 82; refine (HCl.out _).mono ?_; rintro e' wc ⟨rfl, hbc⟩; have HBc := Lib.hid hbc; have HOc := Lib.hid ((Below.moves hbc).row HO1.out (fun j hj e => Nat.not_lt.2 e (HO1.out.lt j hj).2)); have HNw := Lib.hid (new_one wc nm); have hszc2 : c ≤ wc.heap.size + 1 := (by have := HWk.out.lt.1; have := HM1.out.size; have := hbc.size; omega); clear hbc)
              | (at_builtin; refine wpList_append_own_at _ rfl (.tmp 39) (.tmp 45) 22 rfl c 9 i0 _ 1 16 Tryz.underlying22 hi0 hz0 hz1' hz2'' rfl (by decide) _ l.length (strs l) rfl (HOc.out.alloc _) ⟨wc.heap.size, 0, none⟩ 1 1 [.string nm] rfl rfl HNw.out (by simp [Value.oneCell']) (by unfold maxLen; omega) (by omega) (by rw [World.size_alloc]; exact hszc2) ?_))
            intro v' w3 hown3 hg3 _ hat3
            obtain ⟨X3, cx3, rfl, _, _⟩ := own_form hown3
            have HO3 : Hid (w3.ownsRow c 9 1 (.slice X3 (l.length + 1) cx3) (l.length + 1) (strs (l ++ [nm]))) := Lib.hid (by rw [strs_append]; exact hown3)
            have HMc : Hid (Moves (fun k => Value.ownBlock (.slice X l.length cx) = some k) w1 w3) := Lib.hid ((((Moves.refl _ w1).trans (Below.moves HBc.out) (fun j hj => .inl hj)).alloc _).trans (moves_grown hg3) (fun j hj => .inr hj))
            have HS3 := Lib.hid (HS1.out.keep HMc.out (fun h => own_map_ne HO1.out HS1.out h))
            have HI3 := Lib.hid (HI1.out.moves HMc.out (fun j hj hq => by have := (HO1.out.lt j hj).1; have := (HQ1.out j hq).1; omega))
            have HB3 : Hid (Below W.heap.size W w3) := Lib.hid (HB1.out.trans (HMc.out.below (by have := HB1.out.size; omega) (fun j hj => Nat.le_trans hWc (HO1.out.lt j hj).1)))
            have HWk3 : Hid (WalkE W3 w3 Q' c c vr R) := Lib.hid ((HWk.out.keep HM1.out (fun k hk e => by rcases hk with rfl | hk; omega; have := (HWk.out.lt.2 k hk).1; omega)).keep HMc.out (fun k hk e => own_walk_ne HO1.out (HWk.out.keep HM1.out (fun k hk e => by rcases hk with rfl | hk; omega; have := (HWk.out.lt.2 k hk).1; omega)) e hk))
            clear hown3 hg3 hat3
            go_wp2_with (go_at_call 158; refine (HN.out vr R w3 HWk3.out HI3.out (by simp only [List.length_cons] at hlen; omega)).mono ?_; rintro e' w9 ⟨o9, rfl, hat9, hm9⟩)
            have HA9 := Lib.hid hat9
            have howb : ∀ j, ownE c vr j → c ≤ j := fun j hj => by rcases hj with rfl | hj; exact Nat.le_refl _; exact (HWk3.out.lt.2 j hj).1
            have HS9 := Lib.hid (HS3.out.keep hm9 (fun h => by have := howb mb h; omega))
            have HI9 := Lib.hid (HI3.out.moves hm9 (fun j hj hq => by have := howb j hj; have := (HQ1.out j hq).1; omega))
            have HB9 : Hid (Below W.heap.size W w9) := Lib.hid (HB3.out.trans (hm9.below (by have := HB3.out.size; omega) (fun j hj => by have := howb j hj; omega)))
            have HO9 := Lib.hid (hm9.row HO3.out (fun j hj ho => own_walk_ne HO3.out HWk3.out hj ho))
            clear hm9 hat9 howb
            go_roundg R.length
            case measure => simp only [List.length_cons] at hLk; omega
            case rel => exact ⟨(l ++ [nm]), X3, cx3, o9, R, rfl, by rw [List.length_append]; rfl, rfl, by simp only [List.length_cons, List.length_append, List.length_nil] at hlen ⊢; omega, HFt, Lib.hid (fun y hy => HNx.out y (List.mem_cons_of_mem _ hy)), HSm2, HA9, Lib.hid (by rw [List.length_append]; exact HS9.out), Lib.hid (by rw [List.length_append]; exact HO9.out), HI9, HB9⟩
        · have q2 : (op == 2) = false := beq_eq_false_iff_ne.2 h2
          have HFt : Hid (R.foldl stepN l = walkE e []) := Lib.hid (by have := HF.out; rw [List.foldl_cons, stepN] at this; rw [if_neg (show ¬ E.op (.mk op n nm ks) = 2 from h2)] at this; exact this)
          clear h2
          go_wp2_with (go_at_call 158; refine (HN.out vr R wr HWk.out HIr.out (by simp only [List.length_cons] at hlen; omega)).mono ?_; rintro e' w9 ⟨o9, rfl, hat9, hm9⟩)
          have HA9 := Lib.hid hat9
          have howb : ∀ j, ownE c vr j → c ≤ j := fun j hj => by rcases hj with rfl | hj; exact Nat.le_refl _; exact (HWk.out.lt.2 j hj).1
          have HS9 := Lib.hid (HS.out.keep hm9 (fun h => by have := howb mb h; omega))
          have HI9 := Lib.hid (HIr.out.moves hm9 (fun j hj hq => by have := howb j hj; have := (HQ1.out j hq).1; omega))
          have HB9 : Hid (Below W.heap.size W w9) := Lib.hid (HBr.out.trans (hm9.below (by have := HBr.out.size; omega) (fun j hj => by have := howb j hj; omega)))
          have HO9 := Lib.hid (hm9.row HO.out (fun j hj ho => own_walk_ne HO.out HWk.out hj ho))
          clear hm9 hat9 howb
          go_roundg R.length
          case measure => simp only [List.length_cons] at hLk; omega
          case rel => exact ⟨l, X, cx, o9, R, rfl, rfl, rfl, by simp only [List.length_cons] at hlen; omega, HFt, Lib.hid (fun y hy => HNx.out y (List.mem_cons_of_mem _ hy)), HSm, HA9, HS9, HO9, HI9, HB9⟩
end Go.Proofs.YtimejkbmfbjomaaGreat
namespace Go.Proofs.YtimejkbmfbjomaaGreat
open Go.ChangeShapes Go.WideShapes Go.ChangeAt Go.RowKit Go.Deep
set_option linter.unusedVariables false
set_option linter.unusedSimpArgs false
def dupL : List ByteArray → List ByteArray → Bool
 | _, [] => false
 | p, x :: r => p.any (isT x) || dupL (p ++ [x]) r
def dup (l : List ByteArray) : Bool := dupL [] l
theorem dupL_step {l : List ByteArray} {k : Nat} (h : k < l.length) : dupL (l.take k) (l.drop k) = ((l.take k).any (isT l[k]) || dupL (l.take (k + 1)) (l.drop (k + 1))) := by
 rw [List.drop_eq_getElem_cons h, dupL, List.take_succ_eq_append_getElem h]
theorem texts_take {w : World} {Q : Nat → Prop} {l : List ByteArray} {A : Option Addr} {n cap k : Nat} (h : TextsI w Q l (.slice A n cap)) (hk : k ≤ l.length) : TextsI w Q (l.take k) (.slice A k cap) := by
 obtain ⟨A', cap', css, h1, h2, h3, h4⟩ := h
 simp only [Value.slice.injEq] at h1
 obtain ⟨rfl, rfl, rfl⟩ := h1
 have hl : (l.take k).length = k := by rw [List.length_take]; omega
 refine ⟨A, cap, css, by rw [hl], ⟨by omega, h2.2⟩, fun h0 => ?_, fun i hi => ?_⟩
 ·obtain ⟨a, ha, hq, hc⟩ := h3 (by omega)
  exact ⟨a, ha, hq, fun i hi => hc i (by omega)⟩
 ·have := h4 i (by omega)
  rw [List.getElem_take]
  exact this
set_option maxHeartbeats 1000000 in
theorem distinct_any {w W : World} {Q : Nat → Prop} {l : List ByteArray} {v : Value} (h : TextsI w Q l v) (hI : In Q w W) :
  Calls Tryz.prog 53 #[v] W fun e w' => e = .returned (.bool (!dup l)) ∧ W = w' := by
 obtain ⟨A, cap, rfl, hl1, hl2⟩ := h.shape
 have H := Lib.hid h
 have HI := Lib.hid hI
 clear h hI
 go_enter Tryz.func53, Tryz.ntmps53
 go_wp2_with fail
 go_loopg [7] l.length (fun kk i wr => ∃ k : Nat, k + kk = l.length ∧ i = .int .i64 k ∧ Hid (dupL (l.take k) (l.drop k) = dup l) ∧ wr = W)
 case atStart => exact ⟨0, by omega, rfl, Lib.hid (by rw [List.drop_zero, List.take_zero]; rfl), rfl⟩
 case round =>
  obtain ⟨k, hk, rfl, HW, rfl⟩ := hrel
  by_cases hlt : k < l.length
  ·obtain ⟨a, rfl, _, p1, hs⟩ := text_at H.out HI.out hlt
   have HD := Lib.hid (dupL_step hlt)
   rw [HW.out] at HD
   have HC := Lib.hid (Contains_any (W := wr) (texts_take H.out (Nat.le_of_lt hlt)) HI.out l[k])
   generalize l[k] = t at p1 hs HD HC
   cases hb : (l.take k).any (isT t) with
   | true =>
    rw [hb, Bool.true_or] at HD
    rw [hb] at HC
    clear hb
    go_wp2_with (go_at_call 94; refine HC.out.mono ?_; rintro e w' ⟨rfl, rfl⟩)
    go_ret
    exact ⟨ret_bool (by rw [HD.out]; rfl), rfl⟩
   | false =>
    rw [hb, Bool.false_or] at HD
    rw [hb] at HC
    clear hb
    go_wp2_with (go_at_call 94; refine HC.out.mono ?_; rintro e w' ⟨rfl, rfl⟩)
    go_roundg (l.length - k - 1)
    case measure => omega
    case rel => exact ⟨k + 1, by omega, by go_num, Lib.hid HD.out.symm, rfl⟩
  ·have HD : Hid (dup l = false) := Lib.hid (by rw [← HW.out, List.drop_of_length_le (by omega), dupL])
   go_wp2_with fail
   go_ret
   exact ⟨ret_bool (by rw [HD.out]; rfl), rfl⟩
def argV (a : Ar) : List ByteArray := if a.ref = true then [a.nm] else namesE a.x
def ownV (kind : Int) (nm : ByteArray) : List ByteArray := if (!nm.toList.isEmpty && kind != 10) = true then [nm] else []
def varsS (s : S) : List ByteArray := namesE s.x ++ ownV s.kind s.nm ++ s.args.flatMap argV
theorem flat_take {α β : Type} {f : α → List β} {l : List α} {k : Nat} (h : k < l.length) : (l.take (k + 1)).flatMap f = (l.take k).flatMap f ++ f l[k] := by
 rw [List.take_succ_eq_append_getElem h, List.flatMap_append]
 simp
theorem flat_take_le {α β : Type} {f : α → List β} {l : List α} {k : Nat} : ((l.take k).flatMap f).length ≤ (l.flatMap f).length := by
 conv => rhs; rw [← List.take_append_drop k l, List.flatMap_append]
 rw [List.length_append]
 omega
theorem new_small {l : List ByteArray} {W w : World} {v : Value} (hl : ∀ s ∈ l, small s) (h : w.ownsRow W.heap.size 9 1 v l.length (strs l)) : TextsI w (nw W w) l v := (texts_of_own hl h).2
theorem namesE_small {w : World} {Q : Nat → Prop} {e : E} {cs : List Value} (h : ExprI w Q e cs) : ∀ t ∈ namesE e, small t := by
 unfold namesE
 split
 ·exact walkE_all h (fun t ht => absurd ht (by simp))
 ·exact fun t ht => absurd ht (by simp)
set_option maxHeartbeats 4000000 in
set_option maxRecDepth 100000 in
theorem variables_any {w : World} {Q : Nat → Prop} {s : S} {cs : List Value} (h : StmtI w Q s cs) (hn : (varsS s).length ≤ 1000000) (W : World) (hI : In Q w W) :
 Calls Tryz.prog 117 #[.agg cs.toArray] W (NewRow (varsS s) W) := by
 obtain ⟨id, kind, labels, nm, proc, x, has, args, th, el, L, lc, x0, x1, x2, X, xn, xc, R, rc, T, tc, U, uc, rfl, rfl, hid, hkind, hnm, hproc, hl, hx, ha, hth, hel⟩ := stmt_open h
 have HNa := Lib.hid (fun V hV => Names_any hx V hV)
 have HNs := Lib.hid (namesE_small hx)
 have HA := Lib.hid ha
 have HI := Lib.hid hI
 have HV : Hid (varsS (.mk id kind labels nm proc x has args th el) = namesE x ++ ownV kind nm ++ args.flatMap argV) := Lib.hid rfl
 have HN : Hid ((namesE x).length + (ownV kind nm).length + (args.flatMap argV).length ≤ 1000000) := Lib.hid (by rw [HV.out] at hn; simp only [List.length_append] at hn; exact hn)
 have hok := hkind
 unfold i64 at hok
 obtain ⟨i0, hi0, hz0, hz1, hz2⟩ := info_parts string_info
 obtain ⟨_, har, hrc, _⟩ := slice_len ha
 clear h hn hI hl hx ha hth hel hid hkind hnm hproc
 simp only [List.toArray]
 go_enter Tryz.func117, Tryz.ntmps117
 go_upto_region 1 with fail
 have HBp : Hid (Blk (W.alloc (.cells #[.int .i64 id, .int .i64 kind, .slice L labels.length lc, .string nm, .string proc, .int .i64 x0, .int .i64 x1, .string x2, .slice X xn xc, .bool has, .slice R args.length rc, .slice T th.length tc, .slice U el.length uc] 49)) W.heap.size 49 #[.int .i64 id, .int .i64 kind, .slice L labels.length lc, .string nm, .string proc, .int .i64 x0, .int .i64 x1, .string x2, .slice X xn xc, .bool has, .slice R args.length rc, .slice T th.length tc, .slice U el.length uc]) := Lib.hid (Blk.new _ _ _)
 have HB0 : Hid (Below W.heap.size W (W.alloc (.cells #[.int .i64 id, .int .i64 kind, .slice L labels.length lc, .string nm, .string proc, .int .i64 x0, .int .i64 x1, .string x2, .slice X xn xc, .bool has, .slice R args.length rc, .slice T th.length tc, .slice U el.length uc] 49))) := Lib.hid (below_box _)
 generalize World.alloc _ _ = V at HBp HB0 ⊢
 generalize W.heap.size = b at HBp ⊢
 have HI0 := Lib.hid (HI.out.on HB0.out)
 have q5 : V.cell? ⟨b, 5, none⟩ = some (.int .i64 x0) := by rw [HBp.out.cell]; rfl
 have q6 : V.cell? ⟨b, 6, none⟩ = some (.int .i64 x1) := by rw [HBp.out.cell]; rfl
 have q7 : V.cell? ⟨b, 7, none⟩ = some (.string x2) := by rw [HBp.out.cell]; rfl
 have q8 : V.cell? ⟨b, 8, none⟩ = some (.slice X xn xc) := by rw [HBp.out.cell]; rfl
 have hbl := HBp.out.lt
 go_upto_region 2 with (go_at_call 116; refine (HNa.out V HI0.out).mono ?_; rintro e w1 ⟨v1, rfl, ho1, hb1⟩; obtain ⟨X1, k1, rfl, _, _⟩ := own_shape ho1)
 have HS1 : Hid (NmI V w1 (namesE x) X1 (namesE x).length k1) := Lib.hid ⟨ho1, hb1⟩
 have HBp1 := Lib.hid (HBp.out.below hb1 hbl)
 clear q5 q6 q7 q8 ho1 hb1 HNa
 have q1 : w1.cell? ⟨b, 1, none⟩ = some (.int .i64 kind) := by rw [HBp1.out.cell]; rfl
 have q3 : w1.cell? ⟨b, 3, none⟩ = some (.string nm) := by rw [HBp1.out.cell]; rfl
 have hb1l := HBp1.out.lt
 generalize hnx : namesE x = nx at *
 clear hnx
 obtain ⟨bb, hbb⟩ : ∃ bb, bb = (!nm.toList.isEmpty && kind != 10) := ⟨_, rfl⟩
 have HK : Hid (ownV kind nm = if bb = true then [nm] else []) := Lib.hid (by rw [hbb]; rfl)
 have Hbb := Lib.hid hbb
 clear hbb
 go_cut [16] from 9 to 15 (fun s wx => s = .bool bb ∧ wx = w1)
 case first =>
  cases he : nm.toList.isEmpty with
  | true =>
   have he2 : (nm.toList == []) = true := by simpa using he
   have H2 : Hid (bb = false) := Lib.hid (by rw [Hbb.out, he]; rfl)
   go_wp2_with fail
   go_meet
   exact ⟨by rw [H2.out]; try rfl, rfl⟩
  | false =>
   have he2 : (nm.toList == []) = false := by simpa using he
   have H2 : Hid (bb = (kind != 10)) := Lib.hid (by rw [Hbb.out, he]; rfl)
   go_wp2_with fail
   go_meet
   exact ⟨by rw [H2.out]; try rfl, rfl⟩
 case rest =>
 obtain ⟨rfl, rfl⟩ := hcut
 go_upto_if 16 with fail
 go_cut [3] from 17 to 21 (fun s wx => ∃ (X2 : Option Addr) (k2 : Nat), s = .slice X2 (nx.length + (ownV kind nm).length) k2 ∧ Hid (NmI V wx (nx ++ ownV kind nm) X2 (nx.length + (ownV kind nm).length) k2))
 case first =>
  have HO1 : Hid (wc.ownsRow V.heap.size 9 1 (.slice X1 nx.length k1) nx.length (strs nx)) := Lib.hid HS1.out.row
  have HO1a : Hid ((wc.alloc (.cells #[.string nm] 9)).ownsRow V.heap.size 9 1 (.slice X1 nx.length k1) nx.length (strs nx)) := Lib.hid (HO1.out.alloc _)
  have HB1a : Hid (Below V.heap.size V (wc.alloc (.cells #[.string nm] 9))) := Lib.hid (below_stepA HS1.out.below _)
  have HW := Lib.hid (new_one wc nm)
  have HLn : Hid (nx.length + 1 ≤ 1000001) := Lib.hid (by have := HN.out; omega)
  cases bb with
  | false =>
   have HK2 : Hid (ownV kind nm = []) := Lib.hid (by rw [HK.out]; rfl)
   go_wp2_with fail
   go_meet
   exact ⟨X1, k1, by rw [HK2.out]; rfl, Lib.hid (by rw [HK2.out, List.append_nil]; exact HS1.out)⟩
  | true =>
   have HK2 : Hid (ownV kind nm = [nm]) := Lib.hid (by rw [HK.out]; rfl)
   go_wp2_with (at_builtin; refine wpList_append_own_at _ rfl (.tmp 17) (.tmp 20) 22 rfl V.heap.size 9 i0 _ 1 16 Tryz.underlying22 hi0 hz0 hz1 hz2 rfl (by decide) _ nx.length (strs nx) rfl HO1a.out ⟨wc.heap.size, 0, none⟩ 1 1 [.string nm] rfl rfl HW.out (by simp [Value.oneCell']) (by have := HLn.out; unfold maxLen; omega) (by have := HLn.out; omega) HB1a.out.size ?_; intro v6 w6 hown6 hg6 _ hat6; obtain ⟨X6, k6, rfl, _, _⟩ := own_shape hown6; have HO6 := Lib.hid hown6; have HG6 := Lib.hid hg6; clear hown6 hg6 hat6)
   go_meet
   exact ⟨X6, k6, by rw [HK2.out]; rfl, Lib.hid (by rw [HK2.out]; exact ⟨by rw [strs_append]; exact HO6.out, HB1a.out.grown HG6.out HB1a.out.size (fun j hj => (HO1a.out.lt j hj).1)⟩)⟩
 case rest =>
  obtain ⟨X2, k2, rfl, HS2⟩ := hcut
  have hl0 : nx.length + (ownV kind nm).length = (nx ++ ownV kind nm).length := (List.length_append).symm
  have HN2 : Hid ((nx ++ ownV kind nm).length + (args.flatMap argV).length ≤ 1000000) := Lib.hid (by have := HN.out; simp only [List.length_append]; omega)
  rw [hl0] at HS2 ⊢
  clear hl0 HS1 HBp1 q1 q3 HN
  generalize nx ++ ownV kind nm = l0 at HS2 HV HN2 ⊢
  have HBp2 := Lib.hid (HBp.out.below HS2.out.below hbl)
  have q10 : wc.cell? ⟨b, 10, none⟩ = some (.slice R args.length rc) := by rw [HBp2.out.cell]; rfl
  go_upto_region 5 with fail
  clear q10 HBp2
  go_loopw [3, 25] (fun ov iv wr => ∃ (k : Nat) (Xr : Option Addr) (n c : Nat), k ≤ args.length ∧ iv = .int .i64 k ∧ ov = .slice Xr n c ∧ n = (l0 ++ (args.take k).flatMap argV).length ∧ Hid (NmI V wr (l0 ++ (args.take k).flatMap argV) Xr n c)) (fun _ iv _ => args.length - (intOf iv).toNat)
  case atStart => exact ⟨0, X2, _, k2, Nat.zero_le _, rfl, rfl, by simp, Lib.hid (by simpa using HS2.out)⟩
  case round =>
   clear HS2
   obtain ⟨k, Xr, n, c, hk, rfl, rfl, hnl, HR⟩ := hrel
   have HIr := Lib.hid (HI0.out.on HR.out.below)
   by_cases hlt : k < args.length
   ·obtain ⟨a, o1, n1, s1, A1, l1, k1, rfl, _, ⟨p0, p1, p2, p3, p4, p5, _⟩, hs, hxa⟩ := arg_at HA.out HIr.out hlt
    have HC := Lib.hid (fun V hV => Names_any hxa V hV)
    have HCs := Lib.hid (namesE_small hxa)
    have HT : Hid ((args.take (k + 1)).flatMap argV = (args.take k).flatMap argV ++ argV args[k]) := Lib.hid (flat_take hlt)
    have HNk : Hid (n + (argV args[k]).length ≤ 1000000) := Lib.hid (by
     have h1 := flat_take_le (f := argV) (l := args) (k := k + 1)
     rw [HT.out] at h1
     have h2 := HN2.out
     rw [hnl]
     simp only [List.length_append] at h1 ⊢
     omega)
    have HLk : Hid (n = (l0 ++ (args.take k).flatMap argV).length) := Lib.hid hnl
    generalize (args.take k).flatMap argV = pre at HR HT HLk
    have HV2 : Hid (argV args[k] = if args[k].ref = true then [args[k].nm] else namesE args[k].x) := Lib.hid rfl
    generalize args[k] = y at p0 p1 hs HC HCs HT HNk HV2
    obtain ⟨xr, xnm, xx⟩ := y
    simp only at p0 p1 hs HV2
    clear hnl
    go_upto_region 7 with fail
    have HBx : Hid (Blk (wr.alloc (.cells #[.bool xr, .string xnm, .int .i64 o1, .int .i64 n1, .string s1, .slice A1 l1 k1] 61)) wr.heap.size 61 #[.bool xr, .string xnm, .int .i64 o1, .int .i64 n1, .string s1, .slice A1 l1 k1]) := Lib.hid (Blk.new _ _ _)
    have HO4 : Hid ((wr.alloc (.cells #[.bool xr, .string xnm, .int .i64 o1, .int .i64 n1, .string s1, .slice A1 l1 k1] 61)).ownsRow V.heap.size 9 1 (.slice Xr n c) n (strs (l0 ++ pre))) := Lib.hid (HR.out.row.alloc _)
    have HB4 : Hid (Below V.heap.size V (wr.alloc (.cells #[.bool xr, .string xnm, .int .i64 o1, .int .i64 n1, .string s1, .slice A1 l1 k1] 61))) := Lib.hid (below_stepA HR.out.below _)
    have HI4 : Hid (In Q w (wr.alloc (.cells #[.bool xr, .string xnm, .int .i64 o1, .int .i64 n1, .string s1, .slice A1 l1 k1] 61))) := Lib.hid (HIr.out.alloc _)
    clear p0 p1 p2 p3 p4 p5
    generalize World.alloc wr _ = V4 at HBx HO4 HB4 HI4 ⊢
    generalize wr.heap.size = bx at HBx ⊢
    have z0 : V4.cell? ⟨bx, 0, none⟩ = some (.bool xr) := by rw [HBx.out.cell]; rfl
    have z1 : V4.cell? ⟨bx, 1, none⟩ = some (.string xnm) := by rw [HBx.out.cell]; rfl
    have z2 : V4.cell? ⟨bx, 2, none⟩ = some (.int .i64 o1) := by rw [HBx.out.cell]; rfl
    have z3 : V4.cell? ⟨bx, 3, none⟩ = some (.int .i64 n1) := by rw [HBx.out.cell]; rfl
    have z4 : V4.cell? ⟨bx, 4, none⟩ = some (.string s1) := by rw [HBx.out.cell]; rfl
    have z5 : V4.cell? ⟨bx, 5, none⟩ = some (.slice A1 l1 k1) := by rw [HBx.out.cell]; rfl
    cases xr with
    | true =>
     rw [if_pos rfl] at HV2
     rw [HV2.out] at HT HNk
     have hn1 : n + 1 ≤ 1000000 := HNk.out
     have HW := Lib.hid (new_one V4 xnm)
     have HO5 : Hid ((V4.alloc (.cells #[.string xnm] 9)).ownsRow V.heap.size 9 1 (.slice Xr n c) n (strs (l0 ++ pre))) := Lib.hid (HO4.out.alloc _)
     have HB5 : Hid (Below V.heap.size V (V4.alloc (.cells #[.string xnm] 9))) := Lib.hid (below_stepA HB4.out _)
     go_wp2_with (at_builtin; refine wpList_append_own_at _ rfl (.tmp 31) (.tmp 34) 22 rfl V.heap.size 9 i0 _ 1 16 Tryz.underlying22 hi0 hz0 hz1 hz2 rfl (by decide) _ n (strs (l0 ++ pre)) rfl HO5.out ⟨V4.heap.size, 0, none⟩ 1 1 [.string xnm] rfl rfl HW.out (by simp [Value.oneCell']) (by unfold maxLen; omega) (by omega) HB5.out.size ?_; intro v6 w6 hown6 hg6 _ hat6; obtain ⟨X6, k6, rfl, _, _⟩ := own_shape hown6; have HO6 := Lib.hid hown6; have HG6 := Lib.hid hg6; clear hown6 hg6 hat6)
     have HS : Hid (NmI V w6 (l0 ++ (args.take (k + 1)).flatMap argV) X6 (n + 1) k6) := Lib.hid ⟨by rw [HT.out, ← List.append_assoc, strs_append]; exact HO6.out, HB5.out.grown HG6.out HB5.out.size (fun j hj => (HO5.out.lt j hj).1)⟩
     go_roundw
     case rel => exact ⟨k + 1, X6, _, k6, by omega, by go_num, rfl, by rw [HT.out, ← List.append_assoc, List.length_append, ← HLk.out]; rfl, HS⟩
     case measure => simp [intOf]; omega
    | false =>
     rw [if_neg (by decide)] at HV2
     rw [HV2.out] at HT HNk
     go_wp2_with (first
      | (go_at_call 116; refine (HC.out V4 HI4.out).mono ?_; rintro e w5 ⟨v5, rfl, ho5, hb5⟩; obtain ⟨X5, k5, rfl, _, _⟩ := own_shape ho5; have HT5 := Lib.hid (new_small HCs.out ho5); have HO5 : Hid (w5.ownsRow V.heap.size 9 1 (.slice Xr n c) n (strs (l0 ++ pre))) := Lib.hid ((Below.moves hb5).row HO4.out (fun j hj e => Nat.not_lt.2 e (HO4.out.lt j hj).2)); have HB5 := Lib.hid (below_step HB4.out hb5); clear ho5 hb5)
      | (at_builtin; refine wpList_append_texts rfl (.tmp 36) (.tmp 39) 22 rfl V.heap.size 9 i0 _ Tryz.underlying22 hi0 hz0 hz1 hz2 rfl _ n (strs (l0 ++ pre)) rfl HO5.out w5 (nw V4 w5) X5 (namesE xx) (namesE xx).length k5 rfl rfl HT5.out ⟨fun j h => h.2, fun _ _ => rfl⟩ HNk.out HB5.out.size ?_; intro v6 w6 hown6 hg6; obtain ⟨X6, k6, rfl, _, _⟩ := own_shape hown6; have HO6 := Lib.hid hown6; have HG6 := Lib.hid hg6; clear hown6 hg6))
     have HS : Hid (NmI V w6 (l0 ++ (args.take (k + 1)).flatMap argV) X6 (n + (namesE xx).length) k6) := Lib.hid ⟨by rw [HT.out, ← List.append_assoc, strs_append]; exact HO6.out, HB5.out.grown HG6.out HB5.out.size (fun j hj => (HO5.out.lt j hj).1)⟩
     go_roundw
     case rel => exact ⟨k + 1, X6, _, k6, by omega, by go_num, rfl, by rw [HT.out, ← List.append_assoc, List.length_append, ← HLk.out], HS⟩
     case measure => simp [intOf]; omega
   ·have hke : k = args.length := by omega
    subst hke
    go_wp2_with fail
    go_ret
    refine ⟨_, rfl, own_lower ?_ HB0.out.size, below_step HB0.out HR.out.below⟩
    have h := HR.out.row
    rw [List.take_length] at h hnl
    rw [HV.out]
    rw [hnl] at h ⊢
    exact h
end Go.Proofs.YtimejkbmfbjomaaGreat
