/- Texts, merged by a program; only what is used. -/
import Derived.Maps.OwnSet
import Derived.Maps.Views
import Derived.StringKeys
import Derived.Deep.LoopGhost
import Derived.Test.YtcocilpifdjibaaK1
import Derived.Test.YtcocilpifdjibaaK2
import Derived.Test.YtcocilpifdjibaaK3
import Derived.Test.YtcocilpifdjibaaK4
import Derived.Test.YtcocilpifdjibaaK5
import Derived.Test.YtcocilpifdjibaaK7
namespace Go.Proofs.Ytcocilpifdjibaa
open Go.ChangeShapes Go.WideShapes Go.ChangeAt Go.RowKit Go.Deep
set_option linter.unusedVariables false
theorem keyLaw : Maps.Keyed Try.prog 9 := Maps.string_keyed Try.underlying9
theorem zeroB (w : World) : (zeroValue 4).run Try.prog w = .ok (.bool false) w := by kernel_rfl
theorem plainElem_bool_inv {H : Type} {P : Program} {e : TypeId} (he : P.underlying e = some .bool) {v : Value} {z : DataW H × List MemPlace} (h : plainElem P e v = some z) : ∃ x, v = .bool x ∧ z = (.lit (.bool x), []) := by
  unfold plainElem at h
  rw [he] at h
  cases v <;> simp at h
  exact ⟨_, rfl, h.symm⟩
def SeenI (w : World) (b n : Nat) (l : List ByteArray) : Prop :=
  ∃ D : DataW Unit, w.ownsMap Try.prog 9 (plainElem Try.prog 4) b n D ∧ ∀ s : ByteArray, small s → D.atKey (.string s.data.toList) (.lit (.bool false)) = .lit (.bool (hasB l s))
theorem SeenI.new (w : World) : SeenI (w.alloc (.map #[] 0)) w.heap.size 0 [] := ⟨.map [], World.ownsMap_made w _ _ _, fun s _ => rfl⟩
theorem SeenI.blk {w : World} {b n : Nat} {l : List ByteArray} (h : SeenI w b n l) : ∃ es clock, w.heap[b]? = some (.map es clock) := by
  obtain ⟨D, ⟨es, clock, h1, _⟩, _⟩ := h
  exact ⟨es, clock, h1⟩
theorem SeenI.keep {own : Nat → Prop} {w w' : World} {b n : Nat} {l : List ByteArray} (h : SeenI w b n l) (hm : Moves own w w') (hn : ¬ own b) : SeenI w' b n l := by
  obtain ⟨D, ⟨es, clock, h1, h2⟩, h3⟩ := h
  exact ⟨D, ⟨es, clock, (hm.block b (Array.getElem?_eq_some_iff.1 h1).1 hn).trans h1, h2⟩, h3⟩
theorem SeenI.look {w : World} {b n : Nat} {l : List ByteArray} (h : SeenI w b n l) {s : ByteArray} (hs : small s) : (Instr.lookup 139 (.map (some b)) (.string s) false).run Try.prog w = .ok (.bool (hasB l s)) w := by
  obtain ⟨D, h1, h2⟩ := h
  have hs' : s.size ≤ maxLen := by unfold small at hs; unfold maxLen; omega
  obtain ⟨v, ps, hrun, hv⟩ := h1.lookup keyLaw Try.underlying139 (zeroB w) (plainElem_bool (H := Unit) Try.underlying4 false) (WideMaps.keyOf_string_mk Try.underlying9 hs')
  obtain ⟨x, rfl, hz⟩ := plainElem_bool_inv Try.underlying4 hv
  rw [h2 s hs] at hz
  simp only [Prod.mk.injEq, DataW.lit.injEq, Lit.bool.injEq] at hz
  rw [hrun, hz.1]
theorem SeenI.put {w : World} {b n : Nat} {l : List ByteArray} (h : SeenI w b n l) (hn : n ≤ 1099511627776) {s : ByteArray} (hs : small s) :
    ∃ w', (Instr.mapUpdate 139 (.map (some b)) (.string s) (.bool true)).run Try.prog w = .ok () w' ∧ SeenI w' b (n + 1) (l ++ [s]) ∧ w.grownBy w' (some b) := by
  obtain ⟨D, h1, h2⟩ := h
  have hs' : s.size ≤ maxLen := by unfold small at hs; unfold maxLen; omega
  obtain ⟨w', hrun, h3, h4⟩ := h1.update keyLaw Try.underlying139 (by unfold maxLen; omega) (WideMaps.keyOf_string_mk Try.underlying9 hs') (plainElem_bool (H := Unit) Try.underlying4 true)
  refine ⟨w', hrun, ⟨_, h3, fun t ht => ?_⟩, h4⟩
  have hh : hasB (l ++ [s]) t = (hasB l t || decide (s = t)) := by simp [hasB]
  by_cases he : t = s
  · subst he
    rw [Maps.atKey_put_same h1.isMap (by simp [WideAt.IsKeyLit]), hh]
    simp
  · have hne : Lit.string t.data.toList ≠ Lit.string s.data.toList := by
      intro e
      injection e with e
      apply he
      rw [← bs_bl t, ← bs_bl s]
      exact congrArg bs e
    rw [Maps.atKey_put_other hne, h2 t ht, hh]
    simp [Ne.symm he]
/-- two rows of other element types never share a block; nor a row and a map -/
theorem own_own_ne {w : World} {base base' n n' size size' : Nat} {e e' : TypeId} {v v' : Value} {xs xs' : List Value} (h : w.ownsRow base e size v n xs) (h' : w.ownsRow base' e' size' v' n' xs') (hne : e ≠ e') {j : Nat} (hj : v.ownBlock = some j) : v'.ownBlock ≠ some j := by
  rcases h.2 with ⟨rfl, _⟩ | ⟨g, cap, cur, rfl, _, hh, _⟩
  · simp [Value.ownBlock] at hj
  · have : g = j := by simpa [Value.ownBlock] using hj
    subst this
    exact own_blk_ne h' hh (Ne.symm hne)
theorem own_map_ne {w : World} {base n size b m : Nat} {e : TypeId} {v : Value} {xs : List Value} {l : List ByteArray} (h : w.ownsRow base e size v n xs) (hs : SeenI w b m l) : v.ownBlock ≠ some b := by
  obtain ⟨es, clock, hb⟩ := hs.blk
  rcases h.2 with ⟨rfl, _⟩ | ⟨g, cap, cur, rfl, _, hh, _⟩
  · simp [Value.ownBlock]
  · intro hj
    have : g = b := by simpa [Value.ownBlock] using hj
    subst this
    rw [hb] at hh; cases hh
end Go.Proofs.Ytcocilpifdjibaa
namespace Go.Proofs.Ytcocilpifdjibaa
open Go.ChangeShapes Go.WideShapes Go.ChangeAt Go.RowKit Go.Deep
set_option linter.unusedVariables false
def stepN (l : List ByteArray) (x : E) : List ByteArray := if x.op = 2 then spoke l x.nm else l
mutual
theorem walkE_fold : ∀ (e : E) (l : List ByteArray), walkE e l = (preE e).foldl stepN l
  | .mk op n nm ks, l => by rw [walkE, preE, List.foldl_cons, walkL_fold ks]; rfl
theorem walkL_fold : ∀ (ks : List E) (l : List ByteArray), walkL ks l = (preL ks).foldl stepN l
  | [], l => by rw [walkL, preL]; rfl
  | k :: ks, l => by rw [walkL, preL, List.foldl_append, walkE_fold k, walkL_fold ks]
end
mutual
theorem preE_len : ∀ e : E, (preE e).length = sizE e
  | .mk op n nm ks => by rw [preE, sizE, List.length_cons, preL_len ks]
theorem preL_len : ∀ l : List E, (preL l).length = sizL l
  | [] => by rw [preL, sizL]; rfl
  | k :: ks => by rw [preL, sizL, List.length_append, preE_len k, preL_len ks]
end
mutual
theorem mayE_nm : ∀ (e : E) (d : Nat), mayE d e = true → ∀ x ∈ preE e, x.op = 2 → isNm (bl x.nm) = true
  | .mk op n nm ks, d, h, x, hx, ho => by
    rw [mayE, Bool.and_eq_true] at h
    rw [preE] at hx
    rcases List.mem_cons.1 hx with rfl | hx
    · have h2 : op = 2 := ho
      rw [if_neg (by omega), if_pos h2] at h
      simp only [Bool.and_eq_true] at h
      exact h.2.1.2
    · by_cases h1 : op = 1
      · rw [if_pos h1] at h
        simp only [Bool.and_eq_true, decide_eq_true_eq] at h
        obtain rfl : ks = [] := List.eq_nil_of_length_eq_zero h.2.2
        rw [preL] at hx; cases hx
      · rw [if_neg h1] at h
        by_cases h2 : op = 2
        · rw [if_pos h2] at h
          simp only [Bool.and_eq_true, decide_eq_true_eq] at h
          obtain rfl : ks = [] := List.eq_nil_of_length_eq_zero h.2.2
          rw [preL] at hx; cases hx
        · rw [if_neg h2] at h
          simp only [Bool.and_eq_true] at h
          exact mayL_nm ks (d - 1) h.2.2 x hx ho
theorem mayL_nm : ∀ (ks : List E) (d : Nat), mayL d ks = true → ∀ x ∈ preL ks, x.op = 2 → isNm (bl x.nm) = true
  | [], d, _, x, hx, _ => by rw [preL] at hx; cases hx
  | k :: ks, d, h, x, hx, ho => by
    rw [mayL, Bool.and_eq_true] at h
    rw [preL] at hx
    rcases List.mem_append.1 hx with hx | hx
    · exact mayE_nm k d h.1 x hx ho
    · exact mayL_nm ks d h.2 x hx ho
end
/-- one list of the one expression e, at the block b -/
theorem one_slice {w : World} {Q : Nat → Prop} {e : E} {c0 c1 c2 c3 : Value} {b : Nat} (h : ExprI w Q e [c0, c1, c2, c3]) (hQ : Q b) (hb : Blk w b 45 #[c0, c1, c2, c3]) : SliceI w Q 4 (ExprI w Q) [e] (.slice (some ⟨b, 0, none⟩) 1 1) := by
  refine ⟨some ⟨b, 0, none⟩, 1, fun _ => [c0, c1, c2, c3], rfl, ⟨Nat.le_refl _, by omega⟩, fun _ => ⟨_, rfl, hQ, fun i hi j u hu => ?_⟩, fun i hi => ?_⟩
  · have hi0 : i = 0 := by simpa using hi
    subst hi0
    have hj : j < 4 := by have := (List.getElem?_eq_some_iff.1 hu).1; simpa using this
    have ha : (⟨b, 0, none⟩ : Addr).add (0 * 4 + j) = ⟨b, j, none⟩ := by
      rw [Nat.zero_mul, Nat.zero_add]
      by_cases h0 : j = 0
      · subst h0; rw [add_zero_]
      · rw [add_ne _ h0]; simp
    rw [ha, hb.cell j]
    simpa using hu
  · have hi0 : i = 0 := by simpa using hi
    subst hi0
    exact h
theorem own_walk_ne {w W : World} {Q : Nat → Prop} {base base' c n : Nat} {v v' : Value} {R : List E} {xs : List Value} (h : W.ownsRow base' 9 1 v n xs) (hw : WalkE w W Q base c v' R) {j : Nat} (hj : v.ownBlock = some j) : ¬ ownE c v' j := by
  obtain ⟨last, s, R0, hc, hp, hl⟩ := hw
  rintro (rfl | h2)
  · exact own_blk_ne h hc.blk (by decide) hj
  · exact own_own_ne h hc.row (by decide) hj h2
set_option maxRecDepth 100000 in
set_option maxHeartbeats 2000000 in
theorem Names_any {w : World} {Q : Nat → Prop} {e : E} {c0 c1 c2 c3 : Value} (h : ExprI w Q e [c0, c1, c2, c3]) (W : World) (hI : In Q w W) :
    Calls Try.prog 52 #[.agg #[c0, c1, c2, c3]] W (NewRow (namesE e) W) := by
  have HM := Lib.hid (fun W h1 => MayExpr_any h W h1)
  have HI := Lib.hid hI
  have HE := Lib.hid h
  unfold namesE
  have hz := mayE_siz e 20
  have hnm := mayE_nm e 20
  obtain ⟨d0, d1, d2, d3, l3, k3, hd'⟩ := h.form
  simp only [List.cons.injEq, and_true] at hd'
  obtain ⟨rfl, rfl, rfl, rfl⟩ := hd'
  clear h hI
  cases hm : mayE 20 e with
  | false =>
    rw [hm] at HM
    clear hm hz hnm
    go_enter Try.func52, Try.ntmps52
    go_wp2_with (go_at_call 111; refine (HM.out _ (HI.out.alloc _)).mono ?_; rintro e' w2 ⟨rfl, hb2⟩)
    go_ret
    exact ⟨.slice none 0 0, rfl, World.ownsRow_nil _ _ _ _, below_new hb2⟩
  | true =>
    have hz2 : sizE e ≤ 2000000 := by have := hz hm; omega
    have HNm := Lib.hid (hnm hm)
    rw [hm] at HM
    clear hm hz hnm
    have hmm := @run_makeMap Try.prog
    go_enter Try.func52, Try.ntmps52
    go_wp2_with (go_at_call 111; refine (HM.out _ (HI.out.alloc _)).mono ?_; rintro e' w2 ⟨rfl, hb2⟩; have hc2 := (bcell hb2).1; have HB2 := Lib.hid (below_new hb2); have hz3 : W.heap.size < w2.heap.size := (by have := hb2.size; rw [World.size_alloc] at this; omega); clear hb2)
    have HS0 : Hid (SeenI ((w2.alloc (.map #[] 0)).alloc (.cells #[.int .i64 d0, .int .i64 d1, .string d2, .slice d3 l3 k3] 45)) w2.heap.size 0 []) := Lib.hid ((SeenI.new w2).keep (own := fun _ => False) ((Moves.refl _ _).alloc _) (fun h => h))
    have HBl : Hid (Blk ((w2.alloc (.map #[] 0)).alloc (.cells #[.int .i64 d0, .int .i64 d1, .string d2, .slice d3 l3 k3] 45)) (w2.heap.size + 1) 45 #[.int .i64 d0, .int .i64 d1, .string d2, .slice d3 l3 k3]) := Lib.hid (by have := Blk.new (w2.alloc (.map #[] 0)) 45 #[.int .i64 d0, .int .i64 d1, .string d2, .slice d3 l3 k3]; simpa using this)
    have HI3 : Hid (In Q w ((w2.alloc (.map #[] 0)).alloc (.cells #[.int .i64 d0, .int .i64 d1, .string d2, .slice d3 l3 k3] 45))) := Lib.hid (((HI.out.on HB2.out).alloc _).alloc _)
    have HB3 : Hid (Below W.heap.size W ((w2.alloc (.map #[] 0)).alloc (.cells #[.int .i64 d0, .int .i64 d1, .string d2, .slice d3 l3 k3] 45))) := Lib.hid ((HB2.out.alloc (by omega) _).alloc (by simp; omega) _)
    have hsz3 : w2.heap.size + 1 < ((w2.alloc (.map #[] 0)).alloc (.cells #[.int .i64 d0, .int .i64 d1, .string d2, .slice d3 l3 k3] 45)).heap.size := by simp
    have hmb : W.heap.size < w2.heap.size := hz3
    clear hc2 hmm HB2 hz3
    generalize World.alloc _ _ = W3 at HS0 HBl HI3 HB3 hsz3 ⊢
    generalize w2.heap.size = mb at HS0 HBl hsz3 hmb ⊢
    obtain ⟨Q', hQ'⟩ : ∃ Q' : Nat → Prop, Q' = fun b => Q b ∨ b = mb + 1 := ⟨_, rfl⟩
    have HQ1 : Hid (∀ b, Q' b → b < W3.heap.size ∧ b ≠ mb) := Lib.hid (by
      rw [hQ']
      rintro b (hb | rfl)
      · exact ⟨HI3.out.1 b hb, by have := HI.out.1 b hb; omega⟩
      · exact ⟨hsz3, by omega⟩)
    have HI4 : Hid (In Q' W3 W3) := Lib.hid ⟨fun b hb => (HQ1.out b hb).1, fun _ _ => rfl⟩
    have HSl : Hid (SliceI W3 Q' 4 (ExprI W3 Q') [e] (.slice (some ⟨mb + 1, 0, none⟩) 1 1)) := Lib.hid (one_slice (HE.out.keep (fun b hb => by rw [hQ']; exact .inl hb) HI3.out.2) (by rw [hQ']; exact .inr rfl) HBl.out)
    clear hQ' HBl HI3
    refine (exprs_any (W := W3) HSl.out).mono ?_
    rintro e' w4 ⟨v, rfl, hw4, hb4, hj4⟩
    have HW4 : Hid (WalkE W3 w4 Q' W3.heap.size W3.heap.size v (preE e)) := Lib.hid (by have := hw4; rw [preL, preL, List.append_nil] at this; exact this)
    have hcl := hw4.lt.1
    have HS4 := Lib.hid (HS0.out.keep (Below.moves hb4) (by omega))
    have HI5 := Lib.hid (HI4.out.on hb4)
    have HB5 : Hid (Below W.heap.size W w4) := Lib.hid (HB3.out.trans (hb4.mono HB3.out.size))
    have HN : Hid (∀ (v : Value) (R : List E) (W' : World), WalkE W3 W' Q' W3.heap.size W3.heap.size v R → In Q' W3 W' → R.length ≤ 2000000 → Calls Try.prog 113 #[.pointer (some ⟨W3.heap.size, 0, none⟩)] W' fun e w' => ∃ o, e = .returned (.pointer o) ∧ AtE W3 w' Q' W3.heap.size W3.heap.size o R ∧ Moves (ownE W3.heap.size v) W' w') :=
      Lib.hid (fun v R W' h1 h2 h3 => nextE_mv h1 h2 (by have := h1.lt.1; omega) (by omega))
    have hWc : W.heap.size ≤ W3.heap.size := HB3.out.size
    clear hw4 hb4 hj4
    generalize hc : W3.heap.size = c at *
    have HC := Lib.hid hc
    clear hc
    have hpl := preE_len e
    have hz2' : (preE e).length ≤ 2000000 := by omega
    clear hpl
    go_wp2_with fail
    refine (HN.out v (preE e) w4 HW4.out HI5.out hz2').mono ?_
    rintro e' w5 ⟨o5, rfl, hat5, hm5⟩
    have HA5 := Lib.hid hat5
    have howb : ∀ j, ownE c v j → c ≤ j := fun j hj => by rcases hj with rfl | hj; exact Nat.le_refl _; exact (HW4.out.lt.2 j hj).1
    have hmbc : mb + 1 < c := by have := HC.out; omega
    have HS5 := Lib.hid (HS4.out.keep hm5 (fun h => by have := howb mb h; omega))
    have HI6 := Lib.hid (HI5.out.moves hm5 (fun j hj hq => by have := howb j hj; have := (HQ1.out j hq).1; omega))
    have HB6 : Hid (Below W.heap.size W w5) := Lib.hid (HB5.out.trans (hm5.below (by have := HB5.out.size; omega) (fun j hj => by have := howb j hj; omega)))
    clear hm5 hat5 howb HS4 HI5 HB5 HW4 HS0 HI4 HSl HB3
    go_wp2_with fail
    go_loopg [3, 6] (preE e).length (fun kk u3 u6 wr => ∃ (l : List ByteArray) (X : Option Addr) (cx : Nat) (o : Option Addr) (L : List E), L.length = kk ∧ u3 = .slice X l.length cx ∧ u6 = .pointer o ∧ l.length + L.length ≤ 2000000 ∧ Hid (L.foldl stepN l = walkE e []) ∧ Hid (∀ x ∈ L, x.op = 2 → isNm (bl x.nm) = true) ∧ Hid (∀ t ∈ l, small t) ∧
      Hid (AtE W3 wr Q' c c o L) ∧ Hid (SeenI wr mb l.length l) ∧ Hid (wr.ownsRow c 9 1 (.slice X l.length cx) l.length (strs l)) ∧ Hid (In Q' W3 wr) ∧ Hid (Below W.heap.size W wr))
    case atStart => exact ⟨[], none, 0, o5, preE e, rfl, rfl, rfl, by simp; omega, Lib.hid (walkE_fold e []).symm, HNm, Lib.hid (by simp), HA5, HS5, Lib.hid (World.ownsRow_nil _ _ _ _), HI6, HB6⟩
    case round =>
      obtain ⟨l, X, cx, o, L, hLk, rfl, rfl, hlen, HF, HNx, HSm, HA, HS, HO, HIr, HBr⟩ := hrel
      rcases HA.out with ⟨rfl, rfl⟩ | ⟨a, x, R, vr, rfl, rfl, hnd, hwk⟩
      · have HF2 : Hid (l = walkE e []) := Lib.hid HF.out
        go_wp2_with fail
        go_ret
        exact ⟨.slice X l.length cx, rfl, by rw [← HF2.out]; exact own_lower HO.out hWc, HBr.out⟩
      · obtain ⟨hqa, cs, hx, hcell⟩ := hnd
        cases hx with
        | @mk op n nm ks A cap css hop hn hnm hcap hA hk =>
        have p0 : wr.cell? a = some (.int .i64 op) := by have := (HIr.out.cell (p := a.add 0) (by rw [block_add]; exact hqa)).trans (hcell 0 _ rfl); rwa [add_zero_] at this
        have p2 : wr.cell? ⟨a.block, a.off + 2, none⟩ = some (.string nm) := by rw [← add_ne a (by decide)]; exact (HIr.out.cell (by rw [block_add]; exact hqa)).trans (hcell 2 _ rfl)
        have HWk := Lib.hid hwk
        have HQa := Lib.hid hqa
        clear hcell hA hk hwk hqa
        have hsm : small nm := hnm
        by_cases h2 : op = 2
        · have q2 : (op == 2) = true := by simp [h2]
          have hNm : 0 < nm.size ∧ nm.size ≤ 8 := nm_short (HNx.out (.mk op n nm ks) (List.mem_cons_self ..) h2)
          have HFs : Hid (R.foldl stepN (spoke l nm) = walkE e []) := Lib.hid (by have := HF.out; rw [List.foldl_cons, stepN] at this; rw [if_pos (show E.op (.mk op n nm ks) = 2 from h2)] at this; exact this)
          clear h2
          cases hhas : hasB l nm with
          | true =>
            have hlk := HS.out.look hsm
            rw [hhas] at hlk
            have HFt : Hid (R.foldl stepN l = walkE e []) := Lib.hid (by have := HFs.out; rw [spoke, if_pos hhas] at this; exact this)
            clear hhas
            go_wp2_with (go_at_call 113; refine (HN.out vr R wr HWk.out HIr.out (by simp only [List.length_cons] at hlen; omega)).mono ?_; rintro e' w9 ⟨o9, rfl, hat9, hm9⟩)
            have HA9 := Lib.hid hat9
            have howb : ∀ j, ownE c vr j → c ≤ j := fun j hj => by rcases hj with rfl | hj; exact Nat.le_refl _; exact (HWk.out.lt.2 j hj).1
            have HS9 := Lib.hid (HS.out.keep hm9 (fun h => by have := howb mb h; omega))
            have HI9 := Lib.hid (HIr.out.moves hm9 (fun j hj hq => by have := howb j hj; have := (HQ1.out j hq).1; omega))
            have HB9 : Hid (Below W.heap.size W w9) := Lib.hid (HBr.out.trans (hm9.below (by have := HBr.out.size; omega) (fun j hj => by have := howb j hj; omega)))
            have HO9 := Lib.hid (hm9.row HO.out (fun j hj ho => own_walk_ne HO.out HWk.out hj ho))
            clear hm9 hat9 howb
            go_roundg R.length
            case measure => simp only [List.length_cons] at hLk; omega
            case rel => exact ⟨l, X, cx, o9, R, rfl, rfl, rfl, by simp only [List.length_cons] at hlen; omega, HFt, Lib.hid (fun y hy => HNx.out y (List.mem_cons_of_mem _ hy)), HSm, HA9, HS9, HO9, HI9, HB9⟩
          | false =>
            have hlk := HS.out.look hsm
            rw [hhas] at hlk
            have HFt : Hid (R.foldl stepN (l ++ [nm]) = walkE e []) := Lib.hid (by have := HFs.out; rw [spoke, if_neg (by rw [hhas]; simp)] at this; exact this)
            clear hhas
            obtain ⟨w1, hup, hs1, hg1⟩ := HS.out.put (s := nm) (by omega) hsm
            have HS1 := Lib.hid hs1
            have HM1 : Hid (Moves (fun k => k = mb) wr w1) := Lib.hid ((moves_grown hg1).mono (fun j hj => (Option.some.inj hj).symm))
            have HI1 := Lib.hid (HIr.out.moves HM1.out (fun j hj hq => (HQ1.out j hq).2 hj))
            have r2 : w1.cell? ⟨a.block, a.off + 2, none⟩ = some (.string nm) := (HM1.out.cell (p := ⟨a.block, a.off + 2, none⟩) (HIr.out.1 _ HQa.out) (HQ1.out _ HQa.out).2).trans p2
            have HO1 := Lib.hid (HM1.out.row HO.out (fun j hj e => own_map_ne HO.out HS.out (hj.trans (congrArg some e))))
            have HB1 : Hid (Below W.heap.size W w1) := Lib.hid (HBr.out.trans (HM1.out.below (by have := HBr.out.size; omega) (fun j hj => by omega)))
            have HCl := Lib.hid (fun W => Clone_any nm W (by omega))
            have HSm2 : Hid (∀ t ∈ l ++ [nm], small t) := Lib.hid (fun t ht => by rcases List.mem_append.1 ht with ht | ht; exact HSm.out t ht; simp at ht; rw [ht]; exact hsm)
            obtain ⟨i0, hi0, hz0, hz1', hz2''⟩ := info_parts string_info
            clear hs1 hg1
            go_wp2_with (first
              | (go_at_call 108; refine (HCl.out _).mono ?_; rintro e' wc ⟨rfl, hbc⟩; have HBc := Lib.hid hbc; have HOc := Lib.hid ((Below.moves hbc).row HO1.out (fun j hj e => Nat.not_lt.2 e (HO1.out.lt j hj).2)); have HNw := Lib.hid (new_one wc nm); have hszc2 : c ≤ wc.heap.size + 1 := (by have := HWk.out.lt.1; have := HM1.out.size; have := hbc.size; omega); clear hbc)
              | (at_builtin; refine wpList_append_own_at _ rfl (.tmp 39) (.tmp 45) 22 rfl c 9 i0 _ 1 16 Try.underlying22 hi0 hz0 hz1' hz2'' rfl (by decide) _ l.length (strs l) rfl (HOc.out.alloc _) ⟨wc.heap.size, 0, none⟩ 1 1 [.string nm] rfl rfl HNw.out (by simp [Value.oneCell']) (by unfold maxLen; omega) (by omega) (by rw [World.size_alloc]; exact hszc2) ?_))
            intro v' w3 hown3 hg3 _ hat3
            obtain ⟨X3, cx3, rfl, _, _⟩ := own_form hown3
            have HO3 : Hid (w3.ownsRow c 9 1 (.slice X3 (l.length + 1) cx3) (l.length + 1) (strs (l ++ [nm]))) := Lib.hid (by rw [strs_append]; exact hown3)
            have HMc : Hid (Moves (fun k => Value.ownBlock (.slice X l.length cx) = some k) w1 w3) := Lib.hid ((((Moves.refl _ w1).trans (Below.moves HBc.out) (fun j hj => .inl hj)).alloc _).trans (moves_grown hg3) (fun j hj => .inr hj))
            have HS3 := Lib.hid (HS1.out.keep HMc.out (fun h => own_map_ne HO1.out HS1.out h))
            have HI3 := Lib.hid (HI1.out.moves HMc.out (fun j hj hq => by have := (HO1.out.lt j hj).1; have := (HQ1.out j hq).1; omega))
            have HB3 : Hid (Below W.heap.size W w3) := Lib.hid (HB1.out.trans (HMc.out.below (by have := HB1.out.size; omega) (fun j hj => Nat.le_trans hWc (HO1.out.lt j hj).1)))
            have HWk3 : Hid (WalkE W3 w3 Q' c c vr R) := Lib.hid ((HWk.out.keep HM1.out (fun k hk e => by rcases hk with rfl | hk; omega; have := (HWk.out.lt.2 k hk).1; omega)).keep HMc.out (fun k hk e => own_walk_ne HO1.out (HWk.out.keep HM1.out (fun k hk e => by rcases hk with rfl | hk; omega; have := (HWk.out.lt.2 k hk).1; omega)) e hk))
            clear hown3 hg3 hat3
            go_wp2_with (go_at_call 113; refine (HN.out vr R w3 HWk3.out HI3.out (by simp only [List.length_cons] at hlen; omega)).mono ?_; rintro e' w9 ⟨o9, rfl, hat9, hm9⟩)
            have HA9 := Lib.hid hat9
            have howb : ∀ j, ownE c vr j → c ≤ j := fun j hj => by rcases hj with rfl | hj; exact Nat.le_refl _; exact (HWk3.out.lt.2 j hj).1
            have HS9 := Lib.hid (HS3.out.keep hm9 (fun h => by have := howb mb h; omega))
            have HI9 := Lib.hid (HI3.out.moves hm9 (fun j hj hq => by have := howb j hj; have := (HQ1.out j hq).1; omega))
            have HB9 : Hid (Below W.heap.size W w9) := Lib.hid (HB3.out.trans (hm9.below (by have := HB3.out.size; omega) (fun j hj => by have := howb j hj; omega)))
            have HO9 := Lib.hid (hm9.row HO3.out (fun j hj ho => own_walk_ne HO3.out HWk3.out hj ho))
            clear hm9 hat9 howb
            go_roundg R.length
            case measure => simp only [List.length_cons] at hLk; omega
            case rel => exact ⟨(l ++ [nm]), X3, cx3, o9, R, rfl, by rw [List.length_append]; rfl, rfl, by simp only [List.length_cons, List.length_append, List.length_nil] at hlen ⊢; omega, HFt, Lib.hid (fun y hy => HNx.out y (List.mem_cons_of_mem _ hy)), HSm2, HA9, Lib.hid (by rw [List.length_append]; exact HS9.out), Lib.hid (by rw [List.length_append]; exact HO9.out), HI9, HB9⟩
        · have q2 : (op == 2) = false := beq_eq_false_iff_ne.2 h2
          have HFt : Hid (R.foldl stepN l = walkE e []) := Lib.hid (by have := HF.out; rw [List.foldl_cons, stepN] at this; rw [if_neg (show ¬ E.op (.mk op n nm ks) = 2 from h2)] at this; exact this)
          clear h2
          go_wp2_with (go_at_call 113; refine (HN.out vr R wr HWk.out HIr.out (by simp only [List.length_cons] at hlen; omega)).mono ?_; rintro e' w9 ⟨o9, rfl, hat9, hm9⟩)
          have HA9 := Lib.hid hat9
          have howb : ∀ j, ownE c vr j → c ≤ j := fun j hj => by rcases hj with rfl | hj; exact Nat.le_refl _; exact (HWk.out.lt.2 j hj).1
          have HS9 := Lib.hid (HS.out.keep hm9 (fun h => by have := howb mb h; omega))
          have HI9 := Lib.hid (HIr.out.moves hm9 (fun j hj hq => by have := howb j hj; have := (HQ1.out j hq).1; omega))
          have HB9 : Hid (Below W.heap.size W w9) := Lib.hid (HBr.out.trans (hm9.below (by have := HBr.out.size; omega) (fun j hj => by have := howb j hj; omega)))
          have HO9 := Lib.hid (hm9.row HO.out (fun j hj ho => own_walk_ne HO.out HWk.out hj ho))
          clear hm9 hat9 howb
          go_roundg R.length
          case measure => simp only [List.length_cons] at hLk; omega
          case rel => exact ⟨l, X, cx, o9, R, rfl, rfl, rfl, by simp only [List.length_cons] at hlen; omega, HFt, Lib.hid (fun y hy => HNx.out y (List.mem_cons_of_mem _ hy)), HSm, HA9, HS9, HO9, HI9, HB9⟩
end Go.Proofs.Ytcocilpifdjibaa
