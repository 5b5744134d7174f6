/- Texts, merged by a program; only what is used. -/
import Derived.Deep.RegionHeld3
import Derived.Test.YtimejkbmfbjomaaGreatK1
import Derived.Test.YtimejkbmfbjomaaGreatK2
import Derived.Test.YtimejkbmfbjomaaGreatK3
import Derived.Test.YtimejkbmfbjomaaGreatK4
import Derived.Test.YtimejkbmfbjomaaGreatK5
import Derived.Test.YtimejkbmfbjomaaGreatK6
import Derived.Test.YtimejkbmfbjomaaGreatK7
import Derived.Test.YtimejkbmfbjomaaGreatK8
import Derived.Test.YtimejkbmfbjomaaGreatK9
import Derived.Test.YtimejkbmfbjomaaGreatK10
namespace Go.Proofs.YtimejkbmfbjomaaGreat
open Go.ChangeShapes Go.WideShapes Go.ChangeAt Go.RowKit Go.Deep
set_option linter.unusedVariables false
theorem flat_at {C : Nat} : ∀ {rows : List (List Value)}, (∀ r ∈ rows, r.length = C) → ∀ i j, i < rows.length → j < C → rows.flatten[i * C + j]? = (rows.getD i [])[j]?
  | [], _, i, j, hi, _ => absurd hi (by simp)
  | r :: rs, h, 0, j, _, hj => by
    have hr := h r (List.mem_cons_self ..)
    rw [List.flatten_cons, Nat.zero_mul, Nat.zero_add, List.getElem?_append_left (by omega)]
    rfl
  | r :: rs, h, i + 1, j, hi, hj => by
    have hr := h r (List.mem_cons_self ..)
    rw [List.flatten_cons, List.getElem?_append_right (by rw [hr, Nat.succ_mul]; omega)]
    have he : (i + 1) * C + j - r.length = i * C + j := by rw [hr, Nat.succ_mul]; omega
    rw [he, flat_at (fun q hq => h q (List.mem_cons_of_mem _ hq)) i j (by simpa using hi) hj]
    rfl
theorem All2.mem_len {α : Type} {R : α → List Value → Prop} {C : Nat} (hC : ∀ x cs, R x cs → cs.length = C) : ∀ {l : List α} {rows : List (List Value)}, All2 R l rows → ∀ r ∈ rows, r.length = C
  | [], [], _, r, hr => absurd hr (by simp)
  | x :: l, c :: cs, h, r, hr => by
    rcases List.mem_cons.1 hr with rfl | hr
    · exact hC _ _ h.1
    · exact All2.mem_len hC h.2 r hr
theorem All2.snoc {α : Type} {R : α → List Value → Prop} {y : α} {cy : List Value} (hy : R y cy) : ∀ {l : List α} {rows : List (List Value)}, All2 R l rows → All2 R (l ++ [y]) (rows ++ [cy])
  | [], [], _ => ⟨hy, trivial⟩
  | x :: l, c :: cs, h => ⟨h.1, All2.snoc hy h.2⟩
/-- a row of the call's own whose elements read: a slice -/
theorem slice_of_own {α : Type} {w : World} {base : Nat} {e : TypeId} {C : Nat} {v : Value} {l : List α} {rows : List (List Value)} {R : α → List Value → Prop} (h : w.ownsRow base e C v l.length rows.flatten) (hr : All2 R l rows) (hC : ∀ x cs, R x cs → cs.length = C) :
    SliceI w (fun b => base ≤ b ∧ b < w.heap.size) C R l v := by
  rcases h.2 with ⟨rfl, hn⟩ | ⟨g, cap, cur, rfl, hb, hg, hnc, hcm, hcs, htk⟩
  · obtain rfl : l = [] := List.eq_nil_of_length_eq_zero hn
    exact ⟨none, 0, fun _ => [], rfl, ⟨Nat.le_refl _, by omega⟩, fun h => absurd h (by simp), fun i h => absurd h (by simp)⟩
  · unfold maxLen at hcm
    refine ⟨some ⟨g, 0, none⟩, cap, fun i => rows.getD i [], rfl, ⟨hnc, by omega⟩, fun h0 => ⟨_, rfl, ⟨hb, ?_⟩, fun i hi j u hu => ?_⟩, hr.at_⟩
    · have hb' : Blk w g e cur := hg
      exact hb'.lt
    · have hm := hr.mem_len hC
      have hlen := hr.len
      have hrl : (rows.getD i []).length = C := by
        have : rows.getD i [] ∈ rows := by
          rw [List.getD_eq_getElem?_getD, List.getElem?_eq_getElem (by omega)]
          exact List.getElem_mem _
        exact hm _ this
      have hj : j < C := by have := (List.getElem?_eq_some_iff.1 hu).1; rw [← hrl]; exact this
      have h1 := flat_at hm i j (by omega) hj
      rw [← htk, hu] at h1
      have h2 : i * C + j < l.length * C := by
        have : (i + 1) * C ≤ l.length * C := Nat.mul_le_mul_right C (by omega)
        rw [Nat.succ_mul] at this
        omega
      rw [List.getElem?_take_of_lt h2] at h1
      have hb' : Blk w g e cur := hg
      have hadd : (⟨g, 0, none⟩ : Addr).add (i * C + j) = ⟨g, i * C + j, none⟩ := by
        by_cases hz : i * C + j = 0
        · rw [hz, add_zero_]
        · rw [add_ne _ hz]; simp
      rw [hadd, hb'.cell]
      simpa using h1
section
variable {α : Type}
variable {R : World → (Nat → Prop) → α → List Value → Prop} {w w' : World} {base C : Nat} {e : TypeId} {l : List α} {v : Value}
end
end Go.Proofs.YtimejkbmfbjomaaGreat
namespace Go.Proofs.YtimejkbmfbjomaaGreat
open Go.ChangeShapes Go.WideShapes Go.ChangeAt Go.RowKit Go.Deep
set_option linter.unusedVariables false
structure It where
  s : S
  deep : Int
  inn : Int
  els : Bool
/-- the cells of an item: the statement's, then the others; what the statement reaches lies in Q -/
def ItemI (w : World) (Q : Nat → Prop) (x : It) (cs : List Value) : Prop := ∃ c, cs = c ++ [.int .i64 x.deep, .int .i64 x.inn, .bool x.els] ∧ StmtI w Q x.s c
mutual
def flatL : List S → Nat → Int → Bool → List It → List It
  | [], _, _, _, out => out
  | s :: l, d, i, e, out => if out.length ≤ 200 then flatL l d i e (flatS s d i e out) else out
def flatS : S → Nat → Int → Bool → List It → List It
  | .mk id kind labels nm proc x has args th el, d, i, e, out =>
    if d ≤ 12 then flatL el (d + 1) id true (flatL th (d + 1) id false (out ++ [⟨.mk id kind labels nm proc x has args th el, d, i, e⟩])) else out ++ [⟨.mk id kind labels nm proc x has args th el, d, i, e⟩]
end
theorem flatL_drop {l : List S} {k d : Nat} {i : Int} {e : Bool} {out : List It} (h : k < l.length) : flatL (l.drop k) d i e out = if out.length ≤ 200 then flatL (l.drop (k + 1)) d i e (flatS l[k] d i e out) else out := by
  rw [List.drop_eq_getElem_cons h, flatL]
theorem item_info : (Tryz.prog.info? 51).map (fun i => (i.zero, i.size, i.bytes)) = some (some (.agg #[.int .i64 0, .int .i64 0, .slice none 0 0, .string ⟨#[]⟩, .string ⟨#[]⟩, .int .i64 0, .int .i64 0, .string ⟨#[]⟩, .slice none 0 0, .bool false, .slice none 0 0, .slice none 0 0, .slice none 0 0, .int .i64 0, .int .i64 0, .bool false]), 16, 232) := by kernel_rfl
mutual
theorem flatL_len : ∀ (l : List S) (d : Nat) (i : Int) (e : Bool) (out : List It), out.length ≤ 201 → (flatL l d i e out).length ≤ 201
  | [], d, i, e, out, h => by rw [flatL]; exact h
  | s :: l, d, i, e, out, h => by
    rw [flatL]
    split
    · exact flatL_len l d i e _ (flatS_len s d i e out (by assumption))
    · exact h
theorem flatS_len : ∀ (s : S) (d : Nat) (i : Int) (e : Bool) (out : List It), out.length ≤ 200 → (flatS s d i e out).length ≤ 201
  | .mk id kind labels nm proc x has args th el, d, i, e, out, h => by
    rw [flatS]
    split
    · exact flatL_len el _ _ _ _ (flatL_len th _ _ _ _ (by rw [List.length_append, List.length_cons, List.length_nil]; omega))
    · rw [List.length_append, List.length_cons, List.length_nil]; omega
end
def FlatOk (w : World) (Q : Nat → Prop) (base : Nat) (v : Value) (l : List It) (W : World) (e : Ending) (w' : World) : Prop :=
  ∃ v' rows, e = .returned v' ∧ w'.ownsRow base 51 16 v' l.length (List.flatten rows) ∧ All2 (ItemI w Q) l rows ∧ W.grownBy w' v.ownBlock ∧ ∀ j, v'.ownBlock = some j → W.heap.size ≤ j ∨ v.ownBlock = some j
theorem new16 (w : World) (t : TypeId) (cs : List Value) : ∀ j u, cs[j]? = some u → (w.alloc (.cells cs.toArray t)).cell? ((⟨w.heap.size, 0, none⟩ : Addr).add j) = some u := by
  intro j u hu
  have ha : (⟨w.heap.size, 0, none⟩ : Addr).add j = ⟨w.heap.size, j, none⟩ := by
    by_cases hz : j = 0
    · rw [hz, add_zero_]
    · rw [add_ne _ hz]; simp
  rw [ha, (Blk.new w t cs.toArray).cell]
  simpa using hu
set_option maxHeartbeats 4000000 in
set_option maxRecDepth 100000 in
theorem flat_any : ∀ (N : Nat) (l : List S), (preSL l).length < N → ∀ {w W : World} {Q : Nat → Prop} {A : Option Addr} {cap : Nat} (d : Nat) (i : Int) (e : Bool) (out : List It) (rows : List (List Value)) (v : Value) (base : Nat), StmtsI w Q l (.slice A l.length cap) → In Q w W → W.ownsRow base 51 16 v out.length rows.flatten → All2 (ItemI w Q) out rows → base ≤ W.heap.size → (∀ b, Q b → b < base) → d ≤ 13 → out.length ≤ 201 →
    Calls Tryz.prog 58 #[.slice A l.length cap, .int .i64 d, .int .i64 i, .bool e, v] W (FlatOk w Q base v (flatL l d i e out) W) := by
  intro N
  induction N with
  | zero => intro l h; omega
  | succ N ih =>
    intro l hN w W Q A cap d i e out rows v base hl hI hown hall hbase hQ hd hlen
    obtain ⟨i0, hi0, hz0, hz1, hz2⟩ := info_parts item_info
    obtain ⟨_, hlc, hcap, _⟩ := slice_len hl
    obtain ⟨X0, cx0, rfl, hc1, hc2⟩ := own_shape hown
    have IH := Lib.hid @ih
    have HN := Lib.hid hN
    have HL := Lib.hid hl
    have HI := Lib.hid hI
    have HO := Lib.hid hown
    have HAl := Lib.hid hall
    have HQ := Lib.hid hQ
    clear ih hN hl hI hown hall hQ
    go_enter Tryz.func58, Tryz.ntmps58
    go_wp2_with fail
    go_loopw [4, 11] (fun ov iv wr => ∃ (k : Nat) (o2 : List It) (rows2 : List (List Value)) (X2 : Option Addr) (cx : Nat), k ≤ l.length ∧ iv = .int .i64 k ∧ ov = .slice X2 o2.length cx ∧ o2.length ≤ 201 ∧ Hid (flatL (l.drop k) d i e o2 = flatL l d i e out) ∧ Hid (wr.ownsRow base 51 16 (.slice X2 o2.length cx) o2.length rows2.flatten) ∧ Hid (All2 (ItemI w Q) o2 rows2) ∧ Hid (W.grownBy wr (Value.slice X0 out.length cx0).ownBlock) ∧ Hid (∀ j, (Value.slice X2 o2.length cx).ownBlock = some j → W.heap.size ≤ j ∨ (Value.slice X0 out.length cx0).ownBlock = some j)) (fun _ iv _ => l.length - (intOf iv).toNat)
    case atStart => exact ⟨0, out, rows, X0, cx0, Nat.zero_le _, rfl, rfl, hlen, Lib.hid (by rw [List.drop_zero]), HO, HAl, Lib.hid (World.grownBy.refl _ _), Lib.hid (fun j hj => .inr hj)⟩
    case round =>
      obtain ⟨k, o2, rows2, X2, cx, hk, rfl, rfl, hle, HW, HO2, HA2, HG, HJ⟩ := hrel
      obtain ⟨X3, cx3, hXe, hoc, hcx⟩ := own_shape HO2.out
      injection hXe with hX1 hX2 hX3
      subst hX1 hX3
      clear hX2
      have hRq : ∀ j, (Value.slice X2 o2.length cx).ownBlock = some j → base ≤ j := fun j hj => (HO2.out.lt j hj).1
      have HRq := Lib.hid hRq
      have HIr : Hid (In Q w wr) := Lib.hid (HI.out.grown HG.out (fun j hj hq => by have := (HO.out.lt j hj).1; have := HQ.out j hq; omega))
      have hzw : W.heap.size ≤ wr.heap.size := HG.out.size
      clear hRq
      by_cases hlt : k < l.length
      · rw [flatL_drop hlt] at HW
        by_cases hm2 : o2.length ≤ 200
        · rw [if_pos hm2] at HW
          obtain ⟨a, id, kind, labels, nm, proc, x, has, args, th, el, L, lc, x0, x1, x2, X, xn, xc, R, rc, T, tc, U, uc, rfl, hqa, hmk, ⟨p0, p1, p2, p3, p4, p5, p6, p7, p8, p9, p10, p11, p12, _⟩, hid, hkind, hnm, hproc, hlab, hx, har, hth, hel, hst⟩ := stmt_at HL.out HIr.out hlt
          have hsub := preSL_at hlt
          rw [hmk] at hsub HW hst
          simp only [subS, List.length_append] at hsub
          rw [flatS] at HW
          have hN1 : (preSL th).length < N := by have := HN.out; omega
          have hN2 : (preSL el).length < N := by have := HN.out; omega
          have HT := Lib.hid hth
          have HE := Lib.hid hel
          have HIt : Hid (ItemI w Q ⟨.mk id kind labels nm proc x has args th el, d, i, e⟩ [.int .i64 id, .int .i64 kind, .slice L labels.length lc, .string nm, .string proc, .int .i64 x0, .int .i64 x1, .string x2, .slice X xn xc, .bool has, .slice R args.length rc, .slice T th.length tc, .slice U el.length uc, .int .i64 d, .int .i64 i, .bool e]) := Lib.hid ⟨[.int .i64 id, .int .i64 kind, .slice L labels.length lc, .string nm, .string proc, .int .i64 x0, .int .i64 x1, .string x2, .slice X xn xc, .bool has, .slice R args.length rc, .slice T th.length tc, .slice U el.length uc], rfl, hst⟩
          have HQa := Lib.hid hqa
          have HNw := Lib.hid (new16 wr 51 [.int .i64 id, .int .i64 kind, .slice L labels.length lc, .string nm, .string proc, .int .i64 x0, .int .i64 x1, .string x2, .slice X xn xc, .bool has, .slice R args.length rc, .slice T th.length tc, .slice U el.length uc, .int .i64 d, .int .i64 i, .bool e])
          have hcb : base ≤ wr.heap.size + 1 := by omega
          clear hmk hsub hst hth hel hx hlab har hid hkind hnm hproc hqa
          go_wp2_with (at_builtin; refine wpList_append_own_at _ rfl (.tmp 23) (.tmp 32) 42 rfl base 51 i0 _ 16 232 Tryz.underlying42 hi0 hz0 hz1 hz2 rfl (by decide) _ o2.length rows2.flatten rfl (HO2.out.alloc _) ⟨wr.heap.size, 0, none⟩ 1 1 [.int .i64 id, .int .i64 kind, .slice L labels.length lc, .string nm, .string proc, .int .i64 x0, .int .i64 x1, .string x2, .slice X xn xc, .bool has, .slice R args.length rc, .slice T th.length tc, .slice U el.length uc, .int .i64 d, .int .i64 i, .bool e] rfl rfl HNw.out (by simp [Value.oneCell']) (by unfold maxLen; omega) (by omega) (by rw [World.size_alloc]; exact hcb) ?_)
          intro v' w3 hown3 hg3 _ hat3
          have HO3 : Hid (w3.ownsRow base 51 16 v' (o2 ++ [⟨.mk id kind labels nm proc x has args th el, d, i, e⟩] : List It).length (rows2 ++ ([[.int .i64 id, .int .i64 kind, .slice L labels.length lc, .string nm, .string proc, .int .i64 x0, .int .i64 x1, .string x2, .slice X xn xc, .bool has, .slice R args.length rc, .slice T th.length tc, .slice U el.length uc, .int .i64 d, .int .i64 i, .bool e]] : List (List Value))).flatten) := Lib.hid (by rw [List.length_append, List.flatten_append, List.flatten_cons, List.flatten_nil, List.append_nil]; exact hown3)
          have HA3 := Lib.hid (All2.snoc HIt.out HA2.out)
          have HG3 : Hid (wr.grownBy w3 (Value.slice X2 o2.length cx).ownBlock) := Lib.hid ((World.grownBy_alloc wr _ _).andThen hg3 (fun j hj => .inr hj))
          have HJ3 : Hid (∀ j, v'.ownBlock = some j → wr.heap.size ≤ j ∨ (Value.slice X2 o2.length cx).ownBlock = some j) := Lib.hid (fun j hj => by
            rcases hat3 with h | h
            · exact .inr (h.symm.trans hj)
            · rw [h] at hj; injection hj with hj; left; rw [← hj]; omega)
          have HI3 : Hid (In Q w w3) := Lib.hid (HIr.out.grown HG3.out (fun j hj hq => by have := HRq.out j hj; have := HQ.out j hq; omega))
          have hz3 : wr.heap.size ≤ w3.heap.size := HG3.out.size
          have hle3 : (o2 ++ [⟨.mk id kind labels nm proc x has args th el, d, i, e⟩] : List It).length ≤ 201 := by rw [List.length_append, List.length_cons, List.length_nil]; omega
          obtain ⟨o3, ho3⟩ : ∃ o3 : List It, o3 = o2 ++ [⟨.mk id kind labels nm proc x has args th el, d, i, e⟩] := ⟨_, rfl⟩
          rw [← ho3] at HO3 HA3 HW hle3
          generalize rows2 ++ [_] = rows3 at HO3 HA3
          obtain ⟨X4, cx4, rfl, hoc4, hcx4⟩ := own_form HO3.out
          have qq0 : w3.cell? (a.add (k * 13)) = some (.int .i64 id) := (HI3.out.cell (by rw [block_add]; exact HQa.out)).trans ((HIr.out.cell (by rw [block_add]; exact HQa.out)).symm.trans p0)
          have qq11 : w3.cell? ⟨(a.add (k * 13)).block, (a.add (k * 13)).off + 11, none⟩ = some (.slice T th.length tc) := (HI3.out.cell (p := ⟨(a.add (k * 13)).block, (a.add (k * 13)).off + 11, none⟩) (by show Q (a.add (k * 13)).block; rw [block_add]; exact HQa.out)).trans ((HIr.out.cell (p := ⟨(a.add (k * 13)).block, (a.add (k * 13)).off + 11, none⟩) (by show Q (a.add (k * 13)).block; rw [block_add]; exact HQa.out)).symm.trans p11)
          have HP12 := Lib.hid p12
          have HQb : Hid (Q (a.add (k * 13)).block) := Lib.hid (by rw [block_add]; exact HQa.out)
          clear hown3 hg3 hat3 ho3 p0 p1 p2 p3 p4 p5 p6 p7 p8 p9 p10 p11 p12 HIt HNw HO2 HA2
          by_cases hd12 : d ≤ 12
          · rw [if_pos hd12] at HW
            have hle4 := flatL_len th (d + 1) id false o3 hle3
            have HC1 : Hid (Calls Tryz.prog 58 #[.slice T th.length tc, .int .i64 (IntKind.i64.wrap ((d : Int) + 1)), .int .i64 id, .bool false, .slice X4 o3.length cx4] w3.drew (FlatOk w Q base (.slice X4 o3.length cx4) (flatL th (d + 1) id false o3) w3.drew)) := Lib.hid (by
              have := IH.out th hN1 (W := w3.drew) (d + 1) id false o3 rows3 (.slice X4 o3.length cx4) base HT.out HI3.out HO3.out HA3.out (by show base ≤ w3.heap.size; omega) HQ.out (by omega) hle3
              rw [show ((d + 1 : Nat) : Int) = IntKind.i64.wrap ((d : Int) + 1) by rw [IntKind.wrap_i64]; omega] at this
              exact this)
            obtain ⟨o4, ho4⟩ : ∃ o4, o4 = flatL th (d + 1) id false o3 := ⟨_, rfl⟩
            rw [← ho4] at HC1 HW hle4
            clear ho4
            go_wp2_with fail
            go_region_held3 (fun w' => w'.cell? (a.add (k * 13)) = some (.int .i64 id) ∧ w'.cell? ⟨(a.add (k * 13)).block, (a.add (k * 13)).off + 11, none⟩ = some (.slice T th.length tc))
              (go_keep)
              ((go_at_call 58; refine HC1.out.mono ?_; rintro e' w4 ⟨v4, rows4, rfl, hown4, hall4, hg4', hj4'⟩; have HG4 : Hid (w3.grownBy w4 (Value.slice X4 o3.length cx4).ownBlock) := Lib.hid ⟨hg4'.os, hg4'.tape, hg4'.output, hg4'.size, hg4'.block⟩; have HI4 : Hid (In Q w w4) := Lib.hid (HI3.out.grown HG4.out (fun j hj hq => by have := (HO3.out.lt j hj).1; have := HQ.out j hq; omega)); have u0 : w4.cell? (a.add (k * 13)) = some (.int .i64 id) := (HI4.out.cell HQb.out).trans ((HI3.out.cell HQb.out).symm.trans qq0); have u11 : w4.cell? ⟨(a.add (k * 13)).block, (a.add (k * 13)).off + 11, none⟩ = some (.slice T th.length tc) := (HI4.out.cell (p := ⟨(a.add (k * 13)).block, (a.add (k * 13)).off + 11, none⟩) HQb.out).trans ((HI3.out.cell (p := ⟨(a.add (k * 13)).block, (a.add (k * 13)).off + 11, none⟩) HQb.out).symm.trans qq11)))
            have HO4 := Lib.hid hown4
            have HA4 := Lib.hid hall4
            have HJ4 : Hid (∀ j, v4.ownBlock = some j → w3.heap.size ≤ j ∨ (Value.slice X4 o3.length cx4).ownBlock = some j) := Lib.hid hj4'
            have hz4 : w3.heap.size ≤ w4.heap.size := HG4.out.size
            have u12 : w4.cell? ⟨(a.add (k * 13)).block, (a.add (k * 13)).off + 12, none⟩ = some (.slice U el.length uc) := (HI4.out.cell (p := ⟨(a.add (k * 13)).block, (a.add (k * 13)).off + 12, none⟩) HQb.out).trans ((HIr.out.cell (p := ⟨(a.add (k * 13)).block, (a.add (k * 13)).off + 12, none⟩) HQb.out).symm.trans HP12.out)
            obtain ⟨X5, cx5, rfl, hoc5, hcx5⟩ := own_form HO4.out
            have hle5 := flatL_len el (d + 1) id true o4 hle4
            have HC2 : Hid (Calls Tryz.prog 58 #[.slice U el.length uc, .int .i64 (IntKind.i64.wrap ((d : Int) + 1)), .int .i64 id, .bool true, .slice X5 o4.length cx5] w4.drew (FlatOk w Q base (.slice X5 o4.length cx5) (flatL el (d + 1) id true o4) w4.drew)) := Lib.hid (by
              have := IH.out el hN2 (W := w4.drew) (d + 1) id true o4 rows4 (.slice X5 o4.length cx5) base HE.out HI4.out HO4.out HA4.out (by show base ≤ w4.heap.size; omega) HQ.out (by omega) hle4
              rw [show ((d + 1 : Nat) : Int) = IntKind.i64.wrap ((d : Int) + 1) by rw [IntKind.wrap_i64]; omega] at this
              exact this)
            obtain ⟨o5, ho5⟩ : ∃ o5, o5 = flatL el (d + 1) id true o4 := ⟨_, rfl⟩
            rw [← ho5] at HC2 HW hle5
            clear ho5 hown4 hall4 hg4' hj4' qq0 qq11 u11
            go_wp2_with fail
            go_region_held3 (fun w' => w'.cell? (a.add (k * 13)) = some (.int .i64 id) ∧ w'.cell? ⟨(a.add (k * 13)).block, (a.add (k * 13)).off + 12, none⟩ = some (.slice U el.length uc))
              (go_keep)
              ((go_at_call 58; refine HC2.out.mono ?_; rintro e' w5 ⟨v5, rows5, rfl, hown5, hall5, hg5', hj5'⟩; have HG5 : Hid (w4.grownBy w5 (Value.slice X5 o4.length cx5).ownBlock) := Lib.hid ⟨hg5'.os, hg5'.tape, hg5'.output, hg5'.size, hg5'.block⟩; have HI5 : Hid (In Q w w5) := Lib.hid (HI4.out.grown HG5.out (fun j hj hq => by have := (HO4.out.lt j hj).1; have := HQ.out j hq; omega)); have t0 : w5.cell? (a.add (k * 13)) = some (.int .i64 id) := (HI5.out.cell HQb.out).trans ((HI4.out.cell HQb.out).symm.trans u0); have t12 : w5.cell? ⟨(a.add (k * 13)).block, (a.add (k * 13)).off + 12, none⟩ = some (.slice U el.length uc) := (HI5.out.cell (p := ⟨(a.add (k * 13)).block, (a.add (k * 13)).off + 12, none⟩) HQb.out).trans ((HI4.out.cell (p := ⟨(a.add (k * 13)).block, (a.add (k * 13)).off + 12, none⟩) HQb.out).symm.trans u12)))
            have HO5 := Lib.hid hown5
            have HJ5 : Hid (∀ j, v5.ownBlock = some j → w4.heap.size ≤ j ∨ (Value.slice X5 o4.length cx5).ownBlock = some j) := Lib.hid hj5'
            have HA5 := Lib.hid hall5
            obtain ⟨X6, cx6, rfl, _, _⟩ := own_form HO5.out
            clear hown5 hall5 hg5' hj5'
            have HJ35 := lies_then HG3.out HJ3.out HJ4.out
            have HG35 := HG3.out.andThen HG4.out HJ3.out
            have HJ36 := lies_then HG35 HJ35 HJ5.out
            have HG36 := HG35.andThen HG5.out HJ35
            have HGF : Hid (W.grownBy w5 (Value.slice X0 out.length cx0).ownBlock) := Lib.hid (HG.out.andThen HG36 HJ.out)
            have HJF : Hid (∀ j, (Value.slice X6 o5.length cx6).ownBlock = some j → W.heap.size ≤ j ∨ (Value.slice X0 out.length cx0).ownBlock = some j) := Lib.hid (lies_then HG.out HJ.out HJ36)
            clear HJ35 HG35 HJ36 HG36
            go_wp2_with fail
            go_roundw
            case rel => exact ⟨k + 1, o5, rows5, X6, cx6, by omega, by go_num, rfl, hle5, HW, HO5, HA5, HGF, HJF⟩
            case measure => simp [intOf]; omega
          · rw [if_neg hd12] at HW
            have HGF : Hid (W.grownBy w3 (Value.slice X0 out.length cx0).ownBlock) := Lib.hid (HG.out.andThen HG3.out HJ.out)
            have HJF : Hid (∀ j, (Value.slice X4 o3.length cx4).ownBlock = some j → W.heap.size ≤ j ∨ (Value.slice X0 out.length cx0).ownBlock = some j) := Lib.hid (lies_then HG.out HJ.out HJ3.out)
            go_wp2_with fail
            go_roundw
            case rel => exact ⟨k + 1, o3, rows3, X4, cx4, by omega, by go_num, rfl, hle3, HW, HO3, HA3, HGF, HJF⟩
            case measure => simp [intOf]; omega
        · rw [if_neg hm2] at HW
          go_wp2_with fail
          go_ret
          exact ⟨_, rows2, rfl, by rw [← HW.out]; exact HO2.out, by rw [← HW.out]; exact HA2.out, HG.out, HJ.out⟩
      · have HW2 : Hid (o2 = flatL l d i e out) := Lib.hid (by
          have h1 := HW.out
          rw [List.drop_of_length_le (by omega), flatL] at h1
          exact h1)
        go_wp2_with fail
        go_ret
        exact ⟨_, rows2, rfl, by rw [← HW2.out]; exact HO2.out, by rw [← HW2.out]; exact HA2.out, HG.out, HJ.out⟩
end Go.Proofs.YtimejkbmfbjomaaGreat
namespace Go.Proofs.YtimejkbmfbjomaaGreat
open Go.ChangeShapes Go.WideShapes Go.ChangeAt Go.RowKit Go.Deep
set_option linter.unusedVariables false
mutual
theorem flatL_pre : ∀ (l : List S) (d c c' : Nat), blkOk l d c = some c' → c' = c + (preSL l).length ∧ (∀ j (h : j < (preSL l).length), (preSL l)[j].id = ((c + 1 + j : Nat) : Int)) ∧ ∀ (i : Int) (e : Bool) (out : List It), out.length + (preSL l).length ≤ 200 → (flatL l d i e out).map It.s = out.map It.s ++ preSL l
  | [], d, c, c', h => by
    rw [blkOk] at h
    injection h with h
    subst h
    rw [preSL]
    exact ⟨rfl, fun j h => absurd h (by simp), fun i e out _ => by rw [flatL, List.append_nil]⟩
  | s :: l, d, c, c', h => by
    rw [blkOk] at h
    cases h1 : oneOk s d c with
    | none => rw [h1] at h; simp at h
    | some c1 =>
      rw [h1] at h
      simp only [Option.bind_some] at h
      obtain ⟨a1, a2, a3⟩ := flatS_pre s d c c1 h1
      obtain ⟨b1, b2, b3⟩ := flatL_pre l d c1 c' h
      rw [preSL]
      refine ⟨by rw [List.length_append]; omega, fun j hj => ?_, fun i e out ho => ?_⟩
      · rw [List.length_append] at hj
        by_cases hjs : j < (preS s).length
        · rw [List.getElem_append_left hjs]; exact a2 j hjs
        · rw [List.getElem_append_right (by omega), b2 _ (by omega)]; congr 1; omega
      · rw [List.length_append] at ho
        have hl1 : 1 ≤ (preS s).length := by rw [preS_eq]; simp
        rw [flatL, if_pos (by omega)]
        have h4 := a3 i e out (by omega)
        have h5 : (flatS s d i e out).length = out.length + (preS s).length := by
          have := congrArg List.length h4
          rw [List.length_map, List.length_append, List.length_map] at this
          exact this
        rw [b3 i e _ (by omega), h4, List.append_assoc]
theorem flatS_pre : ∀ (s : S) (d c c' : Nat), oneOk s d c = some c' → c' = c + (preS s).length ∧ (∀ j (h : j < (preS s).length), (preS s)[j].id = ((c + 1 + j : Nat) : Int)) ∧ ∀ (i : Int) (e : Bool) (out : List It), out.length + (preS s).length ≤ 200 → (flatS s d i e out).map It.s = out.map It.s ++ preS s
  | .mk id kind labels nm proc x has args th el, d, c, c', h => by
    rw [oneOk] at h
    split at h
    · rename_i hc
      obtain ⟨h12, _, hid, _⟩ := hc
      cases h1 : blkOk th (d + 1) (c + 1) with
      | none => rw [h1] at h; simp at h
      | some c1 =>
        rw [h1] at h
        simp only [Option.bind_some] at h
        obtain ⟨a1, a2, a3⟩ := flatL_pre th (d + 1) (c + 1) c1 h1
        obtain ⟨b1, b2, b3⟩ := flatL_pre el (d + 1) c1 c' h
        rw [preS]
        refine ⟨by rw [List.length_cons, List.length_append]; omega, fun j hj => ?_, fun i e out ho => ?_⟩
        · rw [List.length_cons, List.length_append] at hj
          cases j with
          | zero => rw [List.getElem_cons_zero]; exact hid
          | succ j =>
            rw [List.getElem_cons_succ]
            by_cases hjs : j < (preSL th).length
            · rw [List.getElem_append_left hjs, a2 j hjs]; congr 1; omega
            · rw [List.getElem_append_right (by omega), b2 _ (by omega)]; congr 1; omega
        · rw [List.length_cons, List.length_append] at ho
          rw [flatS, if_pos h12]
          have h4 := a3 id false (out ++ [⟨.mk id kind labels nm proc x has args th el, d, i, e⟩]) (by rw [List.length_append, List.length_cons, List.length_nil]; omega)
          have h5 : (flatL th (d + 1) id false (out ++ [⟨.mk id kind labels nm proc x has args th el, d, i, e⟩])).length = out.length + 1 + (preSL th).length := by
            have := congrArg List.length h4
            rw [List.length_map, List.length_append, List.length_map, List.length_append] at this
            simpa using this
          rw [b3 id true _ (by omega), h4, List.map_append, List.append_assoc, List.append_assoc]
          rfl
    · cases h
end
def flatOf (q : Pr) : List It := flatL q.body 1 0 false []
/-- of procedures that may be: what their rows are, and that each number has its statement -/
theorem prOk_flat : ∀ (l : List Pr) (c c' : Nat), prOk l c = some c' → c ≤ 200 → (∀ q ∈ l, (flatOf q).map It.s = preSL q.body ∧ (preSL q.body).length ≤ 200) ∧ c' = c + cntL l ∧ c' ≤ 200 ∧ ∀ n : Nat, c < n → n ≤ c' → (findL l (n : Int)).2.2 = true
  | [], c, c', h, h200 => by
    rw [prOk] at h
    injection h with h
    subst h
    exact ⟨fun q hq => by simp at hq, by rw [cntL]; omega, h200, fun n h1 h2 => absurd h1 (by omega)⟩
  | q :: l, c, c', h, h200 => by
    rw [prOk] at h
    split at h
    · cases h1 : blkOk q.body 1 c with
      | none => rw [h1] at h; simp at h
      | some c1 =>
        rw [h1] at h
        simp only [Option.bind_some] at h
        obtain ⟨a1, a2, a3⟩ := flatL_pre q.body 1 c c1 h1
        have hc1 := blkOk_le q.body 1 c c1 h200 h1
        obtain ⟨b1, b2, b3, b4⟩ := prOk_flat l c1 c' h hc1
        refine ⟨fun y hy => ?_, by rw [cntL]; omega, b3, fun n h5 h6 => ?_⟩
        · rcases List.mem_cons.1 hy with rfl | hy
          · have := a3 0 false [] (by simp; omega)
            rw [List.map_nil, List.nil_append] at this
            exact ⟨this, by omega⟩
          · exact b1 y hy
        · rw [findL]
          by_cases hn : n ≤ c1
          · have hj : n - c - 1 < (preSL q.body).length := by omega
            have hid := a2 (n - c - 1) hj
            have hs : ((preSL q.body).find? (fun s => s.id == (n : Int))).isSome = true := by
              rw [List.find?_isSome]
              exact ⟨_, List.getElem_mem hj, by rw [hid]; simp; omega⟩
            cases hf : (preSL q.body).find? (fun s => s.id == (n : Int)) with
            | none => rw [hf] at hs; cases hs
            | some s => rfl
          · cases hf : (preSL q.body).find? (fun s => s.id == (n : Int)) with
            | none => exact b4 n (by omega) h6
            | some s => rfl
    · cases h
theorem may_flat {p : Pg} (h : mayP p = true) : (∀ q ∈ p.procs, (flatOf q).map It.s = preSL q.body ∧ (preSL q.body).length ≤ 200) ∧ cntP p ≤ 200 ∧ ∀ n : Int, 1 ≤ n → n ≤ (cntP p : Int) → (findP p n).2.2 = true := by
  unfold mayP at h
  rw [Bool.and_eq_true] at h
  obtain ⟨_, h⟩ := h
  cases hp : prOk p.procs 0 with
  | none => rw [hp] at h; cases h
  | some c' =>
    obtain ⟨a1, a2, a3, a4⟩ := prOk_flat p.procs 0 c' hp (by omega)
    refine ⟨a1, by unfold cntP; omega, fun n h1 h2 => ?_⟩
    have := a4 n.toNat (by omega) (by unfold cntP at h2; omega)
    rw [show ((n.toNat : Nat) : Int) = n by omega] at this
    exact this
set_option maxHeartbeats 1000000 in
theorem Flat_any {w W : World} {Q : Nat → Prop} {q : Pr} {c0 c1 c2 c3 c4 : Value} (h : ProcI w Q q [c0, c1, c2, c3, c4]) (hI : In Q w W) (hQ : ∀ b, Q b → b < W.heap.size) :
    Calls Tryz.prog 20 #[.agg #[c0, c1, c2, c3, c4]] W fun e w' => ∃ v rows, e = .returned v ∧ w'.ownsRow W.heap.size 51 16 v (flatOf q).length (List.flatten rows) ∧ All2 (ItemI w Q) (flatOf q) rows ∧ Below W.heap.size W w' := by
  obtain ⟨vp, vv, vb, ve, hc, _, h3, h4, h5, h6⟩ := h
  obtain ⟨Ap, cp, rfl, _⟩ := h3.shape
  obtain ⟨Av, cv, rfl, _⟩ := h4.shape
  obtain ⟨Ab, cb, rfl, _⟩ := h5.shape
  obtain ⟨Ae, ce, rfl, _⟩ := h6.shape
  simp only [List.cons.injEq, and_true] at hc
  obtain ⟨rfl, rfl, rfl, rfl, rfl⟩ := hc
  have HC := Lib.hid (fun V h1 h2 => flat_any ((preSL q.body).length + 1) q.body (by omega) (w := w) (W := V) (Q := Q) 1 0 false [] [] (.slice none 0 0) V.heap.size h5 h1 (World.ownsRow_nil _ _ _ _) trivial (Nat.le_refl _) h2 (by omega) (by simp))
  have HC' : Hid (∀ V, In Q w V → (∀ b, Q b → b < V.heap.size) → Calls Tryz.prog 58 #[.slice Ab q.body.length cb, .int .i64 1, .int .i64 0, .bool false, .slice none 0 0] V (FlatOk w Q V.heap.size (.slice none 0 0) (flatOf q) V)) := HC
  have HI := Lib.hid hI
  have HQ := Lib.hid hQ
  clear HC h3 h4 h5 h6 hI hQ
  go_enter Tryz.func20, Tryz.ntmps20
  go_wp2_with (go_at_call 58; refine (HC'.out _ (HI.out.alloc _) (fun b hb => by rw [World.size_alloc]; have := HQ.out b hb; omega)).mono ?_; rintro e w2 ⟨v2, rows, rfl, ho, ha, hg, hj⟩)
  go_ret
  have hb : Below (W.alloc (.cells #[.string q.nm, .slice Ap q.params.length cp, .slice Av q.vars.length cv, .slice Ab q.body.length cb, .slice Ae q.end_.length ce] 39)).heap.size _ w2 := (Below.refl _ _).grown hg (Nat.le_refl _) (by simp [Value.ownBlock])
  exact ⟨v2, rows, rfl, own_lower ho (by simp), ha, below_new hb⟩
end Go.Proofs.YtimejkbmfbjomaaGreat
