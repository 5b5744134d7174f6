/- Texts, merged by a program; only what is used. -/
import Derived.Deep.RegionHeld3
import Derived.Test.YtcocilpifdjibaaK1
import Derived.Test.YtcocilpifdjibaaK2
import Derived.Test.YtcocilpifdjibaaK3
import Derived.Test.YtcocilpifdjibaaK4
import Derived.Test.YtcocilpifdjibaaK5
import Derived.Test.YtcocilpifdjibaaK6
import Derived.Test.YtcocilpifdjibaaK7
import Derived.Test.YtcocilpifdjibaaK8
import Derived.Test.YtcocilpifdjibaaK9
import Derived.Test.YtcocilpifdjibaaK10
namespace Go.Proofs.Ytcocilpifdjibaa
open Go.ChangeShapes Go.WideShapes Go.ChangeAt Go.RowKit Go.Deep
set_option linter.unusedVariables false
def weighT (s : Nat) (n : Nat) : Nat := if 20000 < n ∨ 20000 - n ≤ s then 20001 else n + 1 + s
mutual
def weighE : E → Nat → Nat
  | .mk _ _ nm ks, n => weighL ks (weighT nm.size n)
def weighL : List E → Nat → Nat
  | [], n => n
  | k :: ks, n => if n ≤ 20000 then weighL ks (weighE k n) else n
end
theorem weighT_le (s n : Nat) (h : n ≤ 20001) : weighT s n ≤ 20001 := by unfold weighT; split <;> omega
mutual
theorem weighE_le : ∀ (e : E) (n : Nat), n ≤ 20001 → weighE e n ≤ 20001
  | .mk _ _ nm ks, n, h => by rw [weighE]; exact weighL_le ks _ (weighT_le _ _ h)
theorem weighL_le : ∀ (ks : List E) (n : Nat), n ≤ 20001 → weighL ks n ≤ 20001
  | [], n, h => by rw [weighL]; exact h
  | k :: ks, n, h => by
    rw [weighL]
    split
    · exact weighL_le ks _ (weighE_le k n h)
    · exact h
end
theorem weighText_any (s : ByteArray) (n : Nat) (w : World) (hs : s.size ≤ 9223372036854775807) (hn : n ≤ 20001) :
    Calls Try.prog 55 #[.string s, .int .i64 n] w fun e w' => e = .returned (.int .i64 (weighT s.size n)) ∧ w = w' := by
  unfold weighT
  by_cases h1 : 20000 < n
  · rw [if_pos (.inl h1)]
    go_enter Try.func55, Try.ntmps55
    go_wp2
    go_ret
    exact ⟨rfl, rfl⟩
  · by_cases h2 : 20000 - n ≤ s.size
    · rw [if_pos (.inr h2)]
      go_enter Try.func55, Try.ntmps55
      go_wp2
      go_ret
      exact ⟨rfl, rfl⟩
    · rw [if_neg (by omega)]
      go_enter Try.func55, Try.ntmps55
      go_wp2
      go_ret
      exact ⟨rfl, rfl⟩
set_option maxHeartbeats 1000000 in
theorem weighExpr_any {w : World} {Q : Nat → Prop} {e : E} {cs : List Value} (h : ExprI w Q e cs) : ∀ (c0 c1 c2 c3 : Value), cs = [c0, c1, c2, c3] → ∀ (n : Nat) (W : World), n ≤ 20001 → In Q w W →
    Calls Try.prog 96 #[.agg #[c0, c1, c2, c3], .int .i64 n] W fun e' w' => e' = .returned (.int .i64 (weighE e n)) ∧ Below W.heap.size W w' := by
  induction h with
  | @mk op nn nm ks A cap css hop hn hnm hcap hA hk ih =>
    intro c0 c1 c2 c3 hcs n W hnn hI
    simp only [List.cons.injEq, and_true] at hcs
    obtain ⟨rfl, rfl, rfl, rfl⟩ := hcs
    have hT := weighT_le nm.size n hnn
    have HA := Lib.hid hA
    have HK := Lib.hid hk
    have IH := Lib.hid ih
    have HI := Lib.hid hI
    clear hA hk ih hI
    go_enter Try.func96, Try.ntmps96
    go_wp2_with (go_at_call 55; refine (weighText_any _ _ _ hnm hnn).mono ?_; rintro e w' ⟨rfl, rfl⟩)
    have HB1 : Hid (Below W.heap.size W (W.alloc (.cells #[.int .i64 op, .int .i64 nn, .string nm, .slice A ks.length cap] 45))) := Lib.hid ((Below.refl _ _).alloc (Nat.le_refl _) _)
    have hq3 : (W.alloc (.cells #[.int .i64 op, .int .i64 nn, .string nm, .slice A ks.length cap] 45)).cell? ⟨W.heap.size, 3, none⟩ = some (.slice A ks.length cap) := by simp
    have hsz : W.heap.size < (W.alloc (.cells #[.int .i64 op, .int .i64 nn, .string nm, .slice A ks.length cap] 45)).heap.size := by simp
    have HQ3 := Lib.hid hq3
    clear hq3
    generalize W.alloc _ = W1 at HB1 HQ3 hsz ⊢
    go_loopw [1, 5] (fun nv i wr => ∃ k m : Nat, k ≤ ks.length ∧ i = .int .i64 k ∧ nv = .int .i64 m ∧ m ≤ 20001 ∧ Hid (weighL (ks.drop k) m = weighE (.mk op nn nm ks) n) ∧ Hid (Below W1.heap.size W1 wr)) (fun _ i _ => ks.length - (intOf i).toNat)
    case atStart => exact ⟨0, _, Nat.zero_le _, rfl, rfl, hT, Lib.hid (by rw [List.drop_zero, weighE]), Lib.hid (Below.refl _ _)⟩
    case round =>
      obtain ⟨k, m, hk, rfl, rfl, hm, HW, HR⟩ := hrel
      have q3 : wr.cell? ⟨W.heap.size, 3, none⟩ = some (.slice A ks.length cap) := (HR.out.cell (p := ⟨W.heap.size, 3, none⟩) hsz).trans HQ3.out
      have hrz := HR.out.size
      by_cases hlt : k < ks.length
      · by_cases hm2 : m ≤ 20000
        · have hIr : In Q w wr := HI.out.on (HB1.out.trans (HR.out.mono HB1.out.size))
          obtain ⟨a, o1, n1, s1, A1, l1, k1, rfl, hd', p0, p1, p2, p3⟩ := kid_at HA.out HK.out hIr hlt
          have HC := Lib.hid (IH.out k hlt _ _ _ _ hd' m wr (by omega) hIr)
          clear hd' hIr
          have HN : Hid (weighL (ks.drop (k + 1)) (weighE ks[k] m) = weighE (.mk op nn nm ks) n) := Lib.hid (by
            have h1 := HW.out
            rw [List.drop_eq_getElem_cons hlt, weighL, if_pos hm2] at h1
            exact h1)
          have hle := weighE_le ks[k] m (by omega)
          obtain ⟨m2, hm2e⟩ : ∃ m2, m2 = weighE ks[k] m := ⟨_, rfl⟩
          rw [← hm2e] at HC HN hle
          clear hm2e
          go_wp2_with (go_at_call 96; refine HC.out.mono ?_; rintro e w2 ⟨rfl, hb2⟩)
          go_roundw
          case rel => exact ⟨k + 1, m2, by omega, by go_num, rfl, hle, HN, Lib.hid (HR.out.trans (hb2.mono HR.out.size))⟩
          case measure => simp [intOf]; omega
        · have HN : Hid (weighE (.mk op nn nm ks) n = m) := Lib.hid (by
            have h1 := HW.out
            rw [List.drop_eq_getElem_cons hlt, weighL, if_neg hm2] at h1
            exact h1.symm)
          go_wp2_with fail
          go_ret
          exact ⟨ret_int (by rw [HN.out]), HB1.out.trans (HR.out.mono HB1.out.size)⟩
      · have HN : Hid (weighE (.mk op nn nm ks) n = m) := Lib.hid (by
          have h1 := HW.out
          rw [List.drop_of_length_le (by omega), weighL] at h1
          exact h1.symm)
        go_wp2_with fail
        go_ret
        exact ⟨ret_int (by rw [HN.out]), HB1.out.trans (HR.out.mono HB1.out.size)⟩
end Go.Proofs.Ytcocilpifdjibaa
namespace Go.Proofs.Ytcocilpifdjibaa
open Go.ChangeShapes Go.WideShapes Go.ChangeAt Go.RowKit Go.Deep
set_option linter.unusedVariables false
def weighTs : List ByteArray → Nat → Nat
  | [], n => n
  | s :: l, n => if n ≤ 20000 then weighTs l (weighT s.size n) else n
def weighAr : List Ar → Nat → Nat
  | [], n => n
  | a :: l, n => if n ≤ 20000 then weighAr l (weighT a.nm.size (weighE a.x n)) else n
mutual
def weighS : S → Nat → Nat
  | .mk _ _ labels nm proc x _ args th el, n => weighSL el (weighSL th (weighAr args (weighT proc.size (weighT nm.size (weighTs labels (weighE x n))))))
def weighSL : List S → Nat → Nat
  | [], n => n
  | s :: l, n => if n ≤ 20000 then weighSL l (weighS s n) else n
end
def weighPa : List Pa → Nat → Nat
  | [], n => n
  | a :: l, n => if n ≤ 20000 then weighPa l (weighT a.nm.size n) else n
def weighQ (q : Pr) (n : Nat) : Nat := weighSL q.body (weighPa q.params (weighTs q.end_ (weighTs q.vars (weighT q.nm.size n))))
def weighQs : List Pr → Nat → Nat
  | [], n => n
  | q :: l, n => if n ≤ 20000 then weighQs l (weighQ q n) else n
def weighP (p : Pg) : Nat := weighQs p.procs (weighTs p.globals 0)
def fitsP (p : Pg) : Bool := decide (weighP p ≤ 20000)
theorem weighTs_le : ∀ (l : List ByteArray) (n : Nat), n ≤ 20001 → weighTs l n ≤ 20001
  | [], n, h => by rw [weighTs]; exact h
  | s :: l, n, h => by rw [weighTs]; split; exact weighTs_le l _ (weighT_le _ _ h); exact h
theorem weighAr_le : ∀ (l : List Ar) (n : Nat), n ≤ 20001 → weighAr l n ≤ 20001
  | [], n, h => by rw [weighAr]; exact h
  | s :: l, n, h => by rw [weighAr]; split; exact weighAr_le l _ (weighT_le _ _ (weighE_le _ _ h)); exact h
mutual
theorem weighS_le : ∀ (s : S) (n : Nat), n ≤ 20001 → weighS s n ≤ 20001
  | .mk _ _ labels nm proc x _ args th el, n, h => by rw [weighS]; exact weighSL_le el _ (weighSL_le th _ (weighAr_le _ _ (weighT_le _ _ (weighT_le _ _ (weighTs_le _ _ (weighE_le _ _ h))))))
theorem weighSL_le : ∀ (l : List S) (n : Nat), n ≤ 20001 → weighSL l n ≤ 20001
  | [], n, h => by rw [weighSL]; exact h
  | s :: l, n, h => by
    rw [weighSL]
    split
    · exact weighSL_le l _ (weighS_le s n h)
    · exact h
end
set_option maxHeartbeats 1000000 in
theorem weighTexts_any {w W : World} {Q : Nat → Prop} {l : List ByteArray} {A : Option Addr} {m cap : Nat} (h : TextsI w Q l (.slice A m cap)) (hI : In Q w W) (n : Nat) (hn : n ≤ 20001) :
    Calls Try.prog 54 #[.slice A m cap, .int .i64 n] W fun e w' => e = .returned (.int .i64 (weighTs l n : Nat)) ∧ W = w' := by
  obtain ⟨rfl, hlc, hc, _⟩ := slice_len h
  have H := Lib.hid h
  have HI := Lib.hid hI
  clear h hI
  go_enter Try.func54, Try.ntmps54
  go_wp2_with fail
  go_loop [1, 5] (fun nv i => ∃ k q : Nat, k ≤ l.length ∧ i = .int .i64 k ∧ nv = .int .i64 q ∧ q ≤ 20001 ∧ Hid (weighTs (l.drop k) q = weighTs l n)) (fun _ i => l.length - (intOf i).toNat)
  case atStart => exact ⟨0, n, Nat.zero_le _, rfl, rfl, hn, Lib.hid (by rw [List.drop_zero])⟩
  case round =>
    obtain ⟨k, q, hk, rfl, rfl, hq, HW⟩ := hrel
    by_cases hlt : k < l.length
    · by_cases hm2 : q ≤ 20000
      · obtain ⟨a, rfl, _, p1, hs⟩ := text_at H.out HI.out hlt
        have HN : Hid (weighTs (l.drop (k + 1)) (weighT l[k].size q) = weighTs l n) := Lib.hid (by
          have h1 := HW.out
          rw [List.drop_eq_getElem_cons hlt, weighTs, if_pos hm2] at h1
          exact h1)
        have hle := weighT_le l[k].size q (by omega)
        have HC := Lib.hid (fun W => weighText_any l[k] q W hs (by omega))
        obtain ⟨q2, hq2⟩ : ∃ q2, q2 = weighT l[k].size q := ⟨_, rfl⟩
        rw [← hq2] at HC HN hle
        clear hq2 hs
        go_wp2_with (go_at_call 55; refine (HC.out _).mono ?_; rintro e w' ⟨rfl, rfl⟩)
        go_round
        case rel => exact ⟨k + 1, q2, by omega, by go_num, rfl, hle, HN⟩
        case measure => simp [intOf]; omega
      · have HN : Hid (weighTs l n = q) := Lib.hid (by
          have h1 := HW.out
          rw [List.drop_eq_getElem_cons hlt, weighTs, if_neg hm2] at h1
          exact h1.symm)
        go_wp2_with fail
        go_ret
        exact ⟨ret_int (by rw [HN.out]), rfl⟩
    · have HN : Hid (weighTs l n = q) := Lib.hid (by
        have h1 := HW.out
        rw [List.drop_of_length_le (by omega), weighTs] at h1
        exact h1.symm)
      go_wp2_with fail
      go_ret
      exact ⟨ret_int (by rw [HN.out]), rfl⟩
/-- a row of the block b of the world -/
theorem weighAr_drop {l : List Ar} {k q : Nat} (h : k < l.length) : weighAr (l.drop k) q = if q ≤ 20000 then weighAr (l.drop (k + 1)) (weighT l[k].nm.size (weighE l[k].x q)) else q := by rw [List.drop_eq_getElem_cons h, weighAr]
theorem weighSL_drop {l : List S} {k q : Nat} (h : k < l.length) : weighSL (l.drop k) q = if q ≤ 20000 then weighSL (l.drop (k + 1)) (weighS l[k] q) else q := by rw [List.drop_eq_getElem_cons h, weighSL]
set_option maxHeartbeats 4000000 in
theorem weighStmts_any : ∀ (N : Nat) (l : List S), (preSL l).length < N → ∀ {w W : World} {Q : Nat → Prop} {A : Option Addr} {cap : Nat} (n : Nat), StmtsI w Q l (.slice A l.length cap) → In Q w W → n ≤ 20001 →
    Calls Try.prog 56 #[.slice A l.length cap, .int .i64 n] W (IntOk (weighSL l n : Nat) W) := by
  intro N
  induction N with
  | zero => intro l h; omega
  | succ N ih =>
    intro l hN w W Q A cap n hl hI hn
    obtain ⟨_, hlc, hcap, _⟩ := slice_len hl
    have IH := Lib.hid @ih
    have HN := Lib.hid hN
    have HL := Lib.hid hl
    have HI := Lib.hid hI
    clear ih hN hl hI
    go_enter Try.func56, Try.ntmps56
    go_wp2_with fail
    go_loopw [1, 5] (fun nv i wr => ∃ k q : Nat, k ≤ l.length ∧ i = .int .i64 k ∧ nv = .int .i64 q ∧ q ≤ 20001 ∧ Hid (weighSL (l.drop k) q = weighSL l n) ∧ Hid (Below W.heap.size W wr)) (fun _ i _ => l.length - (intOf i).toNat)
    case atStart => exact ⟨0, n, Nat.zero_le _, rfl, rfl, hn, Lib.hid (by rw [List.drop_zero]), Lib.hid (Below.refl _ _)⟩
    case round =>
      obtain ⟨k, q, hk, rfl, rfl, hq, HW, HR⟩ := hrel
      by_cases hlt : k < l.length
      · rw [weighSL_drop hlt] at HW
        by_cases hm2 : q ≤ 20000
        · rw [if_pos hm2] at HW
          generalize wr = wo at *
          have hIr : In Q w wo := HI.out.on HR.out
          obtain ⟨a, id, kind, labels, nm, proc, x, has, args, th, el, L, lc, x0, x1, x2, X, xn, xc, R, rc, T, tc, U, uc, rfl, _, hmk, ⟨p0, p1, p2, p3, p4, p5, p6, p7, p8, p9, p10, p11, p12, _⟩, hid, hkind, hnm, hproc, hlab, hx, har, hth, hel, hst⟩ := stmt_at HL.out hIr hlt
          have hsub := preSL_at hlt
          rw [hmk] at hsub HW
          simp only [subS, List.length_append] at hsub
          rw [weighS] at HW
          have hN1 : (preSL th).length < N := by have := HN.out; omega
          have hN2 : (preSL el).length < N := by have := HN.out; omega
          have HIr := Lib.hid hIr
          have hle1 := weighE_le x q (by omega)
          have HC1 : Hid (∀ W', In Q w W' → Calls Try.prog 96 #[.agg #[.int .i64 x0, .int .i64 x1, .string x2, .slice X xn xc], .int .i64 q] W' fun e' w' => e' = .returned (.int .i64 (weighE x q : Nat)) ∧ Below W'.heap.size W' w') := Lib.hid (fun W' h1 => weighExpr_any hx _ _ _ _ rfl q W' (by omega) h1)
          obtain ⟨q1, hq1⟩ : ∃ q1, q1 = weighE x q := ⟨_, rfl⟩
          rw [← hq1] at HC1 HW hle1
          have hle2 := weighTs_le labels q1 hle1
          have HC2 : Hid (∀ W', In Q w W' → Calls Try.prog 54 #[.slice L labels.length lc, .int .i64 q1] W' fun e' w' => e' = .returned (.int .i64 (weighTs labels q1 : Nat)) ∧ W' = w') := Lib.hid (fun W' h1 => weighTexts_any hlab h1 q1 hle1)
          obtain ⟨q2, hq2⟩ : ∃ q2, q2 = weighTs labels q1 := ⟨_, rfl⟩
          rw [← hq2] at HC2 HW hle2
          have hle3 := weighT_le nm.size q2 hle2
          have HC3 : Hid (∀ W', Calls Try.prog 55 #[.string nm, .int .i64 q2] W' fun e' w' => e' = .returned (.int .i64 (weighT nm.size q2 : Nat)) ∧ W' = w') := Lib.hid (fun W' => weighText_any nm q2 W' hnm hle2)
          obtain ⟨q3, hq3⟩ : ∃ q3, q3 = weighT nm.size q2 := ⟨_, rfl⟩
          rw [← hq3] at HC3 HW hle3
          have hle4 := weighT_le proc.size q3 hle3
          have HC4 : Hid (∀ W', Calls Try.prog 55 #[.string proc, .int .i64 q3] W' fun e' w' => e' = .returned (.int .i64 (weighT proc.size q3 : Nat)) ∧ W' = w') := Lib.hid (fun W' => weighText_any proc q3 W' hproc hle3)
          obtain ⟨q4, hq4⟩ : ∃ q4, q4 = weighT proc.size q3 := ⟨_, rfl⟩
          rw [← hq4] at HC4 HW hle4
          have HAr := Lib.hid har
          have HT := Lib.hid hth
          have HE := Lib.hid hel
          obtain ⟨_, halc, hac, _⟩ := slice_len har
          clear hmk hsub hst hth hel hIr hx hlab har hid hkind hnm hproc hq1 hq2 hq3 hq4
          go_wp2_with fail
          have HBx : Hid (Blk (wo.alloc (.cells #[.int .i64 id, .int .i64 kind, .slice L labels.length lc, .string nm, .string proc, .int .i64 x0, .int .i64 x1, .string x2, .slice X xn xc, .bool has, .slice R args.length rc, .slice T th.length tc, .slice U el.length uc] 64)) wo.heap.size 64 #[.int .i64 id, .int .i64 kind, .slice L labels.length lc, .string nm, .string proc, .int .i64 x0, .int .i64 x1, .string x2, .slice X xn xc, .bool has, .slice R args.length rc, .slice T th.length tc, .slice U el.length uc]) := Lib.hid (Blk.new _ _ _)
          have HB1 : Hid (Below wo.heap.size wo (wo.alloc (.cells #[.int .i64 id, .int .i64 kind, .slice L labels.length lc, .string nm, .string proc, .int .i64 x0, .int .i64 x1, .string x2, .slice X xn xc, .bool has, .slice R args.length rc, .slice T th.length tc, .slice U el.length uc] 64))) := Lib.hid (below_box _)
          generalize World.alloc _ _ = W1 at HBx HB1 ⊢
          generalize wo.heap.size = b0 at HBx ⊢
          clear p0 p1 p2 p3 p4 p5 p6 p7 p8 p9 p10 p11 p12
          have HI1 : Hid (In Q w W1) := Lib.hid (HIr.out.on HB1.out)
          have q2_ : W1.cell? ⟨b0, 2, none⟩ = some (.slice L labels.length lc) := by rw [HBx.out.cell 2]; rfl
          have q3_ : W1.cell? ⟨b0, 3, none⟩ = some (.string nm) := by rw [HBx.out.cell 3]; rfl
          have q4_ : W1.cell? ⟨b0, 4, none⟩ = some (.string proc) := by rw [HBx.out.cell 4]; rfl
          have q5_ : W1.cell? ⟨b0, 5, none⟩ = some (.int .i64 x0) := by rw [HBx.out.cell 5]; rfl
          have q6_ : W1.cell? ⟨b0, 6, none⟩ = some (.int .i64 x1) := by rw [HBx.out.cell 6]; rfl
          have q7_ : W1.cell? ⟨b0, 7, none⟩ = some (.string x2) := by rw [HBx.out.cell 7]; rfl
          have q8_ : W1.cell? ⟨b0, 8, none⟩ = some (.slice X xn xc) := by rw [HBx.out.cell 8]; rfl
          have hbl := HBx.out.lt
          have hdr : ∀ W2 : World, In Q w W2 → In Q w W2.drew := fun W2 h => h
          go_region_held3 (fun w' => w'.cell? ⟨b0, 2, none⟩ = some (.slice L labels.length lc) ∧ w'.cell? ⟨b0, 3, none⟩ = some (.string nm) ∧ w'.cell? ⟨b0, 4, none⟩ = some (.string proc) ∧ w'.cell? ⟨b0, 5, none⟩ = some (.int .i64 x0) ∧ w'.cell? ⟨b0, 6, none⟩ = some (.int .i64 x1) ∧ w'.cell? ⟨b0, 7, none⟩ = some (.string x2) ∧ w'.cell? ⟨b0, 8, none⟩ = some (.slice X xn xc))
            (go_keep)
            (first
              | (go_at_call 96; refine (HC1.out _ (hdr _ HI1.out)).mono ?_; rintro e w2 ⟨rfl, hb2⟩; have hb2' : Below W1.heap.size W1 w2 := (show Below W1.heap.size W1 W1.drew from (Below.refl _ _).drew).trans hb2; have hc2 := (bcell hb2').1; have HI2 := Lib.hid (HI1.out.on hb2'))
              | (go_at_call 54; refine (HC2.out _ HI2.out).mono ?_; rintro e w' ⟨rfl, rfl⟩)
              | (go_at_call 55; (with_reducible refine (HC3.out _).mono ?_); rintro e w' ⟨rfl, rfl⟩)
              | (go_at_call 55; (with_reducible refine (HC4.out _).mono ?_); rintro e w' ⟨rfl, rfl⟩))
          rename_i hheld
          have HBx2 := Lib.hid (HBx.out.below hb2' hbl)
          have HB2 : Hid (Below wo.heap.size wo w2) := Lib.hid (below_step HB1.out hb2')
          have hbl2 := HBx2.out.lt
          clear hb2 hb2' hc2 hheld hdr HC1 HC2 HC3 HC4 HBx HB1 HI1 q2_ q3_ q4_ q5_ q6_ q7_ q8_
          go_wp2_with fail
          go_loopw [1, 7] (fun nv i wr => ∃ k2 q5 : Nat, k2 ≤ args.length ∧ i = .int .i64 k2 ∧ nv = .int .i64 q5 ∧ q5 ≤ 20001 ∧ Hid (weighAr (args.drop k2) q5 = weighAr args q4) ∧ Hid (Below w2.heap.size w2 wr)) (fun _ i _ => args.length - (intOf i).toNat)
          case atStart => exact ⟨0, q4, Nat.zero_le _, rfl, rfl, hle4, Lib.hid (by rw [List.drop_zero]), Lib.hid (Below.refl _ _)⟩
          case round =>
            obtain ⟨k2, q5, hk2, rfl, rfl, hq5, HW2, HR2⟩ := hrel
            have HBx3 := Lib.hid (HBx2.out.below HR2.out hbl2)
            have r10 : wr.cell? ⟨b0, 10, none⟩ = some (.slice R args.length rc) := by rw [HBx3.out.cell 10]; rfl
            have hbl3 := HBx3.out.lt
            have HI3 : Hid (In Q w wr) := Lib.hid (HI2.out.on HR2.out)
            by_cases hlt2 : k2 < args.length
            · rw [weighAr_drop hlt2] at HW2
              by_cases hm3 : q5 ≤ 20000
              · rw [if_pos hm3] at HW2
                obtain ⟨a4, o1, n1, s1, A1, l1, c1, rfl, hqa, ⟨p0, p1, p2, p3, p4, p5, _⟩, hs, hx⟩ := arg_at HAr.out HI3.out hlt2
                have hab : (a4.add (k2 * 6)).block < wr.heap.size := by rw [block_add]; exact HI3.out.1 _ hqa
                have hle5 := weighE_le args[k2].x q5 hq5
                have HC1 : Hid (∀ W', In Q w W' → Calls Try.prog 96 #[.agg #[.int .i64 o1, .int .i64 n1, .string s1, .slice A1 l1 c1], .int .i64 q5] W' fun e' w' => e' = .returned (.int .i64 (weighE args[k2].x q5 : Nat)) ∧ Below W'.heap.size W' w') := Lib.hid (fun W' h1 => weighExpr_any hx _ _ _ _ rfl q5 W' (by omega) h1)
                obtain ⟨q6, hq6⟩ : ∃ q6, q6 = weighE args[k2].x q5 := ⟨_, rfl⟩
                rw [← hq6] at HC1 HW2 hle5
                have hle6 := weighT_le args[k2].nm.size q6 hle5
                have HC3 : Hid (∀ W', Calls Try.prog 55 #[.string args[k2].nm, .int .i64 q6] W' fun e' w' => e' = .returned (.int .i64 (weighT args[k2].nm.size q6 : Nat)) ∧ W' = w') := Lib.hid (fun W' => weighText_any args[k2].nm q6 W' hs hle5)
                obtain ⟨q7, hq7⟩ : ∃ q7, q7 = weighT args[k2].nm.size q6 := ⟨_, rfl⟩
                rw [← hq7] at HC3 HW2 hle6
                generalize args[k2].nm = anm at HC3 p1
                have hdr : ∀ W2 : World, In Q w W2 → In Q w W2.drew := fun W2 h => h
                clear p0 hs hx hq6 hq7 hqa
                go_wp2_with fail
                go_region_held3 (fun w' => w'.cell? ⟨b0, 10, none⟩ = some (.slice (some a4) args.length rc) ∧ w'.cell? ⟨(a4.add (k2 * 6)).block, (a4.add (k2 * 6)).off + 1, none⟩ = some (.string anm) ∧ w'.cell? ⟨(a4.add (k2 * 6)).block, (a4.add (k2 * 6)).off + 2, none⟩ = some (.int .i64 o1) ∧ w'.cell? ⟨(a4.add (k2 * 6)).block, (a4.add (k2 * 6)).off + 3, none⟩ = some (.int .i64 n1) ∧ w'.cell? ⟨(a4.add (k2 * 6)).block, (a4.add (k2 * 6)).off + 4, none⟩ = some (.string s1) ∧ w'.cell? ⟨(a4.add (k2 * 6)).block, (a4.add (k2 * 6)).off + 5, none⟩ = some (.slice A1 l1 c1))
                  (go_keep)
                  (first
                    | (go_at_call 96; refine (HC1.out _ (hdr _ HI3.out)).mono ?_; rintro e w3 ⟨rfl, hb3⟩; have hb3' : Below wr.heap.size wr w3 := (show Below wr.heap.size wr wr.drew from (Below.refl _ _).drew).trans hb3; have hc3 := (bcell hb3').1)
                    | (go_at_call 55; refine (HC3.out _).mono ?_; rintro e w' ⟨rfl, rfl⟩))
                go_wp2_with fail
                go_roundw
                case rel => exact ⟨k2 + 1, q7, by omega, by go_num, rfl, hle6, HW2, Lib.hid (below_step HR2.out hb3')⟩
                case measure => simp [intOf]; omega
              · rw [if_neg hm3] at HW2
                rw [← HW2.out] at HW
                have hle7 := weighSL_le th q5 hq5
                have HT1 : Hid (∀ W', In Q w W' → Calls Try.prog 56 #[.slice T th.length tc, .int .i64 q5] W' (IntOk (weighSL th q5 : Nat) W')) := Lib.hid (fun W' h1 => IH.out th hN1 q5 HT.out h1 hq5)
                obtain ⟨q8, hq8⟩ : ∃ q8, q8 = weighSL th q5 := ⟨_, rfl⟩
                rw [← hq8] at HT1 HW hle7
                have hle8 := weighSL_le el q8 hle7
                have HE1 : Hid (∀ W', In Q w W' → Calls Try.prog 56 #[.slice U el.length uc, .int .i64 q8] W' (IntOk (weighSL el q8 : Nat) W')) := Lib.hid (fun W' h1 => IH.out el hN2 q8 HE.out h1 hle7)
                obtain ⟨q9, hq9⟩ : ∃ q9, q9 = weighSL el q8 := ⟨_, rfl⟩
                rw [← hq9] at HE1 HW hle8
                have r11 : wr.cell? ⟨b0, 11, none⟩ = some (.slice T th.length tc) := by rw [HBx3.out.cell 11]; rfl
                have r12 : wr.cell? ⟨b0, 12, none⟩ = some (.slice U el.length uc) := by rw [HBx3.out.cell 12]; rfl
                have hdr : ∀ W2 : World, In Q w W2 → In Q w W2.drew := fun W2 h => h
                clear hq8 hq9
                go_wp2_with fail
                go_region_held3 (fun w' => w'.cell? ⟨b0, 11, none⟩ = some (.slice T th.length tc) ∧ w'.cell? ⟨b0, 12, none⟩ = some (.slice U el.length uc))
                  (go_keep)
                  (first
                    | (go_at_call 56; (with_reducible refine (HT1.out _ (hdr _ HI3.out)).mono ?_); rintro e w3 ⟨rfl, hb3⟩; have hb3' : Below wr.heap.size wr w3 := (show Below wr.heap.size wr wr.drew from (Below.refl _ _).drew).trans hb3; have hc3 := (bcell hb3').1; have hbl4 : b0 < w3.heap.size := Nat.lt_of_lt_of_le hbl3 hb3'.size; have HI4 : Hid (In Q w w3) := Lib.hid (HI3.out.on hb3'))
                    | (go_at_call 56; (with_reducible refine (HE1.out _ HI4.out).mono ?_); rintro e w4 ⟨rfl, hb4⟩; have hc4 := (bcell hb4).1))
                go_wp2_with fail
                go_roundw
                case rel => exact ⟨k + 1, q9, by omega, by go_num, rfl, hle8, HW, Lib.hid (below_step HR.out (below_step HB2.out (below_step HR2.out (below_step hb3' hb4))))⟩
                case measure => simp [intOf]; omega
            · have HW3 : Hid (q5 = weighAr args q4) := Lib.hid (by
                have h1 := HW2.out
                rw [List.drop_of_length_le (by omega), weighAr] at h1
                exact h1)
              clear HW2
              have HW2 := HW3
              clear HW3
              rw [← HW2.out] at HW
              have hle7 := weighSL_le th q5 hq5
              have HT1 : Hid (∀ W', In Q w W' → Calls Try.prog 56 #[.slice T th.length tc, .int .i64 q5] W' (IntOk (weighSL th q5 : Nat) W')) := Lib.hid (fun W' h1 => IH.out th hN1 q5 HT.out h1 hq5)
              obtain ⟨q8, hq8⟩ : ∃ q8, q8 = weighSL th q5 := ⟨_, rfl⟩
              rw [← hq8] at HT1 HW hle7
              have hle8 := weighSL_le el q8 hle7
              have HE1 : Hid (∀ W', In Q w W' → Calls Try.prog 56 #[.slice U el.length uc, .int .i64 q8] W' (IntOk (weighSL el q8 : Nat) W')) := Lib.hid (fun W' h1 => IH.out el hN2 q8 HE.out h1 hle7)
              obtain ⟨q9, hq9⟩ : ∃ q9, q9 = weighSL el q8 := ⟨_, rfl⟩
              rw [← hq9] at HE1 HW hle8
              have r11 : wr.cell? ⟨b0, 11, none⟩ = some (.slice T th.length tc) := by rw [HBx3.out.cell 11]; rfl
              have r12 : wr.cell? ⟨b0, 12, none⟩ = some (.slice U el.length uc) := by rw [HBx3.out.cell 12]; rfl
              have hdr : ∀ W2 : World, In Q w W2 → In Q w W2.drew := fun W2 h => h
              clear hq8 hq9
              go_wp2_with fail
              go_region_held3 (fun w' => w'.cell? ⟨b0, 11, none⟩ = some (.slice T th.length tc) ∧ w'.cell? ⟨b0, 12, none⟩ = some (.slice U el.length uc))
                (go_keep)
                (first
                  | (go_at_call 56; (with_reducible refine (HT1.out _ (hdr _ HI3.out)).mono ?_); rintro e w3 ⟨rfl, hb3⟩; have hb3' : Below wr.heap.size wr w3 := (show Below wr.heap.size wr wr.drew from (Below.refl _ _).drew).trans hb3; have hc3 := (bcell hb3').1; have hbl4 : b0 < w3.heap.size := Nat.lt_of_lt_of_le hbl3 hb3'.size; have HI4 : Hid (In Q w w3) := Lib.hid (HI3.out.on hb3'))
                  | (go_at_call 56; (with_reducible refine (HE1.out _ HI4.out).mono ?_); rintro e w4 ⟨rfl, hb4⟩; have hc4 := (bcell hb4).1))
              go_wp2_with fail
              go_roundw
              case rel => exact ⟨k + 1, q9, by omega, by go_num, rfl, hle8, HW, Lib.hid (below_step HR.out (below_step HB2.out (below_step HR2.out (below_step hb3' hb4))))⟩
              case measure => simp [intOf]; omega
        · rw [if_neg hm2] at HW
          go_wp2_with fail
          go_ret
          exact ⟨ret_int (by rw [← HW.out]), HR.out⟩
      · have HN2 : Hid (weighSL l n = q) := Lib.hid (by
          have h1 := HW.out
          rw [List.drop_of_length_le (by omega), weighSL] at h1
          exact h1.symm)
        go_wp2_with fail
        go_ret
        exact ⟨ret_int (by rw [HN2.out]), HR.out⟩
end Go.Proofs.Ytcocilpifdjibaa
namespace Go.Proofs.Ytcocilpifdjibaa
open Go.ChangeShapes Go.WideShapes Go.ChangeAt Go.RowKit Go.Deep
set_option linter.unusedVariables false
theorem weighPa_drop {l : List Pa} {k q : Nat} (h : k < l.length) : weighPa (l.drop k) q = if q ≤ 20000 then weighPa (l.drop (k + 1)) (weighT l[k].nm.size q) else q := by rw [List.drop_eq_getElem_cons h, weighPa]
theorem weighQs_drop {l : List Pr} {k q : Nat} (h : k < l.length) : weighQs (l.drop k) q = if q ≤ 20000 then weighQs (l.drop (k + 1)) (weighQ l[k] q) else q := by rw [List.drop_eq_getElem_cons h, weighQs]
set_option maxHeartbeats 4000000 in
theorem Fits_any {w : World} {Q : Nat → Prop} {p : Pg} {c0 c1 : Value} (h : ProgI w Q p [c0, c1]) (W : World) (hI : In Q w W) :
    Calls Try.prog 16 #[.agg #[c0, c1]] W (MayOk (fitsP p) W) := by
  obtain ⟨Ag, cg, Ap, cp, rfl, rfl, hg1, hg2, hp1, hp2, hgl, hpr⟩ := prog_open h
  have HP := Lib.hid hpr
  have HI := Lib.hid hI
  have HG := Lib.hid (fun V h1 => weighTexts_any (W := V) hgl h1 0 (by omega))
  have hle0 := weighTs_le p.globals 0 (by omega)
  have HF : Hid (fitsP p = decide (weighQs p.procs (weighTs p.globals 0) ≤ 20000)) := Lib.hid rfl
  obtain ⟨n0, hn0⟩ : ∃ n0, n0 = weighTs p.globals 0 := ⟨_, rfl⟩
  rw [← hn0] at HG hle0 HF
  clear hn0 h hI hpr hgl
  go_enter Try.func16, Try.ntmps16
  go_wp2_with (go_at_call 54; refine (HG.out _ (HI.out.alloc _)).mono ?_; rintro e w' ⟨rfl, rfl⟩)
  have HBp : Hid (Blk (W.alloc (.cells #[.slice Ag p.globals.length cg, .slice Ap p.procs.length cp] 25)) W.heap.size 25 #[.slice Ag p.globals.length cg, .slice Ap p.procs.length cp]) := Lib.hid (Blk.new _ _ _)
  have HB0 : Hid (Below W.heap.size W (W.alloc (.cells #[.slice Ag p.globals.length cg, .slice Ap p.procs.length cp] 25))) := Lib.hid (below_box _)
  generalize World.alloc _ _ = W1 at HBp HB0 ⊢
  have HI1 := Lib.hid (HI.out.on HB0.out)
  generalize hbe : W.heap.size = b at HBp ⊢
  clear hbe HG HI
  have hbl := HBp.out.lt
  go_loopw [3, 4] (fun nv i wr => ∃ k q : Nat, k ≤ p.procs.length ∧ i = .int .i64 k ∧ nv = .int .i64 q ∧ q ≤ 20001 ∧ Hid (weighQs (p.procs.drop k) q = weighQs p.procs n0) ∧ Hid (Below W1.heap.size W1 wr)) (fun _ i _ => p.procs.length - (intOf i).toNat)
  case atStart => exact ⟨0, n0, Nat.zero_le _, rfl, rfl, hle0, Lib.hid (by rw [List.drop_zero]), Lib.hid (Below.refl _ _)⟩
  case round =>
    obtain ⟨k, q, hk, rfl, rfl, hq, HW, HR⟩ := hrel
    have HBr := Lib.hid (HBp.out.below HR.out hbl)
    have u1 : wr.cell? ⟨b, 1, none⟩ = some (.slice Ap p.procs.length cp) := by rw [HBr.out.cell]; rfl
    have hbr := HBr.out.lt
    by_cases hlt : k < p.procs.length
    · rw [weighQs_drop hlt] at HW
      by_cases hm2 : q ≤ 20000
      · rw [if_pos hm2] at HW
        generalize wr = wo at *
        have hIr : In Q w wo := HI1.out.on HR.out
        obtain ⟨a, Bp, kp, Bv, kv, Bb, kb, Be, ke, rfl, _, hrow, hnm, hpp, hvv, hbody, hee⟩ := proc_at HP.out hIr hlt
        generalize p.procs[k] = x at hrow hnm hpp hvv hbody hee HW
        obtain ⟨pn, pp, pv, pb, pe⟩ := x
        simp only at hrow hnm hpp hvv hbody hee
        obtain ⟨p0, p1, p2, p3, p4, _⟩ := hrow
        rw [weighQ] at HW
        simp only at HW
        have hle1 := weighT_le pn.size q (by omega)
        have HC1 : Hid (∀ V, Calls Try.prog 55 #[.string pn, .int .i64 q] V fun e' w' => e' = .returned (.int .i64 (weighT pn.size q : Nat)) ∧ V = w') := Lib.hid (fun V => weighText_any pn q V hnm (by omega))
        obtain ⟨q1, hq1⟩ : ∃ q1, q1 = weighT pn.size q := ⟨_, rfl⟩
        rw [← hq1] at HC1 HW hle1
        have hle2 := weighTs_le pv q1 hle1
        have HC2 : Hid (∀ V, In Q w V → Calls Try.prog 54 #[.slice Bv pv.length kv, .int .i64 q1] V fun e' w' => e' = .returned (.int .i64 (weighTs pv q1 : Nat)) ∧ V = w') := Lib.hid (fun V h1 => weighTexts_any hvv h1 q1 hle1)
        obtain ⟨q2, hq2⟩ : ∃ q2, q2 = weighTs pv q1 := ⟨_, rfl⟩
        rw [← hq2] at HC2 HW hle2
        have hle3 := weighTs_le pe q2 hle2
        have HC3 : Hid (∀ V, In Q w V → Calls Try.prog 54 #[.slice Be pe.length ke, .int .i64 q2] V fun e' w' => e' = .returned (.int .i64 (weighTs pe q2 : Nat)) ∧ V = w') := Lib.hid (fun V h1 => weighTexts_any hee h1 q2 hle2)
        obtain ⟨q3, hq3⟩ : ∃ q3, q3 = weighTs pe q2 := ⟨_, rfl⟩
        rw [← hq3] at HC3 HW hle3
        have HPp := Lib.hid hpp
        have HBd := Lib.hid hbody
        obtain ⟨_, hplc, hpc, _⟩ := slice_len hpp
        have HIr := Lib.hid hIr
        clear hq1 hq2 hq3 hnm hpp hvv hbody hee hIr
        go_wp2_with fail
        have HBx : Hid (Blk (wo.alloc (.cells #[.string pn, .slice Bp pp.length kp, .slice Bv pv.length kv, .slice Bb pb.length kb, .slice Be pe.length ke] 59)) wo.heap.size 59 #[.string pn, .slice Bp pp.length kp, .slice Bv pv.length kv, .slice Bb pb.length kb, .slice Be pe.length ke]) := Lib.hid (Blk.new _ _ _)
        have HB1 : Hid (Below wo.heap.size wo (wo.alloc (.cells #[.string pn, .slice Bp pp.length kp, .slice Bv pv.length kv, .slice Bb pb.length kb, .slice Be pe.length ke] 59))) := Lib.hid (below_box _)
        generalize World.alloc _ _ = W2 at HBx HB1 ⊢
        generalize wo.heap.size = b0 at HBx ⊢
        clear p0 p1 p2 p3 p4 u1
        have HI2 : Hid (In Q w W2) := Lib.hid (HIr.out.on HB1.out)
        have q0_ : W2.cell? ⟨b0, 0, none⟩ = some (.string pn) := by rw [HBx.out.cell]; rfl
        have q2_ : W2.cell? ⟨b0, 2, none⟩ = some (.slice Bv pv.length kv) := by rw [HBx.out.cell]; rfl
        have q4_ : W2.cell? ⟨b0, 4, none⟩ = some (.slice Be pe.length ke) := by rw [HBx.out.cell]; rfl
        have hbl2 := HBx.out.lt
        have hdr : ∀ V : World, In Q w V → In Q w V.drew := fun V h => h
        go_region_held3 (fun w' => w'.cell? ⟨b0, 0, none⟩ = some (.string pn) ∧ w'.cell? ⟨b0, 2, none⟩ = some (.slice Bv pv.length kv) ∧ w'.cell? ⟨b0, 4, none⟩ = some (.slice Be pe.length ke))
          (go_keep)
          (first
            | (go_at_call 55; refine (HC1.out _).mono ?_; rintro e w' ⟨rfl, rfl⟩)
            | (go_at_call 54; (with_reducible refine (HC2.out _ (hdr _ HI2.out)).mono ?_); rintro e w' ⟨rfl, rfl⟩)
            | (go_at_call 54; (with_reducible refine (HC3.out _ (hdr _ HI2.out)).mono ?_); rintro e w' ⟨rfl, rfl⟩))
        have HBx3 : Hid (Blk W2.drew b0 59 #[.string pn, .slice Bp pp.length kp, .slice Bv pv.length kv, .slice Bb pb.length kb, .slice Be pe.length ke]) := Lib.hid HBx.out
        have HB3 : Hid (Below wo.heap.size wo W2.drew) := Lib.hid (HB1.out.drew)
        have HI3 : Hid (In Q w W2.drew) := Lib.hid (hdr _ HI2.out)
        clear q0_ q2_ q4_ hbl2 hdr HBx HB1 HI2 HC1 HC2 HC3
        generalize W2.drew = W3 at HBx3 HB3 HI3 ⊢
        go_wp2_with fail
        go_loopw [3, 6] (fun nv i wr => ∃ k2 q5 : Nat, k2 ≤ pp.length ∧ i = .int .i64 k2 ∧ nv = .int .i64 q5 ∧ q5 ≤ 20001 ∧ Hid (weighPa (pp.drop k2) q5 = weighPa pp q3) ∧ Hid (Below W3.heap.size W3 wr)) (fun _ i _ => pp.length - (intOf i).toNat)
        case atStart => exact ⟨0, q3, Nat.zero_le _, rfl, rfl, hle3, Lib.hid (by rw [List.drop_zero]), Lib.hid (Below.refl _ _)⟩
        case round =>
          obtain ⟨k2, q5, hk2, rfl, rfl, hq5, HW2, HR2⟩ := hrel
          have HBx4 := Lib.hid (HBx3.out.below HR2.out HBx3.out.lt)
          have r1 : wr.cell? ⟨b0, 1, none⟩ = some (.slice Bp pp.length kp) := by rw [HBx4.out.cell]; rfl
          have r3 : wr.cell? ⟨b0, 3, none⟩ = some (.slice Bb pb.length kb) := by rw [HBx4.out.cell]; rfl
          have hbl4 := HBx4.out.lt
          have HI4 : Hid (In Q w wr) := Lib.hid (HI3.out.on HR2.out)
          by_cases hlt2 : k2 < pp.length
          · rw [weighPa_drop hlt2] at HW2
            by_cases hm3 : q5 ≤ 20000
            · rw [if_pos hm3] at HW2
              obtain ⟨a4, rfl, _, ⟨p0, p1, _⟩, hs⟩ := par_at HPp.out HI4.out hlt2
              have hle5 := weighT_le pp[k2].nm.size q5 hq5
              have HC1 : Hid (∀ V, Calls Try.prog 55 #[.string pp[k2].nm, .int .i64 q5] V fun e' w' => e' = .returned (.int .i64 (weighT pp[k2].nm.size q5 : Nat)) ∧ V = w') := Lib.hid (fun V => weighText_any pp[k2].nm q5 V hs (by omega))
              obtain ⟨q6, hq6⟩ : ∃ q6, q6 = weighT pp[k2].nm.size q5 := ⟨_, rfl⟩
              rw [← hq6] at HC1 HW2 hle5
              generalize pp[k2].nm = pnm at HC1 p0
              clear hq6 hs p1
              go_wp2_with (go_at_call 55; refine (HC1.out _).mono ?_; rintro e w' ⟨rfl, rfl⟩)
              go_roundw
              case rel => exact ⟨k2 + 1, q6, by omega, by go_num, rfl, hle5, HW2, HR2⟩
              case measure => simp [intOf]; omega
            · rw [if_neg hm3] at HW2
              rw [← HW2.out] at HW
              have hle7 := weighSL_le pb q5 hq5
              have HT1 : Hid (∀ V, In Q w V → Calls Try.prog 56 #[.slice Bb pb.length kb, .int .i64 q5] V (IntOk (weighSL pb q5 : Nat) V)) := Lib.hid (fun V h1 => weighStmts_any ((preSL pb).length + 1) pb (by omega) q5 HBd.out h1 hq5)
              obtain ⟨q8, hq8⟩ : ∃ q8, q8 = weighSL pb q5 := ⟨_, rfl⟩
              rw [← hq8] at HT1 HW hle7
              clear hq8
              go_wp2_with (go_at_call 56; refine (HT1.out _ HI4.out).mono ?_; rintro e w3 ⟨rfl, hb3⟩)
              go_roundw
              case rel => exact ⟨k + 1, q8, by omega, by go_num, rfl, hle7, HW, Lib.hid (below_step HR.out (below_step HB3.out (below_step HR2.out hb3)))⟩
              case measure => simp [intOf]; omega
          · have HW3 : Hid (q5 = weighPa pp q3) := Lib.hid (by
              have h1 := HW2.out
              rw [List.drop_of_length_le (by omega), weighPa] at h1
              exact h1)
            clear HW2
            have HW2 := HW3
            clear HW3
            rw [← HW2.out] at HW
            have hle7 := weighSL_le pb q5 hq5
            have HT1 : Hid (∀ V, In Q w V → Calls Try.prog 56 #[.slice Bb pb.length kb, .int .i64 q5] V (IntOk (weighSL pb q5 : Nat) V)) := Lib.hid (fun V h1 => weighStmts_any ((preSL pb).length + 1) pb (by omega) q5 HBd.out h1 hq5)
            obtain ⟨q8, hq8⟩ : ∃ q8, q8 = weighSL pb q5 := ⟨_, rfl⟩
            rw [← hq8] at HT1 HW hle7
            clear hq8
            go_wp2_with (go_at_call 56; refine (HT1.out _ HI4.out).mono ?_; rintro e w3 ⟨rfl, hb3⟩)
            go_roundw
            case rel => exact ⟨k + 1, q8, by omega, by go_num, rfl, hle7, HW, Lib.hid (below_step HR.out (below_step HB3.out (below_step HR2.out hb3)))⟩
            case measure => simp [intOf]; omega
      · rw [if_neg hm2] at HW
        go_wp2_with fail
        go_ret
        exact ⟨ret_bool (by rw [HF.out, ← HW.out, Bool.eq_iff_iff]; simp only [decide_eq_true_eq]; omega), HB0.out.trans (HR.out.mono HB0.out.size)⟩
    · have HN2 : Hid (weighQs p.procs n0 = q) := Lib.hid (by
        have h1 := HW.out
        rw [List.drop_of_length_le (by omega), weighQs] at h1
        exact h1.symm)
      go_wp2_with fail
      go_ret
      exact ⟨ret_bool (by rw [HF.out, HN2.out, Bool.eq_iff_iff]; simp only [decide_eq_true_eq]; omega), HB0.out.trans (HR.out.mono HB0.out.size)⟩
end Go.Proofs.Ytcocilpifdjibaa
namespace Go.Proofs.Ytcocilpifdjibaa
set_option linter.unusedVariables false
theorem weighT_eq {s n : Nat} (h : weighT s n ≤ 20000) : weighT s n = n + s + 1 := by
  unfold weighT at h ⊢
  split at h
  · omega
  · rename_i hn; rw [if_neg hn]; omega
mutual
theorem weighE_eq : ∀ (e : E) (n : Nat), weighE e n ≤ 20000 → weighE e n = n + wE e
  | .mk _ _ nm ks, n, h => by
    rw [weighE] at h ⊢
    have h1 := weighL_eq ks _ h
    have h2 := weighT_eq (s := nm.size) (n := n) (by omega)
    rw [wE]; omega
theorem weighL_eq : ∀ (ks : List E) (n : Nat), weighL ks n ≤ 20000 → weighL ks n = n + wL ks
  | [], n, h => by rw [weighL, wL]; omega
  | k :: ks, n, h => by
    rw [weighL] at h ⊢
    split at h
    · rename_i hn
      rw [if_pos hn]
      have h1 := weighL_eq ks _ h
      have h2 := weighE_eq k n (by omega)
      rw [wL]; omega
    · omega
end
theorem weighTs_eq : ∀ (l : List ByteArray) (n : Nat), weighTs l n ≤ 20000 → weighTs l n = n + wT l
  | [], n, h => by rw [weighTs, wT]; omega
  | s :: l, n, h => by
    rw [weighTs] at h ⊢
    split at h
    · rename_i hn
      rw [if_pos hn]
      have h1 := weighTs_eq l _ h
      have h2 := weighT_eq (s := s.size) (n := n) (by omega)
      rw [wT]; omega
    · omega
theorem weighAr_eq : ∀ (l : List Ar) (n : Nat), weighAr l n ≤ 20000 → weighAr l n = n + wAr l
  | [], n, h => by rw [weighAr, wAr]; omega
  | a :: l, n, h => by
    rw [weighAr] at h ⊢
    split at h
    · rename_i hn
      rw [if_pos hn]
      have h1 := weighAr_eq l _ h
      have h2 := weighT_eq (s := a.nm.size) (n := weighE a.x n) (by omega)
      have h3 := weighE_eq a.x n (by omega)
      rw [wAr]; omega
    · omega
mutual
theorem weighS_eq : ∀ (s : S) (n : Nat), weighS s n ≤ 20000 → weighS s n = n + wS s
  | .mk _ _ labels nm proc x _ args th el, n, h => by
    rw [weighS] at h ⊢
    have h1 := weighSL_eq el _ h
    have h2 := weighSL_eq th (weighAr args (weighT proc.size (weighT nm.size (weighTs labels (weighE x n))))) (by omega)
    have h3 := weighAr_eq args (weighT proc.size (weighT nm.size (weighTs labels (weighE x n)))) (by omega)
    have h4 := weighT_eq (s := proc.size) (n := weighT nm.size (weighTs labels (weighE x n))) (by omega)
    have h5 := weighT_eq (s := nm.size) (n := weighTs labels (weighE x n)) (by omega)
    have h6 := weighTs_eq labels _ (show weighTs labels (weighE x n) ≤ 20000 by omega)
    have h7 := weighE_eq x n (by omega)
    rw [wS]; omega
theorem weighSL_eq : ∀ (l : List S) (n : Nat), weighSL l n ≤ 20000 → weighSL l n = n + wSL l
  | [], n, h => by rw [weighSL, wSL]; omega
  | s :: l, n, h => by
    rw [weighSL] at h ⊢
    split at h
    · rename_i hn
      rw [if_pos hn]
      have h1 := weighSL_eq l _ h
      have h2 := weighS_eq s n (by omega)
      rw [wSL]; omega
    · omega
end
end Go.Proofs.Ytcocilpifdjibaa
