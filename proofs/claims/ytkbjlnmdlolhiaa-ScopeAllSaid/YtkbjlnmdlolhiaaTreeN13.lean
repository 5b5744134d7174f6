/- Equality of expressions: the contract of EqExpr (whittlerref3). Equality of statements: the contracts of eqOne and EqStmts (whittlerref3). Equality of statements: the contract of EqStmts (whittlerref3). -/
import Derived.Test.YtkbjlnmdlolhiaaTreeN17
import Derived.Test.YtkbjlnmdlolhiaaTreeHX
import Derived.Deep.RegionHeld3
import Derived.Test.YtkbjlnmdlolhiaaTreeN9
namespace Go.Proofs.Ytkbjlnmdlolhiaa
open Go.ChangeShapes Go.WideShapes Go.ChangeAt Go.RowKit Go.Deep
set_option linter.unusedVariables false

theorem eqB_false {α : Type} {a b : α} (h : a ≠ b) : eqB a b = false := eqB_ne h
theorem eqE_ne {op op' n n' : Int} {nm nm' : ByteArray} {ks ks' : List E} (h : ¬ (op = op' ∧ n = n' ∧ nm = nm' ∧ ks = ks')) : eqB (E.mk op n nm ks) (.mk op' n' nm' ks') = false :=
  eqB_ne (fun e => by injection e with e1 e2 e3 e4; exact h ⟨e1, e2, e3, e4⟩)
theorem blkTwo (W : World) (t u : TypeId) (cs ds : Array Value) : Blk ((W.alloc (.cells cs t)).alloc (.cells ds u)) W.heap.size t cs ∧ Blk ((W.alloc (.cells cs t)).alloc (.cells ds u)) (W.heap.size + 1) u ds :=
  ⟨(Blk.new _ _ _).alloc _, by have := Blk.new (W.alloc (.cells cs t)) u ds; simpa using this⟩
set_option maxHeartbeats 2000000 in
theorem EqExpr_any {w1 : World} {Q1 : Nat → Prop} {x : E} {cs : List Value} (h1 : ExprI w1 Q1 x cs) : ∀ {w2 : World} {Q2 : Nat → Prop} {y : E} {ds : List Value}, ExprI w2 Q2 y ds → ∀ (c0 c1 c2 c3 d0 d1 d2 d3 : Value), cs = [c0, c1, c2, c3] → ds = [d0, d1, d2, d3] →
    ∀ (W : World), In Q1 w1 W → In Q2 w2 W → Calls Try.prog 117 #[.agg #[c0, c1, c2, c3], .agg #[d0, d1, d2, d3]] W (MayOk (eqB x y) W) := by
  induction h1 with
  | @mk op n nm ks A cap css hop hn hnm hcap hA hk ih =>
    intro w2 Q2 y ds h2 c0 c1 c2 c3 d0 d1 d2 d3 hcs hds W hI1 hI2
    cases h2 with
    | @mk op' n' nm' ks' A' cap' css' hop' hn' hnm' hcap' hA' hk' =>
    simp only [List.cons.injEq, and_true] at hcs hds
    obtain ⟨rfl, rfl, rfl, rfl⟩ := hcs
    obtain ⟨rfl, rfl, rfl, rfl⟩ := hds
    have HA := Lib.hid hA
    have HK := Lib.hid hk
    have HA' := Lib.hid hA'
    have HK' := Lib.hid hk'
    have IH := Lib.hid @ih
    have HI1 := Lib.hid hI1
    have HI2 := Lib.hid hI2
    clear hA hk hA' hk' ih hI1 hI2
    by_cases e1 : op = op'
    · have g1 : (op != op') = false := by rw [e1]; simp
      by_cases e2 : n = n'
      · have g2 : (n != n') = false := by rw [e2]; simp
        by_cases e3 : nm = nm'
        · have g3 : (nm.toList == nm'.toList) = true := by rw [e3]; simp
          by_cases e4 : ks.length = ks'.length
          · have g4 : (((ks.length : Nat) : Int) != ((ks'.length : Nat) : Int)) = false := by rw [e4]; simp
            have HE : Hid (eqB (E.mk op n nm ks) (.mk op' n' nm' ks') = eqB ks ks') := Lib.hid (by rw [Bool.eq_iff_iff, eqB_iff, eqB_iff, E.mk.injEq]; simp [e1, e2, e3])
            have e4' : ks'.length ≤ ks.length := by omega
            have e4'' : ks.length ≤ ks'.length := by omega
            clear e1 e2 e3 e4
            go_enter Try.func117, Try.ntmps117
            go_wp2_with fail
            have HBx := Lib.hid (blkTwo W 38 38 #[.int .i64 op, .int .i64 n, .string nm, .slice A ks.length cap] #[.int .i64 op', .int .i64 n', .string nm', .slice A' ks'.length cap']).1
            have HBy := Lib.hid (blkTwo W 38 38 #[.int .i64 op, .int .i64 n, .string nm, .slice A ks.length cap] #[.int .i64 op', .int .i64 n', .string nm', .slice A' ks'.length cap']).2
            have HB0 : Hid (Below W.heap.size W ((W.alloc (.cells #[.int .i64 op, .int .i64 n, .string nm, .slice A ks.length cap] 38)).alloc (.cells #[.int .i64 op', .int .i64 n', .string nm', .slice A' ks'.length cap'] 38))) := Lib.hid (below_two _ _)
            generalize World.alloc _ _ = W1 at HBx HBy HB0 ⊢
            generalize hb2 : W.heap.size + 1 = b2 at HBy ⊢
            generalize hb1 : W.heap.size = b at HBx ⊢
            clear hb1 hb2 g1 g2 g3 g4
            go_loopw [37] (fun i wr => ∃ k : Nat, k ≤ ks.length ∧ i = .int .i64 k ∧ Hid (ks.take k = ks'.take k) ∧ Hid (Below W1.heap.size W1 wr)) (fun i _ => ks.length - (intOf i).toNat)
            case atStart => exact ⟨0, Nat.zero_le _, rfl, Lib.hid rfl, Lib.hid (Below.refl _ _)⟩
            case round =>
              obtain ⟨k, hk, rfl, HT, HR⟩ := hrel
              by_cases hlt : k < ks.length
              · have hlt' : k < ks'.length := by omega
                have hI1r : In Q1 w1 wr := HI1.out.on (below_step HB0.out HR.out)
                have hI2r : In Q2 w2 wr := HI2.out.on (below_step HB0.out HR.out)
                obtain ⟨a, o1, n1, s1, A1, l1, k1, rfl, hd, p0, p1, p2, p3⟩ := kid_at HA.out HK.out hI1r hlt
                obtain ⟨a', o1', n1', s1', A1', l1', k1', rfl, hd', p0', p1', p2', p3'⟩ := kid_at HA'.out HK'.out hI2r hlt'
                have HC := Lib.hid (fun V h1 h2 => IH.out k hlt (HK'.out k hlt') _ _ _ _ _ _ _ _ hd hd' V h1 h2)
                have HI1r := Lib.hid hI1r
                have HI2r := Lib.hid hI2r
                have HBxr := Lib.hid (HBx.out.below HR.out HBx.out.lt)
                have HByr := Lib.hid (HBy.out.below HR.out HBy.out.lt)
                have q3 : wr.cell? ⟨b, 3, none⟩ = some (.slice (some a) ks.length cap) := by rw [HBxr.out.cell]; rfl
                have r3 : wr.cell? ⟨b2, 3, none⟩ = some (.slice (some a') ks'.length cap') := by rw [HByr.out.cell]; rfl
                have hbl := HBxr.out.lt
                have hbl2 := HByr.out.lt
                have hab : (a.add (k * 4)).block < wr.heap.size := World.block_lt_of_cell? _ _ p0
                have hab' : (a'.add (k * 4)).block < wr.heap.size := World.block_lt_of_cell? _ _ p0'
                obtain ⟨v, hv⟩ : ∃ v, v = eqB ks[k] ks'[k] := ⟨_, rfl⟩
                rw [← hv] at HC
                have HV := Lib.hid hv
                have hdr : ∀ {Q : Nat → Prop} {w V : World}, In Q w V → In Q w V.drew := fun h => h
                clear hd hd' hI1r hI2r hv
                go_wp2_with fail
                go_region_held3 (fun w' => w'.cell? ⟨b, 3, none⟩ = some (.slice (some a) ks.length cap) ∧ w'.cell? ⟨b2, 3, none⟩ = some (.slice (some a') ks'.length cap') ∧ w'.cell? (a.add (k * 4)) = some (.int .i64 o1) ∧ w'.cell? ⟨(a.add (k * 4)).block, (a.add (k * 4)).off + 1, none⟩ = some (.int .i64 n1) ∧ w'.cell? ⟨(a.add (k * 4)).block, (a.add (k * 4)).off + 2, none⟩ = some (.string s1) ∧ w'.cell? ⟨(a.add (k * 4)).block, (a.add (k * 4)).off + 3, none⟩ = some (.slice A1 l1 k1) ∧ w'.cell? (a'.add (k * 4)) = some (.int .i64 o1') ∧ w'.cell? ⟨(a'.add (k * 4)).block, (a'.add (k * 4)).off + 1, none⟩ = some (.int .i64 n1') ∧ w'.cell? ⟨(a'.add (k * 4)).block, (a'.add (k * 4)).off + 2, none⟩ = some (.string s1') ∧ w'.cell? ⟨(a'.add (k * 4)).block, (a'.add (k * 4)).off + 3, none⟩ = some (.slice A1' l1' k1'))
                  (go_keep)
                  ((go_at_call 117; refine (HC.out _ (hdr HI1r.out) (hdr HI2r.out)).mono ?_; rintro e w3 ⟨rfl, hb3⟩; have hb3' : Below wr.heap.size wr w3 := (show Below wr.heap.size wr wr.drew from (Below.refl _ _).drew).trans hb3; have hc3 := (bcell hb3').1; have s0 := (hb3'.cell hab).trans p0; have s0' := (hb3'.cell hab').trans p0'))
                cases v with
                | true =>
                  go_wp2_with fail
                  go_roundw
                  case rel => exact ⟨k + 1, by omega, by go_num, Lib.hid (take_eq_step hlt hlt' HT.out (eqB_iff.1 HV.out.symm)), Lib.hid (below_step HR.out hb3')⟩
                  case measure => simp [intOf]; omega
                | false =>
                  have HN : Hid (eqB ks ks' = false) := Lib.hid (eqB_ne (ne_of_at hlt hlt' (fun e => by rw [e, eqB_self] at HV; exact absurd HV.out (by simp))))
                  go_wp2_with fail
                  go_ret
                  exact ⟨ret_bool (by rw [HE.out, HN.out]), below_step HB0.out (below_step HR.out hb3')⟩
              · have HN : Hid (eqB ks ks' = true) := Lib.hid (eqB_iff.2 (by have := HT.out; rw [List.take_of_length_le (by omega), List.take_of_length_le (by omega)] at this; exact this))
                go_wp2_with fail
                go_ret
                exact ⟨ret_bool (by rw [HE.out, HN.out]), below_step HB0.out HR.out⟩
          · have HE := Lib.hid (eqE_ne (op := op) (op' := op') (nm := nm) (nm' := nm') (ks := ks) (ks' := ks') (n := n) (n' := n') (fun h => e4 (by rw [h.2.2.2])))
            have g4 : (((ks.length : Nat) : Int) != ((ks'.length : Nat) : Int)) = true := bne_iff_ne.2 (fun h => e4 (by omega))
            clear e1 e2 e3 e4
            go_enter Try.func117, Try.ntmps117
            go_wp2_with fail
            go_ret
            exact ⟨ret_bool HE.out.symm, below_two _ _⟩
        · have HE := Lib.hid (eqE_ne (op := op) (op' := op') (nm := nm) (nm' := nm') (ks := ks) (ks' := ks') (n := n) (n' := n') (fun h => e3 h.2.2.1))
          have g3 : (nm.toList == nm'.toList) = false := by rw [dec_bytes]; exact decide_eq_false e3
          clear e1 e2 e3
          go_enter Try.func117, Try.ntmps117
          go_wp2_with fail
          go_ret
          exact ⟨ret_bool HE.out.symm, below_two _ _⟩
      · have HE := Lib.hid (eqE_ne (op := op) (op' := op') (nm := nm) (nm' := nm') (ks := ks) (ks' := ks') (n := n) (n' := n') (fun h => e2 h.2.1))
        have g2 : (n != n') = true := by simpa using e2
        clear e1 e2
        go_enter Try.func117, Try.ntmps117
        go_wp2_with fail
        go_ret
        exact ⟨ret_bool HE.out.symm, below_two _ _⟩
    · have g1 : (op != op') = true := by simpa using e1
      have HE := Lib.hid (eqE_ne (nm := nm) (nm' := nm') (ks := ks) (ks' := ks') (n := n) (n' := n') (fun h => e1 h.1))
      clear e1
      go_enter Try.func117, Try.ntmps117
      go_wp2_with fail
      go_ret
      exact ⟨ret_bool HE.out.symm, below_two _ _⟩
end Go.Proofs.Ytkbjlnmdlolhiaa
namespace Go.Proofs.Ytkbjlnmdlolhiaa
open Go.ChangeShapes Go.WideShapes Go.ChangeAt Go.RowKit Go.Deep
set_option linter.unusedVariables false

theorem bne_t {a b : Int} (h : a ≠ b) : (a != b) = true := bne_iff_ne.2 h
theorem bne_f {a b : Int} (h : a = b) : (a != b) = false := by rw [h]; simp
theorem toL_t {a b : ByteArray} (h : a = b) : (a.toList == b.toList) = true := by rw [h]; simp
theorem toL_f {a b : ByteArray} (h : a ≠ b) : (a.toList == b.toList) = false := by rw [dec_bytes]; exact decide_eq_false h
theorem bb_t {a b : Bool} (h : a ≠ b) : (a != b) = true := bne_iff_ne.2 h
theorem bb_f {a b : Bool} (h : a = b) : (a != b) = false := by rw [h]; simp
theorem len_t {a b : Nat} (h : a ≠ b) : (((a : Nat) : Int) != ((b : Nat) : Int)) = true := bne_iff_ne.2 (fun e => h (by omega))
theorem len_f {a b : Nat} (h : a = b) : (((a : Nat) : Int) != ((b : Nat) : Int)) = false := by rw [h]; simp
/-- two worlds' rows hold the same calls -/
def EqC (v v' : Value) (b : Bool) (Q1 Q2 : Nat → Prop) (w1 w2 : World) : Prop := ∀ V, In Q1 w1 V → In Q2 w2 V → Calls Try.prog 26 #[v, v'] V (MayOk b V)
theorem eqS_iff {s s' : S} : s = s' ↔ s.id = s'.id ∧ s.kind = s'.kind ∧ s.nm = s'.nm ∧ s.proc = s'.proc ∧ s.has = s'.has ∧ s.labels = s'.labels ∧ s.x = s'.x ∧ s.args.length = s'.args.length ∧ s.args = s'.args ∧ s.th = s'.th ∧ s.el = s'.el := by
  cases s; cases s'
  simp only [S.mk.injEq, S.id, S.kind, S.nm, S.proc, S.has, S.labels, S.x, S.args, S.th, S.el]
  constructor
  · rintro ⟨rfl, rfl, rfl, rfl, rfl, rfl, rfl, rfl, rfl, rfl⟩; simp
  · rintro ⟨rfl, rfl, rfl, rfl, rfl, rfl, rfl, _, rfl, rfl, rfl⟩; simp
theorem eqA_iff {a a' : Ar} : a = a' ↔ a.ref = a'.ref ∧ a.nm = a'.nm ∧ a.x = a'.x := by
  cases a; cases a'; simp [Ar.mk.injEq]
set_option maxHeartbeats 8000000 in
set_option maxRecDepth 100000 in
theorem eqOne_any {w1 w2 : World} {Q1 Q2 : Nat → Prop} {id kind : Int} {labels : List ByteArray} {nm proc : ByteArray} {x : E} {has : Bool} {args : List Ar} {th el : List S} {L : Option Addr} {lc : Nat} {x0 x1 : Int} {x2 : ByteArray} {X : Option Addr} {xn xc : Nat} {R : Option Addr} {rc : Nat} {T : Option Addr} {tc : Nat} {U : Option Addr} {uc : Nat}
    {id' kind' : Int} {labels' : List ByteArray} {nm' proc' : ByteArray} {x' : E} {has' : Bool} {args' : List Ar} {th' el' : List S} {L' : Option Addr} {lc' : Nat} {x0' x1' : Int} {x2' : ByteArray} {X' : Option Addr} {xn' xc' : Nat} {R' : Option Addr} {rc' : Nat} {T' : Option Addr} {tc' : Nat} {U' : Option Addr} {uc' : Nat}
    (hl : TextsI w1 Q1 labels (.slice L labels.length lc)) (hx : ExprI w1 Q1 x [.int .i64 x0, .int .i64 x1, .string x2, .slice X xn xc]) (ha : SliceI w1 Q1 6 (ArgI w1 Q1) args (.slice R args.length rc))
    (hl' : TextsI w2 Q2 labels' (.slice L' labels'.length lc')) (hx' : ExprI w2 Q2 x' [.int .i64 x0', .int .i64 x1', .string x2', .slice X' xn' xc']) (ha' : SliceI w2 Q2 6 (ArgI w2 Q2) args' (.slice R' args'.length rc'))
    (ht : EqC (.slice T th.length tc) (.slice T' th'.length tc') (eqB th th') Q1 Q2 w1 w2) (he : EqC (.slice U el.length uc) (.slice U' el'.length uc') (eqB el el') Q1 Q2 w1 w2) (W : World) (hI1 : In Q1 w1 W) (hI2 : In Q2 w2 W) :
    Calls Try.prog 69 #[.agg #[.int .i64 id, .int .i64 kind, .slice L labels.length lc, .string nm, .string proc, .int .i64 x0, .int .i64 x1, .string x2, .slice X xn xc, .bool has, .slice R args.length rc, .slice T th.length tc, .slice U el.length uc], .agg #[.int .i64 id', .int .i64 kind', .slice L' labels'.length lc', .string nm', .string proc', .int .i64 x0', .int .i64 x1', .string x2', .slice X' xn' xc', .bool has', .slice R' args'.length rc', .slice T' th'.length tc', .slice U' el'.length uc']] W (MayOk (eqB (S.mk id kind labels nm proc x has args th el) (.mk id' kind' labels' nm' proc' x' has' args' th' el')) W) := by
  have HL : Hid (∀ V, In Q1 w1 V → In Q2 w2 V → Calls Try.prog 38 #[.slice L labels.length lc, .slice L' labels'.length lc'] V (MayOk (decide (labels = labels')) V)) := Lib.hid (fun V h1 h2 => EqTexts_any hl hl' h1 h2)
  have HX : Hid (∀ V, In Q1 w1 V → In Q2 w2 V → Calls Try.prog 117 #[.agg #[.int .i64 x0, .int .i64 x1, .string x2, .slice X xn xc], .agg #[.int .i64 x0', .int .i64 x1', .string x2', .slice X' xn' xc']] V (MayOk (eqB x x') V)) := Lib.hid (fun V h1 h2 => EqExpr_any hx hx' _ _ _ _ _ _ _ _ rfl rfl V h1 h2)
  have HA := Lib.hid ha
  have HA' := Lib.hid ha'
  obtain ⟨_, halc, hac, _⟩ := slice_len ha
  obtain ⟨_, halc', hac', _⟩ := slice_len ha'
  have HT := Lib.hid ht
  have HE := Lib.hid he
  have HI1 := Lib.hid hI1
  have HI2 := Lib.hid hI2
  have HNe : Hid (∀ {p : Prop}, ¬ p → (S.mk id kind labels nm proc x has args th el = .mk id' kind' labels' nm' proc' x' has' args' th' el' → p) → eqB (S.mk id kind labels nm proc x has args th el) (.mk id' kind' labels' nm' proc' x' has' args' th' el') = false) := Lib.hid (fun h1 h2 => eqB_ne (fun e => h1 (h2 e)))
  have HBx := Lib.hid (blkTwo W 42 42 #[.int .i64 id, .int .i64 kind, .slice L labels.length lc, .string nm, .string proc, .int .i64 x0, .int .i64 x1, .string x2, .slice X xn xc, .bool has, .slice R args.length rc, .slice T th.length tc, .slice U el.length uc] #[.int .i64 id', .int .i64 kind', .slice L' labels'.length lc', .string nm', .string proc', .int .i64 x0', .int .i64 x1', .string x2', .slice X' xn' xc', .bool has', .slice R' args'.length rc', .slice T' th'.length tc', .slice U' el'.length uc']).1
  have HBy := Lib.hid (blkTwo W 42 42 #[.int .i64 id, .int .i64 kind, .slice L labels.length lc, .string nm, .string proc, .int .i64 x0, .int .i64 x1, .string x2, .slice X xn xc, .bool has, .slice R args.length rc, .slice T th.length tc, .slice U el.length uc] #[.int .i64 id', .int .i64 kind', .slice L' labels'.length lc', .string nm', .string proc', .int .i64 x0', .int .i64 x1', .string x2', .slice X' xn' xc', .bool has', .slice R' args'.length rc', .slice T' th'.length tc', .slice U' el'.length uc']).2
  have HB0 : Hid (Below W.heap.size W ((W.alloc (.cells #[.int .i64 id, .int .i64 kind, .slice L labels.length lc, .string nm, .string proc, .int .i64 x0, .int .i64 x1, .string x2, .slice X xn xc, .bool has, .slice R args.length rc, .slice T th.length tc, .slice U el.length uc] 42)).alloc (.cells #[.int .i64 id', .int .i64 kind', .slice L' labels'.length lc', .string nm', .string proc', .int .i64 x0', .int .i64 x1', .string x2', .slice X' xn' xc', .bool has', .slice R' args'.length rc', .slice T' th'.length tc', .slice U' el'.length uc'] 42))) := Lib.hid (below_two _ _)
  clear hl hx ha hl' hx' ha' ht he hI1 hI2
  go_enter Try.func69, Try.ntmps69
  go_upto_region 1 with fail
  generalize World.alloc _ _ = W1 at HBx HBy HB0 ⊢
  generalize hb2 : W.heap.size + 1 = b2 at HBy ⊢
  generalize hb1 : W.heap.size = b at HBx ⊢
  clear hb1 hb2
  have HI1a := Lib.hid (HI1.out.on HB0.out)
  have HI2a := Lib.hid (HI2.out.on HB0.out)
  clear HI1 HI2
  have hbl := HBx.out.lt
  have hbl2 := HBy.out.lt
  have q0 : W1.cell? ⟨b, 0, none⟩ = some (.int .i64 id) := by rw [HBx.out.cell]; rfl
  have q1 : W1.cell? ⟨b, 1, none⟩ = some (.int .i64 kind) := by rw [HBx.out.cell]; rfl
  have q2 : W1.cell? ⟨b, 2, none⟩ = some (.slice L labels.length lc) := by rw [HBx.out.cell]; rfl
  have q3 : W1.cell? ⟨b, 3, none⟩ = some (.string nm) := by rw [HBx.out.cell]; rfl
  have q4 : W1.cell? ⟨b, 4, none⟩ = some (.string proc) := by rw [HBx.out.cell]; rfl
  have q5 : W1.cell? ⟨b, 5, none⟩ = some (.int .i64 x0) := by rw [HBx.out.cell]; rfl
  have q6 : W1.cell? ⟨b, 6, none⟩ = some (.int .i64 x1) := by rw [HBx.out.cell]; rfl
  have q7 : W1.cell? ⟨b, 7, none⟩ = some (.string x2) := by rw [HBx.out.cell]; rfl
  have q8 : W1.cell? ⟨b, 8, none⟩ = some (.slice X xn xc) := by rw [HBx.out.cell]; rfl
  have q9 : W1.cell? ⟨b, 9, none⟩ = some (.bool has) := by rw [HBx.out.cell]; rfl
  have q10 : W1.cell? ⟨b, 10, none⟩ = some (.slice R args.length rc) := by rw [HBx.out.cell]; rfl
  have r0 : W1.cell? ⟨b2, 0, none⟩ = some (.int .i64 id') := by rw [HBy.out.cell]; rfl
  have r1 : W1.cell? ⟨b2, 1, none⟩ = some (.int .i64 kind') := by rw [HBy.out.cell]; rfl
  have r2 : W1.cell? ⟨b2, 2, none⟩ = some (.slice L' labels'.length lc') := by rw [HBy.out.cell]; rfl
  have r3 : W1.cell? ⟨b2, 3, none⟩ = some (.string nm') := by rw [HBy.out.cell]; rfl
  have r4 : W1.cell? ⟨b2, 4, none⟩ = some (.string proc') := by rw [HBy.out.cell]; rfl
  have r5 : W1.cell? ⟨b2, 5, none⟩ = some (.int .i64 x0') := by rw [HBy.out.cell]; rfl
  have r6 : W1.cell? ⟨b2, 6, none⟩ = some (.int .i64 x1') := by rw [HBy.out.cell]; rfl
  have r7 : W1.cell? ⟨b2, 7, none⟩ = some (.string x2') := by rw [HBy.out.cell]; rfl
  have r8 : W1.cell? ⟨b2, 8, none⟩ = some (.slice X' xn' xc') := by rw [HBy.out.cell]; rfl
  have r9 : W1.cell? ⟨b2, 9, none⟩ = some (.bool has') := by rw [HBy.out.cell]; rfl
  have r10 : W1.cell? ⟨b2, 10, none⟩ = some (.slice R' args'.length rc') := by rw [HBy.out.cell]; rfl
  by_cases e1 : id = id'
  · have g1 := bne_f e1
    by_cases e2 : kind = kind'
    · have g2 := bne_f e2
      by_cases e3 : nm = nm'
      · have g3 := toL_t e3
        by_cases e4 : proc = proc'
        · have g4 := toL_t e4
          by_cases e5 : has = has'
          · have g5 := e5
            by_cases e6 : labels = labels'
            · rw [decide_eq_true e6] at HL
              by_cases e7 : x = x'
              · rw [show eqB x x' = true from eqB_iff.2 e7] at HX
                by_cases e8 : args.length = args'.length
                · have g8 := len_f e8
                  have HEq : Hid (args = args' → eqB (S.mk id kind labels nm proc x has args th el) (.mk id' kind' labels' nm' proc' x' has' args' th' el') = (eqB th th' && eqB el el')) := Lib.hid (fun ha => by rw [Bool.eq_iff_iff, Bool.and_eq_true, eqB_iff, eqB_iff, eqB_iff, S.mk.injEq]; simp [e1, e2, e3, e4, e5, e6, e7, ha])
                  have e8a : args.length ≤ args'.length := by omega
                  have e8b : args'.length ≤ args.length := by omega
                  clear e1 e2 e3 e4 e6 e7 e8 HNe
                  go_upto_region 3 with (first
                    | (go_at_call 38; refine (HL.out _ HI1a.out HI2a.out).mono ?_; rintro e w3 ⟨rfl, hb3⟩; have hc3 := (bcell hb3).1; have hl3 := Nat.lt_of_lt_of_le hbl hb3.size; have hl3b := Nat.lt_of_lt_of_le hbl2 hb3.size; have HI1b := Lib.hid (HI1a.out.on hb3); have HI2b := Lib.hid (HI2a.out.on hb3))
                    | (go_at_call 117; refine (HX.out _ HI1b.out HI2b.out).mono ?_; rintro e w4 ⟨rfl, hb4⟩; have hc4 := (bcell hb4).1; have hl4 := Nat.lt_of_lt_of_le hl3 hb4.size; have hl4b := Nat.lt_of_lt_of_le hl3b hb4.size))
                  have HB4 : Hid (Below W.heap.size W w4) := Lib.hid (below_step HB0.out (below_step hb3 hb4))
                  have HBx4 := Lib.hid ((HBx.out.below hb3 hbl).below hb4 hl3)
                  have HBy4 := Lib.hid ((HBy.out.below hb3 hbl2).below hb4 hl3b)
                  have HI1c := Lib.hid (HI1b.out.on hb4)
                  have HI2c := Lib.hid (HI2b.out.on hb4)
                  clear hb3 hb4 hc3 hc4 hl3 hl3b hl4 hl4b HI1b HI2b HI1a HI2a HBx HBy HL HX q0 r0 q1 r1 q2 r2 q3 r3 q4 r4 q5 r5 q6 r6 q7 r7 q8 r8 q9 r9 q10 r10 g1 g2 g3 g4 g5 g8 e5 hbl hbl2 HB0
                  have q10 : w4.cell? ⟨b, 10, none⟩ = some (.slice R args.length rc) := by rw [HBx4.out.cell]; rfl
                  have hbl := HBx4.out.lt
                  go_wp2_with fail
                  clear q10 hbl
                  go_loopw [67] (fun i wr => ∃ k : Nat, k ≤ args.length ∧ i = .int .i64 k ∧ Hid (args.take k = args'.take k) ∧ Hid (Below w4.heap.size w4 wr)) (fun i _ => args.length - (intOf i).toNat)
                  case atStart => exact ⟨0, Nat.zero_le _, rfl, Lib.hid rfl, Lib.hid (Below.refl _ _)⟩
                  case round =>
                    obtain ⟨k, hk, rfl, HTk, HR⟩ := hrel
                    have HBx5 := Lib.hid (HBx4.out.below HR.out HBx4.out.lt)
                    have HBy5 := Lib.hid (HBy4.out.below HR.out HBy4.out.lt)
                    have HI1r := Lib.hid (HI1c.out.on HR.out)
                    have HI2r := Lib.hid (HI2c.out.on HR.out)
                    have hbl := HBx5.out.lt
                    have hbl2 := HBy5.out.lt
                    by_cases hlt : k < args.length
                    · have hlt' : k < args'.length := by omega
                      obtain ⟨a, o1, n1, s1, A1, l1, k1, rfl, hqa, ⟨p0, p1, p2, p3, p4, p5, _⟩, hs, hx⟩ := arg_at HA.out HI1r.out hlt
                      obtain ⟨a', o1', n1', s1', A1', l1', k1', rfl, hqa', ⟨p0', p1', p2', p3', p4', p5', _⟩, hs', hx'⟩ := arg_at HA'.out HI2r.out hlt'
                      have HC := Lib.hid (fun V h1 h2 => EqExpr_any hx hx' _ _ _ _ _ _ _ _ rfl rfl V h1 h2)
                      have q10 : wr.cell? ⟨b, 10, none⟩ = some (.slice (some a) args.length rc) := by rw [HBx5.out.cell]; rfl
                      have r10 : wr.cell? ⟨b2, 10, none⟩ = some (.slice (some a') args'.length rc') := by rw [HBy5.out.cell]; rfl
                      have hab : (a.add (k * 6)).block < wr.heap.size := World.block_lt_of_cell? _ _ p0
                      have hab' : (a'.add (k * 6)).block < wr.heap.size := World.block_lt_of_cell? _ _ p0'
                      have HAi := Lib.hid (eqA_iff (a := args[k]) (a' := args'[k]))
                      have hdr : ∀ {Q : Nat → Prop} {w V : World}, In Q w V → In Q w V.drew := fun h => h
                      obtain ⟨y, hy⟩ : ∃ y, y = args[k] := ⟨_, rfl⟩
                      obtain ⟨y', hy'⟩ : ∃ y', y' = args'[k] := ⟨_, rfl⟩
                      rw [← hy] at p0 p1 HC HAi
                      rw [← hy'] at p0' p1' HC HAi
                      have HNa : Hid (y ≠ y' → eqB (S.mk id kind labels nm proc x has args th el) (.mk id' kind' labels' nm' proc' x' has' args' th' el') = false) := Lib.hid (fun h => eqB_ne (fun e => by have e := eqS_iff.1 e; exact ne_of_at hlt hlt' (by rw [← hy, ← hy']; exact h) e.2.2.2.2.2.2.2.2.1))
                      have HYe : Hid (y = y' → args.take (k + 1) = args'.take (k + 1)) := Lib.hid (fun h => take_eq_step hlt hlt' HTk.out (by rw [← hy, ← hy']; exact h))
                      clear hy hy' hs hs' hx hx' hqa hqa'
                      obtain ⟨yr, yn, yx⟩ := y
                      obtain ⟨yr', yn', yx'⟩ := y'
                      simp only at p0 p1 p0' p1' HC HAi
                      by_cases f1 : yr = yr'
                      · have g1 := f1
                        by_cases f2 : yn = yn'
                        · have g2 := toL_t f2
                          obtain ⟨v, hv⟩ : ∃ v, v = eqB yx yx' := ⟨_, rfl⟩
                          rw [← hv] at HC
                          have HV : Hid (v = eqB yx yx') := Lib.hid hv
                          have HF : Hid (yr = yr' ∧ yn = yn') := Lib.hid ⟨f1, f2⟩
                          clear hv f2
                          go_wp2_with fail
                          go_region_held3 (fun w' => w'.cell? ⟨b, 10, none⟩ = some (.slice (some a) args.length rc) ∧ w'.cell? ⟨b2, 10, none⟩ = some (.slice (some a') args'.length rc') ∧ w'.cell? (a.add (k * 6)) = some (.bool yr) ∧ w'.cell? ⟨(a.add (k * 6)).block, (a.add (k * 6)).off + 1, none⟩ = some (.string yn) ∧ w'.cell? ⟨(a.add (k * 6)).block, (a.add (k * 6)).off + 2, none⟩ = some (.int .i64 o1) ∧ w'.cell? ⟨(a.add (k * 6)).block, (a.add (k * 6)).off + 3, none⟩ = some (.int .i64 n1) ∧ w'.cell? ⟨(a.add (k * 6)).block, (a.add (k * 6)).off + 4, none⟩ = some (.string s1) ∧ w'.cell? ⟨(a.add (k * 6)).block, (a.add (k * 6)).off + 5, none⟩ = some (.slice A1 l1 k1) ∧ w'.cell? (a'.add (k * 6)) = some (.bool yr') ∧ w'.cell? ⟨(a'.add (k * 6)).block, (a'.add (k * 6)).off + 1, none⟩ = some (.string yn') ∧ w'.cell? ⟨(a'.add (k * 6)).block, (a'.add (k * 6)).off + 2, none⟩ = some (.int .i64 o1') ∧ w'.cell? ⟨(a'.add (k * 6)).block, (a'.add (k * 6)).off + 3, none⟩ = some (.int .i64 n1') ∧ w'.cell? ⟨(a'.add (k * 6)).block, (a'.add (k * 6)).off + 4, none⟩ = some (.string s1') ∧ w'.cell? ⟨(a'.add (k * 6)).block, (a'.add (k * 6)).off + 5, none⟩ = some (.slice A1' l1' k1'))
                            (go_keep)
                            ((go_at_call 117; refine (HC.out _ (hdr HI1r.out) (hdr HI2r.out)).mono ?_; rintro e w5 ⟨rfl, hb5⟩; have hb5' : Below wr.heap.size wr w5 := (show Below wr.heap.size wr wr.drew from (Below.refl _ _).drew).trans hb5; have hc5 := (bcell hb5').1; have t0 := (hb5'.cell hab).trans p0; have t0' := (hb5'.cell hab').trans p0'))
                          cases v with
                          | true =>
                            go_wp2_with fail
                            go_roundw
                            case rel => exact ⟨k + 1, by omega, by go_num, Lib.hid (HYe.out (HAi.out.2 ⟨HF.out.1, HF.out.2, eqB_iff.1 HV.out.symm⟩)), Lib.hid (below_step HR.out hb5')⟩
                            case measure => simp [intOf]; omega
                          | false =>
                            have HN := Lib.hid (HNa.out (fun e => by have h := (HAi.out.1 e).2.2; rw [h, eqB_self] at HV; exact absurd HV.out (by simp)))
                            go_wp2_with fail
                            go_ret
                            exact ⟨ret_bool HN.out.symm, below_step HB4.out (below_step HR.out hb5')⟩
                        · have g2 := toL_f f2
                          have HN := Lib.hid (HNa.out (fun e => f2 (HAi.out.1 e).2.1))
                          clear f2
                          go_wp2_with fail
                          go_quiet (fail)
                          go_wp2_with fail
                          go_ret
                          exact ⟨ret_bool HN.out.symm, below_drewN (below_step HB4.out HR.out) _⟩
                      · have HN := Lib.hid (HNa.out (fun e => f1 (HAi.out.1 e).1))
                        have HF1 := Lib.hid f1
                        clear f1 HNa HYe HAi HC
                        cases yr <;> cases yr'
                        · exact absurd rfl HF1.out
                        · go_wp2_with fail
                          go_quiet (fail)
                          go_wp2_with fail
                          go_ret
                          exact ⟨ret_bool HN.out.symm, below_drewN (below_step HB4.out HR.out) _⟩
                        · go_wp2_with fail
                          go_quiet (fail)
                          go_wp2_with fail
                          go_ret
                          exact ⟨ret_bool HN.out.symm, below_drewN (below_step HB4.out HR.out) _⟩
                        · exact absurd rfl HF1.out
                    · have HAA : Hid (args = args') := Lib.hid (by have := HTk.out; rw [List.take_of_length_le (by omega), List.take_of_length_le (by omega)] at this; exact this)
                      have HEE : Hid (eqB (S.mk id kind labels nm proc x has args th el) (.mk id' kind' labels' nm' proc' x' has' args' th' el') = (eqB th th' && eqB el el')) := Lib.hid (HEq.out HAA.out)
                      have q11 : wr.cell? ⟨b, 11, none⟩ = some (.slice T th.length tc) := by rw [HBx5.out.cell]; rfl
                      have q12 : wr.cell? ⟨b, 12, none⟩ = some (.slice U el.length uc) := by rw [HBx5.out.cell]; rfl
                      have r11 : wr.cell? ⟨b2, 11, none⟩ = some (.slice T' th'.length tc') := by rw [HBy5.out.cell]; rfl
                      have r12 : wr.cell? ⟨b2, 12, none⟩ = some (.slice U' el'.length uc') := by rw [HBy5.out.cell]; rfl
                      have HT2 : Hid (Calls Try.prog 26 #[.slice T th.length tc, .slice T' th'.length tc'] wr (MayOk (eqB th th') wr)) := Lib.hid (HT.out wr HI1r.out HI2r.out)
                      cases hv : eqB th th' with
                      | false =>
                        rw [hv] at HT2 HEE
                        clear hv
                        go_wp2_with (go_at_call 26; (with_reducible refine HT2.out.mono ?_); rintro e w6 ⟨rfl, hb6⟩)
                        go_ret
                        exact ⟨ret_bool (by rw [HEE.out]; rfl), below_step HB4.out (below_step HR.out hb6)⟩
                      | true =>
                        rw [hv, Bool.true_and] at HEE
                        rw [hv] at HT2
                        have HE2 : Hid (∀ V, In Q1 w1 V → In Q2 w2 V → Calls Try.prog 26 #[.slice U el.length uc, .slice U' el'.length uc'] V (MayOk (eqB el el') V)) := Lib.hid HE.out
                        obtain ⟨v2, hv2⟩ : ∃ v2, v2 = eqB el el' := ⟨_, rfl⟩
                        rw [← hv2] at HE2 HEE
                        clear hv hv2
                        go_wp2_with (first
                          | (go_at_call 26; (with_reducible refine HT2.out.mono ?_); rintro e w6 ⟨rfl, hb6⟩; have hc6 := (bcell hb6).1; have HI16 := Lib.hid (HI1r.out.on hb6); have HI26 := Lib.hid (HI2r.out.on hb6))
                          | (go_at_call 26; (with_reducible refine (HE2.out w6 HI16.out HI26.out).mono ?_); rintro e w7 ⟨rfl, hb7⟩))
                        go_ret
                        exact ⟨ret_bool (by rw [HEE.out]), below_step HB4.out (below_step HR.out (below_step hb6 hb7))⟩
                · have HV := Lib.hid (HNe.out e8 (fun h => by have h := eqS_iff.1 h; exact h.2.2.2.2.2.2.2.1))
                  have g8 := len_t e8
                  clear e8
                  clear e1 e2 e3 e4 e6 e7
                  go_wp2_with (first
                    | (go_at_call 38; refine (HL.out _ HI1a.out HI2a.out).mono ?_; rintro e w3 ⟨rfl, hb3⟩; have hc3 := (bcell hb3).1; have hl3 := Nat.lt_of_lt_of_le hbl hb3.size; have hl3b := Nat.lt_of_lt_of_le hbl2 hb3.size; have HI1b := Lib.hid (HI1a.out.on hb3); have HI2b := Lib.hid (HI2a.out.on hb3))
                    | (go_at_call 117; refine (HX.out _ HI1b.out HI2b.out).mono ?_; rintro e w4 ⟨rfl, hb4⟩; have hc4 := (bcell hb4).1; have hl4 := Nat.lt_of_lt_of_le hl3 hb4.size; have hl4b := Nat.lt_of_lt_of_le hl3b hb4.size))
                  go_ret
                  exact ⟨ret_bool HV.out.symm, below_step HB0.out (below_step hb3 hb4)⟩
              · have HV := Lib.hid (HNe.out e7 (fun h => by have h := eqS_iff.1 h; exact h.2.2.2.2.2.2.1))
                rw [eqB_ne e7] at HX
                clear e7
                clear e1 e2 e3 e4 e6
                go_wp2_with (first
                  | (go_at_call 38; refine (HL.out _ HI1a.out HI2a.out).mono ?_; rintro e w3 ⟨rfl, hb3⟩; have hc3 := (bcell hb3).1; have hl3 := Nat.lt_of_lt_of_le hbl hb3.size; have hl3b := Nat.lt_of_lt_of_le hbl2 hb3.size; have HI1b := Lib.hid (HI1a.out.on hb3); have HI2b := Lib.hid (HI2a.out.on hb3))
                  | (go_at_call 117; refine (HX.out _ HI1b.out HI2b.out).mono ?_; rintro e w4 ⟨rfl, hb4⟩; have hc4 := (bcell hb4).1; have hl4 := Nat.lt_of_lt_of_le hl3 hb4.size; have hl4b := Nat.lt_of_lt_of_le hl3b hb4.size))
                go_ret
                exact ⟨ret_bool HV.out.symm, below_step HB0.out (below_step hb3 hb4)⟩
            · have HV := Lib.hid (HNe.out e6 (fun h => by have h := eqS_iff.1 h; exact h.2.2.2.2.2.1))
              rw [decide_eq_false e6] at HL
              clear e6
              clear e1 e2 e3 e4
              go_wp2_with (go_at_call 38; refine (HL.out _ HI1a.out HI2a.out).mono ?_; rintro e w3 ⟨rfl, hb3⟩; have hc3 := (bcell hb3).1; have hl3 := Nat.lt_of_lt_of_le hbl hb3.size; have hl3b := Nat.lt_of_lt_of_le hbl2 hb3.size; have HI1b := Lib.hid (HI1a.out.on hb3); have HI2b := Lib.hid (HI2a.out.on hb3))
              go_ret
              exact ⟨ret_bool HV.out.symm, below_step HB0.out hb3⟩
          · have HV := Lib.hid (HNe.out e5 (fun h => by have h := eqS_iff.1 h; exact h.2.2.2.2.1))
            clear e1 e2 e3 e4
            go_wp2_with fail
            go_ret
            exact ⟨ret_bool HV.out.symm, HB0.out⟩
        · have HV := Lib.hid (HNe.out e4 (fun h => by have h := eqS_iff.1 h; exact h.2.2.2.1))
          have g4 := toL_f e4
          clear e4
          clear e1 e2 e3
          go_wp2_with fail
          go_ret
          exact ⟨ret_bool HV.out.symm, HB0.out⟩
      · have HV := Lib.hid (HNe.out e3 (fun h => by have h := eqS_iff.1 h; exact h.2.2.1))
        have g3 := toL_f e3
        clear e3
        clear e1 e2
        go_wp2_with fail
        go_ret
        exact ⟨ret_bool HV.out.symm, HB0.out⟩
    · have HV := Lib.hid (HNe.out e2 (fun h => by have h := eqS_iff.1 h; exact h.2.1))
      have g2 := bne_t e2
      clear e2
      clear e1
      go_wp2_with fail
      go_ret
      exact ⟨ret_bool HV.out.symm, HB0.out⟩
  · have HV := Lib.hid (HNe.out e1 (fun h => by have h := eqS_iff.1 h; exact h.1))
    have g1 := bne_t e1
    clear e1
    go_wp2_with fail
    go_ret
    exact ⟨ret_bool HV.out.symm, HB0.out⟩
end Go.Proofs.Ytkbjlnmdlolhiaa
namespace Go.Proofs.Ytkbjlnmdlolhiaa
open Go.ChangeShapes Go.WideShapes Go.ChangeAt Go.RowKit Go.Deep
set_option linter.unusedVariables false

set_option maxHeartbeats 4000000 in
set_option maxRecDepth 100000 in
theorem EqStmts_any : ∀ (N : Nat) (l : List S), (preSL l).length < N → ∀ {l' : List S} {w1 w2 : World} {Q1 Q2 : Nat → Prop} {A A' : Option Addr} {cap cap' : Nat}, StmtsI w1 Q1 l (.slice A l.length cap) → StmtsI w2 Q2 l' (.slice A' l'.length cap') →
    EqC (.slice A l.length cap) (.slice A' l'.length cap') (eqB l l') Q1 Q2 w1 w2 := by
  intro N
  induction N with
  | zero => intro l h; omega
  | succ N ih =>
    intro l hN l' w1 w2 Q1 Q2 A A' cap cap' hl hl' W hI1 hI2
    obtain ⟨_, hlc, hcap, _⟩ := slice_len hl
    obtain ⟨_, hlc', hcap', _⟩ := slice_len hl'
    have IH := Lib.hid @ih
    have HN := Lib.hid hN
    have HL := Lib.hid hl
    have HL' := Lib.hid hl'
    have HI1 := Lib.hid hI1
    have HI2 := Lib.hid hI2
    clear ih hN hl hl' hI1 hI2
    by_cases e4 : l.length = l'.length
    · have g4 := len_f e4
      have e4a : l.length ≤ l'.length := by omega
      have e4b : l'.length ≤ l.length := by omega
      clear e4
      go_enter Try.func26, Try.ntmps26
      go_wp2_with fail
      clear g4
      go_loopw [13] (fun i wr => ∃ k : Nat, k ≤ l.length ∧ i = .int .i64 k ∧ Hid (l.take k = l'.take k) ∧ Hid (Below W.heap.size W wr)) (fun i _ => l.length - (intOf i).toNat)
      case atStart => exact ⟨0, Nat.zero_le _, rfl, Lib.hid rfl, Lib.hid (Below.refl _ _)⟩
      case round =>
        obtain ⟨k, hk, rfl, HTk, HR⟩ := hrel
        by_cases hlt : k < l.length
        · have hlt' : k < l'.length := by omega
          have HI1r := Lib.hid (HI1.out.on HR.out)
          have HI2r := Lib.hid (HI2.out.on HR.out)
          obtain ⟨a, id, kind, labels, nm, proc, x, has, args, th, el, L, lc, x0, x1, x2, X, xn, xc, R, rc, T, tc, U, uc, rfl, _, hmk, ⟨p0, p1, p2, p3, p4, p5, p6, p7, p8, p9, p10, p11, p12, _⟩, _, _, _, _, hlab, hx, har, hth, hel, _⟩ := stmt_at HL.out HI1r.out hlt
          obtain ⟨a', id', kind', labels', nm', proc', x', has', args', th', el', L', lc', x0', x1', x2', X', xn', xc', R', rc', T', tc', U', uc', rfl, _, hmk', ⟨p0', p1', p2', p3', p4', p5', p6', p7', p8', p9', p10', p11', p12', _⟩, _, _, _, _, hlab', hx', har', hth', hel', _⟩ := stmt_at HL'.out HI2r.out hlt'
          have hsub := preSL_at hlt
          rw [hmk] at hsub
          simp only [subS, List.length_append] at hsub
          have hN1 : (preSL th).length < N := by have := HN.out; omega
          have hN2 : (preSL el).length < N := by have := HN.out; omega
          have HC := Lib.hid (fun V h1 h2 => eqOne_any (id := id) (kind := kind) (nm := nm) (proc := proc) (has := has) (id' := id') (kind' := kind') (nm' := nm') (proc' := proc') (has' := has') hlab hx har hlab' hx' har' (IH.out th hN1 hth hth') (IH.out el hN2 hel hel') V h1 h2)
          rw [← hmk, ← hmk'] at HC
          have hab : (a.add (k * 13)).block < wr.heap.size := World.block_lt_of_cell? _ _ p0
          have hab' : (a'.add (k * 13)).block < wr.heap.size := World.block_lt_of_cell? _ _ p0'
          obtain ⟨v, hv⟩ : ∃ v, v = eqB l[k] l'[k] := ⟨_, rfl⟩
          rw [← hv] at HC
          have HV := Lib.hid hv
          have hdr : ∀ {Q : Nat → Prop} {w V : World}, In Q w V → In Q w V.drew := fun h => h
          clear hmk hmk' hsub hlab hx har hth hel hlab' hx' har' hth' hel' hv
          go_wp2_with fail
          go_region_held3 (fun w' => w'.cell? (a.add (k * 13)) = some (.int .i64 id) ∧ w'.cell? ⟨(a.add (k * 13)).block, (a.add (k * 13)).off + 1, none⟩ = some (.int .i64 kind) ∧ w'.cell? ⟨(a.add (k * 13)).block, (a.add (k * 13)).off + 2, none⟩ = some (.slice L labels.length lc) ∧ w'.cell? ⟨(a.add (k * 13)).block, (a.add (k * 13)).off + 3, none⟩ = some (.string nm) ∧ w'.cell? ⟨(a.add (k * 13)).block, (a.add (k * 13)).off + 4, none⟩ = some (.string proc) ∧ w'.cell? ⟨(a.add (k * 13)).block, (a.add (k * 13)).off + 5, none⟩ = some (.int .i64 x0) ∧ w'.cell? ⟨(a.add (k * 13)).block, (a.add (k * 13)).off + 6, none⟩ = some (.int .i64 x1) ∧ w'.cell? ⟨(a.add (k * 13)).block, (a.add (k * 13)).off + 7, none⟩ = some (.string x2) ∧ w'.cell? ⟨(a.add (k * 13)).block, (a.add (k * 13)).off + 8, none⟩ = some (.slice X xn xc) ∧ w'.cell? ⟨(a.add (k * 13)).block, (a.add (k * 13)).off + 9, none⟩ = some (.bool has) ∧ w'.cell? ⟨(a.add (k * 13)).block, (a.add (k * 13)).off + 10, none⟩ = some (.slice R args.length rc) ∧ w'.cell? ⟨(a.add (k * 13)).block, (a.add (k * 13)).off + 11, none⟩ = some (.slice T th.length tc) ∧ w'.cell? ⟨(a.add (k * 13)).block, (a.add (k * 13)).off + 12, none⟩ = some (.slice U el.length uc) ∧ w'.cell? (a'.add (k * 13)) = some (.int .i64 id') ∧ w'.cell? ⟨(a'.add (k * 13)).block, (a'.add (k * 13)).off + 1, none⟩ = some (.int .i64 kind') ∧ w'.cell? ⟨(a'.add (k * 13)).block, (a'.add (k * 13)).off + 2, none⟩ = some (.slice L' labels'.length lc') ∧ w'.cell? ⟨(a'.add (k * 13)).block, (a'.add (k * 13)).off + 3, none⟩ = some (.string nm') ∧ w'.cell? ⟨(a'.add (k * 13)).block, (a'.add (k * 13)).off + 4, none⟩ = some (.string proc') ∧ w'.cell? ⟨(a'.add (k * 13)).block, (a'.add (k * 13)).off + 5, none⟩ = some (.int .i64 x0') ∧ w'.cell? ⟨(a'.add (k * 13)).block, (a'.add (k * 13)).off + 6, none⟩ = some (.int .i64 x1') ∧ w'.cell? ⟨(a'.add (k * 13)).block, (a'.add (k * 13)).off + 7, none⟩ = some (.string x2') ∧ w'.cell? ⟨(a'.add (k * 13)).block, (a'.add (k * 13)).off + 8, none⟩ = some (.slice X' xn' xc') ∧ w'.cell? ⟨(a'.add (k * 13)).block, (a'.add (k * 13)).off + 9, none⟩ = some (.bool has') ∧ w'.cell? ⟨(a'.add (k * 13)).block, (a'.add (k * 13)).off + 10, none⟩ = some (.slice R' args'.length rc') ∧ w'.cell? ⟨(a'.add (k * 13)).block, (a'.add (k * 13)).off + 11, none⟩ = some (.slice T' th'.length tc') ∧ w'.cell? ⟨(a'.add (k * 13)).block, (a'.add (k * 13)).off + 12, none⟩ = some (.slice U' el'.length uc'))
            (go_keep)
            ((go_at_call 69; refine (HC.out _ (hdr HI1r.out) (hdr HI2r.out)).mono ?_; rintro e w3 ⟨rfl, hb3⟩; have hb3' : Below wr.heap.size wr w3 := (show Below wr.heap.size wr wr.drew from (Below.refl _ _).drew).trans hb3; have hc3 := (bcell hb3').1; have s0 := (hb3'.cell hab).trans p0; have s0' := (hb3'.cell hab').trans p0'))
          cases v with
          | true =>
            go_wp2_with fail
            go_roundw
            case rel => exact ⟨k + 1, by omega, by go_num, Lib.hid (take_eq_step hlt hlt' HTk.out (eqB_iff.1 HV.out.symm)), Lib.hid (below_step HR.out hb3')⟩
            case measure => simp [intOf]; omega
          | false =>
            have HN3 : Hid (eqB l l' = false) := Lib.hid (eqB_ne (ne_of_at hlt hlt' (fun e => by rw [e, eqB_self] at HV; exact absurd HV.out (by simp))))
            go_wp2_with fail
            go_ret
            exact ⟨ret_bool HN3.out.symm, below_step HR.out hb3'⟩
        · have HN3 : Hid (eqB l l' = true) := Lib.hid (eqB_iff.2 (by have := HTk.out; rw [List.take_of_length_le (by omega), List.take_of_length_le (by omega)] at this; exact this))
          go_wp2_with fail
          go_ret
          exact ⟨ret_bool HN3.out.symm, HR.out⟩
    · have g4 := len_t e4
      have HV : Hid (eqB l l' = false) := Lib.hid (eqB_ne (fun e => e4 (by rw [e])))
      clear e4
      go_enter Try.func26, Try.ntmps26
      go_wp2_with fail
      go_ret
      exact ⟨ret_bool HV.out.symm, Below.refl _ _⟩
end Go.Proofs.Ytkbjlnmdlolhiaa
