/- A program with other ids: the contract of Marred (whittlerref3); a row whose elements are turned one by one. -/
import Derived.Test.YtkbjlnmdlolhiaaTreeMr
import Derived.Deep.LoopGhost
namespace Go.Proofs.Ytkbjlnmdlolhiaa
open Go.ChangeShapes Go.WideShapes Go.ChangeAt Go.RowKit Go.Deep
set_option linter.unusedVariables false
set_option linter.unusedSimpArgs false

theorem flatten_set {C : Nat} : ∀ {rows : List (List Value)}, (∀ r ∈ rows, r.length = C) → ∀ (k j : Nat) (u : Value), k < rows.length → j < C → (rows.set k ((rows.getD k []).set j u)).flatten = rows.flatten.set (k * C + j) u
  | [], _, k, j, u, hk, _ => absurd hk (by simp)
  | r :: rows, h, 0, j, u, hk, hj => by
    have hr := h r (List.mem_cons_self ..)
    simp only [List.set_cons_zero, List.getD_cons_zero, List.flatten_cons, Nat.zero_mul, Nat.zero_add]
    rw [List.set_append_left _ _ (by omega)]
  | r :: rows, h, k + 1, j, u, hk, hj => by
    have hr := h r (List.mem_cons_self ..)
    have ih := flatten_set (fun r hr => h r (List.mem_cons_of_mem _ hr)) k j u (by simpa using hk) hj
    simp only [List.set_cons_succ, List.getD_cons_succ, List.flatten_cons]
    rw [ih, List.set_append_right _ _ (by rw [Nat.succ_mul]; omega)]
    congr 2
    rw [Nat.succ_mul]
    omega
theorem All2.set {α : Type} {R R' : α → List Value → Prop} {x' : α} {cs' : List Value} (hi : ∀ x cs, R x cs → R' x cs) (hn : R' x' cs') : ∀ {l : List α} {rows : List (List Value)}, All2 R l rows → ∀ k, All2 R' (l.set k x') (rows.set k cs')
  | [], [], h, k => by cases k <;> exact trivial
  | x :: l, c :: r, h, 0 => ⟨hn, All2.imp hi h.2⟩
  | x :: l, c :: r, h, k + 1 => ⟨hi _ _ h.1, All2.set hi hn h.2 k⟩
  | [], _ :: _, h, _ => h.elim
  | _ :: _, [], h, _ => h.elim
/-- one element of a row of the call's own is turned -/
theorem BuildI.upd {α : Type} {R : World → (Nat → Prop) → α → List Value → Prop} {w : World} {base C : Nat} {e : TypeId} {l : List α} {g n cap : Nat} (hR : Stays R) (hC : ∀ {w Q x cs}, R w Q x cs → cs.length = C) (h : BuildI w base e C R l (.slice (some ⟨g, 0, none⟩) n cap)) {k j : Nat} (hk : k < l.length) (hj : j < C) (u : Value) (x' : α)
    (hnew : ∀ cs, R w (fun b => (base ≤ b ∧ b < w.heap.size) ∧ b ≠ g) l[k] cs → R (w.setCell ⟨g, k * C + j, none⟩ u) (fun b => (base ≤ b ∧ b < w.heap.size) ∧ b ≠ g) x' (cs.set j u)) :
    BuildI (w.setCell ⟨g, k * C + j, none⟩ u) base e C R (l.set k x') (.slice (some ⟨g, 0, none⟩) n cap) := by
  obtain ⟨rows, ho, ha⟩ := h
  have hq : ∀ b, ((base ≤ b ∧ b < w.heap.size) ∧ (Value.slice (some ⟨g, 0, none⟩) n cap).ownBlock ≠ some b) ↔ ((base ≤ b ∧ b < w.heap.size) ∧ b ≠ g) := fun b => by simp [Value.ownBlock, eq_comm]
  have hlen : ∀ r ∈ rows, r.length = C := ha.mem_len (fun x cs h => hC h)
  have hrl := ha.len
  refine ⟨rows.set k ((rows.getD k []).set j u), ?_, ?_⟩
  · obtain ⟨hl, h⟩ := ho
    rcases h with ⟨h, _⟩ | ⟨g', cap', cur, he, hb, hg, h1, h2, h3, h4⟩
    · cases h
    · injection he with e1 e2 e3
      injection e1 with e1
      injection e1 with e1 _ _
      subst e1 e2 e3
      rw [flatten_set hlen k j u (by omega) hj]
      refine ⟨by rw [List.length_set, List.length_set]; exact hl, .inr ⟨g, cap, cur.setIfInBounds (k * C + j) u, by rw [List.length_set], hb, Blk.set_ (w := w) (t := e) (cs := cur) hg _ _, by rw [List.length_set]; exact h1, h2, by rw [Array.size_setIfInBounds]; exact h3, ?_⟩⟩
      rw [List.length_set, Array.toList_setIfInBounds, List.take_set, h4]
  · refine All2.set (fun x cs hx => hR hx (fun b hb => ⟨⟨hb.1.1, by simp only [size_set]; exact hb.1.2⟩, hb.2⟩) (fun p hp => cell_set_ne _ (fun e => ((hq _).1 hp).2 (by rw [e])))) ?_ ha k
    have h0 := ha.at_ k hk
    have h1 := hnew _ (hR h0 (fun b hb => (hq b).1 hb) (fun _ _ => rfl))
    exact hR h1 (fun b hb => by rw [size_set]; exact (hq b).2 hb) (fun _ _ => rfl)
def marPr (b m : Int) (q : Pr) : Pr := ⟨q.nm, q.params, q.vars, marSL b m q.body, q.end_⟩
def marP (b m : Int) (p : Pg) : Pg := ⟨p.globals, p.procs.map (marPr b m)⟩
/-- a list whose first elements are turned -/
def mixL {α : Type} (f : α → α) (k : Nat) (l : List α) : List α := (l.take k).map f ++ l.drop k
theorem mixL_len {α : Type} (f : α → α) (k : Nat) (l : List α) : (mixL f k l).length = l.length := by
  unfold mixL; rw [List.length_append, List.length_map, List.length_take, List.length_drop]; omega
theorem mixL_zero {α : Type} (f : α → α) (l : List α) : mixL f 0 l = l := rfl
theorem mixL_all {α : Type} (f : α → α) (l : List α) : mixL f l.length l = l.map f := by unfold mixL; simp
theorem mixL_at {α : Type} (f : α → α) {k : Nat} {l : List α} (h : k < l.length) (h' : k < (mixL f k l).length) : (mixL f k l)[k] = l[k] := by
  simp only [mixL]
  rw [List.getElem_append_right (by rw [List.length_map, List.length_take]; omega)]
  simp only [List.length_map, List.length_take, List.getElem_drop]
  congr 1
  omega
theorem mixL_set {α : Type} (f : α → α) {k : Nat} {l : List α} (h : k < l.length) : (mixL f k l).set k (f l[k]) = mixL f (k + 1) l := by
  unfold mixL
  rw [List.set_append_right _ _ (by rw [List.length_map, List.length_take]; omega), List.take_succ_eq_append_getElem h, List.map_append, List.append_assoc]
  congr 1
  rw [List.length_map, List.length_take, Nat.min_eq_left (by omega), Nat.sub_self, List.drop_eq_getElem_cons h]
  rfl
set_option maxHeartbeats 1000000 in
theorem Copy_full {w W : World} {Q : Nat → Prop} {p : Pg} {g0 g1 : Value} (h : ProgI w Q p [g0, g1]) (hI : In Q w W) (hsm : SmG p) (hid : ∀ q ∈ p.procs, ∀ s ∈ preSL q.body, 1 ≤ s.id ∧ s.id ≤ 200) :
    Calls Try.prog 31 #[.agg #[g0, g1]] W fun e w' => ∃ d0 d1, e = .returned (.agg #[d0, d1]) ∧ Below W.heap.size W w' ∧ ∃ base, W.heap.size + 1 ≤ base ∧ base ≤ w'.heap.size ∧ TextsI w' (fun j => W.heap.size ≤ j ∧ j < base) p.globals d0 ∧ BuildI w' base 47 5 (fun w Q => ProcI w Q) p.procs d1 := by
  have hput : p.procs.map (putPr Sneg) = p.procs := congrArg Pg.procs (putP_none (t := Sneg) (p := p) (fun q hq s hs e => by have := (hid q hq s hs).1; rw [e] at this; simp [Sneg, S.id] at this))
  have HC : Hid (∀ V, In Q w V → Calls Try.prog 49 #[.agg #[g0, g1], .agg zN] V fun e w' => ∃ d0 d1, e = .returned (.agg #[d0, d1]) ∧ Below V.heap.size V w' ∧ ∃ base, V.heap.size ≤ base ∧ base ≤ w'.heap.size ∧ TextsI w' (fun j => V.heap.size ≤ j ∧ j < base) p.globals d0 ∧ BuildI w' base 47 5 (fun w Q => ProcI w Q) p.procs d1) := Lib.hid (fun V hV => by
    have := Put_full (W := V) (Q2 := fun _ => False) (w2 := V) h (neg_stmt V _) hV ⟨fun _ h => h.elim, fun _ h => h.elim⟩ hsm ⟨by simp only [wE, wL]; decide, by simp, by simp [wAr]⟩
    rw [hput] at this
    exact this)
  have HI := Lib.hid hI
  obtain ⟨Ag, cg, Ap, cp, rfl, rfl, _⟩ := prog_open h
  clear h hI hsm hid hput
  go_enter Try.func31, Try.ntmps31
  go_upto_region 1 with fail
  have HBp : Hid (Blk ((W.alloc (.cells #[.slice Ag p.globals.length cg, .slice Ap p.procs.length cp] 25)).alloc (.cells #[.slice none 0 0, .slice none 0 0] 25)) W.heap.size 25 #[.slice Ag p.globals.length cg, .slice Ap p.procs.length cp]) := Lib.hid ((Blk.new _ _ _).alloc _)
  have HBr : Hid (Blk ((W.alloc (.cells #[.slice Ag p.globals.length cg, .slice Ap p.procs.length cp] 25)).alloc (.cells #[.slice none 0 0, .slice none 0 0] 25)) (W.heap.size + 1) 25 #[.slice none 0 0, .slice none 0 0]) := Lib.hid (blk22 _ _ _ _)
  have HB0 : Hid (Below W.heap.size W ((W.alloc (.cells #[.slice Ag p.globals.length cg, .slice Ap p.procs.length cp] 25)).alloc (.cells #[.slice none 0 0, .slice none 0 0] 25))) := Lib.hid (below_two _ _)
  generalize World.alloc _ _ = V at HBp HBr HB0 ⊢
  have p0 : V.cell? ⟨W.heap.size, 0, none⟩ = some (.slice Ag p.globals.length cg) := by rw [HBp.out.cell]; rfl
  have p1 : V.cell? ⟨W.heap.size, 1, none⟩ = some (.slice Ap p.procs.length cp) := by rw [HBp.out.cell]; rfl
  have hl := HBr.out.lt
  go_wp2_with (go_at_call 49; refine (HC.out _ (HI.out.on HB0.out)).mono ?_; rintro e q1 ⟨d0, d1, rfl, hb1, base, hbase, hbz, hg1, hr1⟩; obtain ⟨Bg, dg, rfl, _, _⟩ := hg1.shape; obtain ⟨Bp, dp, rfl, _⟩ := (hr1.choose_spec.1 |> own_form); have HR := Lib.hid (HBr.out.below hb1 hl); have r0 : q1.cell? ⟨W.heap.size + 1, 0, none⟩ = some (.slice none 0 0) := (by rw [HR.out.cell]; rfl); have r1 : q1.cell? ⟨W.heap.size + 1, 1, none⟩ = some (.slice none 0 0) := (by rw [HR.out.cell]; rfl); have f0 := HR.out.frozen 0; have f1 := HR.out.frozen 1; have hl1 := HR.out.lt)
  (try simp only [Exit.inBlock, Exit.then])
  refine bodyPost_ret (results_cell_row rfl _ _ (W.heap.size + 1) 25 _ (0, 0) _ rfl ((HR.out.set_ 0 _).set_ 1 _) Try.underlying25 rfl (by kernel_rfl)) rfl ⟨_, _, rfl, below_setc (below_setc (below_step HB0.out hb1) (by show W.heap.size ≤ W.heap.size + 1; omega) _) (by show W.heap.size ≤ W.heap.size + 1; omega) _, base, by omega, by simp only [size_set]; exact hbz, ?_, ?_⟩
  · exact SliceI.keep hg1 (fun j hj => ⟨by have := hj.1; have := HB0.out.size; omega, hj.2⟩) (fun p hp => by
      have hne : p.block ≠ W.heap.size + 1 := by have := hp.1; omega
      rw [cell_set_ne _ (fun e => hne (by rw [e])), cell_set_ne _ (fun e => hne (by rw [e]))]) (fun _ _ _ h => h)
  · exact BuildI.set (R := fun w Q => ProcI w Q) stayP (BuildI.set (R := fun w Q => ProcI w Q) stayP hr1 (p := ⟨W.heap.size + 1, 0, none⟩) (by show W.heap.size + 1 < base; omega) _) (p := ⟨W.heap.size + 1, 1, none⟩) (by show W.heap.size + 1 < base; omega) _
/-- the copy that Marred turns, procedure by procedure -/
structure MdI (w : World) (Q : Nat → Prop) (W wr : World) (base pb rb yb : Nat) (cp : Array Value) (globals : List ByteArray) (d0 : Value) (procs : List Pr) (X : Option Addr) (n c : Nat) : Prop where
  bp : Blk wr pb 25 cp
  br : Blk wr rb 25 #[.slice none 0 0, .slice none 0 0]
  by_ : Blk wr yb 25 #[d0, .slice X n c]
  row : BuildI wr base 47 5 (fun w Q => ProcI w Q) procs (.slice X n c)
  inn : In Q w wr
  below : Below W.heap.size W wr
  glob : TextsI wr (fun j => rb < j ∧ j < base) globals d0
section
variable {w W wr : World} {Q : Nat → Prop} {base pb rb yb : Nat} {cp : Array Value} {globals : List ByteArray} {d0 : Value} {procs : List Pr} {X : Option Addr} {n c : Nat}
theorem MdI.on (h : MdI w Q W wr base pb rb yb cp globals d0 procs X n c) {w3 : World} (hbase : base ≤ wr.heap.size) (hb : Below wr.heap.size wr w3) : MdI w Q W w3 base pb rb yb cp globals d0 procs X n c :=
  ⟨h.bp.below hb h.bp.lt, h.br.below hb h.br.lt, h.by_.below hb h.by_.lt, BuildI.below (R := fun w Q => ProcI w Q) stayP h.row hb, h.inn.on hb, below_step h.below hb, SliceI.keep h.glob (fun _ h => h) (fun p hp => hb.cell (Nat.lt_of_lt_of_le hp.2 hbase)) (fun _ _ _ h => h)⟩
/-- a procedure's body is laid anew -/
theorem md_step {g : Nat} (h : MdI w Q W wr base pb rb yb cp globals d0 procs (some ⟨g, 0, none⟩) n c) (hW : W.heap.size ≤ pb) (hpb : pb < rb) (hrb : rb < base) (hbase : base ≤ wr.heap.size) (hyg : yb ≠ g) (hQ : ∀ j, Q j → j < base) {k : Nat} (hk : k < procs.length) {w3 : World} (hb : Below wr.heap.size wr w3) {body : List S} {v : Value} (hv : StmtsI w3 (nw wr w3) body v) :
    MdI w Q W (w3.setCell ⟨g, k * 5 + 3, none⟩ v) base pb rb yb cp globals d0 (procs.set k ⟨procs[k].nm, procs[k].params, procs[k].vars, body, procs[k].end_⟩) (some ⟨g, 0, none⟩) n c := by
  have h3 := h.on hbase hb
  obtain ⟨rows0, ho0, _⟩ := h.row
  have hg := ho0.lt g rfl
  have hz := hb.size
  refine ⟨h3.bp.far (p := ⟨g, k * 5 + 3, none⟩) (by show pb ≠ g; omega) _, h3.br.far (p := ⟨g, k * 5 + 3, none⟩) (by show rb ≠ g; omega) _, h3.by_.far (p := ⟨g, k * 5 + 3, none⟩) (by exact hyg) _, BuildI.upd (R := fun w Q => ProcI w Q) stayP (fun h => (procOk _ _ _ _ h).1) h3.row hk (by omega) v _ ?_, h3.inn.setCell (fun hq => by have := hQ _ hq; simp only at this; omega) _, below_setc h3.below (by show W.heap.size ≤ g; omega) _, SliceI.keep h3.glob (fun _ h => h) (fun p hp => cell_set_ne _ (fun e => by have := hp.2; rw [e] at this; simp only at this; omega)) (fun _ _ _ h => h)⟩
  rintro cs ⟨vp, vv, vb, ve, rfl, a1, a2, a3, a4, a5⟩
  have hc : ∀ p : Addr, ((base ≤ p.block ∧ p.block < w3.heap.size) ∧ p.block ≠ g) → (w3.setCell ⟨g, k * 5 + 3, none⟩ v).cell? p = w3.cell? p := fun p hp => cell_set_ne _ (fun e => hp.2 (by rw [e]))
  refine ⟨vp, vv, v, ve, rfl, a1, SliceI.keep a2 (fun _ h => h) hc (fun _ _ _ h => h), SliceI.keep a3 (fun _ h => h) hc (fun _ _ _ h => h), ?_, SliceI.keep a5 (fun _ h => h) hc (fun _ _ _ h => h)⟩
  have hs : ∀ j, nw wr w3 j → (base ≤ j ∧ j < w3.heap.size) ∧ j ≠ g := fun j hj => ⟨⟨Nat.le_trans hbase hj.1, hj.2⟩, by have := hj.1; omega⟩
  exact SliceI.keep hv hs (fun p hp => hc p (hs _ hp)) (fun s cs _ h => h.keep hs (fun p hp => hc p (hs _ hp)))
end
/-- a cell of a row of the call's own: it is there, and not shut -/
theorem build_cell {α : Type} {R : World → (Nat → Prop) → α → List Value → Prop} {w : World} {base C : Nat} {e : TypeId} {l : List α} {g n cap : Nat} (hC : ∀ {w Q x cs}, R w Q x cs → cs.length = C) (h : BuildI w base e C R l (.slice (some ⟨g, 0, none⟩) n cap)) {k j : Nat} (hk : k < l.length) (hj : j < C) :
    ∃ old, w.cell? ⟨g, k * C + j, none⟩ = some old ∧ w.frozen? ⟨g, k * C + j, none⟩ = false ∧ g < w.heap.size := by
  obtain ⟨rows, ho, ha⟩ := h
  obtain ⟨hl, h⟩ := ho
  rcases h with ⟨h, _⟩ | ⟨g', cap', cur, he, hb, hg, h1, h2, h3, h4⟩
  · cases h
  · injection he with e1 e2 e3
    injection e1 with e1
    injection e1 with e1 _ _
    subst e1 e2 e3
    have hlt : k * C + j < cur.size := by
      have := Nat.mul_le_mul_right C (show k + 1 ≤ cap by omega)
      rw [Nat.succ_mul] at this
      omega
    exact ⟨cur[k * C + j], by rw [Blk.cell (w := w) (t := e) (cs := cur) hg, Array.getElem?_eq_getElem hlt], Blk.frozen (w := w) (t := e) (cs := cur) hg _, Blk.lt (w := w) (t := e) (cs := cur) hg⟩
set_option maxHeartbeats 8000000 in
set_option maxRecDepth 100000 in
theorem Marred_any {w W : World} {Q : Nat → Prop} {p : Pg} {g0 g1 : Value} {by_ more : Int} (h : ProgI w Q p [g0, g1]) (hI : In Q w W) (hsm : SmG p) (hid : ∀ q ∈ p.procs, ∀ s ∈ preSL q.body, 1 ≤ s.id ∧ s.id ≤ 200) (hby : 0 ≤ by_ ∧ by_ ≤ 8) (hmo : -300 ≤ more ∧ more ≤ 599) :
    Calls Try.prog 19 #[.agg #[g0, g1], .int .i64 by_, .int .i64 more] W fun e w' => ∃ d0 d1, e = .returned (.agg #[d0, d1]) ∧ Below W.heap.size W w' ∧ ProgI w' (nw W w') (marP by_ more p) [d0, d1] := by
  have HC := Lib.hid (fun V hV => Copy_full (W := V) h hV hsm hid)
  have HMr : Hid (∀ (l : List S) {A : Option Addr} {cap : Nat} {V : World}, StmtsI w Q l (.slice A l.length cap) → In Q w V → wSL l ≤ 1000000 → (∀ x ∈ preSL l, 1 ≤ x.id ∧ x.id ≤ 200) → Calls Try.prog 62 #[.slice A l.length cap, .int .i64 by_, .int .i64 more] V (PutOk (marSL by_ more l) V)) := Lib.hid (fun l => marred_any hby hmo ((preSL l).length + 1) l (by omega))
  have HSm := Lib.hid hsm
  have HId := Lib.hid hid
  have HI := Lib.hid hI
  have HQ : Hid (∀ j, Q j → j < W.heap.size) := Lib.hid hI.1
  obtain ⟨Ag, cg, Ap, cp, rfl, rfl, hg1, hg2, hp1, hp2, hgl, hpr⟩ := prog_open h
  have HP := Lib.hid hpr
  have hpl : p.procs.length ≤ 1000000 := hsm.procs
  clear h hI hsm hid hgl hpr hby hmo
  go_enter Try.func19, Try.ntmps19
  go_upto_region 1 with fail
  have HBp : Hid (Blk ((W.alloc (.cells #[.slice Ag p.globals.length cg, .slice Ap p.procs.length cp] 25)).alloc (.cells #[.slice none 0 0, .slice none 0 0] 25)) W.heap.size 25 #[.slice Ag p.globals.length cg, .slice Ap p.procs.length cp]) := Lib.hid ((Blk.new _ _ _).alloc _)
  have HBr : Hid (Blk ((W.alloc (.cells #[.slice Ag p.globals.length cg, .slice Ap p.procs.length cp] 25)).alloc (.cells #[.slice none 0 0, .slice none 0 0] 25)) (W.heap.size + 1) 25 #[.slice none 0 0, .slice none 0 0]) := Lib.hid (blk22 _ _ _ _)
  have HB0 : Hid (Below W.heap.size W ((W.alloc (.cells #[.slice Ag p.globals.length cg, .slice Ap p.procs.length cp] 25)).alloc (.cells #[.slice none 0 0, .slice none 0 0] 25))) := Lib.hid (below_two _ _)
  generalize World.alloc _ _ = V at HBp HBr HB0 ⊢
  have p0 : V.cell? ⟨W.heap.size, 0, none⟩ = some (.slice Ag p.globals.length cg) := by rw [HBp.out.cell]; rfl
  have p1 : V.cell? ⟨W.heap.size, 1, none⟩ = some (.slice Ap p.procs.length cp) := by rw [HBp.out.cell]; rfl
  have hl := HBr.out.lt
  go_upto_region 2 with (go_at_call 31; refine (HC.out _ (HI.out.on HB0.out)).mono ?_; rintro e q1 ⟨d0, d1, rfl, hb1, base, hbase, hbz, hg1, hr1⟩; obtain ⟨Bg, dg, rfl, _, _⟩ := hg1.shape; obtain ⟨Bp, dp, rfl, hdp, _⟩ := (hr1.choose_spec.1 |> own_form))
  have hgb : ∀ g, (Value.slice Bp p.procs.length dp).ownBlock = some g → g < q1.heap.size := fun g hg => (hr1.choose_spec.1.lt g hg).2
  have HS : Hid (MdI w Q W (q1.alloc (.cells #[.slice Bg p.globals.length dg, .slice Bp p.procs.length dp] 25)) base W.heap.size (W.heap.size + 1) q1.heap.size #[.slice Ag p.globals.length cg, .slice Ap p.procs.length cp] p.globals (.slice Bg p.globals.length dg) (mixL (marPr by_ more) 0 p.procs) Bp p.procs.length dp) := Lib.hid
    ⟨(HBp.out.below hb1 (by omega)).alloc _, (HBr.out.below hb1 hl).alloc _, Blk.new _ _ _, BuildI.below (R := fun w Q => ProcI w Q) stayP hr1 (below_box _), ((HI.out.on HB0.out).on hb1).alloc _, below_stepA (below_step HB0.out hb1) _, SliceI.keep hg1 (fun j hj => ⟨by have := hj.1; omega, hj.2⟩) (fun p hp => (below_box _).cell (by have := hp.2; omega)) (fun _ _ _ h => h)⟩
  have hyg : Hid (∀ g, (Value.slice Bp p.procs.length dp).ownBlock = some g → q1.heap.size ≠ g) := Lib.hid (fun g hg => by have := hgb g hg; omega)
  have hbz1 : base ≤ (q1.alloc (.cells #[.slice Bg p.globals.length dg, .slice Bp p.procs.length dp] 25)).heap.size := by rw [World.size_alloc]; omega
  have hrb : W.heap.size + 1 < base := by omega
  clear hr1 hg1 hgb HBp HBr HB0 HC hb1 p0 p1 hl
  generalize World.alloc _ _ = W1 at HS hbz1 ⊢
  generalize q1.heap.size = yb at HS hyg ⊢
  clear hbz hbase
  have p1 : W1.cell? ⟨yb, 1, none⟩ = some (.slice Bp p.procs.length dp) := by rw [HS.out.by_.cell]; rfl
  have hyl := HS.out.by_.lt
  go_wp2_with fail
  clear p1 hyl
  go_loopg [14] p.procs.length (fun kk iv wr => ∃ k : Nat, k + kk = p.procs.length ∧ iv = .int .i64 k ∧ base ≤ wr.heap.size ∧ Hid (MdI w Q W wr base W.heap.size (W.heap.size + 1) yb #[.slice Ag p.globals.length cg, .slice Ap p.procs.length cp] p.globals (.slice Bg p.globals.length dg) (mixL (marPr by_ more) k p.procs) Bp p.procs.length dp))
  case atStart => exact ⟨0, by omega, rfl, hbz1, HS⟩
  case round =>
    clear HS hbz1
    obtain ⟨k, hk, rfl, hbw, HR⟩ := hrel
    by_cases hlt : k < p.procs.length
    · obtain ⟨a, Cp, kp, Cv, kv, Cb, kb, Ce, ke, rfl, hqa, hrow, hnm, hpp, hvv, hbody, hee⟩ := proc_at HP.out HR.out.inn hlt
      have hsq := (HSm.out.proc p.procs[k] (List.getElem_mem hlt)).1
      have hidk := HId.out p.procs[k] (List.getElem_mem hlt)
      have HMb := Lib.hid (fun V hV => HMr.out p.procs[k].body (V := V) hbody hV hsq hidk)
      have hkl : k < (mixL (marPr by_ more) k p.procs).length := by rw [mixL_len]; exact hlt
      have hset := mixL_set (marPr by_ more) hlt
      have hat := mixL_at (marPr by_ more) hlt hkl
      have hBpg : ∃ g, Bp = some ⟨g, 0, none⟩ := by
        obtain ⟨rows, ho, _⟩ := HR.out.row
        rcases ho.2 with ⟨h1, h2⟩ | ⟨g, cap', cur, h1, _⟩
        · rw [mixL_len] at h2; omega
        · injection h1 with h1 _ _; exact ⟨g, h1⟩
      obtain ⟨g, rfl⟩ := hBpg
      have hyg' : yb ≠ g := hyg.out g rfl
      have HSt := Lib.hid (fun (w3 : World) (v : Value) (hb : Below wr.heap.size wr w3) (hv : StmtsI w3 (nw wr w3) (marSL by_ more p.procs[k].body) v) => md_step HR.out (Nat.le_refl _) (by omega) hrb hbw hyg' (fun j hj => by have := HQ.out j hj; omega) hkl (w3 := w3) (body := marSL by_ more p.procs[k].body) (v := v) hb hv)
      have hmk : (⟨p.procs[k].nm, p.procs[k].params, p.procs[k].vars, marSL by_ more p.procs[k].body, p.procs[k].end_⟩ : Pr) = marPr by_ more p.procs[k] := rfl
      rw [hat, hmk, hset] at HSt
      obtain ⟨_, _, _, p3, _⟩ := hrow
      generalize p.procs[k].body = body at p3 HMb HSt
      clear hnm hpp hvv hbody hee hsq hidk hat hset hmk hkl
      have s1 : wr.cell? ⟨yb, 1, none⟩ = some (.slice (some ⟨g, 0, none⟩) p.procs.length dp) := by rw [HR.out.by_.cell]; rfl
      have s2 : wr.cell? ⟨W.heap.size, 1, none⟩ = some (.slice (some a) p.procs.length cp) := by rw [HR.out.bp.cell]; rfl
      have hyl := HR.out.by_.lt
      have hpl1 := HR.out.bp.lt
      have hab := World.block_lt_of_cell? wr _ p3
      have s3 : wr.cell? ⟨(a.add (k * 5)).block, (a.add (k * 5)).off + 3, none⟩ = some (.slice Cb body.length kb) := p3
      clear p3
      have hgd : (⟨g, 0, none⟩ : Addr).add (k * 5) = ⟨g, k * 5, none⟩ := addr0 _ _
      have hdr : ∀ {Q : Nat → Prop} {w V : World}, In Q w V → In Q w V.drew := fun h => h
      go_upto_region 5 with fail
      have hpg : W.heap.size ≠ g := by
        obtain ⟨rows, ho, _⟩ := HR.out.row
        have := (ho.lt g rfl).1
        omega
      have hag : (a.add (k * 5)).block ≠ g := by
        obtain ⟨rows, ho, _⟩ := HR.out.row
        have := (ho.lt g rfl).1
        have h1 := HQ.out _ hqa
        rw [block_add]
        omega
      go_region_held3 (fun w' => w'.cell? ⟨yb, 1, none⟩ = some (.slice (some ⟨g, 0, none⟩) p.procs.length dp) ∧ w'.cell? ⟨W.heap.size, 1, none⟩ = some (.slice (some a) p.procs.length cp) ∧ w'.cell? ⟨(a.add (k * 5)).block, (a.add (k * 5)).off + 3, none⟩ = some (.slice Cb body.length kb))
        (first
          | (exact ⟨s1, s2, s3⟩)
          | (exact ⟨t1, t2, t3⟩)
          | (exact ⟨set_far (by exact hyg') _ t1, set_far (by exact hpg) _ t2, set_far (by exact hag) _ t3⟩))
        ((go_at_call 62; refine (HMb.out _ (hdr HR.out.inn)).mono ?_; rintro e' w3 ⟨v3, rfl, hb3, hs3⟩; obtain ⟨T3, tc3, rfl, hl3, hc3⟩ := hs3.shape; have hb3' : Below wr.heap.size wr w3 := (show Below wr.heap.size wr wr.drew from (Below.refl _ _).drew).trans hb3; have hs3' : StmtsI w3 (nw wr w3) (marSL by_ more body) (.slice T3 (marSL by_ more body).length tc3) := hs3; have HR3 := Lib.hid (HR.out.on hbw hb3'); have t1 : w3.cell? ⟨yb, 1, none⟩ = some (.slice (some ⟨g, 0, none⟩) p.procs.length dp) := (hb3'.cell (p := ⟨yb, 1, none⟩) hyl).trans s1; have t2 : w3.cell? ⟨W.heap.size, 1, none⟩ = some (.slice (some a) p.procs.length cp) := (hb3'.cell (p := ⟨W.heap.size, 1, none⟩) hpl1).trans s2; have t3 : w3.cell? ⟨(a.add (k * 5)).block, (a.add (k * 5)).off + 3, none⟩ = some (.slice Cb body.length kb) := (hb3'.cell (p := ⟨(a.add (k * 5)).block, (a.add (k * 5)).off + 3, none⟩) hab).trans s3; obtain ⟨old, k1, k2, k3⟩ := build_cell (R := fun w Q => ProcI w Q) (fun h => (procOk _ _ _ _ h).1) HR3.out.row (k := k) (j := 3) (by rw [mixL_len]; exact hlt) (by omega); have hW3 := HSt.out w3 _ hb3' hs3'))
      have HW3 := Lib.hid hW3
      have hzw : base ≤ (w3.setCell ⟨g, k * 5 + 3, none⟩ (.slice T3 (marSL by_ more body).length tc3)).heap.size := by rw [size_set]; exact Nat.le_trans hbw hb3'.size
      clear hW3 HR3 hs3 hs3' hb3 hb3' t1 t2 t3 k1 k2 k3 HSt HR s1 s2 s3
      generalize World.setCell _ _ _ = W5 at HW3 hzw ⊢
      go_wp2_with fail
      go_roundg (p.procs.length - k - 1)
      case measure => omega
      case rel => exact ⟨k + 1, by omega, by go_num, hzw, HW3⟩

    · have hke : k = p.procs.length := by omega
      subst hke
      have HR' := Lib.hid HR.out
      rw [mixL_all] at HR'
      have y0 : wr.cell? ⟨yb, 0, none⟩ = some (.slice Bg p.globals.length dg) := by rw [HR.out.by_.cell]; rfl
      have y1 : wr.cell? ⟨yb, 1, none⟩ = some (.slice Bp p.procs.length dp) := by rw [HR.out.by_.cell]; rfl
      have r0 : wr.cell? ⟨W.heap.size + 1, 0, none⟩ = some (.slice none 0 0) := by rw [HR.out.br.cell]; rfl
      have r1 : wr.cell? ⟨W.heap.size + 1, 1, none⟩ = some (.slice none 0 0) := by rw [HR.out.br.cell]; rfl
      have f0 := HR.out.br.frozen 0
      have f1 := HR.out.br.frozen 1
      have hl1 := HR.out.by_.lt
      have hl2 := HR.out.br.lt
      go_wp2_with fail
      (try simp only [Exit.inBlock, Exit.then])
      have hgl := HR'.out.glob
      have hrow := BuildI.done (R := fun w Q => ProcI w Q) stayP (fun h => (procOk _ _ _ _ h).1) HR'.out.row
      have hc : ∀ q : Addr, q.block ≠ W.heap.size + 1 → ((wr.setCell ⟨W.heap.size + 1, 0, none⟩ (.slice Bg p.globals.length dg)).setCell ⟨W.heap.size + 1, 1, none⟩ (.slice Bp p.procs.length dp)).cell? q = wr.cell? q := fun q hq => by rw [cell_set_ne _ (fun e => hq (by rw [e])), cell_set_ne _ (fun e => hq (by rw [e]))]
      refine bodyPost_ret (results_cell_row rfl _ _ (W.heap.size + 1) 25 _ (0, 0) _ rfl ((HR'.out.br.set_ 0 _).set_ 1 _) Try.underlying25 rfl (by kernel_rfl)) rfl ⟨_, _, rfl, below_setc (below_setc HR'.out.below (by show W.heap.size ≤ W.heap.size + 1; omega) _) (by show W.heap.size ≤ W.heap.size + 1; omega) _, _, _, rfl, ?_, ?_⟩
      · exact SliceI.keep hgl (fun j hj => ⟨by have := hj.1; omega, by simp only [size_set]; have := hj.2; omega⟩) (fun q hq => hc q (by have := hq.1; omega)) (fun _ _ _ h => h)
      · have hs : ∀ j, (base ≤ j ∧ j < wr.heap.size) → nw W ((wr.setCell ⟨W.heap.size + 1, 0, none⟩ (.slice Bg p.globals.length dg)).setCell ⟨W.heap.size + 1, 1, none⟩ (.slice Bp p.procs.length dp)) j := fun j hj => ⟨by have := hj.1; omega, by simp only [size_set]; exact hj.2⟩
        exact SliceI.keep hrow hs (fun q hq => hc q (by have := hq.1; omega)) (fun q cs _ h => h.keep hs (fun q hq => hc q (by have := hq.1; omega)))
end Go.Proofs.Ytkbjlnmdlolhiaa
