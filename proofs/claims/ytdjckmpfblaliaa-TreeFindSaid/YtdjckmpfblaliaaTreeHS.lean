/- Statements copied: the cursor over the copy itself, and one node. -/
import Derived.Test.YtdjckmpfblaliaaTreeHA
import Derived.Test.YtdjckmpfblaliaaTreeCS
import Derived.Test.YtdjckmpfblaliaaTreeK2
namespace Go.Proofs.Ytdjckmpfblaliaa
open Go.ChangeShapes Go.WideShapes Go.ChangeAt Go.RowKit Go.Deep
set_option linter.unusedVariables false

def wT : List ByteArray → Nat
  | [] => 0
  | s :: l => s.size + 1 + wT l
theorem wT_mem {l : List ByteArray} {s : ByteArray} (h : s ∈ l) : s.size + 1 ≤ wT l := by
  induction l with
  | nil => simp at h
  | cons x l ih =>
    rw [wT]
    rcases List.mem_cons.1 h with rfl | h
    · omega
    · have := ih h; omega
theorem wT_len (l : List ByteArray) : l.length ≤ wT l := by
  induction l with
  | nil => exact Nat.zero_le _
  | cons x l ih => rw [wT, List.length_cons]; omega
theorem smT_of {l : List ByteArray} (h : wT l ≤ 1000000) : smT l := ⟨Nat.le_trans (wT_len l) h, fun s hs => by have := wT_mem hs; omega⟩
mutual
/-- how much a statement is -/
def wS : S → Nat
  | .mk _ _ labels nm proc x _ args th el => wE x + wT labels + (nm.size + 1) + (proc.size + 1) + wAr args + wSL th + wSL el
def wSL : List S → Nat
  | [] => 0
  | s :: l => wS s + wSL l
end
theorem wSL_mem {l : List S} {s : S} (h : s ∈ l) : wS s ≤ wSL l := by
  induction l with
  | nil => simp at h
  | cons x l ih =>
    rw [wSL]
    rcases List.mem_cons.1 h with rfl | h
    · omega
    · have := ih h; omega
theorem wS_pos (s : S) : 1 ≤ wS s := by cases s; rw [wS]; omega
theorem wSL_len (l : List S) : l.length ≤ wSL l := by
  induction l with
  | nil => exact Nat.zero_le _
  | cons x l ih => rw [wSL, List.length_cons]; have := wS_pos x; omega
mutual
def sizS : S → Nat
  | .mk _ _ _ _ _ _ _ _ th el => sizSL th + sizSL el + 1
def sizSL : List S → Nat
  | [] => 0
  | s :: l => sizS s + sizSL l
end
mutual
theorem sizS_w : ∀ s : S, sizS s ≤ wS s
  | .mk _ _ labels nm proc x _ args th el => by rw [sizS, wS]; have := sizSL_w th; have := sizSL_w el; omega
theorem sizSL_w : ∀ l : List S, sizSL l ≤ wSL l
  | [] => by rw [sizSL]; exact Nat.zero_le _
  | s :: l => by rw [sizSL, wSL]; have := sizS_w s; have := sizSL_w l; omega
end
/-- a statement that is not too great -/
def RS (w : World) (Q : Nat → Prop) (x : S) (cs : List Value) : Prop := StmtI w Q x cs ∧ wS x ≤ 1000000
theorem rsOk (w : World) (Q : Nat → Prop) (x : S) (cs : List Value) (h : RS w Q x cs) : CellsOk 13 cs := by
  obtain ⟨id, kind, labels, nm, proc, ex, has, args, th, el, L, lc, x0, x1, x2, X, xn, xc, R, rc, T, tc, U, uc, rfl, rfl, _⟩ := stmt_open h.1
  exact ⟨rfl, by simp [Value.oneCell']⟩
abbrev CopyS := Copy (α := S) 13 RS
theorem StmtI.of_slice {w : World} {Q : Nat → Prop} {id kind : Int} {labels : List ByteArray} {nm proc : ByteArray} {x : E} {has : Bool} {args : List Ar} {th el : List S} {vl va vt ve : Value} {x0 x1 x2 x3 : Value} (hid : i64 id) (hkind : i64 kind) (hnm : nm.size ≤ 9223372036854775807) (hproc : proc.size ≤ 9223372036854775807)
    (hl : TextsI w Q labels vl) (hx : ExprI w Q x [x0, x1, x2, x3]) (ha : SliceI w Q 6 (ArgI w Q) args va) (ht : StmtsI w Q th vt) (he : StmtsI w Q el ve) : StmtI w Q (.mk id kind labels nm proc x has args th el) [.int .i64 id, .int .i64 kind, vl, .string nm, .string proc, x0, x1, x2, x3, .bool has, va, vt, ve] := by
  obtain ⟨A1, cap1, css1, rfl, h1, h2, h3⟩ := ht
  obtain ⟨A2, cap2, css2, rfl, h4, h5, h6⟩ := he
  exact .mk hid hkind hnm hproc hl hx ha h1 h4 h2 h5 h3 h6
/-- how many nodes are ahead -/
def szHS : List (Hole S) → Nat
  | [] => 0
  | h :: hs => sizSL h.ts + szHS hs
theorem szHS_append (a b : List (Hole S)) : szHS (a ++ b) = szHS a + szHS b := by
  induction a with
  | nil => rw [List.nil_append, szHS]; omega
  | cons k a ih => rw [List.cons_append, szHS, szHS, ih]; omega
/-- the cursor over the copy: its answer p, what is ahead -/
def AtCS (w : World) (Q : Nat → Prop) (base bs c : Nat) (G : World → Prop) (W : World) (p : Option Addr) (n : Nat) : Prop :=
  ∃ v hs T, CurS W bs c v p (hs.map slH) ∧ (∀ b, T b → ¬ ownS c v b) ∧
    ((p = none ∧ hs = [] ∧ CopyS w Q base G W [] T ∧ n = 0) ∨ ∃ b o t, p = some ⟨b, o, none⟩ ∧ CopyS w Q base G W (⟨b, o, [t], 1⟩ :: hs) T ∧ n = sizS t + szHS hs)
theorem pop_copyS {w W w' : World} {Q : Nat → Prop} {base bs c : Nat} {G : World → Prop} {v v' : Value} {hs : List (Hole S)} {T : Nat → Prop} (hg : ∀ x ∈ hs.map slH, goodS x) (h : CopyS w Q base G W hs T) (hd : ∀ b, T b → ¬ ownS c v b)
    (hc : CurS w' bs c v' (popSS (hs.map slH)).1 (popSS (hs.map slH)).2) (hm : Moves (ownS c v) W w') (hl : ∀ j, v'.ownBlock = some j → W.heap.size ≤ j ∨ v.ownBlock = some j) : AtCS w Q base bs c G w' (popSS (hs.map slH)).1 (szHS hs) := by
  have h' := h.moves hm hd
  have hd' : ∀ b, T b → ¬ ownS c v' b := fun b ht e => by
    rcases e with rfl | e
    · exact hd _ ht (.inl rfl)
    · rcases hl b e with h1 | h1
      · have := (h.tb b ht).2; omega
      · exact hd b ht (.inr h1)
  cases hs with
  | nil => exact ⟨v', [], T, by simpa [popSS] using hc, hd', .inl ⟨rfl, rfl, h', rfl⟩⟩
  | cons k hs =>
    obtain ⟨b, o, ts, cap⟩ := k
    cases ts with
    | nil => have := (hg (slH ⟨b, o, [], cap⟩) (List.mem_map.2 ⟨_, List.mem_cons_self .., rfl⟩)).1; simp [slH] at this
    | cons t ts =>
      have e : (popSS (List.map slH (⟨b, o, t :: ts, cap⟩ :: hs))) = (some ⟨b, o, none⟩, (if ts.length = 0 then hs else ⟨b, o + 13, ts, cap - 1⟩ :: hs).map slH) := by
        simp only [List.map_cons, popSS, slH, List.length_cons, Nat.add_eq_right]
        by_cases h0 : ts.length = 0
        · rw [if_pos h0, if_pos h0]
        · rw [if_neg h0, if_neg h0, List.map_cons, add_ne _ (by decide)]; rfl
      rw [e] at hc ⊢
      refine ⟨v', _, T, hc, hd', .inr ⟨b, o, t, rfl, h'.pop, ?_⟩⟩
      rw [szHS, sizSL]
      split
      · rename_i h0
        have : ts = [] := List.length_eq_zero_iff.1 h0
        subst this; simp [sizSL]
      · rw [szHS]; simp; omega
theorem len_szHS {hs : List (Hole S)} (hg : ∀ x ∈ hs.map slH, goodS x) : hs.length ≤ szHS hs := by
  induction hs with
  | nil => exact Nat.zero_le _
  | cons k hs ih =>
    have h1 := ih (fun x hx => hg x (by rw [List.map_cons]; exact List.mem_cons_of_mem _ hx))
    have h2 := (hg (slH k) (by rw [List.map_cons]; exact List.mem_cons_self ..)).1
    obtain ⟨b, o, ts, cap⟩ := k
    rw [szHS, List.length_cons]
    cases ts with
    | nil => simp [slH] at h2
    | cons t ts => simp only [sizSL]; cases t; rw [sizS]; omega
theorem CurS.own_lt {w : World} {base c : Nat} {v : Value} {last : Option Addr} {s : List SL} (h : CurS w base c v last s) {k : Nat} (hk : ownS c v k) : k < w.heap.size := by
  rcases hk with rfl | hk
  · exact h.blk.lt
  · rcases h.row.2 with ⟨rfl, _⟩ | ⟨g, cap, cur, rfl, _, hg, _⟩
    · simp [Value.ownBlock] at hk
    · have : g = k := by simpa [Value.ownBlock] using hk
      subst this
      exact (Array.getElem?_eq_some_iff.1 hg).1
/-- the cursor's answer, while the copy is under way -/
def NextCS (w : World) (Q : Nat → Prop) (base bs c : Nat) (G : World → Prop) (n : Nat) (W : World) (e : Ending) (w' : World) : Prop :=
  ∃ p, e = .returned (.pointer p) ∧ AtCS w Q base bs c G w' p n ∧ Below bs W w'
theorem nextCS_first {w W : World} {Q : Nat → Prop} {base bs c : Nat} {G : World → Prop} {v : Value} {hs : List (Hole S)} {T : Nat → Prop} (hc : CurS W bs c v none (hs.map slH)) (hcp : CopyS w Q base G W hs T) (hd : ∀ b, T b → ¬ ownS c v b) (hbc : bs ≤ c) (hbW : bs ≤ W.heap.size) (hl : szHS hs ≤ 1000000) :
    Calls Try.prog 58 #[.pointer (some ⟨c, 0, none⟩)] W (NextCS w Q base bs c G (szHS hs) W) := by
  refine (nextS_none bs c v _ W hc (by have := len_szHS hc.good; rw [List.length_map]; omega)).mono ?_
  rintro e w' ⟨v', rfl, hc', hm, hj⟩
  exact ⟨_, rfl, pop_copyS hc.good hcp hd hc' hm hj, hm.below hbW (fun j hj => by rcases hj with rfl | hj; exact hbc; exact own_ge hc.row hj)⟩
theorem nextCS_again {w W : World} {Q : Nat → Prop} {base bs c : Nat} {G : World → Prop} {v : Value} {hs new : List (Hole S)} {T : Nat → Prop} {b o : Nat} {A A2 : Option Addr} {n cap n2 cap2 : Nat} (hc : CurS W bs c v (some ⟨b, o, none⟩) (hs.map slH)) (hk : W.cell? ⟨b, o + 11, none⟩ = some (.slice A n cap)) (hk2 : W.cell? ⟨b, o + 12, none⟩ = some (.slice A2 n2 cap2)) (hA : 0 < n → A ≠ none) (hn : n ≤ cap) (hcap : cap ≤ 9223372036854775807) (hA2 : 0 < n2 → A2 ≠ none) (hn2 : n2 ≤ cap2) (hcap2 : cap2 ≤ 9223372036854775807)
    (hp : pushS (pushS (hs.map slH) A2 n2 cap2) A n cap = (new ++ hs).map slH) (hcp : CopyS w Q base G W (new ++ hs) T) (hd : ∀ b, T b → ¬ ownS c v b) (hbc : bs ≤ c) (hbW : bs ≤ W.heap.size) (hl : szHS hs ≤ 1000000) :
    Calls Try.prog 58 #[.pointer (some ⟨c, 0, none⟩)] W (NextCS w Q base bs c G (szHS (new ++ hs)) W) := by
  refine (nextS_some bs c v _ ⟨b, o, none⟩ A A2 n cap n2 cap2 W hc hk hk2 hA hn hcap hA2 hn2 hcap2 hbW (by have := len_szHS hc.good; rw [List.length_map]; omega)).mono ?_
  rintro e w' ⟨v', rfl, hc', hm, hj⟩
  rw [hp] at hc' ⊢
  exact ⟨_, rfl, pop_copyS (by rw [← hp]; exact pushS_goodS (pushS_goodS hc.good hn2 hcap2) hn hcap) hcp hd hc' hm hj, hm.below hbW (fun j hj => by rcases hj with rfl | hj; exact hbc; exact own_ge hc.row hj)⟩
/-- a node that is being filled: its cells now -/
structure NodeW (W q : World) (b o : Nat) (cs : List Value) : Prop where
  mv : Moves (fun k => k = b) W q
  lt : b < W.heap.size
  oth : ∀ p : Addr, p.block = b → ¬ (o ≤ p.off ∧ p.off < o + 13) → q.cell? p = W.cell? p
  blk : ∃ t bc, Blk q b t bc
  at_ : ∀ j u, cs[j]? = some u → q.cell? ⟨b, o + j, none⟩ = some u
  len : cs.length = 13
theorem NodeW.below {W q q' : World} {b o : Nat} {cs : List Value} (h : NodeW W q b o cs) (hb : Below q.heap.size q q') : NodeW W q' b o cs := by
  have hl : b < q.heap.size := Nat.lt_of_lt_of_le h.lt h.mv.size
  refine ⟨h.mv.trans (Below.moves hb) (fun j hj => .inl (Nat.le_trans h.mv.size hj)), h.lt, fun p hp hn => (hb.cell (by rw [hp]; exact hl)).trans (h.oth p hp hn), ?_, fun j u hu => (hb.cell (p := ⟨b, o + j, none⟩) hl).trans (h.at_ j u hu), h.len⟩
  obtain ⟨t, bc, hB⟩ := h.blk
  exact ⟨t, bc, hB.below hb hl⟩
theorem NodeW.set {W q : World} {b o : Nat} {cs : List Value} (h : NodeW W q b o cs) {j : Nat} (hj : j < 13) (u : Value) : NodeW W (q.setCell ⟨b, o + j, none⟩ u) b o (cs.set j u) := by
  obtain ⟨t, bc, hB⟩ := h.blk
  refine ⟨h.mv.set_ (.inl rfl) u, h.lt, fun p hp hn => ?_, ⟨t, _, hB.set_ (o + j) u⟩, fun i v hv => ?_, by rw [List.length_set]; exact h.len⟩
  · rw [cell_set_ne _ (fun e => hn (by rw [e]; simp; omega))]
    exact h.oth p hp hn
  · by_cases e : i = j
    · subst e
      rw [List.getElem?_set_self (by rw [h.len]; exact hj)] at hv
      have h1 := h.at_ i (cs[i]'(by rw [h.len]; exact hj)) (List.getElem?_eq_getElem _)
      rw [(hB.set_ (o + i) u).cell, Array.getElem?_setIfInBounds_self_of_lt]
      · exact hv
      · rw [hB.cell] at h1; exact (Array.getElem?_eq_some_iff.1 h1).1
    · rw [List.getElem?_set_ne (fun x => e x.symm)] at hv
      rw [cell_set_ne _ (fun x => e (by injection x with _ x _; omega))]
      exact h.at_ i v hv
theorem NodeW.frozen {W q : World} {b o : Nat} {cs : List Value} (h : NodeW W q b o cs) (j : Nat) : q.frozen? ⟨b, o + j, none⟩ = false := by
  obtain ⟨t, bc, hB⟩ := h.blk
  exact hB.frozen _
/-- a new row of statements, or none -/
def RowS' (w : World) (Q : Nat → Prop) (l : List S) (A : Option Addr) (cap M M' : Nat) (W : World) : Prop :=
  (l.length ≤ cap ∧ cap ≤ 9223372036854775807) ∧ (l = [] ∨ ∃ b css, A = some ⟨b, 0, none⟩ ∧ cap = l.length ∧ M ≤ b ∧ b < M' ∧ Blk W b 47 (flatN css l.length).toArray ∧ ∀ i (h : i < l.length), RS w Q l[i] (css i))
theorem row_holes {w W : World} {Q : Nat → Prop} {l : List S} {A : Option Addr} {cap M M' : Nat} (h : RowS' w Q l A cap M M' W) (hl : l.length ≤ 1000000) :
    ∃ new : List (Hole S), (∀ s, pushS s A l.length cap = new.map slH ++ s) ∧ szHS new = sizSL l ∧ (∀ k ∈ new, M ≤ k.b ∧ k.b < M' ∧ (∃ t cs, Blk W k.b t cs) ∧ atH 13 (RS w Q) W k) ∧ new.Pairwise (disH 13) ∧ (0 < l.length → A ≠ none) ∧
      ∀ V base, base ≤ M → (∀ k ∈ new, atH 13 (RS V (nb base V)) V k) → StmtsI V (nb base V) l (.slice A l.length cap) := by
  obtain ⟨h1, h2⟩ := h
  rcases h2 with rfl | ⟨b, css, rfl, rfl, h3, h4, h5, h6⟩
  · exact ⟨[], fun s => by rw [List.length_nil, pushS_zero]; rfl, by rw [szHS, sizSL], fun _ h => absurd h (by simp), .nil, fun h => absurd h (by simp), fun V base _ _ => ⟨A, cap, fun _ => [], rfl, h1, fun h => absurd h (by simp), fun i h => absurd h (by simp)⟩⟩
  · by_cases h0 : l.length = 0
    · have hn : l = [] := List.length_eq_zero_iff.1 h0
      subst hn
      exact ⟨[], fun s => by rw [List.length_nil, pushS_zero]; rfl, by rw [szHS, sizSL], fun _ h => absurd h (by simp), .nil, fun h => absurd h (by simp), fun V base _ _ => ⟨_, _, fun _ => [], rfl, h1, fun h => absurd h (by simp), fun i h => absurd h (by simp)⟩⟩
    · refine ⟨[⟨b, 0, l, l.length⟩], fun s => by rw [pushS_pos _ _ _ (by omega)]; rfl, by rw [szHS, szHS]; simp, fun k hk => ?_, List.pairwise_singleton _ _, fun _ => by simp, fun V base hb hd => ?_⟩
      · have : k = ⟨b, 0, l, l.length⟩ := by simpa using hk
        subst this
        refine ⟨h3, h4, ⟨_, _, h5⟩, fun i hi => ⟨css i, h6 i hi, fun j u hu => ?_⟩⟩
        have hj : j < 13 := by rw [← (rsOk _ _ _ _ (h6 i hi)).1]; exact (List.getElem?_eq_some_iff.1 hu).1
        rw [h5.cell]
        simp only [List.getElem?_toArray, Nat.zero_add]
        rw [flatN_get (fun i hi => (rsOk _ _ _ _ (h6 i hi)).1) hi hj]
        exact hu
      · have h7 := slice_of_at (base := base) (hd _ (List.mem_singleton.2 rfl)) (rsOk _ _) (by omega) (Nat.le_trans hb h3) hl
        obtain ⟨A', cap', ds, e1, e2, e3, e4⟩ := h7
        exact ⟨A', cap', ds, e1, e2, e3, fun i hi => (e4 i hi).1⟩
theorem fillS {w W w4 : World} {Q : Nat → Prop} {base M M2 M3 : Nat} {G : World → Prop} {hs : List (Hole S)} {T : Nat → Prop} {b o : Nat} {id kind : Int} {labels : List ByteArray} {nm proc : ByteArray} {x : E} {has : Bool} {args : List Ar} {th el : List S} {vl va x0 x1 x2 x3 : Value} {A1 A2 : Option Addr} {cap1 cap2 : Nat}
    (h : CopyS w Q base G W (⟨b, o, [.mk id kind labels nm proc x has args th el], 1⟩ :: hs) T) (hbase : base ≤ W.heap.size) (hid : i64 id) (hkind : i64 kind) (hnm : nm.size ≤ 9223372036854775807) (hproc : proc.size ≤ 9223372036854775807) (hw : wS (.mk id kind labels nm proc x has args th el) ≤ 1000000)
    (hN : NodeW W w4 b o [.int .i64 id, .int .i64 kind, vl, .string nm, .string proc, x0, x1, x2, x3, .bool has, va, .slice A1 th.length cap1, .slice A2 el.length cap2])
    (hM : W.heap.size ≤ M) (hM2 : M ≤ M2) (hM3 : M2 ≤ M3) (hM4 : M3 ≤ w4.heap.size) (hl : TextsI w4 (fun k => W.heap.size ≤ k ∧ k < M) labels vl) (hx : ExprI w4 (fun k => W.heap.size ≤ k ∧ k < M) x [x0, x1, x2, x3]) (ha : SliceI w4 (fun k => W.heap.size ≤ k ∧ k < M) 6 (ArgI w4 (fun k => W.heap.size ≤ k ∧ k < M)) args va)
    (hth : RowS' w Q th A1 cap1 M M2 w4) (hel : RowS' w Q el A2 cap2 M2 M3 w4) :
    ∃ new T', CopyS w Q base G w4 (new ++ hs) T' ∧ pushS (pushS (hs.map slH) A2 el.length cap2) A1 th.length cap1 = (new ++ hs).map slH ∧ szHS (new ++ hs) = sizSL th + sizSL el + szHS hs ∧ (∀ k, T' k → T k ∨ W.heap.size ≤ k) ∧ (0 < th.length → A1 ≠ none) ∧ (0 < el.length → A2 ≠ none) := by
  obtain ⟨hTb, _, _⟩ := h.raw _ (List.mem_cons_self ..)
  have hw1 : wSL th ≤ 1000000 ∧ wSL el ≤ 1000000 := by rw [wS] at hw; omega
  obtain ⟨n1, e1, z1, r1, d1, a1, f1⟩ := row_holes hth (Nat.le_trans (wSL_len th) hw1.1)
  obtain ⟨n2, e2, z2, r2, d2, a2, f2⟩ := row_holes hel (Nat.le_trans (wSL_len el) hw1.2)
  refine ⟨n1 ++ n2, _, Copy.fill (new := n1 ++ n2) (W' := w4) rsOk h hbase hN.mv.size (fun p ht hn => ?_) (fun b' ht hB => ?_) (fun k hk => ?_) (List.pairwise_append.2 ⟨d1, d2, fun k hk k' hk' => .inl (by have := (r1 k hk).2.1; have := (r2 k' hk').1; omega)⟩) (fun V hs' hv hd hap => ?_), ?_, ?_, fun k hk => hk.imp (fun h => h) (fun h => h.1), a1, a2⟩
  · by_cases e : p.block = b
    · exact hN.oth p e (fun e' => hn ⟨e, e'⟩)
    · exact hN.mv.cell (h.tb _ ht).2 e
  · by_cases e : b' = b
    · subst e; exact hN.blk
    · obtain ⟨t, cs, hB⟩ := hB
      exact ⟨t, cs, hN.mv.blk hB e⟩
  · rcases List.mem_append.1 hk with hk | hk
    · obtain ⟨h1, h2, h3, h4⟩ := r1 k hk
      exact ⟨⟨by omega, by omega⟩, h3, h4⟩
    · obtain ⟨h1, h2, h3, h4⟩ := r2 k hk
      exact ⟨⟨by omega, by omega⟩, h3, h4⟩
  · have hin : ∀ p : Addr, (W.heap.size ≤ p.block ∧ p.block < M) → V.cell? p = w4.cell? p := fun p hp => by
      refine hv p (.inr ⟨hp.1, by omega⟩) (fun hc => ?_)
      obtain ⟨k, hk, k1, _⟩ := hc
      rcases List.mem_append.1 hk with hk | hk
      · rcases List.mem_append.1 hk with hk | hk
        · have := (r1 k hk).1; omega
        · have := (r2 k hk).1; omega
      · have := (h.tb _ (h.raw k (by simp [hk])).1).2; omega
    have hQ : ∀ k, (W.heap.size ≤ k ∧ k < M) → nb base V k := fun k hk => ⟨by omega, by omega⟩
    refine ⟨[.int .i64 id, .int .i64 kind, vl, .string nm, .string proc, x0, x1, x2, x3, .bool has, va, .slice A1 th.length cap1, .slice A2 el.length cap2], ⟨StmtI.of_slice hid hkind hnm hproc (hl.keep hQ hin fun _ _ _ h => h) (hx.keep hQ hin) (ha.keep hQ hin fun _ _ _ h => h.keep hQ hin) (f1 V base (by omega) (fun k hk => hd k (List.mem_append.2 (.inl hk)))) (f2 V base (by omega) (fun k hk => hd k (List.mem_append.2 (.inr hk)))), hw⟩, fun j u hu => ?_⟩
    · have hj : j < 13 := by have := (List.getElem?_eq_some_iff.1 hu).1; simpa using this
      rw [hv ⟨b, o + j, none⟩ (.inl hTb) (hap (o + j) (by omega) (by omega))]
      exact hN.at_ j u hu
  · rw [e2, e1, List.map_append, List.map_append, List.append_assoc]
  · rw [szHS_append, szHS_append, z1, z2]
end Go.Proofs.Ytdjckmpfblaliaa
