/- Texts, merged by a program; only what is used. -/
import Derived.Test.YtcocilpifdjibaaK1
import Derived.Test.YtcocilpifdjibaaK2
import Derived.Test.YtcocilpifdjibaaK3
import Derived.Test.YtcocilpifdjibaaK4
import Derived.Test.YtcocilpifdjibaaK5
import Derived.Test.YtcocilpifdjibaaK6
import Derived.Test.YtcocilpifdjibaaK7
import Derived.Test.YtcocilpifdjibaaK8
import Derived.Test.YtcocilpifdjibaaK9
import Derived.Test.YtcocilpifdjibaaK10
import Derived.Test.YtcocilpifdjibaaK11
import Derived.Test.YtcocilpifdjibaaK12
import Derived.Test.YtcocilpifdjibaaK13
import Derived.Test.YtcocilpifdjibaaK14
import Derived.Test.YtcocilpifdjibaaK15
import Derived.Test.YtcocilpifdjibaaK16
namespace Go.Proofs.Ytcocilpifdjibaa
open Go.ChangeShapes Go.WideShapes Go.ChangeAt Go.RowKit Go.Deep
set_option linter.unusedVariables false
set_option linter.unusedSimpArgs false
theorem set5_heap {w : World} {b k : Nat} {d0 d1 d2 d3 d4 : Value} (hk : k < w.heap.size) (h : k ≠ b) : (World.setCell (World.setCell (World.setCell (World.setCell (World.setCell w ⟨b, 0, none⟩ (d0)) ⟨b, 1, none⟩ (d1)) ⟨b, 2, none⟩ (d2)) ⟨b, 3, none⟩ (d3)) ⟨b, 4, none⟩ (d4)).heap[k]? = w.heap[k]? := by
  rw [heap_set_ne _ _ _ (by simp only [size_set]; exact hk) h, heap_set_ne _ _ _ (by simp only [size_set]; exact hk) h, heap_set_ne _ _ _ (by simp only [size_set]; exact hk) h, heap_set_ne _ _ _ (by simp only [size_set]; exact hk) h, heap_set_ne _ _ _ hk h]
theorem own_lo {w : World} {base base' C n : Nat} {e : TypeId} {v : Value} {xs : List Value} (h : w.ownsRow base e C v n xs) (hb : base' ≤ base) : w.ownsRow base' e C v n xs := by
  refine ⟨h.1, ?_⟩
  rcases h.2 with h1 | ⟨g, cap, cur, h1, h2, r⟩
  · exact .inl h1
  · exact .inr ⟨g, cap, cur, h1, Nat.le_trans hb h2, r⟩
/-- what the first statement of Put's round leaves -/
structure PtAK (V W1 : World) (yb : Nat) (nm : ByteArray) (vars end_ : List ByteArray) (body : List S) (vv vb ve : Value) : Prop where
  blk : Blk W1 yb 59 #[.string nm, .slice none 0 0, vv, vb, ve]
  below : Below V.heap.size V W1
  le : V.heap.size ≤ yb
  small : ∀ s ∈ vars, s.size ≤ 9223372036854775807
  rows : ∃ m1 m2, (V.heap.size ≤ m1 ∧ m1 ≤ m2 ∧ m2 ≤ W1.heap.size) ∧ W1.ownsRow V.heap.size 9 1 vv vars.length (strs vars) ∧ (∀ j, vv.ownBlock = some j → j < m1 ∧ j ≠ yb) ∧ TextsI W1 (fun j => (m1 ≤ j ∧ j < m2) ∧ j ≠ yb) end_ ve ∧ StmtsI W1 (fun j => (m1 ≤ j ∧ j < m2) ∧ j ≠ yb) body vb
theorem ptAK_of {V W1 U1 U2 U3 q1 q2 q3 : World} {yb : Nat} {nm : ByteArray} {vars end_ : List ByteArray} {body : List S} {vv vb ve : Value} (hsm : ∀ s ∈ vars, s.size ≤ 9223372036854775807) (blk : Blk W1 yb 59 #[.string nm, .slice none 0 0, vv, vb, ve]) (below : Below V.heap.size V W1) (le : V.heap.size ≤ yb)
    (hz : q3.heap.size ≤ W1.heap.size) (hh : ∀ b, b < q3.heap.size → b ≠ yb → W1.heap[b]? = q3.heap[b]?) (h12 : Below q1.heap.size q1 q2) (h23 : Below q2.heap.size q2 q3) (l1 : V.heap.size ≤ U1.heap.size) (l2 : q1.heap.size ≤ U2.heap.size) (l3 : q2.heap.size ≤ U3.heap.size) (l0 : U1.heap.size ≤ q1.heap.size)
    (h1 : q1.ownsRow U1.heap.size 9 1 vv vars.length (strs vars)) (h2 : TextsI q2 (nw U2 q2) end_ ve) (h3 : StmtsI q3 (nw U3 q3) body vb) (y1 : yb < U1.heap.size ∨ q1.heap.size ≤ yb) (y2 : yb < U2.heap.size ∨ q2.heap.size ≤ yb) (y3 : yb < U3.heap.size ∨ q3.heap.size ≤ yb) : PtAK V W1 yb nm vars end_ body vv vb ve := by
  have z12 := h12.size
  have z23 := h23.size
  have hc : ∀ p : Addr, p.block < q3.heap.size → p.block ≠ yb → W1.cell? p = q3.cell? p := fun p h1 h2 => World.cell?_of_block (w := q3) (hh _ h1 h2)
  refine ⟨blk, below, le, hsm, q1.heap.size, q3.heap.size, ⟨by omega, by omega, hz⟩, own_stay (own_lo h1 l1) (fun j hj => ?_), fun j hj => ?_, SliceI.keep h2 (fun j hj => ?_) (fun p hp => ?_) (fun _ _ _ h => h), SliceI.keep h3 (fun j hj => ?_) (fun p hp => hc p hp.2 ?_) (fun s cs _ h => h.keep (fun j hj => ?_) (fun p hp => hc p hp.2 ?_))⟩
  · have hl := h1.lt j hj
    rw [hh j (by omega) (by omega), h23.block j (by omega), h12.block j (by omega)]
  · have hl := h1.lt j hj; exact ⟨hl.2, by omega⟩
  · have := hj.1; have := hj.2; exact ⟨⟨by omega, by omega⟩, by omega⟩
  · have := hp.1; have := hp.2; rw [hc p (by omega) (by omega), h23.cell (by omega)]
  · have := hj.1; have := hj.2; exact ⟨⟨by omega, by omega⟩, by omega⟩
  · have := hp.1; have := hp.2; omega
  · have := hj.1; have := hj.2; exact ⟨⟨by omega, by omega⟩, by omega⟩
  · have := hp.1; have := hp.2; omega
/-- what holds of a program's copy, some procedures of it -/
structure PtK (w : World) (Q : Nat → Prop) (w2 : World) (Q2 : Nat → Prop) (W W1 wr : World) (tb rb qb : Nat) (ct : Array Value) (globals : List ByteArray) (vg : Value) (outs : List (Pr × Nat × Nat)) (X : Option Addr) (n c : Nat) : Prop where
  bt : Blk wr tb 64 ct
  br : Blk wr rb 25 #[.slice none 0 0, .slice none 0 0]
  bq : Blk wr qb 25 #[vg, .slice X n c]
  row : BuildI wr W1.heap.size 59 5 PrK outs (.slice X n c)
  ap : Apart W1.heap.size wr.heap.size outs
  inn : In Q w wr
  in2 : In Q2 w2 wr
  size : W1.heap.size ≤ wr.heap.size
  below : Below W.heap.size W wr
  glob : wr.ownsRow (rb + 1) 9 1 vg globals.length (strs globals)
  globb : ∀ j, vg.ownBlock = some j → j < W1.heap.size ∧ j ≠ qb
section
variable {w w2 W W1 wr : World} {Q Q2 : Nat → Prop} {tb rb qb : Nat} {ct : Array Value} {globals : List ByteArray} {vg : Value} {outs : List (Pr × Nat × Nat)} {X : Option Addr} {n c : Nat}
theorem PtK.on (h : PtK w Q w2 Q2 W W1 wr tb rb qb ct globals vg outs X n c) {w3 : World} (hb : Below wr.heap.size wr w3) : PtK w Q w2 Q2 W W1 w3 tb rb qb ct globals vg outs X n c :=
  ⟨h.bt.below hb h.bt.lt, h.br.below hb h.br.lt, h.bq.below hb h.bq.lt, BuildI.belowH (R := PrK) stayK h.row hb, h.ap.mono hb.size, h.inn.on hb, h.in2.on hb, Nat.le_trans h.size hb.size, h.below.trans (hb.mono h.below.size), own_stay h.glob (fun j hj => hb.block j (h.glob.lt j hj).2), h.globb⟩
theorem ptK_step {w3 w4 : World} (h : PtK w Q w2 Q2 W W1 w3 tb rb qb ct globals vg outs X n c) (hn : n = outs.length) (htb : tb < qb) (hrb : rb < qb) (hqb : qb < W1.heap.size) (hW : W.heap.size ≤ qb) (hQ : ∀ j, Q j → j < qb) (hQ2 : ∀ j, Q2 j → j < qb) {B : Nat} (hB : W1.heap.size ≤ B) (hap : Apart W1.heap.size B outs) (hrB : ∀ j, (Value.slice X n c).ownBlock = some j → j < B)
    {x : Pr × Nat × Nat} {cs : List Value} (hx1 : x.2.1 = B) (hx2 : x.2.2 = w3.heap.size) (hBw : B ≤ w3.heap.size) (he : PrK w3 (fun j => B ≤ j ∧ j < w3.heap.size) x cs) {rows : List (List Value)} (h1 : w3.ownsRow W1.heap.size 59 5 (.slice X n c) outs.length rows.flatten) (h2 : All2 (PrK w3 (fun j => (W1.heap.size ≤ j ∧ j < w3.heap.size) ∧ (Value.slice X n c).ownBlock ≠ some j)) outs rows) {o : Obj} {v' : Value} (hown4 : w4.ownsRow W1.heap.size 59 5 v' (n + 1) (rows.flatten ++ cs)) (hgrow : (w3.alloc o).grownBy w4 (Value.slice X n c).ownBlock) (hat : (Value.slice X n c).ownBlock = v'.ownBlock ∨ v'.ownBlock = some (w3.alloc o).heap.size) :
    (∃ X' c', v' = .slice X' (n + 1) c' ∧ PtK w Q w2 Q2 W W1 (w4.setCell ⟨qb, 1, none⟩ v') tb rb qb ct globals vg (outs ++ [x]) X' (n + 1) c') ∧ Blk w4 qb 25 #[vg, .slice X n c] := by
  have hm4 : Moves (fun j => (Value.slice X n c).ownBlock = some j) w3 w4 := ((Moves.refl _ w3).alloc o).trans (moves_grown hgrow) (fun j hj => .inr hj)
  have hno : ∀ j, j < W1.heap.size → ¬ (Value.slice X n c).ownBlock = some j := fun j hj e => by have := (h1.lt j e).1; omega
  have hbu : BuildI w4 W1.heap.size 59 5 PrK (outs ++ [x]) v' :=
    BuildI.pushH (R := PrK) stayK h1 h2 (x := x) (B := B) he hB hrB (n := n + 1) (by omega) rfl hown4 hgrow hat
  obtain ⟨X', c', rfl, _, _⟩ := own_form hown4
  have hbq : Blk w4 qb 25 #[vg, .slice X n c] := hm4.blk h.bq (hno qb hqb)
  refine ⟨⟨X', c', rfl, (hm4.blk h.bt (hno tb (by omega))).far (p := ⟨qb, 1, none⟩) (by show tb ≠ qb; omega) _, (hm4.blk h.br (hno rb (by omega))).far (p := ⟨qb, 1, none⟩) (by show rb ≠ qb; omega) _, hbq.set_ 1 _, BuildI.setH (R := PrK) stayK hbu (p := ⟨qb, 1, none⟩) hqb _, Apart.snoc hap (by omega) (by omega) (by simp only [size_set]; have := hm4.size; omega) (by simp only [size_set]; have := hm4.size; omega), ?_, ?_, by simp only [size_set]; exact Nat.le_trans h.size hm4.size, ?_, ?_, h.globb⟩, hbq⟩
  · exact (h.inn.moves hm4 (fun j hj hq => hno j (by have := hQ j hq; omega) hj)).setCell (fun hq => by have := hQ _ hq; simp only at this; omega) _
  · exact (h.in2.moves hm4 (fun j hj hq => hno j (by have := hQ2 j hq; omega) hj)).setCell (fun hq => by have := hQ2 _ hq; simp only at this; omega) _
  · exact below_setc (h.below.trans (hm4.below (by have := h.below.size; omega) (fun j hj => by have := (h1.lt j hj).1; omega))) hW _
  · exact own_stay h.glob (fun j hj => (heap_set_ne w4 _ _ (by have := (h.glob.lt j hj).2; have := hm4.size; omega) (h.globb j hj).2).trans (hm4.block j (h.glob.lt j hj).2 (hno j (h.globb j hj).1)))
end
/-- what the second statement of Put's round leaves: the procedure's copy -/
structure PtBK (wr wx : World) (yb : Nat) (q : Pr) (c0 c1 c2 c3 c4 : Value) : Prop where
  blk : Blk wx yb 59 #[c0, c1, c2, c3, c4]
  below : Below wr.heap.size wr wx
  proc : PrK wx (fun j => wr.heap.size ≤ j ∧ j < wx.heap.size) (q, wr.heap.size, wx.heap.size) [c0, c1, c2, c3, c4]
theorem ptBK_of {wr wa wc w3 : World} {yb : Nat} {pn : ByteArray} {pp : List Pa} {pv pe : List ByteArray} {body : List S} {vv vb ve vp : Value} (hA : PtAK wa wc yb pn pv pe body vv vb ve) (hwa : Below wr.heap.size wr wa) (h3 : Below wc.heap.size wc w3) (hps : ∀ q ∈ pp, q.nm.size ≤ 9223372036854775807) (hp : w3.ownsRow wc.heap.size 61 2 vp pp.length (parCells pp).flatten) (hnm : pn.size ≤ 9223372036854775807) :
    PtBK wr (w3.setCell ⟨yb, 1, none⟩ vp) yb ⟨pn, pp, pv, body, pe⟩ (.string pn) vp vv vb ve := by
  have hz := hwa.size
  have hz2 := hA.below.size
  have hz3 := h3.size
  have hle := hA.le
  have hyl := hA.blk.lt
  have hh : ∀ b, b < wc.heap.size → b ≠ yb → (w3.setCell ⟨yb, 1, none⟩ vp).heap[b]? = wc.heap[b]? := fun b h1 h2 => (heap_set_ne w3 _ _ (by omega) h2).trans (h3.block b h1)
  have hc : ∀ p : Addr, p.block < wc.heap.size → p.block ≠ yb → (w3.setCell ⟨yb, 1, none⟩ vp).cell? p = wc.cell? p := fun p h1 h2 => World.cell?_of_block (w := wc) (hh _ h1 h2)
  obtain ⟨m1, m2, ⟨k1, k2, k3⟩, ho, hob, he, hb⟩ := hA.rows
  have hq : ∀ b, ((m1 ≤ b ∧ b < m2) ∧ b ≠ yb) → (m1 ≤ b ∧ b < wc.heap.size) ∧ wr.heap.size ≤ b ∧ b < (w3.setCell ⟨yb, 1, none⟩ vp).heap.size := fun b hb => ⟨⟨hb.1.1, by have := hb.1.2; omega⟩, by have := hb.1.1; omega, by simp only [size_set]; have := hb.1.2; omega⟩
  have hcc : ∀ p : Addr, ((m1 ≤ p.block ∧ p.block < m2) ∧ p.block ≠ yb) → (w3.setCell ⟨yb, 1, none⟩ vp).cell? p = wc.cell? p := fun p hp => hc p (by have := hp.1.2; omega) hp.2
  refine ⟨(hA.blk.below h3 hyl).set_ 1 _, below_setc ((hwa.trans (hA.below.mono hz)).trans (h3.mono (by omega))) (by show wr.heap.size ≤ yb; omega) _, vp, vv, vb, ve, m1, wc.heap.size, rfl, hnm, ⟨by show wr.heap.size ≤ m1; omega, by omega, by show wc.heap.size ≤ (w3.setCell _ _).heap.size; simp only [size_set]; exact hz3⟩, hA.small, hps, ?_, ?_, ?_, ?_, ?_, ?_⟩
  · exact own_stay (own_lo ho hz) (fun j hj => hh j (ho.lt j hj).2 (hob j hj).2)
  · exact fun j hj => ⟨(hob j hj).1, by have := (ho.lt j hj).1; omega, by simp only [size_set]; have := (ho.lt j hj).2; omega⟩
  · exact SliceI.keep he hq hcc (fun _ _ _ h => h)
  · exact SliceI.keep hb hq hcc (fun s cs _ h => h.keep hq hcc)
  · exact own_stay hp (fun j hj => heap_set_ne w3 _ _ (hp.lt j hj).2 (by have := (hp.lt j hj).1; show j ≠ yb; omega))
  · exact fun j hj => ⟨by show j < (w3.setCell _ _).heap.size; simp only [size_set]; exact (hp.lt j hj).2, by have := (hp.lt j hj).1; omega, by simp only [size_set]; exact (hp.lt j hj).2⟩
set_option maxHeartbeats 8000000 in
set_option maxRecDepth 100000 in
theorem Put_own {w w2 W : World} {Q Q2 : Nat → Prop} {p : Pg} {t : S} {g0 g1 c0 c1 c2 c3 c4 c5 c6 c7 c8 c9 c10 c11 c12 : Value} (h : ProgI w Q p [g0, g1]) (ht : StmtI w2 Q2 t [c0, c1, c2, c3, c4, c5, c6, c7, c8, c9, c10, c11, c12]) (hI : In Q w W) (hI2 : In Q2 w2 W) (hsm : SmG p) (hwt : okC t) :
    Calls Try.prog 106 #[.agg #[g0, g1], .agg #[c0, c1, c2, c3, c4, c5, c6, c7, c8, c9, c10, c11, c12]] W fun e w' => ∃ d0 d1, e = .returned (.agg #[d0, d1]) ∧ Below W.heap.size W w' ∧ ∃ base outs, W.heap.size ≤ base ∧ base ≤ w'.heap.size ∧ w'.ownsRow W.heap.size 9 1 d0 p.globals.length (strs p.globals) ∧ (∀ j, d0.ownBlock = some j → j < base) ∧ outs.map Prod.fst = p.procs.map (putPr t) ∧ Apart base w'.heap.size outs ∧ BuildI w' base 59 5 PrK outs d1 := by
  have HPu : Hid (∀ (l : List S) {A : Option Addr} {cap : Nat} {V : World}, StmtsI w Q l (.slice A l.length cap) → In Q w V → In Q2 w2 V → wSL l ≤ 1000000 → Calls Try.prog 158 #[.slice A l.length cap, .agg #[c0, c1, c2, c3, c4, c5, c6, c7, c8, c9, c10, c11, c12]] V (PutOk (putSL t l) V)) := Lib.hid (fun l => put_any ht hwt ((preSL l).length + 1) l (by omega))
  obtain ⟨tid, tkind, tlabels, tnm, tproc, tx, thas, targs, tth, tel, tL, tlc, tx0, tx1, tx2, tX, txn, txc, tR, trc, tT, ttc, tU, tuc, hts, hcs, _⟩ := stmt_open ht
  simp only [List.cons.injEq, and_true] at hcs
  obtain ⟨rfl, rfl, rfl, rfl, rfl, rfl, rfl, rfl, rfl, rfl, rfl, rfl, rfl⟩ := hcs
  obtain ⟨Ag, cg, Ap, cp, rfl, rfl, hg1, hg2, hp1, hp2, hgl, hpr⟩ := prog_open h
  obtain ⟨i0, hi0, hz0, hz1, hz2⟩ := info_parts proc_info
  obtain ⟨i1, hi1, hy0, hy1, hy2⟩ := info_parts par_info
  have hsmg := smT_of hsm.globals
  have HTx := Lib.hid (fun V hV => texts_own_any (W := V) hgl hV hsmg.1 (fun s hs => Nat.le_trans (hsmg.2 s hs) (by omega)))
  have HP := Lib.hid hpr
  have HI := Lib.hid hI
  have HI2 := Lib.hid hI2
  have HSm := Lib.hid hsm
  have hpl : p.procs.length ≤ 1000000 := hsm.procs
  clear h ht hI hI2 hsm hwt hgl hpr hts hsmg
  go_enter Try.func106, Try.ntmps106
  go_upto_region 1 with fail
  have HBp : Hid (Blk (((W.alloc (.cells #[.slice Ag p.globals.length cg, .slice Ap p.procs.length cp] 25)).alloc (.cells #[.int .i64 tid, .int .i64 tkind, .slice tL tlabels.length tlc, .string tnm, .string tproc, .int .i64 tx0, .int .i64 tx1, .string tx2, .slice tX txn txc, .bool thas, .slice tR targs.length trc, .slice tT tth.length ttc, .slice tU tel.length tuc] 64)).alloc (.cells #[.slice none 0 0, .slice none 0 0] 25)) W.heap.size 25 #[.slice Ag p.globals.length cg, .slice Ap p.procs.length cp]) := Lib.hid (((Blk.new _ _ _).alloc _).alloc _)
  have HBt : Hid (Blk (((W.alloc (.cells #[.slice Ag p.globals.length cg, .slice Ap p.procs.length cp] 25)).alloc (.cells #[.int .i64 tid, .int .i64 tkind, .slice tL tlabels.length tlc, .string tnm, .string tproc, .int .i64 tx0, .int .i64 tx1, .string tx2, .slice tX txn txc, .bool thas, .slice tR targs.length trc, .slice tT tth.length ttc, .slice tU tel.length tuc] 64)).alloc (.cells #[.slice none 0 0, .slice none 0 0] 25)) (W.heap.size + 1) 64 #[.int .i64 tid, .int .i64 tkind, .slice tL tlabels.length tlc, .string tnm, .string tproc, .int .i64 tx0, .int .i64 tx1, .string tx2, .slice tX txn txc, .bool thas, .slice tR targs.length trc, .slice tT tth.length ttc, .slice tU tel.length tuc]) := Lib.hid ((blk22 _ _ _ _).alloc _)
  have HBr : Hid (Blk (((W.alloc (.cells #[.slice Ag p.globals.length cg, .slice Ap p.procs.length cp] 25)).alloc (.cells #[.int .i64 tid, .int .i64 tkind, .slice tL tlabels.length tlc, .string tnm, .string tproc, .int .i64 tx0, .int .i64 tx1, .string tx2, .slice tX txn txc, .bool thas, .slice tR targs.length trc, .slice tT tth.length ttc, .slice tU tel.length tuc] 64)).alloc (.cells #[.slice none 0 0, .slice none 0 0] 25)) (W.heap.size + 1 + 1) 25 #[.slice none 0 0, .slice none 0 0]) := Lib.hid (by have := Blk.new ((W.alloc (.cells #[.slice Ag p.globals.length cg, .slice Ap p.procs.length cp] 25)).alloc (.cells #[.int .i64 tid, .int .i64 tkind, .slice tL tlabels.length tlc, .string tnm, .string tproc, .int .i64 tx0, .int .i64 tx1, .string tx2, .slice tX txn txc, .bool thas, .slice tR targs.length trc, .slice tT tth.length ttc, .slice tU tel.length tuc] 64)) 25 #[.slice none 0 0, .slice none 0 0]; simpa using this)
  have HB0 : Hid (Below W.heap.size W (((W.alloc (.cells #[.slice Ag p.globals.length cg, .slice Ap p.procs.length cp] 25)).alloc (.cells #[.int .i64 tid, .int .i64 tkind, .slice tL tlabels.length tlc, .string tnm, .string tproc, .int .i64 tx0, .int .i64 tx1, .string tx2, .slice tX txn txc, .bool thas, .slice tR targs.length trc, .slice tT tth.length ttc, .slice tU tel.length tuc] 64)).alloc (.cells #[.slice none 0 0, .slice none 0 0] 25))) := Lib.hid (below_stepA (below_two _ _) _)
  generalize World.alloc _ _ = V0 at HBp HBt HBr HB0 ⊢
  have hQ : ∀ j, Q j → j < W.heap.size := HI.out.1
  have hQ2 : ∀ j, Q2 j → j < W.heap.size := HI2.out.1
  have HQ := Lib.hid hQ
  have HQ2 := Lib.hid hQ2
  clear hQ hQ2
  have p0 : V0.cell? ⟨W.heap.size, 0, none⟩ = some (.slice Ag p.globals.length cg) := by rw [HBp.out.cell]; rfl
  have hpb := HBp.out.lt
  go_upto_region 2 with (go_at_call 157; refine (HTx.out _ (HI.out.on HB0.out)).mono ?_; rintro e q1 ⟨v1, rfl, hb1, ht1⟩; obtain ⟨G', gc', rfl, hl1, hl2⟩ := own_form ht1)
  clear p0 hpb
  have HIa : Hid (In Q w q1) := Lib.hid ((HI.out.on HB0.out).on hb1)
  have HS : Hid (PtK w Q w2 Q2 W (q1.alloc (.cells #[.slice G' p.globals.length gc', .slice none 0 0] 25)) (q1.alloc (.cells #[.slice G' p.globals.length gc', .slice none 0 0] 25)) (W.heap.size + 1) (W.heap.size + 1 + 1) q1.heap.size #[.int .i64 tid, .int .i64 tkind, .slice tL tlabels.length tlc, .string tnm, .string tproc, .int .i64 tx0, .int .i64 tx1, .string tx2, .slice tX txn txc, .bool thas, .slice tR targs.length trc, .slice tT tth.length ttc, .slice tU tel.length tuc] p.globals (.slice G' p.globals.length gc') [] none 0 0) := Lib.hid
    ⟨(HBt.out.below hb1 HBt.out.lt).alloc _, (HBr.out.below hb1 HBr.out.lt).alloc _, Blk.new _ _ _, BuildI.nil _ _ _ _ _, ⟨List.Pairwise.nil, fun _ h => by cases h⟩, HIa.out.alloc _, ((HI2.out.on HB0.out).on hb1).alloc _, Nat.le_refl _, below_stepA (below_step HB0.out hb1) _,
      own_stay (own_lo ht1 (by have := HBr.out.lt; omega)) (fun j hj => Below.heap_alloc _ _ _ (ht1.lt j hj).2), fun j hj => ⟨by rw [World.size_alloc]; have := (ht1.lt j hj).2; omega, by have := (ht1.lt j hj).2; omega⟩⟩
  have hqr : W.heap.size + 1 + 1 < q1.heap.size := (HBr.out.below hb1 HBr.out.lt).lt
  have HBp1 := Lib.hid ((HBp.out.below hb1 HBp.out.lt).alloc (.cells #[.slice G' p.globals.length gc', .slice none 0 0] 25))
  have hqw : q1.heap.size < (q1.alloc (.cells #[.slice G' p.globals.length gc', .slice none 0 0] 25)).heap.size := by simp
  clear ht1 hb1 HIa HBp HBt HBr HB0 HTx
  generalize World.alloc _ _ = W1 at HS HBp1 hqw ⊢
  generalize q1.heap.size = qb at HS hqr hqw ⊢
  generalize hW0 : W.heap.size = b0 at HS hqr HQ HQ2 HBp1 ⊢
  have hb0 : W.heap.size ≤ b0 := by omega
  clear hW0
  generalize htb : b0 + 1 = tb at HS hqr ⊢
  have htb_ : b0 < tb := by omega
  clear htb
  generalize hrb : tb + 1 = rb at HS hqr ⊢
  have hrb_ : tb < rb := by omega
  clear hrb
  have p1 : W1.cell? ⟨b0, 1, none⟩ = some (.slice Ap p.procs.length cp) := by rw [HBp1.out.cell]; rfl
  have hpb := HBp1.out.lt
  go_wp2_with fail
  clear p1 hpb HBp1
  go_loopg [16] p.procs.length (fun kk iv wr => ∃ (k : Nat) (Xo : Option Addr) (co : Nat) (outs : List (Pr × Nat × Nat)), k + kk = p.procs.length ∧ iv = .int .i64 k ∧ outs.map Prod.fst = (p.procs.map (putPr t)).take k ∧ Hid (PtK w Q w2 Q2 W W1 wr tb rb qb #[.int .i64 tid, .int .i64 tkind, .slice tL tlabels.length tlc, .string tnm, .string tproc, .int .i64 tx0, .int .i64 tx1, .string tx2, .slice tX txn txc, .bool thas, .slice tR targs.length trc, .slice tT tth.length ttc, .slice tU tel.length tuc] p.globals (.slice G' p.globals.length gc') outs Xo k co))
  case atStart => exact ⟨0, none, 0, [], by omega, rfl, rfl, HS⟩
  case round =>
    clear HS
    obtain ⟨k, Xo, co, outs, hk, rfl, hfst, HR⟩ := hrel
    have htk : outs.length = k := by rw [← List.length_map (f := Prod.fst), hfst, List.length_take, List.length_map]; omega
    have HF := Lib.hid hfst
    clear hfst
    obtain ⟨rows, hO, hAl⟩ := HR.out.row
    obtain ⟨_, _, hXe, hko, hco⟩ := own_form hO
    rw [htk] at hXe hko
    injection hXe with hX1 hX2 hX3
    subst hX1 hX3
    have HO := Lib.hid hO
    have HAl := Lib.hid hAl
    clear hO hAl hX2
    by_cases hlt : k < p.procs.length
    · obtain ⟨a, Bp, kp, Bv, kv, Bb, kb, Be, ke, rfl, _, hrow, hnm, hpp, hvv, hbody, hee⟩ := proc_at HP.out HR.out.inn hlt
      have hsq := HSm.out.proc p.procs[k] (List.getElem_mem hlt)
      have htake : (p.procs.map (putPr t)).take (k + 1) = (p.procs.map (putPr t)).take k ++ [putPr t p.procs[k]] := by rw [List.take_succ_eq_append_getElem (by rw [List.length_map]; exact hlt), List.getElem_map]
      generalize p.procs[k] = x at hrow hnm hpp hvv hbody hee hsq htake
      obtain ⟨pn, pp, pv, pb, pe⟩ := x
      simp only [putPr] at hrow hnm hpp hvv hbody hee hsq htake
      obtain ⟨p0, p1, p2, p3, p4, _⟩ := hrow
      have s1 := smT_of hsq.2.1
      have HSv : Hid (∀ s ∈ pv, s.size ≤ 9223372036854775807) := Lib.hid (fun s hs => Nat.le_trans (s1.2 s hs) (by omega))
      have s2 := smT_of hsq.2.2.1
      have HV := Lib.hid (fun V hV => texts_own_any (W := V) hvv hV s1.1 (fun s hs => Nat.le_trans (s1.2 s hs) (by omega)))
      have HE := Lib.hid (fun V hV => texts_any (W := V) hee hV s2.1 (fun s hs => Nat.le_trans (s2.2 s hs) (by omega)))
      have HBd := Lib.hid (fun V h1 h2 => HPu.out pb (V := V) hbody h1 h2 hsq.1)
      have HPp := Lib.hid hpp
      have HNm := Lib.hid hnm
      have hppl : pp.length ≤ 1000000 := hsq.2.2.2
      obtain ⟨_, _, e0, hpc1, hpc2⟩ := hpp.shape
      injection e0 with e1 e2 e3
      subst e1 e3
      have HTk := Lib.hid htake
      have hzr := HR.out.size
      clear hvv hee hbody hpp hnm hsq s1 s2 htake e2
      go_upto_region 5 with fail
      have HBx : Hid (Blk (wr.alloc (.cells #[.string pn, .slice Bp pp.length kp, .slice Bv pv.length kv, .slice Bb pb.length kb, .slice Be pe.length ke] 59)) wr.heap.size 59 #[.string pn, .slice Bp pp.length kp, .slice Bv pv.length kv, .slice Bb pb.length kb, .slice Be pe.length ke]) := Lib.hid (Blk.new _ _ _)
      have HBa : Hid (Below wr.heap.size wr (wr.alloc (.cells #[.string pn, .slice Bp pp.length kp, .slice Bv pv.length kv, .slice Bb pb.length kb, .slice Be pe.length ke] 59))) := Lib.hid (below_box _)
      clear p0 p1 p2 p3 p4
      generalize World.alloc _ _ = wa at HBx HBa ⊢
      obtain ⟨xb, hxb⟩ : ∃ xb, xb = wr.heap.size := ⟨_, rfl⟩
      rw [← hxb] at HBx ⊢
      have hxge : wr.heap.size ≤ xb := by omega
      clear hxb
      have HBt := Lib.hid (HR.out.bt.below HBa.out HR.out.bt.lt)
      have HK : Hid (xb < wa.heap.size ∧ tb < wa.heap.size ∧ wa.cell? ⟨xb, 0, none⟩ = some (.string pn) ∧ wa.cell? ⟨xb, 2, none⟩ = some (.slice Bv pv.length kv) ∧ wa.cell? ⟨xb, 3, none⟩ = some (.slice Bb pb.length kb) ∧ wa.cell? ⟨xb, 4, none⟩ = some (.slice Be pe.length ke) ∧ wa.cell? ⟨tb, 0, none⟩ = some (.int .i64 tid) ∧ wa.cell? ⟨tb, 1, none⟩ = some (.int .i64 tkind) ∧ wa.cell? ⟨tb, 2, none⟩ = some (.slice tL tlabels.length tlc) ∧ wa.cell? ⟨tb, 3, none⟩ = some (.string tnm) ∧ wa.cell? ⟨tb, 4, none⟩ = some (.string tproc) ∧ wa.cell? ⟨tb, 5, none⟩ = some (.int .i64 tx0) ∧ wa.cell? ⟨tb, 6, none⟩ = some (.int .i64 tx1) ∧ wa.cell? ⟨tb, 7, none⟩ = some (.string tx2) ∧ wa.cell? ⟨tb, 8, none⟩ = some (.slice tX txn txc) ∧ wa.cell? ⟨tb, 9, none⟩ = some (.bool thas) ∧ wa.cell? ⟨tb, 10, none⟩ = some (.slice tR targs.length trc) ∧ wa.cell? ⟨tb, 11, none⟩ = some (.slice tT tth.length ttc) ∧ wa.cell? ⟨tb, 12, none⟩ = some (.slice tU tel.length tuc)) := Lib.hid ⟨HBx.out.lt, HBt.out.lt, by rw [HBx.out.cell]; rfl, by rw [HBx.out.cell]; rfl, by rw [HBx.out.cell]; rfl, by rw [HBx.out.cell]; rfl, by rw [HBt.out.cell]; rfl, by rw [HBt.out.cell]; rfl, by rw [HBt.out.cell]; rfl, by rw [HBt.out.cell]; rfl, by rw [HBt.out.cell]; rfl, by rw [HBt.out.cell]; rfl, by rw [HBt.out.cell]; rfl, by rw [HBt.out.cell]; rfl, by rw [HBt.out.cell]; rfl, by rw [HBt.out.cell]; rfl, by rw [HBt.out.cell]; rfl, by rw [HBt.out.cell]; rfl, by rw [HBt.out.cell]; rfl⟩
      have hBD : Below wa.heap.size wa wa.drew := (Below.refl _ _).drew
      have hBA : Below wa.heap.size wa (wa.alloc (.cells zR 59)).drew := (below_box _).drew
      have L0 := HBx.out.lt
      have L1 := HBt.out.lt
      have HIV := Lib.hid (HR.out.inn.on HBa.out)
      have HIV2 := Lib.hid (HR.out.in2.on HBa.out)
      go_cut [8] from 20 to 32 (fun s wx => ∃ yb Av' cv' Ab' cb' Ae' ce', s = .pointer (some ⟨yb, 0, none⟩) ∧ Hid (PtAK wa wx yb pn pv pe (putSL t pb) (.slice Av' pv.length cv') (.slice Ab' (putSL t pb).length cb') (.slice Ae' pe.length ce')))
      case first =>
        go_region_held3 (fun w' => w'.cell? ⟨xb, 0, none⟩ = some (.string pn) ∧ w'.cell? ⟨xb, 2, none⟩ = some (.slice Bv pv.length kv) ∧ w'.cell? ⟨xb, 3, none⟩ = some (.slice Bb pb.length kb) ∧ w'.cell? ⟨xb, 4, none⟩ = some (.slice Be pe.length ke) ∧ w'.cell? ⟨tb, 0, none⟩ = some (.int .i64 tid) ∧ w'.cell? ⟨tb, 1, none⟩ = some (.int .i64 tkind) ∧ w'.cell? ⟨tb, 2, none⟩ = some (.slice tL tlabels.length tlc) ∧ w'.cell? ⟨tb, 3, none⟩ = some (.string tnm) ∧ w'.cell? ⟨tb, 4, none⟩ = some (.string tproc) ∧ w'.cell? ⟨tb, 5, none⟩ = some (.int .i64 tx0) ∧ w'.cell? ⟨tb, 6, none⟩ = some (.int .i64 tx1) ∧ w'.cell? ⟨tb, 7, none⟩ = some (.string tx2) ∧ w'.cell? ⟨tb, 8, none⟩ = some (.slice tX txn txc) ∧ w'.cell? ⟨tb, 9, none⟩ = some (.bool thas) ∧ w'.cell? ⟨tb, 10, none⟩ = some (.slice tR targs.length trc) ∧ w'.cell? ⟨tb, 11, none⟩ = some (.slice tT tth.length ttc) ∧ w'.cell? ⟨tb, 12, none⟩ = some (.slice tU tel.length tuc) ∧ Below wa.heap.size wa w')
          ((refine sp_of ?_ HK.out; first | (with_reducible assumption) | (go_split_ands; with_reducible assumption) | (go_split_ands; (with_reducible refine below_stepA ?_ _); with_reducible assumption) | (go_split_ands; (iterate 5 (with_reducible refine below_setc ?_ (by first | exact Nat.le_refl _ | exact hB1.size | exact hB2.size | exact hB3.size) _)); with_reducible assumption)))
          (first
            | ((go_at_call 158; have hBU3 := below_step (V := wa) (by go_split_ands; assumption) (Below.refl _ _); refine (HBd.out _ (HIV.out.on hBU3) (HIV2.out.on hBU3)).mono ?_; rintro e q3 ⟨v3, rfl, hb3, hs3⟩; obtain ⟨Ab', cb', rfl, hl5, hl6⟩ := hs3.shape; have hB3 := below_step (V := wa) (by go_split_ands; assumption) hb3; try (first | (have z3 : Hid (Blk q3 wa.heap.size 59 zR) := Lib.hid (z2.out.below hb3 z2.out.lt)) | (have z3 : Hid (Blk q3 q1.heap.size 59 zR) := Lib.hid (z2.out.below hb3 z2.out.lt)) | (have z3 : Hid (Blk q3 q2.heap.size 59 zR) := Lib.hid ((Blk.new q2 59 zR).below hb3 (by simp)))); try (obtain ⟨⟨z0_, z1_, z2_, z3_, z4_⟩, f0_, f1_, f2_, f3_, f4_⟩ := blkR5 z3.out)))
            | ((go_at_call 157; have hBU1 := below_step (V := wa) (by go_split_ands; assumption) (Below.refl _ _); with_reducible refine (HV.out _ (HIV.out.on hBU1)).mono ?_; rintro e q1 ⟨v1, rfl, hb1, ht1⟩; obtain ⟨Av', cv', rfl, hl1, hl2⟩ := own_form ht1; have hB1 := below_step (V := wa) (by go_split_ands; assumption) hb1; try (have z1 : Hid (Blk q1 wa.heap.size 59 zR) := Lib.hid ((Blk.new wa.drew 59 zR).below hb1 (by simp)))))
            | ((go_at_call 157; have hBU2 := below_step (V := wa) (by go_split_ands; assumption) (Below.refl _ _); with_reducible refine (HE.out _ (HIV.out.on hBU2)).mono ?_; rintro e q2 ⟨v2, rfl, hb2, ht2⟩; obtain ⟨Ae', ce', rfl, hl3, hl4⟩ := ht2.shape; have hB2 := below_step (V := wa) (by go_split_ands; assumption) hb2; try (first | (have z2 : Hid (Blk q2 wa.heap.size 59 zR) := Lib.hid (z1.out.below hb2 z1.out.lt)) | (have z2 : Hid (Blk q2 q1.heap.size 59 zR) := Lib.hid ((Blk.new q1 59 zR).below hb2 (by simp)))))))
        · go_wp2_with fail
          go_meet
          exact ⟨_, Av', cv', Ab', cb', Ae', ce', rfl, Lib.hid (ptAK_of HSv.out (Blk.new _ _ _) (below_stepA hB3 _) hB3.size (by simp) (fun b hb _ => (below_box _).block b hb) hb2 hb3 hBU1.size (by first | exact Nat.le_refl _ | (rw [World.size_alloc]; omega) | simp) (by first | exact Nat.le_refl _ | (rw [World.size_alloc]; omega) | simp) hb1.size ht1 ht2 hs3 (.inr (Nat.le_trans hb2.size hb3.size)) (.inr hb3.size) (.inr (Nat.le_refl _)))⟩
        · go_wp2_with fail
          go_meet
          exact ⟨_, Av', cv', Ab', cb', Ae', ce', rfl, Lib.hid (ptAK_of HSv.out (set5_blk z3.out) (set5_below hB3 hB2.size) hB2.size (by rw [set5_size]; exact Nat.le_refl _) (fun b hb hne => set5_heap hb hne) hb2 (below_new hb3) hBU1.size (by first | exact Nat.le_refl _ | (rw [World.size_alloc]; omega) | simp) (by first | exact Nat.le_refl _ | (rw [World.size_alloc]; omega) | simp) hb1.size ht1 ht2 hs3 (.inr hb2.size) (.inr (Nat.le_refl _)) (.inl (by simp)))⟩
        · go_wp2_with fail
          go_meet
          exact ⟨_, Av', cv', Ab', cb', Ae', ce', rfl, Lib.hid (ptAK_of HSv.out (set5_blk z3.out) (set5_below hB3 hB1.size) hB1.size (by rw [set5_size]; exact Nat.le_refl _) (fun b hb hne => set5_heap hb hne) (below_new hb2) hb3 hBU1.size (by first | exact Nat.le_refl _ | (rw [World.size_alloc]; omega) | simp) (by first | exact Nat.le_refl _ | (rw [World.size_alloc]; omega) | simp) hb1.size ht1 ht2 hs3 (.inr (Nat.le_refl _)) (.inl (by simp)) (.inl z2.out.lt))⟩
        · go_wp2_with fail
          go_meet
          exact ⟨_, Av', cv', Ab', cb', Ae', ce', rfl, Lib.hid (ptAK_of HSv.out (set5_blk z3.out) (set5_below hB3 (Nat.le_refl _)) (Nat.le_refl _) (by rw [set5_size]; exact Nat.le_refl _) (fun b hb hne => set5_heap hb hne) hb2 hb3 hBU1.size (by first | exact Nat.le_refl _ | (rw [World.size_alloc]; omega) | simp) (by first | exact Nat.le_refl _ | (rw [World.size_alloc]; omega) | simp) hb1.size ht1 ht2 hs3 (.inl (by simp)) (.inl z1.out.lt) (.inl z2.out.lt))⟩
      case rest =>
        obtain ⟨yb, Av', cv', Ab', cb', Ae', ce', rfl, HA⟩ := hcut
        have HBx1 := Lib.hid (HBx.out.below HA.out.below L0)
        have HIc := Lib.hid (HIV.out.on HA.out.below)
        have y1c : wc.cell? ⟨yb, 1, none⟩ = some (.slice none 0 0) := by rw [HA.out.blk.cell]; rfl
        have x1c : wc.cell? ⟨xb, 1, none⟩ = some (.slice Bp pp.length kp) := by rw [HBx1.out.cell]; rfl
        have y1f := HA.out.blk.frozen 1
        have hyl := HA.out.blk.lt
        have hxl := HBx1.out.lt
        clear HK hBD hBA L0 L1 HIV HIV2 HBx HBt HBd HV HE
        go_upto_region 6 with fail
        go_cut [8] from 33 to 38 (fun s wx => ∃ Cp' cc', s = .pointer (some ⟨yb, 0, none⟩) ∧ Hid (PtBK wr wx yb ⟨pn, pp, pv, putSL t pb, pe⟩ (.string pn) (.slice Cp' pp.length cc') (.slice Av' pv.length cv') (.slice Ab' (putSL t pb).length cb') (.slice Ae' pe.length ce')))
        case first =>
          by_cases h0 : 0 < pp.length
          rotate_left
          · obtain rfl : pp = [] := List.eq_nil_of_length_eq_zero (by omega)
            clear h0
            cases Bp with
            | none =>
              go_wp2_with fail
              go_meet
              exact ⟨none, 0, rfl, Lib.hid (ptBK_of HA.out HBa.out (Below.refl _ _) (fun _ h => by cases h) (World.ownsRow_nil _ _ _ _) HNm.out)⟩
            | some ap =>
              go_wp2_with fail
              go_meet
              exact ⟨none, 0, rfl, Lib.hid (ptBK_of HA.out HBa.out (Below.refl _ _) (fun _ h => by cases h) (World.ownsRow_nil _ _ _ _) HNm.out)⟩
          · obtain ⟨ap, rfl, _, _⟩ := par_at HPp.out HIc.out (k := 0) h0
            have HCp := Lib.hid (parCells_at HPp.out HIc.out)
            have HPs := Lib.hid (par_small HPp.out)
            clear HPp
            go_wp2_with (at_builtin; refine wpList_append_own_at _ rfl (.tmp 34) (.tmp 36) 56 rfl wc.heap.size 61 i1 _ 2 24 Try.underlying56 hi1 hy0 hy1 hy2 rfl (by decide) _ 0 [] rfl (World.ownsRow_nil _ _ _ _) ap pp.length kp (parCells pp).flatten rfl (parCells_len pp) HCp.out (parCells_one pp) (by unfold maxLen; omega) (by omega) (Nat.le_refl _) ?_)
            intro v' w3 hown3 hg3 _ hat3
            have hb3 : Below wc.heap.size wc w3 := (Below.refl _ _).grown hg3 (Nat.le_refl _) (by simp [Value.ownBlock])
            have HB3 := Lib.hid hb3
            have y1d : w3.cell? ⟨yb, 1, none⟩ = some (.slice none 0 0) := (hb3.cell (p := ⟨yb, 1, none⟩) hyl).trans y1c
            have y1g : w3.frozen? ⟨yb, 1, none⟩ = false := (hb3.frozen (p := ⟨yb, 1, none⟩) hyl).trans y1f
            have hyl3 := Nat.lt_of_lt_of_le hyl hb3.size
            have hown3' : w3.ownsRow wc.heap.size 61 2 v' pp.length (parCells pp).flatten := by simpa using hown3
            have HPo := Lib.hid hown3'
            clear hown3'
            obtain ⟨Cp', cc', rfl, _, _⟩ := own_form hown3
            clear hown3 hg3 hat3 hb3
            go_wp2_with fail
            go_meet
            exact ⟨Cp', cc', rfl, Lib.hid (ptBK_of HA.out HBa.out HB3.out HPs.out HPo.out HNm.out)⟩
        case rest =>
          obtain ⟨Cp', cc', rfl, HB⟩ := hcut
          clear y1c x1c y1f hyl hxl HA HBx1 HIc HPp HNm HBa
          have HR5 := Lib.hid (HR.out.on HB.out.below)
          have hO5 := (Below.moves HB.out.below).row HO.out (fun j hj e => Nat.not_lt.2 e (HO.out.lt j hj).2)
          have HO5 := Lib.hid hO5
          rw [htk] at hO5
          have HO5k := Lib.hid hO5
          clear hO5
          have HAl5 := Lib.hid (HAl.out.imp fun x cs h => stayK h (Q' := fun j => (W1.heap.size ≤ j ∧ j < wc.heap.size) ∧ (Value.slice Xo k co).ownBlock ≠ some j) (fun j h => ⟨⟨h.1.1, Nat.lt_of_lt_of_le h.1.2 HB.out.below.size⟩, h.2⟩) (fun b hb => HB.out.below.block b hb.1.2))
          have HNw := Lib.hid (new16 wc 59 [.string pn, .slice Cp' pp.length cc', .slice Av' pv.length cv', .slice Ab' (putSL t pb).length cb', .slice Ae' pe.length ce'])
          have hcb : W1.heap.size ≤ wc.heap.size + 1 := by have := HB.out.below.size; omega
          have HRl : Hid (∀ j, (Value.slice Xo k co).ownBlock = some j → j < wr.heap.size) := Lib.hid (fun j hj => (HO.out.lt j hj).2)
          obtain ⟨⟨y0_, y1_, y2_, y3_, y4_⟩, _⟩ := blkR5 HB.out.blk
          have q1c : wc.cell? ⟨qb, 1, none⟩ = some (.slice Xo k co) := by rw [HR5.out.bq.cell]; rfl
          have hyl := HB.out.blk.lt
          have hql := HR5.out.bq.lt
          go_wp2_with (at_builtin; refine wpList_append_own_at _ rfl (.tmp 40) (.tmp 42) 23 rfl W1.heap.size 59 i0 _ 5 112 Try.underlying23 hi0 hz0 hz1 hz2 rfl (by decide) _ k rows.flatten rfl (HO5k.out.alloc _) ⟨wc.heap.size, 0, none⟩ 1 1 [.string pn, .slice Cp' pp.length cc', .slice Av' pv.length cv', .slice Ab' (putSL t pb).length cb', .slice Ae' pe.length ce'] rfl rfl HNw.out (by simp [Value.oneCell']) (by unfold maxLen; omega) (by omega) (by rw [World.size_alloc]; exact hcb) ?_)
          intro v' w6 hown6 hg6 _ hat6
          obtain ⟨⟨X6, c6, rfl, hP6⟩, hbq6⟩ := ptK_step HR5.out htk.symm (by omega) (by omega) hqw (by omega) (fun j hj => by have := HQ.out j hj; omega) (fun j hj => by have := HQ2.out j hj; omega) hzr HR.out.ap HRl.out rfl rfl HB.out.below.size HB.out.proc HO5.out HAl5.out hown6 hg6 (hat6.imp Eq.symm (fun h => by rw [h, World.size_alloc]))
          have HP6 := Lib.hid hP6
          have q1d : w6.cell? ⟨qb, 1, none⟩ = some (.slice Xo k co) := by rw [hbq6.cell]; rfl
          have q1f := hbq6.frozen 1
          have hql6 := hbq6.lt
          clear hown6 hg6 hat6 hP6 hbq6 q1c y0_ y1_ y2_ y3_ y4_
          go_wp2_with fail
          go_roundg (p.procs.length - k - 1)
          case measure => omega
          case rel => exact ⟨k + 1, X6, c6, _, by omega, by go_num, by rw [List.map_append, HF.out, HTk.out]; rfl, Lib.hid HP6.out⟩
    · have hke : k = p.procs.length := by omega
      subst hke
      have q0c : wr.cell? ⟨qb, 0, none⟩ = some (.slice G' p.globals.length gc') := by rw [HR.out.bq.cell]; rfl
      have q1c : wr.cell? ⟨qb, 1, none⟩ = some (.slice Xo p.procs.length co) := by rw [HR.out.bq.cell]; rfl
      have r0c : wr.cell? ⟨rb, 0, none⟩ = some (.slice none 0 0) := by rw [HR.out.br.cell]; rfl
      have r1c : wr.cell? ⟨rb, 1, none⟩ = some (.slice none 0 0) := by rw [HR.out.br.cell]; rfl
      have f0 := HR.out.br.frozen 0
      have f1 := HR.out.br.frozen 1
      have hl1 := HR.out.bq.lt
      have hl2 := HR.out.br.lt
      go_wp2_with fail
      (try simp only [Exit.inBlock, Exit.then])
      refine bodyPost_ret (results_cell_row rfl _ _ rb 25 _ (0, 0) _ rfl ((HR.out.br.set_ 0 _).set_ 1 _) Try.underlying25 rfl (by kernel_rfl)) rfl ⟨_, _, rfl, below_setc (below_setc HR.out.below (by show W.heap.size ≤ rb; omega) _) (by show W.heap.size ≤ rb; omega) _, W1.heap.size, outs, by omega, by simp only [size_set]; exact HR.out.size, ?_, fun j hj => (HR.out.globb j hj).1, ?_, by simp only [size_set]; exact HR.out.ap, ?_⟩
      · refine own_stay (own_stay (own_lo HR.out.glob (by omega)) (fun j hj => heap_set_ne _ ⟨rb, 0, none⟩ _ (HR.out.glob.lt j hj).2 ?_)) (fun j hj => heap_set_ne _ ⟨rb, 1, none⟩ _ (by simp only [size_set]; exact (HR.out.glob.lt j hj).2) ?_)
        · have := (HR.out.glob.lt j hj).1; show j ≠ rb; omega
        · have := (HR.out.glob.lt j hj).1; show j ≠ rb; omega
      · rw [HF.out, List.take_of_length_le (by rw [List.length_map]; omega)]
      · exact BuildI.setH (R := PrK) stayK (BuildI.setH (R := PrK) stayK HR.out.row (p := ⟨rb, 0, none⟩) (by show rb < W1.heap.size; omega) _) (p := ⟨rb, 1, none⟩) (by show rb < W1.heap.size; omega) _
end Go.Proofs.Ytcocilpifdjibaa
