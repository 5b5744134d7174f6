/- Texts, merged by a program; only what is used. -/
import Derived.Test.YtcocilpifdjibaaK1
import Derived.Test.YtcocilpifdjibaaK2
import Derived.Test.YtcocilpifdjibaaK3
import Derived.Test.YtcocilpifdjibaaK4
import Derived.Test.YtcocilpifdjibaaK5
import Derived.Test.YtcocilpifdjibaaK6
import Derived.Test.YtcocilpifdjibaaK7
import Derived.Test.YtcocilpifdjibaaK8
import Derived.Test.YtcocilpifdjibaaK9
import Derived.Test.YtcocilpifdjibaaK10
import Derived.Test.YtcocilpifdjibaaK11
import Derived.Test.YtcocilpifdjibaaK12
import Derived.Test.YtcocilpifdjibaaK13
import Derived.Test.YtcocilpifdjibaaK14
namespace Go.Proofs.Ytcocilpifdjibaa
open Go.ChangeShapes Go.WideShapes Go.ChangeAt Go.RowKit Go.Deep
set_option linter.unusedVariables false
set_option linter.unusedSimpArgs false
theorem stmt_info : (Try.prog.info? 64).map (fun i => (i.zero, i.size, i.bytes)) = some (some (.agg zS), 13, 208) := by kernel_rfl
theorem stayS : Stays (fun w Q => StmtI w Q) := fun h hQ hc => h.keep hQ hc
theorem set13_any {w : World} {b : Nat} {e0 e1 e2 e3 e4 e5 e6 e7 e8 e9 e10 e11 e12 d0 d1 d2 d3 d4 d5 d6 d7 d8 d9 d10 d11 d12 : Value} (h : Blk w b 64 #[e0, e1, e2, e3, e4, e5, e6, e7, e8, e9, e10, e11, e12]) : Blk (World.setCell (World.setCell (World.setCell (World.setCell (World.setCell (World.setCell (World.setCell (World.setCell (World.setCell (World.setCell (World.setCell (World.setCell (World.setCell w ⟨b, 0, none⟩ (d0)) ⟨b, 1, none⟩ (d1)) ⟨b, 2, none⟩ (d2)) ⟨b, 3, none⟩ (d3)) ⟨b, 4, none⟩ (d4)) ⟨b, 5, none⟩ (d5)) ⟨b, 6, none⟩ (d6)) ⟨b, 7, none⟩ (d7)) ⟨b, 8, none⟩ (d8)) ⟨b, 9, none⟩ (d9)) ⟨b, 10, none⟩ (d10)) ⟨b, 11, none⟩ (d11)) ⟨b, 12, none⟩ (d12)) b 64 #[d0, d1, d2, d3, d4, d5, d6, d7, d8, d9, d10, d11, d12] := by
  have := (((((((((((((h.set_ 0 d0).set_ 1 d1).set_ 2 d2).set_ 3 d3).set_ 4 d4).set_ 5 d5).set_ 6 d6).set_ 7 d7).set_ 8 d8).set_ 9 d9).set_ 10 d10).set_ 11 d11).set_ 12 d12)
  simp only [List.setIfInBounds_toArray, List.set_cons_zero, List.set_cons_succ] at this
  exact this
theorem set13_far {w : World} {b g : Nat} {u : TypeId} {cs : Array Value} {d0 d1 d2 d3 d4 d5 d6 d7 d8 d9 d10 d11 d12 : Value} (h : Blk w g u cs) (hne : g ≠ b) : Blk (World.setCell (World.setCell (World.setCell (World.setCell (World.setCell (World.setCell (World.setCell (World.setCell (World.setCell (World.setCell (World.setCell (World.setCell (World.setCell w ⟨b, 0, none⟩ (d0)) ⟨b, 1, none⟩ (d1)) ⟨b, 2, none⟩ (d2)) ⟨b, 3, none⟩ (d3)) ⟨b, 4, none⟩ (d4)) ⟨b, 5, none⟩ (d5)) ⟨b, 6, none⟩ (d6)) ⟨b, 7, none⟩ (d7)) ⟨b, 8, none⟩ (d8)) ⟨b, 9, none⟩ (d9)) ⟨b, 10, none⟩ (d10)) ⟨b, 11, none⟩ (d11)) ⟨b, 12, none⟩ (d12)) g u cs := (((((((((((((h.far (p := ⟨b, 0, none⟩) hne _).far (p := ⟨b, 1, none⟩) hne _).far (p := ⟨b, 2, none⟩) hne _).far (p := ⟨b, 3, none⟩) hne _).far (p := ⟨b, 4, none⟩) hne _).far (p := ⟨b, 5, none⟩) hne _).far (p := ⟨b, 6, none⟩) hne _).far (p := ⟨b, 7, none⟩) hne _).far (p := ⟨b, 8, none⟩) hne _).far (p := ⟨b, 9, none⟩) hne _).far (p := ⟨b, 10, none⟩) hne _).far (p := ⟨b, 11, none⟩) hne _).far (p := ⟨b, 12, none⟩) hne _)
theorem blkS13 {w : World} {b : Nat} {e0 e1 e2 e3 e4 e5 e6 e7 e8 e9 e10 e11 e12 : Value} (h : Blk w b 64 #[e0, e1, e2, e3, e4, e5, e6, e7, e8, e9, e10, e11, e12]) : (w.cell? ⟨b, 0, none⟩ = some e0 ∧ w.cell? ⟨b, 1, none⟩ = some e1 ∧ w.cell? ⟨b, 2, none⟩ = some e2 ∧ w.cell? ⟨b, 3, none⟩ = some e3 ∧ w.cell? ⟨b, 4, none⟩ = some e4 ∧ w.cell? ⟨b, 5, none⟩ = some e5 ∧ w.cell? ⟨b, 6, none⟩ = some e6 ∧ w.cell? ⟨b, 7, none⟩ = some e7 ∧ w.cell? ⟨b, 8, none⟩ = some e8 ∧ w.cell? ⟨b, 9, none⟩ = some e9 ∧ w.cell? ⟨b, 10, none⟩ = some e10 ∧ w.cell? ⟨b, 11, none⟩ = some e11 ∧ w.cell? ⟨b, 12, none⟩ = some e12) ∧ w.frozen? ⟨b, 0, none⟩ = false ∧ w.frozen? ⟨b, 1, none⟩ = false ∧ w.frozen? ⟨b, 2, none⟩ = false ∧ w.frozen? ⟨b, 3, none⟩ = false ∧ w.frozen? ⟨b, 4, none⟩ = false ∧ w.frozen? ⟨b, 5, none⟩ = false ∧ w.frozen? ⟨b, 6, none⟩ = false ∧ w.frozen? ⟨b, 7, none⟩ = false ∧ w.frozen? ⟨b, 8, none⟩ = false ∧ w.frozen? ⟨b, 9, none⟩ = false ∧ w.frozen? ⟨b, 10, none⟩ = false ∧ w.frozen? ⟨b, 11, none⟩ = false ∧ w.frozen? ⟨b, 12, none⟩ = false := ⟨⟨by rw [h.cell]; rfl, by rw [h.cell]; rfl, by rw [h.cell]; rfl, by rw [h.cell]; rfl, by rw [h.cell]; rfl, by rw [h.cell]; rfl, by rw [h.cell]; rfl, by rw [h.cell]; rfl, by rw [h.cell]; rfl, by rw [h.cell]; rfl, by rw [h.cell]; rfl, by rw [h.cell]; rfl, by rw [h.cell]; rfl⟩, h.frozen 0, h.frozen 1, h.frozen 2, h.frozen 3, h.frozen 4, h.frozen 5, h.frozen 6, h.frozen 7, h.frozen 8, h.frozen 9, h.frozen 10, h.frozen 11, h.frozen 12⟩
theorem stmt_join {w : World} {Q : Nat → Prop} {id kind : Int} {labels : List ByteArray} {nm proc : ByteArray} {x : E} {has : Bool} {args : List Ar} {th' el' th el : List S} {d0 d1 d2 d3 d4 d5 d6 d7 d8 d9 d10 d11 d12 vt ve : Value} (h : StmtI w Q (.mk id kind labels nm proc x has args th' el') [d0, d1, d2, d3, d4, d5, d6, d7, d8, d9, d10, d11, d12]) (ht : StmtsI w Q th vt) (he : StmtsI w Q el ve) :
    StmtI w Q (.mk id kind labels nm proc x has args th el) [d0, d1, d2, d3, d4, d5, d6, d7, d8, d9, d10, vt, ve] := by
  obtain ⟨aid, akind, alabels, anm, aproc, ax, ahas, aargs, ath, ael, aL, alc, ax0, ax1, ax2, aX, axn, axc, aR, arc, aT, atc, aU, auc, hs, hcs, hid, hkind, hnm, hproc, hl, hx, ha, _, _⟩ := stmt_open h
  injection hs with e1 e2 e3 e4 e5 e6 e7 e8 e9 e10
  subst e1 e2 e3 e4 e5 e6 e7 e8 e9 e10
  simp only [List.cons.injEq, and_true] at hcs
  obtain ⟨rfl, rfl, rfl, rfl, rfl, rfl, rfl, rfl, rfl, rfl, rfl, rfl, rfl⟩ := hcs
  exact StmtI.of_slice hid hkind hnm hproc hl hx ha ht he
/-- what holds of a row of statements that is built by append, beside a statement that lies in a block of its own -/
structure PuI (w : World) (Q : Nat → Prop) (w2 : World) (Q2 : Nat → Prop) (W wr : World) (base tb : Nat) (ct : Array Value) (outs : List S) (X : Option Addr) (n c : Nat) : Prop where
  bt : Blk wr tb 64 ct
  row : BuildI wr base 64 13 (fun w Q => StmtI w Q) outs (.slice X n c)
  inn : In Q w wr
  in2 : In Q2 w2 wr
  size : base ≤ wr.heap.size
  below : Below W.heap.size W wr
section
variable {w w2 W wr : World} {Q Q2 : Nat → Prop} {base tb : Nat} {ct : Array Value} {outs : List S} {X : Option Addr} {n c : Nat}
theorem PuI.on (h : PuI w Q w2 Q2 W wr base tb ct outs X n c) {w3 : World} (hb : Below wr.heap.size wr w3) : PuI w Q w2 Q2 W w3 base tb ct outs X n c :=
  ⟨h.bt.below hb h.bt.lt, BuildI.below (R := fun w Q => StmtI w Q) stayS h.row hb, h.inn.on hb, h.in2.on hb, Nat.le_trans h.size hb.size, h.below.trans (hb.mono h.below.size)⟩
theorem pu_step {w3 w4 : World} (h : PuI w Q w2 Q2 W w3 base tb ct outs X n c) (hn : n = outs.length) (htb : tb < base) (hW : W.heap.size ≤ base) (hQ : ∀ j, Q j → j < base) (hQ2 : ∀ j, Q2 j → j < base) {B : Nat} (hB : base ≤ B) (hrB : ∀ j, (Value.slice X n c).ownBlock = some j → j < B)
    {x : S} {cs : List Value} (he : StmtI w3 (fun j => B ≤ j ∧ j < w3.heap.size) x cs) {rows : List (List Value)} (h1 : w3.ownsRow base 64 13 (.slice X n c) outs.length rows.flatten) (h2 : All2 (StmtI w3 (fun j => (base ≤ j ∧ j < w3.heap.size) ∧ (Value.slice X n c).ownBlock ≠ some j)) outs rows) {o : Obj} {v' : Value} (hown4 : w4.ownsRow base 64 13 v' (n + 1) (rows.flatten ++ cs)) (hgrow : (w3.alloc o).grownBy w4 (Value.slice X n c).ownBlock) (hat : (Value.slice X n c).ownBlock = v'.ownBlock ∨ v'.ownBlock = some (w3.alloc o).heap.size) :
    ∃ X' c', v' = .slice X' (n + 1) c' ∧ PuI w Q w2 Q2 W w4 base tb ct (outs ++ [x]) X' (n + 1) c' := by
  have hm4 : Moves (fun j => (Value.slice X n c).ownBlock = some j) w3 w4 := ((Moves.refl _ w3).alloc o).trans (moves_grown hgrow) (fun j hj => .inr hj)
  have hno : ∀ j, j < base → ¬ (Value.slice X n c).ownBlock = some j := fun j hj e => by have := (h1.lt j e).1; omega
  have hbu : BuildI w4 base 64 13 (fun w Q => StmtI w Q) (outs ++ [x]) v' :=
    BuildI.push (R := fun w Q => StmtI w Q) stayS h1 h2 (x := x) (B := B) he hB hrB (n := n + 1) (by omega) rfl hown4 hgrow hat
  obtain ⟨X', c', rfl, _, _⟩ := own_form hown4
  exact ⟨X', c', rfl, hm4.blk h.bt (hno tb htb), hbu, h.inn.moves hm4 (fun j hj hq => hno j (hQ j hq) hj), h.in2.moves hm4 (fun j hj hq => hno j (hQ2 j hq) hj), Nat.le_trans h.size hm4.size, h.below.trans (hm4.below (by have := h.below.size; omega) (fun j hj => by have := (h1.lt j hj).1; omega))⟩
end
mutual
def putS (t : S) : S → S
  | .mk id kind labels nm proc x has args th el => match t with
    | .mk tid tkind tlabels tnm tproc tx thas targs _ _ => if id = tid then .mk tid tkind tlabels tnm tproc tx thas targs (putSL t th) (putSL t el) else .mk id kind labels nm proc x has args (putSL t th) (putSL t el)
def putSL (t : S) : List S → List S
  | [] => []
  | s :: l => putS t s :: putSL t l
end
theorem putSL_len (t : S) : ∀ l : List S, (putSL t l).length = l.length
  | [] => by rw [putSL]
  | s :: l => by rw [putSL, List.length_cons, List.length_cons, putSL_len t l]
theorem putSL_take (t : S) {l : List S} {k : Nat} (h : k < l.length) : (putSL t l).take (k + 1) = (putSL t l).take k ++ [putS t l[k]] := by
  have h' : k < (putSL t l).length := by rw [putSL_len]; exact h
  rw [List.take_succ_eq_append_getElem h']
  congr 2
  have key : ∀ (l : List S) (k : Nat) (h : k < l.length) (h' : k < (putSL t l).length), (putSL t l)[k] = putS t l[k] := by
    intro l
    induction l with
    | nil => intro k h; simp at h
    | cons s l ih =>
      intro k h h'
      cases k with
      | zero => simp only [putSL, List.getElem_cons_zero]
      | succ k => simp only [putSL, List.getElem_cons_succ]; exact ih k _ _
  exact key l k h h'
/-- a statement that is not too great to be copied -/
def okC : S → Prop | .mk _ _ labels _ _ x _ args _ _ => wE x ≤ 1000000 ∧ labels.length ≤ 1000000 ∧ wAr args ≤ 1000000
def PutOk (l : List S) (W : World) (e : Ending) (w' : World) : Prop := ∃ v', e = .returned v' ∧ Below W.heap.size W w' ∧ StmtsI w' (nw W w') l v'
set_option maxHeartbeats 8000000 in
set_option maxRecDepth 100000 in
theorem put_any {w w2 : World} {Q Q2 : Nat → Prop} {t : S} {c0 c1 c2 c3 c4 c5 c6 c7 c8 c9 c10 c11 c12 : Value} (ht : StmtI w2 Q2 t [c0, c1, c2, c3, c4, c5, c6, c7, c8, c9, c10, c11, c12]) (hwt : okC t) : ∀ (N : Nat) (l : List S), (preSL l).length < N → ∀ {A : Option Addr} {cap : Nat} {W : World}, StmtsI w Q l (.slice A l.length cap) → In Q w W → In Q2 w2 W → wSL l ≤ 1000000 →
    Calls Try.prog 158 #[.slice A l.length cap, .agg #[c0, c1, c2, c3, c4, c5, c6, c7, c8, c9, c10, c11, c12]] W (PutOk (putSL t l) W) := by
  obtain ⟨tid, tkind, tlabels, tnm, tproc, tx, thas, targs, tth, tel, tL, tlc, tx0, tx1, tx2, tX, txn, txc, tR, trc, tT, ttc, tU, tuc, hts, hcs, _⟩ := stmt_open ht
  simp only [List.cons.injEq, and_true] at hcs
  obtain ⟨rfl, rfl, rfl, rfl, rfl, rfl, rfl, rfl, rfl, rfl, rfl, rfl, rfl⟩ := hcs
  subst hts
  intro N
  induction N with
  | zero => intro l h; omega
  | succ N ih =>
    intro l hN A cap W hl hI hI2 hw
    obtain ⟨i0, hi0, hz0, hz1, hz2⟩ := info_parts stmt_info
    obtain ⟨_, hlc, hcap, _⟩ := slice_len hl
    have hll : l.length ≤ 1000000 := Nat.le_trans (wSL_len l) hw
    have HCt := Lib.hid (fun V hV => copyOne_any (W := V) ht hV hwt.1 hwt.2.1 hwt.2.2)
    have IH := Lib.hid @ih
    have HN := Lib.hid hN
    have HL := Lib.hid hl
    have HQ : Hid (∀ j, Q j → j < W.heap.size + 1) := Lib.hid (fun j hj => Nat.lt_succ_of_lt (hI.1 j hj))
    have HQ2 : Hid (∀ j, Q2 j → j < W.heap.size + 1) := Lib.hid (fun j hj => Nat.lt_succ_of_lt (hI2.1 j hj))
    have HWm : Hid (∀ k (h : k < l.length), wS l[k] ≤ 1000000) := Lib.hid (fun k h => Nat.le_trans (wSL_mem (List.getElem_mem h)) hw)
    obtain ⟨t, htt⟩ : ∃ t, t = S.mk tid tkind tlabels tnm tproc tx thas targs tth tel := ⟨_, rfl⟩
    have HTT := Lib.hid htt
    rw [← htt] at IH ⊢
    have HS : Hid (PuI w Q w2 Q2 W (W.alloc (.cells #[.int .i64 tid, .int .i64 tkind, .slice tL tlabels.length tlc, .string tnm, .string tproc, .int .i64 tx0, .int .i64 tx1, .string tx2, .slice tX txn txc, .bool thas, .slice tR targs.length trc, .slice tT tth.length ttc, .slice tU tel.length tuc] 64)) (W.heap.size + 1) W.heap.size #[.int .i64 tid, .int .i64 tkind, .slice tL tlabels.length tlc, .string tnm, .string tproc, .int .i64 tx0, .int .i64 tx1, .string tx2, .slice tX txn txc, .bool thas, .slice tR targs.length trc, .slice tT tth.length ttc, .slice tU tel.length tuc] ((putSL t l).take 0) none 0 0) := Lib.hid ⟨Blk.new _ _ _, BuildI.nil _ _ _ _ _, hI.alloc _, hI2.alloc _, by simp, below_box _⟩
    clear ih hN hl hI hI2 hw htt ht hwt
    go_enter Try.func158, Try.ntmps158
    go_wp2_with fail
    generalize World.alloc _ _ = W1 at HS ⊢
    generalize htb : W.heap.size = tb at HS HQ HQ2 ⊢
    have hbase : W.heap.size ≤ tb + 1 := by omega
    clear htb
    go_loopw [5, 11] (fun ov iv wr => ∃ (k : Nat) (Xo : Option Addr) (co : Nat), k ≤ l.length ∧ iv = .int .i64 k ∧ ov = .slice Xo k co ∧ Hid (PuI w Q w2 Q2 W wr (tb + 1) tb #[.int .i64 tid, .int .i64 tkind, .slice tL tlabels.length tlc, .string tnm, .string tproc, .int .i64 tx0, .int .i64 tx1, .string tx2, .slice tX txn txc, .bool thas, .slice tR targs.length trc, .slice tT tth.length ttc, .slice tU tel.length tuc] ((putSL t l).take k) Xo k co)) (fun _ iv _ => l.length - (intOf iv).toNat)
    case atStart => exact ⟨0, none, 0, Nat.zero_le _, rfl, rfl, HS⟩
    case round =>
      clear HS
      obtain ⟨k, Xo, co, hk, rfl, rfl, HR⟩ := hrel
      have htk : ((putSL t l).take k).length = k := by rw [List.length_take, putSL_len]; omega
      obtain ⟨rows, hO, hAl⟩ := HR.out.row
      obtain ⟨_, _, hXe, hko, hco⟩ := own_form hO
      rw [htk] at hXe hko
      injection hXe with hX1 hX2 hX3
      subst hX1 hX3
      have HO := Lib.hid hO
      have HAl := Lib.hid hAl
      clear hO hAl hX2
      by_cases hlt : k < l.length
      · obtain ⟨a, id, kind, labels, nm, proc, x, has, args, th, el, L, lc, x0, x1, x2, X, xn, xc, R, rc, T, tc, U, uc, rfl, hqa, hmk, ⟨p0, p1, p2, p3, p4, p5, p6, p7, p8, p9, p10, p11, p12, _⟩, hid, hkind, hnm, hproc, hlab, hx, har, hth, hel, hst⟩ := stmt_at HL.out HR.out.inn hlt
        have hsub := preSL_at hlt
        have hwk := HWm.out k hlt
        have htake := putSL_take t hlt
        rw [hmk] at hsub hst hwk htake
        simp only [subS, List.length_append] at hsub
        rw [wS] at hwk
        have HC := Lib.hid (fun V hV => copyOne_any (W := V) hst hV (by omega) (by have := wT_len labels; omega) (by omega))
        have HT := Lib.hid (fun V h1 h2 => IH.out th (by have := HN.out; omega) (W := V) hth h1 h2 (by omega))
        have HE := Lib.hid (fun V h1 h2 => IH.out el (by have := HN.out; omega) (W := V) hel h1 h2 (by omega))
        have HTk := Lib.hid htake
        have hid_ := hid
        have HSz := HR.out.size
        clear hmk hsub hst hth hel hx hlab har hid hkind hnm hproc hqa hwk htake
        go_upto_region 5 with fail
        have HBx : Hid (Blk (wr.alloc (.cells #[.int .i64 id, .int .i64 kind, .slice L labels.length lc, .string nm, .string proc, .int .i64 x0, .int .i64 x1, .string x2, .slice X xn xc, .bool has, .slice R args.length rc, .slice T th.length tc, .slice U el.length uc] 64)) wr.heap.size 64 #[.int .i64 id, .int .i64 kind, .slice L labels.length lc, .string nm, .string proc, .int .i64 x0, .int .i64 x1, .string x2, .slice X xn xc, .bool has, .slice R args.length rc, .slice T th.length tc, .slice U el.length uc]) := Lib.hid (Blk.new _ _ _)
        have HBa : Hid (Below wr.heap.size wr (wr.alloc (.cells #[.int .i64 id, .int .i64 kind, .slice L labels.length lc, .string nm, .string proc, .int .i64 x0, .int .i64 x1, .string x2, .slice X xn xc, .bool has, .slice R args.length rc, .slice T th.length tc, .slice U el.length uc] 64))) := Lib.hid (below_box _)
        clear p0 p1 p2 p3 p4 p5 p6 p7 p8 p9 p10 p11 p12
        generalize World.alloc _ _ = wa at HBx HBa ⊢
        obtain ⟨xb, hxb⟩ : ∃ xb, xb = wr.heap.size := ⟨_, rfl⟩
        rw [← hxb] at HBx ⊢
        have hxge : wr.heap.size ≤ xb := by omega
        clear hxb
        have p0 : wa.cell? ⟨xb, 0, none⟩ = some (.int .i64 id) := by rw [HBx.out.cell]; rfl
        have p1 : wa.cell? ⟨xb, 1, none⟩ = some (.int .i64 kind) := by rw [HBx.out.cell]; rfl
        have p2 : wa.cell? ⟨xb, 2, none⟩ = some (.slice L labels.length lc) := by rw [HBx.out.cell]; rfl
        have p3 : wa.cell? ⟨xb, 3, none⟩ = some (.string nm) := by rw [HBx.out.cell]; rfl
        have p4 : wa.cell? ⟨xb, 4, none⟩ = some (.string proc) := by rw [HBx.out.cell]; rfl
        have p5 : wa.cell? ⟨xb, 5, none⟩ = some (.int .i64 x0) := by rw [HBx.out.cell]; rfl
        have p6 : wa.cell? ⟨xb, 6, none⟩ = some (.int .i64 x1) := by rw [HBx.out.cell]; rfl
        have p7 : wa.cell? ⟨xb, 7, none⟩ = some (.string x2) := by rw [HBx.out.cell]; rfl
        have p8 : wa.cell? ⟨xb, 8, none⟩ = some (.slice X xn xc) := by rw [HBx.out.cell]; rfl
        have p9 : wa.cell? ⟨xb, 9, none⟩ = some (.bool has) := by rw [HBx.out.cell]; rfl
        have p10 : wa.cell? ⟨xb, 10, none⟩ = some (.slice R args.length rc) := by rw [HBx.out.cell]; rfl
        have p11 : wa.cell? ⟨xb, 11, none⟩ = some (.slice T th.length tc) := by rw [HBx.out.cell]; rfl
        have p12 : wa.cell? ⟨xb, 12, none⟩ = some (.slice U el.length uc) := by rw [HBx.out.cell]; rfl
        go_upto_region 6 with (go_at_call 118; refine (HC.out _ (HR.out.inn.on HBa.out)).mono ?_; rintro e q1 ⟨d0, d1, d2, d3, d4, d5, d6, d7, d8, d9, d10, d11, d12, rfl, hb1, hs1⟩; obtain ⟨did, dkind, dlabels, dnm, dproc, dx, dhas, dargs, dth, del, dL, dlc, dx0, dx1, dx2, dX, dxn, dxc, dR, drc, dT, dtc, dU, duc, hds, hdc, _⟩ := stmt_open hs1; (simp only [List.cons.injEq, and_true] at hdc); obtain ⟨rfl, rfl, rfl, rfl, rfl, rfl, rfl, rfl, rfl, rfl, rfl, rfl, rfl⟩ := hdc; clear hds)
        clear p0 p1 p2 p3 p4 p5 p6 p7 p8 p9 p10 p11 p12 HC
        have HBy : Hid (Blk (q1.alloc (.cells #[.int .i64 did, .int .i64 dkind, .slice dL dlabels.length dlc, .string dnm, .string dproc, .int .i64 dx0, .int .i64 dx1, .string dx2, .slice dX dxn dxc, .bool dhas, .slice dR dargs.length drc, .slice dT dth.length dtc, .slice dU del.length duc] 64)) q1.heap.size 64 #[.int .i64 did, .int .i64 dkind, .slice dL dlabels.length dlc, .string dnm, .string dproc, .int .i64 dx0, .int .i64 dx1, .string dx2, .slice dX dxn dxc, .bool dhas, .slice dR dargs.length drc, .slice dT dth.length dtc, .slice dU del.length duc]) := Lib.hid (Blk.new _ _ _)
        have HBx1 := Lib.hid ((HBx.out.below hb1 HBx.out.lt).alloc (.cells #[.int .i64 did, .int .i64 dkind, .slice dL dlabels.length dlc, .string dnm, .string dproc, .int .i64 dx0, .int .i64 dx1, .string dx2, .slice dX dxn dxc, .bool dhas, .slice dR dargs.length drc, .slice dT dth.length dtc, .slice dU del.length duc] 64))
        have HBb : Hid (Below wr.heap.size wr (q1.alloc (.cells #[.int .i64 did, .int .i64 dkind, .slice dL dlabels.length dlc, .string dnm, .string dproc, .int .i64 dx0, .int .i64 dx1, .string dx2, .slice dX dxn dxc, .bool dhas, .slice dR dargs.length drc, .slice dT dth.length dtc, .slice dU del.length duc] 64))) := Lib.hid (below_stepA (below_step HBa.out hb1) _)
        have hS1 := hs1.keep (w' := q1.alloc (.cells #[.int .i64 did, .int .i64 dkind, .slice dL dlabels.length dlc, .string dnm, .string dproc, .int .i64 dx0, .int .i64 dx1, .string dx2, .slice dX dxn dxc, .bool dhas, .slice dR dargs.length drc, .slice dT dth.length dtc, .slice dU del.length duc] 64)) (Q' := fun j => (wr.heap.size ≤ j ∧ j < (q1.alloc (.cells #[.int .i64 did, .int .i64 dkind, .slice dL dlabels.length dlc, .string dnm, .string dproc, .int .i64 dx0, .int .i64 dx1, .string dx2, .slice dX dxn dxc, .bool dhas, .slice dR dargs.length drc, .slice dT dth.length dtc, .slice dU del.length duc] 64)).heap.size) ∧ j ≠ q1.heap.size) (fun j hj => ⟨⟨by have := hj.1; have := HBa.out.size; omega, by rw [World.size_alloc]; have := hj.2; omega⟩, by have := hj.2; omega⟩) (fun p hp => (below_box _).cell hp.2)
        have HS1 := Lib.hid hS1
        have hxy : xb < q1.heap.size := (HBx.out.below hb1 HBx.out.lt).lt
        have hwy : wr.heap.size ≤ q1.heap.size := (below_step HBa.out hb1).size
        clear hS1 hs1 hb1 HBx HBa
        generalize World.alloc _ _ = wb at HBy HBx1 HBb HS1 ⊢
        generalize q1.heap.size = yb at HBy HS1 hxy hwy ⊢
        have x0_ : wb.cell? ⟨xb, 0, none⟩ = some (.int .i64 id) := by rw [HBx1.out.cell]; rfl
        have HBt := Lib.hid (HR.out.bt.below HBb.out HR.out.bt.lt)
        have t0_ : wb.cell? ⟨tb, 0, none⟩ = some (.int .i64 tid) := by rw [HBt.out.cell]; rfl
        have htw : tb < wr.heap.size := HR.out.bt.lt
        have hty : tb ≠ yb := by omega
        have htx : tb ≠ xb := by omega
        have hyx : xb ≠ yb := by omega
        by_cases hc : id = tid
        · have hcb_ : (id == tid) = true := by simp [hc]
          have HCc := Lib.hid hc
          clear hc
          have t1_ : wb.cell? ⟨tb, 1, none⟩ = some (.int .i64 tkind) := by rw [HBt.out.cell]; rfl
          have t2_ : wb.cell? ⟨tb, 2, none⟩ = some (.slice tL tlabels.length tlc) := by rw [HBt.out.cell]; rfl
          have t3_ : wb.cell? ⟨tb, 3, none⟩ = some (.string tnm) := by rw [HBt.out.cell]; rfl
          have t4_ : wb.cell? ⟨tb, 4, none⟩ = some (.string tproc) := by rw [HBt.out.cell]; rfl
          have t5_ : wb.cell? ⟨tb, 5, none⟩ = some (.int .i64 tx0) := by rw [HBt.out.cell]; rfl
          have t6_ : wb.cell? ⟨tb, 6, none⟩ = some (.int .i64 tx1) := by rw [HBt.out.cell]; rfl
          have t7_ : wb.cell? ⟨tb, 7, none⟩ = some (.string tx2) := by rw [HBt.out.cell]; rfl
          have t8_ : wb.cell? ⟨tb, 8, none⟩ = some (.slice tX txn txc) := by rw [HBt.out.cell]; rfl
          have t9_ : wb.cell? ⟨tb, 9, none⟩ = some (.bool thas) := by rw [HBt.out.cell]; rfl
          have t10_ : wb.cell? ⟨tb, 10, none⟩ = some (.slice tR targs.length trc) := by rw [HBt.out.cell]; rfl
          have t11_ : wb.cell? ⟨tb, 11, none⟩ = some (.slice tT tth.length ttc) := by rw [HBt.out.cell]; rfl
          have t12_ : wb.cell? ⟨tb, 12, none⟩ = some (.slice tU tel.length tuc) := by rw [HBt.out.cell]; rfl
          have htb_ := HBt.out.lt
          go_upto_region 8 with (go_at_call 118; refine (HCt.out _ (HR.out.in2.on HBb.out)).mono ?_; rintro e q2 ⟨d0, d1, d2, d3, d4, d5, d6, d7, d8, d9, d10, d11, d12, rfl, hb2, hs2⟩; obtain ⟨gid, gkind, glabels, gnm, gproc, gx, ghas, gargs, gth, gel, gL, glc, gx0, gx1, gx2, gX, gxn, gxc, gR, grc, gT, gtc, gU, guc, hgs, hgc, _⟩ := stmt_open hs2; (simp only [List.cons.injEq, and_true] at hgc); obtain ⟨rfl, rfl, rfl, rfl, rfl, rfl, rfl, rfl, rfl, rfl, rfl, rfl, rfl⟩ := hgc; clear hgs; have HBy2 := Lib.hid (HBy.out.below hb2 HBy.out.lt); obtain ⟨⟨y0_, y1_, y2_, y3_, y4_, y5_, y6_, y7_, y8_, y9_, y10_, y11_, y12_⟩, f0_, f1_, f2_, f3_, f4_, f5_, f6_, f7_, f8_, f9_, f10_, f11_, f12_⟩ := blkS13 HBy2.out; have hyl_ := HBy2.out.lt)
          clear y0_ f0_ y1_ f1_ y2_ f2_ y3_ f3_ y4_ f4_ y5_ f5_ y6_ f6_ y7_ f7_ y8_ f8_ y9_ f9_ y10_ f10_ y11_ f11_ y12_ f12_ hyl_ htb_ t0_ t1_ t2_ t3_ t4_ t5_ t6_ t7_ t8_ t9_ t10_ t11_ t12_ x0_
          have HByd := Lib.hid (set13_any (d0 := .int .i64 gid) (d1 := .int .i64 gkind) (d2 := .slice gL glabels.length glc) (d3 := .string gnm) (d4 := .string gproc) (d5 := .int .i64 gx0) (d6 := .int .i64 gx1) (d7 := .string gx2) (d8 := .slice gX gxn gxc) (d9 := .bool ghas) (d10 := .slice gR gargs.length grc) (d11 := .slice gT gth.length gtc) (d12 := .slice gU gel.length guc) HBy2.out)
          have HBd : Hid (Below wr.heap.size wr (World.setCell (World.setCell (World.setCell (World.setCell (World.setCell (World.setCell (World.setCell (World.setCell (World.setCell (World.setCell (World.setCell (World.setCell (World.setCell q2 ⟨yb, 0, none⟩ (.int .i64 gid)) ⟨yb, 1, none⟩ (.int .i64 gkind)) ⟨yb, 2, none⟩ (.slice gL glabels.length glc)) ⟨yb, 3, none⟩ (.string gnm)) ⟨yb, 4, none⟩ (.string gproc)) ⟨yb, 5, none⟩ (.int .i64 gx0)) ⟨yb, 6, none⟩ (.int .i64 gx1)) ⟨yb, 7, none⟩ (.string gx2)) ⟨yb, 8, none⟩ (.slice gX gxn gxc)) ⟨yb, 9, none⟩ (.bool ghas)) ⟨yb, 10, none⟩ (.slice gR gargs.length grc)) ⟨yb, 11, none⟩ (.slice gT gth.length gtc)) ⟨yb, 12, none⟩ (.slice gU gel.length guc))) := Lib.hid (set13_below (below_step HBb.out hb2) hwy)
          have HBxd := Lib.hid (set13_far (d0 := .int .i64 gid) (d1 := .int .i64 gkind) (d2 := .slice gL glabels.length glc) (d3 := .string gnm) (d4 := .string gproc) (d5 := .int .i64 gx0) (d6 := .int .i64 gx1) (d7 := .string gx2) (d8 := .slice gX gxn gxc) (d9 := .bool ghas) (d10 := .slice gR gargs.length grc) (d11 := .slice gT gth.length gtc) (d12 := .slice gU gel.length guc) (HBx1.out.below hb2 HBx1.out.lt) hyx)
          have HBtd := Lib.hid (set13_far (d0 := .int .i64 gid) (d1 := .int .i64 gkind) (d2 := .slice gL glabels.length glc) (d3 := .string gnm) (d4 := .string gproc) (d5 := .int .i64 gx0) (d6 := .int .i64 gx1) (d7 := .string gx2) (d8 := .slice gX gxn gxc) (d9 := .bool ghas) (d10 := .slice gR gargs.length grc) (d11 := .slice gT gth.length gtc) (d12 := .slice gU gel.length guc) (HBt.out.below hb2 HBt.out.lt) hty)
          have hyw : yb < wb.heap.size := HBy.out.lt
          have hrw : wr.heap.size ≤ wb.heap.size := HBb.out.size
          have HSd : Hid (StmtI (World.setCell (World.setCell (World.setCell (World.setCell (World.setCell (World.setCell (World.setCell (World.setCell (World.setCell (World.setCell (World.setCell (World.setCell (World.setCell q2 ⟨yb, 0, none⟩ (.int .i64 gid)) ⟨yb, 1, none⟩ (.int .i64 gkind)) ⟨yb, 2, none⟩ (.slice gL glabels.length glc)) ⟨yb, 3, none⟩ (.string gnm)) ⟨yb, 4, none⟩ (.string gproc)) ⟨yb, 5, none⟩ (.int .i64 gx0)) ⟨yb, 6, none⟩ (.int .i64 gx1)) ⟨yb, 7, none⟩ (.string gx2)) ⟨yb, 8, none⟩ (.slice gX gxn gxc)) ⟨yb, 9, none⟩ (.bool ghas)) ⟨yb, 10, none⟩ (.slice gR gargs.length grc)) ⟨yb, 11, none⟩ (.slice gT gth.length gtc)) ⟨yb, 12, none⟩ (.slice gU gel.length guc)) (fun j => (wr.heap.size ≤ j ∧ j < (World.setCell (World.setCell (World.setCell (World.setCell (World.setCell (World.setCell (World.setCell (World.setCell (World.setCell (World.setCell (World.setCell (World.setCell (World.setCell q2 ⟨yb, 0, none⟩ (.int .i64 gid)) ⟨yb, 1, none⟩ (.int .i64 gkind)) ⟨yb, 2, none⟩ (.slice gL glabels.length glc)) ⟨yb, 3, none⟩ (.string gnm)) ⟨yb, 4, none⟩ (.string gproc)) ⟨yb, 5, none⟩ (.int .i64 gx0)) ⟨yb, 6, none⟩ (.int .i64 gx1)) ⟨yb, 7, none⟩ (.string gx2)) ⟨yb, 8, none⟩ (.slice gX gxn gxc)) ⟨yb, 9, none⟩ (.bool ghas)) ⟨yb, 10, none⟩ (.slice gR gargs.length grc)) ⟨yb, 11, none⟩ (.slice gT gth.length gtc)) ⟨yb, 12, none⟩ (.slice gU gel.length guc)).heap.size) ∧ j ≠ yb) (S.mk tid tkind tlabels tnm tproc tx thas targs [] []) [.int .i64 gid, .int .i64 gkind, .slice gL glabels.length glc, .string gnm, .string gproc, .int .i64 gx0, .int .i64 gx1, .string gx2, .slice gX gxn gxc, .bool ghas, .slice gR gargs.length grc, .slice gT gth.length gtc, .slice gU gel.length guc]) := Lib.hid (hs2.keep (fun j hj => ⟨⟨by have := hj.1; omega, by rw [set13_size]; exact hj.2⟩, by have := hj.1; omega⟩) (fun p hp => set13_cell (by have := hp.1; omega)))
          clear hs2 hb2 HBy2 HBb HBx1 HBt HBy HS1 hyw hrw
          generalize World.setCell (World.setCell _ _ _) _ _ = wd at HByd HBd HBxd HBtd HSd ⊢

          have x11_ : wd.cell? ⟨xb, 11, none⟩ = some (.slice T th.length tc) := by rw [HBxd.out.cell]; rfl
          have x12_ : wd.cell? ⟨xb, 12, none⟩ = some (.slice U el.length uc) := by rw [HBxd.out.cell]; rfl
          have t0_ : wd.cell? ⟨tb, 0, none⟩ = some (.int .i64 tid) := by rw [HBtd.out.cell]; rfl
          have t1_ : wd.cell? ⟨tb, 1, none⟩ = some (.int .i64 tkind) := by rw [HBtd.out.cell]; rfl
          have t2_ : wd.cell? ⟨tb, 2, none⟩ = some (.slice tL tlabels.length tlc) := by rw [HBtd.out.cell]; rfl
          have t3_ : wd.cell? ⟨tb, 3, none⟩ = some (.string tnm) := by rw [HBtd.out.cell]; rfl
          have t4_ : wd.cell? ⟨tb, 4, none⟩ = some (.string tproc) := by rw [HBtd.out.cell]; rfl
          have t5_ : wd.cell? ⟨tb, 5, none⟩ = some (.int .i64 tx0) := by rw [HBtd.out.cell]; rfl
          have t6_ : wd.cell? ⟨tb, 6, none⟩ = some (.int .i64 tx1) := by rw [HBtd.out.cell]; rfl
          have t7_ : wd.cell? ⟨tb, 7, none⟩ = some (.string tx2) := by rw [HBtd.out.cell]; rfl
          have t8_ : wd.cell? ⟨tb, 8, none⟩ = some (.slice tX txn txc) := by rw [HBtd.out.cell]; rfl
          have t9_ : wd.cell? ⟨tb, 9, none⟩ = some (.bool thas) := by rw [HBtd.out.cell]; rfl
          have t10_ : wd.cell? ⟨tb, 10, none⟩ = some (.slice tR targs.length trc) := by rw [HBtd.out.cell]; rfl
          have t11_ : wd.cell? ⟨tb, 11, none⟩ = some (.slice tT tth.length ttc) := by rw [HBtd.out.cell]; rfl
          have t12_ : wd.cell? ⟨tb, 12, none⟩ = some (.slice tU tel.length tuc) := by rw [HBtd.out.cell]; rfl
          have hxl := HBxd.out.lt
          have htl := HBtd.out.lt
          have hyl := HByd.out.lt
          have hdr : ∀ {Q : Nat → Prop} {w V : World}, In Q w V → In Q w V.drew := fun h => h
          refine wp_region_last (fun w' : World => w'.cell? ⟨xb, 11, none⟩ = some (.slice T th.length tc) ∧ w'.cell? ⟨xb, 12, none⟩ = some (.slice U el.length uc) ∧ w'.cell? ⟨tb, 0, none⟩ = some (.int .i64 tid) ∧ w'.cell? ⟨tb, 1, none⟩ = some (.int .i64 tkind) ∧ w'.cell? ⟨tb, 2, none⟩ = some (.slice tL tlabels.length tlc) ∧ w'.cell? ⟨tb, 3, none⟩ = some (.string tnm) ∧ w'.cell? ⟨tb, 4, none⟩ = some (.string tproc) ∧ w'.cell? ⟨tb, 5, none⟩ = some (.int .i64 tx0) ∧ w'.cell? ⟨tb, 6, none⟩ = some (.int .i64 tx1) ∧ w'.cell? ⟨tb, 7, none⟩ = some (.string tx2) ∧ w'.cell? ⟨tb, 8, none⟩ = some (.slice tX txn txc) ∧ w'.cell? ⟨tb, 9, none⟩ = some (.bool thas) ∧ w'.cell? ⟨tb, 10, none⟩ = some (.slice tR targs.length trc) ∧ w'.cell? ⟨tb, 11, none⟩ = some (.slice tT tth.length ttc) ∧ w'.cell? ⟨tb, 12, none⟩ = some (.slice tU tel.length tuc)) 11 (by kernel_rfl) ?_
          have hS0 : (fun w' : World => w'.cell? ⟨xb, 11, none⟩ = some (.slice T th.length tc) ∧ w'.cell? ⟨xb, 12, none⟩ = some (.slice U el.length uc) ∧ w'.cell? ⟨tb, 0, none⟩ = some (.int .i64 tid) ∧ w'.cell? ⟨tb, 1, none⟩ = some (.int .i64 tkind) ∧ w'.cell? ⟨tb, 2, none⟩ = some (.slice tL tlabels.length tlc) ∧ w'.cell? ⟨tb, 3, none⟩ = some (.string tnm) ∧ w'.cell? ⟨tb, 4, none⟩ = some (.string tproc) ∧ w'.cell? ⟨tb, 5, none⟩ = some (.int .i64 tx0) ∧ w'.cell? ⟨tb, 6, none⟩ = some (.int .i64 tx1) ∧ w'.cell? ⟨tb, 7, none⟩ = some (.string tx2) ∧ w'.cell? ⟨tb, 8, none⟩ = some (.slice tX txn txc) ∧ w'.cell? ⟨tb, 9, none⟩ = some (.bool thas) ∧ w'.cell? ⟨tb, 10, none⟩ = some (.slice tR targs.length trc) ∧ w'.cell? ⟨tb, 11, none⟩ = some (.slice tT tth.length ttc) ∧ w'.cell? ⟨tb, 12, none⟩ = some (.slice tU tel.length tuc)) wd.drew := ⟨x11_, x12_, t0_, t1_, t2_, t3_, t4_, t5_, t6_, t7_, t8_, t9_, t10_, t11_, t12_⟩
          change wpAnyL _ _ _ _ _ _ 12 _ _ wd.drew
          refine wpAnyL_take (i := 0) (v := ?_) rfl (by kernel_rfl) (by decide) (by kernel_rfl) (by kernel_rfl) (by kernel_rfl) (fun _ _ _ h => h) (Or.inl ⟨by rfl, ?_⟩) (by assumption) ?_
          rotate_left
          · intro w hSw
            (try dsimp only at hSw)
            go_split_ands
            go_simp
            (try (with_reducible rfl))
          (try simp only [Act.put, List.setIfInBounds_toArray, List.set_cons_zero, List.set_cons_succ])
          refine wpAnyL_take (i := 1) (v := ?_) rfl (by kernel_rfl) (by decide) (by kernel_rfl) (by kernel_rfl) (by kernel_rfl) (fun _ _ _ h => h) (Or.inl ⟨by rfl, ?_⟩) (by assumption) ?_
          rotate_left
          · intro w hSw
            (try dsimp only at hSw)
            go_split_ands
            go_simp
            (try (with_reducible rfl))
          (try simp only [Act.put, List.setIfInBounds_toArray, List.set_cons_zero, List.set_cons_succ])
          refine wpAnyL_take (i := 2) (v := ?_) rfl (by kernel_rfl) (by decide) (by kernel_rfl) (by kernel_rfl) (by kernel_rfl) (fun _ _ _ h => h) (Or.inl ⟨by rfl, ?_⟩) (by assumption) ?_
          rotate_left
          · intro w hSw
            (try dsimp only at hSw)
            go_split_ands
            go_simp
            (try (with_reducible rfl))
          (try simp only [Act.put, List.setIfInBounds_toArray, List.set_cons_zero, List.set_cons_succ])
          refine wpAnyL_take (i := 4) (v := ?_) rfl (by kernel_rfl) (by decide) (by kernel_rfl) (by kernel_rfl) (by kernel_rfl) (fun _ _ _ h => h) (Or.inl ⟨by rfl, ?_⟩) (by assumption) ?_
          rotate_left
          · intro w hSw
            (try dsimp only at hSw)
            go_split_ands
            go_simp
            (try (with_reducible rfl))
          (try simp only [Act.put, List.setIfInBounds_toArray, List.set_cons_zero, List.set_cons_succ])
          refine wpAnyL_take (i := 5) (v := ?_) rfl (by kernel_rfl) (by decide) (by kernel_rfl) (by kernel_rfl) (by kernel_rfl) (fun _ _ _ h => h) (Or.inl ⟨by rfl, ?_⟩) (by assumption) ?_
          rotate_left
          · intro w hSw
            (try dsimp only at hSw)
            go_split_ands
            go_simp
            (try (with_reducible rfl))
          (try simp only [Act.put, List.setIfInBounds_toArray, List.set_cons_zero, List.set_cons_succ])
          refine wpAnyL_take (i := 6) (v := ?_) rfl (by kernel_rfl) (by decide) (by kernel_rfl) (by kernel_rfl) (by kernel_rfl) (fun _ _ _ h => h) (Or.inl ⟨by rfl, ?_⟩) (by assumption) ?_
          rotate_left
          · intro w hSw
            (try dsimp only at hSw)
            go_split_ands
            go_simp
            (try (with_reducible rfl))
          (try simp only [Act.put, List.setIfInBounds_toArray, List.set_cons_zero, List.set_cons_succ])
          refine wpAnyL_step (i := 3) (by kernel_rfl) rfl (fun K hK => ?_)
          go_simp
          refine (HT.out _ (hdr (HR.out.inn.on HBd.out)) (hdr (HR.out.in2.on HBd.out))).mono ?_
          rintro e' w3 ⟨v3, rfl, hb3, hs3⟩
          obtain ⟨T3, tc3, rfl, hl3, hc3⟩ := hs3.shape
          have hb3' : Below wd.heap.size wd w3 := (show Below wd.heap.size wd wd.drew from (Below.refl _ _).drew).trans hb3
          have ux11 : w3.cell? ⟨xb, 11, none⟩ = some (.slice T th.length tc) := (hb3'.cell (p := ⟨xb, 11, none⟩) hxl).trans x11_
          have ux12 : w3.cell? ⟨xb, 12, none⟩ = some (.slice U el.length uc) := (hb3'.cell (p := ⟨xb, 12, none⟩) hxl).trans x12_
          have ut0 : w3.cell? ⟨tb, 0, none⟩ = some (.int .i64 tid) := (hb3'.cell (p := ⟨tb, 0, none⟩) htl).trans t0_
          have ut1 : w3.cell? ⟨tb, 1, none⟩ = some (.int .i64 tkind) := (hb3'.cell (p := ⟨tb, 1, none⟩) htl).trans t1_
          have ut2 : w3.cell? ⟨tb, 2, none⟩ = some (.slice tL tlabels.length tlc) := (hb3'.cell (p := ⟨tb, 2, none⟩) htl).trans t2_
          have ut3 : w3.cell? ⟨tb, 3, none⟩ = some (.string tnm) := (hb3'.cell (p := ⟨tb, 3, none⟩) htl).trans t3_
          have ut4 : w3.cell? ⟨tb, 4, none⟩ = some (.string tproc) := (hb3'.cell (p := ⟨tb, 4, none⟩) htl).trans t4_
          have ut5 : w3.cell? ⟨tb, 5, none⟩ = some (.int .i64 tx0) := (hb3'.cell (p := ⟨tb, 5, none⟩) htl).trans t5_
          have ut6 : w3.cell? ⟨tb, 6, none⟩ = some (.int .i64 tx1) := (hb3'.cell (p := ⟨tb, 6, none⟩) htl).trans t6_
          have ut7 : w3.cell? ⟨tb, 7, none⟩ = some (.string tx2) := (hb3'.cell (p := ⟨tb, 7, none⟩) htl).trans t7_
          have ut8 : w3.cell? ⟨tb, 8, none⟩ = some (.slice tX txn txc) := (hb3'.cell (p := ⟨tb, 8, none⟩) htl).trans t8_
          have ut9 : w3.cell? ⟨tb, 9, none⟩ = some (.bool thas) := (hb3'.cell (p := ⟨tb, 9, none⟩) htl).trans t9_
          have ut10 : w3.cell? ⟨tb, 10, none⟩ = some (.slice tR targs.length trc) := (hb3'.cell (p := ⟨tb, 10, none⟩) htl).trans t10_
          have ut11 : w3.cell? ⟨tb, 11, none⟩ = some (.slice tT tth.length ttc) := (hb3'.cell (p := ⟨tb, 11, none⟩) htl).trans t11_
          have ut12 : w3.cell? ⟨tb, 12, none⟩ = some (.slice tU tel.length tuc) := (hb3'.cell (p := ⟨tb, 12, none⟩) htl).trans t12_
          refine hK.out _ _ (fun _ => ⟨ux11, ux12, ut0, ut1, ut2, ut3, ut4, ut5, ut6, ut7, ut8, ut9, ut10, ut11, ut12⟩) ?_
          clear hK K
          (try simp only [Act.put, List.setIfInBounds_toArray, List.set_cons_zero, List.set_cons_succ])
          refine wpAnyL_take (i := 8) (v := ?_) rfl (by kernel_rfl) (by decide) (by kernel_rfl) (by kernel_rfl) (by kernel_rfl) (fun _ _ _ h => h) (Or.inl ⟨by rfl, ?_⟩) ⟨ux11, ux12, ut0, ut1, ut2, ut3, ut4, ut5, ut6, ut7, ut8, ut9, ut10, ut11, ut12⟩ ?_
          rotate_left
          · intro w hSw
            (try dsimp only at hSw)
            go_split_ands
            go_simp
            (try (with_reducible rfl))
          (try simp only [Act.put, List.setIfInBounds_toArray, List.set_cons_zero, List.set_cons_succ])
          refine wpAnyL_step (i := 7) (by kernel_rfl) rfl (fun K hK => ?_)
          go_simp
          refine (HE.out _ (HR.out.inn.on (below_step HBd.out hb3')) (HR.out.in2.on (below_step HBd.out hb3'))).mono ?_
          rintro e' w4 ⟨v4, rfl, hb4, hs4⟩
          obtain ⟨U4, uc4, rfl, hl4, hc4⟩ := hs4.shape
          have hb4' : Below wd.heap.size wd w4 := below_step hb3' hb4
          have HBy4 := Lib.hid (HByd.out.below hb4' hyl)
          have vx11 : w4.cell? ⟨xb, 11, none⟩ = some (.slice T th.length tc) := (hb4'.cell (p := ⟨xb, 11, none⟩) hxl).trans x11_
          have vx12 : w4.cell? ⟨xb, 12, none⟩ = some (.slice U el.length uc) := (hb4'.cell (p := ⟨xb, 12, none⟩) hxl).trans x12_
          have vt0 : w4.cell? ⟨tb, 0, none⟩ = some (.int .i64 tid) := (hb4'.cell (p := ⟨tb, 0, none⟩) htl).trans t0_
          have vt1 : w4.cell? ⟨tb, 1, none⟩ = some (.int .i64 tkind) := (hb4'.cell (p := ⟨tb, 1, none⟩) htl).trans t1_
          have vt2 : w4.cell? ⟨tb, 2, none⟩ = some (.slice tL tlabels.length tlc) := (hb4'.cell (p := ⟨tb, 2, none⟩) htl).trans t2_
          have vt3 : w4.cell? ⟨tb, 3, none⟩ = some (.string tnm) := (hb4'.cell (p := ⟨tb, 3, none⟩) htl).trans t3_
          have vt4 : w4.cell? ⟨tb, 4, none⟩ = some (.string tproc) := (hb4'.cell (p := ⟨tb, 4, none⟩) htl).trans t4_
          have vt5 : w4.cell? ⟨tb, 5, none⟩ = some (.int .i64 tx0) := (hb4'.cell (p := ⟨tb, 5, none⟩) htl).trans t5_
          have vt6 : w4.cell? ⟨tb, 6, none⟩ = some (.int .i64 tx1) := (hb4'.cell (p := ⟨tb, 6, none⟩) htl).trans t6_
          have vt7 : w4.cell? ⟨tb, 7, none⟩ = some (.string tx2) := (hb4'.cell (p := ⟨tb, 7, none⟩) htl).trans t7_
          have vt8 : w4.cell? ⟨tb, 8, none⟩ = some (.slice tX txn txc) := (hb4'.cell (p := ⟨tb, 8, none⟩) htl).trans t8_
          have vt9 : w4.cell? ⟨tb, 9, none⟩ = some (.bool thas) := (hb4'.cell (p := ⟨tb, 9, none⟩) htl).trans t9_
          have vt10 : w4.cell? ⟨tb, 10, none⟩ = some (.slice tR targs.length trc) := (hb4'.cell (p := ⟨tb, 10, none⟩) htl).trans t10_
          have vt11 : w4.cell? ⟨tb, 11, none⟩ = some (.slice tT tth.length ttc) := (hb4'.cell (p := ⟨tb, 11, none⟩) htl).trans t11_
          have vt12 : w4.cell? ⟨tb, 12, none⟩ = some (.slice tU tel.length tuc) := (hb4'.cell (p := ⟨tb, 12, none⟩) htl).trans t12_
          have y11 : w4.cell? ⟨yb, 11, none⟩ = some (.slice gT gth.length gtc) := (by rw [HBy4.out.cell]; rfl)
          have y12 : w4.cell? ⟨yb, 12, none⟩ = some (.slice gU gel.length guc) := (by rw [HBy4.out.cell]; rfl)
          have f11 := HBy4.out.frozen 11
          have f12 := HBy4.out.frozen 12
          have hyl4 := HBy4.out.lt
          have hxl4 := Nat.lt_of_lt_of_le hxl hb4'.size
          have htl4 := Nat.lt_of_lt_of_le htl hb4'.size
          refine hK.out _ _ (fun _ => ⟨vx11, vx12, vt0, vt1, vt2, vt3, vt4, vt5, vt6, vt7, vt8, vt9, vt10, vt11, vt12⟩) ?_
          clear hK K
          (try simp only [Act.put, List.setIfInBounds_toArray, List.set_cons_zero, List.set_cons_succ])
          refine wpAnyL_step (i := 9) (by kernel_rfl) rfl (fun K hK => ?_)
          go_simp
          refine hK.out _ _ (fun _ => ⟨set_far (by exact hyx) _ vx11, set_far (by exact hyx) _ vx12, set_far (by exact hty) _ vt0, set_far (by exact hty) _ vt1, set_far (by exact hty) _ vt2, set_far (by exact hty) _ vt3, set_far (by exact hty) _ vt4, set_far (by exact hty) _ vt5, set_far (by exact hty) _ vt6, set_far (by exact hty) _ vt7, set_far (by exact hty) _ vt8, set_far (by exact hty) _ vt9, set_far (by exact hty) _ vt10, set_far (by exact hty) _ vt11, set_far (by exact hty) _ vt12⟩) ?_
          clear hK K
          (try simp only [Act.put, List.setIfInBounds_toArray, List.set_cons_zero, List.set_cons_succ])
          refine wpAnyL_step (i := 10) (by kernel_rfl) rfl (fun K hK => ?_)
          go_simp
          refine hK.out _ _ (fun _ => ⟨set_far (by exact hyx) _ vx11, set_far (by exact hyx) _ vx12, set_far (by exact hty) _ vt0, set_far (by exact hty) _ vt1, set_far (by exact hty) _ vt2, set_far (by exact hty) _ vt3, set_far (by exact hty) _ vt4, set_far (by exact hty) _ vt5, set_far (by exact hty) _ vt6, set_far (by exact hty) _ vt7, set_far (by exact hty) _ vt8, set_far (by exact hty) _ vt9, set_far (by exact hty) _ vt10, set_far (by exact hty) _ vt11, set_far (by exact hty) _ vt12⟩) ?_
          clear hK K
          (try simp only [Act.put, List.setIfInBounds_toArray, List.set_cons_zero, List.set_cons_succ])
          refine wpAnyL_step (i := 11) (by kernel_rfl) rfl (fun K hK => ?_)
          go_simp
          refine hK.out _ _ (fun h => absurd rfl h) ?_
          clear hK K
          (try simp only [Act.put, List.setIfInBounds_toArray, List.set_cons_zero, List.set_cons_succ])
          refine wpAnyL_done (by kernel_rfl) ?_ 0
          have HBy5 : Hid (Blk ((w4.setCell ⟨yb, 11, none⟩ (.slice T3 (putSL t th).length tc3)).setCell ⟨yb, 12, none⟩ (.slice U4 (putSL t el).length uc4)) yb 64 #[.int .i64 gid, .int .i64 gkind, .slice gL glabels.length glc, .string gnm, .string gproc, .int .i64 gx0, .int .i64 gx1, .string gx2, .slice gX gxn gxc, .bool ghas, .slice gR gargs.length grc, .slice T3 (putSL t th).length tc3, .slice U4 (putSL t el).length uc4]) := Lib.hid ((HBy4.out.set_ 11 _).set_ 12 _)
          have HB5 : Hid (Below wr.heap.size wr ((w4.setCell ⟨yb, 11, none⟩ (.slice T3 (putSL t th).length tc3)).setCell ⟨yb, 12, none⟩ (.slice U4 (putSL t el).length uc4))) := Lib.hid (below_setc (below_setc (below_step HBd.out hb4') hwy _) hwy _)
          have hz4 : wd.heap.size ≤ w4.heap.size := hb4'.size
          have hz3 : wd.heap.size ≤ w3.heap.size := hb3'.size
          have hzr : wr.heap.size ≤ wd.heap.size := HBd.out.size
          have hsz5 : ((w4.setCell ⟨yb, 11, none⟩ (.slice T3 (putSL t th).length tc3)).setCell ⟨yb, 12, none⟩ (.slice U4 (putSL t el).length uc4)).heap.size = w4.heap.size := by simp only [size_set]
          have hc5 : ∀ p : Addr, p.block ≠ yb → ((w4.setCell ⟨yb, 11, none⟩ (.slice T3 (putSL t th).length tc3)).setCell ⟨yb, 12, none⟩ (.slice U4 (putSL t el).length uc4)).cell? p = w4.cell? p := fun p hp => by rw [cell_set_ne _ (fun e => hp (by rw [e])), cell_set_ne _ (fun e => hp (by rw [e]))]
          have HEl : Hid (StmtI ((w4.setCell ⟨yb, 11, none⟩ (.slice T3 (putSL t th).length tc3)).setCell ⟨yb, 12, none⟩ (.slice U4 (putSL t el).length uc4)) (fun j => wr.heap.size ≤ j ∧ j < ((w4.setCell ⟨yb, 11, none⟩ (.slice T3 (putSL t th).length tc3)).setCell ⟨yb, 12, none⟩ (.slice U4 (putSL t el).length uc4)).heap.size) (S.mk tid tkind tlabels tnm tproc tx thas targs (putSL t th) (putSL t el)) [.int .i64 gid, .int .i64 gkind, .slice gL glabels.length glc, .string gnm, .string gproc, .int .i64 gx0, .int .i64 gx1, .string gx2, .slice gX gxn gxc, .bool ghas, .slice gR gargs.length grc, .slice T3 (putSL t th).length tc3, .slice U4 (putSL t el).length uc4]) := Lib.hid (stmt_join (HSd.out.keep (fun j hj => ⟨hj.1.1, by rw [hsz5]; have := hj.1.2; omega⟩) (fun p hp => (hc5 p hp.2).trans (hb4'.cell hp.1.2))) (SliceI.keep hs3 (fun j hj => ⟨by have := hj.1; have : wd.heap.size ≤ j := hj.1; omega, by rw [hsz5]; have := hj.2; have := hb4.size; omega⟩) (fun p hp => (hc5 p (by have : wd.heap.size ≤ p.block := hp.1; omega)).trans (hb4.cell hp.2)) (fun s cs _ h => h.keep (fun j hj => ⟨by have : wd.heap.size ≤ j := hj.1; omega, by rw [hsz5]; have := hj.2; have := hb4.size; omega⟩) (fun p hp => (hc5 p (by have : wd.heap.size ≤ p.block := hp.1; omega)).trans (hb4.cell hp.2)))) (SliceI.keep hs4 (fun j hj => ⟨by have := hj.1; omega, by rw [hsz5]; exact hj.2⟩) (fun p hp => hc5 p (by have := hp.1; omega)) (fun s cs _ h => h.keep (fun j hj => ⟨by have := hj.1; omega, by rw [hsz5]; exact hj.2⟩) (fun p hp => hc5 p (by have := hp.1; omega)))))
          clear hc5 hsz5 hs3 hs4 hb3 hb4 hb3' hb4' HSd HBy4 y11 y12 f11 f12 hS0 ux11 ux12 ut0 ut1 ut2 ut3 ut4 ut5 ut6 ut7 ut8 ut9 ut10 ut11 ut12 vx11 vx12 vt0 vt1 vt2 vt3 vt4 vt5 vt6 vt7 vt8 vt9 vt10 vt11 vt12
          clear x11_ x12_ t0_ t1_ t2_ t3_ t4_ t5_ t6_ t7_ t8_ t9_ t10_ t11_ t12_
          generalize (World.setCell (World.setCell w4 _ _) _ _) = we at HBy5 HB5 HEl ⊢
          have y0_ : we.cell? ⟨yb, 0, none⟩ = some (.int .i64 gid) := by rw [HBy5.out.cell]; rfl
          have y1_ : we.cell? ⟨yb, 1, none⟩ = some (.int .i64 gkind) := by rw [HBy5.out.cell]; rfl
          have y2_ : we.cell? ⟨yb, 2, none⟩ = some (.slice gL glabels.length glc) := by rw [HBy5.out.cell]; rfl
          have y3_ : we.cell? ⟨yb, 3, none⟩ = some (.string gnm) := by rw [HBy5.out.cell]; rfl
          have y4_ : we.cell? ⟨yb, 4, none⟩ = some (.string gproc) := by rw [HBy5.out.cell]; rfl
          have y5_ : we.cell? ⟨yb, 5, none⟩ = some (.int .i64 gx0) := by rw [HBy5.out.cell]; rfl
          have y6_ : we.cell? ⟨yb, 6, none⟩ = some (.int .i64 gx1) := by rw [HBy5.out.cell]; rfl
          have y7_ : we.cell? ⟨yb, 7, none⟩ = some (.string gx2) := by rw [HBy5.out.cell]; rfl
          have y8_ : we.cell? ⟨yb, 8, none⟩ = some (.slice gX gxn gxc) := by rw [HBy5.out.cell]; rfl
          have y9_ : we.cell? ⟨yb, 9, none⟩ = some (.bool ghas) := by rw [HBy5.out.cell]; rfl
          have y10_ : we.cell? ⟨yb, 10, none⟩ = some (.slice gR gargs.length grc) := by rw [HBy5.out.cell]; rfl
          have y11_ : we.cell? ⟨yb, 11, none⟩ = some (.slice T3 (putSL t th).length tc3) := by rw [HBy5.out.cell]; rfl
          have y12_ : we.cell? ⟨yb, 12, none⟩ = some (.slice U4 (putSL t el).length uc4) := by rw [HBy5.out.cell]; rfl
          have HR5 := Lib.hid (HR.out.on HB5.out)
          have hO5 := (Below.moves HB5.out).row HO.out (fun j hj e => Nat.not_lt.2 e (HO.out.lt j hj).2)
          have HO5 := Lib.hid hO5
          rw [htk] at hO5
          have HO5k := Lib.hid hO5
          clear hO5
          have HAl5 := Lib.hid (HAl.out.imp fun x cs h => h.keep (Q' := fun j => ((tb + 1) ≤ j ∧ j < we.heap.size) ∧ (Value.slice Xo k co).ownBlock ≠ some j) (fun j h => ⟨⟨h.1.1, Nat.lt_of_lt_of_le h.1.2 HB5.out.size⟩, h.2⟩) (fun p hp => HB5.out.cell hp.1.2))
          have HNw := Lib.hid (new16 we 64 [.int .i64 gid, .int .i64 gkind, .slice gL glabels.length glc, .string gnm, .string gproc, .int .i64 gx0, .int .i64 gx1, .string gx2, .slice gX gxn gxc, .bool ghas, .slice gR gargs.length grc, .slice T3 (putSL t th).length tc3, .slice U4 (putSL t el).length uc4])
          have hcb : tb + 1 ≤ we.heap.size + 1 := by have := HB5.out.size; omega
          have HRl : Hid (∀ j, (Value.slice Xo k co).ownBlock = some j → j < wr.heap.size) := Lib.hid (fun j hj => (HO.out.lt j hj).2)
          go_wp2_with (at_builtin; refine wpList_append_own_at _ rfl (.tmp 34) (.tmp 36) 57 rfl (tb + 1) 64 i0 _ 13 208 Try.underlying57 hi0 hz0 hz1 hz2 rfl (by decide) _ k rows.flatten rfl (HO5k.out.alloc _) ⟨we.heap.size, 0, none⟩ 1 1 [.int .i64 gid, .int .i64 gkind, .slice gL glabels.length glc, .string gnm, .string gproc, .int .i64 gx0, .int .i64 gx1, .string gx2, .slice gX gxn gxc, .bool ghas, .slice gR gargs.length grc, .slice T3 (putSL t th).length tc3, .slice U4 (putSL t el).length uc4] rfl rfl HNw.out (by simp [Value.oneCell']) (by unfold maxLen; omega) (by omega) (by rw [World.size_alloc]; exact hcb) ?_)
          intro v' w6 hown6 hg6 _ hat6
          obtain ⟨X6, c6, rfl, hP6⟩ := pu_step HR5.out htk.symm (Nat.lt_succ_self _) hbase HQ.out HQ2.out HSz HRl.out HEl.out HO5.out HAl5.out hown6 hg6 (hat6.imp Eq.symm (fun h => by rw [h, World.size_alloc]))
          have HP6 := Lib.hid hP6
          clear hown6 hg6 hat6 hP6
          go_wp2_with fail
          go_roundw
          case rel => exact ⟨k + 1, X6, c6, by omega, by go_num, rfl, Lib.hid (by rw [HTk.out]; rw [show putS t (S.mk id kind labels nm proc x has args th el) = S.mk tid tkind tlabels tnm tproc tx thas targs (putSL t th) (putSL t el) from by rw [HTT.out, putS, if_pos HCc.out]]; exact HP6.out)⟩
          case measure => simp [intOf]; omega
        · have hcb_ : (id == tid) = false := by simp [hc]
          go_upto_region 8 with fail
          have HBd := HBb
          have HBxd := HBx1
          have HBtd := HBt
          have HByd := HBy
          have HSd := HS1
          clear x0_ t0_ HBb HBx1 HBt HBy HS1
          have x11_ : wb.cell? ⟨xb, 11, none⟩ = some (.slice T th.length tc) := by rw [HBxd.out.cell]; rfl
          have x12_ : wb.cell? ⟨xb, 12, none⟩ = some (.slice U el.length uc) := by rw [HBxd.out.cell]; rfl
          have t0_ : wb.cell? ⟨tb, 0, none⟩ = some (.int .i64 tid) := by rw [HBtd.out.cell]; rfl
          have t1_ : wb.cell? ⟨tb, 1, none⟩ = some (.int .i64 tkind) := by rw [HBtd.out.cell]; rfl
          have t2_ : wb.cell? ⟨tb, 2, none⟩ = some (.slice tL tlabels.length tlc) := by rw [HBtd.out.cell]; rfl
          have t3_ : wb.cell? ⟨tb, 3, none⟩ = some (.string tnm) := by rw [HBtd.out.cell]; rfl
          have t4_ : wb.cell? ⟨tb, 4, none⟩ = some (.string tproc) := by rw [HBtd.out.cell]; rfl
          have t5_ : wb.cell? ⟨tb, 5, none⟩ = some (.int .i64 tx0) := by rw [HBtd.out.cell]; rfl
          have t6_ : wb.cell? ⟨tb, 6, none⟩ = some (.int .i64 tx1) := by rw [HBtd.out.cell]; rfl
          have t7_ : wb.cell? ⟨tb, 7, none⟩ = some (.string tx2) := by rw [HBtd.out.cell]; rfl
          have t8_ : wb.cell? ⟨tb, 8, none⟩ = some (.slice tX txn txc) := by rw [HBtd.out.cell]; rfl
          have t9_ : wb.cell? ⟨tb, 9, none⟩ = some (.bool thas) := by rw [HBtd.out.cell]; rfl
          have t10_ : wb.cell? ⟨tb, 10, none⟩ = some (.slice tR targs.length trc) := by rw [HBtd.out.cell]; rfl
          have t11_ : wb.cell? ⟨tb, 11, none⟩ = some (.slice tT tth.length ttc) := by rw [HBtd.out.cell]; rfl
          have t12_ : wb.cell? ⟨tb, 12, none⟩ = some (.slice tU tel.length tuc) := by rw [HBtd.out.cell]; rfl
          have hxl := HBxd.out.lt
          have htl := HBtd.out.lt
          have hyl := HByd.out.lt
          have hdr : ∀ {Q : Nat → Prop} {w V : World}, In Q w V → In Q w V.drew := fun h => h
          refine wp_region_last (fun w' : World => w'.cell? ⟨xb, 11, none⟩ = some (.slice T th.length tc) ∧ w'.cell? ⟨xb, 12, none⟩ = some (.slice U el.length uc) ∧ w'.cell? ⟨tb, 0, none⟩ = some (.int .i64 tid) ∧ w'.cell? ⟨tb, 1, none⟩ = some (.int .i64 tkind) ∧ w'.cell? ⟨tb, 2, none⟩ = some (.slice tL tlabels.length tlc) ∧ w'.cell? ⟨tb, 3, none⟩ = some (.string tnm) ∧ w'.cell? ⟨tb, 4, none⟩ = some (.string tproc) ∧ w'.cell? ⟨tb, 5, none⟩ = some (.int .i64 tx0) ∧ w'.cell? ⟨tb, 6, none⟩ = some (.int .i64 tx1) ∧ w'.cell? ⟨tb, 7, none⟩ = some (.string tx2) ∧ w'.cell? ⟨tb, 8, none⟩ = some (.slice tX txn txc) ∧ w'.cell? ⟨tb, 9, none⟩ = some (.bool thas) ∧ w'.cell? ⟨tb, 10, none⟩ = some (.slice tR targs.length trc) ∧ w'.cell? ⟨tb, 11, none⟩ = some (.slice tT tth.length ttc) ∧ w'.cell? ⟨tb, 12, none⟩ = some (.slice tU tel.length tuc)) 11 (by kernel_rfl) ?_
          have hS0 : (fun w' : World => w'.cell? ⟨xb, 11, none⟩ = some (.slice T th.length tc) ∧ w'.cell? ⟨xb, 12, none⟩ = some (.slice U el.length uc) ∧ w'.cell? ⟨tb, 0, none⟩ = some (.int .i64 tid) ∧ w'.cell? ⟨tb, 1, none⟩ = some (.int .i64 tkind) ∧ w'.cell? ⟨tb, 2, none⟩ = some (.slice tL tlabels.length tlc) ∧ w'.cell? ⟨tb, 3, none⟩ = some (.string tnm) ∧ w'.cell? ⟨tb, 4, none⟩ = some (.string tproc) ∧ w'.cell? ⟨tb, 5, none⟩ = some (.int .i64 tx0) ∧ w'.cell? ⟨tb, 6, none⟩ = some (.int .i64 tx1) ∧ w'.cell? ⟨tb, 7, none⟩ = some (.string tx2) ∧ w'.cell? ⟨tb, 8, none⟩ = some (.slice tX txn txc) ∧ w'.cell? ⟨tb, 9, none⟩ = some (.bool thas) ∧ w'.cell? ⟨tb, 10, none⟩ = some (.slice tR targs.length trc) ∧ w'.cell? ⟨tb, 11, none⟩ = some (.slice tT tth.length ttc) ∧ w'.cell? ⟨tb, 12, none⟩ = some (.slice tU tel.length tuc)) wb.drew := ⟨x11_, x12_, t0_, t1_, t2_, t3_, t4_, t5_, t6_, t7_, t8_, t9_, t10_, t11_, t12_⟩
          change wpAnyL _ _ _ _ _ _ 12 _ _ wb.drew
          refine wpAnyL_take (i := 0) (v := ?_) rfl (by kernel_rfl) (by decide) (by kernel_rfl) (by kernel_rfl) (by kernel_rfl) (fun _ _ _ h => h) (Or.inl ⟨by rfl, ?_⟩) (by assumption) ?_
          rotate_left
          · intro w hSw
            (try dsimp only at hSw)
            go_split_ands
            go_simp
            (try (with_reducible rfl))
          (try simp only [Act.put, List.setIfInBounds_toArray, List.set_cons_zero, List.set_cons_succ])
          refine wpAnyL_take (i := 1) (v := ?_) rfl (by kernel_rfl) (by decide) (by kernel_rfl) (by kernel_rfl) (by kernel_rfl) (fun _ _ _ h => h) (Or.inl ⟨by rfl, ?_⟩) (by assumption) ?_
          rotate_left
          · intro w hSw
            (try dsimp only at hSw)
            go_split_ands
            go_simp
            (try (with_reducible rfl))
          (try simp only [Act.put, List.setIfInBounds_toArray, List.set_cons_zero, List.set_cons_succ])
          refine wpAnyL_take (i := 2) (v := ?_) rfl (by kernel_rfl) (by decide) (by kernel_rfl) (by kernel_rfl) (by kernel_rfl) (fun _ _ _ h => h) (Or.inl ⟨by rfl, ?_⟩) (by assumption) ?_
          rotate_left
          · intro w hSw
            (try dsimp only at hSw)
            go_split_ands
            go_simp
            (try (with_reducible rfl))
          (try simp only [Act.put, List.setIfInBounds_toArray, List.set_cons_zero, List.set_cons_succ])
          refine wpAnyL_take (i := 4) (v := ?_) rfl (by kernel_rfl) (by decide) (by kernel_rfl) (by kernel_rfl) (by kernel_rfl) (fun _ _ _ h => h) (Or.inl ⟨by rfl, ?_⟩) (by assumption) ?_
          rotate_left
          · intro w hSw
            (try dsimp only at hSw)
            go_split_ands
            go_simp
            (try (with_reducible rfl))
          (try simp only [Act.put, List.setIfInBounds_toArray, List.set_cons_zero, List.set_cons_succ])
          refine wpAnyL_take (i := 5) (v := ?_) rfl (by kernel_rfl) (by decide) (by kernel_rfl) (by kernel_rfl) (by kernel_rfl) (fun _ _ _ h => h) (Or.inl ⟨by rfl, ?_⟩) (by assumption) ?_
          rotate_left
          · intro w hSw
            (try dsimp only at hSw)
            go_split_ands
            go_simp
            (try (with_reducible rfl))
          (try simp only [Act.put, List.setIfInBounds_toArray, List.set_cons_zero, List.set_cons_succ])
          refine wpAnyL_take (i := 6) (v := ?_) rfl (by kernel_rfl) (by decide) (by kernel_rfl) (by kernel_rfl) (by kernel_rfl) (fun _ _ _ h => h) (Or.inl ⟨by rfl, ?_⟩) (by assumption) ?_
          rotate_left
          · intro w hSw
            (try dsimp only at hSw)
            go_split_ands
            go_simp
            (try (with_reducible rfl))
          (try simp only [Act.put, List.setIfInBounds_toArray, List.set_cons_zero, List.set_cons_succ])
          refine wpAnyL_step (i := 3) (by kernel_rfl) rfl (fun K hK => ?_)
          go_simp
          refine (HT.out _ (hdr (HR.out.inn.on HBd.out)) (hdr (HR.out.in2.on HBd.out))).mono ?_
          rintro e' w3 ⟨v3, rfl, hb3, hs3⟩
          obtain ⟨T3, tc3, rfl, hl3, hc3⟩ := hs3.shape
          have hb3' : Below wb.heap.size wb w3 := (show Below wb.heap.size wb wb.drew from (Below.refl _ _).drew).trans hb3
          have ux11 : w3.cell? ⟨xb, 11, none⟩ = some (.slice T th.length tc) := (hb3'.cell (p := ⟨xb, 11, none⟩) hxl).trans x11_
          have ux12 : w3.cell? ⟨xb, 12, none⟩ = some (.slice U el.length uc) := (hb3'.cell (p := ⟨xb, 12, none⟩) hxl).trans x12_
          have ut0 : w3.cell? ⟨tb, 0, none⟩ = some (.int .i64 tid) := (hb3'.cell (p := ⟨tb, 0, none⟩) htl).trans t0_
          have ut1 : w3.cell? ⟨tb, 1, none⟩ = some (.int .i64 tkind) := (hb3'.cell (p := ⟨tb, 1, none⟩) htl).trans t1_
          have ut2 : w3.cell? ⟨tb, 2, none⟩ = some (.slice tL tlabels.length tlc) := (hb3'.cell (p := ⟨tb, 2, none⟩) htl).trans t2_
          have ut3 : w3.cell? ⟨tb, 3, none⟩ = some (.string tnm) := (hb3'.cell (p := ⟨tb, 3, none⟩) htl).trans t3_
          have ut4 : w3.cell? ⟨tb, 4, none⟩ = some (.string tproc) := (hb3'.cell (p := ⟨tb, 4, none⟩) htl).trans t4_
          have ut5 : w3.cell? ⟨tb, 5, none⟩ = some (.int .i64 tx0) := (hb3'.cell (p := ⟨tb, 5, none⟩) htl).trans t5_
          have ut6 : w3.cell? ⟨tb, 6, none⟩ = some (.int .i64 tx1) := (hb3'.cell (p := ⟨tb, 6, none⟩) htl).trans t6_
          have ut7 : w3.cell? ⟨tb, 7, none⟩ = some (.string tx2) := (hb3'.cell (p := ⟨tb, 7, none⟩) htl).trans t7_
          have ut8 : w3.cell? ⟨tb, 8, none⟩ = some (.slice tX txn txc) := (hb3'.cell (p := ⟨tb, 8, none⟩) htl).trans t8_
          have ut9 : w3.cell? ⟨tb, 9, none⟩ = some (.bool thas) := (hb3'.cell (p := ⟨tb, 9, none⟩) htl).trans t9_
          have ut10 : w3.cell? ⟨tb, 10, none⟩ = some (.slice tR targs.length trc) := (hb3'.cell (p := ⟨tb, 10, none⟩) htl).trans t10_
          have ut11 : w3.cell? ⟨tb, 11, none⟩ = some (.slice tT tth.length ttc) := (hb3'.cell (p := ⟨tb, 11, none⟩) htl).trans t11_
          have ut12 : w3.cell? ⟨tb, 12, none⟩ = some (.slice tU tel.length tuc) := (hb3'.cell (p := ⟨tb, 12, none⟩) htl).trans t12_
          refine hK.out _ _ (fun _ => ⟨ux11, ux12, ut0, ut1, ut2, ut3, ut4, ut5, ut6, ut7, ut8, ut9, ut10, ut11, ut12⟩) ?_
          clear hK K
          (try simp only [Act.put, List.setIfInBounds_toArray, List.set_cons_zero, List.set_cons_succ])
          refine wpAnyL_take (i := 8) (v := ?_) rfl (by kernel_rfl) (by decide) (by kernel_rfl) (by kernel_rfl) (by kernel_rfl) (fun _ _ _ h => h) (Or.inl ⟨by rfl, ?_⟩) ⟨ux11, ux12, ut0, ut1, ut2, ut3, ut4, ut5, ut6, ut7, ut8, ut9, ut10, ut11, ut12⟩ ?_
          rotate_left
          · intro w hSw
            (try dsimp only at hSw)
            go_split_ands
            go_simp
            (try (with_reducible rfl))
          (try simp only [Act.put, List.setIfInBounds_toArray, List.set_cons_zero, List.set_cons_succ])
          refine wpAnyL_step (i := 7) (by kernel_rfl) rfl (fun K hK => ?_)
          go_simp
          refine (HE.out _ (HR.out.inn.on (below_step HBd.out hb3')) (HR.out.in2.on (below_step HBd.out hb3'))).mono ?_
          rintro e' w4 ⟨v4, rfl, hb4, hs4⟩
          obtain ⟨U4, uc4, rfl, hl4, hc4⟩ := hs4.shape
          have hb4' : Below wb.heap.size wb w4 := below_step hb3' hb4
          have HBy4 := Lib.hid (HByd.out.below hb4' hyl)
          have vx11 : w4.cell? ⟨xb, 11, none⟩ = some (.slice T th.length tc) := (hb4'.cell (p := ⟨xb, 11, none⟩) hxl).trans x11_
          have vx12 : w4.cell? ⟨xb, 12, none⟩ = some (.slice U el.length uc) := (hb4'.cell (p := ⟨xb, 12, none⟩) hxl).trans x12_
          have vt0 : w4.cell? ⟨tb, 0, none⟩ = some (.int .i64 tid) := (hb4'.cell (p := ⟨tb, 0, none⟩) htl).trans t0_
          have vt1 : w4.cell? ⟨tb, 1, none⟩ = some (.int .i64 tkind) := (hb4'.cell (p := ⟨tb, 1, none⟩) htl).trans t1_
          have vt2 : w4.cell? ⟨tb, 2, none⟩ = some (.slice tL tlabels.length tlc) := (hb4'.cell (p := ⟨tb, 2, none⟩) htl).trans t2_
          have vt3 : w4.cell? ⟨tb, 3, none⟩ = some (.string tnm) := (hb4'.cell (p := ⟨tb, 3, none⟩) htl).trans t3_
          have vt4 : w4.cell? ⟨tb, 4, none⟩ = some (.string tproc) := (hb4'.cell (p := ⟨tb, 4, none⟩) htl).trans t4_
          have vt5 : w4.cell? ⟨tb, 5, none⟩ = some (.int .i64 tx0) := (hb4'.cell (p := ⟨tb, 5, none⟩) htl).trans t5_
          have vt6 : w4.cell? ⟨tb, 6, none⟩ = some (.int .i64 tx1) := (hb4'.cell (p := ⟨tb, 6, none⟩) htl).trans t6_
          have vt7 : w4.cell? ⟨tb, 7, none⟩ = some (.string tx2) := (hb4'.cell (p := ⟨tb, 7, none⟩) htl).trans t7_
          have vt8 : w4.cell? ⟨tb, 8, none⟩ = some (.slice tX txn txc) := (hb4'.cell (p := ⟨tb, 8, none⟩) htl).trans t8_
          have vt9 : w4.cell? ⟨tb, 9, none⟩ = some (.bool thas) := (hb4'.cell (p := ⟨tb, 9, none⟩) htl).trans t9_
          have vt10 : w4.cell? ⟨tb, 10, none⟩ = some (.slice tR targs.length trc) := (hb4'.cell (p := ⟨tb, 10, none⟩) htl).trans t10_
          have vt11 : w4.cell? ⟨tb, 11, none⟩ = some (.slice tT tth.length ttc) := (hb4'.cell (p := ⟨tb, 11, none⟩) htl).trans t11_
          have vt12 : w4.cell? ⟨tb, 12, none⟩ = some (.slice tU tel.length tuc) := (hb4'.cell (p := ⟨tb, 12, none⟩) htl).trans t12_
          have y11 : w4.cell? ⟨yb, 11, none⟩ = some (.slice dT dth.length dtc) := (by rw [HBy4.out.cell]; rfl)
          have y12 : w4.cell? ⟨yb, 12, none⟩ = some (.slice dU del.length duc) := (by rw [HBy4.out.cell]; rfl)
          have f11 := HBy4.out.frozen 11
          have f12 := HBy4.out.frozen 12
          have hyl4 := HBy4.out.lt
          have hxl4 := Nat.lt_of_lt_of_le hxl hb4'.size
          have htl4 := Nat.lt_of_lt_of_le htl hb4'.size
          refine hK.out _ _ (fun _ => ⟨vx11, vx12, vt0, vt1, vt2, vt3, vt4, vt5, vt6, vt7, vt8, vt9, vt10, vt11, vt12⟩) ?_
          clear hK K
          (try simp only [Act.put, List.setIfInBounds_toArray, List.set_cons_zero, List.set_cons_succ])
          refine wpAnyL_step (i := 9) (by kernel_rfl) rfl (fun K hK => ?_)
          go_simp
          refine hK.out _ _ (fun _ => ⟨set_far (by exact hyx) _ vx11, set_far (by exact hyx) _ vx12, set_far (by exact hty) _ vt0, set_far (by exact hty) _ vt1, set_far (by exact hty) _ vt2, set_far (by exact hty) _ vt3, set_far (by exact hty) _ vt4, set_far (by exact hty) _ vt5, set_far (by exact hty) _ vt6, set_far (by exact hty) _ vt7, set_far (by exact hty) _ vt8, set_far (by exact hty) _ vt9, set_far (by exact hty) _ vt10, set_far (by exact hty) _ vt11, set_far (by exact hty) _ vt12⟩) ?_
          clear hK K
          (try simp only [Act.put, List.setIfInBounds_toArray, List.set_cons_zero, List.set_cons_succ])
          refine wpAnyL_step (i := 10) (by kernel_rfl) rfl (fun K hK => ?_)
          go_simp
          refine hK.out _ _ (fun _ => ⟨set_far (by exact hyx) _ vx11, set_far (by exact hyx) _ vx12, set_far (by exact hty) _ vt0, set_far (by exact hty) _ vt1, set_far (by exact hty) _ vt2, set_far (by exact hty) _ vt3, set_far (by exact hty) _ vt4, set_far (by exact hty) _ vt5, set_far (by exact hty) _ vt6, set_far (by exact hty) _ vt7, set_far (by exact hty) _ vt8, set_far (by exact hty) _ vt9, set_far (by exact hty) _ vt10, set_far (by exact hty) _ vt11, set_far (by exact hty) _ vt12⟩) ?_
          clear hK K
          (try simp only [Act.put, List.setIfInBounds_toArray, List.set_cons_zero, List.set_cons_succ])
          refine wpAnyL_step (i := 11) (by kernel_rfl) rfl (fun K hK => ?_)
          go_simp
          refine hK.out _ _ (fun h => absurd rfl h) ?_
          clear hK K
          (try simp only [Act.put, List.setIfInBounds_toArray, List.set_cons_zero, List.set_cons_succ])
          refine wpAnyL_done (by kernel_rfl) ?_ 0
          have HBy5 : Hid (Blk ((w4.setCell ⟨yb, 11, none⟩ (.slice T3 (putSL t th).length tc3)).setCell ⟨yb, 12, none⟩ (.slice U4 (putSL t el).length uc4)) yb 64 #[.int .i64 did, .int .i64 dkind, .slice dL dlabels.length dlc, .string dnm, .string dproc, .int .i64 dx0, .int .i64 dx1, .string dx2, .slice dX dxn dxc, .bool dhas, .slice dR dargs.length drc, .slice T3 (putSL t th).length tc3, .slice U4 (putSL t el).length uc4]) := Lib.hid ((HBy4.out.set_ 11 _).set_ 12 _)
          have HB5 : Hid (Below wr.heap.size wr ((w4.setCell ⟨yb, 11, none⟩ (.slice T3 (putSL t th).length tc3)).setCell ⟨yb, 12, none⟩ (.slice U4 (putSL t el).length uc4))) := Lib.hid (below_setc (below_setc (below_step HBd.out hb4') hwy _) hwy _)
          have hz4 : wb.heap.size ≤ w4.heap.size := hb4'.size
          have hz3 : wb.heap.size ≤ w3.heap.size := hb3'.size
          have hzr : wr.heap.size ≤ wb.heap.size := HBd.out.size
          have hsz5 : ((w4.setCell ⟨yb, 11, none⟩ (.slice T3 (putSL t th).length tc3)).setCell ⟨yb, 12, none⟩ (.slice U4 (putSL t el).length uc4)).heap.size = w4.heap.size := by simp only [size_set]
          have hc5 : ∀ p : Addr, p.block ≠ yb → ((w4.setCell ⟨yb, 11, none⟩ (.slice T3 (putSL t th).length tc3)).setCell ⟨yb, 12, none⟩ (.slice U4 (putSL t el).length uc4)).cell? p = w4.cell? p := fun p hp => by rw [cell_set_ne _ (fun e => hp (by rw [e])), cell_set_ne _ (fun e => hp (by rw [e]))]
          have HEl : Hid (StmtI ((w4.setCell ⟨yb, 11, none⟩ (.slice T3 (putSL t th).length tc3)).setCell ⟨yb, 12, none⟩ (.slice U4 (putSL t el).length uc4)) (fun j => wr.heap.size ≤ j ∧ j < ((w4.setCell ⟨yb, 11, none⟩ (.slice T3 (putSL t th).length tc3)).setCell ⟨yb, 12, none⟩ (.slice U4 (putSL t el).length uc4)).heap.size) (S.mk id kind labels nm proc x has args (putSL t th) (putSL t el)) [.int .i64 did, .int .i64 dkind, .slice dL dlabels.length dlc, .string dnm, .string dproc, .int .i64 dx0, .int .i64 dx1, .string dx2, .slice dX dxn dxc, .bool dhas, .slice dR dargs.length drc, .slice T3 (putSL t th).length tc3, .slice U4 (putSL t el).length uc4]) := Lib.hid (stmt_join (HSd.out.keep (fun j hj => ⟨hj.1.1, by rw [hsz5]; have := hj.1.2; omega⟩) (fun p hp => (hc5 p hp.2).trans (hb4'.cell hp.1.2))) (SliceI.keep hs3 (fun j hj => ⟨by have := hj.1; have : wb.heap.size ≤ j := hj.1; omega, by rw [hsz5]; have := hj.2; have := hb4.size; omega⟩) (fun p hp => (hc5 p (by have : wb.heap.size ≤ p.block := hp.1; omega)).trans (hb4.cell hp.2)) (fun s cs _ h => h.keep (fun j hj => ⟨by have : wb.heap.size ≤ j := hj.1; omega, by rw [hsz5]; have := hj.2; have := hb4.size; omega⟩) (fun p hp => (hc5 p (by have : wb.heap.size ≤ p.block := hp.1; omega)).trans (hb4.cell hp.2)))) (SliceI.keep hs4 (fun j hj => ⟨by have := hj.1; omega, by rw [hsz5]; exact hj.2⟩) (fun p hp => hc5 p (by have := hp.1; omega)) (fun s cs _ h => h.keep (fun j hj => ⟨by have := hj.1; omega, by rw [hsz5]; exact hj.2⟩) (fun p hp => hc5 p (by have := hp.1; omega)))))
          clear hc5 hsz5 hs3 hs4 hb3 hb4 hb3' hb4' HSd HBy4 y11 y12 f11 f12 hS0 ux11 ux12 ut0 ut1 ut2 ut3 ut4 ut5 ut6 ut7 ut8 ut9 ut10 ut11 ut12 vx11 vx12 vt0 vt1 vt2 vt3 vt4 vt5 vt6 vt7 vt8 vt9 vt10 vt11 vt12
          clear x11_ x12_ t0_ t1_ t2_ t3_ t4_ t5_ t6_ t7_ t8_ t9_ t10_ t11_ t12_
          generalize (World.setCell (World.setCell w4 _ _) _ _) = we at HBy5 HB5 HEl ⊢
          have y0_ : we.cell? ⟨yb, 0, none⟩ = some (.int .i64 did) := by rw [HBy5.out.cell]; rfl
          have y1_ : we.cell? ⟨yb, 1, none⟩ = some (.int .i64 dkind) := by rw [HBy5.out.cell]; rfl
          have y2_ : we.cell? ⟨yb, 2, none⟩ = some (.slice dL dlabels.length dlc) := by rw [HBy5.out.cell]; rfl
          have y3_ : we.cell? ⟨yb, 3, none⟩ = some (.string dnm) := by rw [HBy5.out.cell]; rfl
          have y4_ : we.cell? ⟨yb, 4, none⟩ = some (.string dproc) := by rw [HBy5.out.cell]; rfl
          have y5_ : we.cell? ⟨yb, 5, none⟩ = some (.int .i64 dx0) := by rw [HBy5.out.cell]; rfl
          have y6_ : we.cell? ⟨yb, 6, none⟩ = some (.int .i64 dx1) := by rw [HBy5.out.cell]; rfl
          have y7_ : we.cell? ⟨yb, 7, none⟩ = some (.string dx2) := by rw [HBy5.out.cell]; rfl
          have y8_ : we.cell? ⟨yb, 8, none⟩ = some (.slice dX dxn dxc) := by rw [HBy5.out.cell]; rfl
          have y9_ : we.cell? ⟨yb, 9, none⟩ = some (.bool dhas) := by rw [HBy5.out.cell]; rfl
          have y10_ : we.cell? ⟨yb, 10, none⟩ = some (.slice dR dargs.length drc) := by rw [HBy5.out.cell]; rfl
          have y11_ : we.cell? ⟨yb, 11, none⟩ = some (.slice T3 (putSL t th).length tc3) := by rw [HBy5.out.cell]; rfl
          have y12_ : we.cell? ⟨yb, 12, none⟩ = some (.slice U4 (putSL t el).length uc4) := by rw [HBy5.out.cell]; rfl
          have HR5 := Lib.hid (HR.out.on HB5.out)
          have hO5 := (Below.moves HB5.out).row HO.out (fun j hj e => Nat.not_lt.2 e (HO.out.lt j hj).2)
          have HO5 := Lib.hid hO5
          rw [htk] at hO5
          have HO5k := Lib.hid hO5
          clear hO5
          have HAl5 := Lib.hid (HAl.out.imp fun x cs h => h.keep (Q' := fun j => ((tb + 1) ≤ j ∧ j < we.heap.size) ∧ (Value.slice Xo k co).ownBlock ≠ some j) (fun j h => ⟨⟨h.1.1, Nat.lt_of_lt_of_le h.1.2 HB5.out.size⟩, h.2⟩) (fun p hp => HB5.out.cell hp.1.2))
          have HNw := Lib.hid (new16 we 64 [.int .i64 did, .int .i64 dkind, .slice dL dlabels.length dlc, .string dnm, .string dproc, .int .i64 dx0, .int .i64 dx1, .string dx2, .slice dX dxn dxc, .bool dhas, .slice dR dargs.length drc, .slice T3 (putSL t th).length tc3, .slice U4 (putSL t el).length uc4])
          have hcb : tb + 1 ≤ we.heap.size + 1 := by have := HB5.out.size; omega
          have HRl : Hid (∀ j, (Value.slice Xo k co).ownBlock = some j → j < wr.heap.size) := Lib.hid (fun j hj => (HO.out.lt j hj).2)
          go_wp2_with (at_builtin; refine wpList_append_own_at _ rfl (.tmp 34) (.tmp 36) 57 rfl (tb + 1) 64 i0 _ 13 208 Try.underlying57 hi0 hz0 hz1 hz2 rfl (by decide) _ k rows.flatten rfl (HO5k.out.alloc _) ⟨we.heap.size, 0, none⟩ 1 1 [.int .i64 did, .int .i64 dkind, .slice dL dlabels.length dlc, .string dnm, .string dproc, .int .i64 dx0, .int .i64 dx1, .string dx2, .slice dX dxn dxc, .bool dhas, .slice dR dargs.length drc, .slice T3 (putSL t th).length tc3, .slice U4 (putSL t el).length uc4] rfl rfl HNw.out (by simp [Value.oneCell']) (by unfold maxLen; omega) (by omega) (by rw [World.size_alloc]; exact hcb) ?_)
          intro v' w6 hown6 hg6 _ hat6
          obtain ⟨X6, c6, rfl, hP6⟩ := pu_step HR5.out htk.symm (Nat.lt_succ_self _) hbase HQ.out HQ2.out HSz HRl.out HEl.out HO5.out HAl5.out hown6 hg6 (hat6.imp Eq.symm (fun h => by rw [h, World.size_alloc]))
          have HP6 := Lib.hid hP6
          clear hown6 hg6 hat6 hP6
          go_wp2_with fail
          go_roundw
          case rel => exact ⟨k + 1, X6, c6, by omega, by go_num, rfl, Lib.hid (by rw [HTk.out]; rw [show putS t (S.mk id kind labels nm proc x has args th el) = S.mk id kind labels nm proc x has args (putSL t th) (putSL t el) from by rw [HTT.out, putS, if_neg hc]]; exact HP6.out)⟩
          case measure => simp [intOf]; omega
      · have hke : k = l.length := by omega
        subst hke
        have HSl := Lib.hid (BuildI.done (R := fun w Q => StmtI w Q) stayS (fun h => (stmtCk _ _ _ _ h).1) HR.out.row)
        rw [List.take_of_length_le (by rw [putSL_len]; omega)] at HSl
        go_wp2_with fail
        go_ret
        exact ⟨_, rfl, HR.out.below, SliceI.keep HSl.out (fun j hj => ⟨by have := hj.1; omega, hj.2⟩) (fun p hp => rfl) (fun s cs _ h => h.keep (fun j hj => ⟨by have := hj.1; omega, hj.2⟩) (fun p hp => rfl))⟩
end Go.Proofs.Ytcocilpifdjibaa
namespace Go.Proofs.Ytcocilpifdjibaa
open Go.ChangeShapes Go.WideShapes Go.ChangeAt Go.RowKit Go.Deep
set_option linter.unusedVariables false
set_option linter.unusedSimpArgs false
theorem proc_info : (Try.prog.info? 59).map (fun i => (i.zero, i.size, i.bytes)) = some (some (.agg #[.string ⟨#[]⟩, .slice none 0 0, .slice none 0 0, .slice none 0 0, .slice none 0 0]), 5, 112) := by kernel_rfl
theorem par_info : (Try.prog.info? 61).map (fun i => (i.zero, i.size, i.bytes)) = some (some (.agg #[.string ⟨#[]⟩, .bool false]), 2, 24) := by kernel_rfl
theorem stayP : Stays (fun w Q => ProcI w Q) := fun h hQ hc => h.keep hQ hc
abbrev zR : Array Value := #[.string ⟨#[]⟩, .slice none 0 0, .slice none 0 0, .slice none 0 0, .slice none 0 0]
theorem set5_blk {w : World} {b : Nat} {e0 e1 e2 e3 e4 d0 d1 d2 d3 d4 : Value} (h : Blk w b 59 #[e0, e1, e2, e3, e4]) : Blk (World.setCell (World.setCell (World.setCell (World.setCell (World.setCell w ⟨b, 0, none⟩ (d0)) ⟨b, 1, none⟩ (d1)) ⟨b, 2, none⟩ (d2)) ⟨b, 3, none⟩ (d3)) ⟨b, 4, none⟩ (d4)) b 59 #[d0, d1, d2, d3, d4] := by
  have := (((((h.set_ 0 d0).set_ 1 d1).set_ 2 d2).set_ 3 d3).set_ 4 d4)
  simp only [List.setIfInBounds_toArray, List.set_cons_zero, List.set_cons_succ] at this
  exact this
theorem set5_size {w : World} {b : Nat} {d0 d1 d2 d3 d4 : Value} : (World.setCell (World.setCell (World.setCell (World.setCell (World.setCell w ⟨b, 0, none⟩ (d0)) ⟨b, 1, none⟩ (d1)) ⟨b, 2, none⟩ (d2)) ⟨b, 3, none⟩ (d3)) ⟨b, 4, none⟩ (d4)).heap.size = w.heap.size := by simp only [size_set]
theorem set5_below {B : Nat} {a w : World} {b : Nat} {d0 d1 d2 d3 d4 : Value} (h : Below B a w) (hb : B ≤ b) : Below B a (World.setCell (World.setCell (World.setCell (World.setCell (World.setCell w ⟨b, 0, none⟩ (d0)) ⟨b, 1, none⟩ (d1)) ⟨b, 2, none⟩ (d2)) ⟨b, 3, none⟩ (d3)) ⟨b, 4, none⟩ (d4)) := below_setc (below_setc (below_setc (below_setc (below_setc (h) hb _) hb _) hb _) hb _) hb _
def putPr (t : S) (q : Pr) : Pr := ⟨q.nm, q.params, q.vars, putSL t q.body, q.end_⟩
def putP (t : S) (p : Pg) : Pg := ⟨p.globals, p.procs.map (putPr t)⟩
section
variable {w w2 W W1 wr : World} {Q Q2 : Nat → Prop} {tb rb qb : Nat} {ct : Array Value} {globals : List ByteArray} {vg : Value} {outs : List Pr} {X : Option Addr} {n c : Nat}
end
def parCells (l : List Pa) : List (List Value) := l.map fun p => [.string p.nm, .bool p.ref]
theorem parCells_len (l : List Pa) : (parCells l).flatten.length = l.length * 2 := by
  induction l with
  | nil => rfl
  | cons p l ih => simp only [parCells, List.map_cons, List.flatten_cons, List.length_append, List.length_cons, List.length_nil] at ih ⊢; omega
theorem parCells_at {w W : World} {Q : Nat → Prop} {l : List Pa} {a : Addr} {n cap : Nat} (h : SliceI w Q 2 ParI l (.slice (some a) n cap)) (hI : In Q w W) : ∀ j u, (parCells l).flatten[j]? = some u → W.cell? (a.add j) = some u := by
  intro j u hu
  have hj : j < l.length * 2 := by rw [← parCells_len]; exact (List.getElem?_eq_some_iff.1 hu).1
  have hd : j = (j / 2) * 2 + j % 2 := by omega
  have hi : j / 2 < l.length := by omega
  obtain ⟨a', cs, ha, hq, ⟨rfl, _⟩, hc⟩ := slice_at h hI hi
  injection ha with ha
  subst ha
  rw [hd] at hu ⊢
  rw [flat_at (C := 2) (fun r hr => by obtain ⟨p, _, rfl⟩ := List.mem_map.1 hr; rfl) _ _ (by simp [parCells]; exact hi) (by omega)] at hu
  refine hc _ u ?_
  simpa [parCells, List.getD_eq_getElem?_getD, List.getElem?_map, List.getElem?_eq_getElem hi] using hu
theorem pars_of_own {w : World} {base : Nat} {l : List Pa} {v : Value} (hl : ∀ p ∈ l, p.nm.size ≤ 9223372036854775807) (h : w.ownsRow base 61 2 v l.length (parCells l).flatten) : SliceI w (fun b => base ≤ b ∧ b < w.heap.size) 2 ParI l v := by
  refine slice_of_own h ?_ (fun x cs h => by rw [h.1]; rfl)
  clear h
  induction l with
  | nil => trivial
  | cons p l ih => exact ⟨⟨rfl, hl p (List.mem_cons_self ..)⟩, ih (fun q hq => hl q (List.mem_cons_of_mem _ hq))⟩
theorem par_small {w : World} {Q : Nat → Prop} {l : List Pa} {v : Value} (h : SliceI w Q 2 ParI l v) : ∀ p ∈ l, p.nm.size ≤ 9223372036854775807 := by
  obtain ⟨A, cap, css, _, _, _, h4⟩ := h
  intro p hp
  obtain ⟨i, hi, rfl⟩ := List.getElem_of_mem hp
  exact (h4 i hi).2
theorem parCells_one (l : List Pa) : ∀ v ∈ (parCells l).flatten, v.oneCell' = true := by
  intro v hv
  obtain ⟨r, hr, hv⟩ := List.mem_flatten.1 hv
  obtain ⟨p, _, rfl⟩ := List.mem_map.1 hr
  simp only [List.mem_cons, List.not_mem_nil, or_false] at hv
  rcases hv with rfl | rfl <;> rfl
theorem sp_of {V U : World} {xb tb : Nat} {a0 a2 a3 a4 v0 v1 v2 v3 v4 v5 v6 v7 v8 v9 v10 v11 v12 : Value} (h : Below V.heap.size V U) (hk : xb < V.heap.size ∧ tb < V.heap.size ∧ V.cell? ⟨xb, 0, none⟩ = some a0 ∧ V.cell? ⟨xb, 2, none⟩ = some a2 ∧ V.cell? ⟨xb, 3, none⟩ = some a3 ∧ V.cell? ⟨xb, 4, none⟩ = some a4 ∧ V.cell? ⟨tb, 0, none⟩ = some v0 ∧ V.cell? ⟨tb, 1, none⟩ = some v1 ∧ V.cell? ⟨tb, 2, none⟩ = some v2 ∧ V.cell? ⟨tb, 3, none⟩ = some v3 ∧ V.cell? ⟨tb, 4, none⟩ = some v4 ∧ V.cell? ⟨tb, 5, none⟩ = some v5 ∧ V.cell? ⟨tb, 6, none⟩ = some v6 ∧ V.cell? ⟨tb, 7, none⟩ = some v7 ∧ V.cell? ⟨tb, 8, none⟩ = some v8 ∧ V.cell? ⟨tb, 9, none⟩ = some v9 ∧ V.cell? ⟨tb, 10, none⟩ = some v10 ∧ V.cell? ⟨tb, 11, none⟩ = some v11 ∧ V.cell? ⟨tb, 12, none⟩ = some v12) : U.cell? ⟨xb, 0, none⟩ = some a0 ∧ U.cell? ⟨xb, 2, none⟩ = some a2 ∧ U.cell? ⟨xb, 3, none⟩ = some a3 ∧ U.cell? ⟨xb, 4, none⟩ = some a4 ∧ U.cell? ⟨tb, 0, none⟩ = some v0 ∧ U.cell? ⟨tb, 1, none⟩ = some v1 ∧ U.cell? ⟨tb, 2, none⟩ = some v2 ∧ U.cell? ⟨tb, 3, none⟩ = some v3 ∧ U.cell? ⟨tb, 4, none⟩ = some v4 ∧ U.cell? ⟨tb, 5, none⟩ = some v5 ∧ U.cell? ⟨tb, 6, none⟩ = some v6 ∧ U.cell? ⟨tb, 7, none⟩ = some v7 ∧ U.cell? ⟨tb, 8, none⟩ = some v8 ∧ U.cell? ⟨tb, 9, none⟩ = some v9 ∧ U.cell? ⟨tb, 10, none⟩ = some v10 ∧ U.cell? ⟨tb, 11, none⟩ = some v11 ∧ U.cell? ⟨tb, 12, none⟩ = some v12 ∧ Below V.heap.size V U := by
  obtain ⟨h0, h0', hk⟩ := hk
  have e : ∀ j, U.cell? ⟨xb, j, none⟩ = V.cell? ⟨xb, j, none⟩ := fun j => h.cell (p := ⟨xb, j, none⟩) h0
  have e' : ∀ j, U.cell? ⟨tb, j, none⟩ = V.cell? ⟨tb, j, none⟩ := fun j => h.cell (p := ⟨tb, j, none⟩) h0'
  rw [e 0, e 2, e 3, e 4, e' 0, e' 1, e' 2, e' 3, e' 4, e' 5, e' 6, e' 7, e' 8, e' 9, e' 10, e' 11, e' 12]
  obtain ⟨k0, k1, k2, k3, k4, k5, k6, k7, k8, k9, k10, k11, k12, k13, k14, k15, k16⟩ := hk
  exact ⟨k0, k1, k2, k3, k4, k5, k6, k7, k8, k9, k10, k11, k12, k13, k14, k15, k16, h⟩
end Go.Proofs.Ytcocilpifdjibaa
