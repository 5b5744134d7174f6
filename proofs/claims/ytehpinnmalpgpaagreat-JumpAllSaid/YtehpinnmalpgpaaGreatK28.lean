/- Texts, merged by a program; only what is used. -/
import Derived.Test.YtehpinnmalpgpaaGreatK1
import Derived.Test.YtehpinnmalpgpaaGreatK2
import Derived.Test.YtehpinnmalpgpaaGreatK3
import Derived.Test.YtehpinnmalpgpaaGreatK4
import Derived.Test.YtehpinnmalpgpaaGreatK5
import Derived.Test.YtehpinnmalpgpaaGreatK6
import Derived.Test.YtehpinnmalpgpaaGreatK7
import Derived.Test.YtehpinnmalpgpaaGreatK8
import Derived.Test.YtehpinnmalpgpaaGreatK9
import Derived.Test.YtehpinnmalpgpaaGreatK10
import Derived.Test.YtehpinnmalpgpaaGreatK11
import Derived.Test.YtehpinnmalpgpaaGreatK12
import Derived.Test.YtehpinnmalpgpaaGreatK13
import Derived.Test.YtehpinnmalpgpaaGreatK14
import Derived.Test.YtehpinnmalpgpaaGreatK15
import Derived.Test.YtehpinnmalpgpaaGreatK16
import Derived.Test.YtehpinnmalpgpaaGreatK17
import Derived.Test.YtehpinnmalpgpaaGreatK18
import Derived.Test.YtehpinnmalpgpaaGreatK19
import Derived.Test.YtehpinnmalpgpaaGreatK20
import Derived.Test.YtehpinnmalpgpaaGreatK21
import Derived.Test.YtehpinnmalpgpaaGreatK22
import Derived.Test.YtehpinnmalpgpaaGreatK23
import Derived.Test.YtehpinnmalpgpaaGreatK24
import Derived.Test.YtehpinnmalpgpaaGreatK25
import Derived.Test.YtehpinnmalpgpaaGreatK26
import Derived.Test.YtehpinnmalpgpaaGreatK27
namespace Go.Proofs.YtehpinnmalpgpaaGreat
open Go.ChangeShapes Go.WideShapes Go.ChangeAt Go.RowKit Go.Deep
set_option linter.unusedVariables false
set_option linter.unusedSimpArgs false
/-- outward from what stands ahead of an item -/
def arIn (its : List It) : Nat → Int → Option Int
 | 0, _ => none
 | k + 1, inn => if inn = 0 then none else if (its.getD k It0).s.id = inn then (if (its.getD k It0).s.kind = 6 then some inn else arIn its k (its.getD k It0).inn) else arIn its k inn
def arOut (its : List It) (id : Int) : Nat → Option Int
 | 0 => none
 | i + 1 => if (its.getD i It0).s.id = id then (arIn its i (its.getD i It0).inn).elim (arOut its id i) some else arOut its id i
def aroundD (its : List It) (id : Int) : Int × Bool := (arOut its id its.length).elim (0, false) (fun r => (r, true))
theorem arIn_zero (its : List It) (k : Nat) : arIn its k 0 = none := by
 cases k with
 | zero => rfl
 | succ k => rw [arIn, if_pos rfl]
set_option maxHeartbeats 4000000 in
set_option maxRecDepth 100000 in
theorem rAround_any {w W0 W : World} {Q Q0 : Nat → Prop} {its : List It} {v : Value} (h : SliceI W0 Q0 16 (ItemI w Q) its v) (hI0 : In Q0 W0 W) (hl : its.length ≤ 1000) (id : Int) :
 Calls Tryz.prog 45 #[v, .int .i64 id] W fun e w' => e = .returned (.tuple #[.int .i64 (aroundD its id).1, .bool (aroundD its id).2]) ∧ W = w' := by
 obtain ⟨A, cap, rfl, hl1, hl2⟩ := h.shape
 have H := Lib.hid h
 have HI0 := Lib.hid hI0
 obtain ⟨res, hres⟩ : ∃ res, res = aroundD its id := ⟨_, rfl⟩
 rw [← hres]
 have HR := Lib.hid hres
 clear h hI0 hres
 go_enter Tryz.func45, Tryz.ntmps45
 go_wp2_with fail
 go_loopg [6] its.length (fun kk i wr => i = .int .i64 ((kk : Int) - 1) ∧ kk ≤ its.length ∧ W = wr ∧ Hid (arOut its id kk = arOut its id its.length))
 case atStart => exact ⟨rfl, Nat.le_refl _, rfl, Lib.hid rfl⟩
 case round =>
  obtain ⟨rfl, hkl, rfl, HO⟩ := hrel
  cases gk with
  | zero =>
   have HRv : Hid (res = (0, false)) := Lib.hid (by rw [HR.out]; unfold aroundD; rw [← HO.out]; rfl)
   clear HO
   go_wp2_with fail
   go_ret2
   exact ⟨(by rw [HRv.out]; rfl), rfl⟩
  | succ i =>
   have hlt : i < its.length := hkl
   have e1 : ((i + 1 : Nat) : Int) - 1 = (i : Int) := by omega
   rw [e1]
   obtain ⟨a2, sid, kind, labels, nm, proc, x, has, args, th, el, L, lc, y0, y1, y2, X, xn, xc, R, rc, T, tc, U, uc, dp, inn, els, rfl, hq2, hmk, hrow2, hid, hkind, hst, hdp, hinn, hels⟩ := item_at2 H.out (W := W) HI0.out hlt
   have hg : its.getD i It0 = its[i] := by rw [List.getD_eq_getElem?_getD, List.getElem?_eq_getElem hlt]; rfl
   have HS : Hid (arOut its id its.length = if sid = id then (arIn its i inn).elim (arOut its id i) some else arOut its id i) := Lib.hid (by
    rw [← HO.out, arOut, hg, hinn, hmk]
    rfl)
   obtain ⟨p0, p1, p2, p3, p4, p5, p6, p7, p8, p9, p10, p11, p12, p13, p14, p15, _⟩ := hrow2
   clear hmk hst hid hkind hq2 hdp hinn hels HO hg p1 p2 p3 p4 p5 p6 p7 p8 p9 p10 p11 p12 p13 p15
   have hi0 : (0 : Int) ≤ (i : Int) := by omega
   have hi1 : decide ((0 : Int) ≤ (i : Int)) = true := decide_eq_true hi0
   by_cases he : sid = id
   ·subst he
    have hne : (sid != sid) = false := by simp
    rw [if_pos rfl] at HS
    go_upto_region 7 with fail
    go_loopg [7, 8] i (fun kk t7 t8 wr => ∃ inn' : Int, t7 = .int .i64 inn' ∧ t8 = .int .i64 ((kk : Int) - 1) ∧ kk ≤ i ∧ W = wr ∧ Hid (arIn its kk inn' = arIn its i inn))
    case atStart => exact ⟨inn, rfl, rfl, Nat.le_refl _, rfl, Lib.hid rfl⟩
    case round =>
     obtain ⟨inn', rfl, rfl, hki, rfl, HA⟩ := hrel
     cases gk with
     | zero =>
      have HS2 : Hid (arOut its sid its.length = arOut its sid i) := Lib.hid (by rw [HS.out, ← HA.out]; rfl)
      clear HA HS
      go_wp2_with fail
      go_roundg i
      case measure => omega
      case rel => exact ⟨rfl, by omega, rfl, Lib.hid HS2.out.symm⟩
     | succ j =>
      have e2 : ((j + 1 : Nat) : Int) - 1 = (j : Int) := by omega
      rw [e2]
      have hj0 : (0 : Int) ≤ (j : Int) := by omega
      have hj1 : decide ((0 : Int) ≤ (j : Int)) = true := decide_eq_true hj0
      by_cases hin : inn' = 0
      ·subst hin
       have HS2 : Hid (arOut its sid its.length = arOut its sid i) := Lib.hid (by rw [HS.out, ← HA.out, arIn_zero]; rfl)
       clear HA HS
       go_wp2_with fail
       go_roundg i
       case measure => omega
       case rel => exact ⟨rfl, by omega, rfl, Lib.hid HS2.out.symm⟩
      ·have hin1 : (inn' != 0) = true := by rw [bne, beq_eq_false_iff_ne.2 hin]; rfl
       have hltj : j < its.length := by omega
       obtain ⟨a3, sid3, kind3, labels3, nm3, proc3, x3, has3, args3, th3, el3, L3, lc3, z0, z1, z2, X3, xn3, xc3, R3, rc3, T3, tc3, U3, uc3, dp3, inn3, els3, ha3, hq3, hmk3, hrow3, hid3, hkind3, hst3, hdp3, hinn3, hels3⟩ := item_at2 H.out (W := W) HI0.out hltj
       injection ha3 with ha3
       subst ha3
       have hg3 : its.getD j It0 = its[j] := by rw [List.getD_eq_getElem?_getD, List.getElem?_eq_getElem hltj]; rfl
       have HA3 : Hid (arIn its i inn = if sid3 = inn' then (if kind3 = 6 then some inn' else arIn its j inn3) else arIn its j inn') := Lib.hid (by
        rw [← HA.out, arIn, if_neg hin, hg3, hinn3, hmk3]
        rfl)
       obtain ⟨p0, p1, p2, p3, p4, p5, p6, p7, p8, p9, p10, p11, p12, p13, p14, p15, _⟩ := hrow3
       clear hmk3 hst3 hid3 hkind3 hq3 hdp3 hinn3 hels3 hg3 HA p2 p3 p4 p5 p6 p7 p8 p9 p10 p11 p12 p13 p15 hin
       by_cases hs3 : sid3 = inn'
       ·subst hs3
        have hne3 : (sid3 != sid3) = false := by simp
        rw [if_pos rfl] at HA3
        by_cases hk6 : kind3 = 6
        ·subst hk6
         have HRv : Hid (res = (sid3, true)) := Lib.hid (by rw [HR.out]; unfold aroundD; rw [HS.out, HA3.out]; rfl)
         clear HA3 HS
         go_wp2_with fail
         go_ret2
         exact ⟨(by rw [HRv.out]; rfl), rfl⟩
        ·rw [if_neg hk6] at HA3
         have hk1 : (kind3 == 6) = false := beq_eq_false_iff_ne.2 hk6
         clear hk6
         go_wp2_with fail
         go_roundg j
         case measure => omega
         case rel => exact ⟨inn3, rfl, rfl, by omega, rfl, Lib.hid HA3.out.symm⟩
       ·have hne3 : (sid3 != inn') = true := by rw [bne, beq_eq_false_iff_ne.2 hs3]; rfl
        rw [if_neg hs3] at HA3
        clear hs3
        go_wp2_with fail
        go_roundg j
        case measure => omega
        case rel => exact ⟨inn', rfl, rfl, by omega, rfl, Lib.hid HA3.out.symm⟩
   ·have hne : (sid != id) = true := by rw [bne, beq_eq_false_iff_ne.2 he]; rfl
    rw [if_neg he] at HS
    clear he
    go_wp2_with fail
    go_roundg i
    case measure => omega
    case rel => exact ⟨rfl, by omega, rfl, Lib.hid HS.out.symm⟩
/-- what the way outward finds, where the ids rise: the loop around the item -/
theorem around_it {c : Nat} {L : List (It × Int)} (hid : ∀ j (h : j < L.length), (L[j]).1.s.id = ((c + 1 + j : Nat) : Int)) (hp : ∀ x ∈ L, ParO 0 0 L x) : ∀ (j : Nat) (h : j < L.length), arIn (L.map Prod.fst) j (L[j]).1.inn = if (L[j]).2 = 0 then none else some (L[j]).2 := by
 have hget : ∀ k (hk : k < L.length), (L.map Prod.fst).getD k It0 = (L[k]).1 := fun k hk => by
  rw [List.getD_eq_getElem?_getD, List.getElem?_map, List.getElem?_eq_getElem hk]; rfl
 intro j
 induction j using Nat.strongRecOn with
 | _ j ih =>
  intro h
  rcases hp _ (List.getElem_mem h) with ⟨h1, h2⟩ | ⟨y, hy, h3, h4, h5⟩
  ·rw [h1, h2, arIn_zero]; rfl
  ·obtain ⟨i, hi, rfl⟩ := List.getElem_of_mem hy
   have hij : i < j := by rw [hid i hi, hid j h] at h3; omega
   have hne0 : (L[i]).1.s.id ≠ 0 := by rw [hid i hi]; omega
   have down : ∀ k, i < k → k ≤ j → arIn (L.map Prod.fst) k (L[i]).1.s.id = if (L[i]).1.s.kind = 6 then some (L[i]).1.s.id else arIn (L.map Prod.fst) i (L[i]).1.inn := by
    intro k
    induction k with
    | zero => intro h; omega
    | succ k ihk =>
     intro h6 h7
     have hk : k < L.length := by omega
     rw [arIn, if_neg hne0, hget k hk]
     by_cases hki : k = i
     ·subst hki
      rw [if_pos rfl]
     ·rw [if_neg (by rw [hid k hk, hid i hi]; omega)]
      exact ihk (by omega) (by omega)
   rw [h4, down j hij (Nat.le_refl _), h5]
   by_cases h6 : (L[i]).1.s.kind = 6
   ·rw [if_pos h6, if_pos h6, if_neg hne0]
   ·rw [if_neg h6, if_neg h6]
    exact ih i hij hi
theorem arOut_it {c : Nat} {L : List (It × Int)} (hid : ∀ j (h : j < L.length), (L[j]).1.s.id = ((c + 1 + j : Nat) : Int)) (hp : ∀ x ∈ L, ParO 0 0 L x) {x : It × Int} (hx : x ∈ L) : aroundD (L.map Prod.fst) x.1.s.id = (x.2, x.2 != 0) := by
 have hget : ∀ k (hk : k < L.length), (L.map Prod.fst).getD k It0 = (L[k]).1 := fun k hk => by
  rw [List.getD_eq_getElem?_getD, List.getElem?_map, List.getElem?_eq_getElem hk]; rfl
 obtain ⟨j, hj, rfl⟩ := List.getElem_of_mem hx
 have low : ∀ k, k ≤ j → arOut (L.map Prod.fst) (L[j]).1.s.id k = none := by
  intro k
  induction k with
  | zero => intro _; rfl
  | succ k ih =>
   intro hk
   have hkl : k < L.length := by omega
   rw [arOut, hget k hkl, if_neg (by rw [hid k hkl, hid j hj]; omega)]
   exact ih (by omega)
 have high : ∀ k, j < k → k ≤ L.length → arOut (L.map Prod.fst) (L[j]).1.s.id k = if (L[j]).2 = 0 then none else some (L[j]).2 := by
  intro k
  induction k with
  | zero => intro h; omega
  | succ k ih =>
   intro h1 h2
   have hkl : k < L.length := by omega
   rw [arOut, hget k hkl]
   by_cases hkj : k = j
   ·subst hkj
    rw [if_pos rfl, around_it hid hp k hkl, low k (Nat.le_refl _)]
    by_cases h0 : (L[k]).2 = 0
    ·rw [if_pos h0]; rfl
    ·rw [if_neg h0]; rfl
   ·rw [if_neg (by rw [hid k hkl, hid j hj]; omega)]
    exact ih (by omega) (by omega)
 unfold aroundD
 rw [List.length_map, high L.length hj (Nat.le_refl _)]
 by_cases h0 : (L[j]).2 = 0
 ·rw [if_pos h0, h0]; rfl
 ·rw [if_neg h0]
  have : ((L[j]).2 != 0) = true := by rw [bne, beq_eq_false_iff_ne.2 h0]; rfl
  rw [this]
  rfl
end Go.Proofs.YtehpinnmalpgpaaGreat
namespace Go.Proofs.YtehpinnmalpgpaaGreat
open Go.ChangeShapes Go.WideShapes Go.ChangeAt Go.RowKit Go.Deep
set_option linter.unusedVariables false
set_option linter.unusedSimpArgs false
def itLb (its : List It) : List ByteArray := its.flatMap (fun x => x.s.labels)
theorem itLb_take {its : List It} {k : Nat} (h : k < its.length) : itLb (its.take (k + 1)) = itLb (its.take k) ++ its[k].s.labels := by
 unfold itLb
 rw [List.take_succ_eq_append_getElem h, List.flatMap_append, List.flatMap_cons, List.flatMap_nil, List.append_nil]
theorem itLb_le (its : List It) (k : Nat) : (itLb (its.take k)).length ≤ (itLb its).length := by
 conv => rhs; rw [← List.take_append_drop k its]
 unfold itLb
 rw [List.flatMap_append, List.length_append]
 omega
theorem it_labs {w : World} {Q : Nat → Prop} {id kind : Int} {labels : List ByteArray} {nm proc : ByteArray} {x : E} {has : Bool} {args : List Ar} {th el : List S} {c0 c1 vl c3 c4 x0 x1 x2 x3 c9 va vt ve : Value} (h : StmtI w Q (.mk id kind labels nm proc x has args th el) [c0, c1, vl, c3, c4, x0, x1, x2, x3, c9, va, vt, ve]) : TextsI w Q labels vl := by
 cases h with
 | mk hid hkind hnm hproc hl hx ha hc1 hc2 hA1 hA2 hk1 hk2 => exact hl
set_option maxHeartbeats 4000000 in
set_option maxRecDepth 100000 in
theorem rlabels_any {w : World} {Q : Nat → Prop} {q : Pr} {c0 c1 c2 c3 c4 : Value} (h : ProcI w Q q [c0, c1, c2, c3, c4]) (hlen : (itLb (flatOf q)).length + q.end_.length ≤ 1000000) (W : World) (hI : In Q w W) :
 Calls Tryz.prog 50 #[.agg #[c0, c1, c2, c3, c4]] W (NewRow (itLb (flatOf q) ++ q.end_) W) := by
 have HFl := Lib.hid (fun V hV => Flat_any (W := V) h hV hV.1)
 obtain ⟨vp, vv, vb, ve, hc, hqn, hpp, hvv, hbody, hee⟩ := h
 simp only [List.cons.injEq, and_true] at hc
 obtain ⟨rfl, rfl, rfl, rfl, rfl⟩ := hc
 obtain ⟨Bp, kp, rfl, _, _⟩ := hpp.shape
 obtain ⟨Bv, kv, rfl, _, _⟩ := hvv.shape
 obtain ⟨Bb, kb, rfl, _⟩ := hbody.shape
 obtain ⟨Be, ke, rfl, _⟩ := hee.shape
 have HEe := Lib.hid hee
 have HI := Lib.hid hI
 have HLn := Lib.hid hlen
 obtain ⟨i0, hi0, hz0, hz1, hz2⟩ := info_parts string_info
 clear hpp hvv hee hbody hI hqn hlen
 go_enter Tryz.func50, Tryz.ntmps50
 go_upto_region 1 with fail
 have HBp : Hid (Blk (W.alloc (.cells #[.string q.nm, .slice Bp q.params.length kp, .slice Bv q.vars.length kv, .slice Bb q.body.length kb, .slice Be q.end_.length ke] 43)) W.heap.size 43 #[.string q.nm, .slice Bp q.params.length kp, .slice Bv q.vars.length kv, .slice Bb q.body.length kb, .slice Be q.end_.length ke]) := Lib.hid (Blk.new _ _ _)
 have HB0 : Hid (Below W.heap.size W (W.alloc (.cells #[.string q.nm, .slice Bp q.params.length kp, .slice Bv q.vars.length kv, .slice Bb q.body.length kb, .slice Be q.end_.length ke] 43))) := Lib.hid (below_box _)
 generalize World.alloc _ _ = V at HBp HB0 ⊢
 generalize W.heap.size = b at HBp ⊢
 have HI0 := Lib.hid (HI.out.on HB0.out)
 have q0 : V.cell? ⟨b, 0, none⟩ = some (.string q.nm) := by rw [HBp.out.cell]; rfl
 have q1 : V.cell? ⟨b, 1, none⟩ = some (.slice Bp q.params.length kp) := by rw [HBp.out.cell]; rfl
 have q2 : V.cell? ⟨b, 2, none⟩ = some (.slice Bv q.vars.length kv) := by rw [HBp.out.cell]; rfl
 have q3 : V.cell? ⟨b, 3, none⟩ = some (.slice Bb q.body.length kb) := by rw [HBp.out.cell]; rfl
 have q4 : V.cell? ⟨b, 4, none⟩ = some (.slice Be q.end_.length ke) := by rw [HBp.out.cell]; rfl
 generalize hits : flatOf q = its at HFl HLn ⊢
 have HIts := Lib.hid hits
 clear hits
 go_upto_region 3 with (go_at_call 27; refine (HFl.out V HI0.out).mono ?_; rintro e' W9 ⟨v9, rows9, rfl, ho9, ha9, hb9⟩; obtain ⟨X9, cx9, rfl, hx9, hx9'⟩ := own_shape ho9)
 have HSl := Lib.hid (slice_of_own ho9 ha9 (fun x cs h => by obtain ⟨c, rfl, hc⟩ := h; obtain ⟨_, _, _, _, _, _, _, _, _, _, _, _, _, _, _, _, _, _, _, _, _, _, _, _, _, rfl, _⟩ := stmt_open hc; rfl))
 have HB9 := Lib.hid (below_step HB0.out hb9)
 have HI9 := Lib.hid (HI0.out.on hb9)
 have HBp9 := Lib.hid (HBp.out.below hb9 HBp.out.lt)
 clear ho9 ha9 hb9 q0 q1 q2 q3 q4 HFl HBp HI0
 have hbl := HBp9.out.lt
 go_loopg [3, 9] its.length (fun kk ov iv wr => ∃ (k : Nat) (Xr : Option Addr) (n c : Nat), k + kk = its.length ∧ iv = .int .i64 k ∧ ov = .slice Xr n c ∧ n = (itLb (its.take k)).length ∧ Hid (NmI W9 wr (itLb (its.take k)) Xr n c))
 case atStart => exact ⟨0, none, 0, 0, by omega, rfl, rfl, rfl, Lib.hid ⟨World.ownsRow_nil _ _ _ _, Below.refl _ _⟩⟩
 case round =>
  obtain ⟨k, Xr, n, c, hk, rfl, rfl, hnl, HR⟩ := hrel
  have HIr := Lib.hid (HI9.out.on HR.out.below)
  by_cases hlt : k < its.length
  ·obtain ⟨a2, id, kind, labels, nm, proc, x, has, args, th, el, L, lc, y0, y1, y2, X, xn, xc, R, rc, T, tc, U, uc, dp, inn, els, rfl, hq2, hmk, hrow2, hid, hkind, hst, hdp, hinn, hels⟩ := item_at2 HSl.out (W := wr) ⟨fun b h => Nat.lt_of_lt_of_le h.2 HR.out.below.size, fun p hp => HR.out.below.cell hp.2⟩ hlt
   have HT : Hid (itLb (its.take (k + 1)) = itLb (its.take k) ++ labels) := Lib.hid (by rw [itLb_take hlt, hmk]; rfl)
   have HNk : Hid (n + labels.length ≤ 1000000) := Lib.hid (by
    have h1 := itLb_le its (k + 1)
    rw [HT.out, List.length_append] at h1
    have := HLn.out
    omega)
   have HLb := Lib.hid (it_labs hst)
   have HLk := Lib.hid hnl
   obtain ⟨p0, p1, p2, p3, p4, p5, p6, p7, p8, p9, p10, p11, p12, p13, p14, p15, _⟩ := hrow2
   generalize itLb (its.take k) = pre at HR HT HLk
   clear hmk hst hid hkind hq2 hdp hinn hels hnl
   go_upto_region 5 with fail
   have HBi : Hid (Blk (wr.alloc (.cells #[.int .i64 id, .int .i64 kind, .slice L labels.length lc, .string nm, .string proc, .int .i64 y0, .int .i64 y1, .string y2, .slice X xn xc, .bool has, .slice R args.length rc, .slice T th.length tc, .slice U el.length uc, .int .i64 dp, .int .i64 inn, .bool els] 55)) wr.heap.size 55 #[.int .i64 id, .int .i64 kind, .slice L labels.length lc, .string nm, .string proc, .int .i64 y0, .int .i64 y1, .string y2, .slice X xn xc, .bool has, .slice R args.length rc, .slice T th.length tc, .slice U el.length uc, .int .i64 dp, .int .i64 inn, .bool els]) := Lib.hid (Blk.new _ _ _)
   have HO4 : Hid ((wr.alloc (.cells #[.int .i64 id, .int .i64 kind, .slice L labels.length lc, .string nm, .string proc, .int .i64 y0, .int .i64 y1, .string y2, .slice X xn xc, .bool has, .slice R args.length rc, .slice T th.length tc, .slice U el.length uc, .int .i64 dp, .int .i64 inn, .bool els] 55)).ownsRow W9.heap.size 9 1 (.slice Xr n c) n (strs pre)) := Lib.hid (HR.out.row.alloc _)
   have HB4 : Hid (Below W9.heap.size W9 (wr.alloc (.cells #[.int .i64 id, .int .i64 kind, .slice L labels.length lc, .string nm, .string proc, .int .i64 y0, .int .i64 y1, .string y2, .slice X xn xc, .bool has, .slice R args.length rc, .slice T th.length tc, .slice U el.length uc, .int .i64 dp, .int .i64 inn, .bool els] 55))) := Lib.hid (below_stepA HR.out.below _)
   have HI4 : Hid (In Q w (wr.alloc (.cells #[.int .i64 id, .int .i64 kind, .slice L labels.length lc, .string nm, .string proc, .int .i64 y0, .int .i64 y1, .string y2, .slice X xn xc, .bool has, .slice R args.length rc, .slice T th.length tc, .slice U el.length uc, .int .i64 dp, .int .i64 inn, .bool els] 55))) := Lib.hid (HIr.out.alloc _)
   clear p0 p1 p2 p3 p4 p5 p6 p7 p8 p9 p10 p11 p12 p13 p14 p15 HR HIr
   generalize World.alloc wr _ = V4 at HBi HO4 HB4 HI4 ⊢
   generalize wr.heap.size = bi at HBi ⊢
   have s2 : V4.cell? ⟨bi, 2, none⟩ = some (.slice L labels.length lc) := by rw [HBi.out.cell]; rfl
   go_wp2_with (at_builtin; refine wpList_append_texts rfl (.tmp 13) (.tmp 16) 22 rfl W9.heap.size 9 i0 _ Tryz.underlying22 hi0 hz0 hz1 hz2 rfl _ n (strs pre) rfl HO4.out w Q L labels labels.length lc rfl rfl HLb.out HI4.out HNk.out HB4.out.size ?_; intro v6 w6 hown6 hg6; obtain ⟨X6, k6, rfl, _, _⟩ := own_shape hown6; have HN6 : Hid (NmI W9 w6 (itLb (its.take (k + 1))) X6 (n + labels.length) k6) := Lib.hid ⟨(by rw [HT.out, strs_append]; exact hown6), HB4.out.grown hg6 HB4.out.size (fun j hj => (HO4.out.lt j hj).1)⟩; clear hown6 hg6)
   go_roundg (its.length - k - 1)
   case measure => omega
   case rel => exact ⟨k + 1, X6, _, k6, by omega, by go_num, rfl, by rw [HT.out, List.length_append, ← HLk.out], HN6⟩
  ·obtain rfl : k = its.length := by omega
   have HBpr := Lib.hid (HBp9.out.below HR.out.below hbl)
   have q4 : wr.cell? ⟨b, 4, none⟩ = some (.slice Be q.end_.length ke) := by rw [HBpr.out.cell]; rfl
   rw [List.take_length] at HR hnl
   have HO7 := Lib.hid HR.out.row
   have HNk : Hid (n + q.end_.length ≤ 1000000) := Lib.hid (by have := HLn.out; omega)
   go_wp2_with (at_builtin; refine wpList_append_texts rfl (.tmp 19) (.tmp 21) 22 rfl W9.heap.size 9 i0 _ Tryz.underlying22 hi0 hz0 hz1 hz2 rfl _ n (strs (itLb its)) rfl HO7.out w Q Be q.end_ q.end_.length ke rfl rfl HEe.out HIr.out HNk.out HR.out.below.size ?_; intro v7 w7 hown7 hg7; have HO8 := Lib.hid hown7; have HG7 := Lib.hid hg7; clear hown7 hg7)
   go_ret
   refine ⟨v7, rfl, own_lower ?_ HB9.out.size, below_step HB9.out (HR.out.below.grown HG7.out HR.out.below.size (fun j hj => (HO7.out.lt j hj).1))⟩
   have h := HO8.out
   rw [← strs_append, hnl] at h
   rw [HIts.out, List.length_append]
   exact h
end Go.Proofs.YtehpinnmalpgpaaGreat
namespace Go.Proofs.YtehpinnmalpgpaaGreat
open Go.ChangeShapes Go.WideShapes Go.ChangeAt Go.RowKit Go.Deep
set_option linter.unusedVariables false
set_option linter.unusedSimpArgs false
def PcI6 (w : World) (Q : Nat → Prop) (r : Pr × Bool) (W : World) (e : Ending) (w' : World) : Prop := ∃ d0 d1 d2 d3 d4, e = .returned (.tuple #[.agg #[d0, d1, d2, d3, d4], .bool r.2]) ∧ Below W.heap.size W w' ∧ ProcI w Q r.1 [d0, d1, d2, d3, d4]
set_option maxHeartbeats 2000000 in
set_option maxRecDepth 100000 in
theorem rProc_any {w : World} {Q : Nat → Prop} {p : Pg} {c0 c1 : Value} (h : ProgI w Q p [c0, c1]) (nm : ByteArray) (W : World) (hI : In Q w W) :
  Calls Tryz.prog 39 #[.agg #[c0, c1], .string nm] W (PcI6 w Q (procP p nm) W) := by
 have HM := Lib.hid (fun V hV => rMay_any h V hV)
 obtain ⟨Ag, cg, Ap, cp, rfl, rfl, _, _, _, _, hgl, hpr⟩ := prog_open h
 have HP := Lib.hid hpr
 have HI := Lib.hid hI
 have HK : Hid (procP p nm = if mayP p = true then (p.procs.find? (isQ nm)).elim (P0, false) (fun q => (q, true)) else (P0, false)) := Lib.hid rfl
 clear h hI hpr hgl
 go_enter Tryz.func39, Tryz.ntmps39
 go_upto_region 1 with fail
 have HB0 : Hid (Below W.heap.size W ((W.alloc (.cells #[.slice Ag p.globals.length cg, .slice Ap p.procs.length cp] 25)).alloc (.cells zP 43))) := Lib.hid (below_two _ _)
 have HBp : Hid (Blk ((W.alloc (.cells #[.slice Ag p.globals.length cg, .slice Ap p.procs.length cp] 25)).alloc (.cells zP 43)) W.heap.size 25 #[.slice Ag p.globals.length cg, .slice Ap p.procs.length cp]) := Lib.hid ((Blk.new _ _ _).alloc _)
 have HBz : Hid (Blk ((W.alloc (.cells #[.slice Ag p.globals.length cg, .slice Ap p.procs.length cp] 25)).alloc (.cells zP 43)) (W.heap.size + 1) 43 zP) := Lib.hid (by have := Blk.new (W.alloc (.cells #[.slice Ag p.globals.length cg, .slice Ap p.procs.length cp] 25)) 43 zP; rw [World.size_alloc] at this; exact this)
 generalize World.alloc _ _ = V at HB0 HBp HBz ⊢
 have HI0 := Lib.hid (HI.out.on HB0.out)
 have q0 : V.cell? ⟨W.heap.size, 0, none⟩ = some (.slice Ag p.globals.length cg) := by rw [HBp.out.cell]; rfl
 have q1 : V.cell? ⟨W.heap.size, 1, none⟩ = some (.slice Ap p.procs.length cp) := by rw [HBp.out.cell]; rfl
 have hbl := HBp.out.lt
 cases hm : mayP p with
 | false =>
  rw [hm] at HM HK
  rw [if_neg (by decide)] at HK
  clear hm
  go_upto_region 8 with (go_at_call 78; refine (HM.out V HI0.out).mono ?_; rintro e W5 ⟨rfl, hb1⟩)
  have HB5 := Lib.hid (below_step HB0.out hb1)
  have HBz5 := Lib.hid (HBz.out.below hb1 HBz.out.lt)
  clear q0 q1 hbl hb1
  have y0 : W5.cell? ⟨W.heap.size + 1, 0, none⟩ = some (.string ⟨#[]⟩) := by rw [HBz5.out.cell]; rfl
  have y1 : W5.cell? ⟨W.heap.size + 1, 1, none⟩ = some (.slice none 0 0) := by rw [HBz5.out.cell]; rfl
  have y2 : W5.cell? ⟨W.heap.size + 1, 2, none⟩ = some (.slice none 0 0) := by rw [HBz5.out.cell]; rfl
  have y3 : W5.cell? ⟨W.heap.size + 1, 3, none⟩ = some (.slice none 0 0) := by rw [HBz5.out.cell]; rfl
  have y4 : W5.cell? ⟨W.heap.size + 1, 4, none⟩ = some (.slice none 0 0) := by rw [HBz5.out.cell]; rfl
  have f0 := HBz5.out.frozen 0
  have f1 := HBz5.out.frozen 1
  have f2 := HBz5.out.frozen 2
  have f3 := HBz5.out.frozen 3
  have f4 := HBz5.out.frozen 4
  have hzl := HBz5.out.lt
  go_wp2_with fail
  (try simp only [Exit.inBlock, Exit.then])
  refine bodyPost_ret (results_ct rfl _ _ (W.heap.size + 1) 43 _ (0, 0) _ rfl (pc5_blk HBz5.out) Tryz.underlying43 rfl (by kernel_rfl)) rfl ?_
  rw [HK.out]
  exact ⟨_, _, _, _, _, rfl, pc5_below HB5.out (by omega), zero_proc _ _⟩
 | true =>
  rw [hm] at HM HK
  rw [if_pos rfl] at HK
  clear hm
  go_upto_region 2 with (go_at_call 78; refine (HM.out V HI0.out).mono ?_; rintro e W5 ⟨rfl, hb1⟩)
  have HB5 := Lib.hid (below_step HB0.out hb1)
  have HI5 := Lib.hid (HI0.out.on hb1)
  have HBz5 := Lib.hid (HBz.out.below hb1 HBz.out.lt)
  have q1' : W5.cell? ⟨W.heap.size, 1, none⟩ = some (.slice Ap p.procs.length cp) := (hb1.cell (p := ⟨W.heap.size, 1, none⟩) hbl).trans q1
  clear q0 q1 hbl hb1 HBp HBz HB0 HI0
  go_upto_region 3 with fail
  clear q1'
  go_loopw [13] (fun iv wr => ∃ (k : Nat), k ≤ p.procs.length ∧ iv = .int .i64 k ∧ Hid ((p.procs.drop k).find? (isQ nm) = p.procs.find? (isQ nm)) ∧ Hid (Below W5.heap.size W5 wr)) (fun iv _ => p.procs.length - (intOf iv).toNat)
  case atStart => exact ⟨0, Nat.zero_le _, rfl, Lib.hid (by rw [List.drop_zero]), Lib.hid (Below.refl _ _)⟩
  case round =>
   obtain ⟨k, hk, rfl, HW, HR⟩ := hrel
   have HIr := Lib.hid (HI5.out.on HR.out)
   have HBW := Lib.hid (below_step HB5.out HR.out)
   have HBzr := Lib.hid (HBz5.out.below HR.out HBz5.out.lt)
   by_cases hlt : k < p.procs.length
   ·obtain ⟨a, Bp, kp, Bv, kv, Bb, kb, Be, ke, rfl, hqa, hrow, hnm, hpp, hvv, hbody, hee⟩ := proc_at HP.out HIr.out hlt
    have HPI : Hid (ProcI w Q p.procs[k] [.string p.procs[k].nm, .slice Bp p.procs[k].params.length kp, .slice Bv p.procs[k].vars.length kv, .slice Bb p.procs[k].body.length kb, .slice Be p.procs[k].end_.length ke]) := Lib.hid ⟨_, _, _, _, rfl, hnm, hpp, hvv, hbody, hee⟩
    have HD := HW.out
    rw [List.drop_eq_getElem_cons hlt, List.find?_cons] at HD
    have hv := isQ_eq nm p.procs[k]
    have hb' : ∃ b, isQ nm p.procs[k] = b := ⟨_, rfl⟩
    obtain ⟨b, hb⟩ := hb'
    rw [hb] at HD hv
    clear hb hnm hpp hvv hbody hee
    generalize hqq : p.procs[k] = qq at hrow HPI HD hv
    clear hqq
    generalize qq.nm = qn at hrow HPI hv
    generalize qq.params.length = x1 at hrow HPI
    generalize qq.vars.length = x2 at hrow HPI
    generalize qq.body.length = x3 at hrow HPI
    generalize qq.end_.length = x4 at hrow HPI
    obtain ⟨p0, p1, p2, p3, p4, _⟩ := hrow
    clear HW
    go_upto_region 5 with fail
    have HBq : Hid (Blk (wr.alloc (.cells #[.string qn, .slice Bp x1 kp, .slice Bv x2 kv, .slice Bb x3 kb, .slice Be x4 ke] 43)) wr.heap.size 43 #[.string qn, .slice Bp x1 kp, .slice Bv x2 kv, .slice Bb x3 kb, .slice Be x4 ke]) := Lib.hid (Blk.new _ _ _)
    have HBo : Hid (Below wr.heap.size wr (wr.alloc (.cells #[.string qn, .slice Bp x1 kp, .slice Bv x2 kv, .slice Bb x3 kb, .slice Be x4 ke] 43))) := Lib.hid (below_box _)
    clear p0 p1 p2 p3 p4
    generalize hW6 : World.alloc wr _ = W6 at HBq HBo ⊢
    clear hW6
    have HBzq := Lib.hid (HBzr.out.below HBo.out HBzr.out.lt)
    have HB6 := Lib.hid (below_step HBW.out HBo.out)
    have HR6 := Lib.hid (below_step HR.out HBo.out)
    have hne : wr.heap.size ≠ W.heap.size + 1 := by have := HBzr.out.lt; omega
    generalize wr.heap.size = bq at HBq hne ⊢
    have z0 : W6.cell? ⟨bq, 0, none⟩ = some (.string qn) := by rw [HBq.out.cell]; rfl
    have z1 : W6.cell? ⟨bq, 1, none⟩ = some (.slice Bp x1 kp) := by rw [HBq.out.cell]; rfl
    have z2 : W6.cell? ⟨bq, 2, none⟩ = some (.slice Bv x2 kv) := by rw [HBq.out.cell]; rfl
    have z3 : W6.cell? ⟨bq, 3, none⟩ = some (.slice Bb x3 kb) := by rw [HBq.out.cell]; rfl
    have z4 : W6.cell? ⟨bq, 4, none⟩ = some (.slice Be x4 ke) := by rw [HBq.out.cell]; rfl
    cases b with
    | true =>
     simp only at HD
     rw [← HD, Option.elim_some] at HK
     have y0 : W6.cell? ⟨W.heap.size + 1, 0, none⟩ = some (.string ⟨#[]⟩) := by rw [HBzq.out.cell]; rfl
     have y1 : W6.cell? ⟨W.heap.size + 1, 1, none⟩ = some (.slice none 0 0) := by rw [HBzq.out.cell]; rfl
     have y2 : W6.cell? ⟨W.heap.size + 1, 2, none⟩ = some (.slice none 0 0) := by rw [HBzq.out.cell]; rfl
     have y3 : W6.cell? ⟨W.heap.size + 1, 3, none⟩ = some (.slice none 0 0) := by rw [HBzq.out.cell]; rfl
     have y4 : W6.cell? ⟨W.heap.size + 1, 4, none⟩ = some (.slice none 0 0) := by rw [HBzq.out.cell]; rfl
     have f0 := HBzq.out.frozen 0
     have f1 := HBzq.out.frozen 1
     have f2 := HBzq.out.frozen 2
     have f3 := HBzq.out.frozen 3
     have f4 := HBzq.out.frozen 4
     have hzl := HBzq.out.lt
     have hv2 := hv.symm
     clear hv HD
     go_wp2_with fail
     (try simp only [Exit.inBlock, Exit.then])
     refine bodyPost_ret (results_ct rfl _ _ (W.heap.size + 1) 43 _ (0, 0) _ rfl (pc5_blk HBzq.out) Tryz.underlying43 rfl (by kernel_rfl)) rfl ?_
     rw [HK.out]
     exact ⟨_, _, _, _, _, rfl, pc5_below HB6.out (by omega), HPI.out⟩
    | false =>
     simp only at HD
     have HD := Lib.hid HD
     have hv2 := hv.symm
     clear hv
     go_wp2_with fail
     go_roundw
     case rel => exact ⟨k + 1, by omega, by go_num, HD, HR6⟩
     case measure => simp [intOf]; omega
   ·have hn := HW.out
    rw [List.drop_of_length_le (by omega), List.find?_nil] at hn
    rw [← hn, Option.elim_none] at HK
    clear hn HW
    have y0 : wr.cell? ⟨W.heap.size + 1, 0, none⟩ = some (.string ⟨#[]⟩) := by rw [HBzr.out.cell]; rfl
    have y1 : wr.cell? ⟨W.heap.size + 1, 1, none⟩ = some (.slice none 0 0) := by rw [HBzr.out.cell]; rfl
    have y2 : wr.cell? ⟨W.heap.size + 1, 2, none⟩ = some (.slice none 0 0) := by rw [HBzr.out.cell]; rfl
    have y3 : wr.cell? ⟨W.heap.size + 1, 3, none⟩ = some (.slice none 0 0) := by rw [HBzr.out.cell]; rfl
    have y4 : wr.cell? ⟨W.heap.size + 1, 4, none⟩ = some (.slice none 0 0) := by rw [HBzr.out.cell]; rfl
    have f0 := HBzr.out.frozen 0
    have f1 := HBzr.out.frozen 1
    have f2 := HBzr.out.frozen 2
    have f3 := HBzr.out.frozen 3
    have f4 := HBzr.out.frozen 4
    have hzl := HBzr.out.lt
    go_wp2_with fail
    (try simp only [Exit.inBlock, Exit.then])
    refine bodyPost_ret (results_ct rfl _ _ (W.heap.size + 1) 43 _ (0, 0) _ rfl (pc5_blk HBzr.out) Tryz.underlying43 rfl (by kernel_rfl)) rfl ?_
    rw [HK.out]
    exact ⟨_, _, _, _, _, rfl, pc5_below HBW.out (by omega), zero_proc _ _⟩
end Go.Proofs.YtehpinnmalpgpaaGreat
