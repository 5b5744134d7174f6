/- Texts, merged by a program; only what is used. -/
import Derived.Test.YtimejkbmfbjomaaGreatK1
import Derived.Test.YtimejkbmfbjomaaGreatK2
import Derived.Test.YtimejkbmfbjomaaGreatK3
import Derived.Test.YtimejkbmfbjomaaGreatK4
import Derived.Test.YtimejkbmfbjomaaGreatK5
import Derived.Test.YtimejkbmfbjomaaGreatK6
import Derived.Test.YtimejkbmfbjomaaGreatK7
import Derived.Test.YtimejkbmfbjomaaGreatK8
import Derived.Test.YtimejkbmfbjomaaGreatK9
import Derived.Test.YtimejkbmfbjomaaGreatK10
import Derived.Test.YtimejkbmfbjomaaGreatK11
import Derived.Test.YtimejkbmfbjomaaGreatK12
import Derived.Test.YtimejkbmfbjomaaGreatK13
import Derived.Test.YtimejkbmfbjomaaGreatK14
import Derived.Test.YtimejkbmfbjomaaGreatK15
import Derived.Test.YtimejkbmfbjomaaGreatK16
import Derived.Test.YtimejkbmfbjomaaGreatK17
import Derived.Test.YtimejkbmfbjomaaGreatK18
import Derived.Test.YtimejkbmfbjomaaGreatK19
import Derived.Test.YtimejkbmfbjomaaGreatK20
import Derived.Test.YtimejkbmfbjomaaGreatK21
import Derived.Test.YtimejkbmfbjomaaGreatK22
import Derived.Test.YtimejkbmfbjomaaGreatK23
import Derived.Test.YtimejkbmfbjomaaGreatK24
import Derived.Test.YtimejkbmfbjomaaGreatK25
import Derived.Test.YtimejkbmfbjomaaGreatK26
import Derived.Test.YtimejkbmfbjomaaGreatK27
import Derived.Test.YtimejkbmfbjomaaGreatK28
import Derived.Test.YtimejkbmfbjomaaGreatK29
import Derived.Test.YtimejkbmfbjomaaGreatK30
import Derived.Test.YtimejkbmfbjomaaGreatKA1
import Derived.Test.YtimejkbmfbjomaaGreatKA2
namespace Go.Proofs.YtimejkbmfbjomaaGreat
open Go.ChangeShapes Go.WideShapes Go.ChangeAt Go.RowKit Go.Deep
open Go.Maps (Keyed has IsMap)
set_option linter.unusedVariables false
set_option linter.unusedSimpArgs false
theorem und_ms : Tryz.prog.underlying 87 = some (.map 9 22) := by kernel_rfl
theorem zero_ms (w : World) : (zeroValue 22).run Tryz.prog w = .ok (.slice none 0 0) w := by kernel_rfl
/-- an element reads as itself -/
def heldE (v : Value) : Option (DataW Value × List MemPlace) := some (.held v, [])
/-- block b is a map of at most n texts: those of which f is some -/
def MapI (W : World) (b n : Nat) (f : ByteArray → Option Value) : Prop := ∃ D : DataW Value, W.ownsMap Tryz.prog 9 heldE b n D ∧ ∀ s : ByteArray, s.size ≤ maxLen → D.atKey (kS s) (.held (.slice none 0 0)) = .held ((f s).getD (.slice none 0 0)) ∧ has D (kS s) = (f s).isSome
theorem MapI.lt {W : World} {b n : Nat} {f : ByteArray → Option Value} (h : MapI W b n f) : b < W.heap.size := by obtain ⟨D, h1, _⟩ := h; exact h1.lt
theorem MapI.mono {W : World} {b n m : Nat} {f : ByteArray → Option Value} (h : MapI W b n f) (hm : n ≤ m) : MapI W b m f := by obtain ⟨D, h1, h2⟩ := h; exact ⟨D, h1.mono hm, h2⟩
theorem MapI.made (W : World) : MapI (W.alloc (.map #[] 0)) W.heap.size 0 (fun _ => none) := ⟨.map [], World.ownsMap_made _ _ _ _, fun s _ => ⟨rfl, rfl⟩⟩
theorem MapI.same {W W' : World} {b n : Nat} {f : ByteArray → Option Value} (h : MapI W b n f) (hb : W'.heap[b]? = W.heap[b]?) : MapI W' b n f := by
 obtain ⟨D, ⟨es, clock, h1, h3⟩, h2⟩ := h
 exact ⟨D, ⟨es, clock, hb.trans h1, h3⟩, h2⟩
theorem MapI.obj {W : World} {b n : Nat} {f : ByteArray → Option Value} (h : MapI W b n f) : ∃ es clock, W.heap[b]? = some (.map es clock) := by
 obtain ⟨D, ⟨es, clock, h1, _⟩, _⟩ := h
 exact ⟨es, clock, h1⟩
theorem MapI.look {W : World} {b n : Nat} {f : ByteArray → Option Value} (h : MapI W b n f) {t : TypeId} (ht : Tryz.prog.underlying t = some (.map 9 22)) (s : ByteArray) (hs : s.size ≤ maxLen) : (Instr.lookup t (.map (some b)) (.string s) true).run Tryz.prog W = .ok (.tuple #[(f s).getD (.slice none 0 0), .bool (f s).isSome]) W := by
 obtain ⟨D, h1, h2⟩ := h
 obtain ⟨v, ps, h3, h4⟩ := h1.look_ok (Maps.string_keyed und_s) ht (zero_ms W) (zd := .held (.slice none 0 0)) (zp := []) rfl (kS_key s hs)
 rw [(h2 s hs).1] at h4
 rw [(h2 s hs).2] at h3
 have e : v = (f s).getD (.slice none 0 0) := DataW.held.inj (congrArg Prod.fst (Option.some.inj h4))
 rw [e] at h3
 exact h3
theorem MapI.put {W : World} {b n : Nat} {f : ByteArray → Option Value} (h : MapI W b n f) {t : TypeId} (ht : Tryz.prog.underlying t = some (.map 9 22)) (hn : n < maxLen) (s : ByteArray) (hs : s.size ≤ maxLen) (v : Value) : ∃ W', (Instr.mapUpdate t (.map (some b)) (.string s) v).run Tryz.prog W = .ok () W' ∧ MapI W' b (n + 1) (fun x => if x = s then some v else f x) ∧ W.grownBy W' (some b) := by
 obtain ⟨D, h1, h2⟩ := h
 have him : IsMap D := by obtain ⟨es, clock, _, _, _, rfl⟩ := h1; exact ⟨_, rfl⟩
 obtain ⟨W', h3, h4, h5⟩ := h1.update (Maps.string_keyed und_s) ht hn (kS_key s hs) (val := v) (d := .held v) (ps := []) rfl
 refine ⟨W', h3, ⟨_, h4, fun x hx => ?_⟩, h5⟩
 by_cases hxs : x = s
 ·subst hxs
  rw [Maps.atKey_put_same him (show WideAt.IsKeyLit (kS x) from trivial), Maps.has_put_same him (show WideAt.IsKeyLit (kS x) from trivial)]
  simp
 ·rw [Maps.atKey_put_other (kS_ne hxs), Maps.has_put_other (kS_ne hxs), (h2 x hx).1, (h2 x hx).2]
  simp [hxs]
/-- 'm[k] = v' at the operation -/
theorem wpList_mapPut {W : World} {ops : Array Oper} {rest : List Oper} {o : Oper} {a : Act} {R : Exit → Act → World → Prop}
 (hg : o.guard = none) (m x v : Operand) (t : TypeId) (hop : o.op = Op.mapUpdate t m x v) (ht : Tryz.prog.underlying t = some (.map 9 22)) (b n : Nat) (f : ByteArray → Option Value)
 (hm : a.eval m = .map (some b)) (hown : MapI W b n f) (hn : n < maxLen) (s : ByteArray) (hs : s.size ≤ maxLen) (hx : a.eval x = .string s) (u : Value) (hv : a.eval v = u)
 (hK : ∀ W', MapI W' b (n + 1) (fun x => if x = s then some u else f x) → W.grownBy W' (some b) → wpList Tryz.prog ops R rest (a.put o.dst undef) W') :
 wpList Tryz.prog ops R (o :: rest) a W := by
 refine wpList_plain hg fun K' hK' => ?_
 obtain ⟨W', hrun, r1, r2⟩ := hown.put ht hn s hs u
 unfold Oper.wp
 simp [execOp, hop, hm, hx, hv, hrun, Result.andThen]
 exact hK' _ _ (hK W' r1 r2)
/-- the answers that are kept: each a row that was made since B, the globals that the procedure touches -/
def CkI (p : Pg) (B : Nat) (W : World) (m n : Nat) : Prop := ∃ f, MapI W m n f ∧ ∀ s v, f s = some v → ∃ l X k, v = .slice X l.length k ∧ W.ownsRow B 9 1 (.slice X l.length k) l.length (strs l) ∧ GlobOf p (jfP p s) l
theorem CkI.lt {p : Pg} {B : Nat} {W : World} {m n : Nat} (h : CkI p B W m n) : m < W.heap.size := by obtain ⟨f, h1, _⟩ := h; exact h1.lt
theorem CkI.mono {p : Pg} {B : Nat} {W : World} {m n k : Nat} (h : CkI p B W m n) (hk : n ≤ k) : CkI p B W m k := by obtain ⟨f, h1, h2⟩ := h; exact ⟨f, h1.mono hk, h2⟩
theorem own_not_map {W : World} {B : Nat} {e : TypeId} {n : Nat} {v : Value} {xs : List Value} (h : W.ownsRow B e 1 v n xs) {m k : Nat} {f : ByteArray → Option Value} (hm : MapI W m k f) : ∀ j, v.ownBlock = some j → j ≠ m := by
 intro j hj e'
 obtain ⟨es, cl, ho⟩ := hm.obj
 rcases h.2 with ⟨rfl, _⟩ | ⟨g, cap, cur, rfl, _, hg, _⟩
 ·simp [Value.ownBlock] at hj
 ·simp [Value.ownBlock] at hj
  subst hj e'
  rw [hg] at ho
  cases ho
theorem CkI.step {p : Pg} {B : Nat} {W W' : World} {m n : Nat} (h : CkI p B W m n) (hb : Below W.heap.size W W') : CkI p B W' m n := by
 obtain ⟨f, h1, h2⟩ := h
 refine ⟨f, h1.same (hb.block m h1.lt), fun s v hs => ?_⟩
 obtain ⟨l, X, k, e, ho, hg⟩ := h2 s v hs
 exact ⟨l, X, k, e, (Below.moves hb).row ho (fun j hj e => Nat.not_lt.2 e (ho.lt j hj).2), hg⟩
theorem SliceI.take {α : Type} {w : World} {Q : Nat → Prop} {C : Nat} {R : α → List Value → Prop} {l : List α} {A : Option Addr} {n cap : Nat} (h : SliceI w Q C R l (.slice A n cap)) {k : Nat} (hk : k ≤ l.length) : SliceI w Q C R (l.take k) (.slice A k cap) := by
 obtain ⟨A', cap', css, h1, h2, h3, h4⟩ := h
 injection h1 with e1 e2 e3
 subst e1 e2 e3
 refine ⟨A, cap, css, by rw [List.length_take, Nat.min_eq_left hk], ⟨by rw [List.length_take]; omega, h2.2⟩, fun h0 => ?_, fun i hi => ?_⟩
 ·have h5 : 0 < l.length := by rw [List.length_take] at h0; omega
  obtain ⟨a, ha, hq, hcs⟩ := h3 h5
  exact ⟨a, ha, hq, fun i hi => hcs i (by rw [List.length_take] at hi; omega)⟩
 ·rw [List.getElem_take]
  exact h4 i (by rw [List.length_take] at hi; omega)
end Go.Proofs.YtimejkbmfbjomaaGreat
namespace Go.Proofs.YtimejkbmfbjomaaGreat
open Go.ChangeShapes Go.WideShapes Go.ChangeAt Go.RowKit Go.Deep
set_option linter.unusedVariables false
set_option linter.unusedSimpArgs false
def refV (a : Ar) : List ByteArray := if a.ref = true then [a.nm] else []
def refsOf (args : List Ar) : List ByteArray := args.flatMap refV
theorem refsOf_len (args : List Ar) : (refsOf args).length ≤ args.length := by
 induction args with
 | nil => simp [refsOf]
 | cons a l ih =>
  have e : refsOf (a :: l) = refV a ++ refsOf l := rfl
  have h : (refV a).length ≤ 1 := by unfold refV; split <;> simp
  rw [e, List.length_append, List.length_cons]
  omega
set_option maxHeartbeats 4000000 in
set_option maxRecDepth 100000 in
theorem handedIn_any {w : World} {Q : Nat → Prop} {s : S} {cs : List Value} (h : StmtI w Q s cs) (hn : s.args.length ≤ 1000000) (W : World) (hI : In Q w W) :
 Calls Tryz.prog 106 #[.agg cs.toArray] W (NewRow (refsOf s.args) W) := by
 obtain ⟨id, kind, labels, nm, proc, x, has, args, th, el, L, lc, x0, x1, x2, X, xn, xc, R, rc, T, tc, U, uc, rfl, rfl, hid, hkind, hnm, hproc, hl, hx, ha, hth, hel⟩ := stmt_open h
 have HA := Lib.hid ha
 have HI := Lib.hid hI
 have HN : Hid ((refsOf args).length ≤ 1000000) := Lib.hid (Nat.le_trans (refsOf_len args) hn)
 have hok := hkind
 unfold i64 at hok
 obtain ⟨i0, hi0, hz0, hz1, hz2⟩ := info_parts string_info
 obtain ⟨_, har, hrc, _⟩ := slice_len ha
 clear h hn hI hl hx ha hth hel hid hkind hnm hproc
 simp only [List.toArray]
 show Calls _ _ _ _ (NewRow (refsOf args) W)
 go_enter Tryz.func106, Tryz.ntmps106
 go_upto_region 1 with fail
 have HBp : Hid (Blk (W.alloc (.cells #[.int .i64 id, .int .i64 kind, .slice L labels.length lc, .string nm, .string proc, .int .i64 x0, .int .i64 x1, .string x2, .slice X xn xc, .bool has, .slice R args.length rc, .slice T th.length tc, .slice U el.length uc] 49)) W.heap.size 49 #[.int .i64 id, .int .i64 kind, .slice L labels.length lc, .string nm, .string proc, .int .i64 x0, .int .i64 x1, .string x2, .slice X xn xc, .bool has, .slice R args.length rc, .slice T th.length tc, .slice U el.length uc]) := Lib.hid (Blk.new _ _ _)
 have HB0 : Hid (Below W.heap.size W (W.alloc (.cells #[.int .i64 id, .int .i64 kind, .slice L labels.length lc, .string nm, .string proc, .int .i64 x0, .int .i64 x1, .string x2, .slice X xn xc, .bool has, .slice R args.length rc, .slice T th.length tc, .slice U el.length uc] 49))) := Lib.hid (below_box _)
 generalize World.alloc _ _ = V at HBp HB0 ⊢
 generalize W.heap.size = b at HBp ⊢
 have HI0 := Lib.hid (HI.out.on HB0.out)
 have hbl := HBp.out.lt
 have q10 : V.cell? ⟨b, 10, none⟩ = some (.slice R args.length rc) := by rw [HBp.out.cell]; rfl
 go_upto_region 3 with fail
 clear q10
 go_loopg [3, 9] args.length (fun kk ov iv wr => ∃ (k : Nat) (Xr : Option Addr) (n c : Nat), k + kk = args.length ∧ iv = .int .i64 k ∧ ov = .slice Xr n c ∧ n = (refsOf (args.take k)).length ∧ Hid (NmI V wr (refsOf (args.take k)) Xr n c))
 case atStart => exact ⟨0, none, 0, 0, by omega, rfl, rfl, rfl, Lib.hid ⟨World.ownsRow_nil _ _ _ _, Below.refl _ _⟩⟩
 case round =>
  obtain ⟨k, Xr, n, c, hk, rfl, rfl, hnl, HR⟩ := hrel
  have HIr := Lib.hid (HI0.out.on HR.out.below)
  by_cases hlt : k < args.length
  ·obtain ⟨a, o1, n1, s1, A1, l1, k1, rfl, _, ⟨p0, p1, p2, p3, p4, p5, _⟩, hs, hxa⟩ := arg_at HA.out HIr.out hlt
   have HT : Hid (refsOf (args.take (k + 1)) = refsOf (args.take k) ++ refV args[k]) := Lib.hid (flat_take hlt)
   have HNk : Hid (n + (refV args[k]).length ≤ 1000000) := Lib.hid (by
    have h1 := flat_take_le (f := refV) (l := args) (k := k + 1)
    have h2 := HN.out
    have h3 := HT.out
    unfold refsOf at h2 h3 hnl
    rw [h3, List.length_append] at h1
    omega)
   have HLk : Hid (n = (refsOf (args.take k)).length) := Lib.hid hnl
   generalize refsOf (args.take k) = pre at HR HT HLk
   have HV2 : Hid (refV args[k] = if args[k].ref = true then [args[k].nm] else []) := Lib.hid rfl
   generalize args[k] = y at p0 p1 hs HT HNk HV2
   clear hxa hnl
   obtain ⟨xr, xnm, xx⟩ := y
   simp only at p0 p1 hs HV2
   go_upto_region 5 with fail
   have HBx : Hid (Blk (wr.alloc (.cells #[.bool xr, .string xnm, .int .i64 o1, .int .i64 n1, .string s1, .slice A1 l1 k1] 61)) wr.heap.size 61 #[.bool xr, .string xnm, .int .i64 o1, .int .i64 n1, .string s1, .slice A1 l1 k1]) := Lib.hid (Blk.new _ _ _)
   have HO4 : Hid ((wr.alloc (.cells #[.bool xr, .string xnm, .int .i64 o1, .int .i64 n1, .string s1, .slice A1 l1 k1] 61)).ownsRow V.heap.size 9 1 (.slice Xr n c) n (strs pre)) := Lib.hid (HR.out.row.alloc _)
   have HB4 : Hid (Below V.heap.size V (wr.alloc (.cells #[.bool xr, .string xnm, .int .i64 o1, .int .i64 n1, .string s1, .slice A1 l1 k1] 61))) := Lib.hid (below_stepA HR.out.below _)
   clear p0 p1 p2 p3 p4 p5 HIr HR
   generalize World.alloc wr _ = V4 at HBx HO4 HB4 ⊢
   generalize wr.heap.size = bx at HBx ⊢
   have z0 : V4.cell? ⟨bx, 0, none⟩ = some (.bool xr) := by rw [HBx.out.cell]; rfl
   have z1 : V4.cell? ⟨bx, 1, none⟩ = some (.string xnm) := by rw [HBx.out.cell]; rfl
   cases xr with
   | false =>
    have HK2 : Hid (refsOf (args.take (k + 1)) = pre) := Lib.hid (by rw [HT.out, HV2.out]; simp)
    have HS : Hid (NmI V V4 (refsOf (args.take (k + 1))) Xr n c) := Lib.hid (by rw [HK2.out]; exact ⟨HO4.out, HB4.out⟩)
    go_wp2_with fail
    go_roundg (args.length - k - 1)
    case measure => omega
    case rel => exact ⟨k + 1, Xr, n, c, by omega, by go_num, rfl, by rw [HK2.out]; exact HLk.out, HS⟩
   | true =>
    have HK2 : Hid (refsOf (args.take (k + 1)) = pre ++ [xnm]) := Lib.hid (by rw [HT.out, HV2.out]; simp)
    have hn1 : n + 1 ≤ 1000000 := by have h := HNk.out; rw [HV2.out] at h; simpa using h
    have HW := Lib.hid (new_one V4 xnm)
    have HO5 : Hid ((V4.alloc (.cells #[.string xnm] 9)).ownsRow V.heap.size 9 1 (.slice Xr n c) n (strs pre)) := Lib.hid (HO4.out.alloc _)
    have HB5 : Hid (Below V.heap.size V (V4.alloc (.cells #[.string xnm] 9))) := Lib.hid (below_stepA HB4.out _)
    go_wp2_with (at_builtin; refine wpList_append_own_at _ rfl (.tmp 15) (.tmp 18) 22 rfl V.heap.size 9 i0 _ 1 16 Tryz.underlying22 hi0 hz0 hz1 hz2 rfl (by decide) _ n (strs pre) rfl HO5.out ⟨V4.heap.size, 0, none⟩ 1 1 [.string xnm] rfl rfl HW.out (by simp [Value.oneCell']) (by unfold maxLen; omega) (by omega) HB5.out.size ?_; intro v6 w7 hown6 hg6 _ hat6; obtain ⟨X6, k6, rfl, _, _⟩ := own_shape hown6; have HS : Hid (NmI V w7 (refsOf (args.take (k + 1))) X6 (n + 1) k6) := Lib.hid ⟨by rw [HK2.out, strs_append]; exact hown6, HB5.out.grown hg6 HB5.out.size (fun j hj => (HO5.out.lt j hj).1)⟩; clear hown6 hg6 hat6)
    go_roundg (args.length - k - 1)
    case measure => omega
    case rel => exact ⟨k + 1, X6, n + 1, k6, by omega, by go_num, rfl, by rw [HK2.out, List.length_append, ← HLk.out]; rfl, HS⟩
  ·obtain rfl : k = args.length := by omega
   go_wp2_with fail
   go_ret
   refine ⟨_, rfl, own_lower ?_ HB0.out.size, below_step HB0.out HR.out.below⟩
   have h := HR.out.row
   rw [List.take_length] at h hnl
   rw [hnl] at h ⊢
   exact h
end Go.Proofs.YtimejkbmfbjomaaGreat
namespace Go.Proofs.YtimejkbmfbjomaaGreat
open Go.ChangeShapes Go.WideShapes Go.ChangeAt Go.RowKit Go.Deep
set_option linter.unusedVariables false
set_option linter.unusedSimpArgs false
theorem below_mv {own : Nat → Prop} {a b : World} (h : Below a.heap.size a b) : Moves own a b := ⟨h.os, h.tape, h.output, h.size, fun k hk _ => h.block k hk⟩
def CkF (p : Pg) (B : Nat) (W : World) (m n : Nat) (f : ByteArray → Option Value) : Prop := MapI W m n f ∧ ∀ s v, f s = some v → ∃ l X k, v = .slice X l.length k ∧ W.ownsRow B 9 1 (.slice X l.length k) l.length (strs l) ∧ GlobOf p (jfP p s) l
theorem CkF.step {p : Pg} {B : Nat} {W W' : World} {m n : Nat} {f : ByteArray → Option Value} (h : CkF p B W m n f) (hb : Below W.heap.size W W') : CkF p B W' m n f := by
 refine ⟨h.1.same (hb.block m h.1.lt), fun s v hs => ?_⟩
 obtain ⟨l, X, k, e, ho, hg⟩ := h.2 s v hs
 exact ⟨l, X, k, e, (Below.moves hb).row ho (fun j hj e => Nat.not_lt.2 e (ho.lt j hj).2), hg⟩
theorem CkF.put {p : Pg} {B : Nat} {W W' : World} {m n : Nat} {f : ByteArray → Option Value} (h : CkF p B W m n f) {s : ByteArray} {l : List ByteArray} {X : Option Addr} {k : Nat} (ho : W.ownsRow B 9 1 (.slice X l.length k) l.length (strs l)) (hg : GlobOf p (jfP p s) l) (hm : MapI W' m (n + 1) (fun x => if x = s then some (.slice X l.length k) else f x)) (hw : W.grownBy W' (some m)) : CkI p B W' m (n + 1) := by
 refine ⟨_, hm, fun t v ht => ?_⟩
 by_cases e : t = s
 ·subst e
  rw [if_pos rfl] at ht
  injection ht with ht
  subst ht
  exact ⟨l, X, k, rfl, ho.kept hw (.inr (fun e => own_not_map ho h.1 m e rfl)), hg⟩
 ·rw [if_neg e] at ht
  obtain ⟨l2, X2, k2, e2, ho2, hg2⟩ := h.2 t v ht
  exact ⟨l2, X2, k2, e2, ho2.kept hw (.inr (fun e => own_not_map ho2 h.1 m e rfl)), hg2⟩
def GlRes (p : Pg) (s : ByteArray) (B m n : Nat) (W : World) (e : Ending) (W' : World) : Prop := ∃ (l : List ByteArray) (X : Option Addr) (k : Nat), e = .returned (.slice X l.length k) ∧ W'.ownsRow B 9 1 (.slice X l.length k) l.length (strs l) ∧ GlobOf p (jfP p s) l ∧ CkI p B W' m (n + 1) ∧ Moves (fun j => j = m) W W'
set_option maxHeartbeats 4000000 in
set_option maxRecDepth 100000 in
theorem globals_any {w W : World} {Q : Nat → Prop} {p : Pg} {c0 c1 : Value} {B m n : Nat} (h : ProgI w Q p [c0, c1]) (hsm : SmG p) (hck : chkOK p = true → p.procs.length ≤ 16 ∧ ∀ q ∈ p.procs, (saidOf (preSL q.body)).length ≤ 10000000) (s : ByteArray) (hs : s.size ≤ maxLen) (hC : CkI p B W m n) (hB : B ≤ W.heap.size) (hn : n < maxLen) (hI : In Q w W) :
 Calls Tryz.prog 107 #[.agg #[c0, c1, .map (some m)], .string s] W (GlRes p s B m n W) := by
 have HG := Lib.hid (fun V hV => tGlobals_any h hsm hck s V hV)
 obtain ⟨Ag, cg, Ap, cp, rfl, rfl, _⟩ := prog_open h
 have HI := Lib.hid hI
 have hml := hC.lt
 obtain ⟨f, hC⟩ := hC
 have HC : Hid (CkF p B W m n f) := Lib.hid hC
 clear h hsm hck hI hC
 go_enter Tryz.func107, Tryz.ntmps107
 go_upto_region 1 with fail
 have HB0 : Hid (Below W.heap.size W (W.alloc (.cells #[.slice Ag p.globals.length cg, .slice Ap p.procs.length cp, .map (some m)] 89))) := Lib.hid (below_box _)
 have HBp : Hid (Blk (W.alloc (.cells #[.slice Ag p.globals.length cg, .slice Ap p.procs.length cp, .map (some m)] 89)) W.heap.size 89 #[.slice Ag p.globals.length cg, .slice Ap p.procs.length cp, .map (some m)]) := Lib.hid (Blk.new _ _ _)
 generalize World.alloc _ _ = V at HB0 HBp ⊢
 have HBV : Hid (B ≤ V.heap.size) := Lib.hid (Nat.le_trans hB HB0.out.size)
 generalize W.heap.size = b at HBp ⊢
 have HI0 := Lib.hid (HI.out.on HB0.out)
 have HC0 := Lib.hid (HC.out.step HB0.out)
 clear HC HI
 have hbl := HBp.out.lt
 have hlook := HC0.out.1.look und_ms s hs
 have q0 : V.cell? ⟨b, 0, none⟩ = some (.slice Ag p.globals.length cg) := by rw [HBp.out.cell]; rfl
 have q1 : V.cell? ⟨b, 1, none⟩ = some (.slice Ap p.procs.length cp) := by rw [HBp.out.cell]; rfl
 have q2 : V.cell? ⟨b, 2, none⟩ = some (.map (some m)) := by rw [HBp.out.cell]; rfl
 cases hf : f s with
 | some v =>
  obtain ⟨l, X, k, rfl, ho, hg⟩ := HC0.out.2 s v hf
  have HO := Lib.hid ho
  have HGo := Lib.hid hg
  rw [hf] at hlook
  simp only [Option.getD_some, Option.isSome_some] at hlook
  clear hf ho hg
  go_wp2_with fail
  go_ret
  exact ⟨l, X, k, rfl, HO.out, HGo.out, CkI.mono ⟨f, HC0.out⟩ (by omega), (below_mv HB0.out)⟩
 | none =>
  rw [hf] at hlook
  simp only [Option.getD_none, Option.isSome_none] at hlook
  clear hf
  go_wp2_with (first
   | (go_at_call 16; refine (HG.out V HI0.out).mono ?_; rintro e' W2 ⟨l, v2, rfl, ho2, hb2, ha2⟩; obtain ⟨X2, k2, rfl, _, _⟩ := own_shape ho2; have HO2 := Lib.hid ho2; have HGo := Lib.hid ha2; have HC2 := Lib.hid (HC0.out.step hb2); have HB2 := Lib.hid (below_step HB0.out hb2); have r2 := (hb2.cell (p := ⟨b, 2, none⟩) hbl).trans q2; clear ho2 ha2 hb2 hlook)
   | (at_mapUpdate; refine wpList_mapPut rfl _ _ _ 87 rfl und_ms m n f rfl HC2.out.1 hn s hs rfl _ rfl ?_; intro W3 hm3 hg3; have HM3 := Lib.hid hm3; have HG3 := Lib.hid hg3; clear hm3 hg3))
  go_ret
  have ho := own_lower HO2.out HBV.out
  exact ⟨l, X2, k2, rfl, ho.kept HG3.out (.inr (fun e => own_not_map ho HC2.out.1 m e rfl)), HGo.out, HC2.out.put ho HGo.out HM3.out HG3.out, (below_mv HB2.out).trans (moves_grown HG3.out) (fun j hj => .inr (by injection hj with hj; exact hj.symm))⟩
end Go.Proofs.YtimejkbmfbjomaaGreat
namespace Go.Proofs.YtimejkbmfbjomaaGreat
open Go.ChangeShapes Go.WideShapes Go.ChangeAt Go.RowKit Go.Deep
set_option linter.unusedVariables false
set_option linter.unusedSimpArgs false
set_option maxHeartbeats 1000000 in
theorem IndexV_any {w W : World} {Q : Nat → Prop} {l : List Pr} {v : Value} (h : SliceI w Q 5 (ProcI w Q) l v) (hI : In Q w W) (s : ByteArray) (b : Nat) (hb : W.cell? ⟨b, 4, none⟩ = some (.string s)) :
  Calls Tryz.prog 80 #[v, .func (.func 136) #[] #[.pointer (some ⟨b, 0, none⟩)]] W fun e w' => e = .returned (.int .i64 (idxL (isQ s) l 0)) ∧ Below W.heap.size W w' := by
 obtain ⟨A, cap, rfl, hl1, hl2⟩ := h.shape
 have H := Lib.hid h
 have HI := Lib.hid hI
 have HB := Lib.hid hb
 clear h hI hb
 go_enter Tryz.func80, Tryz.ntmps80
 go_wp2_with fail
 go_loopg [8] l.length (fun kk i wr => ∃ k : Nat, k + kk = l.length ∧ i = .int .i64 k ∧ Hid (idxL (isQ s) (l.drop k) k = idxL (isQ s) l 0) ∧ Hid (Below W.heap.size W wr))
 case atStart => exact ⟨0, by omega, rfl, Lib.hid (by rw [List.drop_zero]), Lib.hid (Below.refl _ _)⟩
 case round =>
  obtain ⟨k, hk, rfl, HW, HR⟩ := hrel
  by_cases hlt : k < l.length
  ·obtain ⟨a, Cp, kp, Cv, kv, Cb, kb, Ce, ke, rfl, _, ⟨p0, p1, p2, p3, p4, _⟩, _⟩ := proc_at H.out (HI.out.on HR.out) hlt
   have HD := Lib.hid (idxL_drop (f := isQ s) hlt)
   rw [HW.out] at HD
   have hv : isQ s l[k] = (l[k].nm.toList == s.toList) := (dec_bytes _ _).symm
   generalize l[k] = y at p0 p1 p2 p3 p4 HD hv
   obtain ⟨yn, yp, yv, yb, ye⟩ := y
   simp only at p0 p1 p2 p3 p4 hv
   have q0 : wr.cell? ⟨b, 4, none⟩ = some (.string s) := (HR.out.cell (p := ⟨b, 4, none⟩) (World.block_lt_of_cell? W _ HB.out)).trans HB.out
   have hbl := World.block_lt_of_cell? wr _ q0
   cases hb : isQ s ⟨yn, yp, yv, yb, ye⟩ with
   | true =>
    rw [hb, if_pos rfl] at HD
    have hv2 : (yn.toList == s.toList) = true := by rw [← hv]; exact hb
    clear hv hb
    go_wp2_with (go_at_call 136; go_in)
    go_ret
    exact ⟨ret_int HD.out.symm, below_step HR.out (below_box _)⟩
   | false =>
    rw [hb, if_neg (by simp)] at HD
    have hv2 : (yn.toList == s.toList) = false := by rw [← hv]; exact hb
    clear hv hb
    go_wp2_with (go_at_call 136; go_in)
    go_roundg (l.length - k - 1)
    case measure => omega
    case rel => exact ⟨k + 1, by omega, by go_num, Lib.hid HD.out.symm, Lib.hid (below_step HR.out (below_box _))⟩
  ·have HD : Hid (idxL (isQ s) l 0 = -1) := Lib.hid (by rw [← HW.out, List.drop_of_length_le (by omega), idxL])
   go_wp2_with fail
   go_ret
   exact ⟨ret_int HD.out.symm, HR.out⟩
def tks (ps : List Pa) (l : List Ar) : Bool := decide (ps.map Pa.ref = l.map Ar.ref)
set_option maxHeartbeats 2000000 in
theorem EqualV_any {w W : World} {Q : Nat → Prop} {ps : List Pa} {l : List Ar} {v u : Value} (h : SliceI w Q 2 ParI ps v) (k : SliceI w Q 6 (ArgI w Q) l u) (hI : In Q w W) :
 Calls Tryz.prog 137 #[v, u, .func (.func 138) #[] #[]] W (MayOk (tks ps l) W) := by
 obtain ⟨A, k1, rfl, hlc1, hc1⟩ := h.shape
 obtain ⟨B, k2, rfl, hlc2, hc2⟩ := k.shape
 have H1 := Lib.hid h
 have H2 := Lib.hid k
 have HI := Lib.hid hI
 clear h k hI
 cases hl : (((ps.length : Nat) : Int) == ((l.length : Nat) : Int)) with
 | false =>
  have hne : ps.length ≠ l.length := by intro e; rw [e] at hl; simp at hl
  have HM : Hid (tks ps l = false) := Lib.hid (decide_eq_false (fun e => hne (by have := congrArg List.length e; simpa using this)))
  have hb : (((ps.length : Nat) : Int) != ((l.length : Nat) : Int)) = true := by rw [bne, hl]; rfl
  clear hl hne
  go_enter Tryz.func137, Tryz.ntmps137
  go_wp2_with fail
  go_ret
  exact ⟨ret_bool HM.out.symm, Below.refl _ _⟩
 | true =>
  have heq : ps.length = l.length := by have := eq_of_beq hl; omega
  have hb : (((ps.length : Nat) : Int) != ((l.length : Nat) : Int)) = false := by rw [bne, hl]; rfl
  have he1 : ps.length ≤ l.length := by omega
  have he2 : l.length ≤ ps.length := by omega
  clear hl heq
  go_enter Tryz.func137, Tryz.ntmps137
  go_wp2_with fail
  go_loopw [17] (fun i wr => ∃ k : Nat, k ≤ ps.length ∧ i = .int .i64 k ∧ Hid ((ps.map Pa.ref).take k = (l.map Ar.ref).take k) ∧ Hid (Below W.heap.size W wr)) (fun i _ => ps.length - (intOf i).toNat)
  case atStart => exact ⟨0, Nat.zero_le _, rfl, Lib.hid (by simp), Lib.hid (Below.refl _ _)⟩
  case round =>
   obtain ⟨k, hk, rfl, HT, HR⟩ := hrel
   by_cases hlt : k < ps.length
   ·have hk2 : k < l.length := by omega
    have hk3 : (k : Int) < (l.length : Int) := by omega
    obtain ⟨a1, rfl, _, ⟨p0, p1, _⟩, _⟩ := par_at H1.out (HI.out.on HR.out) hlt
    have hm1 : k < (ps.map Pa.ref).length := by simpa using hlt
    have hm2 : k < (l.map Ar.ref).length := by simpa using hk2
    have HSt : Hid (ps[k].ref = l[k].ref → (ps.map Pa.ref).take (k + 1) = (l.map Ar.ref).take (k + 1)) := Lib.hid (fun e => take_eq_step hm1 hm2 HT.out (by simpa using e))
    have HNe : Hid (ps[k].ref ≠ l[k].ref → tks ps l = false) := Lib.hid (fun e => decide_eq_false (ne_of_at hm1 hm2 (by simpa using e)))
    generalize ps[k] = x at p0 p1 HSt HNe
    obtain ⟨xn, xr⟩ := x
    simp only at p0 p1 HSt HNe
    have HIr := Lib.hid (HI.out.on HR.out)
    go_upto_region 6 with fail
    have HBx : Hid (Blk (wr.alloc (.cells #[.string xn, .bool xr] 68)) wr.heap.size 68 #[.string xn, .bool xr]) := Lib.hid (Blk.new _ _ _)
    have HB4 : Hid (Below W.heap.size W (wr.alloc (.cells #[.string xn, .bool xr] 68))) := Lib.hid (below_stepA HR.out _)
    have HI4 : Hid (In Q w (wr.alloc (.cells #[.string xn, .bool xr] 68))) := Lib.hid (HIr.out.alloc _)
    clear p0 p1
    generalize World.alloc wr _ = V4 at HBx HB4 HI4 ⊢
    generalize wr.heap.size = bx at HBx ⊢
    obtain ⟨a2, o1, n1, s1, A1, l1, c1, rfl, _, ⟨r0, r1, r2, r3, r4, r5, _⟩, _, _⟩ := arg_at H2.out HI4.out hk2
    generalize l[k] = y at r0 r1 HSt HNe
    obtain ⟨yr, yn, yx⟩ := y
    simp only at r0 r1 HSt HNe
    go_upto_region 7 with fail
    have HBy : Hid (Blk (V4.alloc (.cells #[.bool yr, .string yn, .int .i64 o1, .int .i64 n1, .string s1, .slice A1 l1 c1] 61)) V4.heap.size 61 #[.bool yr, .string yn, .int .i64 o1, .int .i64 n1, .string s1, .slice A1 l1 c1]) := Lib.hid (Blk.new _ _ _)
    have HB5 : Hid (Below W.heap.size W (V4.alloc (.cells #[.bool yr, .string yn, .int .i64 o1, .int .i64 n1, .string s1, .slice A1 l1 c1] 61))) := Lib.hid (below_stepA HB4.out _)
    have HBx5 : Hid (Blk (V4.alloc (.cells #[.bool yr, .string yn, .int .i64 o1, .int .i64 n1, .string s1, .slice A1 l1 c1] 61)) bx 68 #[.string xn, .bool xr]) := Lib.hid (HBx.out.alloc _)
    clear r0 r1 r2 r3 r4 r5 HI4 HB4 HBx
    generalize World.alloc V4 _ = V5 at HBy HB5 HBx5 ⊢
    generalize V4.heap.size = by_ at HBy ⊢
    have z0 : V5.cell? ⟨bx, 0, none⟩ = some (.string xn) := by rw [HBx5.out.cell]; rfl
    have z1 : V5.cell? ⟨bx, 1, none⟩ = some (.bool xr) := by rw [HBx5.out.cell]; rfl
    have y0_ : V5.cell? ⟨by_, 0, none⟩ = some (.bool yr) := by rw [HBy.out.cell]; rfl
    have y1_ : V5.cell? ⟨by_, 1, none⟩ = some (.string yn) := by rw [HBy.out.cell]; rfl
    have y2_ : V5.cell? ⟨by_, 2, none⟩ = some (.int .i64 o1) := by rw [HBy.out.cell]; rfl
    have y3_ : V5.cell? ⟨by_, 3, none⟩ = some (.int .i64 n1) := by rw [HBy.out.cell]; rfl
    have y4_ : V5.cell? ⟨by_, 4, none⟩ = some (.string s1) := by rw [HBy.out.cell]; rfl
    have y5_ : V5.cell? ⟨by_, 5, none⟩ = some (.slice A1 l1 c1) := by rw [HBy.out.cell]; rfl
    clear hm1 hm2
    by_cases hr : xr = yr
    ·subst hr
     have HS2 := Lib.hid (HSt.out rfl)
     have hrr : (xr == xr) = true := by cases xr <;> rfl
     clear HSt HNe
     cases xr
     all_goals
      go_wp2_with (go_at_call 138; go_in)
      go_roundw
      case rel => exact ⟨k + 1, by omega, by go_num, HS2, Lib.hid (below_stepA (below_stepA HB5.out _) _)⟩
      case measure => simp [intOf]; omega
    ·have HN2 := Lib.hid (HNe.out hr)
     clear HSt HNe
     cases xr
     all_goals
      cases yr
      all_goals first
       | exact absurd rfl hr
       | (clear hr
          go_wp2_with (go_at_call 138; go_in)
          go_ret
          exact ⟨ret_bool HN2.out.symm, below_stepA (below_stepA HB5.out _) _⟩)
   ·have HN : Hid (tks ps l = true) := Lib.hid (by
     have := HT.out
     rw [List.take_of_length_le (by simp; omega), List.take_of_length_le (by simp; omega)] at this
     exact decide_eq_true this)
    go_wp2_with fail
    go_ret
    exact ⟨ret_bool HN.out.symm, HR.out⟩
end Go.Proofs.YtimejkbmfbjomaaGreat
namespace Go.Proofs.YtimejkbmfbjomaaGreat
open Go.ChangeShapes Go.WideShapes Go.ChangeAt Go.RowKit Go.Deep
set_option linter.unusedVariables false
set_option linter.unusedSimpArgs false
def fitsB (l : List Pr) (s : S) : Bool := s.kind == 4 && (l.find? (isQ s.proc)).elim false (fun q => tks q.params s.args)
set_option maxHeartbeats 4000000 in
set_option maxRecDepth 100000 in
theorem fitsOne_any {w W : World} {Q : Nat → Prop} {l : List Pr} {v : Value} {s : S} {cs : List Value} (h : SliceI w Q 5 (ProcI w Q) l v) (hs : StmtI w Q s cs) (hI : In Q w W) :
 Calls Tryz.prog 105 #[v, .agg cs.toArray] W (MayOk (fitsB l s) W) := by
 obtain ⟨id, kind, labels, nm, proc, x, has, args, th, el, L, lc, y0, y1, y2, X, xn, xc, R, rc, T, tc, U, uc, rfl, rfl, hid, hkind, hnm, hproc, hl, hx, ha, hth, hel⟩ := stmt_open hs
 obtain ⟨A, cap, rfl, hl1, hl2⟩ := h.shape
 have H := Lib.hid h
 have HA := Lib.hid ha
 have HI := Lib.hid hI
 have HF : Hid (fitsB l (.mk id kind labels nm proc x has args th el) = (kind == 4 && (l.find? (isQ proc)).elim false (fun q => tks q.params args))) := Lib.hid rfl
 have HX := Lib.hid (fun V hV b hb => IndexV_any (W := V) h hV proc b hb)
 have hfd := idxL_get (isQ proc) l 0
 obtain ⟨_, ha1, ha2, _⟩ := slice_len ha
 have hkb := hkind
 unfold i64 at hkb
 clear h hs hI hid hkind hnm hproc hl hx ha hth hel
 generalize idxL (isQ proc) l 0 = z at HX hfd
 simp only [List.toArray]
 go_enter Tryz.func105, Tryz.ntmps105
 go_upto_region 1 with fail
 have HBs : Hid (Blk (W.alloc (.cells #[.int .i64 id, .int .i64 kind, .slice L labels.length lc, .string nm, .string proc, .int .i64 y0, .int .i64 y1, .string y2, .slice X xn xc, .bool has, .slice R args.length rc, .slice T th.length tc, .slice U el.length uc] 49)) W.heap.size 49 #[.int .i64 id, .int .i64 kind, .slice L labels.length lc, .string nm, .string proc, .int .i64 y0, .int .i64 y1, .string y2, .slice X xn xc, .bool has, .slice R args.length rc, .slice T th.length tc, .slice U el.length uc]) := Lib.hid (Blk.new _ _ _)
 have HB0 : Hid (Below W.heap.size W (W.alloc (.cells #[.int .i64 id, .int .i64 kind, .slice L labels.length lc, .string nm, .string proc, .int .i64 y0, .int .i64 y1, .string y2, .slice X xn xc, .bool has, .slice R args.length rc, .slice T th.length tc, .slice U el.length uc] 49))) := Lib.hid (below_box _)
 generalize World.alloc _ _ = V at HBs HB0 ⊢
 generalize hbe : W.heap.size = b at HBs ⊢
 clear hbe
 have HI0 := Lib.hid (HI.out.on HB0.out)
 have q1 : V.cell? ⟨b, 1, none⟩ = some (.int .i64 kind) := by rw [HBs.out.cell]; rfl
 have q4 : V.cell? ⟨b, 4, none⟩ = some (.string proc) := by rw [HBs.out.cell]; rfl
 have hbl := HBs.out.lt
 by_cases hk : kind = 4
 ·subst hk
  go_upto_region 4 with (go_at_call 80; refine (HX.out V HI0.out _ q4).mono ?_; rintro e w1 ⟨rfl, hb1⟩)
  have HB1 := Lib.hid (below_step HB0.out hb1)
  have HI1 := Lib.hid (HI0.out.on hb1)
  have HBs1 := Lib.hid (HBs.out.below hb1 hbl)
  clear q1 q4 hbl hb1 HX
  have q10 : w1.cell? ⟨b, 10, none⟩ = some (.slice R args.length rc) := by rw [HBs1.out.cell]; rfl
  have hbl := HBs1.out.lt
  rcases hfd with ⟨rfl, hf⟩ | ⟨j, hj, rfl, _, hf⟩
  ·have HF2 : Hid (fitsB l (.mk id 4 labels nm proc x has args th el) = false) := Lib.hid (by rw [HF.out, hf]; rfl)
   clear HF hf
   go_quiet (fail)
   go_wp2_with fail
   go_ret
   exact ⟨ret_bool HF2.out.symm, below_drewN HB1.out _⟩
  ·rw [Nat.zero_add]
   obtain ⟨a, Bp, kp, Bv, kv, Bb, kb, Be, ke, rfl, hqa, ⟨p0, p1, p2, p3, p4, _⟩, hnm, hpp, hvv, hbody, hee⟩ := proc_at H.out HI1.out hj
   have HF2 : Hid (fitsB l (.mk id 4 labels nm proc x has args th el) = tks l[j].params args) := Lib.hid (by rw [HF.out, hf]; rfl)
   have HC := Lib.hid (fun V hV => EqualV_any (W := V) hpp HA.out hV)
   have HQa : Hid (Q (a.add (j * 5)).block) := Lib.hid (by rw [block_add]; exact hqa)
   clear HF hf hqa hnm hpp hvv hbody hee p0 p2 p3 p4
   generalize tks l[j].params args = r at HC HF2
   generalize l[j].params.length = x1 at p1 HC
   have h0j : (0 : Int) ≤ (j : Int) := by omega
   have hdj : decide ((0 : Int) ≤ (j : Int)) = true := decide_eq_true h0j
   have hdr : ∀ V : World, In Q w V → In Q w V.drew := fun V h => h
   have hBD : Below w1.heap.size w1 w1.drew := (Below.refl _ _).drew
   go_region_held3 (fun w' : World => w'.cell? ⟨b, 10, none⟩ = some (.slice R args.length rc) ∧ w'.cell? ⟨(a.add (j * 5)).block, (a.add (j * 5)).off + 1, none⟩ = some (.slice Bp x1 kp))
    (go_keep)
    ((go_at_call 137; refine (HC.out _ (hdr _ HI1.out)).mono ?_; rintro e' w2 ⟨rfl, hb2⟩; have hb2' := hBD.trans hb2; have HI2 := Lib.hid (HI1.out.on hb2'); have k0 := (hb2'.cell (p := ⟨b, 10, none⟩) hbl).trans q10; have r1 := (HI2.out.cell (p := ⟨(a.add (j * 5)).block, (a.add (j * 5)).off + 1, none⟩) HQa.out).trans ((HI1.out.cell (p := ⟨(a.add (j * 5)).block, (a.add (j * 5)).off + 1, none⟩) HQa.out).symm.trans p1)))
   go_wp2_with fail
   go_ret
   exact ⟨by rw [HF2.out]; rfl, below_step HB1.out hb2'⟩
 ·have hk1 : (kind == 4) = false := beq_eq_false_iff_ne.2 hk
  have hk2 : (kind != 4) = true := by simp [bne, hk1]
  have HF2 : Hid (fitsB l (.mk id kind labels nm proc x has args th el) = false) := Lib.hid (by rw [HF.out, hk1]; rfl)
  clear hk HF
  go_wp2_with fail
  go_ret
  exact ⟨ret_bool HF2.out.symm, HB0.out⟩
end Go.Proofs.YtimejkbmfbjomaaGreat
