/- Texts, merged by a program; only what is used. -/
import Derived.OrdersHeld
import Derived.Maps.AppendAt
import Derived.Test.YtimejkbmfbjomaaGreatKX1
import Derived.Test.YtimejkbmfbjomaaGreatKX2
import Derived.Test.YtimejkbmfbjomaaGreatKX3
import Derived.Test.YtimejkbmfbjomaaGreatKX4
import Derived.Test.YtimejkbmfbjomaaGreatKX5
import Derived.Test.YtimejkbmfbjomaaGreatKX6
import Derived.Test.YtimejkbmfbjomaaGreatKX7
import Derived.Test.YtimejkbmfbjomaaGreatKX8
import Derived.Test.YtimejkbmfbjomaaGreatKX9
import Derived.Test.YtimejkbmfbjomaaGreatKX10
import Derived.Test.YtimejkbmfbjomaaGreatKX11
import Derived.Test.YtimejkbmfbjomaaGreatKX12
import Derived.Test.YtimejkbmfbjomaaGreatKX13
import Derived.Test.YtimejkbmfbjomaaGreatKX14
import Derived.Test.YtimejkbmfbjomaaGreatKX15
import Derived.Test.YtimejkbmfbjomaaGreatKX16
namespace Go.Proofs.YtimejkbmfbjomaaGreat
open Go.ChangeShapes Go.WideShapes Go.ChangeAt Go.RowKit Go.Deep
set_option linter.unusedVariables false
set_option linter.unusedSimpArgs false
theorem grown_box {a b : World} {o : Obj} {row : Option Nat} (h : (a.alloc o).grownBy b row) : a.grownBy b row := ⟨h.os, h.tape, h.output, Nat.le_trans (by simp) h.size, fun k hk hn => (h.block k (by simp; omega) hn).trans (Below.heap_alloc _ _ _ hk)⟩
def saidV (a : Ar) : List ByteArray := (if a.ref = true then [a.nm] else []) ++ namesE a.x
def saidS (s : S) : List ByteArray := ownV s.kind s.nm ++ namesE s.x ++ s.args.flatMap saidV
mutual
theorem blkOk_all : ∀ (l : List S) (d c c' : Nat), blkOk l d c = some c' → ∀ s ∈ preSL l, stmtOk s = true
 | [], d, c, c', h, s, hs => by rw [preSL] at hs; cases hs
 | x :: l, d, c, c', h, s, hs => by
  rw [blkOk] at h
  cases h1 : oneOk x d c with
  | none => rw [h1] at h; cases h
  | some c1 =>
   rw [h1] at h
   rw [preSL] at hs
   rcases List.mem_append.1 hs with hs | hs
   ·exact oneOk_all x d c c1 h1 s hs
   ·exact blkOk_all l d c1 c' h s hs
theorem oneOk_all : ∀ (x : S) (d c c' : Nat), oneOk x d c = some c' → ∀ s ∈ preS x, stmtOk s = true
 | .mk id kind labels nm proc x has args th el, d, c, c', h, s, hs => by
  rw [oneOk] at h
  by_cases hb : d ≤ 12 ∧ c + 1 ≤ 200 ∧ id = ((c + 1 : Nat) : Int) ∧ stmtOk (.mk id kind labels nm proc x has args th el) = true
  ·rw [if_pos hb] at h
   rw [preS] at hs
   cases h1 : blkOk th (d + 1) (c + 1) with
   | none => rw [h1] at h; cases h
   | some c1 =>
    rw [h1] at h
    rcases List.mem_cons.1 hs with rfl | hs
    ·exact hb.2.2.2
    ·rcases List.mem_append.1 hs with hs | hs
     ·exact blkOk_all th (d + 1) (c + 1) c1 h1 s hs
     ·exact blkOk_all el (d + 1) c1 c' h s hs
  ·rw [if_neg hb] at h; cases h
end
theorem prOk_stm : ∀ (l : List Pr) (c c' : Nat), prOk l c = some c' → ∀ q ∈ l, ∀ s ∈ preSL q.body, stmtOk s = true
 | [], c, c', h, q, hq => by cases hq
 | x :: l, c, c', h, q, hq => by
  rw [prOk] at h
  split at h
  ·cases h1 : blkOk x.body 1 c with
   | none => rw [h1] at h; cases h
   | some c1 =>
    rw [h1] at h
    rcases List.mem_cons.1 hq with rfl | hq
    ·exact blkOk_all _ _ _ _ h1
    ·exact prOk_stm l c1 c' h q hq
  ·cases h
theorem may_stm {p : Pg} (h : mayP p = true) : ∀ q ∈ p.procs, ∀ s ∈ preSL q.body, stmtOk s = true := by
 unfold mayP at h
 rw [Bool.and_eq_true] at h
 cases hp : prOk p.procs 0 with
 | none => rw [hp] at h; cases h.2
 | some c => exact prOk_stm _ _ _ hp
theorem none_names {e : E} (h : noneE e = true) : namesE e = [] := by
 obtain ⟨op, n, nm, ks⟩ := e
 unfold noneE at h
 simp only [Bool.and_eq_true, beq_iff_eq] at h
 obtain ⟨⟨⟨rfl, rfl⟩, h3⟩, h4⟩ := h
 unfold namesE
 have hk : ks = [] := List.eq_nil_of_length_eq_zero (by omega)
 subst hk
 rw [if_neg (by simp [mayE, opN])]
theorem arg_names {a : Ar} (h : argOk a = true) : saidV a = argV a := by
 obtain ⟨r, nm, x⟩ := a
 unfold argOk at h
 rw [Bool.and_eq_true] at h
 unfold saidV argV
 cases r with
 | true =>
  have hx : noneE x = true := by have := h.2; unfold xOk at this; simpa using this
  simp [none_names hx]
 | false => simp
theorem said_eq {s : S} (h : stmtOk s = true) : s.args.flatMap saidV = s.args.flatMap argV := by
 obtain ⟨id, kind, labels, nm, proc, x, has, args, th, el⟩ := s
 rw [stmtOk_eq] at h
 simp only [Bool.and_eq_true] at h
 have h2 := h.2
 unfold argsOk at h2
 rw [List.all_eq_true] at h2
 rw [List.flatMap_def, List.flatMap_def]
 congr 1
 exact List.map_congr_left (fun a ha => arg_names (h2 a ha))
theorem saidS_w {s : S} (h : stmtOk s = true) : (saidS s).length ≤ wS s := by
 have h1 := varsS_w s
 unfold varsS at h1
 unfold saidS
 rw [said_eq h]
 simp only [List.length_append] at h1 ⊢
 omega
def badR (gl : List ByteArray) (q : Pr) (ps : List ByteArray) (s : S) : Bool := !(saidS s).all (fun v => knd gl q v != 0) || (s.kind == 4 && ((s.proc.toList == [109, 97, 105, 110]) || !ps.any (isT s.proc)))
theorem badR_eq {gl : List ByteArray} {q : Pr} {ps : List ByteArray} {s : S} (h : stmtOk s = true) : badR gl q ps s = badS gl q ps s := by
 obtain ⟨id, kind, labels, nm, proc, x, has, args, th, el⟩ := s
 have ha : args.flatMap saidV = args.flatMap argV := said_eq h
 unfold badR badS rightS saidS varsS
 simp only [S.x, S.kind, S.nm, S.args, S.proc, ha, List.all_append]
 generalize (namesE x).all _ = b1
 generalize (ownV kind nm).all _ = b2
 generalize (args.flatMap argV).all _ = b3
 generalize ps.any _ = b4
 generalize (proc.toList == [109, 97, 105, 110]) = b5
 rw [bne]
 generalize (kind == 4) = b6
 cases b1 <;> cases b2 <;> cases b3 <;> cases b4 <;> cases b5 <;> cases b6 <;> rfl
theorem fstB_congr {f g : S → Bool} : ∀ {L : List S}, (∀ s ∈ L, f s = g s) → fstB f L = fstB g L
 | [], _ => rfl
 | x :: L, h => by rw [fstB_cons, fstB_cons, h x (List.mem_cons_self ..), fstB_congr (fun s hs => h s (List.mem_cons_of_mem _ hs))]
theorem item_at {w W0 W : World} {Q Q0 : Nat → Prop} {l : List It} {A : Option Addr} {n cap : Nat} (h : SliceI W0 Q0 16 (ItemI w Q) l (.slice A n cap)) (hI : In Q0 W0 W) {k : Nat} (hk : k < l.length) :
 ∃ a id kind labels nm proc x has args th el L lc y0 y1 y2 X xn xc R rc T tc U uc dp inn els, A = some a ∧ Q0 a.block ∧ l[k].s = .mk id kind labels nm proc x has args th el ∧
 RowAt W (a.add (k * 16)) (.int .i64 id) [.int .i64 kind, .slice L labels.length lc, .string nm, .string proc, .int .i64 y0, .int .i64 y1, .string y2, .slice X xn xc, .bool has, .slice R args.length rc, .slice T th.length tc, .slice U el.length uc, .int .i64 dp, .int .i64 inn, .bool els] ∧ i64 id ∧ i64 kind ∧
 StmtI w Q (.mk id kind labels nm proc x has args th el) [.int .i64 id, .int .i64 kind, .slice L labels.length lc, .string nm, .string proc, .int .i64 y0, .int .i64 y1, .string y2, .slice X xn xc, .bool has, .slice R args.length rc, .slice T th.length tc, .slice U el.length uc] := by
 obtain ⟨a, cs, rfl, hq, ⟨c, rfl, hst⟩, hc⟩ := slice_at h hI hk
 obtain ⟨id, kind, labels, nm, proc, x, has, args, th, el, L, lc, y0, y1, y2, X, xn, xc, R, rc, T, tc, U, uc, hmk, rfl, h1, h2, _⟩ := stmt_open hst
 rw [hmk] at hst
 exact ⟨a, id, kind, labels, nm, proc, x, has, args, th, el, L, lc, y0, y1, y2, X, xn, xc, R, rc, T, tc, U, uc, _, _, _, rfl, hq, hmk, rowAt_elem hc, h1, h2, hst⟩
section
variable {P : Program} {md : Region.Mode} {ops : Array Oper} {Q : Exit → Act → World → Prop} {S : World → Prop}
theorem wpAnyH_step {i : Nat} {o : Oper} {fuel : Nat} {listed : Array Bool} {a : Act} {w : World} (hr : Region.ready md ops listed = [i]) (ho : ops[i]? = some o)
 (h : ∀ K' : Act → World → Prop, Shut (∀ a w, S w → wpAnyH P md ops Q S fuel (listed.setIfInBounds i true) a w → K' a w) → if Region.wanted o (yielded ops a.tmps) = true then Oper.wp P o a w K' Q else K' (a.put o.dst undef) w) : wpAnyH P md ops Q S (fuel + 1) listed a w :=
 wpAnyH_all hr (by simp) (fun j hj => by rw [List.mem_singleton.1 hj]; exact wpOp_step ho (fun K' hK => h K' (fun a w h1 h2 => hK a w ⟨h1, h2⟩)))
end
theorem fault_end {w : World} {f : Nat} {c i : Int} (h : Blk w f 34 #[.int .i64 0, .int .i64 0]) : Blk ((w.setCell ⟨f, 0, none⟩ (.int .i64 c)).setCell ⟨f, 1, none⟩ (.int .i64 i)) f 34 #[.int .i64 c, .int .i64 i] := by
 have h := (h.set_ 0 (.int .i64 c)).set_ 1 (.int .i64 i)
 simp only [List.setIfInBounds_toArray, List.set_cons_zero, List.set_cons_succ] at h
 exact h
end Go.Proofs.YtimejkbmfbjomaaGreat
namespace Go.Proofs.YtimejkbmfbjomaaGreat
open Go.ChangeShapes Go.WideShapes Go.ChangeAt Go.RowKit Go.Deep
set_option linter.unusedVariables false
set_option linter.unusedSimpArgs false
theorem dupL_false : ∀ (l p : List ByteArray), dupL p l = false → (∀ x ∈ l, x ∉ p) ∧ l.Nodup
 | [], p, _ => ⟨fun x hx => absurd hx (by simp), List.nodup_nil⟩
 | x :: l, p, h => by
  rw [dupL, Bool.or_eq_false_iff] at h
  obtain ⟨h1, h2⟩ := h
  obtain ⟨h3, h4⟩ := dupL_false l (p ++ [x]) h2
  have hx : x ∉ p := fun hp => by
   rw [List.any_eq_false] at h1
   exact h1 x hp (by simp [isT])
  refine ⟨fun y hy => ?_, List.nodup_cons.2 ⟨fun hy => h3 x hy (by simp), h4⟩⟩
  rcases List.mem_cons.1 hy with rfl | hy
  ·exact hx
  ·exact fun hp => h3 y hy (by simp [hp])
theorem dup_nodup {l : List ByteArray} (h : dup l = false) : l.Nodup := (dupL_false l [] h).2
theorem dupL_true : ∀ (l p : List ByteArray), p.Nodup → dupL p l = true → ¬ (p ++ l).Nodup
 | [], p, _, h => by rw [dupL] at h; cases h
 | x :: l, p, hp, h => by
  rw [dupL, Bool.or_eq_true] at h
  intro hn
  rcases h with h | h
  ·rw [List.any_eq_true] at h
   obtain ⟨y, hy, hxy⟩ := h
   have : x = y := by simpa [isT] using hxy
   subst this
   exact (List.nodup_append.1 hn).2.2 x hy x (by simp) rfl
  ·have h2 : p ++ x :: l = (p ++ [x]) ++ l := by simp
   rw [h2] at hn
   exact dupL_true l (p ++ [x]) (List.nodup_append.1 hn).1 h hn
theorem dup_of {l : List ByteArray} (h : l.Nodup) : dup l = false := by
 cases hd : dup l with
 | false => rfl
 | true => exact absurd h (by simpa using dupL_true l [] List.nodup_nil hd)
theorem find_own : ∀ (l : List Pr), (l.map Pr.nm).Nodup → ∀ q ∈ l, l.find? (isQ q.nm) = some q
 | [], _, q, hq => by cases hq
 | x :: l, h, q, hq => by
  rw [List.map_cons, List.nodup_cons] at h
  rw [List.find?_cons]
  rcases List.mem_cons.1 hq with rfl | hq
  ·rw [show isQ q.nm q = true by simp [isQ]]
  ·have hne : isQ q.nm x = false := by
    unfold isQ
    exact decide_eq_false (fun e => h.1 (by rw [e]; exact List.mem_map_of_mem hq))
   rw [hne]
   exact find_own l h.2 q hq
theorem chkL_ok {gl ps : List ByteArray} : ∀ (l : List Pr), (∀ q ∈ l, ∀ s ∈ preSL q.body, s.id ≠ 0) → (chkL gl ps l).1 = 0 → ∀ q ∈ l, dup (namesP gl q) = false ∧ ∀ s ∈ preSL q.body, badS gl q ps s = false
 | [], _, _, q, hq => by cases hq
 | x :: l, hz, h, q, hq => by
  rw [chkL] at h
  split at h
  ·cases h
  ·rename_i hd
   split at h
   ·rename_i hf
    rcases List.mem_cons.1 hq with rfl | hq
    ·refine ⟨by simpa using hd, fun s hs => ?_⟩
     cases hb : badS gl q ps s with
     | false => rfl
     | true =>
      unfold fstB at hf
      cases hfd : (preSL q.body).find? (badS gl q ps) with
      | none =>
       have := List.find?_eq_none.1 hfd s hs
       rw [hb] at this; exact absurd rfl this
      | some y =>
       rw [hfd, Option.elim_some] at hf
       exact absurd hf (hz q (List.mem_cons_self ..) y (List.mem_of_find?_eq_some hfd))
    ·exact chkL_ok l (fun q hq => hz q (List.mem_cons_of_mem _ hq)) h q hq
   ·cases h
structure ChOk (p : Pg) : Prop where
 may : mayP p = true
 main : mainBad p = false
 glob : p.globals.Nodup
 procs : (p.procs.map Pr.nm).Nodup
 names : ∀ q ∈ p.procs, (namesP p.globals q).Nodup
 stm : ∀ q ∈ p.procs, ∀ s ∈ preSL q.body, badS p.globals q (p.procs.map Pr.nm) s = false
theorem chk_ok {p : Pg} (h : (chkP p).1 = 0) : ChOk p := by
 unfold chkP at h
 split at h
 ·rename_i hm
  split at h
  ·cases h
  ·rename_i hh
   unfold hdBad at hh
   simp only [Bool.or_eq_true, not_or, Bool.not_eq_true] at hh
   have h1 := chkL_ok p.procs (fun q hq s hs => by have := may_ids hm q hq s hs; omega) h
   exact ⟨hm, hh.1.1, dup_nodup hh.1.2, dup_nodup hh.2, fun q hq => dup_nodup (h1 q hq).1, fun q hq => (h1 q hq).2⟩
 ·cases h
theorem ChOk.chk {p : Pg} (h : ChOk p) : chkP p = (0, 0) := by
 unfold chkP
 rw [if_pos h.may]
 have hh : hdBad p = false := by unfold hdBad; rw [h.main, dup_of h.glob, dup_of h.procs]; rfl
 rw [if_neg (by rw [hh]; simp)]
 have : ∀ (l : List Pr), (∀ q ∈ l, q ∈ p.procs) → chkL p.globals (p.procs.map Pr.nm) l = (0, 0) := by
  intro l
  induction l with
  | nil => intro _; rfl
  | cons x l ih =>
   intro hl
   rw [chkL, if_neg (by rw [dup_of (h.names x (hl x (List.mem_cons_self ..)))]; simp)]
   have hf : fstB (badS p.globals x (p.procs.map Pr.nm)) (preSL x.body) = 0 := by
    unfold fstB
    rw [List.find?_eq_none.2 (fun s hs => by rw [h.stm x (hl x (List.mem_cons_self ..)) s hs]; simp)]
    rfl
   rw [if_pos hf]
   exact ih (fun q hq => hl q (List.mem_cons_of_mem _ hq))
 exact this p.procs (fun _ h => h)
end Go.Proofs.YtimejkbmfbjomaaGreat
namespace Go.Proofs.YtimejkbmfbjomaaGreat
open Go.ChangeShapes Go.WideShapes Go.ChangeAt Go.RowKit Go.Deep
set_option linter.unusedVariables false
set_option linter.unusedSimpArgs false
def chkOK (p : Pg) : Bool := decide ((chkP p).1 = 0)
def jfP (p : Pg) (s : ByteArray) : Int := if chkOK p = true then idxL (isQ s) p.procs 0 else -1
section
open Go.Shelf
attribute [local go_sem] Oper.semAt_some
end
end Go.Proofs.YtimejkbmfbjomaaGreat
namespace Go.Proofs.YtimejkbmfbjomaaGreat
open Go.ChangeShapes Go.WideShapes Go.ChangeAt Go.RowKit Go.Deep
set_option linter.unusedVariables false
set_option linter.unusedSimpArgs false
set_option maxHeartbeats 1000000 in
theorem TIndexQ_any {w W : World} {Q : Nat → Prop} {l : List Pr} {v : Value} (h : SliceI w Q 5 (ProcI w Q) l v) (hI : In Q w W) (s : ByteArray) (b : Nat) (hb : W.cell? ⟨b, 0, none⟩ = some (.string s)) :
  Calls Tryz.prog 80 #[v, .func (.func 81) #[] #[.pointer (some ⟨b, 0, none⟩)]] W fun e w' => e = .returned (.int .i64 (idxL (isQ s) l 0)) ∧ Below W.heap.size W w' := by
 obtain ⟨A, cap, rfl, hl1, hl2⟩ := h.shape
 have H := Lib.hid h
 have HI := Lib.hid hI
 have HB := Lib.hid hb
 clear h hI hb
 go_enter Tryz.func80, Tryz.ntmps80
 go_wp2_with fail
 go_loopg [8] l.length (fun kk i wr => ∃ k : Nat, k + kk = l.length ∧ i = .int .i64 k ∧ Hid (idxL (isQ s) (l.drop k) k = idxL (isQ s) l 0) ∧ Hid (Below W.heap.size W wr))
 case atStart => exact ⟨0, by omega, rfl, Lib.hid (by rw [List.drop_zero]), Lib.hid (Below.refl _ _)⟩
 case round =>
  obtain ⟨k, hk, rfl, HW, HR⟩ := hrel
  by_cases hlt : k < l.length
  ·obtain ⟨a, Cp, kp, Cv, kv, Cb, kb, Ce, ke, rfl, _, ⟨p0, p1, p2, p3, p4, _⟩, _⟩ := proc_at H.out (HI.out.on HR.out) hlt
   have HD := Lib.hid (idxL_drop (f := isQ s) hlt)
   rw [HW.out] at HD
   have hv : isQ s l[k] = (l[k].nm.toList == s.toList) := (dec_bytes _ _).symm
   generalize l[k] = y at p0 p1 p2 p3 p4 HD hv
   obtain ⟨yn, yp, yv, yb, ye⟩ := y
   simp only at p0 p1 p2 p3 p4 hv
   have q0 : wr.cell? ⟨b, 0, none⟩ = some (.string s) := (HR.out.cell (p := ⟨b, 0, none⟩) (World.block_lt_of_cell? W _ HB.out)).trans HB.out
   have hbl := World.block_lt_of_cell? wr _ q0
   cases hb : isQ s ⟨yn, yp, yv, yb, ye⟩ with
   | true =>
    rw [hb, if_pos rfl] at HD
    have hv2 : (yn.toList == s.toList) = true := by rw [← hv]; exact hb
    clear hv hb
    go_wp2_with (go_at_call 81; go_in)
    go_ret
    exact ⟨ret_int HD.out.symm, below_step HR.out (below_box _)⟩
   | false =>
    rw [hb, if_neg (by simp)] at HD
    have hv2 : (yn.toList == s.toList) = false := by rw [← hv]; exact hb
    clear hv hb
    go_wp2_with (go_at_call 81; go_in)
    go_roundg (l.length - k - 1)
    case measure => omega
    case rel => exact ⟨k + 1, by omega, by go_num, Lib.hid HD.out.symm, Lib.hid (below_step HR.out (below_box _))⟩
  ·have HD : Hid (idxL (isQ s) l 0 = -1) := Lib.hid (by rw [← HW.out, List.drop_of_length_le (by omega), idxL])
   go_wp2_with fail
   go_ret
   exact ⟨ret_int HD.out.symm, HR.out⟩
set_option maxHeartbeats 2000000 in
theorem tfind_any {w : World} {Q : Nat → Prop} {p : Pg} {c0 c1 : Value} (h : ProgI w Q p [c0, c1]) (hsm : SmG p) (s : ByteArray) (W : World) (hI : In Q w W) :
  Calls Tryz.prog 40 #[.agg #[c0, c1], .string s] W fun e w' => e = .returned (.int .i64 (jfP p s)) ∧ Below W.heap.size W w' := by
 have HC := Lib.hid (fun V hV => Check_any h hsm V hV)
 have hok : (chkP p).1 = 0 → chkP p = (0, 0) := fun h => (chk_ok h).chk
 have HOk := Lib.hid hok
 have HCk : Hid (chkOK p = decide ((chkP p).1 = 0)) := Lib.hid rfl
 clear hok
 obtain ⟨Ag, cg, Ap, cp, rfl, rfl, _, _, _, _, _, hpr⟩ := prog_open h
 have HX := Lib.hid (fun V hV b hb => TIndexQ_any (W := V) hpr hV s b hb)
 have HI := Lib.hid hI
 have HF : Hid (jfP p s = if chkOK p = true then idxL (isQ s) p.procs 0 else -1) := Lib.hid rfl
 clear h hI hpr
 generalize idxL (isQ s) p.procs 0 = z at HX HF
 go_enter Tryz.func40, Tryz.ntmps40
 go_upto_region 1 with fail
 have HBp : Hid (Blk ((W.alloc (.cells #[.slice Ag p.globals.length cg, .slice Ap p.procs.length cp] 25)).alloc (.cells #[.string s] 9)) W.heap.size 25 #[.slice Ag p.globals.length cg, .slice Ap p.procs.length cp]) := Lib.hid ((Blk.new _ _ _).alloc _)
 have HBr : Hid (Blk ((W.alloc (.cells #[.slice Ag p.globals.length cg, .slice Ap p.procs.length cp] 25)).alloc (.cells #[.string s] 9)) (W.heap.size + 1) 9 #[.string s]) := Lib.hid (by have := Blk.new (W.alloc (.cells #[.slice Ag p.globals.length cg, .slice Ap p.procs.length cp] 25)) 9 #[.string s]; rw [World.size_alloc] at this; exact this)
 have HB0 : Hid (Below W.heap.size W ((W.alloc (.cells #[.slice Ag p.globals.length cg, .slice Ap p.procs.length cp] 25)).alloc (.cells #[.string s] 9))) := Lib.hid (below_stepA (below_box _) _)
 generalize World.alloc _ _ = V at HBp HBr HB0 ⊢
 have q0 : V.cell? ⟨W.heap.size, 0, none⟩ = some (.slice Ag p.globals.length cg) := by rw [HBp.out.cell]; rfl
 have q1 : V.cell? ⟨W.heap.size, 1, none⟩ = some (.slice Ap p.procs.length cp) := by rw [HBp.out.cell]; rfl
 have hbl := HBp.out.lt
 have hbr := HBr.out.lt
 generalize chkP p = r at HC HOk HCk
 obtain ⟨rc, ri⟩ := r
 by_cases hr : rc = 0
 ·subst hr
  have hri : ri = 0 := congrArg Prod.snd (HOk.out rfl)
  subst hri
  have HF1 : Hid (jfP p s = z) := Lib.hid (by rw [HF.out, if_pos (by rw [HCk.out]; rfl)])
  clear HF HOk HCk
  go_wp2_with (first
   | (go_at_call 18; refine (HC.out V (HI.out.on HB0.out)).mono ?_; rintro e w1 ⟨rfl, hb1⟩; have HI1 := Lib.hid ((HI.out.on HB0.out).on hb1); have q0' : w1.cell? ⟨W.heap.size, 0, none⟩ = some (.slice Ag p.globals.length cg) := (hb1.cell (p := ⟨W.heap.size, 0, none⟩) hbl).trans q0; have q1' : w1.cell? ⟨W.heap.size, 1, none⟩ = some (.slice Ap p.procs.length cp) := (hb1.cell (p := ⟨W.heap.size, 1, none⟩) hbl).trans q1; have r0' : w1.cell? ⟨W.heap.size + 1, 0, none⟩ = some (.string s) := (by rw [(HBr.out.below hb1 hbr).cell]; rfl))
   | (go_at_call 80; refine (HX.out w1 HI1.out _ r0').mono ?_; rintro e w2 ⟨rfl, hb2⟩))
  go_ret
  exact ⟨ret_int (by rw [HF1.out]), below_step (below_step HB0.out hb1) hb2⟩
 ·have hr1 : (rc == 0) = false := beq_eq_false_iff_ne.2 hr
  have HF1 : Hid (jfP p s = -1) := Lib.hid (by rw [HF.out, if_neg (by rw [HCk.out]; simpa using hr)])
  clear hr HF HOk HCk HX
  go_wp2_with (go_at_call 18; refine (HC.out V (HI.out.on HB0.out)).mono ?_; rintro e w1 ⟨rfl, hb1⟩)
  go_ret
  exact ⟨ret_int (by rw [HF1.out]), below_step HB0.out hb1⟩
end Go.Proofs.YtimejkbmfbjomaaGreat
namespace Go.Proofs.YtimejkbmfbjomaaGreat
open Go.ChangeShapes Go.WideShapes Go.ChangeAt Go.RowKit Go.Deep Go.Shelf
set_option linter.unusedVariables false
set_option linter.unusedSimpArgs false
attribute [local go_sem] Oper.semAt_some
theorem jfP_case (p : Pg) (s : ByteArray) : jfP p s < 0 ∨ ∃ m : Nat, jfP p s = m ∧ m < p.procs.length := by
 unfold jfP
 split
 ·rcases idxL_get (isQ s) p.procs 0 with ⟨h, _⟩ | ⟨j, h, e, _⟩
  ·exact .inl (by rw [h]; decide)
  ·exact .inr ⟨j, by rw [e]; simp, h⟩
 ·exact .inl (by decide)
end Go.Proofs.YtimejkbmfbjomaaGreat
namespace Go.Proofs.YtimejkbmfbjomaaGreat
open Go.ChangeShapes Go.WideShapes Go.ChangeAt Go.RowKit Go.Deep Go.Shelf
set_option linter.unusedVariables false
set_option linter.unusedSimpArgs false
attribute [local go_sem] Oper.semAt_some
mutual
theorem preS_lw : ∀ s : S, (preS s).length ≤ wS s
 | .mk id kind labels nm proc x has args th el => by
  have h1 := preSL_lw th
  have h2 := preSL_lw el
  rw [preS, wS, List.length_cons, List.length_append]; omega
theorem preSL_lw : ∀ l : List S, (preSL l).length ≤ wSL l
 | [] => by simp [preSL]
 | s :: l => by
  have h1 := preS_lw s
  have h2 := preSL_lw l
  rw [preSL, wSL, List.length_append]; omega
end
end Go.Proofs.YtimejkbmfbjomaaGreat
namespace Go.Proofs.YtimejkbmfbjomaaGreat
open Go.ChangeShapes Go.WideShapes Go.ChangeAt Go.RowKit Go.Deep Go.Shelf
set_option linter.unusedVariables false
set_option linter.unusedSimpArgs false
attribute [local go_sem] Oper.semAt_some
def setF (l : List ByteArray) : ByteArray → Bool := fun y => l.any (isT y)
end Go.Proofs.YtimejkbmfbjomaaGreat
namespace Go.Proofs.YtimejkbmfbjomaaGreat
open Go.ChangeShapes Go.WideShapes Go.ChangeAt Go.RowKit Go.Deep
set_option linter.unusedVariables false
set_option linter.unusedSimpArgs false
theorem und_t : Tryz.prog.underlying 73 = some (.map 9 4) := by kernel_rfl
theorem preSL_app : ∀ a b : List S, preSL (a ++ b) = preSL a ++ preSL b
 | [], b => by rw [List.nil_append, preSL, List.nil_append]
 | s :: a, b => by rw [List.cons_append, preSL, preSL, preSL_app a b, List.append_assoc]
theorem preSL_take {l : List S} {k : Nat} (h : k < l.length) : preSL (l.take (k + 1)) = preSL (l.take k) ++ preS l[k] := by
 rw [List.take_succ_eq_append_getElem h, preSL_app, preSL, preSL, List.append_nil]
theorem preSL_take_le (l : List S) (k : Nat) : (preSL (l.take k)).length ≤ (preSL l).length := by
 conv => rhs; rw [← List.take_append_drop k l, preSL_app, List.length_append]
 omega
def callsOf (l : List S) : List ByteArray := (l.filter (fun s => s.kind == 4)).map S.proc
theorem callsOf_app (a b : List S) : callsOf (a ++ b) = callsOf a ++ callsOf b := by unfold callsOf; rw [List.filter_append, List.map_append]
theorem callsOf_len (l : List S) : (callsOf l).length ≤ l.length := by unfold callsOf; rw [List.length_map]; exact List.length_filter_le _ _
theorem setF_snoc (l : List ByteArray) (s : ByteArray) : setF (l ++ [s]) = fun y => setF l y || decide (y = s) := by funext y; simp [setF, isT]
theorem moves_map {A B : World} {b : Nat} (hg : A.grownBy B (some b)) : Moves (fun k => k = b) A B := ⟨hg.os, hg.tape, hg.output, hg.size, fun k hk ho => hg.block k hk (fun e => by injection e with e; exact ho e)⟩
/-- while the calls of a body are laid into the set at b, by way of the cell at c -/
structure CaI (W0 W : World) (c b : Nat) (pre : List S) : Prop where
 below : Below W0.heap.size W0 W
 set : SetI W b (callsOf pre).length (setF (callsOf pre))
 ptr : Blk W c 73 #[.map (some b)]
theorem CaI.on {W0 W W' : World} {c b : Nat} {pre : List S} (h : CaI W0 W c b pre) (hW : W0.heap.size ≤ W.heap.size) (hb : Below W.heap.size W W') : CaI W0 W' c b pre := ⟨h.below.trans (hb.mono hW), h.set.below hb h.set.lt, h.ptr.on_ hb⟩
theorem CaI.le {W0 W : World} {c b : Nat} {pre : List S} (h : CaI W0 W c b pre) : W0.heap.size ≤ W.heap.size := h.below.size
set_option maxHeartbeats 2000000 in
set_option maxRecDepth 100000 in
theorem callsDo_any {w W0 W : World} {Q : Nat → Prop} {s : S} {cs : List Value} {c b : Nat} {pre : List S} (hs : StmtI w Q s cs) (h : CaI W0 W c b pre) (hb : W0.heap.size ≤ b) (hcb : c ≠ b) (hn : pre.length ≤ 1000000000) :
 Calls Tryz.prog 85 #[.agg cs.toArray, .pointer (some ⟨c, 0, none⟩)] W fun e W' => e = .returned (.tuple #[]) ∧ CaI W0 W' c b (pre ++ [s]) ∧ Moves (fun k => k = b) W W' := by
 obtain ⟨id, kind, labels, nm, proc, x, has, args, th, el, L, lc, x0, x1, x2, X, xn, xc, R, rc, T, tc, U, uc, rfl, rfl, _, _, _, hproc, _⟩ := stmt_open hs
 have H := Lib.hid h
 have hnb : (callsOf pre).length < maxLen := by have := callsOf_len pre; unfold maxLen; omega
 have hpr : proc.size ≤ maxLen := hproc
 have HB := Lib.hid hb
 have HCB := Lib.hid hcb
 have HC1 : Hid (kind = 4 → callsOf (pre ++ [.mk id kind labels nm proc x has args th el]) = callsOf pre ++ [proc]) := Lib.hid (fun e => by rw [callsOf_app]; subst e; rfl)
 have HC2 : Hid (¬ kind = 4 → callsOf (pre ++ [.mk id kind labels nm proc x has args th el]) = callsOf pre) := Lib.hid (fun e => by rw [callsOf_app]; simp [callsOf, S.kind, e])
 clear h hs hb hcb hn
 go_enter Tryz.func85, Tryz.ntmps85
 go_upto_region 1 with fail
 have HBs : Hid (Blk (W.alloc (.cells #[.int .i64 id, .int .i64 kind, .slice L labels.length lc, .string nm, .string proc, .int .i64 x0, .int .i64 x1, .string x2, .slice X xn xc, .bool has, .slice R args.length rc, .slice T th.length tc, .slice U el.length uc] 49)) W.heap.size 49 #[.int .i64 id, .int .i64 kind, .slice L labels.length lc, .string nm, .string proc, .int .i64 x0, .int .i64 x1, .string x2, .slice X xn xc, .bool has, .slice R args.length rc, .slice T th.length tc, .slice U el.length uc]) := Lib.hid (Blk.new _ _ _)
 have HCa : Hid (CaI W0 (W.alloc (.cells #[.int .i64 id, .int .i64 kind, .slice L labels.length lc, .string nm, .string proc, .int .i64 x0, .int .i64 x1, .string x2, .slice X xn xc, .bool has, .slice R args.length rc, .slice T th.length tc, .slice U el.length uc] 49)) c b pre) := Lib.hid (H.out.on H.out.le (below_box _))
 have HMv : Hid (Moves (fun k => k = b) W (W.alloc (.cells #[.int .i64 id, .int .i64 kind, .slice L labels.length lc, .string nm, .string proc, .int .i64 x0, .int .i64 x1, .string x2, .slice X xn xc, .bool has, .slice R args.length rc, .slice T th.length tc, .slice U el.length uc] 49))) := Lib.hid ((Moves.refl _ _).alloc _)
 generalize World.alloc _ _ = V at HBs HCa HMv ⊢
 generalize hbse : W.heap.size = bs at HBs ⊢
 clear hbse
 have s1 : V.cell? ⟨bs, 1, none⟩ = some (.int .i64 kind) := by rw [HBs.out.cell]; rfl
 have s4 : V.cell? ⟨bs, 4, none⟩ = some (.string proc) := by rw [HBs.out.cell]; rfl
 have p0 : V.cell? ⟨c, 0, none⟩ = some (.map (some b)) := by rw [HCa.out.ptr.cell]; rfl
 by_cases hk : kind = 4
 ·subst hk
  have HCn := Lib.hid (HC1.out rfl)
  clear HC1 HC2
  go_wp2_with (at_mapUpdate; refine wpList_setPut rfl _ _ _ 73 rfl und_t b (callsOf pre).length (setF (callsOf pre)) rfl HCa.out.set hnb proc hpr rfl rfl ?_; intro w1 hs1 hg1; have HS1 := Lib.hid hs1; have HG1 := Lib.hid hg1; clear hs1 hg1)
  go_end0
  refine ⟨rfl, ⟨HCa.out.below.grown HG1.out HCa.out.le (fun j hj => by cases hj; exact HB.out), ?_, HCa.out.ptr.grown HG1.out (fun e => HCB.out (by injection e))⟩, HMv.out.trans (moves_map HG1.out) (fun j hj => .inr hj)⟩
  rw [HCn.out, setF_snoc, List.length_append]
  exact HS1.out
 ·have hk1 : (kind == 4) = false := beq_eq_false_iff_ne.2 hk
  have HCn := Lib.hid (HC2.out hk)
  clear HC1 HC2 hk
  go_wp2_with fail
  go_end0
  refine ⟨rfl, ⟨HCa.out.below, ?_, HCa.out.ptr⟩, HMv.out⟩
  rw [HCn.out]
  exact HCa.out.set
set_option maxHeartbeats 4000000 in
set_option maxRecDepth 100000 in
theorem eachC_any {w W0 : World} {Q : Nat → Prop} {c b : Nat} (hI : In Q w W0) (hb : W0.heap.size ≤ b) (hcb : c ≠ b) : ∀ (M : Nat) (blk : List S), (preSL blk).length < M → ∀ (v : Value) (pre : List S) (W : World), StmtsI w Q blk v → CaI W0 W c b pre → pre.length + (preSL blk).length ≤ 1000000000 →
 Calls Tryz.prog 84 #[v, .func (.func 85) #[] #[.pointer (some ⟨c, 0, none⟩)]] W fun e W' => e = .returned (.tuple #[]) ∧ CaI W0 W' c b (pre ++ preSL blk) ∧ Moves (fun k => k = b) W W' := by
 intro M
 induction M with
 | zero => intro blk h; omega
 | succ M ih =>
  intro blk hM v pre W hbl hca hN
  obtain ⟨A, cap, rfl, hlc, hcc⟩ := hbl.shape
  have HBl := Lib.hid hbl
  have HI := Lib.hid hI
  have HCa := Lib.hid hca
  have HN := Lib.hid hN
  have HIh := Lib.hid ih
  have HML := Lib.hid hM
  have HB := Lib.hid hb
  have HCB := Lib.hid hcb
  clear hbl hI hca hN ih hM hb hcb
  go_enter Tryz.func84, Tryz.ntmps84
  go_wp2_with fail
  go_loopg [8] blk.length (fun kk i wr => ∃ k : Nat, k + kk = blk.length ∧ i = .int .i64 k ∧ Hid (CaI W0 wr c b (pre ++ preSL (blk.take k))) ∧ Hid (Moves (fun j => j = b) W wr))
  case atStart => exact ⟨0, by omega, rfl, Lib.hid (by simpa [preSL] using HCa.out), Lib.hid (Moves.refl _ _)⟩
  case round =>
   obtain ⟨k, hk, rfl, HC, HMv⟩ := hrel
   by_cases hlt : k < blk.length
   ·have HIr := Lib.hid (HI.out.on HC.out.below)
    obtain ⟨a, id, kind, labels, nm, proc, x, has, args, th, el, L, lc, x0, x1, x2, X, xn, xc, R, rc, T, tc, U, uc, rfl, hqa, hmk, ⟨p0, p1, p2, p3, p4, p5, p6, p7, p8, p9, p10, p11, p12, _⟩, hid, hkind, hnm, hproc, hlab, hx, har, hth, hel, hst⟩ := stmt_at HBl.out HIr.out hlt
    have HPt : Hid (preSL (blk.take (k + 1)) = preSL (blk.take k) ++ (blk[k] :: (preSL th ++ preSL el))) := Lib.hid (by rw [preSL_take hlt, hmk, preS])
    have hle := preSL_take_le blk (k + 1)
    rw [HPt.out, List.length_append, List.length_cons, List.length_append] at hle
    have HLe : Hid ((preSL th).length < M ∧ (preSL el).length < M ∧ (pre ++ preSL (blk.take k)).length ≤ 1000000000 ∧ (pre ++ preSL (blk.take k) ++ [blk[k]]).length + (preSL th).length ≤ 1000000000 ∧ (pre ++ preSL (blk.take k) ++ [blk[k]] ++ preSL th).length + (preSL el).length ≤ 1000000000) := Lib.hid (by
     have h1 := HN.out
     have h2 := HML.out
     simp only [List.length_append, List.length_cons, List.length_nil]
     omega)
    have HTh := Lib.hid hth
    have HEl := Lib.hid hel
    have HSt := Lib.hid hst
    generalize preSL (blk.take k) = pk at HC HPt HLe
    generalize blk[k] = s at HPt HLe HSt
    clear hle hmk hid hkind hnm hproc hlab hx har hth hel hst hqa
    go_upto_region 3 with fail
    have HBi : Hid (Blk (wr.alloc (.cells #[.int .i64 id, .int .i64 kind, .slice L labels.length lc, .string nm, .string proc, .int .i64 x0, .int .i64 x1, .string x2, .slice X xn xc, .bool has, .slice R args.length rc, .slice T th.length tc, .slice U el.length uc] 49)) wr.heap.size 49 #[.int .i64 id, .int .i64 kind, .slice L labels.length lc, .string nm, .string proc, .int .i64 x0, .int .i64 x1, .string x2, .slice X xn xc, .bool has, .slice R args.length rc, .slice T th.length tc, .slice U el.length uc]) := Lib.hid (Blk.new _ _ _)
    have HC3 : Hid (CaI W0 (wr.alloc (.cells #[.int .i64 id, .int .i64 kind, .slice L labels.length lc, .string nm, .string proc, .int .i64 x0, .int .i64 x1, .string x2, .slice X xn xc, .bool has, .slice R args.length rc, .slice T th.length tc, .slice U el.length uc] 49)) c b (pre ++ pk)) := Lib.hid (HC.out.on HC.out.le (below_box _))
    have HM3 : Hid (Moves (fun j => j = b) W (wr.alloc (.cells #[.int .i64 id, .int .i64 kind, .slice L labels.length lc, .string nm, .string proc, .int .i64 x0, .int .i64 x1, .string x2, .slice X xn xc, .bool has, .slice R args.length rc, .slice T th.length tc, .slice U el.length uc] 49))) := Lib.hid (HMv.out.alloc _)
    have HNb : Hid (¬ wr.heap.size = b) := Lib.hid (fun e => by have := HC.out.set.lt; omega)
    clear p0 p1 p2 p3 p4 p5 p6 p7 p8 p9 p10 p11 p12 HC HMv HIr
    generalize World.alloc wr _ = V at HBi HC3 HM3 ⊢
    generalize wr.heap.size = bi at HBi HNb ⊢
    have s0 : V.cell? ⟨bi, 0, none⟩ = some (.int .i64 id) := by rw [HBi.out.cell]; rfl
    have s1 : V.cell? ⟨bi, 1, none⟩ = some (.int .i64 kind) := by rw [HBi.out.cell]; rfl
    have s2 : V.cell? ⟨bi, 2, none⟩ = some (.slice L labels.length lc) := by rw [HBi.out.cell]; rfl
    have s3 : V.cell? ⟨bi, 3, none⟩ = some (.string nm) := by rw [HBi.out.cell]; rfl
    have s4 : V.cell? ⟨bi, 4, none⟩ = some (.string proc) := by rw [HBi.out.cell]; rfl
    have s5 : V.cell? ⟨bi, 5, none⟩ = some (.int .i64 x0) := by rw [HBi.out.cell]; rfl
    have s6 : V.cell? ⟨bi, 6, none⟩ = some (.int .i64 x1) := by rw [HBi.out.cell]; rfl
    have s7 : V.cell? ⟨bi, 7, none⟩ = some (.string x2) := by rw [HBi.out.cell]; rfl
    have s8 : V.cell? ⟨bi, 8, none⟩ = some (.slice X xn xc) := by rw [HBi.out.cell]; rfl
    have s9 : V.cell? ⟨bi, 9, none⟩ = some (.bool has) := by rw [HBi.out.cell]; rfl
    have s10 : V.cell? ⟨bi, 10, none⟩ = some (.slice R args.length rc) := by rw [HBi.out.cell]; rfl
    have s11 : V.cell? ⟨bi, 11, none⟩ = some (.slice T th.length tc) := by rw [HBi.out.cell]; rfl
    have s12 : V.cell? ⟨bi, 12, none⟩ = some (.slice U el.length uc) := by rw [HBi.out.cell]; rfl
    have HDo := Lib.hid (callsDo_any HSt.out HC3.out HB.out HCB.out HLe.out.2.2.1)
    simp only [List.toArray] at HDo
    go_upto_region 4 with (go_at_call 85; refine HDo.out.mono ?_; rintro e W1 ⟨rfl, hc1, hm1⟩)
    have HC4 := Lib.hid hc1
    have HM4 := Lib.hid (HM3.out.trans hm1 (fun j hj => .inr hj))
    have HBi1 := Lib.hid (hm1.blk HBi.out HNb.out)
    clear hc1 hm1 s0 s1 s2 s3 s4 s5 s6 s7 s8 s9 s10 s11 s12 HC3 HM3 HBi HDo
    have s11 : W1.cell? ⟨bi, 11, none⟩ = some (.slice T th.length tc) := by rw [HBi1.out.cell]; rfl
    go_upto_region 5 with (go_at_call 84; refine (HIh.out th HLe.out.1 _ _ W1 HTh.out HC4.out HLe.out.2.2.2.1).mono ?_; rintro e W2 ⟨rfl, hc2, hm2⟩)
    have HC5 := Lib.hid hc2
    have HM5 := Lib.hid (HM4.out.trans hm2 (fun j hj => .inr hj))
    have HBi2 := Lib.hid (hm2.blk HBi1.out HNb.out)
    clear hc2 hm2 s11 HC4 HM4 HBi1
    have s12 : W2.cell? ⟨bi, 12, none⟩ = some (.slice U el.length uc) := by rw [HBi2.out.cell]; rfl
    go_wp2_with (go_at_call 84; refine (HIh.out el HLe.out.2.1 _ _ W2 HEl.out HC5.out HLe.out.2.2.2.2).mono ?_; rintro e W3 ⟨rfl, hc3, hm3⟩; have HC6 := Lib.hid hc3; have HM6 := Lib.hid (HM5.out.trans hm3 (fun j hj => .inr hj)); clear hc3 hm3)
    go_roundg (blk.length - k - 1)
    case measure => omega
    case rel => exact ⟨k + 1, by omega, by go_num, Lib.hid (by rw [HPt.out]; have h := HC6.out; simp only [List.append_assoc, List.cons_append, List.nil_append] at h ⊢; exact h), HM6⟩
   ·obtain rfl : k = blk.length := by omega
    rw [List.take_length] at HC
    go_wp2_with fail
    go_end0
    exact ⟨rfl, HC.out, HMv.out⟩
set_option maxHeartbeats 2000000 in
set_option maxRecDepth 100000 in
theorem calls_any {w W : World} {Q : Nat → Prop} {q : Pr} {c0 c1 c2 c3 c4 : Value} (h : ProcI w Q q [c0, c1, c2, c3, c4]) (hI : In Q w W) (hn : (preSL q.body).length ≤ 1000000000) :
 Calls Tryz.prog 42 #[.agg #[c0, c1, c2, c3, c4]] W fun e w' => ∃ b, e = .returned (.map (some b)) ∧ W.heap.size ≤ b ∧ SetI w' b (callsOf (preSL q.body)).length (setF (callsOf (preSL q.body))) ∧ Below W.heap.size W w' := by
 obtain ⟨vp, vv, vb, ve, hc, hqn, hpp, hvv, hbody, hee⟩ := h
 simp only [List.cons.injEq, and_true] at hc
 obtain ⟨rfl, rfl, rfl, rfl, rfl⟩ := hc
 obtain ⟨Bp, kp, rfl, _, _⟩ := hpp.shape
 obtain ⟨Bv, kv, rfl, _, _⟩ := hvv.shape
 obtain ⟨Bb, kb, rfl, _⟩ := hbody.shape
 obtain ⟨Be, ke, rfl, _⟩ := hee.shape
 have HBd := Lib.hid hbody
 have HI := Lib.hid hI
 have HN := Lib.hid hn
 clear hpp hvv hee hbody hI hqn hn
 go_enter Tryz.func42, Tryz.ntmps42
 have hmm := @run_makeMap Tryz.prog
 go_upto_region 2 with fail
 clear hmm
 have HBp : Hid (Blk (((W.alloc (.cells #[.string q.nm, .slice Bp q.params.length kp, .slice Bv q.vars.length kv, .slice Bb q.body.length kb, .slice Be q.end_.length ke] 39)).alloc (.map #[] 0)).alloc (.cells #[.map (some (W.heap.size + 1))] 73)) W.heap.size 39 #[.string q.nm, .slice Bp q.params.length kp, .slice Bv q.vars.length kv, .slice Bb q.body.length kb, .slice Be q.end_.length ke]) := Lib.hid (((Blk.new _ _ _).alloc _).alloc _)
 have HS0 : Hid (SetI (((W.alloc (.cells #[.string q.nm, .slice Bp q.params.length kp, .slice Bv q.vars.length kv, .slice Bb q.body.length kb, .slice Be q.end_.length ke] 39)).alloc (.map #[] 0)).alloc (.cells #[.map (some (W.heap.size + 1))] 73)) (W.heap.size + 1) 0 (setF [])) := Lib.hid (by have h := (SetI.made (W.alloc (.cells #[.string q.nm, .slice Bp q.params.length kp, .slice Bv q.vars.length kv, .slice Bb q.body.length kb, .slice Be q.end_.length ke] 39))).alloc (.cells #[.map (some (W.heap.size + 1))] 73); rw [World.size_alloc] at h; exact h)
 have HBc : Hid (Blk (((W.alloc (.cells #[.string q.nm, .slice Bp q.params.length kp, .slice Bv q.vars.length kv, .slice Bb q.body.length kb, .slice Be q.end_.length ke] 39)).alloc (.map #[] 0)).alloc (.cells #[.map (some (W.heap.size + 1))] 73)) (W.heap.size + 1 + 1) 73 #[.map (some (W.heap.size + 1))]) := Lib.hid (by have h := Blk.new ((W.alloc (.cells #[.string q.nm, .slice Bp q.params.length kp, .slice Bv q.vars.length kv, .slice Bb q.body.length kb, .slice Be q.end_.length ke] 39)).alloc (.map #[] 0)) 73 #[.map (some (W.heap.size + 1))]; rw [World.size_alloc, World.size_alloc] at h; exact h)
 have HB0 : Hid (Below W.heap.size W (((W.alloc (.cells #[.string q.nm, .slice Bp q.params.length kp, .slice Bv q.vars.length kv, .slice Bb q.body.length kb, .slice Be q.end_.length ke] 39)).alloc (.map #[] 0)).alloc (.cells #[.map (some (W.heap.size + 1))] 73))) := Lib.hid (below_stepA (below_stepA (below_box _) _) _)
 generalize World.alloc _ _ = V at HBp HS0 HBc HB0 ⊢
 have q3 : V.cell? ⟨W.heap.size, 3, none⟩ = some (.slice Bb q.body.length kb) := by rw [HBp.out.cell]; rfl
 have HCa : Hid (CaI W V (W.heap.size + 1 + 1) (W.heap.size + 1) []) := Lib.hid ⟨HB0.out, HS0.out, HBc.out⟩
 have hb1 : W.heap.size ≤ W.heap.size + 1 := by omega
 have hb2 : W.heap.size + 1 + 1 ≠ W.heap.size + 1 := by omega
 have HEa := Lib.hid (eachC_any HI.out hb1 hb2 ((preSL q.body).length + 1) q.body (by omega) _ [] V HBd.out HCa.out (by have := HN.out; simpa using this))
 clear HBp HS0 HBc HB0 HCa hb2
 go_upto_region 3 with (go_at_call 84; refine HEa.out.mono ?_; rintro e W1 ⟨rfl, hc1, hm1⟩)
 have HC := Lib.hid hc1
 clear hc1 hm1 q3 HEa
 have p0 : W1.cell? ⟨W.heap.size + 1 + 1, 0, none⟩ = some (.map (some (W.heap.size + 1))) := by rw [HC.out.ptr.cell]; rfl
 go_wp2_with fail
 go_ret
 exact ⟨W.heap.size + 1, rfl, hb1, HC.out.set, HC.out.below⟩
end Go.Proofs.YtimejkbmfbjomaaGreat
