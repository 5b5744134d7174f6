/- Texts, merged by a program; only what is used. -/
import Derived.OrdersHeld
import Derived.Test.YtehpinnmalpgpaaGreatK1
import Derived.Test.YtehpinnmalpgpaaGreatK2
import Derived.Test.YtehpinnmalpgpaaGreatK3
import Derived.Test.YtehpinnmalpgpaaGreatK4
import Derived.Test.YtehpinnmalpgpaaGreatK5
import Derived.Test.YtehpinnmalpgpaaGreatK6
import Derived.Test.YtehpinnmalpgpaaGreatK7
import Derived.Test.YtehpinnmalpgpaaGreatK8
import Derived.Test.YtehpinnmalpgpaaGreatK9
import Derived.Test.YtehpinnmalpgpaaGreatK10
import Derived.Test.YtehpinnmalpgpaaGreatK11
import Derived.Test.YtehpinnmalpgpaaGreatK12
import Derived.Test.YtehpinnmalpgpaaGreatK13
import Derived.Test.YtehpinnmalpgpaaGreatK14
import Derived.Test.YtehpinnmalpgpaaGreatK15
namespace Go.Proofs.YtehpinnmalpgpaaGreat
open Go.ChangeShapes Go.WideShapes Go.ChangeAt Go.RowKit Go.Deep
set_option linter.unusedVariables false
set_option linter.unusedSimpArgs false
theorem grown_box {a b : World} {o : Obj} {row : Option Nat} (h : (a.alloc o).grownBy b row) : a.grownBy b row := ⟨h.os, h.tape, h.output, Nat.le_trans (by simp) h.size, fun k hk hn => (h.block k (by simp; omega) hn).trans (Below.heap_alloc _ _ _ hk)⟩
def saidV (a : Ar) : List ByteArray := (if a.ref = true then [a.nm] else []) ++ namesE a.x
def saidS (s : S) : List ByteArray := ownV s.kind s.nm ++ namesE s.x ++ s.args.flatMap saidV
mutual
theorem blkOk_all : ∀ (l : List S) (d c c' : Nat), blkOk l d c = some c' → ∀ s ∈ preSL l, stmtOk s = true
 | [], d, c, c', h, s, hs => by rw [preSL] at hs; cases hs
 | x :: l, d, c, c', h, s, hs => by
  rw [blkOk] at h
  cases h1 : oneOk x d c with
  | none => rw [h1] at h; cases h
  | some c1 =>
   rw [h1] at h
   rw [preSL] at hs
   rcases List.mem_append.1 hs with hs | hs
   ·exact oneOk_all x d c c1 h1 s hs
   ·exact blkOk_all l d c1 c' h s hs
theorem oneOk_all : ∀ (x : S) (d c c' : Nat), oneOk x d c = some c' → ∀ s ∈ preS x, stmtOk s = true
 | .mk id kind labels nm proc x has args th el, d, c, c', h, s, hs => by
  rw [oneOk] at h
  by_cases hb : d ≤ 12 ∧ c + 1 ≤ 200 ∧ id = ((c + 1 : Nat) : Int) ∧ stmtOk (.mk id kind labels nm proc x has args th el) = true
  ·rw [if_pos hb] at h
   rw [preS] at hs
   cases h1 : blkOk th (d + 1) (c + 1) with
   | none => rw [h1] at h; cases h
   | some c1 =>
    rw [h1] at h
    rcases List.mem_cons.1 hs with rfl | hs
    ·exact hb.2.2.2
    ·rcases List.mem_append.1 hs with hs | hs
     ·exact blkOk_all th (d + 1) (c + 1) c1 h1 s hs
     ·exact blkOk_all el (d + 1) c1 c' h s hs
  ·rw [if_neg hb] at h; cases h
end
theorem prOk_stm : ∀ (l : List Pr) (c c' : Nat), prOk l c = some c' → ∀ q ∈ l, ∀ s ∈ preSL q.body, stmtOk s = true
 | [], c, c', h, q, hq => by cases hq
 | x :: l, c, c', h, q, hq => by
  rw [prOk] at h
  split at h
  ·cases h1 : blkOk x.body 1 c with
   | none => rw [h1] at h; cases h
   | some c1 =>
    rw [h1] at h
    rcases List.mem_cons.1 hq with rfl | hq
    ·exact blkOk_all _ _ _ _ h1
    ·exact prOk_stm l c1 c' h q hq
  ·cases h
theorem may_stm {p : Pg} (h : mayP p = true) : ∀ q ∈ p.procs, ∀ s ∈ preSL q.body, stmtOk s = true := by
 unfold mayP at h
 rw [Bool.and_eq_true] at h
 cases hp : prOk p.procs 0 with
 | none => rw [hp] at h; cases h.2
 | some c => exact prOk_stm _ _ _ hp
theorem none_names {e : E} (h : noneE e = true) : namesE e = [] := by
 obtain ⟨op, n, nm, ks⟩ := e
 unfold noneE at h
 simp only [Bool.and_eq_true, beq_iff_eq] at h
 obtain ⟨⟨⟨rfl, rfl⟩, h3⟩, h4⟩ := h
 unfold namesE
 have hk : ks = [] := List.eq_nil_of_length_eq_zero (by omega)
 subst hk
 rw [if_neg (by simp [mayE, opN])]
theorem arg_names {a : Ar} (h : argOk a = true) : saidV a = argV a := by
 obtain ⟨r, nm, x⟩ := a
 unfold argOk at h
 rw [Bool.and_eq_true] at h
 unfold saidV argV
 cases r with
 | true =>
  have hx : noneE x = true := by have := h.2; unfold xOk at this; simpa using this
  simp [none_names hx]
 | false => simp
theorem said_eq {s : S} (h : stmtOk s = true) : s.args.flatMap saidV = s.args.flatMap argV := by
 obtain ⟨id, kind, labels, nm, proc, x, has, args, th, el⟩ := s
 rw [stmtOk_eq] at h
 simp only [Bool.and_eq_true] at h
 have h2 := h.2
 unfold argsOk at h2
 rw [List.all_eq_true] at h2
 rw [List.flatMap_def, List.flatMap_def]
 congr 1
 exact List.map_congr_left (fun a ha => arg_names (h2 a ha))
theorem saidS_w {s : S} (h : stmtOk s = true) : (saidS s).length ≤ wS s := by
 have h1 := varsS_w s
 unfold varsS at h1
 unfold saidS
 rw [said_eq h]
 simp only [List.length_append] at h1 ⊢
 omega
def badR (gl : List ByteArray) (q : Pr) (ps : List ByteArray) (s : S) : Bool := !(saidS s).all (fun v => knd gl q v != 0) || (s.kind == 4 && ((s.proc.toList == [109, 97, 105, 110]) || !ps.any (isT s.proc)))
theorem badR_eq {gl : List ByteArray} {q : Pr} {ps : List ByteArray} {s : S} (h : stmtOk s = true) : badR gl q ps s = badS gl q ps s := by
 obtain ⟨id, kind, labels, nm, proc, x, has, args, th, el⟩ := s
 have ha : args.flatMap saidV = args.flatMap argV := said_eq h
 unfold badR badS rightS saidS varsS
 simp only [S.x, S.kind, S.nm, S.args, S.proc, ha, List.all_append]
 generalize (namesE x).all _ = b1
 generalize (ownV kind nm).all _ = b2
 generalize (args.flatMap argV).all _ = b3
 generalize ps.any _ = b4
 generalize (proc.toList == [109, 97, 105, 110]) = b5
 rw [bne]
 generalize (kind == 4) = b6
 cases b1 <;> cases b2 <;> cases b3 <;> cases b4 <;> cases b5 <;> cases b6 <;> rfl
theorem fstB_congr {f g : S → Bool} : ∀ {L : List S}, (∀ s ∈ L, f s = g s) → fstB f L = fstB g L
 | [], _ => rfl
 | x :: L, h => by rw [fstB_cons, fstB_cons, h x (List.mem_cons_self ..), fstB_congr (fun s hs => h s (List.mem_cons_of_mem _ hs))]
theorem item_at {w W0 W : World} {Q Q0 : Nat → Prop} {l : List It} {A : Option Addr} {n cap : Nat} (h : SliceI W0 Q0 16 (ItemI w Q) l (.slice A n cap)) (hI : In Q0 W0 W) {k : Nat} (hk : k < l.length) :
 ∃ a id kind labels nm proc x has args th el L lc y0 y1 y2 X xn xc R rc T tc U uc dp inn els, A = some a ∧ Q0 a.block ∧ l[k].s = .mk id kind labels nm proc x has args th el ∧
 RowAt W (a.add (k * 16)) (.int .i64 id) [.int .i64 kind, .slice L labels.length lc, .string nm, .string proc, .int .i64 y0, .int .i64 y1, .string y2, .slice X xn xc, .bool has, .slice R args.length rc, .slice T th.length tc, .slice U el.length uc, .int .i64 dp, .int .i64 inn, .bool els] ∧ i64 id ∧ i64 kind ∧
 StmtI w Q (.mk id kind labels nm proc x has args th el) [.int .i64 id, .int .i64 kind, .slice L labels.length lc, .string nm, .string proc, .int .i64 y0, .int .i64 y1, .string y2, .slice X xn xc, .bool has, .slice R args.length rc, .slice T th.length tc, .slice U el.length uc] := by
 obtain ⟨a, cs, rfl, hq, ⟨c, rfl, hst⟩, hc⟩ := slice_at h hI hk
 obtain ⟨id, kind, labels, nm, proc, x, has, args, th, el, L, lc, y0, y1, y2, X, xn, xc, R, rc, T, tc, U, uc, hmk, rfl, h1, h2, _⟩ := stmt_open hst
 rw [hmk] at hst
 exact ⟨a, id, kind, labels, nm, proc, x, has, args, th, el, L, lc, y0, y1, y2, X, xn, xc, R, rc, T, tc, U, uc, _, _, _, rfl, hq, hmk, rowAt_elem hc, h1, h2, hst⟩
section
variable {P : Program} {md : Region.Mode} {ops : Array Oper} {Q : Exit → Act → World → Prop} {S : World → Prop}
theorem wpAnyH_step {i : Nat} {o : Oper} {fuel : Nat} {listed : Array Bool} {a : Act} {w : World} (hr : Region.ready md ops listed = [i]) (ho : ops[i]? = some o)
 (h : ∀ K' : Act → World → Prop, Shut (∀ a w, S w → wpAnyH P md ops Q S fuel (listed.setIfInBounds i true) a w → K' a w) → if Region.wanted o (yielded ops a.tmps) = true then Oper.wp P o a w K' Q else K' (a.put o.dst undef) w) : wpAnyH P md ops Q S (fuel + 1) listed a w :=
 wpAnyH_all hr (by simp) (fun j hj => by rw [List.mem_singleton.1 hj]; exact wpOp_step ho (fun K' hK => h K' (fun a w h1 h2 => hK a w ⟨h1, h2⟩)))
end
theorem fault_end {w : World} {f : Nat} {c i : Int} (h : Blk w f 34 #[.int .i64 0, .int .i64 0]) : Blk ((w.setCell ⟨f, 0, none⟩ (.int .i64 c)).setCell ⟨f, 1, none⟩ (.int .i64 i)) f 34 #[.int .i64 c, .int .i64 i] := by
 have h := (h.set_ 0 (.int .i64 c)).set_ 1 (.int .i64 i)
 simp only [List.setIfInBounds_toArray, List.set_cons_zero, List.set_cons_succ] at h
 exact h
end Go.Proofs.YtehpinnmalpgpaaGreat
namespace Go.Proofs.YtehpinnmalpgpaaGreat
open Go.ChangeShapes Go.WideShapes Go.ChangeAt Go.RowKit Go.Deep
set_option linter.unusedVariables false
set_option linter.unusedSimpArgs false
theorem dupL_false : ∀ (l p : List ByteArray), dupL p l = false → (∀ x ∈ l, x ∉ p) ∧ l.Nodup
 | [], p, _ => ⟨fun x hx => absurd hx (by simp), List.nodup_nil⟩
 | x :: l, p, h => by
  rw [dupL, Bool.or_eq_false_iff] at h
  obtain ⟨h1, h2⟩ := h
  obtain ⟨h3, h4⟩ := dupL_false l (p ++ [x]) h2
  have hx : x ∉ p := fun hp => by
   rw [List.any_eq_false] at h1
   exact h1 x hp (by simp [isT])
  refine ⟨fun y hy => ?_, List.nodup_cons.2 ⟨fun hy => h3 x hy (by simp), h4⟩⟩
  rcases List.mem_cons.1 hy with rfl | hy
  ·exact hx
  ·exact fun hp => h3 y hy (by simp [hp])
theorem dup_nodup {l : List ByteArray} (h : dup l = false) : l.Nodup := (dupL_false l [] h).2
theorem dupL_true : ∀ (l p : List ByteArray), p.Nodup → dupL p l = true → ¬ (p ++ l).Nodup
 | [], p, _, h => by rw [dupL] at h; cases h
 | x :: l, p, hp, h => by
  rw [dupL, Bool.or_eq_true] at h
  intro hn
  rcases h with h | h
  ·rw [List.any_eq_true] at h
   obtain ⟨y, hy, hxy⟩ := h
   have : x = y := by simpa [isT] using hxy
   subst this
   exact (List.nodup_append.1 hn).2.2 x hy x (by simp) rfl
  ·have h2 : p ++ x :: l = (p ++ [x]) ++ l := by simp
   rw [h2] at hn
   exact dupL_true l (p ++ [x]) (List.nodup_append.1 hn).1 h hn
theorem dup_of {l : List ByteArray} (h : l.Nodup) : dup l = false := by
 cases hd : dup l with
 | false => rfl
 | true => exact absurd h (by simpa using dupL_true l [] List.nodup_nil hd)
theorem find_own : ∀ (l : List Pr), (l.map Pr.nm).Nodup → ∀ q ∈ l, l.find? (isQ q.nm) = some q
 | [], _, q, hq => by cases hq
 | x :: l, h, q, hq => by
  rw [List.map_cons, List.nodup_cons] at h
  rw [List.find?_cons]
  rcases List.mem_cons.1 hq with rfl | hq
  ·rw [show isQ q.nm q = true by simp [isQ]]
  ·have hne : isQ q.nm x = false := by
    unfold isQ
    exact decide_eq_false (fun e => h.1 (by rw [e]; exact List.mem_map_of_mem hq))
   rw [hne]
   exact find_own l h.2 q hq
theorem chkL_ok {gl ps : List ByteArray} : ∀ (l : List Pr), (∀ q ∈ l, ∀ s ∈ preSL q.body, s.id ≠ 0) → (chkL gl ps l).1 = 0 → ∀ q ∈ l, dup (namesP gl q) = false ∧ ∀ s ∈ preSL q.body, badS gl q ps s = false
 | [], _, _, q, hq => by cases hq
 | x :: l, hz, h, q, hq => by
  rw [chkL] at h
  split at h
  ·cases h
  ·rename_i hd
   split at h
   ·rename_i hf
    rcases List.mem_cons.1 hq with rfl | hq
    ·refine ⟨by simpa using hd, fun s hs => ?_⟩
     cases hb : badS gl q ps s with
     | false => rfl
     | true =>
      unfold fstB at hf
      cases hfd : (preSL q.body).find? (badS gl q ps) with
      | none =>
       have := List.find?_eq_none.1 hfd s hs
       rw [hb] at this; exact absurd rfl this
      | some y =>
       rw [hfd, Option.elim_some] at hf
       exact absurd hf (hz q (List.mem_cons_self ..) y (List.mem_of_find?_eq_some hfd))
    ·exact chkL_ok l (fun q hq => hz q (List.mem_cons_of_mem _ hq)) h q hq
   ·cases h
structure ChOk (p : Pg) : Prop where
 may : mayP p = true
 main : mainBad p = false
 glob : p.globals.Nodup
 procs : (p.procs.map Pr.nm).Nodup
 names : ∀ q ∈ p.procs, (namesP p.globals q).Nodup
 stm : ∀ q ∈ p.procs, ∀ s ∈ preSL q.body, badS p.globals q (p.procs.map Pr.nm) s = false
theorem chk_ok {p : Pg} (h : (chkP p).1 = 0) : ChOk p := by
 unfold chkP at h
 split at h
 ·rename_i hm
  split at h
  ·cases h
  ·rename_i hh
   unfold hdBad at hh
   simp only [Bool.or_eq_true, not_or, Bool.not_eq_true] at hh
   have h1 := chkL_ok p.procs (fun q hq s hs => by have := may_ids hm q hq s hs; omega) h
   exact ⟨hm, hh.1.1, dup_nodup hh.1.2, dup_nodup hh.2, fun q hq => dup_nodup (h1 q hq).1, fun q hq => (h1 q hq).2⟩
 ·cases h
theorem ChOk.chk {p : Pg} (h : ChOk p) : chkP p = (0, 0) := by
 unfold chkP
 rw [if_pos h.may]
 have hh : hdBad p = false := by unfold hdBad; rw [h.main, dup_of h.glob, dup_of h.procs]; rfl
 rw [if_neg (by rw [hh]; simp)]
 have : ∀ (l : List Pr), (∀ q ∈ l, q ∈ p.procs) → chkL p.globals (p.procs.map Pr.nm) l = (0, 0) := by
  intro l
  induction l with
  | nil => intro _; rfl
  | cons x l ih =>
   intro hl
   rw [chkL, if_neg (by rw [dup_of (h.names x (hl x (List.mem_cons_self ..)))]; simp)]
   have hf : fstB (badS p.globals x (p.procs.map Pr.nm)) (preSL x.body) = 0 := by
    unfold fstB
    rw [List.find?_eq_none.2 (fun s hs => by rw [h.stm x (hl x (List.mem_cons_self ..)) s hs]; simp)]
    rfl
   rw [if_pos hf]
   exact ih (fun q hq => hl q (List.mem_cons_of_mem _ hq))
 exact this p.procs (fun _ h => h)
end Go.Proofs.YtehpinnmalpgpaaGreat
namespace Go.Proofs.YtehpinnmalpgpaaGreat
open Go.ChangeShapes Go.WideShapes Go.ChangeAt Go.RowKit Go.Deep
set_option linter.unusedVariables false
set_option linter.unusedSimpArgs false
theorem Mod_fix (n : Int) (k : Nat) (h1 : 1 ≤ k) (h2 : k ≤ 1000000) : ∃ m, m < k ∧ ∀ w : World, Calls Tryz.prog 35 #[.int .i64 n, .int .i64 k] w fun e w' => e = .returned (.int .i64 m) ∧ w = w' := by
 have hb : n.tmod k < k := Int.tmod_lt_of_pos n (by omega)
 have hb2 : -(k : Int) < n.tmod k := by
  have := Int.tmod_lt_of_pos (-n) (show (0 : Int) < k by omega)
  rw [Int.neg_tmod] at this
  omega
 by_cases hn : n.tmod k < 0
 ·refine ⟨(n.tmod k + k).toNat, by omega, fun w => ?_⟩
  go_enter Tryz.func35, Tryz.ntmps35
  go_wp2
  go_ret
  exact ⟨ret_int (by omega), rfl⟩
 ·refine ⟨(n.tmod k).toNat, by omega, fun w => ?_⟩
  go_enter Tryz.func35, Tryz.ntmps35
  go_wp2
  go_ret
  exact ⟨ret_int (by omega), rfl⟩
end Go.Proofs.YtehpinnmalpgpaaGreat
namespace Go.Proofs.YtehpinnmalpgpaaGreat
open Go.ChangeShapes Go.WideShapes Go.ChangeAt Go.RowKit Go.Deep
set_option linter.unusedVariables false
set_option linter.unusedSimpArgs false
theorem results_ctt {P : Program} {fn : Func} {p t u : Tmp} {ty : TypeId} (h : fn.results = #[.cell p ty, .tmp t, .tmp u]) (tmps : Array Value) (w : World) (g : Nat) (tt : TypeId) (cs : Array Value) (fr : Nat × Nat) (d : TypeDesc)
 (hp : tmps.getD p undef = .pointer (some ⟨g, 0, none⟩)) (hg : w.heap[g]? = some (.cells cs tt fr))
 (hu : P.underlying ty = some d) (hd : (match d with | .struct _ | .array _ _ => true | _ => false) = true) (hi : (P.info? ty).map (·.size) = some cs.size) :
 (results fn tmps).run P w = .ok (.tuple #[.agg cs, tmps.getD t undef, tmps.getD u undef]) w := by
 have hp' : tmps[p]?.getD undef = .pointer (some ⟨g, 0, none⟩) := by simpa using hp
 simp [results, h, hp', asAddr, run_loadVar_row w g tt ty cs fr d hg hu hd hi]
abbrev zI : Array Value := #[.int .i64 0, .int .i64 0, .slice none 0 0, .string ⟨#[]⟩, .string ⟨#[]⟩, .int .i64 0, .int .i64 0, .string ⟨#[]⟩, .slice none 0 0, .bool false, .slice none 0 0, .slice none 0 0, .slice none 0 0, .int .i64 0, .int .i64 0, .bool false]
theorem blk16 {w : World} {f : Nat} {d0 d1 d2 d3 d4 d5 d6 d7 d8 d9 d10 d11 d12 d13 d14 d15 : Value} (h : Blk w f 55 zI) : Blk (World.setCell (World.setCell (World.setCell (World.setCell (World.setCell (World.setCell (World.setCell (World.setCell (World.setCell (World.setCell (World.setCell (World.setCell (World.setCell (World.setCell (World.setCell (World.setCell w ⟨f, 0, none⟩ d0) ⟨f, 1, none⟩ d1) ⟨f, 2, none⟩ d2) ⟨f, 3, none⟩ d3) ⟨f, 4, none⟩ d4) ⟨f, 5, none⟩ d5) ⟨f, 6, none⟩ d6) ⟨f, 7, none⟩ d7) ⟨f, 8, none⟩ d8) ⟨f, 9, none⟩ d9) ⟨f, 10, none⟩ d10) ⟨f, 11, none⟩ d11) ⟨f, 12, none⟩ d12) ⟨f, 13, none⟩ d13) ⟨f, 14, none⟩ d14) ⟨f, 15, none⟩ d15) f 55 #[d0, d1, d2, d3, d4, d5, d6, d7, d8, d9, d10, d11, d12, d13, d14, d15] := by
 have := ((((((((((((((((h.set_ 0 d0).set_ 1 d1).set_ 2 d2).set_ 3 d3).set_ 4 d4).set_ 5 d5).set_ 6 d6).set_ 7 d7).set_ 8 d8).set_ 9 d9).set_ 10 d10).set_ 11 d11).set_ 12 d12).set_ 13 d13).set_ 14 d14).set_ 15 d15)
 simp only [List.setIfInBounds_toArray, List.set_cons_zero, List.set_cons_succ] at this
 exact this
theorem blk_drew {w : World} {g : Nat} {ty : TypeId} {cs : Array Value} (h : Blk w g ty cs) : Blk w.drew g ty cs := h
theorem below16 {B : Nat} {a w : World} {f : Nat} {d0 d1 d2 d3 d4 d5 d6 d7 d8 d9 d10 d11 d12 d13 d14 d15 : Value} (h : Below B a w) (hf : B ≤ f) : Below B a (World.setCell (World.setCell (World.setCell (World.setCell (World.setCell (World.setCell (World.setCell (World.setCell (World.setCell (World.setCell (World.setCell (World.setCell (World.setCell (World.setCell (World.setCell (World.setCell w ⟨f, 0, none⟩ d0) ⟨f, 1, none⟩ d1) ⟨f, 2, none⟩ d2) ⟨f, 3, none⟩ d3) ⟨f, 4, none⟩ d4) ⟨f, 5, none⟩ d5) ⟨f, 6, none⟩ d6) ⟨f, 7, none⟩ d7) ⟨f, 8, none⟩ d8) ⟨f, 9, none⟩ d9) ⟨f, 10, none⟩ d10) ⟨f, 11, none⟩ d11) ⟨f, 12, none⟩ d12) ⟨f, 13, none⟩ d13) ⟨f, 14, none⟩ d14) ⟨f, 15, none⟩ d15) := by
 iterate 16 (refine below_setc ?_ hf _)
 exact h
theorem item_at2 {w W0 W : World} {Q Q0 : Nat → Prop} {l : List It} {A : Option Addr} {n cap : Nat} (h : SliceI W0 Q0 16 (ItemI w Q) l (.slice A n cap)) (hI : In Q0 W0 W) {k : Nat} (hk : k < l.length) :
 ∃ a id kind labels nm proc x has args th el L lc y0 y1 y2 X xn xc R rc T tc U uc dp inn els, A = some a ∧ Q0 a.block ∧ l[k].s = .mk id kind labels nm proc x has args th el ∧
 RowAt W (a.add (k * 16)) (.int .i64 id) [.int .i64 kind, .slice L labels.length lc, .string nm, .string proc, .int .i64 y0, .int .i64 y1, .string y2, .slice X xn xc, .bool has, .slice R args.length rc, .slice T th.length tc, .slice U el.length uc, .int .i64 dp, .int .i64 inn, .bool els] ∧ i64 id ∧ i64 kind ∧
 StmtI w Q (.mk id kind labels nm proc x has args th el) [.int .i64 id, .int .i64 kind, .slice L labels.length lc, .string nm, .string proc, .int .i64 y0, .int .i64 y1, .string y2, .slice X xn xc, .bool has, .slice R args.length rc, .slice T th.length tc, .slice U el.length uc] ∧ l[k].deep = dp ∧ l[k].inn = inn ∧ l[k].els = els := by
 obtain ⟨a, cs, rfl, hq, ⟨c, rfl, hst⟩, hc⟩ := slice_at h hI hk
 obtain ⟨id, kind, labels, nm, proc, x, has, args, th, el, L, lc, y0, y1, y2, X, xn, xc, R, rc, T, tc, U, uc, hmk, rfl, h1, h2, _⟩ := stmt_open hst
 rw [hmk] at hst
 exact ⟨a, id, kind, labels, nm, proc, x, has, args, th, el, L, lc, y0, y1, y2, X, xn, xc, R, rc, T, tc, U, uc, _, _, _, rfl, hq, hmk, rowAt_elem hc, h1, h2, hst, rfl, rfl, rfl⟩
def It0 : It := ⟨S0, 0, 0, false⟩
theorem zero_item (w : World) (Q : Nat → Prop) : ItemI w Q It0 zI.toList := by
 refine ⟨[.int .i64 0, .int .i64 0, .slice none 0 0, .string ⟨#[]⟩, .string ⟨#[]⟩, .int .i64 0, .int .i64 0, .string ⟨#[]⟩, .slice none 0 0, .bool false, .slice none 0 0, .slice none 0 0, .slice none 0 0], rfl, ?_⟩
 exact .mk (css1 := fun _ => []) (css2 := fun _ => []) (by simp [i64]) (by simp [i64]) (by decide) (by decide) nil_slice (.mk (css := fun _ => []) (by simp [i64]) (by simp [i64]) (by decide) (by simp) (by simp) (by simp)) nil_slice (by simp) (by simp) (by simp) (by simp) (by simp) (by simp)
def rfL : List Pr → Int → Option (It × ByteArray)
 | [], _ => none
 | q :: l, id => ((flatOf q).find? (fun x => x.s.id == id)).elim (rfL l id) (fun x => some (x, q.nm))
theorem rfL_drop {l : List Pr} {k : Nat} (h : k < l.length) (id : Int) : rfL (l.drop k) id = ((flatOf l[k]).find? (fun x => x.s.id == id)).elim (rfL (l.drop (k + 1)) id) (fun x => some (x, l[k].nm)) := by rw [List.drop_eq_getElem_cons h, rfL]
def FdRes (w : World) (Q : Nat → Prop) (r : Option (It × ByteArray)) (W : World) (e : Ending) (w' : World) : Prop := ∃ cs, e = .returned (.tuple #[.agg cs, .string (r.elim ⟨#[]⟩ Prod.snd), .bool r.isSome]) ∧ ItemI w Q (r.elim It0 Prod.fst) cs.toList ∧ Below W.heap.size W w'
set_option maxHeartbeats 2000000 in
set_option maxRecDepth 100000 in
theorem rFind_any {w : World} {Q : Nat → Prop} {p : Pg} {c0 c1 : Value} (h : ProgI w Q p [c0, c1]) (id0 : Int) (W : World) (hI : In Q w W) :
 Calls Tryz.prog 43 #[.agg #[c0, c1], .int .i64 id0] W (FdRes w Q (rfL p.procs id0) W) := by
 obtain ⟨Ag, cg, Ap, cp, rfl, rfl, _, _, _, _, hgl, hpr⟩ := prog_open h
 have HP := Lib.hid hpr
 have HI := Lib.hid hI
 clear h hI hgl hpr
 go_enter Tryz.func43, Tryz.ntmps43
 go_upto_region 1 with fail
 have HB0 : Hid (Below W.heap.size W ((W.alloc (.cells #[.slice Ag p.globals.length cg, .slice Ap p.procs.length cp] 25)).alloc (.cells zI 55))) := Lib.hid (below_two _ _)
 have HBp : Hid (Blk ((W.alloc (.cells #[.slice Ag p.globals.length cg, .slice Ap p.procs.length cp] 25)).alloc (.cells zI 55)) W.heap.size 25 #[.slice Ag p.globals.length cg, .slice Ap p.procs.length cp]) := Lib.hid ((Blk.new _ _ _).alloc _)
 have HBf : Hid (Blk ((W.alloc (.cells #[.slice Ag p.globals.length cg, .slice Ap p.procs.length cp] 25)).alloc (.cells zI 55)) (W.heap.size + 1) 55 zI) := Lib.hid (by have := Blk.new (W.alloc (.cells #[.slice Ag p.globals.length cg, .slice Ap p.procs.length cp] 25)) 55 zI; rw [World.size_alloc] at this; exact this)
 generalize World.alloc _ _ = V at HB0 HBp HBf ⊢
 have HI0 := Lib.hid (HI.out.on HB0.out)
 have hwb : W.heap.size ≤ W.heap.size + 1 := by omega
 generalize hbe : W.heap.size = b at HBp HBf hwb ⊢
 generalize hfe : b + 1 = f at HBf hwb ⊢
 have hWf : W.heap.size ≤ f := by omega
 clear hbe hfe
 have q0 : V.cell? ⟨b, 0, none⟩ = some (.slice Ag p.globals.length cg) := by rw [HBp.out.cell]; rfl
 have q1 : V.cell? ⟨b, 1, none⟩ = some (.slice Ap p.procs.length cp) := by rw [HBp.out.cell]; rfl
 have hfl := HBf.out.lt
 go_upto_region 2 with fail
 clear q0 q1
 go_loopg [14] p.procs.length (fun kk iv wr => ∃ (k : Nat), k + kk = p.procs.length ∧ iv = .int .i64 k ∧ Hid (Below V.heap.size V wr) ∧ Hid (rfL (p.procs.drop k) id0 = rfL p.procs id0))
 case atStart => exact ⟨0, by omega, rfl, Lib.hid (Below.refl _ _), Lib.hid rfl⟩
 case round =>
  obtain ⟨k, hk, rfl, HBr, HA⟩ := hrel
  generalize wr = wo at *
  have HIr := Lib.hid (HI0.out.on HBr.out)
  by_cases hlt : k < p.procs.length
  ·obtain ⟨a, Bp, kp, Bv, kv, Bb, kb, Be, ke, rfl, hqa, hrow, hnm, hpp, hvv, hbody, hee⟩ := proc_at HP.out HIr.out hlt
   have HPI : Hid (ProcI w Q p.procs[k] [.string p.procs[k].nm, .slice Bp p.procs[k].params.length kp, .slice Bv p.procs[k].vars.length kv, .slice Bb p.procs[k].body.length kb, .slice Be p.procs[k].end_.length ke]) := Lib.hid ⟨_, _, _, _, rfl, hnm, hpp, hvv, hbody, hee⟩
   have HFl := Lib.hid (fun V hV => Flat_any (W := V) HPI.out hV hV.1)
   have HAk := Lib.hid (rfL_drop hlt id0)
   rw [HA.out] at HAk
   clear HPI hnm hpp hvv hbody hee hqa HA
   generalize flatOf p.procs[k] = its at HFl HAk
   generalize p.procs[k].nm = x0 at hrow HFl HAk
   generalize p.procs[k].params.length = x1 at hrow HFl
   generalize p.procs[k].vars.length = x2 at hrow HFl
   generalize p.procs[k].body.length = x3 at hrow HFl
   generalize p.procs[k].end_.length = x4 at hrow HFl
   obtain ⟨p0, p1, p2, p3, p4, _⟩ := hrow
   go_upto_region 4 with fail
   have HBx : Hid (Blk (wo.alloc (.cells #[.string x0, .slice Bp x1 kp, .slice Bv x2 kv, .slice Bb x3 kb, .slice Be x4 ke] 43)) wo.heap.size 43 #[.string x0, .slice Bp x1 kp, .slice Bv x2 kv, .slice Bb x3 kb, .slice Be x4 ke]) := Lib.hid (Blk.new _ _ _)
   have HB4 : Hid (Below V.heap.size V (wo.alloc (.cells #[.string x0, .slice Bp x1 kp, .slice Bv x2 kv, .slice Bb x3 kb, .slice Be x4 ke] 43))) := Lib.hid (below_stepA HBr.out _)
   have HI4 : Hid (In Q w (wo.alloc (.cells #[.string x0, .slice Bp x1 kp, .slice Bv x2 kv, .slice Bb x3 kb, .slice Be x4 ke] 43))) := Lib.hid (HIr.out.alloc _)
   have HBo : Hid (f < wo.heap.size) := Lib.hid (Nat.lt_of_lt_of_le hfl HBr.out.size)
   clear p0 p1 p2 p3 p4 HIr HBr
   generalize World.alloc wo _ = V4 at HBx HB4 HI4 ⊢
   have hxf : wo.heap.size ≠ f := by have := HBo.out; omega
   have hfx : f ≠ wo.heap.size := fun e => hxf e.symm
   generalize wo.heap.size = bx at HBx hxf hfx ⊢
   clear HBo
   have hxl := HBx.out.lt
   have z0 : V4.cell? ⟨bx, 0, none⟩ = some (.string x0) := by rw [HBx.out.cell]; rfl
   have z1 : V4.cell? ⟨bx, 1, none⟩ = some (.slice Bp x1 kp) := by rw [HBx.out.cell]; rfl
   have z2 : V4.cell? ⟨bx, 2, none⟩ = some (.slice Bv x2 kv) := by rw [HBx.out.cell]; rfl
   have z3 : V4.cell? ⟨bx, 3, none⟩ = some (.slice Bb x3 kb) := by rw [HBx.out.cell]; rfl
   have z4 : V4.cell? ⟨bx, 4, none⟩ = some (.slice Be x4 ke) := by rw [HBx.out.cell]; rfl
   go_upto_region 5 with (go_at_call 27; refine (HFl.out V4 HI4.out).mono ?_; rintro e' W9 ⟨v9, rows9, rfl, ho9, ha9, hb9⟩; obtain ⟨X9, cx9, rfl, hx9, hx9'⟩ := own_shape ho9)
   have HSl := Lib.hid (slice_of_own ho9 ha9 (fun x cs h => by obtain ⟨c, rfl, hc⟩ := h; obtain ⟨_, _, _, _, _, _, _, _, _, _, _, _, _, _, _, _, _, _, _, _, _, _, _, _, _, rfl, _⟩ := stmt_open hc; rfl))
   have HB9 := Lib.hid (below_step HB4.out hb9)
   have HI9 := Lib.hid (HI4.out.on hb9)
   have HBx9 := Lib.hid (HBx.out.below hb9 hxl)
   clear ho9 ha9 hb9 z0 z1 z2 z3 z4 hxl HI4 HB4 HBx HFl
   have hxl := HBx9.out.lt
   go_loopg [21] its.length (fun kk iv wr => ∃ (j : Nat), j + kk = its.length ∧ iv = .int .i64 j ∧ Hid (Below W9.heap.size W9 wr) ∧ Hid ((its.drop j).find? (fun x => x.s.id == id0) = its.find? (fun x => x.s.id == id0)))
   case atStart => exact ⟨0, by omega, rfl, Lib.hid (Below.refl _ _), Lib.hid rfl⟩
   case round =>
    obtain ⟨j, hj, rfl, HR2, HF2⟩ := hrel
    by_cases hlt2 : j < its.length
    ·obtain ⟨a2, id, kind, labels, nm, proc, x, has, args, th, el, L, lc, y0, y1, y2, X, xn, xc, R, rc, T, tc, U, uc, dp, inn, els, rfl, hq2, hmk, hrow2, hid, hkind, hst, hdp, hinn, hels⟩ := item_at2 HSl.out (W := wr) ⟨fun b h => Nat.lt_of_lt_of_le h.2 HR2.out.size, fun p hp => HR2.out.cell hp.2⟩ hlt2
     have HF3 : Hid (its.find? (fun x => x.s.id == id0) = if (id == id0) = true then some its[j] else (its.drop (j + 1)).find? (fun x => x.s.id == id0)) := Lib.hid (by
      rw [← HF2.out, List.drop_eq_getElem_cons hlt2, List.find?_cons]
      have he : its[j].s.id = id := by rw [hmk]; rfl
      rw [he]
      cases id == id0 <;> rfl)
     obtain ⟨d, hd⟩ : ∃ d, d = (id == id0) := ⟨_, rfl⟩
     have HF4 : Hid (its.find? (fun x => x.s.id == id0) = if d = true then some its[j] else (its.drop (j + 1)).find? (fun x => x.s.id == id0)) := Lib.hid (by rw [hd]; exact HF3.out)
     have HIt : Hid (ItemI w Q its[j] [.int .i64 id, .int .i64 kind, .slice L labels.length lc, .string nm, .string proc, .int .i64 y0, .int .i64 y1, .string y2, .slice X xn xc, .bool has, .slice R args.length rc, .slice T th.length tc, .slice U el.length uc, .int .i64 dp, .int .i64 inn, .bool els]) := Lib.hid (by
      refine ⟨[.int .i64 id, .int .i64 kind, .slice L labels.length lc, .string nm, .string proc, .int .i64 y0, .int .i64 y1, .string y2, .slice X xn xc, .bool has, .slice R args.length rc, .slice T th.length tc, .slice U el.length uc], ?_, by rw [hmk]; exact hst⟩
      rw [← hdp, ← hinn, ← hels]
      rfl)
     have hkb := hid
     unfold i64 at hkb
     obtain ⟨p0, p1, p2, p3, p4, p5, p6, p7, p8, p9, p10, p11, p12, p13, p14, p15, _⟩ := hrow2
     generalize its[j] = xi at HF4 HIt
     have Hd := Lib.hid hd
     clear hd HF3 hmk hst hid hkind hq2 HF2 hdp hinn hels
     go_upto_region 7 with fail
     have HBi : Hid (Blk (wr.alloc (.cells #[.int .i64 id, .int .i64 kind, .slice L labels.length lc, .string nm, .string proc, .int .i64 y0, .int .i64 y1, .string y2, .slice X xn xc, .bool has, .slice R args.length rc, .slice T th.length tc, .slice U el.length uc, .int .i64 dp, .int .i64 inn, .bool els] 55)) wr.heap.size 55 #[.int .i64 id, .int .i64 kind, .slice L labels.length lc, .string nm, .string proc, .int .i64 y0, .int .i64 y1, .string y2, .slice X xn xc, .bool has, .slice R args.length rc, .slice T th.length tc, .slice U el.length uc, .int .i64 dp, .int .i64 inn, .bool els]) := Lib.hid (Blk.new _ _ _)
     have HB10 : Hid (Below W9.heap.size W9 (wr.alloc (.cells #[.int .i64 id, .int .i64 kind, .slice L labels.length lc, .string nm, .string proc, .int .i64 y0, .int .i64 y1, .string y2, .slice X xn xc, .bool has, .slice R args.length rc, .slice T th.length tc, .slice U el.length uc, .int .i64 dp, .int .i64 inn, .bool els] 55))) := Lib.hid (below_stepA HR2.out _)
     have hbi : f ≠ wr.heap.size := by have := HR2.out.size; have := HB9.out.size; omega
     have hib : wr.heap.size ≠ f := fun e => hbi e.symm
     clear p0 p1 p2 p3 p4 p5 p6 p7 p8 p9 p10 p11 p12 p13 p14 p15 HR2
     generalize World.alloc wr _ = V10 at HBi HB10 ⊢
     generalize wr.heap.size = bi at HBi hbi hib ⊢
     have s0 : V10.cell? ⟨bi, 0, none⟩ = some (.int .i64 id) := by rw [HBi.out.cell]; rfl
     cases d with
     | false =>
      have hdf : (id == id0) = false := Hd.out.symm
      have HF5 : Hid (its.find? (fun x => x.s.id == id0) = (its.drop (j + 1)).find? (fun x => x.s.id == id0)) := Lib.hid HF4.out
      clear HF4
      go_wp2_with fail
      go_roundg (its.length - j - 1)
      case measure => omega
      case rel => exact ⟨j + 1, by omega, by go_num, HB10, Lib.hid HF5.out.symm⟩
     | true =>
      have hdt : (id == id0) = true := Hd.out.symm
      have HAn : Hid (rfL p.procs id0 = some (xi, x0)) := Lib.hid (by rw [HAk.out, HF4.out]; rfl)
      clear HF4 HAk
      have HB11 := Lib.hid (below_step HB9.out HB10.out)
      have HBf11 := Lib.hid (HBf.out.below HB11.out hfl)
      have HBx11 := Lib.hid (HBx9.out.below HB10.out hxl)
      have HBW11 := Lib.hid (below_step HB0.out HB11.out)
      go_upto_region 8 with fail
      clear s0
      have s0 : V10.cell? ⟨bi, 0, none⟩ = some (.int .i64 id) := by rw [HBi.out.cell]; rfl
      have s1 : V10.cell? ⟨bi, 1, none⟩ = some (.int .i64 kind) := by rw [HBi.out.cell]; rfl
      have s2 : V10.cell? ⟨bi, 2, none⟩ = some (.slice L labels.length lc) := by rw [HBi.out.cell]; rfl
      have s3 : V10.cell? ⟨bi, 3, none⟩ = some (.string nm) := by rw [HBi.out.cell]; rfl
      have s4 : V10.cell? ⟨bi, 4, none⟩ = some (.string proc) := by rw [HBi.out.cell]; rfl
      have s5 : V10.cell? ⟨bi, 5, none⟩ = some (.int .i64 y0) := by rw [HBi.out.cell]; rfl
      have s6 : V10.cell? ⟨bi, 6, none⟩ = some (.int .i64 y1) := by rw [HBi.out.cell]; rfl
      have s7 : V10.cell? ⟨bi, 7, none⟩ = some (.string y2) := by rw [HBi.out.cell]; rfl
      have s8 : V10.cell? ⟨bi, 8, none⟩ = some (.slice X xn xc) := by rw [HBi.out.cell]; rfl
      have s9 : V10.cell? ⟨bi, 9, none⟩ = some (.bool has) := by rw [HBi.out.cell]; rfl
      have s10 : V10.cell? ⟨bi, 10, none⟩ = some (.slice R args.length rc) := by rw [HBi.out.cell]; rfl
      have s11 : V10.cell? ⟨bi, 11, none⟩ = some (.slice T th.length tc) := by rw [HBi.out.cell]; rfl
      have s12 : V10.cell? ⟨bi, 12, none⟩ = some (.slice U el.length uc) := by rw [HBi.out.cell]; rfl
      have s13 : V10.cell? ⟨bi, 13, none⟩ = some (.int .i64 dp) := by rw [HBi.out.cell]; rfl
      have s14 : V10.cell? ⟨bi, 14, none⟩ = some (.int .i64 inn) := by rw [HBi.out.cell]; rfl
      have s15 : V10.cell? ⟨bi, 15, none⟩ = some (.bool els) := by rw [HBi.out.cell]; rfl
      have z0 : V10.cell? ⟨bx, 0, none⟩ = some (.string x0) := by rw [HBx11.out.cell]; rfl
      have f0_ := HBf11.out.frozen 0
      have y0_ : V10.cell? ⟨f, 0, none⟩ = some (.int .i64 0) := by rw [HBf11.out.cell]; rfl
      have f1_ := HBf11.out.frozen 1
      have y1_ : V10.cell? ⟨f, 1, none⟩ = some (.int .i64 0) := by rw [HBf11.out.cell]; rfl
      have f2_ := HBf11.out.frozen 2
      have y2_ : V10.cell? ⟨f, 2, none⟩ = some (.slice none 0 0) := by rw [HBf11.out.cell]; rfl
      have f3_ := HBf11.out.frozen 3
      have y3_ : V10.cell? ⟨f, 3, none⟩ = some (.string ⟨#[]⟩) := by rw [HBf11.out.cell]; rfl
      have f4_ := HBf11.out.frozen 4
      have y4_ : V10.cell? ⟨f, 4, none⟩ = some (.string ⟨#[]⟩) := by rw [HBf11.out.cell]; rfl
      have f5_ := HBf11.out.frozen 5
      have y5_ : V10.cell? ⟨f, 5, none⟩ = some (.int .i64 0) := by rw [HBf11.out.cell]; rfl
      have f6_ := HBf11.out.frozen 6
      have y6_ : V10.cell? ⟨f, 6, none⟩ = some (.int .i64 0) := by rw [HBf11.out.cell]; rfl
      have f7_ := HBf11.out.frozen 7
      have y7_ : V10.cell? ⟨f, 7, none⟩ = some (.string ⟨#[]⟩) := by rw [HBf11.out.cell]; rfl
      have f8_ := HBf11.out.frozen 8
      have y8_ : V10.cell? ⟨f, 8, none⟩ = some (.slice none 0 0) := by rw [HBf11.out.cell]; rfl
      have f9_ := HBf11.out.frozen 9
      have y9_ : V10.cell? ⟨f, 9, none⟩ = some (.bool false) := by rw [HBf11.out.cell]; rfl
      have f10_ := HBf11.out.frozen 10
      have y10_ : V10.cell? ⟨f, 10, none⟩ = some (.slice none 0 0) := by rw [HBf11.out.cell]; rfl
      have f11_ := HBf11.out.frozen 11
      have y11_ : V10.cell? ⟨f, 11, none⟩ = some (.slice none 0 0) := by rw [HBf11.out.cell]; rfl
      have f12_ := HBf11.out.frozen 12
      have y12_ : V10.cell? ⟨f, 12, none⟩ = some (.slice none 0 0) := by rw [HBf11.out.cell]; rfl
      have f13_ := HBf11.out.frozen 13
      have y13_ : V10.cell? ⟨f, 13, none⟩ = some (.int .i64 0) := by rw [HBf11.out.cell]; rfl
      have f14_ := HBf11.out.frozen 14
      have y14_ : V10.cell? ⟨f, 14, none⟩ = some (.int .i64 0) := by rw [HBf11.out.cell]; rfl
      have f15_ := HBf11.out.frozen 15
      have y15_ : V10.cell? ⟨f, 15, none⟩ = some (.bool false) := by rw [HBf11.out.cell]; rfl
      have HBl : Hid (Blk (World.drew (World.setCell (World.setCell (World.setCell (World.setCell (World.setCell (World.setCell (World.setCell (World.setCell (World.setCell (World.setCell (World.setCell (World.setCell (World.setCell (World.setCell (World.setCell (World.setCell V10 ⟨f, 0, none⟩ (.int .i64 id)) ⟨f, 1, none⟩ (.int .i64 kind)) ⟨f, 2, none⟩ (.slice L labels.length lc)) ⟨f, 3, none⟩ (.string nm)) ⟨f, 4, none⟩ (.string proc)) ⟨f, 5, none⟩ (.int .i64 y0)) ⟨f, 6, none⟩ (.int .i64 y1)) ⟨f, 7, none⟩ (.string y2)) ⟨f, 8, none⟩ (.slice X xn xc)) ⟨f, 9, none⟩ (.bool has)) ⟨f, 10, none⟩ (.slice R args.length rc)) ⟨f, 11, none⟩ (.slice T th.length tc)) ⟨f, 12, none⟩ (.slice U el.length uc)) ⟨f, 13, none⟩ (.int .i64 dp)) ⟨f, 14, none⟩ (.int .i64 inn)) ⟨f, 15, none⟩ (.bool els))) f 55 #[.int .i64 id, .int .i64 kind, .slice L labels.length lc, .string nm, .string proc, .int .i64 y0, .int .i64 y1, .string y2, .slice X xn xc, .bool has, .slice R args.length rc, .slice T th.length tc, .slice U el.length uc, .int .i64 dp, .int .i64 inn, .bool els]) := Lib.hid (blk_drew (blk16 HBf11.out))
      have HBe : Hid (Below W.heap.size W (World.drew (World.setCell (World.setCell (World.setCell (World.setCell (World.setCell (World.setCell (World.setCell (World.setCell (World.setCell (World.setCell (World.setCell (World.setCell (World.setCell (World.setCell (World.setCell (World.setCell V10 ⟨f, 0, none⟩ (.int .i64 id)) ⟨f, 1, none⟩ (.int .i64 kind)) ⟨f, 2, none⟩ (.slice L labels.length lc)) ⟨f, 3, none⟩ (.string nm)) ⟨f, 4, none⟩ (.string proc)) ⟨f, 5, none⟩ (.int .i64 y0)) ⟨f, 6, none⟩ (.int .i64 y1)) ⟨f, 7, none⟩ (.string y2)) ⟨f, 8, none⟩ (.slice X xn xc)) ⟨f, 9, none⟩ (.bool has)) ⟨f, 10, none⟩ (.slice R args.length rc)) ⟨f, 11, none⟩ (.slice T th.length tc)) ⟨f, 12, none⟩ (.slice U el.length uc)) ⟨f, 13, none⟩ (.int .i64 dp)) ⟨f, 14, none⟩ (.int .i64 inn)) ⟨f, 15, none⟩ (.bool els)))) := Lib.hid (below16 HBW11.out hWf).drew
      go_region
      generalize World.drew _ = VF at HBl HBe ⊢
      clear s0 s1 s2 s3 s4 s5 s6 s7 s8 s9 s10 s11 s12 s13 s14 s15 z0
      go_wp2_with fail
      (try simp only [Exit.inBlock, Exit.then])
      refine bodyPost_ret (results_ctt rfl _ _ f 55 #[.int .i64 id, .int .i64 kind, .slice L labels.length lc, .string nm, .string proc, .int .i64 y0, .int .i64 y1, .string y2, .slice X xn xc, .bool has, .slice R args.length rc, .slice T th.length tc, .slice U el.length uc, .int .i64 dp, .int .i64 inn, .bool els] (0, 0) _ rfl HBl.out Tryz.underlying55 rfl (by kernel_rfl)) rfl ?_
      rw [HAn.out]
      exact ⟨_, rfl, HIt.out, HBe.out⟩
    ·have HFe : Hid (its.find? (fun x => x.s.id == id0) = none) := Lib.hid (by rw [← HF2.out, List.drop_of_length_le (by omega)]; rfl)
     have HAn : Hid (rfL p.procs id0 = rfL (p.procs.drop (k + 1)) id0) := Lib.hid (by rw [HAk.out, HFe.out]; rfl)
     clear HAk HFe HF2
     go_wp2_with fail
     go_roundg (p.procs.length - k - 1)
     case measure => omega
     case rel => exact ⟨k + 1, by omega, by go_num, Lib.hid (below_step HB9.out HR2.out), Lib.hid HAn.out.symm⟩
  ·have HAn : Hid (rfL p.procs id0 = none) := Lib.hid (by rw [← HA.out, List.drop_of_length_le (by omega)]; rfl)
   have HBfr := Lib.hid (HBf.out.below HBr.out hfl)
   have HBWr := Lib.hid (below_step HB0.out HBr.out)
   have hf := HBfr.out.lt
   have f0_ := HBfr.out.frozen 0
   have y0_ : wo.cell? ⟨f, 0, none⟩ = some (.int .i64 0) := by rw [HBfr.out.cell]; rfl
   have f1_ := HBfr.out.frozen 1
   have y1_ : wo.cell? ⟨f, 1, none⟩ = some (.int .i64 0) := by rw [HBfr.out.cell]; rfl
   have f2_ := HBfr.out.frozen 2
   have y2_ : wo.cell? ⟨f, 2, none⟩ = some (.slice none 0 0) := by rw [HBfr.out.cell]; rfl
   have f3_ := HBfr.out.frozen 3
   have y3_ : wo.cell? ⟨f, 3, none⟩ = some (.string ⟨#[]⟩) := by rw [HBfr.out.cell]; rfl
   have f4_ := HBfr.out.frozen 4
   have y4_ : wo.cell? ⟨f, 4, none⟩ = some (.string ⟨#[]⟩) := by rw [HBfr.out.cell]; rfl
   have f5_ := HBfr.out.frozen 5
   have y5_ : wo.cell? ⟨f, 5, none⟩ = some (.int .i64 0) := by rw [HBfr.out.cell]; rfl
   have f6_ := HBfr.out.frozen 6
   have y6_ : wo.cell? ⟨f, 6, none⟩ = some (.int .i64 0) := by rw [HBfr.out.cell]; rfl
   have f7_ := HBfr.out.frozen 7
   have y7_ : wo.cell? ⟨f, 7, none⟩ = some (.string ⟨#[]⟩) := by rw [HBfr.out.cell]; rfl
   have f8_ := HBfr.out.frozen 8
   have y8_ : wo.cell? ⟨f, 8, none⟩ = some (.slice none 0 0) := by rw [HBfr.out.cell]; rfl
   have f9_ := HBfr.out.frozen 9
   have y9_ : wo.cell? ⟨f, 9, none⟩ = some (.bool false) := by rw [HBfr.out.cell]; rfl
   have f10_ := HBfr.out.frozen 10
   have y10_ : wo.cell? ⟨f, 10, none⟩ = some (.slice none 0 0) := by rw [HBfr.out.cell]; rfl
   have f11_ := HBfr.out.frozen 11
   have y11_ : wo.cell? ⟨f, 11, none⟩ = some (.slice none 0 0) := by rw [HBfr.out.cell]; rfl
   have f12_ := HBfr.out.frozen 12
   have y12_ : wo.cell? ⟨f, 12, none⟩ = some (.slice none 0 0) := by rw [HBfr.out.cell]; rfl
   have f13_ := HBfr.out.frozen 13
   have y13_ : wo.cell? ⟨f, 13, none⟩ = some (.int .i64 0) := by rw [HBfr.out.cell]; rfl
   have f14_ := HBfr.out.frozen 14
   have y14_ : wo.cell? ⟨f, 14, none⟩ = some (.int .i64 0) := by rw [HBfr.out.cell]; rfl
   have f15_ := HBfr.out.frozen 15
   have y15_ : wo.cell? ⟨f, 15, none⟩ = some (.bool false) := by rw [HBfr.out.cell]; rfl
   go_wp2_with fail
   (try simp only [Exit.inBlock, Exit.then])
   refine bodyPost_ret (results_ctt rfl _ _ f 55 _ (0, 0) _ rfl (blk16 HBfr.out) Tryz.underlying55 rfl (by kernel_rfl)) rfl ?_
   rw [HAn.out]
   exact ⟨_, rfl, zero_item _ _, below16 HBWr.out hWf⟩
end Go.Proofs.YtehpinnmalpgpaaGreat
