/- Texts, merged by a program; only what is used. -/
import Derived.Test.YtcocilpifdjibaaK1
import Derived.Test.YtcocilpifdjibaaK2
import Derived.Test.YtcocilpifdjibaaK3
import Derived.Test.YtcocilpifdjibaaK4
import Derived.Test.YtcocilpifdjibaaK5
import Derived.Test.YtcocilpifdjibaaK6
import Derived.Test.YtcocilpifdjibaaK7
import Derived.Test.YtcocilpifdjibaaK8
import Derived.Test.YtcocilpifdjibaaK9
import Derived.Test.YtcocilpifdjibaaK10
namespace Go.Proofs.Ytcocilpifdjibaa
open Go.ChangeShapes Go.WideShapes Go.ChangeAt Go.RowKit Go.Deep
set_option linter.unusedVariables false
/-- rows of cells, one for each element -/
def All2 {α : Type} (R : α → List Value → Prop) : List α → List (List Value) → Prop
  | [], [] => True
  | x :: l, c :: cs => R x c ∧ All2 R l cs
  | _, _ => False
theorem All2.len {α : Type} {R : α → List Value → Prop} : ∀ {l : List α} {rows : List (List Value)}, All2 R l rows → rows.length = l.length
  | [], [], _ => rfl
  | x :: l, c :: cs, h => by rw [List.length_cons, List.length_cons, All2.len h.2]
theorem All2.at_ {α : Type} {R : α → List Value → Prop} : ∀ {l : List α} {rows : List (List Value)}, All2 R l rows → ∀ i (h : i < l.length), R l[i] (rows.getD i [])
  | [], [], _, i, h => absurd h (by simp)
  | x :: l, c :: cs, h, 0, _ => h.1
  | x :: l, c :: cs, h, i + 1, hi => by have := All2.at_ h.2 i (by simpa using hi); simpa using this
theorem flatN_rows : ∀ (rows : List (List Value)) (n : Nat), n ≤ rows.length → flatN (fun i => rows.getD i []) n = (rows.take n).flatten
  | rows, 0, _ => by simp [flatN]
  | rows, n + 1, h => by
    rw [flatN, flatN_rows rows n (by omega)]
    have : rows.take (n + 1) = rows.take n ++ [rows.getD n []] := by
      rw [List.take_add_one, List.getElem?_eq_getElem (by omega)]
      simp [List.getD, List.getElem?_eq_getElem (show n < rows.length by omega)]
    rw [this, List.flatten_append]
    simp
/-- a block that holds such rows -/
theorem rows_slice {α : Type} {F : World} {Q : Nat → Prop} {C : Nat} {R : α → List Value → Prop} {l : List α} {b : Nat} {t : TypeId} {cs : Array Value} (rows : List (List Value)) (hb : Blk F b t cs) (he : cs = rows.flatten.toArray) (hr : All2 R l rows) (hC : ∀ x cs, R x cs → CellsOk C cs) (hq : Q b) (hl : l.length ≤ 1000000) {n : Nat} (hn : n = l.length) :
    SliceI F Q C R l (.slice (some ⟨b, 0, none⟩) n n) := by
  subst hn
  refine row_slice (css := fun i => rows.getD i []) (t := t) ?_ hr.at_ hC hq hl
  rw [flatN_rows rows l.length (by rw [hr.len]; exact Nat.le_refl _), List.take_of_length_le (by rw [hr.len]; exact Nat.le_refl _), ← he]
  exact hb
theorem Blk.on_ {w w' : World} {g : Nat} {t : TypeId} {cs : Array Value} (h : Blk w g t cs) (hb : Below w.heap.size w w') : Blk w' g t cs := h.below hb h.lt
theorem blk1 (W : World) (o2 o3 o4 : Obj) (t : TypeId) (cs : Array Value) : Blk ((((W.alloc (.cells cs t)).alloc o2).alloc o3).alloc o4) W.heap.size t cs := (((Blk.new W t cs).alloc o2).alloc o3).alloc o4
theorem blk2 (W : World) (o1 o3 o4 : Obj) (t : TypeId) (cs : Array Value) : Blk ((((W.alloc o1).alloc (.cells cs t)).alloc o3).alloc o4) (W.heap.size + 1) t cs := by
  have := ((Blk.new (W.alloc o1) t cs).alloc o3).alloc o4
  simpa using this
theorem blk22 (W : World) (o1 : Obj) (t : TypeId) (cs : Array Value) : Blk ((W.alloc o1).alloc (.cells cs t)) (W.heap.size + 1) t cs := by
  have := Blk.new (W.alloc o1) t cs
  simpa using this
theorem blk3 (W : World) (o1 o2 o4 : Obj) (t : TypeId) (cs : Array Value) : Blk ((((W.alloc o1).alloc o2).alloc (.cells cs t)).alloc o4) (W.heap.size + 1 + 1) t cs := by
  have := (Blk.new ((W.alloc o1).alloc o2) t cs).alloc o4
  simpa using this
theorem blk4 (W : World) (o1 o2 o3 : Obj) (t : TypeId) (cs : Array Value) : Blk ((((W.alloc o1).alloc o2).alloc o3).alloc (.cells cs t)) (W.heap.size + 1 + 1 + 1) t cs := by
  have := Blk.new (((W.alloc o1).alloc o2).alloc o3) t cs
  simpa using this
theorem num_any (n : Int) (W : World) : Calls Try.prog 109 #[.int .i64 n] W fun e w' => e = .returned (.agg #[.int .i64 1, .int .i64 n, .string ⟨#[]⟩, .slice none 0 0]) ∧ Below W.heap.size W w' := by
  go_enter Try.func109, Try.ntmps109
  go_wp2_with fail
  (try simp only [Exit.inBlock, Exit.then])
  exact bodyPost_ret (results_cell_row rfl _ _ W.heap.size 45 _ (0, 0) _ rfl (Blk.new _ _ _) Try.underlying45 rfl (by kernel_rfl)) rfl ⟨rfl, below_box _⟩
theorem name_any (s : ByteArray) (W : World) : Calls Try.prog 93 #[.string s] W fun e w' => e = .returned (.agg #[.int .i64 2, .int .i64 0, .string s, .slice none 0 0]) ∧ Below W.heap.size W w' := by
  go_enter Try.func93, Try.ntmps93
  go_wp2_with fail
  (try simp only [Exit.inBlock, Exit.then])
  exact bodyPost_ret (results_cell_row rfl _ _ W.heap.size 45 _ (0, 0) _ rfl (Blk.new _ _ _) Try.underlying45 rfl (by kernel_rfl)) rfl ⟨rfl, below_box _⟩
theorem two_any (op : Int) (a0 a1 : Int) (a2 : ByteArray) (A : Option Addr) (an ac : Nat) (b0 b1 : Int) (b2 : ByteArray) (B : Option Addr) (bn bc : Nat) (W : World) : Calls Try.prog 95 #[.int .i64 op, .agg #[.int .i64 a0, .int .i64 a1, .string a2, .slice A an ac], .agg #[.int .i64 b0, .int .i64 b1, .string b2, .slice B bn bc]] W fun e w' => ∃ b, e = .returned (.agg #[.int .i64 op, .int .i64 0, .string ⟨#[]⟩, .slice (some ⟨b, 0, none⟩) 2 2]) ∧ W.heap.size ≤ b ∧ Blk w' b 45 #[.int .i64 a0, .int .i64 a1, .string a2, .slice A an ac, .int .i64 b0, .int .i64 b1, .string b2, .slice B bn bc] ∧ Below W.heap.size W w' := by
  go_enter Try.func95, Try.ntmps95
  go_wp2_with fail
  (try simp only [Exit.inBlock, Exit.then])
  exact bodyPost_ret (results_cell_row rfl _ _ (W.heap.size + 1 + 1) 45 _ (0, 0) _ rfl (blk3 _ _ _ _ _ _) Try.underlying45 rfl (by kernel_rfl)) rfl ⟨_, rfl, by omega, blk4 _ _ _ _ _ _, below_stepA (below_stepA (below_two _ _) _) _⟩
theorem stmtCk (w : World) (Q : Nat → Prop) (x : S) (cs : List Value) (h : StmtI w Q x cs) : CellsOk 13 cs := by
  obtain ⟨id, kind, labels, nm, proc, ex, has, args, th, el, L, lc, x0, x1, x2, X, xn, xc, R, rc, T, tc, U, uc, rfl, rfl, _⟩ := stmt_open h
  exact ⟨rfl, by simp [Value.oneCell']⟩
theorem procOk (w : World) (Q : Nat → Prop) (x : Pr) (cs : List Value) (h : ProcI w Q x cs) : CellsOk 5 cs := by
  obtain ⟨vp, vv, vb, ve, rfl, _, h3, h4, h5, h6⟩ := h
  obtain ⟨Ap, cp, rfl, _⟩ := h3.shape
  obtain ⟨Av, cv, rfl, _⟩ := h4.shape
  obtain ⟨Ab, cb, rfl, _⟩ := h5.shape
  obtain ⟨Ae, ce, rfl, _⟩ := h6.shape
  exact ⟨rfl, by simp [Value.oneCell']⟩
abbrev bv : ByteArray := ⟨#[118]⟩
abbrev bg : ByteArray := ⟨#[103]⟩
abbrev bp : ByteArray := ⟨#[112]⟩
abbrev bx : ByteArray := ⟨#[120]⟩
abbrev by_ : ByteArray := ⟨#[121]⟩
abbrev be : ByteArray := ⟨#[101]⟩
abbrev bmain : ByteArray := ⟨#[109, 97, 105, 110]⟩
abbrev b0 : ByteArray := ⟨#[]⟩
def eZ : E := .mk 0 0 b0 []
def eNum (n : Int) : E := .mk 1 n b0 []
def eName (s : ByteArray) : E := .mk 2 0 s []
def body1 : List S := [.mk 1 1 [] bv b0 (eNum 2) false [] [] [], .mk 2 4 [] bg bp eZ false [⟨false, b0, eNum 3⟩, ⟨true, bv, eZ⟩] [] [], .mk 3 3 [] b0 b0 (eName bv) false [] [] [], .mk 4 3 [] b0 b0 (eName bg) false [] [] []]
def body2 : List S := [.mk 5 1 [] by_ b0 (.mk 8 0 b0 [eName by_, eName bx]) false [] [] [], .mk 6 5 [] b0 b0 (.mk 12 0 b0 [eName by_, eNum 9]) false [] [.mk 7 10 [] be b0 eZ false [] [] []] [], .mk 8 9 [] b0 b0 (eName by_) true [] [] []]
def someP : Pg := ⟨[bg], [⟨bmain, [], [bv], body1, []⟩, ⟨bp, [⟨bx, false⟩, ⟨by_, true⟩], [], body2, [be]⟩]⟩
set_option maxHeartbeats 4000000 in
set_option maxRecDepth 100000 in
theorem Some_any (W : World) : Calls Try.prog 50 #[] W fun e w' => ∃ c0 c1, e = .returned (.agg #[c0, c1]) ∧ Below W.heap.size W w' ∧ ProgI w' (nw W w') someP [c0, c1] := by
  go_enter Try.func50, Try.ntmps50
  go_wp2_with fail
  refine (num_any _ _).mono ?_
  rintro e q1 ⟨rfl, hb1⟩
  go_wp2_with fail
  refine (num_any _ _).mono ?_
  rintro e q2 ⟨rfl, hb2⟩
  go_wp2_with fail
  refine (name_any _ _).mono ?_
  rintro e q3 ⟨rfl, hb3⟩
  go_wp2_with fail
  refine (name_any _ _).mono ?_
  rintro e q4 ⟨rfl, hb4⟩
  go_wp2_with fail
  refine (name_any _ _).mono ?_
  rintro e q5 ⟨rfl, hb5⟩
  go_wp2_with fail
  refine (name_any _ _).mono ?_
  rintro e q6 ⟨rfl, hb6⟩
  go_wp2_with fail
  refine (two_any _ _ _ _ _ _ _ _ _ _ _ _ _ _).mono ?_
  rintro e q7 ⟨b7, rfl, hl7, hk7, hb7⟩
  go_wp2_with fail
  refine (name_any _ _).mono ?_
  rintro e q8 ⟨rfl, hb8⟩
  go_wp2_with fail
  refine (num_any _ _).mono ?_
  rintro e q9 ⟨rfl, hb9⟩
  go_wp2_with fail
  refine (two_any _ _ _ _ _ _ _ _ _ _ _ _ _ _).mono ?_
  rintro e q10 ⟨b10, rfl, hl10, hk10, hb10⟩
  go_wp2_with fail
  refine (name_any _ _).mono ?_
  rintro e q11 ⟨rfl, hb11⟩
  have up10 : ∀ {b : Nat} {t : TypeId} {cs : Array Value}, Blk q10 b t cs → Blk q11 b t cs := fun h => (h.alloc _).on_ hb11
  have up7 : ∀ {b : Nat} {t : TypeId} {cs : Array Value}, Blk q7 b t cs → Blk q11 b t cs := fun h => up10 (((h.on_ hb8).on_ hb9).on_ hb10)
  have up5 : ∀ {b : Nat} {t : TypeId} {cs : Array Value}, Blk q5 b t cs → Blk q11 b t cs := fun h => up7 ((h.on_ hb6).on_ hb7)
  have up4 : ∀ {b : Nat} {t : TypeId} {cs : Array Value}, Blk q4 b t cs → Blk q11 b t cs := fun h => up5 (((((h.alloc _).alloc _).alloc _).alloc _).on_ hb5)
  have up3 : ∀ {b : Nat} {t : TypeId} {cs : Array Value}, Blk q3 b t cs → Blk q11 b t cs := fun h => up4 (h.on_ hb4)
  have up1 : ∀ {b : Nat} {t : TypeId} {cs : Array Value}, Blk q1 b t cs → Blk q11 b t cs := fun h => up3 (((h.on_ hb2).alloc _).on_ hb3)
  have hrb := up1 (((Blk.new W _ _).alloc _).on_ hb1)
  have hvars := up1 ((blk22 W _ _ _).on_ hb1)
  have hargs := up3 ((Blk.new q2 _ _).on_ hb3)
  have hbd1 := up5 ((blk1 q4 _ _ _ _ _).on_ hb5)
  have hob1 := up5 ((blk2 q4 _ _ _ _ _).on_ hb5)
  have hpar := up5 ((blk3 q4 _ _ _ _ _).on_ hb5)
  have hend := up5 ((blk4 q4 _ _ _ _ _).on_ hb5)
  have h7 := up7 hk7
  have h10 := up10 hk10
  have hthen := (Blk.new q10 _ _).on_ hb11
  have z1 : W.heap.size + 2 ≤ q1.heap.size := by have := hb1.size; simp at this; omega
  have z2 : q1.heap.size ≤ q2.heap.size := hb2.size
  have z3 : q2.heap.size + 1 ≤ q3.heap.size := by have := hb3.size; simp at this; omega
  have z4 : q3.heap.size ≤ q4.heap.size := hb4.size
  have z5 : q4.heap.size + 4 ≤ q5.heap.size := by have := hb5.size; simp at this; omega
  have z6 : q5.heap.size ≤ q6.heap.size := hb6.size
  have z7 : q6.heap.size ≤ q7.heap.size := hb7.size
  have z8 : q7.heap.size ≤ q8.heap.size := hb8.size
  have z9 : q8.heap.size ≤ q9.heap.size := hb9.size
  have z10 : q9.heap.size ≤ q10.heap.size := hb10.size
  have z11 : q10.heap.size + 1 ≤ q11.heap.size := by have := hb11.size; simp at this; omega
  have HB : Hid (Below W.heap.size W q11) := Lib.hid (below_step (below_stepA (below_step (below_step (below_step (below_step (below_step (below_step (below_stepA (below_stepA (below_stepA (below_stepA (below_step (below_step (below_stepA (below_step (below_step (below_two _ _) hb1) hb2) _) hb3) hb4) _) _) _) _) hb5) hb6) hb7) hb8) hb9) hb10) _) hb11)
  clear up10 up7 up5 up4 up3 up1 hk7 hk10 hb1 hb2 hb3 hb4 hb5 hb6 hb7 hb8 hb9 hb10 hb11
  have Hrb := Lib.hid hrb
  have Hvars := Lib.hid hvars
  have Hargs := Lib.hid hargs
  have Hbd1 := Lib.hid hbd1
  have Hpar := Lib.hid hpar
  have Hend := Lib.hid hend
  have H7 := Lib.hid h7
  have H10 := Lib.hid h10
  have Hthen := Lib.hid hthen
  have Hob1 : Hid (Blk q11 (q4.heap.size + 1) 59 #[.string bmain, .slice none 0 0, .slice (some ⟨W.heap.size + 1, 0, none⟩) 1 1, .slice (some ⟨q4.heap.size, 0, none⟩) 4 4, .slice none 0 0]) := Lib.hid hob1
  clear hrb hvars hargs hbd1 hob1 hpar hend h7 h10 hthen
  go_upto_region 3 with fail
  have Hbd2 : Hid (Blk ((q11.alloc (.cells #[.int .i64 5, .int .i64 1, .slice none 0 0, .string by_, .string b0, .int .i64 8, .int .i64 0, .string b0, .slice (some ⟨b7, 0, none⟩) 2 2, .bool false, .slice none 0 0, .slice none 0 0, .slice none 0 0, .int .i64 6, .int .i64 5, .slice none 0 0, .string b0, .string b0, .int .i64 12, .int .i64 0, .string b0, .slice (some ⟨b10, 0, none⟩) 2 2, .bool false, .slice none 0 0, .slice (some ⟨q10.heap.size, 0, none⟩) 1 1, .slice none 0 0, .int .i64 8, .int .i64 9, .slice none 0 0, .string b0, .string b0, .int .i64 2, .int .i64 0, .string by_, .slice none 0 0, .bool true, .slice none 0 0, .slice none 0 0, .slice none 0 0] 64)).alloc (.cells #[.string bp, .slice (some ⟨q4.heap.size + 1 + 1, 0, none⟩) 2 2, .slice none 0 0, .slice (some ⟨q11.heap.size, 0, none⟩) 3 3, .slice (some ⟨q4.heap.size + 1 + 1 + 1, 0, none⟩) 1 1] 59)) q11.heap.size 64 #[.int .i64 5, .int .i64 1, .slice none 0 0, .string by_, .string b0, .int .i64 8, .int .i64 0, .string b0, .slice (some ⟨b7, 0, none⟩) 2 2, .bool false, .slice none 0 0, .slice none 0 0, .slice none 0 0, .int .i64 6, .int .i64 5, .slice none 0 0, .string b0, .string b0, .int .i64 12, .int .i64 0, .string b0, .slice (some ⟨b10, 0, none⟩) 2 2, .bool false, .slice none 0 0, .slice (some ⟨q10.heap.size, 0, none⟩) 1 1, .slice none 0 0, .int .i64 8, .int .i64 9, .slice none 0 0, .string b0, .string b0, .int .i64 2, .int .i64 0, .string by_, .slice none 0 0, .bool true, .slice none 0 0, .slice none 0 0, .slice none 0 0]) := Lib.hid ((Blk.new _ _ _).alloc _)
  have Hob2 : Hid (Blk ((q11.alloc (.cells #[.int .i64 5, .int .i64 1, .slice none 0 0, .string by_, .string b0, .int .i64 8, .int .i64 0, .string b0, .slice (some ⟨b7, 0, none⟩) 2 2, .bool false, .slice none 0 0, .slice none 0 0, .slice none 0 0, .int .i64 6, .int .i64 5, .slice none 0 0, .string b0, .string b0, .int .i64 12, .int .i64 0, .string b0, .slice (some ⟨b10, 0, none⟩) 2 2, .bool false, .slice none 0 0, .slice (some ⟨q10.heap.size, 0, none⟩) 1 1, .slice none 0 0, .int .i64 8, .int .i64 9, .slice none 0 0, .string b0, .string b0, .int .i64 2, .int .i64 0, .string by_, .slice none 0 0, .bool true, .slice none 0 0, .slice none 0 0, .slice none 0 0] 64)).alloc (.cells #[.string bp, .slice (some ⟨q4.heap.size + 1 + 1, 0, none⟩) 2 2, .slice none 0 0, .slice (some ⟨q11.heap.size, 0, none⟩) 3 3, .slice (some ⟨q4.heap.size + 1 + 1 + 1, 0, none⟩) 1 1] 59)) (q11.heap.size + 1) 59 #[.string bp, .slice (some ⟨q4.heap.size + 1 + 1, 0, none⟩) 2 2, .slice none 0 0, .slice (some ⟨q11.heap.size, 0, none⟩) 3 3, .slice (some ⟨q4.heap.size + 1 + 1 + 1, 0, none⟩) 1 1]) := Lib.hid (blk22 _ _ _ _)
  have HB12 : Hid (Below q11.heap.size q11 ((q11.alloc (.cells #[.int .i64 5, .int .i64 1, .slice none 0 0, .string by_, .string b0, .int .i64 8, .int .i64 0, .string b0, .slice (some ⟨b7, 0, none⟩) 2 2, .bool false, .slice none 0 0, .slice none 0 0, .slice none 0 0, .int .i64 6, .int .i64 5, .slice none 0 0, .string b0, .string b0, .int .i64 12, .int .i64 0, .string b0, .slice (some ⟨b10, 0, none⟩) 2 2, .bool false, .slice none 0 0, .slice (some ⟨q10.heap.size, 0, none⟩) 1 1, .slice none 0 0, .int .i64 8, .int .i64 9, .slice none 0 0, .string b0, .string b0, .int .i64 2, .int .i64 0, .string by_, .slice none 0 0, .bool true, .slice none 0 0, .slice none 0 0, .slice none 0 0] 64)).alloc (.cells #[.string bp, .slice (some ⟨q4.heap.size + 1 + 1, 0, none⟩) 2 2, .slice none 0 0, .slice (some ⟨q11.heap.size, 0, none⟩) 3 3, .slice (some ⟨q4.heap.size + 1 + 1 + 1, 0, none⟩) 1 1] 59))) := Lib.hid (below_two _ _)
  generalize World.alloc _ _ = q12 at Hbd2 Hob2 HB12 ⊢
  replace Hrb := Lib.hid (Hrb.out.on_ HB12.out)
  replace Hvars := Lib.hid (Hvars.out.on_ HB12.out)
  replace Hargs := Lib.hid (Hargs.out.on_ HB12.out)
  replace Hbd1 := Lib.hid (Hbd1.out.on_ HB12.out)
  replace Hpar := Lib.hid (Hpar.out.on_ HB12.out)
  replace Hend := Lib.hid (Hend.out.on_ HB12.out)
  replace H7 := Lib.hid (H7.out.on_ HB12.out)
  replace H10 := Lib.hid (H10.out.on_ HB12.out)
  replace Hthen := Lib.hid (Hthen.out.on_ HB12.out)
  replace Hob1 := Lib.hid (Hob1.out.on_ HB12.out)
  have HBq : Hid (Below W.heap.size W q12) := Lib.hid (below_step HB.out HB12.out)
  have m0 : q12.cell? ⟨q4.heap.size + 1, 0, none⟩ = some (.string bmain) := by rw [Hob1.out.cell]; rfl
  have m1 : q12.cell? ⟨q4.heap.size + 1, 1, none⟩ = some (.slice none 0 0) := by rw [Hob1.out.cell]; rfl
  have m2 : q12.cell? ⟨q4.heap.size + 1, 2, none⟩ = some (.slice (some ⟨W.heap.size + 1, 0, none⟩) 1 1) := by rw [Hob1.out.cell]; rfl
  have m3 : q12.cell? ⟨q4.heap.size + 1, 3, none⟩ = some (.slice (some ⟨q4.heap.size, 0, none⟩) 4 4) := by rw [Hob1.out.cell]; rfl
  have m4 : q12.cell? ⟨q4.heap.size + 1, 4, none⟩ = some (.slice none 0 0) := by rw [Hob1.out.cell]; rfl
  have k0 : q12.cell? ⟨q11.heap.size + 1, 0, none⟩ = some (.string bp) := by rw [Hob2.out.cell]; rfl
  have k1 : q12.cell? ⟨q11.heap.size + 1, 1, none⟩ = some (.slice (some ⟨q4.heap.size + 1 + 1, 0, none⟩) 2 2) := by rw [Hob2.out.cell]; rfl
  have k2 : q12.cell? ⟨q11.heap.size + 1, 2, none⟩ = some (.slice none 0 0) := by rw [Hob2.out.cell]; rfl
  have k3 : q12.cell? ⟨q11.heap.size + 1, 3, none⟩ = some (.slice (some ⟨q11.heap.size, 0, none⟩) 3 3) := by rw [Hob2.out.cell]; rfl
  have k4 : q12.cell? ⟨q11.heap.size + 1, 4, none⟩ = some (.slice (some ⟨q4.heap.size + 1 + 1 + 1, 0, none⟩) 1 1) := by rw [Hob2.out.cell]; rfl
  have r0 : q12.cell? ⟨W.heap.size, 0, none⟩ = some (.slice none 0 0) := by rw [Hrb.out.cell]; rfl
  have r1 : q12.cell? ⟨W.heap.size, 1, none⟩ = some (.slice none 0 0) := by rw [Hrb.out.cell]; rfl
  have f0 := Hrb.out.frozen 0
  have f1 := Hrb.out.frozen 1
  have l0 := Hob1.out.lt
  have l1 := Hob2.out.lt
  have l2 := Hrb.out.lt
  go_wp2_with fail
  have hne0 : ∀ {b : Nat} {t : TypeId} {cs : Array Value}, b ≠ W.heap.size → Blk q12 b t cs → Blk ((q12.setCell ⟨W.heap.size, 0, none⟩ (.slice (some ⟨q12.heap.size, 0, none⟩) 1 1)).setCell ⟨W.heap.size, 1, none⟩ (.slice (some ⟨q12.heap.size + 1, 0, none⟩) 2 2)) b t cs := fun hne h => (h.far hne _).far hne _
  have hrb := (Hrb.out.set_ 0 (.slice (some ⟨q12.heap.size, 0, none⟩) 1 1)).set_ 1 (.slice (some ⟨q12.heap.size + 1, 0, none⟩) 2 2)
  have hsz : ((q12.setCell ⟨W.heap.size, 0, none⟩ (.slice (some ⟨q12.heap.size, 0, none⟩) 1 1)).setCell ⟨W.heap.size, 1, none⟩ (.slice (some ⟨q12.heap.size + 1, 0, none⟩) 2 2)).heap.size = q12.heap.size := by simp only [size_set]
  have HBs : Below W.heap.size W ((q12.setCell ⟨W.heap.size, 0, none⟩ (.slice (some ⟨q12.heap.size, 0, none⟩) 1 1)).setCell ⟨W.heap.size, 1, none⟩ (.slice (some ⟨q12.heap.size + 1, 0, none⟩) 2 2)) := below_setc (below_setc HBq.out (Nat.le_refl _) _) (Nat.le_refl _) _
  generalize World.setCell _ _ _ = q13 at hne0 hrb hsz HBs ⊢
  have e1 := hsz
  have g1 : Blk ((q13.alloc (.cells #[.string bg] 9)).alloc (.cells #[.string bmain, .slice none 0 0, .slice (some ⟨W.heap.size + 1, 0, none⟩) 1 1, .slice (some ⟨q4.heap.size, 0, none⟩) 4 4, .slice none 0 0, .string bp, .slice (some ⟨q4.heap.size + 1 + 1, 0, none⟩) 2 2, .slice none 0 0, .slice (some ⟨q11.heap.size, 0, none⟩) 3 3, .slice (some ⟨q4.heap.size + 1 + 1 + 1, 0, none⟩) 1 1] 59)) q12.heap.size 9 #[.string bg] := by rw [← hsz]; exact (Blk.new _ _ _).alloc _
  have g2 : Blk ((q13.alloc (.cells #[.string bg] 9)).alloc (.cells #[.string bmain, .slice none 0 0, .slice (some ⟨W.heap.size + 1, 0, none⟩) 1 1, .slice (some ⟨q4.heap.size, 0, none⟩) 4 4, .slice none 0 0, .string bp, .slice (some ⟨q4.heap.size + 1 + 1, 0, none⟩) 2 2, .slice none 0 0, .slice (some ⟨q11.heap.size, 0, none⟩) 3 3, .slice (some ⟨q4.heap.size + 1 + 1 + 1, 0, none⟩) 1 1] 59)) (q12.heap.size + 1) 59 #[.string bmain, .slice none 0 0, .slice (some ⟨W.heap.size + 1, 0, none⟩) 1 1, .slice (some ⟨q4.heap.size, 0, none⟩) 4 4, .slice none 0 0, .string bp, .slice (some ⟨q4.heap.size + 1 + 1, 0, none⟩) 2 2, .slice none 0 0, .slice (some ⟨q11.heap.size, 0, none⟩) 3 3, .slice (some ⟨q4.heap.size + 1 + 1 + 1, 0, none⟩) 1 1] := by rw [← hsz]; exact blk22 _ _ _ _
  have up : ∀ {b : Nat} {t : TypeId} {cs : Array Value}, b ≠ W.heap.size → Blk q12 b t cs → Blk ((q13.alloc (.cells #[.string bg] 9)).alloc (.cells #[.string bmain, .slice none 0 0, .slice (some ⟨W.heap.size + 1, 0, none⟩) 1 1, .slice (some ⟨q4.heap.size, 0, none⟩) 4 4, .slice none 0 0, .string bp, .slice (some ⟨q4.heap.size + 1 + 1, 0, none⟩) 2 2, .slice none 0 0, .slice (some ⟨q11.heap.size, 0, none⟩) 3 3, .slice (some ⟨q4.heap.size + 1 + 1 + 1, 0, none⟩) 1 1] 59)) b t cs := fun hne h => ((hne0 hne h).alloc _).alloc _
  have hrb2 := (hrb.alloc (.cells #[.string bg] 9)).alloc (.cells #[.string bmain, .slice none 0 0, .slice (some ⟨W.heap.size + 1, 0, none⟩) 1 1, .slice (some ⟨q4.heap.size, 0, none⟩) 4 4, .slice none 0 0, .string bp, .slice (some ⟨q4.heap.size + 1 + 1, 0, none⟩) 2 2, .slice none 0 0, .slice (some ⟨q11.heap.size, 0, none⟩) 3 3, .slice (some ⟨q4.heap.size + 1 + 1 + 1, 0, none⟩) 1 1] 59)
  have HBF : Below W.heap.size W ((q13.alloc (.cells #[.string bg] 9)).alloc (.cells #[.string bmain, .slice none 0 0, .slice (some ⟨W.heap.size + 1, 0, none⟩) 1 1, .slice (some ⟨q4.heap.size, 0, none⟩) 4 4, .slice none 0 0, .string bp, .slice (some ⟨q4.heap.size + 1 + 1, 0, none⟩) 2 2, .slice none 0 0, .slice (some ⟨q11.heap.size, 0, none⟩) 3 3, .slice (some ⟨q4.heap.size + 1 + 1 + 1, 0, none⟩) 1 1] 59)) := below_stepA (below_stepA HBs _) _
  generalize World.alloc _ _ = F at g1 g2 up hrb2 HBF ⊢
  (try simp only [Exit.inBlock, Exit.then])
  refine bodyPost_ret (results_cell_row rfl _ _ W.heap.size 25 _ (0, 0) _ rfl hrb2 Try.underlying25 rfl (by kernel_rfl)) rfl ?_
  have hvars := up (by omega) Hvars.out
  have hargs := up (by omega) Hargs.out
  have hbd1 := up (by omega) Hbd1.out
  have hpar := up (by omega) Hpar.out
  have hend := up (by omega) Hend.out
  have h7 := up (by omega) H7.out
  have h10 := up (by omega) H10.out
  have hthen := up (by omega) Hthen.out
  have hbd2 := up (by omega) Hbd2.out
  have sNum : ∀ n : Int, i64 n → ExprI F (nw W F) (eNum n) [.int .i64 1, .int .i64 n, .string b0, .slice none 0 0] := fun n hn => ExprI.of_slice nil_slice ⟨by omega, by omega⟩ hn (by decide)
  have sName : ∀ s : ByteArray, s.size ≤ 9223372036854775807 → ExprI F (nw W F) (eName s) [.int .i64 2, .int .i64 0, .string s, .slice none 0 0] := fun s hs => ExprI.of_slice nil_slice ⟨by omega, by omega⟩ i64_zero hs
  have sZ : ExprI F (nw W F) eZ [.int .i64 0, .int .i64 0, .string b0, .slice none 0 0] := ExprI.of_slice nil_slice i64_zero i64_zero (by decide)
  have i_ : ∀ n : Nat, n ≤ 100 → i64 (n : Int) := fun n hn => ⟨by omega, by omega⟩
  have e7 : ExprI F (nw W F) (.mk 8 0 b0 [eName by_, eName bx]) [.int .i64 8, .int .i64 0, .string b0, .slice (some ⟨b7, 0, none⟩) 2 2] := ExprI.of_slice (rows_slice (R := ExprI F (nw W F)) (l := [eName by_, eName bx]) [[.int .i64 2, .int .i64 0, .string by_, .slice none 0 0], [.int .i64 2, .int .i64 0, .string bx, .slice none 0 0]] h7 rfl ⟨sName _ (by decide), sName _ (by decide), trivial⟩ (exprOk _ _) ⟨by omega, h7.lt⟩ (by decide) rfl) (i_ 8 (by omega)) i64_zero (by decide)
  have e10 : ExprI F (nw W F) (.mk 12 0 b0 [eName by_, eNum 9]) [.int .i64 12, .int .i64 0, .string b0, .slice (some ⟨b10, 0, none⟩) 2 2] := ExprI.of_slice (rows_slice (R := ExprI F (nw W F)) (l := [eName by_, eNum 9]) [[.int .i64 2, .int .i64 0, .string by_, .slice none 0 0], [.int .i64 1, .int .i64 9, .string b0, .slice none 0 0]] h10 rfl ⟨sName _ (by decide), sNum _ (i_ 9 (by omega)), trivial⟩ (exprOk _ _) ⟨by omega, h10.lt⟩ (by decide) rfl) (i_ 12 (by omega)) i64_zero (by decide)
  have sth : StmtsI F (nw W F) [.mk 7 10 [] be b0 eZ false [] [] []] (.slice (some ⟨q10.heap.size, 0, none⟩) 1 1) := rows_slice (R := StmtI F (nw W F)) (l := [.mk 7 10 [] be b0 eZ false [] [] []]) [[.int .i64 7, .int .i64 10, .slice none 0 0, .string be, .string b0, .int .i64 0, .int .i64 0, .string b0, .slice none 0 0, .bool false, .slice none 0 0, .slice none 0 0, .slice none 0 0]] hthen rfl ⟨StmtI.of_slice (i_ 7 (by omega)) (i_ 10 (by omega)) (by decide) (by decide) nil_slice sZ nil_slice nil_slice nil_slice, trivial⟩ (stmtCk _ _) ⟨by omega, hthen.lt⟩ (by decide) rfl
  have sar : SliceI F (nw W F) 6 (ArgI F (nw W F)) [⟨false, b0, eNum 3⟩, ⟨true, bv, eZ⟩] (.slice (some ⟨q2.heap.size, 0, none⟩) 2 2) := rows_slice (R := ArgI F (nw W F)) (l := [⟨false, b0, eNum 3⟩, ⟨true, bv, eZ⟩]) [[.bool false, .string b0, .int .i64 1, .int .i64 3, .string b0, .slice none 0 0], [.bool true, .string bv, .int .i64 0, .int .i64 0, .string b0, .slice none 0 0]] hargs rfl ⟨⟨_, rfl, by decide, sNum _ (i_ 3 (by omega))⟩, ⟨_, rfl, by decide, sZ⟩, trivial⟩ (argCk _ _) ⟨by omega, hargs.lt⟩ (by decide) rfl
  have s1 : StmtsI F (nw W F) body1 (.slice (some ⟨q4.heap.size, 0, none⟩) 4 4) := rows_slice (R := StmtI F (nw W F)) (l := body1) [[.int .i64 1, .int .i64 1, .slice none 0 0, .string bv, .string b0, .int .i64 1, .int .i64 2, .string b0, .slice none 0 0, .bool false, .slice none 0 0, .slice none 0 0, .slice none 0 0], [.int .i64 2, .int .i64 4, .slice none 0 0, .string bg, .string bp, .int .i64 0, .int .i64 0, .string b0, .slice none 0 0, .bool false, .slice (some ⟨q2.heap.size, 0, none⟩) 2 2, .slice none 0 0, .slice none 0 0], [.int .i64 3, .int .i64 3, .slice none 0 0, .string b0, .string b0, .int .i64 2, .int .i64 0, .string bv, .slice none 0 0, .bool false, .slice none 0 0, .slice none 0 0, .slice none 0 0], [.int .i64 4, .int .i64 3, .slice none 0 0, .string b0, .string b0, .int .i64 2, .int .i64 0, .string bg, .slice none 0 0, .bool false, .slice none 0 0, .slice none 0 0, .slice none 0 0]] hbd1 rfl ⟨StmtI.of_slice (i_ 1 (by omega)) (i_ 1 (by omega)) (by decide) (by decide) nil_slice (sNum _ (i_ 2 (by omega))) nil_slice nil_slice nil_slice, StmtI.of_slice (i_ 2 (by omega)) (i_ 4 (by omega)) (by decide) (by decide) nil_slice sZ sar nil_slice nil_slice, StmtI.of_slice (i_ 3 (by omega)) (i_ 3 (by omega)) (by decide) (by decide) nil_slice (sName _ (by decide)) nil_slice nil_slice nil_slice, StmtI.of_slice (i_ 4 (by omega)) (i_ 3 (by omega)) (by decide) (by decide) nil_slice (sName _ (by decide)) nil_slice nil_slice nil_slice, trivial⟩ (stmtCk _ _) ⟨by omega, hbd1.lt⟩ (by decide) rfl
  have s2 : StmtsI F (nw W F) body2 (.slice (some ⟨q11.heap.size, 0, none⟩) 3 3) := rows_slice (R := StmtI F (nw W F)) (l := body2) [[.int .i64 5, .int .i64 1, .slice none 0 0, .string by_, .string b0, .int .i64 8, .int .i64 0, .string b0, .slice (some ⟨b7, 0, none⟩) 2 2, .bool false, .slice none 0 0, .slice none 0 0, .slice none 0 0], [.int .i64 6, .int .i64 5, .slice none 0 0, .string b0, .string b0, .int .i64 12, .int .i64 0, .string b0, .slice (some ⟨b10, 0, none⟩) 2 2, .bool false, .slice none 0 0, .slice (some ⟨q10.heap.size, 0, none⟩) 1 1, .slice none 0 0], [.int .i64 8, .int .i64 9, .slice none 0 0, .string b0, .string b0, .int .i64 2, .int .i64 0, .string by_, .slice none 0 0, .bool true, .slice none 0 0, .slice none 0 0, .slice none 0 0]] hbd2 rfl ⟨StmtI.of_slice (i_ 5 (by omega)) (i_ 1 (by omega)) (by decide) (by decide) nil_slice e7 nil_slice nil_slice nil_slice, StmtI.of_slice (i_ 6 (by omega)) (i_ 5 (by omega)) (by decide) (by decide) nil_slice e10 nil_slice sth nil_slice, StmtI.of_slice (i_ 8 (by omega)) (i_ 9 (by omega)) (by decide) (by decide) nil_slice (sName _ (by decide)) nil_slice nil_slice nil_slice, trivial⟩ (stmtCk _ _) ⟨by omega, hbd2.lt⟩ (by decide) rfl
  have sv : TextsI F (nw W F) [bv] (.slice (some ⟨W.heap.size + 1, 0, none⟩) 1 1) := rows_slice (R := TextI) (l := [bv]) [[.string bv]] hvars rfl ⟨⟨rfl, by decide⟩, trivial⟩ textOk ⟨by omega, hvars.lt⟩ (by decide) rfl
  have se : TextsI F (nw W F) [be] (.slice (some ⟨q4.heap.size + 1 + 1 + 1, 0, none⟩) 1 1) := rows_slice (R := TextI) (l := [be]) [[.string be]] hend rfl ⟨⟨rfl, by decide⟩, trivial⟩ textOk ⟨by omega, hend.lt⟩ (by decide) rfl
  have sp : SliceI F (nw W F) 2 ParI [⟨bx, false⟩, ⟨by_, true⟩] (.slice (some ⟨q4.heap.size + 1 + 1, 0, none⟩) 2 2) := rows_slice (R := ParI) (l := [⟨bx, false⟩, ⟨by_, true⟩]) [[.string bx, .bool false], [.string by_, .bool true]] hpar rfl ⟨⟨rfl, by decide⟩, ⟨rfl, by decide⟩, trivial⟩ parOk ⟨by omega, hpar.lt⟩ (by decide) rfl
  have sg : TextsI F (nw W F) [bg] (.slice (some ⟨q12.heap.size, 0, none⟩) 1 1) := rows_slice (R := TextI) (l := [bg]) [[.string bg]] g1 rfl ⟨⟨rfl, by decide⟩, trivial⟩ textOk ⟨by omega, g1.lt⟩ (by decide) rfl
  have spr : SliceI F (nw W F) 5 (ProcI F (nw W F)) someP.procs (.slice (some ⟨q12.heap.size + 1, 0, none⟩) 2 2) := rows_slice (R := ProcI F (nw W F)) (l := someP.procs) [[.string bmain, .slice none 0 0, .slice (some ⟨W.heap.size + 1, 0, none⟩) 1 1, .slice (some ⟨q4.heap.size, 0, none⟩) 4 4, .slice none 0 0], [.string bp, .slice (some ⟨q4.heap.size + 1 + 1, 0, none⟩) 2 2, .slice none 0 0, .slice (some ⟨q11.heap.size, 0, none⟩) 3 3, .slice (some ⟨q4.heap.size + 1 + 1 + 1, 0, none⟩) 1 1]] g2 rfl ⟨⟨_, _, _, _, rfl, by decide, nil_slice, sv, s1, nil_slice⟩, ⟨_, _, _, _, rfl, by decide, sp, nil_slice, s2, se⟩, trivial⟩ (procOk _ _) ⟨by omega, g2.lt⟩ (by decide) rfl
  exact ⟨_, _, rfl, HBF, _, _, rfl, sg, spr⟩
end Go.Proofs.Ytcocilpifdjibaa
