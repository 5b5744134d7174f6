/- The contract of lex.All: for a text of at most 100000 bytes of which the document tells R, it returns R's tokens (a new slice) and R's fault; nothing older is written. Label by label: At. -/
import Derived.Test.YtcncbdnnakfgcaaLexD
import Derived.Test.YtcncbdnnakfgcaaLexJ
import Derived.OwnWalk
import Derived.Laws.AppendOwn
import Derived.Laws.OwnMore
import Derived.WalkMore
namespace Go.Proofs.Ytcncbdnnakfgcaa
open Go.ChangeShapes Go.WideShapes Go.ChangeAt Go.RowKit
set_option linter.unusedVariables false

def firstScope : Code → Option Code
  | .scope c => some c
  | .seq a b => match firstScope a with
    | some c => some c
    | none => firstScope b
  | _ => none
noncomputable def body18 : Code := (Try.f18.body.bind firstScope).getD .skip
def tailOf : Code → Code
  | .seq _ x => x
  | c => c
noncomputable def tail18 (l : Nat) : Code := tailOf ((findLabel body18 l).getD .skip)
theorem find0 : findLabel body18 0 = some (.seq .skip (tail18 0)) := by kernel_rfl
theorem find1 : findLabel body18 1 = some (.seq .skip (tail18 1)) := by kernel_rfl
theorem find2 : findLabel body18 2 = some (.seq .skip (tail18 2)) := by kernel_rfl
theorem find3 : findLabel body18 3 = some (.seq .skip (tail18 3)) := by kernel_rfl
theorem find4 : findLabel body18 4 = some (.seq .skip (tail18 4)) := by kernel_rfl
theorem find5 : findLabel body18 5 = some (.seq .skip (tail18 5)) := by kernel_rfl
theorem find6 : findLabel body18 6 = some (.seq .skip (tail18 6)) := by kernel_rfl
def cellsT (l : List (Tok × Nat)) : List Value := l.flatMap fun p => [.int .i64 p.1.kind, .string (bs p.1.text), .int .i64 p.1.n, .int .i64 p.2]
theorem cellsT_append (a b : List (Tok × Nat)) : cellsT (a ++ b) = cellsT a ++ cellsT b := by simp [cellsT]
theorem cellsT_length (a : List (Tok × Nat)) : (cellsT a).length = a.length * 4 := by
  induction a with
  | nil => rfl
  | cons p a ih => rw [List.length_cons, Nat.add_mul, ← ih]; simp [cellsT]

/-- what All's caller is told -/
def AllPost (R : Res) (w : World) (e : Ending) (w' : World) : Prop :=
  ∃ A cap, e = .returned (.tuple #[.slice A R.toks.length cap, .agg #[.int .i64 R.code, .int .i64 R.fat]]) ∧
    w'.ownsRow w.heap.size 33 4 (.slice A R.toks.length cap) R.toks.length (cellsT R.toks) ∧ Below w.heap.size w w'
def QA (R : Res) (w : World) : Exit → Act → World → Prop := bodyPost Try.prog Try.f18 (AllPost R w)

def Blk (w : World) (g : Nat) (t : TypeId) (cs : Array Value) : Prop := w.heap[g]? = some (.cells cs t (0, 0))
section
variable {w w' : World} {g : Nat} {t : TypeId} {cs : Array Value}
theorem Blk.lt (h : Blk w g t cs) : g < w.heap.size := by
  rcases Nat.lt_or_ge g w.heap.size with hlt | hge
  · exact hlt
  · unfold Blk at h; rw [Array.getElem?_eq_none hge] at h; cases h
theorem Blk.cell (h : Blk w g t cs) (i : Nat) : w.cell? ⟨g, i, none⟩ = cs[i]? := cell_of_row w g i cs t (0, 0) h
theorem Blk.frozen (h : Blk w g t cs) (i : Nat) : w.frozen? ⟨g, i, none⟩ = false := by
  unfold Blk at h
  simp [World.frozen?, h]
theorem Blk.new (w : World) (t : TypeId) (cs : Array Value) : Blk (w.alloc (.cells cs t)) w.heap.size t cs := heap_alloc_new w _
theorem Blk.alloc (h : Blk w g t cs) (o : Obj) : Blk (w.alloc o) g t cs := (Below.heap_alloc w o g h.lt).trans h
theorem Blk.set_ (h : Blk w g t cs) (i : Nat) (u : Value) : Blk (w.setCell ⟨g, i, none⟩ u) g t (cs.setIfInBounds i u) := by
  unfold Blk at h ⊢
  simp [World.setCell, Array.getElem?_modify, h]
theorem Blk.far (h : Blk w g t cs) {p : Addr} (hp : g ≠ p.block) (u : Value) : Blk (w.setCell p u) g t cs := (Below.heap_setCell w p u g hp).trans h
theorem Blk.below {B : Nat} (h : Blk w g t cs) (hb : Below B w w') (hg : g < B) : Blk w' g t cs := (hb.block g hg).trans h
theorem Blk.grown {row : Option Nat} (h : Blk w g t cs) (hb : w.grownBy w' row) (hg : some g ≠ row) : Blk w' g t cs := (hb.block g h.lt hg).trans h
end
theorem own_base {w : World} {b b' : Nat} {e : TypeId} {size n : Nat} {v : Value} {xs : List Value} (h : w.ownsRow b e size v n xs) (hb : b' ≤ b) : w.ownsRow b' e size v n xs := by
  refine ⟨h.1, ?_⟩
  rcases h.2 with h0 | ⟨g, cap, cur, h1, h2, h3⟩
  · exact .inl h0
  · exact .inr ⟨g, cap, cur, h1, by omega, h3⟩
theorem own_below {w w' : World} {b : Nat} {e : TypeId} {size n : Nat} {v : Value} {xs : List Value} (h : w.ownsRow b e size v n xs) (hb : Below w.heap.size w w') : w'.ownsRow b e size v n xs := by
  refine ⟨h.1, ?_⟩
  rcases h.2 with h0 | ⟨g, cap, cur, h1, h2, h3, h4⟩
  · exact .inl h0
  · exact .inr ⟨g, cap, cur, h1, h2, (hb.block g (Array.getElem?_eq_some_iff.1 h3).1).trans h3, h4⟩
theorem own_set {w : World} {b : Nat} {e : TypeId} {size n : Nat} {v : Value} {xs : List Value} (h : w.ownsRow b e size v n xs) {p : Addr} (hp : p.block < b) (u : Value) : (w.setCell p u).ownsRow b e size v n xs := by
  refine ⟨h.1, ?_⟩
  rcases h.2 with h0 | ⟨g, cap, cur, h1, h2, h3, h4⟩
  · exact .inl h0
  · exact .inr ⟨g, cap, cur, h1, h2, (Below.heap_setCell w p u g (by omega)).trans h3, h4⟩

/-- how the memory stands at a label: w0 the world at the call, k t n a what the variable token holds -/
structure St (w0 w : World) (v : Value) (pre : List (Tok × Nat)) (cs : Array Value) : Prop where
  below : Below w0.heap.size w0 w
  fault : Blk w w0.heap.size 27 #[.int .i64 0, .int .i64 0]
  token : Blk w (w0.heap.size + 1) 33 cs
  own : w.ownsRow (w0.heap.size + 2) 33 4 v pre.length (cellsT pre)

set_option maxRecDepth 100000 in
/-- The code behind label l, with these variables, whatever lies in the other slots. -/
def HoldC (Q : Exit → Act → World → Prop) (l : Nat) (s : ByteArray) (B : Nat) (v c a e : Value) (w : World) : Prop :=
  ∀ (u1 u9 u10 u11 u12 u13 u14 u15 u16 u17 u18 u19 u20 u21 u22 u23 u24 u25 u26 u27 u28 u29 u30 u31 u32 u33 u34 u35 u36 u37 u38 u39 u40 u41 u42 u43 u44 u45 u46 u47 u48 u49 u50 u51 u52 u53 u54 u55 u56 u57 u58 u59 u60 u61 u62 u63 u64 u65 u66 u67 u68 u69 u70 u71 u72 u73 u74 u75 u76 u77 u78 u79 u80 u81 u82 u83 u84 u85 u86 u87 u88 u89 u90 u91 u92 u93 u94 u95 u96 u97 u98 u99 u100 u101 u102 u103 u104 u105 u106 u107 u108 u109 u110 u111 u112 u113 u114 u115 u116 u117 u118 u119 u120 u121 u122 u123 u124 u125 u126 u127 u128 u129 u130 u131 u132 : Value), Code.wp Try.prog (tail18 l) (cps Try.prog body18 Q) { tmps := List.toArray (.string s :: u1 :: .slice none 0 0 :: .pointer (some ⟨B, 0, none⟩) :: v :: .pointer (some ⟨B + 1, 0, none⟩) :: c :: a :: e :: u9 :: u10 :: u11 :: u12 :: u13 :: u14 :: u15 :: u16 :: u17 :: u18 :: u19 :: u20 :: u21 :: u22 :: u23 :: u24 :: u25 :: u26 :: u27 :: u28 :: u29 :: u30 :: u31 :: u32 :: u33 :: u34 :: u35 :: u36 :: u37 :: u38 :: u39 :: u40 :: u41 :: u42 :: u43 :: u44 :: u45 :: u46 :: u47 :: u48 :: u49 :: u50 :: u51 :: u52 :: u53 :: u54 :: u55 :: u56 :: u57 :: u58 :: u59 :: u60 :: u61 :: u62 :: u63 :: u64 :: u65 :: u66 :: u67 :: u68 :: u69 :: u70 :: u71 :: u72 :: u73 :: u74 :: u75 :: u76 :: u77 :: u78 :: u79 :: u80 :: u81 :: u82 :: u83 :: u84 :: u85 :: u86 :: u87 :: u88 :: u89 :: u90 :: u91 :: u92 :: u93 :: u94 :: u95 :: u96 :: u97 :: u98 :: u99 :: u100 :: u101 :: u102 :: u103 :: u104 :: u105 :: u106 :: u107 :: u108 :: u109 :: u110 :: u111 :: u112 :: u113 :: u114 :: u115 :: u116 :: u117 :: u118 :: u119 :: u120 :: u121 :: u122 :: u123 :: u124 :: u125 :: u126 :: u127 :: u128 :: u129 :: u130 :: u131 :: u132 :: []), defers := [] } w
set_option maxRecDepth 100000 in
/-- At label l with these variables, whatever lies in the other slots. -/
def Hold (Q : Exit → Act → World → Prop) (l : Nat) (s : ByteArray) (B : Nat) (v c a e : Value) (w : World) : Prop :=
  ∀ (u1 u9 u10 u11 u12 u13 u14 u15 u16 u17 u18 u19 u20 u21 u22 u23 u24 u25 u26 u27 u28 u29 u30 u31 u32 u33 u34 u35 u36 u37 u38 u39 u40 u41 u42 u43 u44 u45 u46 u47 u48 u49 u50 u51 u52 u53 u54 u55 u56 u57 u58 u59 u60 u61 u62 u63 u64 u65 u66 u67 u68 u69 u70 u71 u72 u73 u74 u75 u76 u77 u78 u79 u80 u81 u82 u83 u84 u85 u86 u87 u88 u89 u90 u91 u92 u93 u94 u95 u96 u97 u98 u99 u100 u101 u102 u103 u104 u105 u106 u107 u108 u109 u110 u111 u112 u113 u114 u115 u116 u117 u118 u119 u120 u121 u122 u123 u124 u125 u126 u127 u128 u129 u130 u131 u132 : Value), At Try.prog body18 Q l { tmps := List.toArray (.string s :: u1 :: .slice none 0 0 :: .pointer (some ⟨B, 0, none⟩) :: v :: .pointer (some ⟨B + 1, 0, none⟩) :: c :: a :: e :: u9 :: u10 :: u11 :: u12 :: u13 :: u14 :: u15 :: u16 :: u17 :: u18 :: u19 :: u20 :: u21 :: u22 :: u23 :: u24 :: u25 :: u26 :: u27 :: u28 :: u29 :: u30 :: u31 :: u32 :: u33 :: u34 :: u35 :: u36 :: u37 :: u38 :: u39 :: u40 :: u41 :: u42 :: u43 :: u44 :: u45 :: u46 :: u47 :: u48 :: u49 :: u50 :: u51 :: u52 :: u53 :: u54 :: u55 :: u56 :: u57 :: u58 :: u59 :: u60 :: u61 :: u62 :: u63 :: u64 :: u65 :: u66 :: u67 :: u68 :: u69 :: u70 :: u71 :: u72 :: u73 :: u74 :: u75 :: u76 :: u77 :: u78 :: u79 :: u80 :: u81 :: u82 :: u83 :: u84 :: u85 :: u86 :: u87 :: u88 :: u89 :: u90 :: u91 :: u92 :: u93 :: u94 :: u95 :: u96 :: u97 :: u98 :: u99 :: u100 :: u101 :: u102 :: u103 :: u104 :: u105 :: u106 :: u107 :: u108 :: u109 :: u110 :: u111 :: u112 :: u113 :: u114 :: u115 :: u116 :: u117 :: u118 :: u119 :: u120 :: u121 :: u122 :: u123 :: u124 :: u125 :: u126 :: u127 :: u128 :: u129 :: u130 :: u131 :: u132 :: []), defers := [] } w

set_option maxRecDepth 100000 in
theorem HoldC.hold {Q : Exit → Act → World → Prop} {l : Nat} {s : ByteArray} {B : Nat} {v c a e : Value} {w : World} (h : HoldC Q l s B v c a e w)
    (hf : findLabel body18 l = some (.seq .skip (tail18 l))) : Hold Q l s B v c a e w := by
  intro u1 u9 u10 u11 u12 u13 u14 u15 u16 u17 u18 u19 u20 u21 u22 u23 u24 u25 u26 u27 u28 u29 u30 u31 u32 u33 u34 u35 u36 u37 u38 u39 u40 u41 u42 u43 u44 u45 u46 u47 u48 u49 u50 u51 u52 u53 u54 u55 u56 u57 u58 u59 u60 u61 u62 u63 u64 u65 u66 u67 u68 u69 u70 u71 u72 u73 u74 u75 u76 u77 u78 u79 u80 u81 u82 u83 u84 u85 u86 u87 u88 u89 u90 u91 u92 u93 u94 u95 u96 u97 u98 u99 u100 u101 u102 u103 u104 u105 u106 u107 u108 u109 u110 u111 u112 u113 u114 u115 u116 u117 u118 u119 u120 u121 u122 u123 u124 u125 u126 u127 u128 u129 u130 u131 u132
  exact at_of hf (wp_seq (wp_skip (h u1 u9 u10 u11 u12 u13 u14 u15 u16 u17 u18 u19 u20 u21 u22 u23 u24 u25 u26 u27 u28 u29 u30 u31 u32 u33 u34 u35 u36 u37 u38 u39 u40 u41 u42 u43 u44 u45 u46 u47 u48 u49 u50 u51 u52 u53 u54 u55 u56 u57 u58 u59 u60 u61 u62 u63 u64 u65 u66 u67 u68 u69 u70 u71 u72 u73 u74 u75 u76 u77 u78 u79 u80 u81 u82 u83 u84 u85 u86 u87 u88 u89 u90 u91 u92 u93 u94 u95 u96 u97 u98 u99 u100 u101 u102 u103 u104 u105 u106 u107 u108 u109 u110 u111 u112 u113 u114 u115 u116 u117 u118 u119 u120 u121 u122 u123 u124 u125 u126 u127 u128 u129 u130 u131 u132)))
theorem info_tok : (Try.prog.info? 33).map (fun i => (i.zero, i.size, i.bytes)) = some (some (.agg #[.int .i64 0, .string ⟨#[]⟩, .int .i64 0, .int .i64 0]), 4, 40) := by kernel_rfl
theorem four_cells (w : World) (t : TypeId) (x0 x1 x2 x3 : Value) : ∀ j u, [x0, x1, x2, x3][j]? = some u → (w.alloc (.cells #[x0, x1, x2, x3] t)).cell? ((⟨w.heap.size, 0, none⟩ : Addr).add j) = some u := by
  intro j u hj
  have hb := (Blk.new w t #[x0, x1, x2, x3]).cell j
  have hadd : (⟨w.heap.size, 0, none⟩ : Addr).add j = ⟨w.heap.size, j, none⟩ := by unfold Addr.add; split <;> simp_all
  rw [hadd, hb]
  simpa using hj
theorem four_cells' {w : World} {g : Nat} (hg : w.heap.size = g) (t : TypeId) (x0 x1 x2 x3 : Value) : ∀ j u, [x0, x1, x2, x3][j]? = some u → (w.alloc (.cells #[x0, x1, x2, x3] t)).cell? ((⟨g, 0, none⟩ : Addr).add j) = some u := by
  subst hg
  exact four_cells w t x0 x1 x2 x3
theorem four_one (k n a : Int) (b : ByteArray) : ∀ u ∈ [Value.int .i64 k, .string b, .int .i64 n, .int .i64 a], u.oneCell' = true := by
  intro u hu
  simp only [List.mem_cons, List.not_mem_nil, or_false] at hu
  rcases hu with rfl | rfl | rfl | rfl <;> rfl
/-- an owned row that is not empty lies at an address -/
theorem own_form {w : World} {b : Nat} {e : TypeId} {n : Nat} {v : Value} {xs : List Value} (h : w.ownsRow b e 4 v n xs) : ∃ A cap, v = .slice A n cap := by
  rcases h.2 with ⟨rfl, rfl⟩ | ⟨g, cap, cur, rfl, _⟩
  · exact ⟨none, 0, rfl⟩
  · exact ⟨_, _, rfl⟩

set_option maxRecDepth 100000 in
set_option maxHeartbeats 4000000 in
/-- done: the end is appended. -/
theorem at_done (s : ByteArray) (w0 w : World) (v c e : Value) (pre : List (Tok × Nat)) (cs : Array Value) (hs : s.size ≤ 100000) (hst : St w0 w v pre cs) (hp : pre.length ≤ 2000) :
    HoldC (QA (.ok (pre ++ [(zT, s.size)])) w0) 1 s w0.heap.size v c (.int .i64 s.size) e w := by
  intro u1 u9 u10 u11 u12 u13 u14 u15 u16 u17 u18 u19 u20 u21 u22 u23 u24 u25 u26 u27 u28 u29 u30 u31 u32 u33 u34 u35 u36 u37 u38 u39 u40 u41 u42 u43 u44 u45 u46 u47 u48 u49 u50 u51 u52 u53 u54 u55 u56 u57 u58 u59 u60 u61 u62 u63 u64 u65 u66 u67 u68 u69 u70 u71 u72 u73 u74 u75 u76 u77 u78 u79 u80 u81 u82 u83 u84 u85 u86 u87 u88 u89 u90 u91 u92 u93 u94 u95 u96 u97 u98 u99 u100 u101 u102 u103 u104 u105 u106 u107 u108 u109 u110 u111 u112 u113 u114 u115 u116 u117 u118 u119 u120 u121 u122 u123 u124 u125 u126 u127 u128 u129 u130 u131 u132
  conv => arg 2; whnf
  obtain ⟨i0, hi0, hz0, hz1, hz2⟩ := info_parts info_tok
  obtain ⟨hbel, hfa, hto, hown⟩ := hst
  have hsz := hbel.size
  have hltf := hto.lt
  go_wp2_with (at_builtin; refine wpList_append_own _ rfl (.tmp 127) (.tmp 130) 24 rfl (w0.heap.size + 2) 33 i0 _ 4 40 Try.underlying24 hi0 hz0 hz1 hz2 rfl (by decide) v pre.length (cellsT pre) rfl (hown.alloc _) ⟨w.heap.size, 0, none⟩ 1 1 _ rfl rfl (four_cells _ _ _ _ _ _) (four_one _ _ _ _) (by unfold maxLen; omega) (by omega) (by simp; omega) ?_)
  intro v' w1 hown' hgrow _
  have hne : some w0.heap.size ≠ v.ownBlock := fun he => by have := (hown.lt _ he.symm).1; omega
  have hfa1 := (hfa.alloc _).grown hgrow hne
  have hbel1 : Below w0.heap.size w0 w1 := (hbel.alloc hsz _).grown hgrow (by simp; omega) (fun k hk => by have := (hown.lt _ hk).1; omega)
  have q0 : w1.cell? ⟨w0.heap.size, 0, none⟩ = some (.int .i64 0) := hfa1.cell 0
  have q1 : w1.cell? ⟨w0.heap.size, 1, none⟩ = some (.int .i64 0) := hfa1.cell 1
  have q2 : w1.frozen? ⟨w0.heap.size, 0, none⟩ = false := hfa1.frozen 0
  have q3 : w1.frozen? ⟨w0.heap.size, 1, none⟩ = false := hfa1.frozen 1
  have H1 := Lib.hid hown'
  obtain ⟨A, cap, rfl⟩ := own_form hown'
  clear hown' hgrow hne hfa1 hfa hto hown hi0 hz0 hz1 hz2
  go_wp2
  refine cps_ret ?_
  unfold QA
  refine bodyPost_ret (v := .tuple #[.slice A (pre.length + 1) cap, .agg #[.int .i64 0, .int .i64 0]]) (by simp [results, Try.results18, go_sem, q0, q1]) rfl ?_
  refine ⟨A, cap, by simp [Res.toks, Res.code, Res.fat], ?_, ?_⟩
  · have h2 := own_set (own_set H1.out (p := ⟨w0.heap.size, 0, none⟩) (by simp) (.int .i64 0)) (p := ⟨w0.heap.size, 1, none⟩) (by simp) (.int .i64 0)
    have h3 := own_base h2 (show w0.heap.size ≤ w0.heap.size + 2 by omega)
    simpa [Res.toks, cellsT_append, cellsT, zT, bs] using h3
  · exact (hbel1.setCell (by simp) _).setCell (by simp) _

set_option maxRecDepth 100000 in
set_option maxHeartbeats 4000000 in
/-- take, where the token is wrong or one too many: the fault is told. -/
theorem at_take_bad (s : ByteArray) (w0 w : World) (v e : Value) (pre : List (Tok × Nat)) (cs : Array Value) (code code' at_ : Nat) (hst : St w0 w v pre cs)
    (hcode : (code ≠ 0 ∧ code' = code) ∨ (code = 0 ∧ code' = 4 ∧ 2000 ≤ pre.length)) (hle : pre.length ≤ 2000) :
    HoldC (QA (.bad code' at_) w0) 6 s w0.heap.size v (.int .i64 code) (.int .i64 at_) e w := by
  intro u1 u9 u10 u11 u12 u13 u14 u15 u16 u17 u18 u19 u20 u21 u22 u23 u24 u25 u26 u27 u28 u29 u30 u31 u32 u33 u34 u35 u36 u37 u38 u39 u40 u41 u42 u43 u44 u45 u46 u47 u48 u49 u50 u51 u52 u53 u54 u55 u56 u57 u58 u59 u60 u61 u62 u63 u64 u65 u66 u67 u68 u69 u70 u71 u72 u73 u74 u75 u76 u77 u78 u79 u80 u81 u82 u83 u84 u85 u86 u87 u88 u89 u90 u91 u92 u93 u94 u95 u96 u97 u98 u99 u100 u101 u102 u103 u104 u105 u106 u107 u108 u109 u110 u111 u112 u113 u114 u115 u116 u117 u118 u119 u120 u121 u122 u123 u124 u125 u126 u127 u128 u129 u130 u131 u132
  conv => arg 2; whnf
  obtain ⟨hbel, hfa, hto, hown⟩ := hst
  have hsz := hbel.size
  have hltf := hto.lt
  have q0 : w.cell? ⟨w0.heap.size, 0, none⟩ = some (.int .i64 0) := hfa.cell 0
  have q1 : w.cell? ⟨w0.heap.size, 1, none⟩ = some (.int .i64 0) := hfa.cell 1
  have q2 : w.frozen? ⟨w0.heap.size, 0, none⟩ = false := hfa.frozen 0
  have q3 : w.frozen? ⟨w0.heap.size, 1, none⟩ = false := hfa.frozen 1
  obtain ⟨A, cap, rfl⟩ := own_form hown
  clear hfa hto hown
  have hx : ∀ W : World, Calls Try.prog 34 #[.int .i64 (code : Nat), .int .i64 (pre.length : Nat)] W fun e w' => e = .returned (.int .i64 (code' : Nat)) ∧ W = w' := by
    intro W
    rcases hcode with ⟨h, rfl⟩ | ⟨rfl, rfl, h⟩
    · exact counted_bad _ _ (by omega) W
    · exact counted_full _ (by omega) W
  have hc0 : (((code' : Nat) : Int) != 0) = true := by simp; omega
  clear hcode
  go_wp2_with (go_at_call 34; refine (hx _).mono ?_; rintro e w' ⟨rfl, rfl⟩)
  refine cps_ret ?_
  unfold QA
  refine bodyPost_ret (v := .tuple #[.slice none 0 0, .agg #[.int .i64 code', .int .i64 at_]]) (by simp [results, Try.results18, go_sem, q0, q1]) rfl ?_
  refine ⟨none, 0, rfl, World.ownsRow_nil _ _ _ _, ?_⟩
  exact (hbel.setCell (by simp) _).setCell (by simp) _

set_option maxRecDepth 100000 in
set_option maxHeartbeats 4000000 in
/-- take, where the token is good and there is room: it is appended, and the rest is read. -/
theorem at_take_ok (Q : Exit → Act → World → Prop) (s : ByteArray) (w0 w : World) (v e : Value) (pre : List (Tok × Nat)) (t : Tok) (x : Value) (at_ : Nat)
    (hst : St w0 w v pre #[.int .i64 t.kind, .string (bs t.text), .int .i64 t.n, x]) (hlt : pre.length < 2000) (hat : at_ + t.text.length ≤ 100000)
    (hnext : ∀ (v' c' e' : Value) (w' : World) (cs' : Array Value), cs'.size = 4 → St w0 w' v' (pre ++ [(t, at_)]) cs' → Hold Q 0 s w0.heap.size v' c' (.int .i64 (at_ + t.text.length : Nat)) e' w') :
    HoldC Q 6 s w0.heap.size v (.int .i64 0) (.int .i64 at_) e w := by
  intro u1 u9 u10 u11 u12 u13 u14 u15 u16 u17 u18 u19 u20 u21 u22 u23 u24 u25 u26 u27 u28 u29 u30 u31 u32 u33 u34 u35 u36 u37 u38 u39 u40 u41 u42 u43 u44 u45 u46 u47 u48 u49 u50 u51 u52 u53 u54 u55 u56 u57 u58 u59 u60 u61 u62 u63 u64 u65 u66 u67 u68 u69 u70 u71 u72 u73 u74 u75 u76 u77 u78 u79 u80 u81 u82 u83 u84 u85 u86 u87 u88 u89 u90 u91 u92 u93 u94 u95 u96 u97 u98 u99 u100 u101 u102 u103 u104 u105 u106 u107 u108 u109 u110 u111 u112 u113 u114 u115 u116 u117 u118 u119 u120 u121 u122 u123 u124 u125 u126 u127 u128 u129 u130 u131 u132
  conv => arg 2; whnf
  obtain ⟨i0, hi0, hz0, hz1, hz2⟩ := info_parts info_tok
  obtain ⟨hbel, hfa, hto, hown⟩ := hst
  have hsz := hbel.size
  have hltf := hto.lt
  have q0 : w.cell? ⟨w0.heap.size + 1, 0, none⟩ = some (.int .i64 t.kind) := hto.cell 0
  have q1 : w.cell? ⟨w0.heap.size + 1, 1, none⟩ = some (.string (bs t.text)) := hto.cell 1
  have q2 : w.cell? ⟨w0.heap.size + 1, 2, none⟩ = some (.int .i64 t.n) := hto.cell 2
  have q3 : w.cell? ⟨w0.heap.size + 1, 3, none⟩ = some x := hto.cell 3
  have q4 : w.frozen? ⟨w0.heap.size + 1, 3, none⟩ = false := hto.frozen 3
  obtain ⟨A, cap, rfl⟩ := own_form hown
  go_wp2_with (first
    | (go_at_call 34; refine (counted_ok _ (by omega) _).mono ?_; rintro e w' ⟨rfl, rfl⟩)
    | (at_builtin; refine wpList_append_own _ rfl (.tmp 118) (.tmp 120) 24 rfl (w0.heap.size + 2) 33 i0 _ 4 40 Try.underlying24 hi0 hz0 hz1 hz2 rfl (by decide) _ pre.length (cellsT pre) rfl ((own_set hown (p := ⟨w0.heap.size + 1, 3, none⟩) (by simp) _).alloc _) ⟨w.heap.size, 0, none⟩ 1 1 [.int .i64 t.kind, .string (bs t.text), .int .i64 t.n, .int .i64 at_] rfl rfl (four_cells' (by simp) _ _ _ _ _) (four_one _ _ _ _) (by unfold maxLen; omega) (by omega) (by simp; omega) ?_))
  intro v' w1 hown' hgrow _
  have hne0 : some w0.heap.size ≠ (Value.slice A pre.length cap).ownBlock := fun he => by have := (hown.lt _ he.symm).1; omega
  have hne1 : some (w0.heap.size + 1) ≠ (Value.slice A pre.length cap).ownBlock := fun he => by have := (hown.lt _ he.symm).1; omega
  have hfa1 := ((hfa.far (p := ⟨w0.heap.size + 1, 3, none⟩) (by simp) (.int .i64 at_)).alloc _).grown hgrow hne0
  have hto1 := ((hto.set_ 3 (.int .i64 at_)).alloc _).grown hgrow hne1
  have hbel1 : Below w0.heap.size w0 w1 := ((hbel.setCell (p := ⟨w0.heap.size + 1, 3, none⟩) (by simp) _).alloc (by simp; omega) _).grown hgrow (by simp; omega) (fun k hk => by have := (hown.lt _ hk).1; omega)
  have r1 : w1.cell? ⟨w0.heap.size + 1, 1, none⟩ = some (.string (bs t.text)) := hto1.cell 1
  have hl : (bs t.text).size = t.text.length := by rw [size_bl, bl_bs]
  have hle : (bs t.text).size ≤ 100000 := by omega
  have H2 := Lib.hid hl
  have H1 := Lib.hid (show St w0 w1 v' (pre ++ [(t, at_)]) _ from ⟨hbel1, hfa1, hto1, by
    have := hown'
    rw [List.length_append, cellsT_append]
    exact this⟩)
  have hle2 : at_ + (bs t.text).size ≤ 100000 := by omega
  have HN := Lib.hid hnext
  clear hown' hgrow hne0 hne1 hfa1 hto1 hfa hto hown hi0 hz0 hz1 hz2 q0 q1 q2 q3 q4 hl hnext
  go_wp2
  go_step3
  refine cps_goto ?_
  have h3 := HN.out _ (.int .i64 0) e _ _ (by simp) H1.out
  rw [← H2.out] at h3
  exact h3 ..

theorem arr4 {cs : Array Value} (h : cs.size = 4) : ∃ x0 x1 x2 x3, cs = #[x0, x1, x2, x3] := by
  obtain ⟨l⟩ := cs
  match l, h with
  | [x0, x1, x2, x3], _ => exact ⟨x0, x1, x2, x3, rfl⟩
/-- the variable token, written whole behind a call that made memory -/
theorem St.put {w0 w w1 : World} {v : Value} {pre : List (Tok × Nat)} {x0 x1 x2 x3 : Value} (h : St w0 w v pre #[x0, x1, x2, x3]) (hb : Below w.heap.size w w1) (y0 y1 y2 y3 : Value) :
    St w0 ((((w1.setCell ⟨w0.heap.size + 1, 0, none⟩ y0).setCell ⟨w0.heap.size + 1, 1, none⟩ y1).setCell ⟨w0.heap.size + 1, 2, none⟩ y2).setCell ⟨w0.heap.size + 1, 3, none⟩ y3) v pre #[y0, y1, y2, y3] := by
  obtain ⟨hbel, hfa, hto, hown⟩ := h
  have h1 := hbel.size
  have h2 := hto.lt
  refine ⟨?_, ?_, ?_, ?_⟩
  · exact ((((hbel.trans (hb.mono h1)).setCell (by simp) _).setCell (by simp) _).setCell (by simp) _).setCell (by simp) _
  · exact ((((hfa.below hb hfa.lt).far (by simp) _).far (by simp) _).far (by simp) _).far (by simp) _
  · exact ((((hto.below hb hto.lt).set_ 0 y0).set_ 1 y1).set_ 2 y2).set_ 3 y3
  · exact own_set (own_set (own_set (own_set (own_below hown hb) (by simp) _) (by simp) _) (by simp) _) (by simp) _
theorem St.sz {w0 w : World} {v : Value} {pre : List (Tok × Nat)} {cs : Array Value} (h : St w0 w v pre cs) : w0.heap.size + 1 < w.heap.size := h.token.lt

section
variable {p : UInt8 → Bool} {s : ByteArray} {at_ : Nat}
theorem tw_true {e : Nat} (h1 : at_ ≤ e) (h2 : e < at_ + (((bl s).drop at_).takeWhile p).length) : ∃ h : e < s.size, p s[e] = true := by
  have hle : (((bl s).drop at_).takeWhile p).length ≤ ((bl s).drop at_).length := (List.takeWhile_prefix p).length_le
  rw [List.length_drop, ← size_bl] at hle
  have he : e < s.size := by omega
  refine ⟨he, ?_⟩
  have hk : e - at_ < (((bl s).drop at_).takeWhile p).length := by omega
  have hall := List.all_eq_true.1 (List.all_takeWhile (p := p) (l := (bl s).drop at_)) _ (List.getElem_mem hk)
  have hpre := (List.takeWhile_prefix p (l := (bl s).drop at_)).getElem hk
  rw [hpre] at hall
  simp only [List.getElem_drop] at hall
  have e1 : at_ + (e - at_) = e := by omega
  simp only [e1] at hall
  exact hall
theorem tw_false {e : Nat} (h2 : e = at_ + (((bl s).drop at_).takeWhile p).length) (he : e < s.size) : p s[e] = false := by
  have key : ∀ (l : Bs) (h : (l.takeWhile p).length < l.length), p (l[(l.takeWhile p).length]) = false := by
    intro l
    induction l with
    | nil => intro h; simp at h
    | cons c r ih =>
      intro h
      cases hc : p c with
      | false => simp [hc]
      | true =>
        have h3 : (List.takeWhile p (c :: r)) = c :: r.takeWhile p := by simp [hc]
        simp only [h3, List.length_cons] at h ⊢
        simpa using ih (by omega)
  have hlt : (((bl s).drop at_).takeWhile p).length < ((bl s).drop at_).length := by rw [List.length_drop, ← size_bl]; omega
  have := key _ hlt
  simp only [List.getElem_drop] at this
  have e1 : at_ + (((bl s).drop at_).takeWhile p).length = e := by omega
  simp only [e1] at this
  exact this
theorem tw_cut {e : Nat} (h2 : e = at_ + (((bl s).drop at_).takeWhile p).length) : bl (s.extract at_ e) = ((bl s).drop at_).takeWhile p := by
  rw [bs_extract, bl_bs, show e - at_ = (((bl s).drop at_).takeWhile p).length by omega]
  exact (List.prefix_iff_eq_take.1 (List.takeWhile_prefix p)).symm
theorem tw_le : at_ ≤ s.size → at_ + (((bl s).drop at_).takeWhile p).length ≤ s.size := by
  intro h
  have hle : (((bl s).drop at_).takeWhile p).length ≤ ((bl s).drop at_).length := (List.takeWhile_prefix p).length_le
  rw [List.length_drop, ← size_bl] at hle
  omega
end

/-- a call of one of the three that make a token, as All makes it -/
def TokCall (f : Nat) (x : ByteArray) (t : Tok × Nat) : Prop :=
  ∀ W : World, Calls Try.prog f #[.string x] W fun e w' => e = .returned (.tuple #[.agg #[.int .i64 t.1.kind, .string (bs t.1.text), .int .i64 t.1.n, .int .i64 0], .int .i64 t.2]) ∧ Below W.heap.size W w'

set_option maxRecDepth 100000 in
set_option maxHeartbeats 4000000 in
/-- sign: the token is made, and taken. -/
theorem at_sign (Q : Exit → Act → World → Prop) (s : ByteArray) (w0 w : World) (v c e : Value) (pre : List (Tok × Nat)) (x0 x1 x2 x3 : Value) (at_ : Nat) (t : Tok × Nat)
    (hs : s.size ≤ 100000) (hat : at_ ≤ s.size) (hst : St w0 w v pre #[x0, x1, x2, x3]) (hcall : TokCall 33 (s.extract at_ s.size) t)
    (htake : ∀ (e' : Value) (w' : World), St w0 w' v pre #[.int .i64 t.1.kind, .string (bs t.1.text), .int .i64 t.1.n, .int .i64 0] → HoldC Q 6 s w0.heap.size v (.int .i64 t.2) (.int .i64 at_) e' w') :
    HoldC Q 5 s w0.heap.size v c (.int .i64 at_) e w := by
  intro u1 u9 u10 u11 u12 u13 u14 u15 u16 u17 u18 u19 u20 u21 u22 u23 u24 u25 u26 u27 u28 u29 u30 u31 u32 u33 u34 u35 u36 u37 u38 u39 u40 u41 u42 u43 u44 u45 u46 u47 u48 u49 u50 u51 u52 u53 u54 u55 u56 u57 u58 u59 u60 u61 u62 u63 u64 u65 u66 u67 u68 u69 u70 u71 u72 u73 u74 u75 u76 u77 u78 u79 u80 u81 u82 u83 u84 u85 u86 u87 u88 u89 u90 u91 u92 u93 u94 u95 u96 u97 u98 u99 u100 u101 u102 u103 u104 u105 u106 u107 u108 u109 u110 u111 u112 u113 u114 u115 u116 u117 u118 u119 u120 u121 u122 u123 u124 u125 u126 u127 u128 u129 u130 u131 u132
  conv => arg 2; whnf
  have hsz := hst.sz
  have q0 : w.cell? ⟨w0.heap.size + 1, 0, none⟩ = some x0 := hst.token.cell 0
  have q1 : w.cell? ⟨w0.heap.size + 1, 1, none⟩ = some x1 := hst.token.cell 1
  have q2 : w.cell? ⟨w0.heap.size + 1, 2, none⟩ = some x2 := hst.token.cell 2
  have q3 : w.cell? ⟨w0.heap.size + 1, 3, none⟩ = some x3 := hst.token.cell 3
  have q4 : ∀ i, w.frozen? ⟨w0.heap.size + 1, i, none⟩ = false := fun i => hst.token.frozen i
  have HT := Lib.hid htake
  have HC := Lib.hid hcall
  clear htake hcall
  go_wp2_with (go_at_call 33; refine (HC.out _).mono ?_; rintro e w1 ⟨rfl, hb⟩; have hb' := bcell hb; obtain ⟨hc, hf⟩ := hb')
  go_step3
  rename_i hK
  refine hK _ _ ?_
  exact HT.out e _ (hst.put hb _ _ _ _) _ _ _ _ _ _ _ _ _ _ _ _ _ _ _ _ _ _ _ _ _ _ _ _ _ _ _ _ _ _ _ _ _ _ _ _ _ _ _ _ _ _ _ _ _ _ _ _ _ _ _ _ _ _ _ _ _ _ _ _ _ _ _ _ _ _ _ _ _ _ _ _ _ _ _ _ _ _ _ _ _ _ _ _ _ _ _ _ _ _ _ _ _ _ _ _ _ _ _ _ _ _ _ _ _ _ _ _ _ _ _ _ _ _ _ _ _ _ _ _ _ _ _ _ _
end Go.Proofs.Ytcncbdnnakfgcaa
