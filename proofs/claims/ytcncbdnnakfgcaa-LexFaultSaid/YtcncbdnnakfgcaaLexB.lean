/- The contract of lex.All: its labels word, number, comment and next, and All itself. -/
import Derived.Test.YtcncbdnnakfgcaaLexA
namespace Go.Proofs.Ytcncbdnnakfgcaa
open Go.ChangeShapes Go.WideShapes Go.ChangeAt Go.RowKit
set_option linter.unusedVariables false
theorem ld_cases {c : UInt8} (h : isLD c = true) : isLo c = true ∨ (isLo c = false ∧ isDi c = true) := by
  cases hl : isLo c
  · rw [isLD, hl] at h
    exact .inr ⟨rfl, by simpa using h⟩
  · exact .inl rfl
theorem ld_false {c : UInt8} (h : isLD c = false) : isLo c = false ∧ isDi c = false := by
  rw [isLD, Bool.or_eq_false_iff] at h
  exact h

set_option maxRecDepth 100000 in
set_option maxHeartbeats 4000000 in
theorem at_word (Q : Exit → Act → World → Prop) (s : ByteArray) (w0 w : World) (v c : Value) (pre : List (Tok × Nat)) (x0 x1 x2 x3 : Value) (at_ : Nat) (t : Tok × Nat)
    (hs : s.size ≤ 100000) (hat : at_ ≤ s.size) (hst : St w0 w v pre #[x0, x1, x2, x3]) (hcall : TokCall 31 (s.extract at_ (at_ + (((bl s).drop at_).takeWhile isLD).length)) t)
    (htake : ∀ (e' : Value) (w' : World), St w0 w' v pre #[.int .i64 t.1.kind, .string (bs t.1.text), .int .i64 t.1.n, .int .i64 0] → HoldC Q 6 s w0.heap.size v (.int .i64 t.2) (.int .i64 at_) e' w') :
    ∀ (k e : Nat), e + k = at_ + (((bl s).drop at_).takeWhile isLD).length → at_ ≤ e → HoldC Q 3 s w0.heap.size v c (.int .i64 at_) (.int .i64 e) w := by
  have hsz := hst.sz
  have q0 : w.cell? ⟨w0.heap.size + 1, 0, none⟩ = some x0 := hst.token.cell 0
  have q1 : w.cell? ⟨w0.heap.size + 1, 1, none⟩ = some x1 := hst.token.cell 1
  have q2 : w.cell? ⟨w0.heap.size + 1, 2, none⟩ = some x2 := hst.token.cell 2
  have q3 : w.cell? ⟨w0.heap.size + 1, 3, none⟩ = some x3 := hst.token.cell 3
  have q4 : ∀ i, w.frozen? ⟨w0.heap.size + 1, i, none⟩ = false := fun i => hst.token.frozen i
  have HT := Lib.hid htake
  have HC := Lib.hid hcall
  clear htake hcall
  have hnle := tw_le (p := isLD) hat
  intro k
  induction k with
  | zero =>
    intro e he hae
    rw [Nat.add_zero] at he
    have HE := Lib.hid he
    rw [← he] at HC hnle
    by_cases hlt : e < s.size
    · have hpf := tw_false he hlt
      clear he
      obtain ⟨hl, hd⟩ := ld_false hpf
      clear hpf
      intro u1 u9 u10 u11 u12 u13 u14 u15 u16 u17 u18 u19 u20 u21 u22 u23 u24 u25 u26 u27 u28 u29 u30 u31 u32 u33 u34 u35 u36 u37 u38 u39 u40 u41 u42 u43 u44 u45 u46 u47 u48 u49 u50 u51 u52 u53 u54 u55 u56 u57 u58 u59 u60 u61 u62 u63 u64 u65 u66 u67 u68 u69 u70 u71 u72 u73 u74 u75 u76 u77 u78 u79 u80 u81 u82 u83 u84 u85 u86 u87 u88 u89 u90 u91 u92 u93 u94 u95 u96 u97 u98 u99 u100 u101 u102 u103 u104 u105 u106 u107 u108 u109 u110 u111 u112 u113 u114 u115 u116 u117 u118 u119 u120 u121 u122 u123 u124 u125 u126 u127 u128 u129 u130 u131 u132
      conv => arg 2; whnf
      go_wp2_with (first
        | (go_at_call 29; refine (letter_any _ _).mono ?_; rintro e w' ⟨rfl, rfl⟩)
        | (go_at_call 30; refine (digit_any _ _).mono ?_; rintro e w' ⟨rfl, rfl⟩)
        | (go_at_call 31; refine (HC.out _).mono ?_; rintro e1 w1 ⟨rfl, hb⟩; have hb' := bcell hb; obtain ⟨hc, hf⟩ := hb'))
      go_step3
      refine cps_goto ?_
      exact (HT.out (.int .i64 e) _ (hst.put hb _ _ _ _)).hold find6 _ _ _ _ _ _ _ _ _ _ _ _ _ _ _ _ _ _ _ _ _ _ _ _ _ _ _ _ _ _ _ _ _ _ _ _ _ _ _ _ _ _ _ _ _ _ _ _ _ _ _ _ _ _ _ _ _ _ _ _ _ _ _ _ _ _ _ _ _ _ _ _ _ _ _ _ _ _ _ _ _ _ _ _ _ _ _ _ _ _ _ _ _ _ _ _ _ _ _ _ _ _ _ _ _ _ _ _ _ _ _ _ _ _ _ _ _ _ _ _ _ _ _ _ _
    · clear he
      intro u1 u9 u10 u11 u12 u13 u14 u15 u16 u17 u18 u19 u20 u21 u22 u23 u24 u25 u26 u27 u28 u29 u30 u31 u32 u33 u34 u35 u36 u37 u38 u39 u40 u41 u42 u43 u44 u45 u46 u47 u48 u49 u50 u51 u52 u53 u54 u55 u56 u57 u58 u59 u60 u61 u62 u63 u64 u65 u66 u67 u68 u69 u70 u71 u72 u73 u74 u75 u76 u77 u78 u79 u80 u81 u82 u83 u84 u85 u86 u87 u88 u89 u90 u91 u92 u93 u94 u95 u96 u97 u98 u99 u100 u101 u102 u103 u104 u105 u106 u107 u108 u109 u110 u111 u112 u113 u114 u115 u116 u117 u118 u119 u120 u121 u122 u123 u124 u125 u126 u127 u128 u129 u130 u131 u132
      conv => arg 2; whnf
      go_wp2_with (first
        | (go_at_call 29; refine (letter_any _ _).mono ?_; rintro e w' ⟨rfl, rfl⟩)
        | (go_at_call 30; refine (digit_any _ _).mono ?_; rintro e w' ⟨rfl, rfl⟩)
        | (go_at_call 31; refine (HC.out _).mono ?_; rintro e1 w1 ⟨rfl, hb⟩; have hb' := bcell hb; obtain ⟨hc, hf⟩ := hb'))
      go_step3
      refine cps_goto ?_
      exact (HT.out (.int .i64 e) _ (hst.put hb _ _ _ _)).hold find6 _ _ _ _ _ _ _ _ _ _ _ _ _ _ _ _ _ _ _ _ _ _ _ _ _ _ _ _ _ _ _ _ _ _ _ _ _ _ _ _ _ _ _ _ _ _ _ _ _ _ _ _ _ _ _ _ _ _ _ _ _ _ _ _ _ _ _ _ _ _ _ _ _ _ _ _ _ _ _ _ _ _ _ _ _ _ _ _ _ _ _ _ _ _ _ _ _ _ _ _ _ _ _ _ _ _ _ _ _ _ _ _ _ _ _ _ _ _ _ _ _ _ _ _ _
  | succ k ih =>
    intro e he hae
    obtain ⟨hlt, hpt⟩ := tw_true (p := isLD) (s := s) hae (by omega)
    have IH := Lib.hid (HoldC.hold (ih (e + 1) (by omega) (by omega)) find3)
    clear ih he
    rcases ld_cases hpt with hl | ⟨hl, hd⟩
    all_goals clear hpt
    all_goals
      intro u1 u9 u10 u11 u12 u13 u14 u15 u16 u17 u18 u19 u20 u21 u22 u23 u24 u25 u26 u27 u28 u29 u30 u31 u32 u33 u34 u35 u36 u37 u38 u39 u40 u41 u42 u43 u44 u45 u46 u47 u48 u49 u50 u51 u52 u53 u54 u55 u56 u57 u58 u59 u60 u61 u62 u63 u64 u65 u66 u67 u68 u69 u70 u71 u72 u73 u74 u75 u76 u77 u78 u79 u80 u81 u82 u83 u84 u85 u86 u87 u88 u89 u90 u91 u92 u93 u94 u95 u96 u97 u98 u99 u100 u101 u102 u103 u104 u105 u106 u107 u108 u109 u110 u111 u112 u113 u114 u115 u116 u117 u118 u119 u120 u121 u122 u123 u124 u125 u126 u127 u128 u129 u130 u131 u132
      conv => arg 2; whnf
      go_wp2_with (first
        | (go_at_call 29; refine (letter_any _ _).mono ?_; rintro e w' ⟨rfl, rfl⟩)
        | (go_at_call 30; refine (digit_any _ _).mono ?_; rintro e w' ⟨rfl, rfl⟩))
      go_step3
      refine cps_goto ?_
      exact IH.out ..

set_option maxRecDepth 100000 in
set_option maxHeartbeats 4000000 in
theorem at_number (Q : Exit → Act → World → Prop) (s : ByteArray) (w0 w : World) (v c : Value) (pre : List (Tok × Nat)) (x0 x1 x2 x3 : Value) (at_ : Nat) (t : Tok × Nat)
    (hs : s.size ≤ 100000) (hat : at_ ≤ s.size) (hst : St w0 w v pre #[x0, x1, x2, x3]) (hcall : TokCall 32 (s.extract at_ (at_ + (((bl s).drop at_).takeWhile isDi).length)) t)
    (htake : ∀ (e' : Value) (w' : World), St w0 w' v pre #[.int .i64 t.1.kind, .string (bs t.1.text), .int .i64 t.1.n, .int .i64 0] → HoldC Q 6 s w0.heap.size v (.int .i64 t.2) (.int .i64 at_) e' w') :
    ∀ (k e : Nat), e + k = at_ + (((bl s).drop at_).takeWhile isDi).length → at_ ≤ e → HoldC Q 4 s w0.heap.size v c (.int .i64 at_) (.int .i64 e) w := by
  have hsz := hst.sz
  have q0 : w.cell? ⟨w0.heap.size + 1, 0, none⟩ = some x0 := hst.token.cell 0
  have q1 : w.cell? ⟨w0.heap.size + 1, 1, none⟩ = some x1 := hst.token.cell 1
  have q2 : w.cell? ⟨w0.heap.size + 1, 2, none⟩ = some x2 := hst.token.cell 2
  have q3 : w.cell? ⟨w0.heap.size + 1, 3, none⟩ = some x3 := hst.token.cell 3
  have q4 : ∀ i, w.frozen? ⟨w0.heap.size + 1, i, none⟩ = false := fun i => hst.token.frozen i
  have HT := Lib.hid htake
  have HC := Lib.hid hcall
  clear htake hcall
  have hnle := tw_le (p := isDi) hat
  intro k
  induction k with
  | zero =>
    intro e he hae
    rw [Nat.add_zero] at he
    have HE := Lib.hid he
    rw [← he] at HC hnle
    by_cases hlt : e < s.size
    · have hpf := tw_false he hlt
      clear he
      have hd := hpf
      clear hpf
      intro u1 u9 u10 u11 u12 u13 u14 u15 u16 u17 u18 u19 u20 u21 u22 u23 u24 u25 u26 u27 u28 u29 u30 u31 u32 u33 u34 u35 u36 u37 u38 u39 u40 u41 u42 u43 u44 u45 u46 u47 u48 u49 u50 u51 u52 u53 u54 u55 u56 u57 u58 u59 u60 u61 u62 u63 u64 u65 u66 u67 u68 u69 u70 u71 u72 u73 u74 u75 u76 u77 u78 u79 u80 u81 u82 u83 u84 u85 u86 u87 u88 u89 u90 u91 u92 u93 u94 u95 u96 u97 u98 u99 u100 u101 u102 u103 u104 u105 u106 u107 u108 u109 u110 u111 u112 u113 u114 u115 u116 u117 u118 u119 u120 u121 u122 u123 u124 u125 u126 u127 u128 u129 u130 u131 u132
      conv => arg 2; whnf
      go_wp2_with (first
        | (go_at_call 30; refine (digit_any _ _).mono ?_; rintro e w' ⟨rfl, rfl⟩)
        | (go_at_call 32; refine (HC.out _).mono ?_; rintro e1 w1 ⟨rfl, hb⟩; have hb' := bcell hb; obtain ⟨hc, hf⟩ := hb'))
      go_step3
      refine cps_goto ?_
      exact (HT.out (.int .i64 e) _ (hst.put hb _ _ _ _)).hold find6 _ _ _ _ _ _ _ _ _ _ _ _ _ _ _ _ _ _ _ _ _ _ _ _ _ _ _ _ _ _ _ _ _ _ _ _ _ _ _ _ _ _ _ _ _ _ _ _ _ _ _ _ _ _ _ _ _ _ _ _ _ _ _ _ _ _ _ _ _ _ _ _ _ _ _ _ _ _ _ _ _ _ _ _ _ _ _ _ _ _ _ _ _ _ _ _ _ _ _ _ _ _ _ _ _ _ _ _ _ _ _ _ _ _ _ _ _ _ _ _ _ _ _ _ _
    · clear he
      intro u1 u9 u10 u11 u12 u13 u14 u15 u16 u17 u18 u19 u20 u21 u22 u23 u24 u25 u26 u27 u28 u29 u30 u31 u32 u33 u34 u35 u36 u37 u38 u39 u40 u41 u42 u43 u44 u45 u46 u47 u48 u49 u50 u51 u52 u53 u54 u55 u56 u57 u58 u59 u60 u61 u62 u63 u64 u65 u66 u67 u68 u69 u70 u71 u72 u73 u74 u75 u76 u77 u78 u79 u80 u81 u82 u83 u84 u85 u86 u87 u88 u89 u90 u91 u92 u93 u94 u95 u96 u97 u98 u99 u100 u101 u102 u103 u104 u105 u106 u107 u108 u109 u110 u111 u112 u113 u114 u115 u116 u117 u118 u119 u120 u121 u122 u123 u124 u125 u126 u127 u128 u129 u130 u131 u132
      conv => arg 2; whnf
      go_wp2_with (first
        | (go_at_call 30; refine (digit_any _ _).mono ?_; rintro e w' ⟨rfl, rfl⟩)
        | (go_at_call 32; refine (HC.out _).mono ?_; rintro e1 w1 ⟨rfl, hb⟩; have hb' := bcell hb; obtain ⟨hc, hf⟩ := hb'))
      go_step3
      refine cps_goto ?_
      exact (HT.out (.int .i64 e) _ (hst.put hb _ _ _ _)).hold find6 _ _ _ _ _ _ _ _ _ _ _ _ _ _ _ _ _ _ _ _ _ _ _ _ _ _ _ _ _ _ _ _ _ _ _ _ _ _ _ _ _ _ _ _ _ _ _ _ _ _ _ _ _ _ _ _ _ _ _ _ _ _ _ _ _ _ _ _ _ _ _ _ _ _ _ _ _ _ _ _ _ _ _ _ _ _ _ _ _ _ _ _ _ _ _ _ _ _ _ _ _ _ _ _ _ _ _ _ _ _ _ _ _ _ _ _ _ _ _ _ _ _ _ _ _
  | succ k ih =>
    intro e he hae
    obtain ⟨hlt, hpt⟩ := tw_true (p := isDi) (s := s) hae (by omega)
    have IH := Lib.hid (HoldC.hold (ih (e + 1) (by omega) (by omega)) find4)
    clear ih he
    have hd := hpt
    clear hpt
    all_goals
      intro u1 u9 u10 u11 u12 u13 u14 u15 u16 u17 u18 u19 u20 u21 u22 u23 u24 u25 u26 u27 u28 u29 u30 u31 u32 u33 u34 u35 u36 u37 u38 u39 u40 u41 u42 u43 u44 u45 u46 u47 u48 u49 u50 u51 u52 u53 u54 u55 u56 u57 u58 u59 u60 u61 u62 u63 u64 u65 u66 u67 u68 u69 u70 u71 u72 u73 u74 u75 u76 u77 u78 u79 u80 u81 u82 u83 u84 u85 u86 u87 u88 u89 u90 u91 u92 u93 u94 u95 u96 u97 u98 u99 u100 u101 u102 u103 u104 u105 u106 u107 u108 u109 u110 u111 u112 u113 u114 u115 u116 u117 u118 u119 u120 u121 u122 u123 u124 u125 u126 u127 u128 u129 u130 u131 u132
      conv => arg 2; whnf
      go_wp2_with (first
        | (go_at_call 30; refine (digit_any _ _).mono ?_; rintro e w' ⟨rfl, rfl⟩))
      go_step3
      refine cps_goto ?_
      exact IH.out ..

set_option maxRecDepth 100000 in
set_option maxHeartbeats 4000000 in
/-- comment: up to the line's end, or the text's. -/
theorem at_comment (Q : Exit → Act → World → Prop) (s : ByteArray) (w0 w : World) (v c e : Value) (at_ : Nat) (hs : s.size ≤ 100000) (hat : at_ ≤ s.size)
    (hnext : Hold Q 0 s w0.heap.size v c (.int .i64 (at_ + (((bl s).drop at_).takeWhile notNl).length : Nat)) e w) :
    ∀ (k a : Nat), a + k = at_ + (((bl s).drop at_).takeWhile notNl).length → at_ ≤ a → HoldC Q 2 s w0.heap.size v c (.int .i64 a) e w := by
  have hnle := tw_le (p := notNl) hat
  have HN := Lib.hid hnext
  clear hnext
  intro k
  induction k with
  | zero =>
    intro a he hae
    rw [Nat.add_zero] at he
    rw [← he] at HN hnle
    by_cases hlt : a < s.size
    · have hpf := tw_false he hlt
      have h10 : (((s[a].toNat : Nat) : Int) != 10) = false := by simp [notNl] at hpf ⊢; omega
      clear he hpf
      intro u1 u9 u10 u11 u12 u13 u14 u15 u16 u17 u18 u19 u20 u21 u22 u23 u24 u25 u26 u27 u28 u29 u30 u31 u32 u33 u34 u35 u36 u37 u38 u39 u40 u41 u42 u43 u44 u45 u46 u47 u48 u49 u50 u51 u52 u53 u54 u55 u56 u57 u58 u59 u60 u61 u62 u63 u64 u65 u66 u67 u68 u69 u70 u71 u72 u73 u74 u75 u76 u77 u78 u79 u80 u81 u82 u83 u84 u85 u86 u87 u88 u89 u90 u91 u92 u93 u94 u95 u96 u97 u98 u99 u100 u101 u102 u103 u104 u105 u106 u107 u108 u109 u110 u111 u112 u113 u114 u115 u116 u117 u118 u119 u120 u121 u122 u123 u124 u125 u126 u127 u128 u129 u130 u131 u132
      conv => arg 2; whnf
      go_wp2_with fail
      go_step3
      refine cps_goto ?_
      exact HN.out ..
    · clear he
      intro u1 u9 u10 u11 u12 u13 u14 u15 u16 u17 u18 u19 u20 u21 u22 u23 u24 u25 u26 u27 u28 u29 u30 u31 u32 u33 u34 u35 u36 u37 u38 u39 u40 u41 u42 u43 u44 u45 u46 u47 u48 u49 u50 u51 u52 u53 u54 u55 u56 u57 u58 u59 u60 u61 u62 u63 u64 u65 u66 u67 u68 u69 u70 u71 u72 u73 u74 u75 u76 u77 u78 u79 u80 u81 u82 u83 u84 u85 u86 u87 u88 u89 u90 u91 u92 u93 u94 u95 u96 u97 u98 u99 u100 u101 u102 u103 u104 u105 u106 u107 u108 u109 u110 u111 u112 u113 u114 u115 u116 u117 u118 u119 u120 u121 u122 u123 u124 u125 u126 u127 u128 u129 u130 u131 u132
      conv => arg 2; whnf
      go_wp2_with fail
      go_step3
      refine cps_goto ?_
      exact HN.out ..
  | succ k ih =>
    intro a he hae
    obtain ⟨hlt, hpt⟩ := tw_true (p := notNl) (s := s) hae (by omega)
    have IH := Lib.hid (HoldC.hold (ih (a + 1) (by omega) (by omega)) find2)
    have h10 : (((s[a].toNat : Nat) : Int) != 10) = true := by simp [notNl] at hpt ⊢; omega
    clear ih he hpt
    intro u1 u9 u10 u11 u12 u13 u14 u15 u16 u17 u18 u19 u20 u21 u22 u23 u24 u25 u26 u27 u28 u29 u30 u31 u32 u33 u34 u35 u36 u37 u38 u39 u40 u41 u42 u43 u44 u45 u46 u47 u48 u49 u50 u51 u52 u53 u54 u55 u56 u57 u58 u59 u60 u61 u62 u63 u64 u65 u66 u67 u68 u69 u70 u71 u72 u73 u74 u75 u76 u77 u78 u79 u80 u81 u82 u83 u84 u85 u86 u87 u88 u89 u90 u91 u92 u93 u94 u95 u96 u97 u98 u99 u100 u101 u102 u103 u104 u105 u106 u107 u108 u109 u110 u111 u112 u113 u114 u115 u116 u117 u118 u119 u120 u121 u122 u123 u124 u125 u126 u127 u128 u129 u130 u131 u132
    conv => arg 2; whnf
    go_wp2_with fail
    go_step3
    refine cps_goto ?_
    exact IH.out ..

theorem call_word {s : ByteArray} {at_ : Nat} {c : UInt8} {r : Bs} (hs : s.size ≤ 100000) (hl : (bl s).drop at_ = c :: r) (h : isLo c = true) :
    TokCall 31 (s.extract at_ (at_ + (((bl s).drop at_).takeWhile isLD).length)) (tokT (c :: r)) := by
  intro W
  have h1 := wordTok_any (s.extract at_ (at_ + (((bl s).drop at_).takeWhile isLD).length)) W (by rw [ByteArray.size_extract]; omega)
  rw [tw_cut rfl, hl] at h1
  have h2 : tokT (c :: r) = wordT ((c :: r).takeWhile isLD) := by simp only [tokT, h, if_true]
  rw [h2, hl]
  exact h1
theorem call_number {s : ByteArray} {at_ : Nat} {c : UInt8} {r : Bs} (hs : s.size ≤ 100000) (hat : at_ ≤ s.size) (hl : (bl s).drop at_ = c :: r) (h : isLo c = false) (hd : isDi c = true) :
    TokCall 32 (s.extract at_ (at_ + (((bl s).drop at_).takeWhile isDi).length)) (tokT (c :: r)) := by
  intro W
  have hcut := tw_cut (p := isDi) (s := s) (at_ := at_) rfl
  have h1 := numTok_any (s.extract at_ (at_ + (((bl s).drop at_).takeWhile isDi).length)) W (by rw [ByteArray.size_extract]; omega)
    (by rw [size_bl, hcut, hl, takeWhile_ne hd]; simp) (by rw [hcut]; exact List.all_takeWhile)
  rw [hcut, hl] at h1
  have h2 : tokT (c :: r) = numT ((c :: r).takeWhile isDi) := by simp [tokT, h, hd]
  rw [h2, hl]
  exact h1
theorem call_sign {s : ByteArray} {at_ : Nat} {c : UInt8} {r : Bs} (hs : s.size ≤ 100000) (hl : (bl s).drop at_ = c :: r) (h : isLo c = false) (hd : isDi c = false) :
    TokCall 33 (s.extract at_ s.size) (tokT (c :: r)) := by
  intro W
  have h1 := signTok_any (s.extract at_ s.size) W (by rw [ByteArray.size_extract]; omega)
  have hcut : bl (s.extract at_ s.size) = c :: r := by rw [← hl]; exact Lib.extract_to_end s at_
  rw [hcut] at h1
  have h2 : tokT (c :: r) = signT (c :: r) := by simp [tokT, h, hd]
  rw [h2]
  exact h1

theorem drop_tw (p : UInt8 → Bool) (l : Bs) : l.drop (l.takeWhile p).length = l.dropWhile p := by
  induction l with
  | nil => rfl
  | cons c r ih =>
    cases h : p c with
    | true => simp [h, ih]
    | false => simp [h]
theorem front {s : ByteArray} {at_ : Nat} {c : UInt8} {r : Bs} (hl : (bl s).drop at_ = c :: r) : ∃ h : at_ < s.size, s[at_] = c ∧ (bl s).drop (at_ + 1) = r := by
  have h : at_ < s.size := by
    rw [size_bl]
    rcases Nat.lt_or_ge at_ (bl s).length with h | h
    · exact h
    · rw [List.drop_of_length_le h] at hl; cases hl
  have h1 := bl_at s at_ h
  rw [hl] at h1
  injection h1 with h1 h2
  exact ⟨h, h1.symm, h2.symm⟩

set_option maxRecDepth 100000 in
set_option maxHeartbeats 4000000 in
/-- next, at a byte with which no blank and no comment begins. -/
theorem at_token (Q : Exit → Act → World → Prop) (s : ByteArray) (w0 w : World) (v c0 e : Value) (pre : List (Tok × Nat)) (x0 x1 x2 x3 : Value) (at_ : Nat) (c : UInt8) (r : Bs)
    (hs : s.size ≤ 100000) (hst : St w0 w v pre #[x0, x1, x2, x3]) (hl : (bl s).drop at_ = c :: r) (hsp : isSp c = false) (h35 : c.toNat ≠ 35)
    (htake : ∀ (e' : Value) (w' : World), St w0 w' v pre #[.int .i64 (tokT (c :: r)).1.kind, .string (bs (tokT (c :: r)).1.text), .int .i64 (tokT (c :: r)).1.n, .int .i64 0] →
      HoldC Q 6 s w0.heap.size v (.int .i64 (tokT (c :: r)).2) (.int .i64 at_) e' w') :
    HoldC Q 0 s w0.heap.size v c0 (.int .i64 at_) e w := by
  obtain ⟨hlt, hc, hr⟩ := front hl
  have q35 : (((s[at_].toNat : Nat) : Int) == 35) = false := by rw [hc]; simp; omega
  have qsp : isSp s[at_] = false := by rw [hc]; exact hsp
  have qe : (((at_ : Nat) : Int) == ((s.size : Nat) : Int)) = false := by simp; omega
  cases hlo : isLo c with
  | true =>
    have qlo : isLo s[at_] = true := by rw [hc]; exact hlo
    have hn : 1 ≤ (((bl s).drop at_).takeWhile isLD).length := by rw [hl, takeWhile_ne (isLD_of_lo hlo)]; simp
    have H := Lib.hid ((at_word Q s w0 w v c0 pre x0 x1 x2 x3 at_ (tokT (c :: r)) hs (by omega) hst (call_word hs hl hlo) htake ((((bl s).drop at_).takeWhile isLD).length - 1) (at_ + 1) (by omega) (by omega)).hold find3)
    clear hl htake hr hn hsp h35 hst hlo hc
    intro u1 u9 u10 u11 u12 u13 u14 u15 u16 u17 u18 u19 u20 u21 u22 u23 u24 u25 u26 u27 u28 u29 u30 u31 u32 u33 u34 u35 u36 u37 u38 u39 u40 u41 u42 u43 u44 u45 u46 u47 u48 u49 u50 u51 u52 u53 u54 u55 u56 u57 u58 u59 u60 u61 u62 u63 u64 u65 u66 u67 u68 u69 u70 u71 u72 u73 u74 u75 u76 u77 u78 u79 u80 u81 u82 u83 u84 u85 u86 u87 u88 u89 u90 u91 u92 u93 u94 u95 u96 u97 u98 u99 u100 u101 u102 u103 u104 u105 u106 u107 u108 u109 u110 u111 u112 u113 u114 u115 u116 u117 u118 u119 u120 u121 u122 u123 u124 u125 u126 u127 u128 u129 u130 u131 u132
    conv => arg 2; whnf
    go_wp2_with (first
      | (go_at_call 28; refine (space_any _ _).mono ?_; rintro e w' ⟨rfl, rfl⟩)
      | (go_at_call 29; refine (letter_any _ _).mono ?_; rintro e w' ⟨rfl, rfl⟩)
      | (go_at_call 30; refine (digit_any _ _).mono ?_; rintro e w' ⟨rfl, rfl⟩))
    go_step3
    refine cps_goto ?_
    exact H.out ..
  | false =>
    have qlo : isLo s[at_] = false := by rw [hc]; exact hlo
    cases hdi : isDi c with
    | true =>
      have qdi : isDi s[at_] = true := by rw [hc]; exact hdi
      have hn : 1 ≤ (((bl s).drop at_).takeWhile isDi).length := by rw [hl, takeWhile_ne hdi]; simp
      have H := Lib.hid ((at_number Q s w0 w v c0 pre x0 x1 x2 x3 at_ (tokT (c :: r)) hs (by omega) hst (call_number hs (by omega) hl hlo hdi) htake ((((bl s).drop at_).takeWhile isDi).length - 1) (at_ + 1) (by omega) (by omega)).hold find4)
      clear hl htake hr hn hsp h35 hst hlo hdi hc
      intro u1 u9 u10 u11 u12 u13 u14 u15 u16 u17 u18 u19 u20 u21 u22 u23 u24 u25 u26 u27 u28 u29 u30 u31 u32 u33 u34 u35 u36 u37 u38 u39 u40 u41 u42 u43 u44 u45 u46 u47 u48 u49 u50 u51 u52 u53 u54 u55 u56 u57 u58 u59 u60 u61 u62 u63 u64 u65 u66 u67 u68 u69 u70 u71 u72 u73 u74 u75 u76 u77 u78 u79 u80 u81 u82 u83 u84 u85 u86 u87 u88 u89 u90 u91 u92 u93 u94 u95 u96 u97 u98 u99 u100 u101 u102 u103 u104 u105 u106 u107 u108 u109 u110 u111 u112 u113 u114 u115 u116 u117 u118 u119 u120 u121 u122 u123 u124 u125 u126 u127 u128 u129 u130 u131 u132
      conv => arg 2; whnf
      go_wp2_with (first
        | (go_at_call 28; refine (space_any _ _).mono ?_; rintro e w' ⟨rfl, rfl⟩)
        | (go_at_call 29; refine (letter_any _ _).mono ?_; rintro e w' ⟨rfl, rfl⟩)
        | (go_at_call 30; refine (digit_any _ _).mono ?_; rintro e w' ⟨rfl, rfl⟩))
      go_step3
      refine cps_goto ?_
      exact H.out ..
    | false =>
      have qdi : isDi s[at_] = false := by rw [hc]; exact hdi
      have H := Lib.hid ((at_sign Q s w0 w v c0 (.int .i64 (at_ + 1 : Nat)) pre x0 x1 x2 x3 at_ (tokT (c :: r)) hs (by omega) hst (call_sign hs hl hlo hdi) htake).hold find5)
      clear hl htake hr hsp h35 hst hlo hdi hc
      intro u1 u9 u10 u11 u12 u13 u14 u15 u16 u17 u18 u19 u20 u21 u22 u23 u24 u25 u26 u27 u28 u29 u30 u31 u32 u33 u34 u35 u36 u37 u38 u39 u40 u41 u42 u43 u44 u45 u46 u47 u48 u49 u50 u51 u52 u53 u54 u55 u56 u57 u58 u59 u60 u61 u62 u63 u64 u65 u66 u67 u68 u69 u70 u71 u72 u73 u74 u75 u76 u77 u78 u79 u80 u81 u82 u83 u84 u85 u86 u87 u88 u89 u90 u91 u92 u93 u94 u95 u96 u97 u98 u99 u100 u101 u102 u103 u104 u105 u106 u107 u108 u109 u110 u111 u112 u113 u114 u115 u116 u117 u118 u119 u120 u121 u122 u123 u124 u125 u126 u127 u128 u129 u130 u131 u132
      conv => arg 2; whnf
      go_wp2_with (first
        | (go_at_call 28; refine (space_any _ _).mono ?_; rintro e w' ⟨rfl, rfl⟩)
        | (go_at_call 29; refine (letter_any _ _).mono ?_; rintro e w' ⟨rfl, rfl⟩)
        | (go_at_call 30; refine (digit_any _ _).mono ?_; rintro e w' ⟨rfl, rfl⟩))
      go_step3
      refine cps_goto ?_
      exact H.out ..

set_option maxRecDepth 100000 in
set_option maxHeartbeats 4000000 in
theorem at_next (s : ByteArray) (w0 : World) (hs : s.size ≤ 100000) {l : Bs} {at_ cnt : Nat} {R : Res} (hx : Lx l at_ cnt R) :
    ∀ (w : World) (v c e : Value) (pre : List (Tok × Nat)) (cs : Array Value), (bl s).drop at_ = l → at_ ≤ s.size → pre.length = cnt → cnt ≤ 2000 → cs.size = 4 → St w0 w v pre cs →
      HoldC (QA (Res.app pre R) w0) 0 s w0.heap.size v c (.int .i64 at_) e w := by
  induction hx with
  | nil at_ cnt =>
    intro w v c e pre cs hl hat hp hc hcs hst
    have hsz : at_ = s.size := by
      have := congrArg List.length hl
      rw [List.length_drop, ← size_bl] at this
      simp at this
      omega
    subst hsz
    have H := Lib.hid ((at_done s w0 w v c (.int .i64 (s.size + 1 : Nat)) pre cs hs hst (by omega)).hold find1)
    have qe : (((s.size : Nat) : Int) == ((s.size : Nat) : Int)) = true := by simp
    clear hl hst hp hc hat
    intro u1 u9 u10 u11 u12 u13 u14 u15 u16 u17 u18 u19 u20 u21 u22 u23 u24 u25 u26 u27 u28 u29 u30 u31 u32 u33 u34 u35 u36 u37 u38 u39 u40 u41 u42 u43 u44 u45 u46 u47 u48 u49 u50 u51 u52 u53 u54 u55 u56 u57 u58 u59 u60 u61 u62 u63 u64 u65 u66 u67 u68 u69 u70 u71 u72 u73 u74 u75 u76 u77 u78 u79 u80 u81 u82 u83 u84 u85 u86 u87 u88 u89 u90 u91 u92 u93 u94 u95 u96 u97 u98 u99 u100 u101 u102 u103 u104 u105 u106 u107 u108 u109 u110 u111 u112 u113 u114 u115 u116 u117 u118 u119 u120 u121 u122 u123 u124 u125 u126 u127 u128 u129 u130 u131 u132
    conv => arg 2; whnf
    go_wp2_with fail
    go_step3
    refine cps_goto ?_
    exact H.out ..
  | @sp c1 r at_ cnt R h t ih =>
    intro w v c e pre cs hl hat hp hc hcs hst
    obtain ⟨hlt, hc1, hr⟩ := front hl
    have H := Lib.hid ((ih w v c (.int .i64 (at_ + 1 : Nat)) pre cs hr (by omega) hp hc hcs hst).hold find0)
    have qsp : isSp s[at_] = true := by rw [hc1]; exact h
    have qe : (((at_ : Nat) : Int) == ((s.size : Nat) : Int)) = false := by simp; omega
    clear ih hl hr hst h hc1 t hp hc
    intro u1 u9 u10 u11 u12 u13 u14 u15 u16 u17 u18 u19 u20 u21 u22 u23 u24 u25 u26 u27 u28 u29 u30 u31 u32 u33 u34 u35 u36 u37 u38 u39 u40 u41 u42 u43 u44 u45 u46 u47 u48 u49 u50 u51 u52 u53 u54 u55 u56 u57 u58 u59 u60 u61 u62 u63 u64 u65 u66 u67 u68 u69 u70 u71 u72 u73 u74 u75 u76 u77 u78 u79 u80 u81 u82 u83 u84 u85 u86 u87 u88 u89 u90 u91 u92 u93 u94 u95 u96 u97 u98 u99 u100 u101 u102 u103 u104 u105 u106 u107 u108 u109 u110 u111 u112 u113 u114 u115 u116 u117 u118 u119 u120 u121 u122 u123 u124 u125 u126 u127 u128 u129 u130 u131 u132
    conv => arg 2; whnf
    go_wp2_with (go_at_call 28; refine (space_any _ _).mono ?_; rintro e w' ⟨rfl, rfl⟩)
    go_step3
    refine cps_goto ?_
    exact H.out ..
  | @rem c1 r at_ cnt R h h35 t ih =>
    intro w v c e pre cs hl hat hp hc hcs hst
    obtain ⟨hlt, hc1, hr⟩ := front hl
    have hnl : notNl c1 = true := by simp [notNl, h35]
    have hlen : at_ + (((bl s).drop at_).takeWhile notNl).length = at_ + 1 + (r.takeWhile notNl).length := by rw [hl, takeWhile_ne hnl, List.length_cons]; omega
    have hle := tw_le (p := notNl) (s := s) hat
    have hdrop : (bl s).drop (at_ + 1 + (r.takeWhile notNl).length) = r.dropWhile notNl := by
      rw [← List.drop_drop, hr]
      exact drop_tw notNl r
    have h0 := (ih w v c (.int .i64 (at_ + 1 : Nat)) pre cs hdrop (by omega) hp hc hcs hst).hold find0
    rw [← hlen] at h0
    have H := Lib.hid ((at_comment _ s w0 w v c (.int .i64 (at_ + 1 : Nat)) at_ hs hat h0 (((bl s).drop at_).takeWhile notNl).length at_ (by omega) (by omega)).hold find2)
    have qsp : isSp s[at_] = false := by rw [hc1]; exact h
    have q35 : (((s[at_].toNat : Nat) : Int) == 35) = true := by rw [hc1, h35]; rfl
    have qe : (((at_ : Nat) : Int) == ((s.size : Nat) : Int)) = false := by simp; omega
    clear ih hl hr hst h hc1 t hp hc h0 hdrop hlen hnl h35 hle
    intro u1 u9 u10 u11 u12 u13 u14 u15 u16 u17 u18 u19 u20 u21 u22 u23 u24 u25 u26 u27 u28 u29 u30 u31 u32 u33 u34 u35 u36 u37 u38 u39 u40 u41 u42 u43 u44 u45 u46 u47 u48 u49 u50 u51 u52 u53 u54 u55 u56 u57 u58 u59 u60 u61 u62 u63 u64 u65 u66 u67 u68 u69 u70 u71 u72 u73 u74 u75 u76 u77 u78 u79 u80 u81 u82 u83 u84 u85 u86 u87 u88 u89 u90 u91 u92 u93 u94 u95 u96 u97 u98 u99 u100 u101 u102 u103 u104 u105 u106 u107 u108 u109 u110 u111 u112 u113 u114 u115 u116 u117 u118 u119 u120 u121 u122 u123 u124 u125 u126 u127 u128 u129 u130 u131 u132
    conv => arg 2; whnf
    go_wp2_with (go_at_call 28; refine (space_any _ _).mono ?_; rintro e w' ⟨rfl, rfl⟩)
    go_step3
    refine cps_goto ?_
    exact H.out ..
  | @bad c1 r at_ cnt h h35 he =>
    intro w v c e pre cs hl hat hp hc hcs hst
    obtain ⟨x0, x1, x2, x3, rfl⟩ := arr4 hcs
    exact at_token _ s w0 w v c e pre x0 x1 x2 x3 at_ c1 r hs hst hl h h35 fun e' w' h' => at_take_bad s w0 w' v e' pre _ _ _ at_ h' (.inl ⟨he, rfl⟩) (by omega)
  | @full c1 r at_ cnt h h35 he hf =>
    intro w v c e pre cs hl hat hp hc hcs hst
    obtain ⟨x0, x1, x2, x3, rfl⟩ := arr4 hcs
    exact at_token _ s w0 w v c e pre x0 x1 x2 x3 at_ c1 r hs hst hl h h35 fun e' w' h' => at_take_bad s w0 w' v e' pre _ _ 4 at_ h' (.inr ⟨he, rfl, by omega⟩) (by omega)
  | @tok c1 r at_ cnt R h h35 he hc2 t ih =>
    intro w v c e pre cs hl hat hp hc hcs hst
    obtain ⟨x0, x1, x2, x3, rfl⟩ := arr4 hcs
    have htx := tok_text he
    have hln : at_ + (tokT (c1 :: r)).1.text.length ≤ s.size := by
      have h1 := congrArg List.length htx.2
      rw [List.length_take, ← hl, List.length_drop, ← size_bl] at h1
      rw [hl] at h1
      omega
    refine at_token _ s w0 w v c e pre x0 x1 x2 x3 at_ c1 r hs hst hl h h35 fun e' w' h' => ?_
    rw [he, Res.app_app]
    exact at_take_ok _ s w0 w' v e' pre (tokT (c1 :: r)).1 (.int .i64 0) at_ h' (by omega) (by omega) fun v' c' e'' w'' cs' hcs' hst' =>
      (ih w'' v' c' e'' _ cs' (by rw [← List.drop_drop, hl]) hln (by simp; omega) (by omega) hcs' hst').hold find0

theorem size_alloc1 (w : World) (o : Obj) : (w.alloc o).heap.size = w.heap.size + 1 := by simp
theorem st_start (w : World) : St w ((w.alloc (.cells #[.int .i64 0, .int .i64 0] 27)).alloc (.cells #[.int .i64 0, .string ⟨#[]⟩, .int .i64 0, .int .i64 0] 33)) (.slice none 0 0) []
    #[.int .i64 0, .string ⟨#[]⟩, .int .i64 0, .int .i64 0] := by
  refine ⟨((Below.refl _ _).alloc (Nat.le_refl _) _).alloc (by simp) _, (Blk.new w _ _).alloc _, ?_, World.ownsRow_nil _ _ _ _⟩
  have := Blk.new (w.alloc (.cells #[.int .i64 0, .int .i64 0] 27)) 33 #[.int .i64 0, .string ⟨#[]⟩, .int .i64 0, .int .i64 0]
  rwa [size_alloc1] at this

set_option maxRecDepth 100000 in
set_option maxHeartbeats 4000000 in
/-- lex.All: R's tokens, R's fault. -/
theorem All_any (s : ByteArray) (w : World) (R : Res) (hs : s.size ≤ 100000) (hx : Lx (bl s) 0 0 R) : Calls Try.prog 18 #[.string s] w (AllPost R w) := by
  have H := Lib.hid (at_next s w hs hx _ (.slice none 0 0) (.int .i64 0) (.int .i64 0) [] _ rfl (Nat.zero_le _) rfl (by omega) rfl (st_start w))
  rw [Res.app_nil] at H
  clear hx
  go_enter Try.func18, Try.ntmps18
  go_wp2_with fail
  refine scope_of (c := body18) ?_
  conv => arg 2; whnf
  go_wp2_with fail
  go_step3
  rename_i hK
  refine hK _ _ ?_
  exact H.out _ _ _ _ _ _ _ _ _ _ _ _ _ _ _ _ _ _ _ _ _ _ _ _ _ _ _ _ _ _ _ _ _ _ _ _ _ _ _ _ _ _ _ _ _ _ _ _ _ _ _ _ _ _ _ _ _ _ _ _ _ _ _ _ _ _ _ _ _ _ _ _ _ _ _ _ _ _ _ _ _ _ _ _ _ _ _ _ _ _ _ _ _ _ _ _ _ _ _ _ _ _ _ _ _ _ _ _ _ _ _ _ _ _ _ _ _ _ _ _ _ _ _ _ _
set_option maxRecDepth 100000 in
set_option maxHeartbeats 4000000 in
theorem All_long (s : ByteArray) (w : World) (hs : 100000 < s.size) (hm : s.size ≤ maxLen) : Calls Try.prog 18 #[.string s] w (AllPost (.bad 4 0) w) := by
  unfold maxLen at hm
  go_enter Try.func18, Try.ntmps18
  go_wp2_with fail
  refine scope_of (c := body18) ?_
  conv => arg 2; whnf
  go_wp2_with fail
  refine cps_ret ?_
  refine bodyPost_ret (v := .tuple #[.slice none 0 0, .agg #[.int .i64 4, .int .i64 0]]) (by simp [results, Try.results18, go_sem]) rfl ?_
  exact ⟨none, 0, rfl, World.ownsRow_nil _ _ _ _, ((Below.refl _ _).alloc (Nat.le_refl _) _).alloc (by simp) _⟩
end Go.Proofs.Ytcncbdnnakfgcaa
