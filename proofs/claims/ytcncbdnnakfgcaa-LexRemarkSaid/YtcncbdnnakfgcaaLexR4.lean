/- The contract of the reference's Lex (whittlerref1). -/
import Derived.Test.YtcncbdnnakfgcaaLexR3
namespace Go.Proofs.Ytcncbdnnakfgcaa
open Go.ChangeShapes Go.WideShapes Go.ChangeAt Go.RowKit
set_option linter.unusedVariables false

/-- the loop's memory: w0 the world at the call -/
structure Sr (w0 w : World) (v : Value) (pre : List (Tok × Nat)) : Prop where
  below : Below w0.heap.size w0 w
  fault : Blk w w0.heap.size 27 #[.int .i64 0, .int .i64 0]
  own : w.ownsRow (w0.heap.size + 1) 33 4 v pre.length (cellsT pre)
def LexInv (s : ByteArray) (w0 : World) (R : Res) (k : Nat) (v : Value) (wr : World) : Prop :=
  k ≤ s.size ∧ ∃ (pre : List (Tok × Nat)) (R' : Res), Lx ((bl s).drop k) k pre.length R' ∧ Res.app pre R' = R ∧ pre.length ≤ 2000 ∧ Sr w0 wr v pre
theorem tok_call {s : ByteArray} {k : Nat} {c : UInt8} {r : Bs} (hs : s.size ≤ 100000) (hlt : k < s.size) (hl : (bl s).drop k = c :: r) (W : World) :
    Calls Try.prog 36 #[.string (s.extract k s.size), .int .i64 k] W (TokPost (tokT (c :: r)) k W) := by
  have hcut : bl (s.extract k s.size) = c :: r := by rw [← hl]; exact Lib.extract_to_end s k
  have h := rtok_any (s.extract k s.size) k W (by rw [ByteArray.size_extract]; omega) (by rw [ByteArray.size_extract]; omega)
  rwa [hcut] at h
def LexRel (s : ByteArray) (w0 : World) (R : Res) (v i : Value) (wr : World) : Prop := ∃ k : Nat, i = .int .i64 k ∧ LexInv s w0 R k v wr

set_option maxRecDepth 100000 in
set_option maxHeartbeats 4000000 in
theorem rLex_any (s : ByteArray) (w : World) (R : Res) (hs : s.size ≤ 100000) (hx : Lx (bl s) 0 0 R) : Calls Try.prog 19 #[.string s] w (AllPost R w) := by
  have H0 : Hid (LexInv s w R 0 (.slice none 0 0) (w.alloc (.cells #[.int .i64 0, .int .i64 0] 27))) :=
    Lib.hid ⟨Nat.zero_le _, [], R, hx, Res.app_nil R, by simp, (Below.refl _ _).alloc (Nat.le_refl _) _, Blk.new _ _ _, World.ownsRow_nil _ _ _ _⟩
  obtain ⟨i0, hi0, hz0, hz1, hz2⟩ := info_parts info_tok
  have HI : Hid (Try.prog.info? 33 = some i0 ∧ i0.zero = some (.agg #[.int .i64 0, .string ⟨#[]⟩, .int .i64 0, .int .i64 0]) ∧ i0.size = 4 ∧ i0.bytes = 40) := Lib.hid ⟨hi0, hz0, hz1, hz2⟩
  clear hx hi0 hz0 hz1 hz2
  go_enter Try.func19, Try.ntmps19
  go_wp2_with fail
  go_loopw [4, 5] (fun v i wr => LexRel s w R v i wr) (fun _ i _ => s.size - (intOf i).toNat)
  case atStart => exact ⟨0, rfl, H0.out⟩
  case round =>
    obtain ⟨k, rfl, hk, pre, R', hlx, hR, hpl, hbel, hfa, hown⟩ := hrel
    by_cases hlt : k < s.size
    · have hl := bl_at s k hlt
      have HL := Lib.hid hl
      have HR := Lib.hid hR
      have HS := Lib.hid (show Sr w wr _ pre from ⟨hbel, hfa, hown⟩)
      obtain ⟨A, cap, rfl⟩ := own_form hown
      clear hR hbel hfa hown
      rw [hl] at hlx
      clear hl
      have HX := Lib.hid hlx
      cases hlx with
      | sp h t =>
        go_wp2_with (go_at_call 35; refine (blank_any _ _).mono ?_; rintro e w' ⟨rfl, rfl⟩)
        go_roundw
        case rel => exact ⟨k + 1, by go_num, by omega, pre, R', t, HR.out, hpl, HS.out⟩
        case measure => simp [intOf]; omega
      | rem h h35 t =>
        obtain ⟨n, hn⟩ : ∃ n, n = k + (((bl s).drop k).takeWhile notNl).length := ⟨_, rfl⟩
        have hle : n ≤ s.size := by rw [hn]; exact tw_le hk
        have hnl : notNl s[k] = true := by simp [notNl, h35]
        have hn2 : n = k + 1 + (((bl s).drop (k + 1)).takeWhile notNl).length := by rw [hn, HL.out, takeWhile_ne hnl, List.length_cons]; omega
        have hkn : k < n := by omega
        have HT : Hid (∀ j, k ≤ j → j < n → ∃ h : j < s.size, notNl s[j] = true) := Lib.hid fun j h1 h2 => tw_true h1 (by rw [← hn]; exact h2)
        have HF : Hid (∀ (h : n < s.size), notNl s[n] = false) := Lib.hid fun h => tw_false hn h
        have HE : Hid (Lx ((bl s).drop n) n pre.length R') := Lib.hid (by
          have h1 : (bl s).drop n = ((bl s).drop (k + 1)).dropWhile notNl := by rw [hn2, ← List.drop_drop]; exact drop_tw notNl _
          rw [h1, hn2]
          exact t)
        have q35 : (((s[k].toNat : Nat) : Int) == 35) = true := by rw [h35]; rfl
        clear hn hn2 hnl t h35 HX
        go_wp2_with (go_at_call 35; refine (blank_any _ _).mono ?_; rintro e w' ⟨rfl, rfl⟩)
        go_loop [5] (fun i => ∃ j : Nat, k ≤ j ∧ j ≤ n ∧ i = .int .i64 j) (fun i => n - (intOf i).toNat)
        case atStart => exact ⟨k, Nat.le_refl _, by omega, rfl⟩
        case round =>
          obtain ⟨j, hj1, hj2, rfl⟩ := hrel
          by_cases hjn : j < n
          · obtain ⟨hjs, hpj⟩ := HT.out j hj1 hjn
            have q10 : (((s[j].toNat : Nat) : Int) != 10) = true := by simp [notNl] at hpj ⊢; omega
            clear hpj
            go_wp2_with fail
            go_round
            case rel => exact ⟨j + 1, by omega, by omega, by go_num⟩
            case measure => simp [intOf]; omega
          · obtain rfl : j = n := by omega
            by_cases hjs : j < s.size
            · have hpj := HF.out hjs
              have q10 : (((s[j].toNat : Nat) : Int) != 10) = false := by simp [notNl] at hpj ⊢; omega
              clear hpj
              go_wp2_with fail
              go_roundw
              case rel => exact ⟨j, rfl, by omega, pre, R', HE.out, HR.out, hpl, HS.out⟩
              case measure => simp [intOf]; omega
            · go_wp2_with fail
              go_roundw
              case rel => exact ⟨j, rfl, by omega, pre, R', HE.out, HR.out, hpl, HS.out⟩
              case measure => simp [intOf]; omega
      | bad h h35 e =>
        obtain ⟨T, hT⟩ : ∃ T, T = tokT (s[k] :: (bl s).drop (k + 1)) := ⟨_, rfl⟩
        have HC : Hid (∀ W, Calls Try.prog 36 #[.string (s.extract k s.size), .int .i64 k] W (TokPost T k W)) := Lib.hid (fun W => by rw [hT]; exact tok_call hs hlt HL.out W)
        rw [← hT] at e
        have HT := Lib.hid hT
        have q35 : (((s[k].toNat : Nat) : Int) == 35) = false := by simp; omega
        have e0 : (((T.2 : Nat) : Int) == 0) = false := by simp; omega
        have e1 : (((T.2 : Nat) : Int) != 0) = true := by simp; omega
        clear h35 e
        clear hT HX
        go_wp2_with (first
          | (go_at_call 35; refine (blank_any _ _).mono ?_; rintro e w' ⟨rfl, rfl⟩)
          | (go_at_call 36; refine (HC.out _).mono ?_; rintro e w1 ⟨rfl, hb⟩; have HB := Lib.hid hb; have hfa := HS.out.fault.below hb HS.out.fault.lt; have hz1 := hb.size; have hzf := HS.out.fault.lt; have hzg : w.heap.size < w1.heap.size := (by omega); have q0 : w1.cell? ⟨w.heap.size, 0, none⟩ = some (.int .i64 0) := hfa.cell 0; have q1 : w1.cell? ⟨w.heap.size, 1, none⟩ = some (.int .i64 0) := hfa.cell 1; have q2 : w1.frozen? ⟨w.heap.size, 0, none⟩ = false := hfa.frozen 0; have q3 : w1.frozen? ⟨w.heap.size, 1, none⟩ = false := hfa.frozen 1; clear hb hfa))
        refine bodyPost_ret (v := .tuple #[.slice none 0 0, .agg #[.int .i64 T.2, .int .i64 k]]) (by simp [results, Try.results19, go_sem, q0, q1, hzg]) rfl ?_
        have hR2 := HR.out
        rw [← hR2]
        refine ⟨none, 0, by rw [HT.out]; rfl, World.ownsRow_nil _ _ _ _, ?_⟩
        exact (((below_then HS.out.below HB.out).setCell (by simp) _).setCell (by simp) _).alloc (by simp; omega) _
      | full h h35 e hc =>
        obtain ⟨T, hT⟩ : ∃ T, T = tokT (s[k] :: (bl s).drop (k + 1)) := ⟨_, rfl⟩
        have HC : Hid (∀ W, Calls Try.prog 36 #[.string (s.extract k s.size), .int .i64 k] W (TokPost T k W)) := Lib.hid (fun W => by rw [hT]; exact tok_call hs hlt HL.out W)
        rw [← hT] at e
        have HT := Lib.hid hT
        have q35 : (((s[k].toNat : Nat) : Int) == 35) = false := by simp; omega
        have e0 : (((T.2 : Nat) : Int) == 0) = true := by rw [e]; rfl
        have el : (((pre.length : Nat) : Int) == 2000) = true := by simp; omega
        clear h35 e
        clear hT HX
        go_wp2_with (first
          | (go_at_call 35; refine (blank_any _ _).mono ?_; rintro e w' ⟨rfl, rfl⟩)
          | (go_at_call 36; refine (HC.out _).mono ?_; rintro e w1 ⟨rfl, hb⟩; have HB := Lib.hid hb; have hfa := HS.out.fault.below hb HS.out.fault.lt; have hz1 := hb.size; have hzf := HS.out.fault.lt; have hzg : w.heap.size < w1.heap.size := (by omega); have q0 : w1.cell? ⟨w.heap.size, 0, none⟩ = some (.int .i64 0) := hfa.cell 0; have q1 : w1.cell? ⟨w.heap.size, 1, none⟩ = some (.int .i64 0) := hfa.cell 1; have q2 : w1.frozen? ⟨w.heap.size, 0, none⟩ = false := hfa.frozen 0; have q3 : w1.frozen? ⟨w.heap.size, 1, none⟩ = false := hfa.frozen 1; clear hb hfa))
        refine bodyPost_ret (v := .tuple #[.slice none 0 0, .agg #[.int .i64 4, .int .i64 k]]) (by simp [results, Try.results19, go_sem, q0, q1, hzg]) rfl ?_
        have hR2 := HR.out
        rw [← hR2]
        refine ⟨none, 0, by rfl, World.ownsRow_nil _ _ _ _, ?_⟩
        exact (((below_then HS.out.below HB.out).setCell (by simp) _).setCell (by simp) _).alloc (by simp; omega) _
      | @tok _ _ _ _ R1 h h35 e hc t =>
        obtain ⟨T, hT⟩ : ∃ T, T = tokT (s[k] :: (bl s).drop (k + 1)) := ⟨_, rfl⟩
        have HC : Hid (∀ W, Calls Try.prog 36 #[.string (s.extract k s.size), .int .i64 k] W (TokPost T k W)) := Lib.hid (fun W => by rw [hT]; exact tok_call hs hlt HL.out W)
        have htx := tok_text e
        rw [← hT] at e t htx
        have hln : k + T.1.text.length ≤ s.size := by
          have h1 := congrArg List.length htx.2
          rw [List.length_take, ← HL.out, List.length_drop, ← size_bl] at h1
          omega
        have hl1 := htx.1
        have HR2 : Hid (Res.app (pre ++ [(T.1, k)]) R1 = R) := Lib.hid (by rw [← Res.app_app, hT]; exact HR.out)
        have HLX : Hid (Lx ((bl s).drop (k + T.1.text.length)) (k + T.1.text.length) (pre.length + 1) R1) := Lib.hid (by rw [← List.drop_drop, HL.out]; exact t)
        have hTk : (tokAt T k : Nat) = k := by unfold tokAt; rw [if_pos e]
        rw [show T = (T.1, T.2) from rfl] at HC
        have q35 : (((s[k].toNat : Nat) : Int) == 35) = false := by simp; omega
        have e0 : (((T.2 : Nat) : Int) == 0) = true := by rw [e]; rfl
        have e1 : (((T.2 : Nat) : Int) != 0) = false := by rw [e]; rfl
        have el : (((pre.length : Nat) : Int) == 2000) = false := by simp; omega
        obtain ⟨hi0, hz0, hz1', hz2⟩ := HI.out
        have hts : (bs T.1.text).size = T.1.text.length := by rw [size_bl, bl_bs]
        have HTS := Lib.hid hts
        have HTK := Lib.hid hTk
        clear hT HX htx t h35 e hTk
        go_wp2_with (first
          | (go_at_call 35; refine (blank_any _ _).mono ?_; rintro e w' ⟨rfl, rfl⟩)
          | (go_at_call 36; refine (HC.out _).mono ?_; rintro e w1 ⟨rfl, hb⟩; have HB := Lib.hid hb; have hfa := HS.out.fault.below hb HS.out.fault.lt; have hz1 := hb.size; have hzf := HS.out.fault.lt; have hzg : w.heap.size < w1.heap.size := (by omega); have q0 : w1.cell? ⟨w.heap.size, 0, none⟩ = some (.int .i64 0) := hfa.cell 0; have q1 : w1.cell? ⟨w.heap.size, 1, none⟩ = some (.int .i64 0) := hfa.cell 1; have q2 : w1.frozen? ⟨w.heap.size, 0, none⟩ = false := hfa.frozen 0; have q3 : w1.frozen? ⟨w.heap.size, 1, none⟩ = false := hfa.frozen 1; clear hb hfa)
          | (at_builtin; refine wpList_append_own _ rfl (.tmp 58) (.tmp 60) 24 rfl (w.heap.size + 1) 33 i0 _ 4 40 Try.underlying24 hi0 hz0 hz1' hz2 rfl (by decide) _ pre.length (cellsT pre) rfl (((own_below HS.out.own HB.out).alloc _).alloc _) ⟨w1.heap.size + 1, 0, none⟩ 1 1 [.int .i64 T.1.kind, .string (bs T.1.text), .int .i64 T.1.n, .int .i64 (tokAt T k)] rfl rfl (four_cells' (by simp) _ _ _ _ _) (four_one _ _ _ _) (by unfold maxLen; omega) (by omega) (by simp; omega) ?_))
        intro v' w2 hown' hgrow _
        have hob : ∀ g, (Value.slice A pre.length cap).ownBlock = some g → w.heap.size + 1 ≤ g ∧ g < wr.heap.size := fun g hg => HS.out.own.lt g hg
        have hne0 : some w.heap.size ≠ (Value.slice A pre.length cap).ownBlock := fun he => by have := hob _ he.symm; omega
        have hne1 : some w1.heap.size ≠ (Value.slice A pre.length cap).ownBlock := fun he => by have := hob _ he.symm; omega
        have hfa2 := (((HS.out.fault.below HB.out HS.out.fault.lt).alloc _).alloc _).grown hgrow hne0
        have hto2 := ((Blk.new w1 33 #[.int .i64 T.1.kind, .string (bs T.1.text), .int .i64 T.1.n, .int .i64 (tokAt T k)]).alloc _).grown hgrow hne1
        have hbel2 : Below w.heap.size w w2 := (((below_then HS.out.below HB.out).alloc (by omega) _).alloc (by simp; omega) _).grown hgrow (by simp; omega) (fun g hg => by have := hob _ hg; omega)
        have r1 : w2.cell? ⟨w1.heap.size, 1, none⟩ = some (.string (bs T.1.text)) := hto2.cell 1
        have HSR : Hid (Sr w w2 v' (pre ++ [(T.1, k)])) := Lib.hid ⟨hbel2, hfa2, by
          rw [List.length_append, cellsT_append]
          have := hown'
          rw [HTK.out] at this
          exact this⟩
        have hle2 : k + (bs T.1.text).size ≤ 100000 := by omega
        clear hown' hgrow hob hne0 hne1 hfa2 hto2 hbel2 hi0 hz0 hz1' hz2 q0 q1 q2 q3 hts
        go_wp2_with fail
        go_roundw
        case rel => exact ⟨k + T.1.text.length, by rw [HTS.out]; go_num, hln, pre ++ [(T.1, k)], R1, by rw [List.length_append]; exact HLX.out, HR2.out, by simp; omega, HSR.out⟩
        case measure => have := HTS.out; simp [intOf]; omega
    · have hks : k = s.size := by omega
      subst hks
      have hnil : (bl s).drop s.size = [] := List.drop_of_length_le (by rw [← size_bl]; exact Nat.le_refl _)
      rw [hnil] at hlx
      cases hlx
      have hR1 := hR.symm
      subst hR1
      have hown0 := hown
      have hltf := hfa.lt
      have hsz := hbel.size
      obtain ⟨A, cap, rfl⟩ := own_form hown
      obtain ⟨hi0, hz0, hz1, hz2⟩ := HI.out
      go_wp2_with (at_builtin; refine wpList_append_own _ rfl (.tmp 67) (.tmp 71) 24 rfl (w.heap.size + 1) 33 i0 _ 4 40 Try.underlying24 hi0 hz0 hz1 hz2 rfl (by decide) _ pre.length (cellsT pre) rfl (hown.alloc _) ⟨wr.heap.size, 0, none⟩ 1 1 _ rfl rfl (four_cells _ _ _ _ _ _) (four_one _ _ _ _) (by unfold maxLen; omega) (by omega) (by simp; omega) ?_)
      intro v' w1 hown' hgrow _
      have hne : some w.heap.size ≠ (Value.slice A pre.length cap).ownBlock := fun he => by have := (hown.lt _ he.symm).1; omega
      have hfa1 := (hfa.alloc _).grown hgrow hne
      have hbel1 : Below w.heap.size w w1 := (hbel.alloc hsz _).grown hgrow (by simp; omega) (fun k hk => by have := (hown.lt _ hk).1; omega)
      have q0 : w1.cell? ⟨w.heap.size, 0, none⟩ = some (.int .i64 0) := hfa1.cell 0
      have q1 : w1.cell? ⟨w.heap.size, 1, none⟩ = some (.int .i64 0) := hfa1.cell 1
      have q2 : w1.frozen? ⟨w.heap.size, 0, none⟩ = false := hfa1.frozen 0
      have q3 : w1.frozen? ⟨w.heap.size, 1, none⟩ = false := hfa1.frozen 1
      have H1 := Lib.hid hown'
      obtain ⟨A1, cap1, rfl⟩ := own_form hown'
      clear hown' hgrow hne hfa1 hfa hown hi0 hz0 hz1 hz2
      go_wp2_with fail
      refine bodyPost_ret (v := .tuple #[.slice A1 (pre.length + 1) cap1, .agg #[.int .i64 0, .int .i64 0]]) (by simp [results, Try.results19, go_sem, q0, q1]) rfl ?_
      refine ⟨A1, cap1, by simp [Res.toks, Res.code, Res.fat, Res.app], ?_, ?_⟩
      · have h2 := own_set (own_set H1.out (p := ⟨w.heap.size, 0, none⟩) (by simp) (.int .i64 0)) (p := ⟨w.heap.size, 1, none⟩) (by simp) (.int .i64 0)
        have h3 := own_base h2 (show w.heap.size ≤ w.heap.size + 1 by omega)
        simpa [Res.toks, Res.app, cellsT_append, cellsT, zT, bs] using h3
      · exact (hbel1.setCell (by simp) _).setCell (by simp) _
theorem rLex_long (s : ByteArray) (w : World) (hs : 100000 < s.size) (hm : s.size ≤ maxLen) : Calls Try.prog 19 #[.string s] w (AllPost (.bad 4 0) w) := by
  unfold maxLen at hm
  go_enter Try.func19, Try.ntmps19
  go_wp2_with fail
  refine bodyPost_ret (v := .tuple #[.slice none 0 0, .agg #[.int .i64 4, .int .i64 0]]) (by simp [results, Try.results19, go_sem]) rfl ?_
  exact ⟨none, 0, rfl, World.ownsRow_nil _ _ _ _, (Below.refl _ _).alloc (Nat.le_refl _) _⟩
end Go.Proofs.Ytcncbdnnakfgcaa
