/- Equality of statements: the contract of EqStmts (whittlerref3). -/
import Derived.Test.YtdjckmpfblaliaaTreeRE2
import Derived.Test.YtdjckmpfblaliaaTreeL
namespace Go.Proofs.Ytdjckmpfblaliaa
open Go.ChangeShapes Go.WideShapes Go.ChangeAt Go.RowKit Go.Deep
set_option linter.unusedVariables false

set_option maxHeartbeats 4000000 in
set_option maxRecDepth 100000 in
theorem EqStmts_any : ∀ (N : Nat) (l : List S), (preSL l).length < N → ∀ {l' : List S} {w1 w2 : World} {Q1 Q2 : Nat → Prop} {A A' : Option Addr} {cap cap' : Nat}, StmtsI w1 Q1 l (.slice A l.length cap) → StmtsI w2 Q2 l' (.slice A' l'.length cap') →
    EqC (.slice A l.length cap) (.slice A' l'.length cap') (eqB l l') Q1 Q2 w1 w2 := by
  intro N
  induction N with
  | zero => intro l h; omega
  | succ N ih =>
    intro l hN l' w1 w2 Q1 Q2 A A' cap cap' hl hl' W hI1 hI2
    obtain ⟨_, hlc, hcap, _⟩ := slice_len hl
    obtain ⟨_, hlc', hcap', _⟩ := slice_len hl'
    have IH := Lib.hid @ih
    have HN := Lib.hid hN
    have HL := Lib.hid hl
    have HL' := Lib.hid hl'
    have HI1 := Lib.hid hI1
    have HI2 := Lib.hid hI2
    clear ih hN hl hl' hI1 hI2
    by_cases e4 : l.length = l'.length
    · have g4 := len_f e4
      have e4a : l.length ≤ l'.length := by omega
      have e4b : l'.length ≤ l.length := by omega
      clear e4
      go_enter Try.func32, Try.ntmps32
      go_wp2_with fail
      clear g4
      go_loopw [13] (fun i wr => ∃ k : Nat, k ≤ l.length ∧ i = .int .i64 k ∧ Hid (l.take k = l'.take k) ∧ Hid (Below W.heap.size W wr)) (fun i _ => l.length - (intOf i).toNat)
      case atStart => exact ⟨0, Nat.zero_le _, rfl, Lib.hid rfl, Lib.hid (Below.refl _ _)⟩
      case round =>
        obtain ⟨k, hk, rfl, HTk, HR⟩ := hrel
        by_cases hlt : k < l.length
        · have hlt' : k < l'.length := by omega
          have HI1r := Lib.hid (HI1.out.on HR.out)
          have HI2r := Lib.hid (HI2.out.on HR.out)
          obtain ⟨a, id, kind, labels, nm, proc, x, has, args, th, el, L, lc, x0, x1, x2, X, xn, xc, R, rc, T, tc, U, uc, rfl, _, hmk, ⟨p0, p1, p2, p3, p4, p5, p6, p7, p8, p9, p10, p11, p12, _⟩, _, _, _, _, hlab, hx, har, hth, hel, _⟩ := stmt_at HL.out HI1r.out hlt
          obtain ⟨a', id', kind', labels', nm', proc', x', has', args', th', el', L', lc', x0', x1', x2', X', xn', xc', R', rc', T', tc', U', uc', rfl, _, hmk', ⟨p0', p1', p2', p3', p4', p5', p6', p7', p8', p9', p10', p11', p12', _⟩, _, _, _, _, hlab', hx', har', hth', hel', _⟩ := stmt_at HL'.out HI2r.out hlt'
          have hsub := preSL_at hlt
          rw [hmk] at hsub
          simp only [subS, List.length_append] at hsub
          have hN1 : (preSL th).length < N := by have := HN.out; omega
          have hN2 : (preSL el).length < N := by have := HN.out; omega
          have HC := Lib.hid (fun V h1 h2 => eqOne_any (id := id) (kind := kind) (nm := nm) (proc := proc) (has := has) (id' := id') (kind' := kind') (nm' := nm') (proc' := proc') (has' := has') hlab hx har hlab' hx' har' (IH.out th hN1 hth hth') (IH.out el hN2 hel hel') V h1 h2)
          rw [← hmk, ← hmk'] at HC
          have hab : (a.add (k * 13)).block < wr.heap.size := World.block_lt_of_cell? _ _ p0
          have hab' : (a'.add (k * 13)).block < wr.heap.size := World.block_lt_of_cell? _ _ p0'
          obtain ⟨v, hv⟩ : ∃ v, v = eqB l[k] l'[k] := ⟨_, rfl⟩
          rw [← hv] at HC
          have HV := Lib.hid hv
          have hdr : ∀ {Q : Nat → Prop} {w V : World}, In Q w V → In Q w V.drew := fun h => h
          clear hmk hmk' hsub hlab hx har hth hel hlab' hx' har' hth' hel' hv
          go_wp2_with fail
          go_region_held3 (fun w' => w'.cell? (a.add (k * 13)) = some (.int .i64 id) ∧ w'.cell? ⟨(a.add (k * 13)).block, (a.add (k * 13)).off + 1, none⟩ = some (.int .i64 kind) ∧ w'.cell? ⟨(a.add (k * 13)).block, (a.add (k * 13)).off + 2, none⟩ = some (.slice L labels.length lc) ∧ w'.cell? ⟨(a.add (k * 13)).block, (a.add (k * 13)).off + 3, none⟩ = some (.string nm) ∧ w'.cell? ⟨(a.add (k * 13)).block, (a.add (k * 13)).off + 4, none⟩ = some (.string proc) ∧ w'.cell? ⟨(a.add (k * 13)).block, (a.add (k * 13)).off + 5, none⟩ = some (.int .i64 x0) ∧ w'.cell? ⟨(a.add (k * 13)).block, (a.add (k * 13)).off + 6, none⟩ = some (.int .i64 x1) ∧ w'.cell? ⟨(a.add (k * 13)).block, (a.add (k * 13)).off + 7, none⟩ = some (.string x2) ∧ w'.cell? ⟨(a.add (k * 13)).block, (a.add (k * 13)).off + 8, none⟩ = some (.slice X xn xc) ∧ w'.cell? ⟨(a.add (k * 13)).block, (a.add (k * 13)).off + 9, none⟩ = some (.bool has) ∧ w'.cell? ⟨(a.add (k * 13)).block, (a.add (k * 13)).off + 10, none⟩ = some (.slice R args.length rc) ∧ w'.cell? ⟨(a.add (k * 13)).block, (a.add (k * 13)).off + 11, none⟩ = some (.slice T th.length tc) ∧ w'.cell? ⟨(a.add (k * 13)).block, (a.add (k * 13)).off + 12, none⟩ = some (.slice U el.length uc) ∧ w'.cell? (a'.add (k * 13)) = some (.int .i64 id') ∧ w'.cell? ⟨(a'.add (k * 13)).block, (a'.add (k * 13)).off + 1, none⟩ = some (.int .i64 kind') ∧ w'.cell? ⟨(a'.add (k * 13)).block, (a'.add (k * 13)).off + 2, none⟩ = some (.slice L' labels'.length lc') ∧ w'.cell? ⟨(a'.add (k * 13)).block, (a'.add (k * 13)).off + 3, none⟩ = some (.string nm') ∧ w'.cell? ⟨(a'.add (k * 13)).block, (a'.add (k * 13)).off + 4, none⟩ = some (.string proc') ∧ w'.cell? ⟨(a'.add (k * 13)).block, (a'.add (k * 13)).off + 5, none⟩ = some (.int .i64 x0') ∧ w'.cell? ⟨(a'.add (k * 13)).block, (a'.add (k * 13)).off + 6, none⟩ = some (.int .i64 x1') ∧ w'.cell? ⟨(a'.add (k * 13)).block, (a'.add (k * 13)).off + 7, none⟩ = some (.string x2') ∧ w'.cell? ⟨(a'.add (k * 13)).block, (a'.add (k * 13)).off + 8, none⟩ = some (.slice X' xn' xc') ∧ w'.cell? ⟨(a'.add (k * 13)).block, (a'.add (k * 13)).off + 9, none⟩ = some (.bool has') ∧ w'.cell? ⟨(a'.add (k * 13)).block, (a'.add (k * 13)).off + 10, none⟩ = some (.slice R' args'.length rc') ∧ w'.cell? ⟨(a'.add (k * 13)).block, (a'.add (k * 13)).off + 11, none⟩ = some (.slice T' th'.length tc') ∧ w'.cell? ⟨(a'.add (k * 13)).block, (a'.add (k * 13)).off + 12, none⟩ = some (.slice U' el'.length uc'))
            (go_keep)
            ((go_at_call 61; refine (HC.out _ (hdr HI1r.out) (hdr HI2r.out)).mono ?_; rintro e w3 ⟨rfl, hb3⟩; have hb3' : Below wr.heap.size wr w3 := (show Below wr.heap.size wr wr.drew from (Below.refl _ _).drew).trans hb3; have hc3 := (bcell hb3').1; have s0 := (hb3'.cell hab).trans p0; have s0' := (hb3'.cell hab').trans p0'))
          cases v with
          | true =>
            go_wp2_with fail
            go_roundw
            case rel => exact ⟨k + 1, by omega, by go_num, Lib.hid (take_eq_step hlt hlt' HTk.out (eqB_iff.1 HV.out.symm)), Lib.hid (below_step HR.out hb3')⟩
            case measure => simp [intOf]; omega
          | false =>
            have HN3 : Hid (eqB l l' = false) := Lib.hid (eqB_ne (ne_of_at hlt hlt' (fun e => by rw [e, eqB_self] at HV; exact absurd HV.out (by simp))))
            go_wp2_with fail
            go_ret
            exact ⟨ret_bool HN3.out.symm, below_step HR.out hb3'⟩
        · have HN3 : Hid (eqB l l' = true) := Lib.hid (eqB_iff.2 (by have := HTk.out; rw [List.take_of_length_le (by omega), List.take_of_length_le (by omega)] at this; exact this))
          go_wp2_with fail
          go_ret
          exact ⟨ret_bool HN3.out.symm, HR.out⟩
    · have g4 := len_t e4
      have HV : Hid (eqB l l' = false) := Lib.hid (eqB_ne (fun e => e4 (by rw [e])))
      clear e4
      go_enter Try.func32, Try.ntmps32
      go_wp2_with fail
      go_ret
      exact ⟨ret_bool HV.out.symm, Below.refl _ _⟩
end Go.Proofs.Ytdjckmpfblaliaa
