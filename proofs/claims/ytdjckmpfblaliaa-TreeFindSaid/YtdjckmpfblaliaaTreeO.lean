/- Programs in memory, second part: an argument that reads is a statement, a procedure, a program. -/
import Derived.Test.YtdjckmpfblaliaaTreeS
namespace Go.Proofs.Ytdjckmpfblaliaa
open Go.ChangeShapes Go.WideShapes Go.ChangeAt Go.RowKit Go.Deep
set_option linter.unusedVariables false
set_option maxRecDepth 100000

theorem thirteen {cs : List Value} (h : cs.length = 13) : ∃ c0 c1 c2 c3 c4 c5 c6 c7 c8 c9 c10 c11 c12, cs = [c0, c1, c2, c3, c4, c5, c6, c7, c8, c9, c10, c11, c12] := by
  match cs, h with
  | [c0, c1, c2, c3, c4, c5, c6, c7, c8, c9, c10, c11, c12], _ => exact ⟨_, _, _, _, _, _, _, _, _, _, _, _, _, rfl⟩
section
variable {H : Type} {enc : TypeId × Value → H} {w : World} {base : Nat} {spare : Nat → Bool} {held : Bool}
theorem open_stmt : ∀ (fuel : Nat) (cs : List Value) (x : DataW H × List MemPlace), DataW.trod enc Try.prog w base spare held fuel 47 cs = some x → ∃ s, StmtI w (lt_ w.heap.size) s cs := by
  intro fuel
  induction fuel using Nat.strongRecOn with
  | _ fuel ih =>
    intro cs x h
    obtain ⟨n, hn, hlen, hf⟩ := open_fields Try.underlying47 h
    rw [cells_stmt] at hlen
    obtain ⟨c0, c1, c2, c3, c4, c5, c6, c7, c8, c9, c10, c11, c12, rfl⟩ := thirteen hlen
    obtain ⟨y0, g0⟩ : ∃ y, DataW.trod enc Try.prog w base spare held n 3 (([c0, c1, c2, c3, c4, c5, c6, c7, c8, c9, c10, c11, c12].drop 0).take (Try.prog.cellsOf 3)) = some y := hf 0 _ rfl
    rw [cells_i] at g0
    obtain ⟨y1, g1⟩ : ∃ y, DataW.trod enc Try.prog w base spare held n 3 (([c0, c1, c2, c3, c4, c5, c6, c7, c8, c9, c10, c11, c12].drop 1).take (Try.prog.cellsOf 3)) = some y := hf 1 _ rfl
    rw [cells_i] at g1
    obtain ⟨y2, g2⟩ : ∃ y, DataW.trod enc Try.prog w base spare held n 28 (([c0, c1, c2, c3, c4, c5, c6, c7, c8, c9, c10, c11, c12].drop 2).take (Try.prog.cellsOf 28)) = some y := hf 2 _ rfl
    rw [cells_ss] at g2
    obtain ⟨y3, g3⟩ : ∃ y, DataW.trod enc Try.prog w base spare held n 9 (([c0, c1, c2, c3, c4, c5, c6, c7, c8, c9, c10, c11, c12].drop 3).take (Try.prog.cellsOf 9)) = some y := hf 3 _ rfl
    rw [cells_s] at g3
    obtain ⟨y4, g4⟩ : ∃ y, DataW.trod enc Try.prog w base spare held n 9 (([c0, c1, c2, c3, c4, c5, c6, c7, c8, c9, c10, c11, c12].drop 4).take (Try.prog.cellsOf 9)) = some y := hf 4 _ rfl
    rw [cells_s] at g4
    obtain ⟨y5, g5⟩ : ∃ y, DataW.trod enc Try.prog w base spare held n 24 (([c0, c1, c2, c3, c4, c5, c6, c7, c8, c9, c10, c11, c12].drop 5).take (Try.prog.cellsOf 24)) = some y := hf 5 _ rfl
    rw [cellsE] at g5
    obtain ⟨y6, g6⟩ : ∃ y, DataW.trod enc Try.prog w base spare held n 4 (([c0, c1, c2, c3, c4, c5, c6, c7, c8, c9, c10, c11, c12].drop 9).take (Try.prog.cellsOf 4)) = some y := hf 6 _ rfl
    rw [cells_b] at g6
    obtain ⟨y7, g7⟩ : ∃ y, DataW.trod enc Try.prog w base spare held n 44 (([c0, c1, c2, c3, c4, c5, c6, c7, c8, c9, c10, c11, c12].drop 10).take (Try.prog.cellsOf 44)) = some y := hf 7 _ rfl
    rw [cells_args] at g7
    obtain ⟨y8, g8⟩ : ∃ y, DataW.trod enc Try.prog w base spare held n 45 (([c0, c1, c2, c3, c4, c5, c6, c7, c8, c9, c10, c11, c12].drop 11).take (Try.prog.cellsOf 45)) = some y := hf 8 _ rfl
    rw [cells_stmts] at g8
    obtain ⟨y9, g9⟩ : ∃ y, DataW.trod enc Try.prog w base spare held n 45 (([c0, c1, c2, c3, c4, c5, c6, c7, c8, c9, c10, c11, c12].drop 12).take (Try.prog.cellsOf 45)) = some y := hf 9 _ rfl
    rw [cells_stmts] at g9
    obtain ⟨id, e0, _, w0⟩ := DataW.trod_int Try.underlying3 g0
    obtain ⟨kind, e1, _, w1⟩ := DataW.trod_int Try.underlying3 g1
    obtain ⟨labels, vl, e2, hl⟩ := open_texts g2
    obtain ⟨nm, e3, hnm⟩ := open_text g3
    obtain ⟨proc, e4, hproc⟩ := open_text g4
    obtain ⟨ex, hex⟩ := open_expr _ _ _ g5
    obtain ⟨has, e6⟩ := open_bool g6
    obtain ⟨args, va, e7, ha⟩ := open_list (⟨false, ⟨#[]⟩, .mk 0 0 ⟨#[]⟩ []⟩ : Ar) Try.underlying44 cells_arg (by omega) (fun m _ cs' y h => open_arg h) g7
    have s0 : S := .mk 0 0 [] ⟨#[]⟩ ⟨#[]⟩ (.mk 0 0 ⟨#[]⟩ []) false [] [] []
    obtain ⟨th, vt, e8, ht⟩ := open_list (R := StmtI w (lt_ w.heap.size)) s0 Try.underlying45 cells_stmt (by omega) (fun m hm cs' y h => ih m (by omega) cs' y h) g8
    obtain ⟨el, ve, e9, he⟩ := open_list (R := StmtI w (lt_ w.heap.size)) s0 Try.underlying45 cells_stmt (by omega) (fun m hm cs' y h => ih m (by omega) cs' y h) g9
    obtain ⟨A1, cap1, css1, rfl, t2, t3, t4⟩ := ht
    obtain ⟨A2, cap2, css2, rfl, u2, u3, u4⟩ := he
    injection e0 with e0
    injection e1 with e1
    injection e2 with e2
    injection e3 with e3
    injection e4 with e4
    injection e6 with e6
    injection e7 with e7
    injection e8 with e8
    injection e9 with e9
    subst e0 e1 e2 e3 e4 e6 e7 e8 e9
    exact ⟨.mk id kind labels nm proc ex has args th el, .mk (css1 := css1) (css2 := css2) (i64_of w0) (i64_of w1) hnm hproc hl hex ha t2 u2 t3 u3 t4 u4⟩
theorem open_stmts {fuel : Nat} {cs : List Value} {x : DataW H × List MemPlace} (h : DataW.trod enc Try.prog w base spare held fuel 45 cs = some x) : ∃ l v, cs = [v] ∧ StmtsI w (lt_ w.heap.size) l v :=
  open_list (R := StmtI w (lt_ w.heap.size)) (.mk 0 0 [] ⟨#[]⟩ ⟨#[]⟩ (.mk 0 0 ⟨#[]⟩ []) false [] [] []) Try.underlying45 cells_stmt (by omega) (fun m _ cs' y h => open_stmt _ _ _ h) h
theorem cells_par : Try.prog.cellsOf 64 = 2 := by kernel_rfl
theorem cells_pars : Try.prog.cellsOf 50 = 1 := by kernel_rfl
theorem cells_proc : Try.prog.cellsOf 52 = 5 := by kernel_rfl
theorem cells_procs : Try.prog.cellsOf 30 = 1 := by kernel_rfl
theorem cells_prog : Try.prog.cellsOf 32 = 2 := by kernel_rfl
theorem open_par {fuel : Nat} {cs : List Value} {x : DataW H × List MemPlace} (h : DataW.trod enc Try.prog w base spare held fuel 64 cs = some x) : ∃ p, ParI p cs := by
  obtain ⟨n, hn, hlen, hf⟩ := open_fields Try.underlying64 h
  rw [cells_par] at hlen
  match cs, hlen with
  | [c0, c1], _ =>
    obtain ⟨y0, g0⟩ : ∃ y, DataW.trod enc Try.prog w base spare held n 9 (([c0, c1].drop 0).take (Try.prog.cellsOf 9)) = some y := hf 0 _ rfl
    obtain ⟨y1, g1⟩ : ∃ y, DataW.trod enc Try.prog w base spare held n 4 (([c0, c1].drop 1).take (Try.prog.cellsOf 4)) = some y := hf 1 _ rfl
    rw [cells_s] at g0
    rw [cells_b] at g1
    obtain ⟨s, e0, hs⟩ := open_text g0
    obtain ⟨b, e1⟩ := open_bool g1
    injection e0 with e0
    injection e1 with e1
    subst e0 e1
    exact ⟨⟨s, b⟩, rfl, hs⟩
theorem open_proc {fuel : Nat} {cs : List Value} {x : DataW H × List MemPlace} (h : DataW.trod enc Try.prog w base spare held fuel 52 cs = some x) : ∃ p, ProcI w (lt_ w.heap.size) p cs := by
  obtain ⟨n, hn, hlen, hf⟩ := open_fields Try.underlying52 h
  rw [cells_proc] at hlen
  match cs, hlen with
  | [c0, c1, c2, c3, c4], _ =>
    obtain ⟨y0, g0⟩ : ∃ y, DataW.trod enc Try.prog w base spare held n 9 (([c0, c1, c2, c3, c4].drop 0).take (Try.prog.cellsOf 9)) = some y := hf 0 _ rfl
    obtain ⟨y1, g1⟩ : ∃ y, DataW.trod enc Try.prog w base spare held n 50 (([c0, c1, c2, c3, c4].drop 1).take (Try.prog.cellsOf 50)) = some y := hf 1 _ rfl
    obtain ⟨y2, g2⟩ : ∃ y, DataW.trod enc Try.prog w base spare held n 28 (([c0, c1, c2, c3, c4].drop 2).take (Try.prog.cellsOf 28)) = some y := hf 2 _ rfl
    obtain ⟨y3, g3⟩ : ∃ y, DataW.trod enc Try.prog w base spare held n 45 (([c0, c1, c2, c3, c4].drop 3).take (Try.prog.cellsOf 45)) = some y := hf 3 _ rfl
    obtain ⟨y4, g4⟩ : ∃ y, DataW.trod enc Try.prog w base spare held n 28 (([c0, c1, c2, c3, c4].drop 4).take (Try.prog.cellsOf 28)) = some y := hf 4 _ rfl
    rw [cells_s] at g0
    rw [cells_pars] at g1
    rw [cells_ss] at g2 g4
    rw [cells_stmts] at g3
    obtain ⟨s, e0, hs⟩ := open_text g0
    obtain ⟨ps, vp, e1, h1⟩ := open_list (R := ParI) (⟨⟨#[]⟩, false⟩ : Pa) Try.underlying50 cells_par (by omega) (fun m _ cs' y h => open_par h) g1
    obtain ⟨vs, vv, e2, h2⟩ := open_texts g2
    obtain ⟨bd, vb, e3, h3⟩ := open_stmts g3
    obtain ⟨en, ve, e4, h4⟩ := open_texts g4
    injection e0 with e0
    injection e1 with e1
    injection e2 with e2
    injection e3 with e3
    injection e4 with e4
    subst e0 e1 e2 e3 e4
    exact ⟨⟨s, ps, vs, bd, en⟩, _, _, _, _, rfl, hs, h1, h2, h3, h4⟩
theorem open_prog {fuel : Nat} {cs : List Value} {x : DataW H × List MemPlace} (h : DataW.trod enc Try.prog w base spare held fuel 32 cs = some x) : ∃ p, ProgI w (lt_ w.heap.size) p cs := by
  obtain ⟨n, hn, hlen, hf⟩ := open_fields Try.underlying32 h
  rw [cells_prog] at hlen
  match cs, hlen with
  | [c0, c1], _ =>
    obtain ⟨y0, g0⟩ : ∃ y, DataW.trod enc Try.prog w base spare held n 28 (([c0, c1].drop 0).take (Try.prog.cellsOf 28)) = some y := hf 0 _ rfl
    obtain ⟨y1, g1⟩ : ∃ y, DataW.trod enc Try.prog w base spare held n 30 (([c0, c1].drop 1).take (Try.prog.cellsOf 30)) = some y := hf 1 _ rfl
    rw [cells_ss] at g0
    rw [cells_procs] at g1
    obtain ⟨gl, vg, e0, h0⟩ := open_texts g0
    obtain ⟨ps, vp, e1, h1⟩ := open_list (R := ProcI w (lt_ w.heap.size)) (⟨⟨#[]⟩, [], [], [], []⟩ : Pr) Try.underlying30 cells_proc (by omega) (fun m _ cs' y h => open_proc h) g1
    injection e0 with e0
    injection e1 with e1
    subst e0 e1
    exact ⟨⟨gl, ps⟩, _, _, rfl, h0, h1⟩
end
end Go.Proofs.Ytdjckmpfblaliaa
