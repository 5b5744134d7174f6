/- Texts, merged by a program; only what is used. -/
import Derived.Test.YtnnblklbjbkikaaM1
import Derived.Test.YtnnblklbjbkikaaM2
import Derived.Test.YtnnblklbjbkikaaM3
import Derived.Test.YtnnblklbjbkikaaM4
import Derived.Test.YtnnblklbjbkikaaM5
import Derived.Test.YtnnblklbjbkikaaM6
import Derived.Test.YtnnblklbjbkikaaM7
import Derived.Test.YtnnblklbjbkikaaM8
import Derived.Test.YtnnblklbjbkikaaM9
import Derived.Test.YtnnblklbjbkikaaM10
import Derived.Test.YtnnblklbjbkikaaM12
import Derived.Test.YtnnblklbjbkikaaM13
import Derived.Test.YtnnblklbjbkikaaM14
import Derived.Test.YtnnblklbjbkikaaM15
import Derived.Test.YtnnblklbjbkikaaM16
import Derived.Test.YtnnblklbjbkikaaM17
namespace Go.Proofs.Ytnnblklbjbkikaa
open Go.ChangeShapes Go.WideShapes Go.ChangeAt Go.RowKit Go.Deep
set_option linter.unusedVariables false
noncomputable def opsSS : List Oper := ((Try.f113.body).bind (regionOps 1)).getD []
theorem cell_at {w : World} {a : Addr} {j k : Nat} {u : Value} (h : w.cell? (a.add (j + k)) = some u) (hj : j ≠ 0 := by decide) : w.cell? ⟨a.block, a.off + j + k, none⟩ = some u := by
  rw [add_ne a (by omega)] at h
  rwa [Nat.add_assoc]
theorem seg0 {C : World → Prop} {Q : Act → Prop} {a b : Addr} {id kind id' kind' : Int} {labels labels' : List ByteArray} {nm proc nm' proc' : ByteArray} {ex ex' : E} {has has' : Bool} {args args' : List Ar} {th el th' el' : List S} {L X R T U L' X' R' T' U' : Option Addr} {lc xn xc rc tc uc lc' xn' xc' rc' tc' uc' : Nat} {x0 x1 y0 y1 : Int} {x2 y2 : ByteArray} (hca : ∀ w, C w → ∀ j u, [.int .i64 id, .int .i64 kind, .slice L labels.length lc, .string nm, .string proc, .int .i64 x0, .int .i64 x1, .string x2, .slice X xn xc, .bool has, .slice R args.length rc, .slice T th.length tc, .slice U el.length uc][j]? = some u → w.cell? (a.add j) = some u) (hcb : ∀ w, C w → ∀ j u, [.int .i64 id', .int .i64 kind', .slice L' labels'.length lc', .string nm', .string proc', .int .i64 y0, .int .i64 y1, .string y2, .slice X' xn' xc', .bool has', .slice R' args'.length rc', .slice T' th'.length tc', .slice U' el'.length uc'][j]? = some u → w.cell? (b.add j) = some u) (f0 : Act) (hz : f0.tmps.size = 117) (hdf : f0.defers = []) (F0 : f0.tmps[0]? = some (.pointer (some a))) (F1 : f0.tmps[1]? = some (.pointer (some b)))
    (k : ∀ f, f.tmps.size = 117 → f.defers = [] → f.tmps[0]? = some (.pointer (some a)) → f.tmps[1]? = some (.pointer (some b)) → f.tmps[14]? = some (.bool (id == id')) → QW Try.prog opsSS C Q 10 f) : QW Try.prog opsSS C Q 0 f0 := by
  refine qs_val (v := .pointer (some a)) (by kernel_rfl : (opsSS[0]?).map inf = some (some 5, .move (.tmp 0), none)) hz (by decide) (fun o w ho hw => (run_move_ ho).trans (by rw [ev_of F0])) ?_
  intro f1 nx
  have hz := nx.size
  have hdf := nx.defers.trans hdf
  have F5 := nx.new
  have F0 := (nx.old 0 (by decide)).trans F0
  have F1 := (nx.old 1 (by decide)).trans F1
  clear nx
  refine qs_val (v := .pointer (some a)) (by kernel_rfl : (opsSS[1]?).map inf = some (some 6, .nilCheck (.tmp 5), none)) hz (by decide) (fun o w ho hw => run_nilCheck_ ho (ev_of F5)) ?_
  intro f2 nx
  have hz := nx.size
  have hdf := nx.defers.trans hdf
  have F6 := nx.new
  have F0 := (nx.old 0 (by decide)).trans F0
  have F1 := (nx.old 1 (by decide)).trans F1
  clear nx
  refine qs_val (v := .pointer (some (a.add 0))) (by kernel_rfl : (opsSS[2]?).map inf = some (some 7, .fieldAddr 55 (.tmp 6) 0, none)) hz (by decide) (fun o w ho hw => run_field47_0 ho (ev_of F6)) ?_
  intro f3 nx
  have hz := nx.size
  have hdf := nx.defers.trans hdf
  have F7 := nx.new
  have F0 := (nx.old 0 (by decide)).trans F0
  have F1 := (nx.old 1 (by decide)).trans F1
  clear nx
  refine qs_val (v := .int .i64 id) (by kernel_rfl : (opsSS[3]?).map inf = some (some 8, .load 3 (.tmp 7), none)) hz (by decide) (fun o w ho hw => run_load_int ho (ev_of F7) (hca w hw 0 _ rfl)) ?_
  intro f4 nx
  have hz := nx.size
  have hdf := nx.defers.trans hdf
  have F8 := nx.new
  have F0 := (nx.old 0 (by decide)).trans F0
  have F1 := (nx.old 1 (by decide)).trans F1
  clear nx
  refine qs_val (v := .pointer (some b)) (by kernel_rfl : (opsSS[4]?).map inf = some (some 9, .move (.tmp 1), none)) hz (by decide) (fun o w ho hw => (run_move_ ho).trans (by rw [ev_of F1])) ?_
  intro f5 nx
  have hz := nx.size
  have hdf := nx.defers.trans hdf
  have F9 := nx.new
  have F0 := (nx.old 0 (by decide)).trans F0
  have F1 := (nx.old 1 (by decide)).trans F1
  have F8 := (nx.old 8 (by decide)).trans F8
  clear nx
  refine qs_val (v := .pointer (some b)) (by kernel_rfl : (opsSS[5]?).map inf = some (some 10, .nilCheck (.tmp 9), none)) hz (by decide) (fun o w ho hw => run_nilCheck_ ho (ev_of F9)) ?_
  intro f6 nx
  have hz := nx.size
  have hdf := nx.defers.trans hdf
  have F10 := nx.new
  have F0 := (nx.old 0 (by decide)).trans F0
  have F1 := (nx.old 1 (by decide)).trans F1
  have F8 := (nx.old 8 (by decide)).trans F8
  clear nx
  refine qs_val (v := .pointer (some (b.add 0))) (by kernel_rfl : (opsSS[6]?).map inf = some (some 11, .fieldAddr 55 (.tmp 10) 0, none)) hz (by decide) (fun o w ho hw => run_field47_0 ho (ev_of F10)) ?_
  intro f7 nx
  have hz := nx.size
  have hdf := nx.defers.trans hdf
  have F11 := nx.new
  have F0 := (nx.old 0 (by decide)).trans F0
  have F1 := (nx.old 1 (by decide)).trans F1
  have F8 := (nx.old 8 (by decide)).trans F8
  clear nx
  refine qs_val (v := .int .i64 id') (by kernel_rfl : (opsSS[7]?).map inf = some (some 12, .load 3 (.tmp 11), none)) hz (by decide) (fun o w ho hw => run_load_int ho (ev_of F11) (hcb w hw 0 _ rfl)) ?_
  intro f8 nx
  have hz := nx.size
  have hdf := nx.defers.trans hdf
  have F12 := nx.new
  have F0 := (nx.old 0 (by decide)).trans F0
  have F1 := (nx.old 1 (by decide)).trans F1
  have F8 := (nx.old 8 (by decide)).trans F8
  clear nx
  refine qs_val (v := .bool (id == id')) (by kernel_rfl : (opsSS[8]?).map inf = some (some 13, .binOp .eql 3 (.tmp 8) (.tmp 12) 3, none)) hz (by decide) (fun o w ho hw => run_eqInt_ ho (ev_of F8) (ev_of F12)) ?_
  intro f9 nx
  have hz := nx.size
  have hdf := nx.defers.trans hdf
  have F13 := nx.new
  have F0 := (nx.old 0 (by decide)).trans F0
  have F1 := (nx.old 1 (by decide)).trans F1
  clear nx
  refine qs_val (v := .bool (id == id')) (by kernel_rfl : (opsSS[9]?).map inf = some (some 14, .move (.tmp 13), none)) hz (by decide) (fun o w ho hw => (run_move_ ho).trans (by rw [ev_of F13])) ?_
  intro fm nx
  exact k fm nx.size (nx.defers.trans hdf) ((nx.old 0 (by decide)).trans F0) ((nx.old 1 (by decide)).trans F1) nx.new
theorem seg1 {C : World → Prop} {Q : Act → Prop} {a b : Addr} {id kind id' kind' : Int} {labels labels' : List ByteArray} {nm proc nm' proc' : ByteArray} {ex ex' : E} {has has' : Bool} {args args' : List Ar} {th el th' el' : List S} {L X R T U L' X' R' T' U' : Option Addr} {lc xn xc rc tc uc lc' xn' xc' rc' tc' uc' : Nat} {x0 x1 y0 y1 : Int} {x2 y2 : ByteArray} (hca : ∀ w, C w → ∀ j u, [.int .i64 id, .int .i64 kind, .slice L labels.length lc, .string nm, .string proc, .int .i64 x0, .int .i64 x1, .string x2, .slice X xn xc, .bool has, .slice R args.length rc, .slice T th.length tc, .slice U el.length uc][j]? = some u → w.cell? (a.add j) = some u) (hcb : ∀ w, C w → ∀ j u, [.int .i64 id', .int .i64 kind', .slice L' labels'.length lc', .string nm', .string proc', .int .i64 y0, .int .i64 y1, .string y2, .slice X' xn' xc', .bool has', .slice R' args'.length rc', .slice T' th'.length tc', .slice U' el'.length uc'][j]? = some u → w.cell? (b.add j) = some u)  (c : Bool) (f0 : Act) (hz : f0.tmps.size = 117) (hdf : f0.defers = []) (F0 : f0.tmps[0]? = some (.pointer (some a))) (F1 : f0.tmps[1]? = some (.pointer (some b))) (F14 : f0.tmps[14]? = some (.bool c))
    (k : ∀ f, f.tmps.size = 117 → f.defers = [] → f.tmps[0]? = some (.pointer (some a)) → f.tmps[1]? = some (.pointer (some b)) → f.tmps[25]? = some (.bool (c && (kind == kind'))) → QW Try.prog opsSS C Q 21 f) : QW Try.prog opsSS C Q 10 f0 := by
  cases c with
  | false =>
    refine qs_skips (j := 9) (dj := 14) (by kernel_rfl) 15 23 (by decide) 9 10 f0 hz F14 (by kernel_rfl) ?_
    intro f1 hz hdf' old
    have hdf := hdf'.trans hdf
    have F14 := (old 14 (by decide)).trans F14
    have F0 := (old 0 (by decide)).trans F0
    have F1 := (old 1 (by decide)).trans F1
    clear old hdf'
    refine qs_val (v := .bool (false && (kind == kind'))) (by kernel_rfl : (opsSS[19]?).map inf = some (some 24, .pick (.tmp 14) (.tmp 23) (.const (.bool false)), none)) hz (by decide) (fun o w ho hw => (run_pick_ ho (ev_of F14)).trans (by rw [if_neg (by decide)]; rfl)) ?_
    intro fp nx
    have hz := nx.size
    have hdf := nx.defers.trans hdf
    have F24 := nx.new
    have F0 := (nx.old 0 (by decide)).trans F0
    have F1 := (nx.old 1 (by decide)).trans F1
    clear nx
    refine qs_val (v := .bool (false && (kind == kind'))) (by kernel_rfl : (opsSS[20]?).map inf = some (some 25, .move (.tmp 24), none)) hz (by decide) (fun o w ho hw => (run_move_ ho).trans (by rw [ev_of F24])) ?_
    intro fm nx
    exact k fm nx.size (nx.defers.trans hdf) ((nx.old 0 (by decide)).trans F0) ((nx.old 1 (by decide)).trans F1) nx.new
  | true =>
    refine qs_valG (v := .pointer (some a)) (by kernel_rfl : (opsSS[10]?).map inf = some (some 15, .move (.tmp 0), some (9, true))) (j := 9) (dj := 14) (by kernel_rfl) F14 hz (by decide) (fun o w ho hw => (run_move_ ho).trans (by rw [ev_of F0])) ?_
    intro f1 nx
    have hz := nx.size
    have hdf := nx.defers.trans hdf
    have F15 := nx.new
    have F0 := (nx.old 0 (by decide)).trans F0
    have F1 := (nx.old 1 (by decide)).trans F1
    have F14 := (nx.old 14 (by decide)).trans F14
    clear nx
    refine qs_valG (v := .pointer (some a)) (by kernel_rfl : (opsSS[11]?).map inf = some (some 16, .nilCheck (.tmp 15), some (9, true))) (j := 9) (dj := 14) (by kernel_rfl) F14 hz (by decide) (fun o w ho hw => run_nilCheck_ ho (ev_of F15)) ?_
    intro f2 nx
    have hz := nx.size
    have hdf := nx.defers.trans hdf
    have F16 := nx.new
    have F0 := (nx.old 0 (by decide)).trans F0
    have F1 := (nx.old 1 (by decide)).trans F1
    have F14 := (nx.old 14 (by decide)).trans F14
    clear nx
    refine qs_valG (v := .pointer (some (a.add 1))) (by kernel_rfl : (opsSS[12]?).map inf = some (some 17, .fieldAddr 55 (.tmp 16) 1, some (9, true))) (j := 9) (dj := 14) (by kernel_rfl) F14 hz (by decide) (fun o w ho hw => run_field47_1 ho (ev_of F16)) ?_
    intro f3 nx
    have hz := nx.size
    have hdf := nx.defers.trans hdf
    have F17 := nx.new
    have F0 := (nx.old 0 (by decide)).trans F0
    have F1 := (nx.old 1 (by decide)).trans F1
    have F14 := (nx.old 14 (by decide)).trans F14
    clear nx
    refine qs_valG (v := .int .i64 kind) (by kernel_rfl : (opsSS[13]?).map inf = some (some 18, .load 3 (.tmp 17), some (9, true))) (j := 9) (dj := 14) (by kernel_rfl) F14 hz (by decide) (fun o w ho hw => run_load_int ho (ev_of F17) (hca w hw 1 _ rfl)) ?_
    intro f4 nx
    have hz := nx.size
    have hdf := nx.defers.trans hdf
    have F18 := nx.new
    have F0 := (nx.old 0 (by decide)).trans F0
    have F1 := (nx.old 1 (by decide)).trans F1
    have F14 := (nx.old 14 (by decide)).trans F14
    clear nx
    refine qs_valG (v := .pointer (some b)) (by kernel_rfl : (opsSS[14]?).map inf = some (some 19, .move (.tmp 1), some (9, true))) (j := 9) (dj := 14) (by kernel_rfl) F14 hz (by decide) (fun o w ho hw => (run_move_ ho).trans (by rw [ev_of F1])) ?_
    intro f5 nx
    have hz := nx.size
    have hdf := nx.defers.trans hdf
    have F19 := nx.new
    have F0 := (nx.old 0 (by decide)).trans F0
    have F1 := (nx.old 1 (by decide)).trans F1
    have F14 := (nx.old 14 (by decide)).trans F14
    have F18 := (nx.old 18 (by decide)).trans F18
    clear nx
    refine qs_valG (v := .pointer (some b)) (by kernel_rfl : (opsSS[15]?).map inf = some (some 20, .nilCheck (.tmp 19), some (9, true))) (j := 9) (dj := 14) (by kernel_rfl) F14 hz (by decide) (fun o w ho hw => run_nilCheck_ ho (ev_of F19)) ?_
    intro f6 nx
    have hz := nx.size
    have hdf := nx.defers.trans hdf
    have F20 := nx.new
    have F0 := (nx.old 0 (by decide)).trans F0
    have F1 := (nx.old 1 (by decide)).trans F1
    have F14 := (nx.old 14 (by decide)).trans F14
    have F18 := (nx.old 18 (by decide)).trans F18
    clear nx
    refine qs_valG (v := .pointer (some (b.add 1))) (by kernel_rfl : (opsSS[16]?).map inf = some (some 21, .fieldAddr 55 (.tmp 20) 1, some (9, true))) (j := 9) (dj := 14) (by kernel_rfl) F14 hz (by decide) (fun o w ho hw => run_field47_1 ho (ev_of F20)) ?_
    intro f7 nx
    have hz := nx.size
    have hdf := nx.defers.trans hdf
    have F21 := nx.new
    have F0 := (nx.old 0 (by decide)).trans F0
    have F1 := (nx.old 1 (by decide)).trans F1
    have F14 := (nx.old 14 (by decide)).trans F14
    have F18 := (nx.old 18 (by decide)).trans F18
    clear nx
    refine qs_valG (v := .int .i64 kind') (by kernel_rfl : (opsSS[17]?).map inf = some (some 22, .load 3 (.tmp 21), some (9, true))) (j := 9) (dj := 14) (by kernel_rfl) F14 hz (by decide) (fun o w ho hw => run_load_int ho (ev_of F21) (hcb w hw 1 _ rfl)) ?_
    intro f8 nx
    have hz := nx.size
    have hdf := nx.defers.trans hdf
    have F22 := nx.new
    have F0 := (nx.old 0 (by decide)).trans F0
    have F1 := (nx.old 1 (by decide)).trans F1
    have F14 := (nx.old 14 (by decide)).trans F14
    have F18 := (nx.old 18 (by decide)).trans F18
    clear nx
    refine qs_valG (v := .bool (kind == kind')) (by kernel_rfl : (opsSS[18]?).map inf = some (some 23, .binOp .eql 3 (.tmp 18) (.tmp 22) 3, some (9, true))) (j := 9) (dj := 14) (by kernel_rfl) F14 hz (by decide) (fun o w ho hw => run_eqInt_ ho (ev_of F18) (ev_of F22)) ?_
    intro f9 nx
    have hz := nx.size
    have hdf := nx.defers.trans hdf
    have F23 := nx.new
    have F0 := (nx.old 0 (by decide)).trans F0
    have F1 := (nx.old 1 (by decide)).trans F1
    have F14 := (nx.old 14 (by decide)).trans F14
    clear nx
    refine qs_val (v := .bool (true && (kind == kind'))) (by kernel_rfl : (opsSS[19]?).map inf = some (some 24, .pick (.tmp 14) (.tmp 23) (.const (.bool false)), none)) hz (by decide) (fun o w ho hw => (run_pick_ ho (ev_of F14)).trans (by rw [if_pos rfl, ev_of F23]; rfl)) ?_
    intro fp nx
    have hz := nx.size
    have hdf := nx.defers.trans hdf
    have F24 := nx.new
    have F0 := (nx.old 0 (by decide)).trans F0
    have F1 := (nx.old 1 (by decide)).trans F1
    clear nx
    refine qs_val (v := .bool (true && (kind == kind'))) (by kernel_rfl : (opsSS[20]?).map inf = some (some 25, .move (.tmp 24), none)) hz (by decide) (fun o w ho hw => (run_move_ ho).trans (by rw [ev_of F24])) ?_
    intro fm nx
    exact k fm nx.size (nx.defers.trans hdf) ((nx.old 0 (by decide)).trans F0) ((nx.old 1 (by decide)).trans F1) nx.new
theorem seg2 {C : World → Prop} {Q : Act → Prop} {a b : Addr} {id kind id' kind' : Int} {labels labels' : List ByteArray} {nm proc nm' proc' : ByteArray} {ex ex' : E} {has has' : Bool} {args args' : List Ar} {th el th' el' : List S} {L X R T U L' X' R' T' U' : Option Addr} {lc xn xc rc tc uc lc' xn' xc' rc' tc' uc' : Nat} {x0 x1 y0 y1 : Int} {x2 y2 : ByteArray} (hca : ∀ w, C w → ∀ j u, [.int .i64 id, .int .i64 kind, .slice L labels.length lc, .string nm, .string proc, .int .i64 x0, .int .i64 x1, .string x2, .slice X xn xc, .bool has, .slice R args.length rc, .slice T th.length tc, .slice U el.length uc][j]? = some u → w.cell? (a.add j) = some u) (hcb : ∀ w, C w → ∀ j u, [.int .i64 id', .int .i64 kind', .slice L' labels'.length lc', .string nm', .string proc', .int .i64 y0, .int .i64 y1, .string y2, .slice X' xn' xc', .bool has', .slice R' args'.length rc', .slice T' th'.length tc', .slice U' el'.length uc'][j]? = some u → w.cell? (b.add j) = some u)  (c : Bool) (f0 : Act) (hz : f0.tmps.size = 117) (hdf : f0.defers = []) (F0 : f0.tmps[0]? = some (.pointer (some a))) (F1 : f0.tmps[1]? = some (.pointer (some b))) (F25 : f0.tmps[25]? = some (.bool c))
    (k : ∀ f, f.tmps.size = 117 → f.defers = [] → f.tmps[0]? = some (.pointer (some a)) → f.tmps[1]? = some (.pointer (some b)) → f.tmps[36]? = some (.bool (c && (nm.toList == nm'.toList))) → QW Try.prog opsSS C Q 32 f) : QW Try.prog opsSS C Q 21 f0 := by
  cases c with
  | false =>
    refine qs_skips (j := 20) (dj := 25) (by kernel_rfl) 26 34 (by decide) 9 21 f0 hz F25 (by kernel_rfl) ?_
    intro f1 hz hdf' old
    have hdf := hdf'.trans hdf
    have F25 := (old 25 (by decide)).trans F25
    have F0 := (old 0 (by decide)).trans F0
    have F1 := (old 1 (by decide)).trans F1
    clear old hdf'
    refine qs_val (v := .bool (false && (nm.toList == nm'.toList))) (by kernel_rfl : (opsSS[30]?).map inf = some (some 35, .pick (.tmp 25) (.tmp 34) (.const (.bool false)), none)) hz (by decide) (fun o w ho hw => (run_pick_ ho (ev_of F25)).trans (by rw [if_neg (by decide)]; rfl)) ?_
    intro fp nx
    have hz := nx.size
    have hdf := nx.defers.trans hdf
    have F35 := nx.new
    have F0 := (nx.old 0 (by decide)).trans F0
    have F1 := (nx.old 1 (by decide)).trans F1
    clear nx
    refine qs_val (v := .bool (false && (nm.toList == nm'.toList))) (by kernel_rfl : (opsSS[31]?).map inf = some (some 36, .move (.tmp 35), none)) hz (by decide) (fun o w ho hw => (run_move_ ho).trans (by rw [ev_of F35])) ?_
    intro fm nx
    exact k fm nx.size (nx.defers.trans hdf) ((nx.old 0 (by decide)).trans F0) ((nx.old 1 (by decide)).trans F1) nx.new
  | true =>
    refine qs_valG (v := .pointer (some a)) (by kernel_rfl : (opsSS[21]?).map inf = some (some 26, .move (.tmp 0), some (20, true))) (j := 20) (dj := 25) (by kernel_rfl) F25 hz (by decide) (fun o w ho hw => (run_move_ ho).trans (by rw [ev_of F0])) ?_
    intro f1 nx
    have hz := nx.size
    have hdf := nx.defers.trans hdf
    have F26 := nx.new
    have F0 := (nx.old 0 (by decide)).trans F0
    have F1 := (nx.old 1 (by decide)).trans F1
    have F25 := (nx.old 25 (by decide)).trans F25
    clear nx
    refine qs_valG (v := .pointer (some a)) (by kernel_rfl : (opsSS[22]?).map inf = some (some 27, .nilCheck (.tmp 26), some (20, true))) (j := 20) (dj := 25) (by kernel_rfl) F25 hz (by decide) (fun o w ho hw => run_nilCheck_ ho (ev_of F26)) ?_
    intro f2 nx
    have hz := nx.size
    have hdf := nx.defers.trans hdf
    have F27 := nx.new
    have F0 := (nx.old 0 (by decide)).trans F0
    have F1 := (nx.old 1 (by decide)).trans F1
    have F25 := (nx.old 25 (by decide)).trans F25
    clear nx
    refine qs_valG (v := .pointer (some (a.add 3))) (by kernel_rfl : (opsSS[23]?).map inf = some (some 28, .fieldAddr 55 (.tmp 27) 3, some (20, true))) (j := 20) (dj := 25) (by kernel_rfl) F25 hz (by decide) (fun o w ho hw => run_field47_3 ho (ev_of F27)) ?_
    intro f3 nx
    have hz := nx.size
    have hdf := nx.defers.trans hdf
    have F28 := nx.new
    have F0 := (nx.old 0 (by decide)).trans F0
    have F1 := (nx.old 1 (by decide)).trans F1
    have F25 := (nx.old 25 (by decide)).trans F25
    clear nx
    refine qs_valG (v := .string nm) (by kernel_rfl : (opsSS[24]?).map inf = some (some 29, .load 9 (.tmp 28), some (20, true))) (j := 20) (dj := 25) (by kernel_rfl) F25 hz (by decide) (fun o w ho hw => run_load_str ho (ev_of F28) (hca w hw 3 _ rfl)) ?_
    intro f4 nx
    have hz := nx.size
    have hdf := nx.defers.trans hdf
    have F29 := nx.new
    have F0 := (nx.old 0 (by decide)).trans F0
    have F1 := (nx.old 1 (by decide)).trans F1
    have F25 := (nx.old 25 (by decide)).trans F25
    clear nx
    refine qs_valG (v := .pointer (some b)) (by kernel_rfl : (opsSS[25]?).map inf = some (some 30, .move (.tmp 1), some (20, true))) (j := 20) (dj := 25) (by kernel_rfl) F25 hz (by decide) (fun o w ho hw => (run_move_ ho).trans (by rw [ev_of F1])) ?_
    intro f5 nx
    have hz := nx.size
    have hdf := nx.defers.trans hdf
    have F30 := nx.new
    have F0 := (nx.old 0 (by decide)).trans F0
    have F1 := (nx.old 1 (by decide)).trans F1
    have F25 := (nx.old 25 (by decide)).trans F25
    have F29 := (nx.old 29 (by decide)).trans F29
    clear nx
    refine qs_valG (v := .pointer (some b)) (by kernel_rfl : (opsSS[26]?).map inf = some (some 31, .nilCheck (.tmp 30), some (20, true))) (j := 20) (dj := 25) (by kernel_rfl) F25 hz (by decide) (fun o w ho hw => run_nilCheck_ ho (ev_of F30)) ?_
    intro f6 nx
    have hz := nx.size
    have hdf := nx.defers.trans hdf
    have F31 := nx.new
    have F0 := (nx.old 0 (by decide)).trans F0
    have F1 := (nx.old 1 (by decide)).trans F1
    have F25 := (nx.old 25 (by decide)).trans F25
    have F29 := (nx.old 29 (by decide)).trans F29
    clear nx
    refine qs_valG (v := .pointer (some (b.add 3))) (by kernel_rfl : (opsSS[27]?).map inf = some (some 32, .fieldAddr 55 (.tmp 31) 3, some (20, true))) (j := 20) (dj := 25) (by kernel_rfl) F25 hz (by decide) (fun o w ho hw => run_field47_3 ho (ev_of F31)) ?_
    intro f7 nx
    have hz := nx.size
    have hdf := nx.defers.trans hdf
    have F32 := nx.new
    have F0 := (nx.old 0 (by decide)).trans F0
    have F1 := (nx.old 1 (by decide)).trans F1
    have F25 := (nx.old 25 (by decide)).trans F25
    have F29 := (nx.old 29 (by decide)).trans F29
    clear nx
    refine qs_valG (v := .string nm') (by kernel_rfl : (opsSS[28]?).map inf = some (some 33, .load 9 (.tmp 32), some (20, true))) (j := 20) (dj := 25) (by kernel_rfl) F25 hz (by decide) (fun o w ho hw => run_load_str ho (ev_of F32) (hcb w hw 3 _ rfl)) ?_
    intro f8 nx
    have hz := nx.size
    have hdf := nx.defers.trans hdf
    have F33 := nx.new
    have F0 := (nx.old 0 (by decide)).trans F0
    have F1 := (nx.old 1 (by decide)).trans F1
    have F25 := (nx.old 25 (by decide)).trans F25
    have F29 := (nx.old 29 (by decide)).trans F29
    clear nx
    refine qs_valG (v := .bool (nm.toList == nm'.toList)) (by kernel_rfl : (opsSS[29]?).map inf = some (some 34, .binOp .eql 9 (.tmp 29) (.tmp 33) 9, some (20, true))) (j := 20) (dj := 25) (by kernel_rfl) F25 hz (by decide) (fun o w ho hw => run_eqStr_ ho (ev_of F29) (ev_of F33)) ?_
    intro f9 nx
    have hz := nx.size
    have hdf := nx.defers.trans hdf
    have F34 := nx.new
    have F0 := (nx.old 0 (by decide)).trans F0
    have F1 := (nx.old 1 (by decide)).trans F1
    have F25 := (nx.old 25 (by decide)).trans F25
    clear nx
    refine qs_val (v := .bool (true && (nm.toList == nm'.toList))) (by kernel_rfl : (opsSS[30]?).map inf = some (some 35, .pick (.tmp 25) (.tmp 34) (.const (.bool false)), none)) hz (by decide) (fun o w ho hw => (run_pick_ ho (ev_of F25)).trans (by rw [if_pos rfl, ev_of F34]; rfl)) ?_
    intro fp nx
    have hz := nx.size
    have hdf := nx.defers.trans hdf
    have F35 := nx.new
    have F0 := (nx.old 0 (by decide)).trans F0
    have F1 := (nx.old 1 (by decide)).trans F1
    clear nx
    refine qs_val (v := .bool (true && (nm.toList == nm'.toList))) (by kernel_rfl : (opsSS[31]?).map inf = some (some 36, .move (.tmp 35), none)) hz (by decide) (fun o w ho hw => (run_move_ ho).trans (by rw [ev_of F35])) ?_
    intro fm nx
    exact k fm nx.size (nx.defers.trans hdf) ((nx.old 0 (by decide)).trans F0) ((nx.old 1 (by decide)).trans F1) nx.new
theorem seg3 {C : World → Prop} {Q : Act → Prop} {a b : Addr} {id kind id' kind' : Int} {labels labels' : List ByteArray} {nm proc nm' proc' : ByteArray} {ex ex' : E} {has has' : Bool} {args args' : List Ar} {th el th' el' : List S} {L X R T U L' X' R' T' U' : Option Addr} {lc xn xc rc tc uc lc' xn' xc' rc' tc' uc' : Nat} {x0 x1 y0 y1 : Int} {x2 y2 : ByteArray} (hca : ∀ w, C w → ∀ j u, [.int .i64 id, .int .i64 kind, .slice L labels.length lc, .string nm, .string proc, .int .i64 x0, .int .i64 x1, .string x2, .slice X xn xc, .bool has, .slice R args.length rc, .slice T th.length tc, .slice U el.length uc][j]? = some u → w.cell? (a.add j) = some u) (hcb : ∀ w, C w → ∀ j u, [.int .i64 id', .int .i64 kind', .slice L' labels'.length lc', .string nm', .string proc', .int .i64 y0, .int .i64 y1, .string y2, .slice X' xn' xc', .bool has', .slice R' args'.length rc', .slice T' th'.length tc', .slice U' el'.length uc'][j]? = some u → w.cell? (b.add j) = some u)  (c : Bool) (f0 : Act) (hz : f0.tmps.size = 117) (hdf : f0.defers = []) (F0 : f0.tmps[0]? = some (.pointer (some a))) (F1 : f0.tmps[1]? = some (.pointer (some b))) (F36 : f0.tmps[36]? = some (.bool c))
    (k : ∀ f, f.tmps.size = 117 → f.defers = [] → f.tmps[0]? = some (.pointer (some a)) → f.tmps[1]? = some (.pointer (some b)) → f.tmps[47]? = some (.bool (c && (proc.toList == proc'.toList))) → QW Try.prog opsSS C Q 43 f) : QW Try.prog opsSS C Q 32 f0 := by
  cases c with
  | false =>
    refine qs_skips (j := 31) (dj := 36) (by kernel_rfl) 37 45 (by decide) 9 32 f0 hz F36 (by kernel_rfl) ?_
    intro f1 hz hdf' old
    have hdf := hdf'.trans hdf
    have F36 := (old 36 (by decide)).trans F36
    have F0 := (old 0 (by decide)).trans F0
    have F1 := (old 1 (by decide)).trans F1
    clear old hdf'
    refine qs_val (v := .bool (false && (proc.toList == proc'.toList))) (by kernel_rfl : (opsSS[41]?).map inf = some (some 46, .pick (.tmp 36) (.tmp 45) (.const (.bool false)), none)) hz (by decide) (fun o w ho hw => (run_pick_ ho (ev_of F36)).trans (by rw [if_neg (by decide)]; rfl)) ?_
    intro fp nx
    have hz := nx.size
    have hdf := nx.defers.trans hdf
    have F46 := nx.new
    have F0 := (nx.old 0 (by decide)).trans F0
    have F1 := (nx.old 1 (by decide)).trans F1
    clear nx
    refine qs_val (v := .bool (false && (proc.toList == proc'.toList))) (by kernel_rfl : (opsSS[42]?).map inf = some (some 47, .move (.tmp 46), none)) hz (by decide) (fun o w ho hw => (run_move_ ho).trans (by rw [ev_of F46])) ?_
    intro fm nx
    exact k fm nx.size (nx.defers.trans hdf) ((nx.old 0 (by decide)).trans F0) ((nx.old 1 (by decide)).trans F1) nx.new
  | true =>
    refine qs_valG (v := .pointer (some a)) (by kernel_rfl : (opsSS[32]?).map inf = some (some 37, .move (.tmp 0), some (31, true))) (j := 31) (dj := 36) (by kernel_rfl) F36 hz (by decide) (fun o w ho hw => (run_move_ ho).trans (by rw [ev_of F0])) ?_
    intro f1 nx
    have hz := nx.size
    have hdf := nx.defers.trans hdf
    have F37 := nx.new
    have F0 := (nx.old 0 (by decide)).trans F0
    have F1 := (nx.old 1 (by decide)).trans F1
    have F36 := (nx.old 36 (by decide)).trans F36
    clear nx
    refine qs_valG (v := .pointer (some a)) (by kernel_rfl : (opsSS[33]?).map inf = some (some 38, .nilCheck (.tmp 37), some (31, true))) (j := 31) (dj := 36) (by kernel_rfl) F36 hz (by decide) (fun o w ho hw => run_nilCheck_ ho (ev_of F37)) ?_
    intro f2 nx
    have hz := nx.size
    have hdf := nx.defers.trans hdf
    have F38 := nx.new
    have F0 := (nx.old 0 (by decide)).trans F0
    have F1 := (nx.old 1 (by decide)).trans F1
    have F36 := (nx.old 36 (by decide)).trans F36
    clear nx
    refine qs_valG (v := .pointer (some (a.add 4))) (by kernel_rfl : (opsSS[34]?).map inf = some (some 39, .fieldAddr 55 (.tmp 38) 4, some (31, true))) (j := 31) (dj := 36) (by kernel_rfl) F36 hz (by decide) (fun o w ho hw => run_field47_4 ho (ev_of F38)) ?_
    intro f3 nx
    have hz := nx.size
    have hdf := nx.defers.trans hdf
    have F39 := nx.new
    have F0 := (nx.old 0 (by decide)).trans F0
    have F1 := (nx.old 1 (by decide)).trans F1
    have F36 := (nx.old 36 (by decide)).trans F36
    clear nx
    refine qs_valG (v := .string proc) (by kernel_rfl : (opsSS[35]?).map inf = some (some 40, .load 9 (.tmp 39), some (31, true))) (j := 31) (dj := 36) (by kernel_rfl) F36 hz (by decide) (fun o w ho hw => run_load_str ho (ev_of F39) (hca w hw 4 _ rfl)) ?_
    intro f4 nx
    have hz := nx.size
    have hdf := nx.defers.trans hdf
    have F40 := nx.new
    have F0 := (nx.old 0 (by decide)).trans F0
    have F1 := (nx.old 1 (by decide)).trans F1
    have F36 := (nx.old 36 (by decide)).trans F36
    clear nx
    refine qs_valG (v := .pointer (some b)) (by kernel_rfl : (opsSS[36]?).map inf = some (some 41, .move (.tmp 1), some (31, true))) (j := 31) (dj := 36) (by kernel_rfl) F36 hz (by decide) (fun o w ho hw => (run_move_ ho).trans (by rw [ev_of F1])) ?_
    intro f5 nx
    have hz := nx.size
    have hdf := nx.defers.trans hdf
    have F41 := nx.new
    have F0 := (nx.old 0 (by decide)).trans F0
    have F1 := (nx.old 1 (by decide)).trans F1
    have F36 := (nx.old 36 (by decide)).trans F36
    have F40 := (nx.old 40 (by decide)).trans F40
    clear nx
    refine qs_valG (v := .pointer (some b)) (by kernel_rfl : (opsSS[37]?).map inf = some (some 42, .nilCheck (.tmp 41), some (31, true))) (j := 31) (dj := 36) (by kernel_rfl) F36 hz (by decide) (fun o w ho hw => run_nilCheck_ ho (ev_of F41)) ?_
    intro f6 nx
    have hz := nx.size
    have hdf := nx.defers.trans hdf
    have F42 := nx.new
    have F0 := (nx.old 0 (by decide)).trans F0
    have F1 := (nx.old 1 (by decide)).trans F1
    have F36 := (nx.old 36 (by decide)).trans F36
    have F40 := (nx.old 40 (by decide)).trans F40
    clear nx
    refine qs_valG (v := .pointer (some (b.add 4))) (by kernel_rfl : (opsSS[38]?).map inf = some (some 43, .fieldAddr 55 (.tmp 42) 4, some (31, true))) (j := 31) (dj := 36) (by kernel_rfl) F36 hz (by decide) (fun o w ho hw => run_field47_4 ho (ev_of F42)) ?_
    intro f7 nx
    have hz := nx.size
    have hdf := nx.defers.trans hdf
    have F43 := nx.new
    have F0 := (nx.old 0 (by decide)).trans F0
    have F1 := (nx.old 1 (by decide)).trans F1
    have F36 := (nx.old 36 (by decide)).trans F36
    have F40 := (nx.old 40 (by decide)).trans F40
    clear nx
    refine qs_valG (v := .string proc') (by kernel_rfl : (opsSS[39]?).map inf = some (some 44, .load 9 (.tmp 43), some (31, true))) (j := 31) (dj := 36) (by kernel_rfl) F36 hz (by decide) (fun o w ho hw => run_load_str ho (ev_of F43) (hcb w hw 4 _ rfl)) ?_
    intro f8 nx
    have hz := nx.size
    have hdf := nx.defers.trans hdf
    have F44 := nx.new
    have F0 := (nx.old 0 (by decide)).trans F0
    have F1 := (nx.old 1 (by decide)).trans F1
    have F36 := (nx.old 36 (by decide)).trans F36
    have F40 := (nx.old 40 (by decide)).trans F40
    clear nx
    refine qs_valG (v := .bool (proc.toList == proc'.toList)) (by kernel_rfl : (opsSS[40]?).map inf = some (some 45, .binOp .eql 9 (.tmp 40) (.tmp 44) 9, some (31, true))) (j := 31) (dj := 36) (by kernel_rfl) F36 hz (by decide) (fun o w ho hw => run_eqStr_ ho (ev_of F40) (ev_of F44)) ?_
    intro f9 nx
    have hz := nx.size
    have hdf := nx.defers.trans hdf
    have F45 := nx.new
    have F0 := (nx.old 0 (by decide)).trans F0
    have F1 := (nx.old 1 (by decide)).trans F1
    have F36 := (nx.old 36 (by decide)).trans F36
    clear nx
    refine qs_val (v := .bool (true && (proc.toList == proc'.toList))) (by kernel_rfl : (opsSS[41]?).map inf = some (some 46, .pick (.tmp 36) (.tmp 45) (.const (.bool false)), none)) hz (by decide) (fun o w ho hw => (run_pick_ ho (ev_of F36)).trans (by rw [if_pos rfl, ev_of F45]; rfl)) ?_
    intro fp nx
    have hz := nx.size
    have hdf := nx.defers.trans hdf
    have F46 := nx.new
    have F0 := (nx.old 0 (by decide)).trans F0
    have F1 := (nx.old 1 (by decide)).trans F1
    clear nx
    refine qs_val (v := .bool (true && (proc.toList == proc'.toList))) (by kernel_rfl : (opsSS[42]?).map inf = some (some 47, .move (.tmp 46), none)) hz (by decide) (fun o w ho hw => (run_move_ ho).trans (by rw [ev_of F46])) ?_
    intro fm nx
    exact k fm nx.size (nx.defers.trans hdf) ((nx.old 0 (by decide)).trans F0) ((nx.old 1 (by decide)).trans F1) nx.new
theorem seg4 {C : World → Prop} {Q : Act → Prop} {a b : Addr} {id kind id' kind' : Int} {labels labels' : List ByteArray} {nm proc nm' proc' : ByteArray} {ex ex' : E} {has has' : Bool} {args args' : List Ar} {th el th' el' : List S} {L X R T U L' X' R' T' U' : Option Addr} {lc xn xc rc tc uc lc' xn' xc' rc' tc' uc' : Nat} {x0 x1 y0 y1 : Int} {x2 y2 : ByteArray} (hca : ∀ w, C w → ∀ j u, [.int .i64 id, .int .i64 kind, .slice L labels.length lc, .string nm, .string proc, .int .i64 x0, .int .i64 x1, .string x2, .slice X xn xc, .bool has, .slice R args.length rc, .slice T th.length tc, .slice U el.length uc][j]? = some u → w.cell? (a.add j) = some u) (hcb : ∀ w, C w → ∀ j u, [.int .i64 id', .int .i64 kind', .slice L' labels'.length lc', .string nm', .string proc', .int .i64 y0, .int .i64 y1, .string y2, .slice X' xn' xc', .bool has', .slice R' args'.length rc', .slice T' th'.length tc', .slice U' el'.length uc'][j]? = some u → w.cell? (b.add j) = some u)  (c : Bool) (f0 : Act) (hz : f0.tmps.size = 117) (hdf : f0.defers = []) (F0 : f0.tmps[0]? = some (.pointer (some a))) (F1 : f0.tmps[1]? = some (.pointer (some b))) (F47 : f0.tmps[47]? = some (.bool c))
    (k : ∀ f, f.tmps.size = 117 → f.defers = [] → f.tmps[0]? = some (.pointer (some a)) → f.tmps[1]? = some (.pointer (some b)) → f.tmps[58]? = some (.bool (c && (has == has'))) → QW Try.prog opsSS C Q 54 f) : QW Try.prog opsSS C Q 43 f0 := by
  cases c with
  | false =>
    refine qs_skips (j := 42) (dj := 47) (by kernel_rfl) 48 56 (by decide) 9 43 f0 hz F47 (by kernel_rfl) ?_
    intro f1 hz hdf' old
    have hdf := hdf'.trans hdf
    have F47 := (old 47 (by decide)).trans F47
    have F0 := (old 0 (by decide)).trans F0
    have F1 := (old 1 (by decide)).trans F1
    clear old hdf'
    refine qs_val (v := .bool (false && (has == has'))) (by kernel_rfl : (opsSS[52]?).map inf = some (some 57, .pick (.tmp 47) (.tmp 56) (.const (.bool false)), none)) hz (by decide) (fun o w ho hw => (run_pick_ ho (ev_of F47)).trans (by rw [if_neg (by decide)]; rfl)) ?_
    intro fp nx
    have hz := nx.size
    have hdf := nx.defers.trans hdf
    have F57 := nx.new
    have F0 := (nx.old 0 (by decide)).trans F0
    have F1 := (nx.old 1 (by decide)).trans F1
    clear nx
    refine qs_val (v := .bool (false && (has == has'))) (by kernel_rfl : (opsSS[53]?).map inf = some (some 58, .move (.tmp 57), none)) hz (by decide) (fun o w ho hw => (run_move_ ho).trans (by rw [ev_of F57])) ?_
    intro fm nx
    exact k fm nx.size (nx.defers.trans hdf) ((nx.old 0 (by decide)).trans F0) ((nx.old 1 (by decide)).trans F1) nx.new
  | true =>
    refine qs_valG (v := .pointer (some a)) (by kernel_rfl : (opsSS[43]?).map inf = some (some 48, .move (.tmp 0), some (42, true))) (j := 42) (dj := 47) (by kernel_rfl) F47 hz (by decide) (fun o w ho hw => (run_move_ ho).trans (by rw [ev_of F0])) ?_
    intro f1 nx
    have hz := nx.size
    have hdf := nx.defers.trans hdf
    have F48 := nx.new
    have F0 := (nx.old 0 (by decide)).trans F0
    have F1 := (nx.old 1 (by decide)).trans F1
    have F47 := (nx.old 47 (by decide)).trans F47
    clear nx
    refine qs_valG (v := .pointer (some a)) (by kernel_rfl : (opsSS[44]?).map inf = some (some 49, .nilCheck (.tmp 48), some (42, true))) (j := 42) (dj := 47) (by kernel_rfl) F47 hz (by decide) (fun o w ho hw => run_nilCheck_ ho (ev_of F48)) ?_
    intro f2 nx
    have hz := nx.size
    have hdf := nx.defers.trans hdf
    have F49 := nx.new
    have F0 := (nx.old 0 (by decide)).trans F0
    have F1 := (nx.old 1 (by decide)).trans F1
    have F47 := (nx.old 47 (by decide)).trans F47
    clear nx
    refine qs_valG (v := .pointer (some (a.add 9))) (by kernel_rfl : (opsSS[45]?).map inf = some (some 50, .fieldAddr 55 (.tmp 49) 6, some (42, true))) (j := 42) (dj := 47) (by kernel_rfl) F47 hz (by decide) (fun o w ho hw => run_field47_6 ho (ev_of F49)) ?_
    intro f3 nx
    have hz := nx.size
    have hdf := nx.defers.trans hdf
    have F50 := nx.new
    have F0 := (nx.old 0 (by decide)).trans F0
    have F1 := (nx.old 1 (by decide)).trans F1
    have F47 := (nx.old 47 (by decide)).trans F47
    clear nx
    refine qs_valG (v := .bool has) (by kernel_rfl : (opsSS[46]?).map inf = some (some 51, .load 4 (.tmp 50), some (42, true))) (j := 42) (dj := 47) (by kernel_rfl) F47 hz (by decide) (fun o w ho hw => run_load_bool ho (ev_of F50) (hca w hw 9 _ rfl)) ?_
    intro f4 nx
    have hz := nx.size
    have hdf := nx.defers.trans hdf
    have F51 := nx.new
    have F0 := (nx.old 0 (by decide)).trans F0
    have F1 := (nx.old 1 (by decide)).trans F1
    have F47 := (nx.old 47 (by decide)).trans F47
    clear nx
    refine qs_valG (v := .pointer (some b)) (by kernel_rfl : (opsSS[47]?).map inf = some (some 52, .move (.tmp 1), some (42, true))) (j := 42) (dj := 47) (by kernel_rfl) F47 hz (by decide) (fun o w ho hw => (run_move_ ho).trans (by rw [ev_of F1])) ?_
    intro f5 nx
    have hz := nx.size
    have hdf := nx.defers.trans hdf
    have F52 := nx.new
    have F0 := (nx.old 0 (by decide)).trans F0
    have F1 := (nx.old 1 (by decide)).trans F1
    have F47 := (nx.old 47 (by decide)).trans F47
    have F51 := (nx.old 51 (by decide)).trans F51
    clear nx
    refine qs_valG (v := .pointer (some b)) (by kernel_rfl : (opsSS[48]?).map inf = some (some 53, .nilCheck (.tmp 52), some (42, true))) (j := 42) (dj := 47) (by kernel_rfl) F47 hz (by decide) (fun o w ho hw => run_nilCheck_ ho (ev_of F52)) ?_
    intro f6 nx
    have hz := nx.size
    have hdf := nx.defers.trans hdf
    have F53 := nx.new
    have F0 := (nx.old 0 (by decide)).trans F0
    have F1 := (nx.old 1 (by decide)).trans F1
    have F47 := (nx.old 47 (by decide)).trans F47
    have F51 := (nx.old 51 (by decide)).trans F51
    clear nx
    refine qs_valG (v := .pointer (some (b.add 9))) (by kernel_rfl : (opsSS[49]?).map inf = some (some 54, .fieldAddr 55 (.tmp 53) 6, some (42, true))) (j := 42) (dj := 47) (by kernel_rfl) F47 hz (by decide) (fun o w ho hw => run_field47_6 ho (ev_of F53)) ?_
    intro f7 nx
    have hz := nx.size
    have hdf := nx.defers.trans hdf
    have F54 := nx.new
    have F0 := (nx.old 0 (by decide)).trans F0
    have F1 := (nx.old 1 (by decide)).trans F1
    have F47 := (nx.old 47 (by decide)).trans F47
    have F51 := (nx.old 51 (by decide)).trans F51
    clear nx
    refine qs_valG (v := .bool has') (by kernel_rfl : (opsSS[50]?).map inf = some (some 55, .load 4 (.tmp 54), some (42, true))) (j := 42) (dj := 47) (by kernel_rfl) F47 hz (by decide) (fun o w ho hw => run_load_bool ho (ev_of F54) (hcb w hw 9 _ rfl)) ?_
    intro f8 nx
    have hz := nx.size
    have hdf := nx.defers.trans hdf
    have F55 := nx.new
    have F0 := (nx.old 0 (by decide)).trans F0
    have F1 := (nx.old 1 (by decide)).trans F1
    have F47 := (nx.old 47 (by decide)).trans F47
    have F51 := (nx.old 51 (by decide)).trans F51
    clear nx
    refine qs_valG (v := .bool (has == has')) (by kernel_rfl : (opsSS[51]?).map inf = some (some 56, .binOp .eql 4 (.tmp 51) (.tmp 55) 4, some (42, true))) (j := 42) (dj := 47) (by kernel_rfl) F47 hz (by decide) (fun o w ho hw => run_eqBool_ ho (ev_of F51) (ev_of F55)) ?_
    intro f9 nx
    have hz := nx.size
    have hdf := nx.defers.trans hdf
    have F56 := nx.new
    have F0 := (nx.old 0 (by decide)).trans F0
    have F1 := (nx.old 1 (by decide)).trans F1
    have F47 := (nx.old 47 (by decide)).trans F47
    clear nx
    refine qs_val (v := .bool (true && (has == has'))) (by kernel_rfl : (opsSS[52]?).map inf = some (some 57, .pick (.tmp 47) (.tmp 56) (.const (.bool false)), none)) hz (by decide) (fun o w ho hw => (run_pick_ ho (ev_of F47)).trans (by rw [if_pos rfl, ev_of F56]; rfl)) ?_
    intro fp nx
    have hz := nx.size
    have hdf := nx.defers.trans hdf
    have F57 := nx.new
    have F0 := (nx.old 0 (by decide)).trans F0
    have F1 := (nx.old 1 (by decide)).trans F1
    clear nx
    refine qs_val (v := .bool (true && (has == has'))) (by kernel_rfl : (opsSS[53]?).map inf = some (some 58, .move (.tmp 57), none)) hz (by decide) (fun o w ho hw => (run_move_ ho).trans (by rw [ev_of F57])) ?_
    intro fm nx
    exact k fm nx.size (nx.defers.trans hdf) ((nx.old 0 (by decide)).trans F0) ((nx.old 1 (by decide)).trans F1) nx.new
theorem seg5 {C : World → Prop} {Q : Act → Prop} {a b : Addr} {id kind id' kind' : Int} {labels labels' : List ByteArray} {nm proc nm' proc' : ByteArray} {ex ex' : E} {has has' : Bool} {args args' : List Ar} {th el th' el' : List S} {L X R T U L' X' R' T' U' : Option Addr} {lc xn xc rc tc uc lc' xn' xc' rc' tc' uc' : Nat} {x0 x1 y0 y1 : Int} {x2 y2 : ByteArray} (hca : ∀ w, C w → ∀ j u, [.int .i64 id, .int .i64 kind, .slice L labels.length lc, .string nm, .string proc, .int .i64 x0, .int .i64 x1, .string x2, .slice X xn xc, .bool has, .slice R args.length rc, .slice T th.length tc, .slice U el.length uc][j]? = some u → w.cell? (a.add j) = some u) (hcb : ∀ w, C w → ∀ j u, [.int .i64 id', .int .i64 kind', .slice L' labels'.length lc', .string nm', .string proc', .int .i64 y0, .int .i64 y1, .string y2, .slice X' xn' xc', .bool has', .slice R' args'.length rc', .slice T' th'.length tc', .slice U' el'.length uc'][j]? = some u → w.cell? (b.add j) = some u)  (c : Bool) (f0 : Act) (hz : f0.tmps.size = 117) (hdf : f0.defers = []) (F0 : f0.tmps[0]? = some (.pointer (some a))) (F1 : f0.tmps[1]? = some (.pointer (some b))) (F58 : f0.tmps[58]? = some (.bool c))
    (k : ∀ f, f.tmps.size = 117 → f.defers = [] → f.tmps[0]? = some (.pointer (some a)) → f.tmps[1]? = some (.pointer (some b)) → f.tmps[71]? = some (.bool (c && (((th.length : Nat) : Int) == ((th'.length : Nat) : Int)))) → QW Try.prog opsSS C Q 67 f) : QW Try.prog opsSS C Q 54 f0 := by
  cases c with
  | false =>
    refine qs_skips (j := 53) (dj := 58) (by kernel_rfl) 59 69 (by decide) 11 54 f0 hz F58 (by kernel_rfl) ?_
    intro f1 hz hdf' old
    have hdf := hdf'.trans hdf
    have F58 := (old 58 (by decide)).trans F58
    have F0 := (old 0 (by decide)).trans F0
    have F1 := (old 1 (by decide)).trans F1
    clear old hdf'
    refine qs_val (v := .bool (false && (((th.length : Nat) : Int) == ((th'.length : Nat) : Int)))) (by kernel_rfl : (opsSS[65]?).map inf = some (some 70, .pick (.tmp 58) (.tmp 69) (.const (.bool false)), none)) hz (by decide) (fun o w ho hw => (run_pick_ ho (ev_of F58)).trans (by rw [if_neg (by decide)]; rfl)) ?_
    intro fp nx
    have hz := nx.size
    have hdf := nx.defers.trans hdf
    have F70 := nx.new
    have F0 := (nx.old 0 (by decide)).trans F0
    have F1 := (nx.old 1 (by decide)).trans F1
    clear nx
    refine qs_val (v := .bool (false && (((th.length : Nat) : Int) == ((th'.length : Nat) : Int)))) (by kernel_rfl : (opsSS[66]?).map inf = some (some 71, .move (.tmp 70), none)) hz (by decide) (fun o w ho hw => (run_move_ ho).trans (by rw [ev_of F70])) ?_
    intro fm nx
    exact k fm nx.size (nx.defers.trans hdf) ((nx.old 0 (by decide)).trans F0) ((nx.old 1 (by decide)).trans F1) nx.new
  | true =>
    refine qs_valG (v := .pointer (some a)) (by kernel_rfl : (opsSS[54]?).map inf = some (some 59, .move (.tmp 0), some (53, true))) (j := 53) (dj := 58) (by kernel_rfl) F58 hz (by decide) (fun o w ho hw => (run_move_ ho).trans (by rw [ev_of F0])) ?_
    intro f1 nx
    have hz := nx.size
    have hdf := nx.defers.trans hdf
    have F59 := nx.new
    have F0 := (nx.old 0 (by decide)).trans F0
    have F1 := (nx.old 1 (by decide)).trans F1
    have F58 := (nx.old 58 (by decide)).trans F58
    clear nx
    refine qs_valG (v := .pointer (some a)) (by kernel_rfl : (opsSS[55]?).map inf = some (some 60, .nilCheck (.tmp 59), some (53, true))) (j := 53) (dj := 58) (by kernel_rfl) F58 hz (by decide) (fun o w ho hw => run_nilCheck_ ho (ev_of F59)) ?_
    intro f2 nx
    have hz := nx.size
    have hdf := nx.defers.trans hdf
    have F60 := nx.new
    have F0 := (nx.old 0 (by decide)).trans F0
    have F1 := (nx.old 1 (by decide)).trans F1
    have F58 := (nx.old 58 (by decide)).trans F58
    clear nx
    refine qs_valG (v := .pointer (some (a.add 11))) (by kernel_rfl : (opsSS[56]?).map inf = some (some 61, .fieldAddr 55 (.tmp 60) 8, some (53, true))) (j := 53) (dj := 58) (by kernel_rfl) F58 hz (by decide) (fun o w ho hw => run_field47_8 ho (ev_of F60)) ?_
    intro f3 nx
    have hz := nx.size
    have hdf := nx.defers.trans hdf
    have F61 := nx.new
    have F0 := (nx.old 0 (by decide)).trans F0
    have F1 := (nx.old 1 (by decide)).trans F1
    have F58 := (nx.old 58 (by decide)).trans F58
    clear nx
    refine qs_valG (v := .slice T th.length tc) (by kernel_rfl : (opsSS[57]?).map inf = some (some 62, .load 53 (.tmp 61), some (53, true))) (j := 53) (dj := 58) (by kernel_rfl) F58 hz (by decide) (fun o w ho hw => run_load_stmts ho (ev_of F61) (hca w hw 11 _ rfl)) ?_
    intro f4 nx
    have hz := nx.size
    have hdf := nx.defers.trans hdf
    have F62 := nx.new
    have F0 := (nx.old 0 (by decide)).trans F0
    have F1 := (nx.old 1 (by decide)).trans F1
    have F58 := (nx.old 58 (by decide)).trans F58
    clear nx
    refine qs_valG (v := .int .i64 th.length) (by kernel_rfl : (opsSS[58]?).map inf = some (some 63, .call { callee := .builtin .len, args := #[.tmp 62], argTypes := #[53] }, some (53, true))) (j := 53) (dj := 58) (by kernel_rfl) F58 hz (by decide) (fun o w ho hw => run_len_ Try.underlying53 ho (ev_of F62)) ?_
    intro f5 nx
    have hz := nx.size
    have hdf := nx.defers.trans hdf
    have F63 := nx.new
    have F0 := (nx.old 0 (by decide)).trans F0
    have F1 := (nx.old 1 (by decide)).trans F1
    have F58 := (nx.old 58 (by decide)).trans F58
    clear nx
    refine qs_valG (v := .pointer (some b)) (by kernel_rfl : (opsSS[59]?).map inf = some (some 64, .move (.tmp 1), some (53, true))) (j := 53) (dj := 58) (by kernel_rfl) F58 hz (by decide) (fun o w ho hw => (run_move_ ho).trans (by rw [ev_of F1])) ?_
    intro f6 nx
    have hz := nx.size
    have hdf := nx.defers.trans hdf
    have F64 := nx.new
    have F0 := (nx.old 0 (by decide)).trans F0
    have F1 := (nx.old 1 (by decide)).trans F1
    have F58 := (nx.old 58 (by decide)).trans F58
    have F63 := (nx.old 63 (by decide)).trans F63
    clear nx
    refine qs_valG (v := .pointer (some b)) (by kernel_rfl : (opsSS[60]?).map inf = some (some 65, .nilCheck (.tmp 64), some (53, true))) (j := 53) (dj := 58) (by kernel_rfl) F58 hz (by decide) (fun o w ho hw => run_nilCheck_ ho (ev_of F64)) ?_
    intro f7 nx
    have hz := nx.size
    have hdf := nx.defers.trans hdf
    have F65 := nx.new
    have F0 := (nx.old 0 (by decide)).trans F0
    have F1 := (nx.old 1 (by decide)).trans F1
    have F58 := (nx.old 58 (by decide)).trans F58
    have F63 := (nx.old 63 (by decide)).trans F63
    clear nx
    refine qs_valG (v := .pointer (some (b.add 11))) (by kernel_rfl : (opsSS[61]?).map inf = some (some 66, .fieldAddr 55 (.tmp 65) 8, some (53, true))) (j := 53) (dj := 58) (by kernel_rfl) F58 hz (by decide) (fun o w ho hw => run_field47_8 ho (ev_of F65)) ?_
    intro f8 nx
    have hz := nx.size
    have hdf := nx.defers.trans hdf
    have F66 := nx.new
    have F0 := (nx.old 0 (by decide)).trans F0
    have F1 := (nx.old 1 (by decide)).trans F1
    have F58 := (nx.old 58 (by decide)).trans F58
    have F63 := (nx.old 63 (by decide)).trans F63
    clear nx
    refine qs_valG (v := .slice T' th'.length tc') (by kernel_rfl : (opsSS[62]?).map inf = some (some 67, .load 53 (.tmp 66), some (53, true))) (j := 53) (dj := 58) (by kernel_rfl) F58 hz (by decide) (fun o w ho hw => run_load_stmts ho (ev_of F66) (hcb w hw 11 _ rfl)) ?_
    intro f9 nx
    have hz := nx.size
    have hdf := nx.defers.trans hdf
    have F67 := nx.new
    have F0 := (nx.old 0 (by decide)).trans F0
    have F1 := (nx.old 1 (by decide)).trans F1
    have F58 := (nx.old 58 (by decide)).trans F58
    have F63 := (nx.old 63 (by decide)).trans F63
    clear nx
    refine qs_valG (v := .int .i64 th'.length) (by kernel_rfl : (opsSS[63]?).map inf = some (some 68, .call { callee := .builtin .len, args := #[.tmp 67], argTypes := #[53] }, some (53, true))) (j := 53) (dj := 58) (by kernel_rfl) F58 hz (by decide) (fun o w ho hw => run_len_ Try.underlying53 ho (ev_of F67)) ?_
    intro f10 nx
    have hz := nx.size
    have hdf := nx.defers.trans hdf
    have F68 := nx.new
    have F0 := (nx.old 0 (by decide)).trans F0
    have F1 := (nx.old 1 (by decide)).trans F1
    have F58 := (nx.old 58 (by decide)).trans F58
    have F63 := (nx.old 63 (by decide)).trans F63
    clear nx
    refine qs_valG (v := .bool (((th.length : Nat) : Int) == ((th'.length : Nat) : Int))) (by kernel_rfl : (opsSS[64]?).map inf = some (some 69, .binOp .eql 3 (.tmp 63) (.tmp 68) 3, some (53, true))) (j := 53) (dj := 58) (by kernel_rfl) F58 hz (by decide) (fun o w ho hw => run_eqInt_ ho (ev_of F63) (ev_of F68)) ?_
    intro f11 nx
    have hz := nx.size
    have hdf := nx.defers.trans hdf
    have F69 := nx.new
    have F0 := (nx.old 0 (by decide)).trans F0
    have F1 := (nx.old 1 (by decide)).trans F1
    have F58 := (nx.old 58 (by decide)).trans F58
    clear nx
    refine qs_val (v := .bool (true && (((th.length : Nat) : Int) == ((th'.length : Nat) : Int)))) (by kernel_rfl : (opsSS[65]?).map inf = some (some 70, .pick (.tmp 58) (.tmp 69) (.const (.bool false)), none)) hz (by decide) (fun o w ho hw => (run_pick_ ho (ev_of F58)).trans (by rw [if_pos rfl, ev_of F69]; rfl)) ?_
    intro fp nx
    have hz := nx.size
    have hdf := nx.defers.trans hdf
    have F70 := nx.new
    have F0 := (nx.old 0 (by decide)).trans F0
    have F1 := (nx.old 1 (by decide)).trans F1
    clear nx
    refine qs_val (v := .bool (true && (((th.length : Nat) : Int) == ((th'.length : Nat) : Int)))) (by kernel_rfl : (opsSS[66]?).map inf = some (some 71, .move (.tmp 70), none)) hz (by decide) (fun o w ho hw => (run_move_ ho).trans (by rw [ev_of F70])) ?_
    intro fm nx
    exact k fm nx.size (nx.defers.trans hdf) ((nx.old 0 (by decide)).trans F0) ((nx.old 1 (by decide)).trans F1) nx.new
theorem seg6 {C : World → Prop} {Q : Act → Prop} {a b : Addr} {id kind id' kind' : Int} {labels labels' : List ByteArray} {nm proc nm' proc' : ByteArray} {ex ex' : E} {has has' : Bool} {args args' : List Ar} {th el th' el' : List S} {L X R T U L' X' R' T' U' : Option Addr} {lc xn xc rc tc uc lc' xn' xc' rc' tc' uc' : Nat} {x0 x1 y0 y1 : Int} {x2 y2 : ByteArray} (hca : ∀ w, C w → ∀ j u, [.int .i64 id, .int .i64 kind, .slice L labels.length lc, .string nm, .string proc, .int .i64 x0, .int .i64 x1, .string x2, .slice X xn xc, .bool has, .slice R args.length rc, .slice T th.length tc, .slice U el.length uc][j]? = some u → w.cell? (a.add j) = some u) (hcb : ∀ w, C w → ∀ j u, [.int .i64 id', .int .i64 kind', .slice L' labels'.length lc', .string nm', .string proc', .int .i64 y0, .int .i64 y1, .string y2, .slice X' xn' xc', .bool has', .slice R' args'.length rc', .slice T' th'.length tc', .slice U' el'.length uc'][j]? = some u → w.cell? (b.add j) = some u)  (c : Bool) (f0 : Act) (hz : f0.tmps.size = 117) (hdf : f0.defers = []) (F0 : f0.tmps[0]? = some (.pointer (some a))) (F1 : f0.tmps[1]? = some (.pointer (some b))) (F71 : f0.tmps[71]? = some (.bool c))
    (k : ∀ f, f.tmps.size = 117 → f.defers = [] → f.tmps[0]? = some (.pointer (some a)) → f.tmps[1]? = some (.pointer (some b)) → f.tmps[84]? = some (.bool (c && (((el.length : Nat) : Int) == ((el'.length : Nat) : Int)))) → QW Try.prog opsSS C Q 80 f) : QW Try.prog opsSS C Q 67 f0 := by
  cases c with
  | false =>
    refine qs_skips (j := 66) (dj := 71) (by kernel_rfl) 72 82 (by decide) 11 67 f0 hz F71 (by kernel_rfl) ?_
    intro f1 hz hdf' old
    have hdf := hdf'.trans hdf
    have F71 := (old 71 (by decide)).trans F71
    have F0 := (old 0 (by decide)).trans F0
    have F1 := (old 1 (by decide)).trans F1
    clear old hdf'
    refine qs_val (v := .bool (false && (((el.length : Nat) : Int) == ((el'.length : Nat) : Int)))) (by kernel_rfl : (opsSS[78]?).map inf = some (some 83, .pick (.tmp 71) (.tmp 82) (.const (.bool false)), none)) hz (by decide) (fun o w ho hw => (run_pick_ ho (ev_of F71)).trans (by rw [if_neg (by decide)]; rfl)) ?_
    intro fp nx
    have hz := nx.size
    have hdf := nx.defers.trans hdf
    have F83 := nx.new
    have F0 := (nx.old 0 (by decide)).trans F0
    have F1 := (nx.old 1 (by decide)).trans F1
    clear nx
    refine qs_val (v := .bool (false && (((el.length : Nat) : Int) == ((el'.length : Nat) : Int)))) (by kernel_rfl : (opsSS[79]?).map inf = some (some 84, .move (.tmp 83), none)) hz (by decide) (fun o w ho hw => (run_move_ ho).trans (by rw [ev_of F83])) ?_
    intro fm nx
    exact k fm nx.size (nx.defers.trans hdf) ((nx.old 0 (by decide)).trans F0) ((nx.old 1 (by decide)).trans F1) nx.new
  | true =>
    refine qs_valG (v := .pointer (some a)) (by kernel_rfl : (opsSS[67]?).map inf = some (some 72, .move (.tmp 0), some (66, true))) (j := 66) (dj := 71) (by kernel_rfl) F71 hz (by decide) (fun o w ho hw => (run_move_ ho).trans (by rw [ev_of F0])) ?_
    intro f1 nx
    have hz := nx.size
    have hdf := nx.defers.trans hdf
    have F72 := nx.new
    have F0 := (nx.old 0 (by decide)).trans F0
    have F1 := (nx.old 1 (by decide)).trans F1
    have F71 := (nx.old 71 (by decide)).trans F71
    clear nx
    refine qs_valG (v := .pointer (some a)) (by kernel_rfl : (opsSS[68]?).map inf = some (some 73, .nilCheck (.tmp 72), some (66, true))) (j := 66) (dj := 71) (by kernel_rfl) F71 hz (by decide) (fun o w ho hw => run_nilCheck_ ho (ev_of F72)) ?_
    intro f2 nx
    have hz := nx.size
    have hdf := nx.defers.trans hdf
    have F73 := nx.new
    have F0 := (nx.old 0 (by decide)).trans F0
    have F1 := (nx.old 1 (by decide)).trans F1
    have F71 := (nx.old 71 (by decide)).trans F71
    clear nx
    refine qs_valG (v := .pointer (some (a.add 12))) (by kernel_rfl : (opsSS[69]?).map inf = some (some 74, .fieldAddr 55 (.tmp 73) 9, some (66, true))) (j := 66) (dj := 71) (by kernel_rfl) F71 hz (by decide) (fun o w ho hw => run_field47_9 ho (ev_of F73)) ?_
    intro f3 nx
    have hz := nx.size
    have hdf := nx.defers.trans hdf
    have F74 := nx.new
    have F0 := (nx.old 0 (by decide)).trans F0
    have F1 := (nx.old 1 (by decide)).trans F1
    have F71 := (nx.old 71 (by decide)).trans F71
    clear nx
    refine qs_valG (v := .slice U el.length uc) (by kernel_rfl : (opsSS[70]?).map inf = some (some 75, .load 53 (.tmp 74), some (66, true))) (j := 66) (dj := 71) (by kernel_rfl) F71 hz (by decide) (fun o w ho hw => run_load_stmts ho (ev_of F74) (hca w hw 12 _ rfl)) ?_
    intro f4 nx
    have hz := nx.size
    have hdf := nx.defers.trans hdf
    have F75 := nx.new
    have F0 := (nx.old 0 (by decide)).trans F0
    have F1 := (nx.old 1 (by decide)).trans F1
    have F71 := (nx.old 71 (by decide)).trans F71
    clear nx
    refine qs_valG (v := .int .i64 el.length) (by kernel_rfl : (opsSS[71]?).map inf = some (some 76, .call { callee := .builtin .len, args := #[.tmp 75], argTypes := #[53] }, some (66, true))) (j := 66) (dj := 71) (by kernel_rfl) F71 hz (by decide) (fun o w ho hw => run_len_ Try.underlying53 ho (ev_of F75)) ?_
    intro f5 nx
    have hz := nx.size
    have hdf := nx.defers.trans hdf
    have F76 := nx.new
    have F0 := (nx.old 0 (by decide)).trans F0
    have F1 := (nx.old 1 (by decide)).trans F1
    have F71 := (nx.old 71 (by decide)).trans F71
    clear nx
    refine qs_valG (v := .pointer (some b)) (by kernel_rfl : (opsSS[72]?).map inf = some (some 77, .move (.tmp 1), some (66, true))) (j := 66) (dj := 71) (by kernel_rfl) F71 hz (by decide) (fun o w ho hw => (run_move_ ho).trans (by rw [ev_of F1])) ?_
    intro f6 nx
    have hz := nx.size
    have hdf := nx.defers.trans hdf
    have F77 := nx.new
    have F0 := (nx.old 0 (by decide)).trans F0
    have F1 := (nx.old 1 (by decide)).trans F1
    have F71 := (nx.old 71 (by decide)).trans F71
    have F76 := (nx.old 76 (by decide)).trans F76
    clear nx
    refine qs_valG (v := .pointer (some b)) (by kernel_rfl : (opsSS[73]?).map inf = some (some 78, .nilCheck (.tmp 77), some (66, true))) (j := 66) (dj := 71) (by kernel_rfl) F71 hz (by decide) (fun o w ho hw => run_nilCheck_ ho (ev_of F77)) ?_
    intro f7 nx
    have hz := nx.size
    have hdf := nx.defers.trans hdf
    have F78 := nx.new
    have F0 := (nx.old 0 (by decide)).trans F0
    have F1 := (nx.old 1 (by decide)).trans F1
    have F71 := (nx.old 71 (by decide)).trans F71
    have F76 := (nx.old 76 (by decide)).trans F76
    clear nx
    refine qs_valG (v := .pointer (some (b.add 12))) (by kernel_rfl : (opsSS[74]?).map inf = some (some 79, .fieldAddr 55 (.tmp 78) 9, some (66, true))) (j := 66) (dj := 71) (by kernel_rfl) F71 hz (by decide) (fun o w ho hw => run_field47_9 ho (ev_of F78)) ?_
    intro f8 nx
    have hz := nx.size
    have hdf := nx.defers.trans hdf
    have F79 := nx.new
    have F0 := (nx.old 0 (by decide)).trans F0
    have F1 := (nx.old 1 (by decide)).trans F1
    have F71 := (nx.old 71 (by decide)).trans F71
    have F76 := (nx.old 76 (by decide)).trans F76
    clear nx
    refine qs_valG (v := .slice U' el'.length uc') (by kernel_rfl : (opsSS[75]?).map inf = some (some 80, .load 53 (.tmp 79), some (66, true))) (j := 66) (dj := 71) (by kernel_rfl) F71 hz (by decide) (fun o w ho hw => run_load_stmts ho (ev_of F79) (hcb w hw 12 _ rfl)) ?_
    intro f9 nx
    have hz := nx.size
    have hdf := nx.defers.trans hdf
    have F80 := nx.new
    have F0 := (nx.old 0 (by decide)).trans F0
    have F1 := (nx.old 1 (by decide)).trans F1
    have F71 := (nx.old 71 (by decide)).trans F71
    have F76 := (nx.old 76 (by decide)).trans F76
    clear nx
    refine qs_valG (v := .int .i64 el'.length) (by kernel_rfl : (opsSS[76]?).map inf = some (some 81, .call { callee := .builtin .len, args := #[.tmp 80], argTypes := #[53] }, some (66, true))) (j := 66) (dj := 71) (by kernel_rfl) F71 hz (by decide) (fun o w ho hw => run_len_ Try.underlying53 ho (ev_of F80)) ?_
    intro f10 nx
    have hz := nx.size
    have hdf := nx.defers.trans hdf
    have F81 := nx.new
    have F0 := (nx.old 0 (by decide)).trans F0
    have F1 := (nx.old 1 (by decide)).trans F1
    have F71 := (nx.old 71 (by decide)).trans F71
    have F76 := (nx.old 76 (by decide)).trans F76
    clear nx
    refine qs_valG (v := .bool (((el.length : Nat) : Int) == ((el'.length : Nat) : Int))) (by kernel_rfl : (opsSS[77]?).map inf = some (some 82, .binOp .eql 3 (.tmp 76) (.tmp 81) 3, some (66, true))) (j := 66) (dj := 71) (by kernel_rfl) F71 hz (by decide) (fun o w ho hw => run_eqInt_ ho (ev_of F76) (ev_of F81)) ?_
    intro f11 nx
    have hz := nx.size
    have hdf := nx.defers.trans hdf
    have F82 := nx.new
    have F0 := (nx.old 0 (by decide)).trans F0
    have F1 := (nx.old 1 (by decide)).trans F1
    have F71 := (nx.old 71 (by decide)).trans F71
    clear nx
    refine qs_val (v := .bool (true && (((el.length : Nat) : Int) == ((el'.length : Nat) : Int)))) (by kernel_rfl : (opsSS[78]?).map inf = some (some 83, .pick (.tmp 71) (.tmp 82) (.const (.bool false)), none)) hz (by decide) (fun o w ho hw => (run_pick_ ho (ev_of F71)).trans (by rw [if_pos rfl, ev_of F82]; rfl)) ?_
    intro fp nx
    have hz := nx.size
    have hdf := nx.defers.trans hdf
    have F83 := nx.new
    have F0 := (nx.old 0 (by decide)).trans F0
    have F1 := (nx.old 1 (by decide)).trans F1
    clear nx
    refine qs_val (v := .bool (true && (((el.length : Nat) : Int) == ((el'.length : Nat) : Int)))) (by kernel_rfl : (opsSS[79]?).map inf = some (some 84, .move (.tmp 83), none)) hz (by decide) (fun o w ho hw => (run_move_ ho).trans (by rw [ev_of F83])) ?_
    intro fm nx
    exact k fm nx.size (nx.defers.trans hdf) ((nx.old 0 (by decide)).trans F0) ((nx.old 1 (by decide)).trans F1) nx.new
theorem seg7 {C : World → Prop} {Q : Act → Prop} {a b : Addr} {id kind id' kind' : Int} {labels labels' : List ByteArray} {nm proc nm' proc' : ByteArray} {ex ex' : E} {has has' : Bool} {args args' : List Ar} {th el th' el' : List S} {L X R T U L' X' R' T' U' : Option Addr} {lc xn xc rc tc uc lc' xn' xc' rc' tc' uc' : Nat} {x0 x1 y0 y1 : Int} {x2 y2 : ByteArray} (hca : ∀ w, C w → ∀ j u, [.int .i64 id, .int .i64 kind, .slice L labels.length lc, .string nm, .string proc, .int .i64 x0, .int .i64 x1, .string x2, .slice X xn xc, .bool has, .slice R args.length rc, .slice T th.length tc, .slice U el.length uc][j]? = some u → w.cell? (a.add j) = some u) (hcb : ∀ w, C w → ∀ j u, [.int .i64 id', .int .i64 kind', .slice L' labels'.length lc', .string nm', .string proc', .int .i64 y0, .int .i64 y1, .string y2, .slice X' xn' xc', .bool has', .slice R' args'.length rc', .slice T' th'.length tc', .slice U' el'.length uc'][j]? = some u → w.cell? (b.add j) = some u) (HT : ∀ w, C w → Calls Try.prog 70 #[.slice L labels.length lc, .slice L' labels'.length lc'] w fun e w' => e = .returned (.bool (eqB labels labels')) ∧ C w') (c : Bool) (f0 : Act) (hz : f0.tmps.size = 117) (hdf : f0.defers = []) (F0 : f0.tmps[0]? = some (.pointer (some a))) (F1 : f0.tmps[1]? = some (.pointer (some b))) (F84 : f0.tmps[84]? = some (.bool c))
    (k : ∀ f, f.tmps.size = 117 → f.defers = [] → f.tmps[0]? = some (.pointer (some a)) → f.tmps[1]? = some (.pointer (some b)) → f.tmps[95]? = some (.bool (c && eqB labels labels')) → QW Try.prog opsSS C Q 91 f) : QW Try.prog opsSS C Q 80 f0 := by
  cases c with
  | false =>
    refine qs_skips (j := 79) (dj := 84) (by kernel_rfl) 85 93 (by decide) 9 80 f0 hz F84 (by kernel_rfl) ?_
    intro f1 hz hdf' old
    have hdf := hdf'.trans hdf
    have F84 := (old 84 (by decide)).trans F84
    have F0 := (old 0 (by decide)).trans F0
    have F1 := (old 1 (by decide)).trans F1
    clear old hdf'
    refine qs_val (v := .bool (false && eqB labels labels')) (by kernel_rfl : (opsSS[89]?).map inf = some (some 94, .pick (.tmp 84) (.tmp 93) (.const (.bool false)), none)) hz (by decide) (fun o w ho hw => (run_pick_ ho (ev_of F84)).trans (by rw [if_neg (by decide)]; rfl)) ?_
    intro fp nx
    have hz := nx.size
    have hdf := nx.defers.trans hdf
    have F94 := nx.new
    have F0 := (nx.old 0 (by decide)).trans F0
    have F1 := (nx.old 1 (by decide)).trans F1
    clear nx
    refine qs_val (v := .bool (false && eqB labels labels')) (by kernel_rfl : (opsSS[90]?).map inf = some (some 95, .move (.tmp 94), none)) hz (by decide) (fun o w ho hw => (run_move_ ho).trans (by rw [ev_of F94])) ?_
    intro fm nx
    exact k fm nx.size (nx.defers.trans hdf) ((nx.old 0 (by decide)).trans F0) ((nx.old 1 (by decide)).trans F1) nx.new
  | true =>
    refine qs_valG (v := .pointer (some a)) (by kernel_rfl : (opsSS[80]?).map inf = some (some 85, .move (.tmp 0), some (79, true))) (j := 79) (dj := 84) (by kernel_rfl) F84 hz (by decide) (fun o w ho hw => (run_move_ ho).trans (by rw [ev_of F0])) ?_
    intro f1 nx
    have hz := nx.size
    have hdf := nx.defers.trans hdf
    have F85 := nx.new
    have F0 := (nx.old 0 (by decide)).trans F0
    have F1 := (nx.old 1 (by decide)).trans F1
    have F84 := (nx.old 84 (by decide)).trans F84
    clear nx
    refine qs_valG (v := .pointer (some a)) (by kernel_rfl : (opsSS[81]?).map inf = some (some 86, .nilCheck (.tmp 85), some (79, true))) (j := 79) (dj := 84) (by kernel_rfl) F84 hz (by decide) (fun o w ho hw => run_nilCheck_ ho (ev_of F85)) ?_
    intro f2 nx
    have hz := nx.size
    have hdf := nx.defers.trans hdf
    have F86 := nx.new
    have F0 := (nx.old 0 (by decide)).trans F0
    have F1 := (nx.old 1 (by decide)).trans F1
    have F84 := (nx.old 84 (by decide)).trans F84
    clear nx
    refine qs_valG (v := .pointer (some (a.add 2))) (by kernel_rfl : (opsSS[82]?).map inf = some (some 87, .fieldAddr 55 (.tmp 86) 2, some (79, true))) (j := 79) (dj := 84) (by kernel_rfl) F84 hz (by decide) (fun o w ho hw => run_field47_2 ho (ev_of F86)) ?_
    intro f3 nx
    have hz := nx.size
    have hdf := nx.defers.trans hdf
    have F87 := nx.new
    have F0 := (nx.old 0 (by decide)).trans F0
    have F1 := (nx.old 1 (by decide)).trans F1
    have F84 := (nx.old 84 (by decide)).trans F84
    clear nx
    refine qs_valG (v := .slice L labels.length lc) (by kernel_rfl : (opsSS[83]?).map inf = some (some 88, .load 22 (.tmp 87), some (79, true))) (j := 79) (dj := 84) (by kernel_rfl) F84 hz (by decide) (fun o w ho hw => run_load_strs ho (ev_of F87) (hca w hw 2 _ rfl)) ?_
    intro f4 nx
    have hz := nx.size
    have hdf := nx.defers.trans hdf
    have F88 := nx.new
    have F0 := (nx.old 0 (by decide)).trans F0
    have F1 := (nx.old 1 (by decide)).trans F1
    have F84 := (nx.old 84 (by decide)).trans F84
    clear nx
    refine qs_valG (v := .pointer (some b)) (by kernel_rfl : (opsSS[84]?).map inf = some (some 89, .move (.tmp 1), some (79, true))) (j := 79) (dj := 84) (by kernel_rfl) F84 hz (by decide) (fun o w ho hw => (run_move_ ho).trans (by rw [ev_of F1])) ?_
    intro f5 nx
    have hz := nx.size
    have hdf := nx.defers.trans hdf
    have F89 := nx.new
    have F0 := (nx.old 0 (by decide)).trans F0
    have F1 := (nx.old 1 (by decide)).trans F1
    have F84 := (nx.old 84 (by decide)).trans F84
    have F88 := (nx.old 88 (by decide)).trans F88
    clear nx
    refine qs_valG (v := .pointer (some b)) (by kernel_rfl : (opsSS[85]?).map inf = some (some 90, .nilCheck (.tmp 89), some (79, true))) (j := 79) (dj := 84) (by kernel_rfl) F84 hz (by decide) (fun o w ho hw => run_nilCheck_ ho (ev_of F89)) ?_
    intro f6 nx
    have hz := nx.size
    have hdf := nx.defers.trans hdf
    have F90 := nx.new
    have F0 := (nx.old 0 (by decide)).trans F0
    have F1 := (nx.old 1 (by decide)).trans F1
    have F84 := (nx.old 84 (by decide)).trans F84
    have F88 := (nx.old 88 (by decide)).trans F88
    clear nx
    refine qs_valG (v := .pointer (some (b.add 2))) (by kernel_rfl : (opsSS[86]?).map inf = some (some 91, .fieldAddr 55 (.tmp 90) 2, some (79, true))) (j := 79) (dj := 84) (by kernel_rfl) F84 hz (by decide) (fun o w ho hw => run_field47_2 ho (ev_of F90)) ?_
    intro f7 nx
    have hz := nx.size
    have hdf := nx.defers.trans hdf
    have F91 := nx.new
    have F0 := (nx.old 0 (by decide)).trans F0
    have F1 := (nx.old 1 (by decide)).trans F1
    have F84 := (nx.old 84 (by decide)).trans F84
    have F88 := (nx.old 88 (by decide)).trans F88
    clear nx
    refine qs_valG (v := .slice L' labels'.length lc') (by kernel_rfl : (opsSS[87]?).map inf = some (some 92, .load 22 (.tmp 91), some (79, true))) (j := 79) (dj := 84) (by kernel_rfl) F84 hz (by decide) (fun o w ho hw => run_load_strs ho (ev_of F91) (hcb w hw 2 _ rfl)) ?_
    intro f8 nx
    have hz := nx.size
    have hdf := nx.defers.trans hdf
    have F92 := nx.new
    have F0 := (nx.old 0 (by decide)).trans F0
    have F1 := (nx.old 1 (by decide)).trans F1
    have F84 := (nx.old 84 (by decide)).trans F84
    have F88 := (nx.old 88 (by decide)).trans F88
    clear nx
    refine qs_quietG (v := .bool (eqB labels labels')) (by kernel_rfl : (opsSS[88]?).map inf = some (some 93, .call { callee := .value (.func 70), args := #[.tmp 88, .tmp 92], argTypes := #[22, 22] }, some (79, true))) (j := 79) (dj := 84) (by kernel_rfl) F84 hz (by decide) (fun o K ho hk => quiet_call ho (fn := Try.f70) Try.func70 (by kernel_rfl) (by kernel_rfl) (fun w hw => by
      have e1 := ev_of F88
      have e2 := ev_of F92
      have e0 : (#[.tmp 88, .tmp 92] : Array Operand).map f8.eval = #[.slice L labels.length lc, .slice L' labels'.length lc'] := by simp only [List.map_toArray, List.map_cons, List.map_nil, e1, e2] <;> rfl
      rw [e0]
      exact HT w hw) hk) ?_
    intro f9 nx
    have hz := nx.size
    have hdf := nx.defers.trans hdf
    have F93 := nx.new
    have F0 := (nx.old 0 (by decide)).trans F0
    have F1 := (nx.old 1 (by decide)).trans F1
    have F84 := (nx.old 84 (by decide)).trans F84
    clear nx
    refine qs_val (v := .bool (true && eqB labels labels')) (by kernel_rfl : (opsSS[89]?).map inf = some (some 94, .pick (.tmp 84) (.tmp 93) (.const (.bool false)), none)) hz (by decide) (fun o w ho hw => (run_pick_ ho (ev_of F84)).trans (by rw [if_pos rfl, ev_of F93]; rfl)) ?_
    intro fp nx
    have hz := nx.size
    have hdf := nx.defers.trans hdf
    have F94 := nx.new
    have F0 := (nx.old 0 (by decide)).trans F0
    have F1 := (nx.old 1 (by decide)).trans F1
    clear nx
    refine qs_val (v := .bool (true && eqB labels labels')) (by kernel_rfl : (opsSS[90]?).map inf = some (some 95, .move (.tmp 94), none)) hz (by decide) (fun o w ho hw => (run_move_ ho).trans (by rw [ev_of F94])) ?_
    intro fm nx
    exact k fm nx.size (nx.defers.trans hdf) ((nx.old 0 (by decide)).trans F0) ((nx.old 1 (by decide)).trans F1) nx.new
theorem seg8 {C : World → Prop} {Q : Act → Prop} {a b : Addr} {id kind id' kind' : Int} {labels labels' : List ByteArray} {nm proc nm' proc' : ByteArray} {ex ex' : E} {has has' : Bool} {args args' : List Ar} {th el th' el' : List S} {L X R T U L' X' R' T' U' : Option Addr} {lc xn xc rc tc uc lc' xn' xc' rc' tc' uc' : Nat} {x0 x1 y0 y1 : Int} {x2 y2 : ByteArray} (hca : ∀ w, C w → ∀ j u, [.int .i64 id, .int .i64 kind, .slice L labels.length lc, .string nm, .string proc, .int .i64 x0, .int .i64 x1, .string x2, .slice X xn xc, .bool has, .slice R args.length rc, .slice T th.length tc, .slice U el.length uc][j]? = some u → w.cell? (a.add j) = some u) (hcb : ∀ w, C w → ∀ j u, [.int .i64 id', .int .i64 kind', .slice L' labels'.length lc', .string nm', .string proc', .int .i64 y0, .int .i64 y1, .string y2, .slice X' xn' xc', .bool has', .slice R' args'.length rc', .slice T' th'.length tc', .slice U' el'.length uc'][j]? = some u → w.cell? (b.add j) = some u) (HX : ∀ w, C w → Calls Try.prog 145 #[.agg #[.int .i64 x0, .int .i64 x1, .string x2, .slice X xn xc], .agg #[.int .i64 y0, .int .i64 y1, .string y2, .slice X' xn' xc']] w fun e w' => e = .returned (.bool (eqB ex ex')) ∧ C w') (c : Bool) (f0 : Act) (hz : f0.tmps.size = 117) (hdf : f0.defers = []) (F0 : f0.tmps[0]? = some (.pointer (some a))) (F1 : f0.tmps[1]? = some (.pointer (some b))) (F95 : f0.tmps[95]? = some (.bool c))
    (k : ∀ f, f.tmps.size = 117 → f.defers = [] → f.tmps[0]? = some (.pointer (some a)) → f.tmps[1]? = some (.pointer (some b)) → f.tmps[106]? = some (.bool (c && eqB ex ex')) → QW Try.prog opsSS C Q 102 f) : QW Try.prog opsSS C Q 91 f0 := by
  cases c with
  | false =>
    refine qs_skips (j := 90) (dj := 95) (by kernel_rfl) 96 104 (by decide) 9 91 f0 hz F95 (by kernel_rfl) ?_
    intro f1 hz hdf' old
    have hdf := hdf'.trans hdf
    have F95 := (old 95 (by decide)).trans F95
    have F0 := (old 0 (by decide)).trans F0
    have F1 := (old 1 (by decide)).trans F1
    clear old hdf'
    refine qs_val (v := .bool (false && eqB ex ex')) (by kernel_rfl : (opsSS[100]?).map inf = some (some 105, .pick (.tmp 95) (.tmp 104) (.const (.bool false)), none)) hz (by decide) (fun o w ho hw => (run_pick_ ho (ev_of F95)).trans (by rw [if_neg (by decide)]; rfl)) ?_
    intro fp nx
    have hz := nx.size
    have hdf := nx.defers.trans hdf
    have F105 := nx.new
    have F0 := (nx.old 0 (by decide)).trans F0
    have F1 := (nx.old 1 (by decide)).trans F1
    clear nx
    refine qs_val (v := .bool (false && eqB ex ex')) (by kernel_rfl : (opsSS[101]?).map inf = some (some 106, .move (.tmp 105), none)) hz (by decide) (fun o w ho hw => (run_move_ ho).trans (by rw [ev_of F105])) ?_
    intro fm nx
    exact k fm nx.size (nx.defers.trans hdf) ((nx.old 0 (by decide)).trans F0) ((nx.old 1 (by decide)).trans F1) nx.new
  | true =>
    refine qs_valG (v := .pointer (some a)) (by kernel_rfl : (opsSS[91]?).map inf = some (some 96, .move (.tmp 0), some (90, true))) (j := 90) (dj := 95) (by kernel_rfl) F95 hz (by decide) (fun o w ho hw => (run_move_ ho).trans (by rw [ev_of F0])) ?_
    intro f1 nx
    have hz := nx.size
    have hdf := nx.defers.trans hdf
    have F96 := nx.new
    have F0 := (nx.old 0 (by decide)).trans F0
    have F1 := (nx.old 1 (by decide)).trans F1
    have F95 := (nx.old 95 (by decide)).trans F95
    clear nx
    refine qs_valG (v := .pointer (some a)) (by kernel_rfl : (opsSS[92]?).map inf = some (some 97, .nilCheck (.tmp 96), some (90, true))) (j := 90) (dj := 95) (by kernel_rfl) F95 hz (by decide) (fun o w ho hw => run_nilCheck_ ho (ev_of F96)) ?_
    intro f2 nx
    have hz := nx.size
    have hdf := nx.defers.trans hdf
    have F97 := nx.new
    have F0 := (nx.old 0 (by decide)).trans F0
    have F1 := (nx.old 1 (by decide)).trans F1
    have F95 := (nx.old 95 (by decide)).trans F95
    clear nx
    refine qs_valG (v := .pointer (some (a.add 5))) (by kernel_rfl : (opsSS[93]?).map inf = some (some 98, .fieldAddr 55 (.tmp 97) 5, some (90, true))) (j := 90) (dj := 95) (by kernel_rfl) F95 hz (by decide) (fun o w ho hw => run_field47_5 ho (ev_of F97)) ?_
    intro f3 nx
    have hz := nx.size
    have hdf := nx.defers.trans hdf
    have F98 := nx.new
    have F0 := (nx.old 0 (by decide)).trans F0
    have F1 := (nx.old 1 (by decide)).trans F1
    have F95 := (nx.old 95 (by decide)).trans F95
    clear nx
    refine qs_valG (v := .agg #[.int .i64 x0, .int .i64 x1, .string x2, .slice X xn xc]) (by kernel_rfl : (opsSS[94]?).map inf = some (some 99, .load 41 (.tmp 98), some (90, true))) (j := 90) (dj := 95) (by kernel_rfl) F95 hz (by decide) (fun o w ho hw => run_load_expr ho (ev_of F98) (hca w hw 5 _ rfl) (by rw [add_ne a (by decide)]; exact cell_at (j := 5) (k := 1) (hca w hw 6 _ rfl)) (by rw [add_ne a (by decide)]; exact cell_at (j := 5) (k := 2) (hca w hw 7 _ rfl)) (by rw [add_ne a (by decide)]; exact cell_at (j := 5) (k := 3) (hca w hw 8 _ rfl))) ?_
    intro f4 nx
    have hz := nx.size
    have hdf := nx.defers.trans hdf
    have F99 := nx.new
    have F0 := (nx.old 0 (by decide)).trans F0
    have F1 := (nx.old 1 (by decide)).trans F1
    have F95 := (nx.old 95 (by decide)).trans F95
    clear nx
    refine qs_valG (v := .pointer (some b)) (by kernel_rfl : (opsSS[95]?).map inf = some (some 100, .move (.tmp 1), some (90, true))) (j := 90) (dj := 95) (by kernel_rfl) F95 hz (by decide) (fun o w ho hw => (run_move_ ho).trans (by rw [ev_of F1])) ?_
    intro f5 nx
    have hz := nx.size
    have hdf := nx.defers.trans hdf
    have F100 := nx.new
    have F0 := (nx.old 0 (by decide)).trans F0
    have F1 := (nx.old 1 (by decide)).trans F1
    have F95 := (nx.old 95 (by decide)).trans F95
    have F99 := (nx.old 99 (by decide)).trans F99
    clear nx
    refine qs_valG (v := .pointer (some b)) (by kernel_rfl : (opsSS[96]?).map inf = some (some 101, .nilCheck (.tmp 100), some (90, true))) (j := 90) (dj := 95) (by kernel_rfl) F95 hz (by decide) (fun o w ho hw => run_nilCheck_ ho (ev_of F100)) ?_
    intro f6 nx
    have hz := nx.size
    have hdf := nx.defers.trans hdf
    have F101 := nx.new
    have F0 := (nx.old 0 (by decide)).trans F0
    have F1 := (nx.old 1 (by decide)).trans F1
    have F95 := (nx.old 95 (by decide)).trans F95
    have F99 := (nx.old 99 (by decide)).trans F99
    clear nx
    refine qs_valG (v := .pointer (some (b.add 5))) (by kernel_rfl : (opsSS[97]?).map inf = some (some 102, .fieldAddr 55 (.tmp 101) 5, some (90, true))) (j := 90) (dj := 95) (by kernel_rfl) F95 hz (by decide) (fun o w ho hw => run_field47_5 ho (ev_of F101)) ?_
    intro f7 nx
    have hz := nx.size
    have hdf := nx.defers.trans hdf
    have F102 := nx.new
    have F0 := (nx.old 0 (by decide)).trans F0
    have F1 := (nx.old 1 (by decide)).trans F1
    have F95 := (nx.old 95 (by decide)).trans F95
    have F99 := (nx.old 99 (by decide)).trans F99
    clear nx
    refine qs_valG (v := .agg #[.int .i64 y0, .int .i64 y1, .string y2, .slice X' xn' xc']) (by kernel_rfl : (opsSS[98]?).map inf = some (some 103, .load 41 (.tmp 102), some (90, true))) (j := 90) (dj := 95) (by kernel_rfl) F95 hz (by decide) (fun o w ho hw => run_load_expr ho (ev_of F102) (hcb w hw 5 _ rfl) (by rw [add_ne b (by decide)]; exact cell_at (j := 5) (k := 1) (hcb w hw 6 _ rfl)) (by rw [add_ne b (by decide)]; exact cell_at (j := 5) (k := 2) (hcb w hw 7 _ rfl)) (by rw [add_ne b (by decide)]; exact cell_at (j := 5) (k := 3) (hcb w hw 8 _ rfl))) ?_
    intro f8 nx
    have hz := nx.size
    have hdf := nx.defers.trans hdf
    have F103 := nx.new
    have F0 := (nx.old 0 (by decide)).trans F0
    have F1 := (nx.old 1 (by decide)).trans F1
    have F95 := (nx.old 95 (by decide)).trans F95
    have F99 := (nx.old 99 (by decide)).trans F99
    clear nx
    refine qs_quietG (v := .bool (eqB ex ex')) (by kernel_rfl : (opsSS[99]?).map inf = some (some 104, .call { callee := .value (.func 145), args := #[.tmp 99, .tmp 103], argTypes := #[41, 41] }, some (90, true))) (j := 90) (dj := 95) (by kernel_rfl) F95 hz (by decide) (fun o K ho hk => quiet_call ho (fn := Try.f145) Try.func145 (by kernel_rfl) (by kernel_rfl) (fun w hw => by
      have e1 := ev_of F99
      have e2 := ev_of F103
      have e0 : (#[.tmp 99, .tmp 103] : Array Operand).map f8.eval = #[.agg #[.int .i64 x0, .int .i64 x1, .string x2, .slice X xn xc], .agg #[.int .i64 y0, .int .i64 y1, .string y2, .slice X' xn' xc']] := by simp only [List.map_toArray, List.map_cons, List.map_nil, e1, e2] <;> rfl
      rw [e0]
      exact HX w hw) hk) ?_
    intro f9 nx
    have hz := nx.size
    have hdf := nx.defers.trans hdf
    have F104 := nx.new
    have F0 := (nx.old 0 (by decide)).trans F0
    have F1 := (nx.old 1 (by decide)).trans F1
    have F95 := (nx.old 95 (by decide)).trans F95
    clear nx
    refine qs_val (v := .bool (true && eqB ex ex')) (by kernel_rfl : (opsSS[100]?).map inf = some (some 105, .pick (.tmp 95) (.tmp 104) (.const (.bool false)), none)) hz (by decide) (fun o w ho hw => (run_pick_ ho (ev_of F95)).trans (by rw [if_pos rfl, ev_of F104]; rfl)) ?_
    intro fp nx
    have hz := nx.size
    have hdf := nx.defers.trans hdf
    have F105 := nx.new
    have F0 := (nx.old 0 (by decide)).trans F0
    have F1 := (nx.old 1 (by decide)).trans F1
    clear nx
    refine qs_val (v := .bool (true && eqB ex ex')) (by kernel_rfl : (opsSS[101]?).map inf = some (some 106, .move (.tmp 105), none)) hz (by decide) (fun o w ho hw => (run_move_ ho).trans (by rw [ev_of F105])) ?_
    intro fm nx
    exact k fm nx.size (nx.defers.trans hdf) ((nx.old 0 (by decide)).trans F0) ((nx.old 1 (by decide)).trans F1) nx.new
theorem seg9 {C : World → Prop} {Q : Act → Prop} {a b : Addr} {id kind id' kind' : Int} {labels labels' : List ByteArray} {nm proc nm' proc' : ByteArray} {ex ex' : E} {has has' : Bool} {args args' : List Ar} {th el th' el' : List S} {L X R T U L' X' R' T' U' : Option Addr} {lc xn xc rc tc uc lc' xn' xc' rc' tc' uc' : Nat} {x0 x1 y0 y1 : Int} {x2 y2 : ByteArray} (hca : ∀ w, C w → ∀ j u, [.int .i64 id, .int .i64 kind, .slice L labels.length lc, .string nm, .string proc, .int .i64 x0, .int .i64 x1, .string x2, .slice X xn xc, .bool has, .slice R args.length rc, .slice T th.length tc, .slice U el.length uc][j]? = some u → w.cell? (a.add j) = some u) (hcb : ∀ w, C w → ∀ j u, [.int .i64 id', .int .i64 kind', .slice L' labels'.length lc', .string nm', .string proc', .int .i64 y0, .int .i64 y1, .string y2, .slice X' xn' xc', .bool has', .slice R' args'.length rc', .slice T' th'.length tc', .slice U' el'.length uc'][j]? = some u → w.cell? (b.add j) = some u) (HA : ∀ w, C w → Calls Try.prog 146 #[.slice R args.length rc, .slice R' args'.length rc', .func (.func 147) #[] #[]] w fun e w' => e = .returned (.bool (eqB args args')) ∧ C w') (c : Bool) (f0 : Act) (hz : f0.tmps.size = 117) (hdf : f0.defers = []) (F0 : f0.tmps[0]? = some (.pointer (some a))) (F1 : f0.tmps[1]? = some (.pointer (some b))) (F106 : f0.tmps[106]? = some (.bool c))
    (k : ∀ f, f.tmps.size = 117 → f.defers = [] → f.tmps[4]? = some (.bool (c && eqB args args')) → QW Try.prog opsSS C Q 113 f) : QW Try.prog opsSS C Q 102 f0 := by
  cases c with
  | false =>
    refine qs_skips (j := 101) (dj := 106) (by kernel_rfl) 107 115 (by decide) 9 102 f0 hz F106 (by kernel_rfl) ?_
    intro f1 hz hdf' old
    have hdf := hdf'.trans hdf
    have F106 := (old 106 (by decide)).trans F106
    clear old hdf'
    refine qs_val (v := .bool (false && eqB args args')) (by kernel_rfl : (opsSS[111]?).map inf = some (some 116, .pick (.tmp 106) (.tmp 115) (.const (.bool false)), none)) hz (by decide) (fun o w ho hw => (run_pick_ ho (ev_of F106)).trans (by rw [if_neg (by decide)]; rfl)) ?_
    intro fp nx
    have hz := nx.size
    have hdf := nx.defers.trans hdf
    have F116 := nx.new
    clear nx
    refine qs_val (v := .bool (false && eqB args args')) (by kernel_rfl : (opsSS[112]?).map inf = some (some 4, .assign (.tmp 116), none)) hz (by decide) (fun o w ho hw => (run_assign_ ho).trans (by rw [ev_of F116])) ?_
    intro fm nx
    exact k fm nx.size (nx.defers.trans hdf) nx.new
  | true =>
    refine qs_valG (v := .pointer (some a)) (by kernel_rfl : (opsSS[102]?).map inf = some (some 107, .move (.tmp 0), some (101, true))) (j := 101) (dj := 106) (by kernel_rfl) F106 hz (by decide) (fun o w ho hw => (run_move_ ho).trans (by rw [ev_of F0])) ?_
    intro f1 nx
    have hz := nx.size
    have hdf := nx.defers.trans hdf
    have F107 := nx.new
    have F1 := (nx.old 1 (by decide)).trans F1
    have F106 := (nx.old 106 (by decide)).trans F106
    clear nx
    refine qs_valG (v := .pointer (some a)) (by kernel_rfl : (opsSS[103]?).map inf = some (some 108, .nilCheck (.tmp 107), some (101, true))) (j := 101) (dj := 106) (by kernel_rfl) F106 hz (by decide) (fun o w ho hw => run_nilCheck_ ho (ev_of F107)) ?_
    intro f2 nx
    have hz := nx.size
    have hdf := nx.defers.trans hdf
    have F108 := nx.new
    have F1 := (nx.old 1 (by decide)).trans F1
    have F106 := (nx.old 106 (by decide)).trans F106
    clear nx
    refine qs_valG (v := .pointer (some (a.add 10))) (by kernel_rfl : (opsSS[104]?).map inf = some (some 109, .fieldAddr 55 (.tmp 108) 7, some (101, true))) (j := 101) (dj := 106) (by kernel_rfl) F106 hz (by decide) (fun o w ho hw => run_field47_7 ho (ev_of F108)) ?_
    intro f3 nx
    have hz := nx.size
    have hdf := nx.defers.trans hdf
    have F109 := nx.new
    have F1 := (nx.old 1 (by decide)).trans F1
    have F106 := (nx.old 106 (by decide)).trans F106
    clear nx
    refine qs_valG (v := .slice R args.length rc) (by kernel_rfl : (opsSS[105]?).map inf = some (some 110, .load 52 (.tmp 109), some (101, true))) (j := 101) (dj := 106) (by kernel_rfl) F106 hz (by decide) (fun o w ho hw => run_load_args ho (ev_of F109) (hca w hw 10 _ rfl)) ?_
    intro f4 nx
    have hz := nx.size
    have hdf := nx.defers.trans hdf
    have F110 := nx.new
    have F1 := (nx.old 1 (by decide)).trans F1
    have F106 := (nx.old 106 (by decide)).trans F106
    clear nx
    refine qs_valG (v := .pointer (some b)) (by kernel_rfl : (opsSS[106]?).map inf = some (some 111, .move (.tmp 1), some (101, true))) (j := 101) (dj := 106) (by kernel_rfl) F106 hz (by decide) (fun o w ho hw => (run_move_ ho).trans (by rw [ev_of F1])) ?_
    intro f5 nx
    have hz := nx.size
    have hdf := nx.defers.trans hdf
    have F111 := nx.new
    have F106 := (nx.old 106 (by decide)).trans F106
    have F110 := (nx.old 110 (by decide)).trans F110
    clear nx
    refine qs_valG (v := .pointer (some b)) (by kernel_rfl : (opsSS[107]?).map inf = some (some 112, .nilCheck (.tmp 111), some (101, true))) (j := 101) (dj := 106) (by kernel_rfl) F106 hz (by decide) (fun o w ho hw => run_nilCheck_ ho (ev_of F111)) ?_
    intro f6 nx
    have hz := nx.size
    have hdf := nx.defers.trans hdf
    have F112 := nx.new
    have F106 := (nx.old 106 (by decide)).trans F106
    have F110 := (nx.old 110 (by decide)).trans F110
    clear nx
    refine qs_valG (v := .pointer (some (b.add 10))) (by kernel_rfl : (opsSS[108]?).map inf = some (some 113, .fieldAddr 55 (.tmp 112) 7, some (101, true))) (j := 101) (dj := 106) (by kernel_rfl) F106 hz (by decide) (fun o w ho hw => run_field47_7 ho (ev_of F112)) ?_
    intro f7 nx
    have hz := nx.size
    have hdf := nx.defers.trans hdf
    have F113 := nx.new
    have F106 := (nx.old 106 (by decide)).trans F106
    have F110 := (nx.old 110 (by decide)).trans F110
    clear nx
    refine qs_valG (v := .slice R' args'.length rc') (by kernel_rfl : (opsSS[109]?).map inf = some (some 114, .load 52 (.tmp 113), some (101, true))) (j := 101) (dj := 106) (by kernel_rfl) F106 hz (by decide) (fun o w ho hw => run_load_args ho (ev_of F113) (hcb w hw 10 _ rfl)) ?_
    intro f8 nx
    have hz := nx.size
    have hdf := nx.defers.trans hdf
    have F114 := nx.new
    have F106 := (nx.old 106 (by decide)).trans F106
    have F110 := (nx.old 110 (by decide)).trans F110
    clear nx
    refine qs_quietG (v := .bool (eqB args args')) (by kernel_rfl : (opsSS[110]?).map inf = some (some 115, .call { callee := .value (.func 146), args := #[.tmp 110, .tmp 114, .func 147], argTypes := #[52, 52, 182] }, some (101, true))) (j := 101) (dj := 106) (by kernel_rfl) F106 hz (by decide) (fun o K ho hk => quiet_call ho (fn := Try.f146) Try.func146 (by kernel_rfl) (by kernel_rfl) (fun w hw => by
      have e1 := ev_of F110
      have e2 := ev_of F114
      have e0 : (#[.tmp 110, .tmp 114, .func 147] : Array Operand).map f8.eval = #[.slice R args.length rc, .slice R' args'.length rc', .func (.func 147) #[] #[]] := by simp only [List.map_toArray, List.map_cons, List.map_nil, e1, e2] <;> rfl
      rw [e0]
      exact HA w hw) hk) ?_
    intro f9 nx
    have hz := nx.size
    have hdf := nx.defers.trans hdf
    have F115 := nx.new
    have F106 := (nx.old 106 (by decide)).trans F106
    clear nx
    refine qs_val (v := .bool (true && eqB args args')) (by kernel_rfl : (opsSS[111]?).map inf = some (some 116, .pick (.tmp 106) (.tmp 115) (.const (.bool false)), none)) hz (by decide) (fun o w ho hw => (run_pick_ ho (ev_of F106)).trans (by rw [if_pos rfl, ev_of F115]; rfl)) ?_
    intro fp nx
    have hz := nx.size
    have hdf := nx.defers.trans hdf
    have F116 := nx.new
    clear nx
    refine qs_val (v := .bool (true && eqB args args')) (by kernel_rfl : (opsSS[112]?).map inf = some (some 4, .assign (.tmp 116), none)) hz (by decide) (fun o w ho hw => (run_assign_ ho).trans (by rw [ev_of F116])) ?_
    intro fm nx
    exact k fm nx.size (nx.defers.trans hdf) nx.new
theorem lexSS0 : (List.range' 0 6).all (lexAt opsSS) = true := by kernel_rfl
theorem lexSS6 : (List.range' 6 6).all (lexAt opsSS) = true := by kernel_rfl
theorem lexSS12 : (List.range' 12 6).all (lexAt opsSS) = true := by kernel_rfl
theorem lexSS18 : (List.range' 18 6).all (lexAt opsSS) = true := by kernel_rfl
theorem lexSS24 : (List.range' 24 6).all (lexAt opsSS) = true := by kernel_rfl
theorem lexSS30 : (List.range' 30 6).all (lexAt opsSS) = true := by kernel_rfl
theorem lexSS36 : (List.range' 36 6).all (lexAt opsSS) = true := by kernel_rfl
theorem lexSS42 : (List.range' 42 6).all (lexAt opsSS) = true := by kernel_rfl
theorem lexSS48 : (List.range' 48 6).all (lexAt opsSS) = true := by kernel_rfl
theorem lexSS54 : (List.range' 54 6).all (lexAt opsSS) = true := by kernel_rfl
theorem lexSS60 : (List.range' 60 6).all (lexAt opsSS) = true := by kernel_rfl
theorem lexSS66 : (List.range' 66 6).all (lexAt opsSS) = true := by kernel_rfl
theorem lexSS72 : (List.range' 72 6).all (lexAt opsSS) = true := by kernel_rfl
theorem lexSS78 : (List.range' 78 6).all (lexAt opsSS) = true := by kernel_rfl
theorem lexSS84 : (List.range' 84 6).all (lexAt opsSS) = true := by kernel_rfl
theorem lexSS90 : (List.range' 90 6).all (lexAt opsSS) = true := by kernel_rfl
theorem lexSS96 : (List.range' 96 6).all (lexAt opsSS) = true := by kernel_rfl
theorem lexSS102 : (List.range' 102 6).all (lexAt opsSS) = true := by kernel_rfl
theorem lexSS108 : (List.range' 108 5).all (lexAt opsSS) = true := by kernel_rfl
theorem lenSS : opsSS.length = 113 := by kernel_rfl
theorem lexSS : Region.lexB .any opsSS.toArray = true := by
  refine lexB_of opsSS (by kernel_rfl) (fun k hk => ?_) (by kernel_rfl)
  rw [lenSS] at hk
  by_cases h0 : k < 6
  · exact lex_chunk lexSS0 k (by omega) (by omega)
  by_cases h6 : k < 12
  · exact lex_chunk lexSS6 k (by omega) (by omega)
  by_cases h12 : k < 18
  · exact lex_chunk lexSS12 k (by omega) (by omega)
  by_cases h18 : k < 24
  · exact lex_chunk lexSS18 k (by omega) (by omega)
  by_cases h24 : k < 30
  · exact lex_chunk lexSS24 k (by omega) (by omega)
  by_cases h30 : k < 36
  · exact lex_chunk lexSS30 k (by omega) (by omega)
  by_cases h36 : k < 42
  · exact lex_chunk lexSS36 k (by omega) (by omega)
  by_cases h42 : k < 48
  · exact lex_chunk lexSS42 k (by omega) (by omega)
  by_cases h48 : k < 54
  · exact lex_chunk lexSS48 k (by omega) (by omega)
  by_cases h54 : k < 60
  · exact lex_chunk lexSS54 k (by omega) (by omega)
  by_cases h60 : k < 66
  · exact lex_chunk lexSS60 k (by omega) (by omega)
  by_cases h66 : k < 72
  · exact lex_chunk lexSS66 k (by omega) (by omega)
  by_cases h72 : k < 78
  · exact lex_chunk lexSS72 k (by omega) (by omega)
  by_cases h78 : k < 84
  · exact lex_chunk lexSS78 k (by omega) (by omega)
  by_cases h84 : k < 90
  · exact lex_chunk lexSS84 k (by omega) (by omega)
  by_cases h90 : k < 96
  · exact lex_chunk lexSS90 k (by omega) (by omega)
  by_cases h96 : k < 102
  · exact lex_chunk lexSS96 k (by omega) (by omega)
  by_cases h102 : k < 108
  · exact lex_chunk lexSS102 k (by omega) (by omega)
  exact lex_chunk lexSS108 k (by omega) (by omega)
theorem region_qw {P : Program} {C : World → Prop} {Q : Exit → Act → World → Prop} {id : Nat} {ops : Array Oper} {l : List Oper} {a : Act} {w : World} (hl : ops.toList = l) (hm : P.follows .mixedOrders = true) (hB : Region.lexB .any l.toArray = true) (hC : C w.drew)
    (h : QW P l C (fun a' => ∀ w', C w' → Q .normal a' w') 0 a) : (Code.region id ops true).wp P Q a w := by
  subst hl
  have hB' : Region.lexB .any ops = true := by simpa using hB
  refine wp_region_quiet (C := C) hm hB' hC ?_
  have := h
  unfold QW at this
  simpa using this
set_option maxRecDepth 100000 in
set_option maxHeartbeats 4000000 in
theorem sameStmt_any {w1 w2 W : World} {Q1 Q2 : Nat → Prop} {a b : Addr} {x y : S} (h1 : NodeI w1 Q1 (StmtI w1 Q1) a x) (h2 : NodeI w2 Q2 (StmtI w2 Q2) b y) (hI1 : In Q1 w1 W) (hI2 : In Q2 w2 W) (hz1 : szS x) (hz2 : szS y) :
    Calls Try.prog 113 #[.pointer (some a), .pointer (some b)] W (MayOk (headS x y) W) := by
  obtain ⟨hqa, cs, hs1, hca⟩ := h1
  obtain ⟨hqb, ds, hs2, hcb⟩ := h2
  obtain ⟨id, kind, labels, nm, proc, ex, has, args, th, el, L, lc, x0, x1, x2, X, xn, xc, R, rc, T, tc, U, uc, rfl, rfl, _, _, _, _, hl1, hx1, ha1, _, _⟩ := stmt_open hs1
  obtain ⟨id', kind', labels', nm', proc', ex', has', args', th', el', L', lc', y0, y1, y2, X', xn', xc', R', rc', T', tc', U', uc', rfl, rfl, _, _, _, _, hl2, hx2, ha2, _, _⟩ := stmt_open hs2
  have hC : ∀ w, Below W.heap.size W w → In Q1 w1 w ∧ In Q2 w2 w := fun w hw => ⟨hI1.on hw, hI2.on hw⟩
  have KA := fun w hw j u (hu : _ = some u) => ((hC w hw).1.cell (p := a.add j) (by rw [block_add]; exact hqa)).trans (hca j u hu)
  have KB := fun w hw j u (hu : _ = some u) => ((hC w hw).2.cell (p := b.add j) (by rw [block_add]; exact hqb)).trans (hcb j u hu)
  have on : ∀ {w w' : World}, Below W.heap.size W w → Below w.heap.size w w' → Below W.heap.size W w' := fun h k => h.trans (k.mono h.size)
  have HT : ∀ w, Below W.heap.size W w → Calls Try.prog 70 #[.slice L labels.length lc, .slice L' labels'.length lc'] w fun e w' => e = .returned (.bool (eqB labels labels')) ∧ Below W.heap.size W w' := fun w hw => by
    rw [← eqB_dec]
    exact (EqualT_any hl1 hl2 (hC w hw).1 (hC w hw).2).mono fun e w' ⟨h, k⟩ => ⟨h, on hw k⟩
  have HX := fun w hw => (sameExpr_any (W := w) hx1 hx2 (hC w hw).1 (hC w hw).2 hz1.1 hz2.1).mono fun e w' ⟨h, k⟩ => (⟨h, on hw k⟩ : _ ∧ Below W.heap.size W w')
  have HA := fun w hw => (EqualA_any (W := w) ha1 ha2 (hC w hw).1 (hC w hw).2 hz1.2 hz2.2).mono fun e w' ⟨h, k⟩ => (⟨h, on hw k⟩ : _ ∧ Below W.heap.size W w')
  have HM : Hid (headS (.mk id kind labels nm proc ex has args th el) (.mk id' kind' labels' nm' proc' ex' has' args' th' el') = ((id == id') && (kind == kind') && (nm.toList == nm'.toList) && (proc.toList == proc'.toList) && (has == has') && (((th.length : Nat) : Int) == ((th'.length : Nat) : Int)) && (((el.length : Nat) : Int) == ((el'.length : Nat) : Int)) && eqB labels labels' && eqB ex ex' && eqB args args')) := Lib.hid rfl
  have HAll := Lib.hid (And.intro KA (And.intro KB (And.intro HT (And.intro HX HA))))
  clear KA KB HT HX HA hca hcb hl1 hl2 hx1 hx2 ha1 ha2 hs1 hs2 hC hI1 hI2 hz1 hz2
  go_enter Try.func113, Try.ntmps113
  go_wp2_with fail
  rename_i KK hKK
  refine region_qw (C := fun w' => Below W.heap.size W w') (l := opsSS) (by kernel_rfl) (by kernel_rfl) lexSS (Below.refl _ _).drew ?_
  obtain ⟨KA, KB, HT, HX, HA⟩ := HAll.out
  refine seg0 (ex := ex) (ex' := ex') KA KB _ (by kernel_rfl) rfl rfl rfl ?_
  intro f hz hdf F0 F1 F
  refine seg1 (ex := ex) (ex' := ex') KA KB _ f hz hdf F0 F1 F ?_
  clear hz hdf F0 F1 F; intro f hz hdf F0 F1 F
  refine seg2 (ex := ex) (ex' := ex') KA KB _ f hz hdf F0 F1 F ?_
  clear hz hdf F0 F1 F; intro f hz hdf F0 F1 F
  refine seg3 (ex := ex) (ex' := ex') KA KB _ f hz hdf F0 F1 F ?_
  clear hz hdf F0 F1 F; intro f hz hdf F0 F1 F
  refine seg4 (ex := ex) (ex' := ex') KA KB _ f hz hdf F0 F1 F ?_
  clear hz hdf F0 F1 F; intro f hz hdf F0 F1 F
  refine seg5 (ex := ex) (ex' := ex') KA KB _ f hz hdf F0 F1 F ?_
  clear hz hdf F0 F1 F; intro f hz hdf F0 F1 F
  refine seg6 (ex := ex) (ex' := ex') KA KB _ f hz hdf F0 F1 F ?_
  clear hz hdf F0 F1 F; intro f hz hdf F0 F1 F
  refine seg7 (ex := ex) (ex' := ex') KA KB HT _ f hz hdf F0 F1 F ?_
  clear hz hdf F0 F1 F; intro f hz hdf F0 F1 F
  refine seg8 (ex := ex) (ex' := ex') KA KB HX _ f hz hdf F0 F1 F ?_
  clear hz hdf F0 F1 F; intro f hz hdf F0 F1 F
  refine seg9 (ex := ex) (ex' := ex') KA KB HA _ f hz hdf F0 F1 F ?_
  clear hz hdf F0 F1 F; intro f hz hdf F
  refine qw_end (by rw [lenSS]; decide) ?_
  intro w' hw'
  rw [← HM.out] at F
  have key : MayOk (headS (.mk id kind labels nm proc ex has args th el) (.mk id' kind' labels' nm' proc' ex' has' args' th' el')) W (.returned (f.tmps.getD 4 undef)) w' := ⟨by rw [Array.getD_eq_getD_getElem?, F]; rfl, hw'⟩
  have fin := bodyPost_ret (P := Try.prog) (R := MayOk (headS (.mk id kind labels nm proc ex has args th el) (.mk id' kind' labels' nm' proc' ex' has' args' th' el')) W) (results_tmp Try.results113 f.tmps Try.prog w') hdf key
  exact hKK f w' (wp_ret fin)
end Go.Proofs.Ytnnblklbjbkikaa
