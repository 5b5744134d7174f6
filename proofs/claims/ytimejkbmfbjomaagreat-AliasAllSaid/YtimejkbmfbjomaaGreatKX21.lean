/- Texts, merged by a program; only what is used. -/
import Derived.Test.YtimejkbmfbjomaaGreatKX1
import Derived.Test.YtimejkbmfbjomaaGreatKX2
import Derived.Test.YtimejkbmfbjomaaGreatKX3
import Derived.Test.YtimejkbmfbjomaaGreatKX4
import Derived.Test.YtimejkbmfbjomaaGreatKX5
import Derived.Test.YtimejkbmfbjomaaGreatKX6
import Derived.Test.YtimejkbmfbjomaaGreatKX7
import Derived.Test.YtimejkbmfbjomaaGreatKX8
import Derived.Test.YtimejkbmfbjomaaGreatKX9
import Derived.Test.YtimejkbmfbjomaaGreatKX10
import Derived.Test.YtimejkbmfbjomaaGreatKX11
import Derived.Test.YtimejkbmfbjomaaGreatKX12
import Derived.Test.YtimejkbmfbjomaaGreatKX13
import Derived.Test.YtimejkbmfbjomaaGreatKX14
import Derived.Test.YtimejkbmfbjomaaGreatKX15
import Derived.Test.YtimejkbmfbjomaaGreatKX16
import Derived.Test.YtimejkbmfbjomaaGreatKX17
import Derived.Test.YtimejkbmfbjomaaGreatKX20
namespace Go.Proofs.YtimejkbmfbjomaaGreat
open Go.ChangeShapes Go.WideShapes Go.ChangeAt Go.RowKit Go.Deep
set_option linter.unusedVariables false
set_option linter.unusedSimpArgs false
theorem allL_map : ∀ (l : List Pr) (out : List It), (∀ q ∈ l, (flatOf q).map It.s = preSL q.body) → out.length + cntL l ≤ 200 → (allL l out).map It.s = out.map It.s ++ l.flatMap (fun q => preSL q.body)
 | [], out, _, _ => by rw [allL]; simp
 | q :: l, out, h, hn => by
  have hq := h q (List.mem_cons_self ..)
  have hl : (flatOf q).length = (preSL q.body).length := by rw [← hq, List.length_map]
  rw [cntL] at hn
  rw [allL, if_neg (by rw [List.length_append]; omega), allL_map l _ (fun q hq => h q (List.mem_cons_of_mem _ hq)) (by rw [List.length_append]; omega), List.map_append, hq, List.flatMap_cons, List.append_assoc]
theorem all_map {p : Pg} (h : mayP p = true) : (allOf p).map It.s = p.procs.flatMap (fun q => preSL q.body) := by
 obtain ⟨h1, h2, _⟩ := may_flat h
 have := allL_map p.procs [] (fun q hq => (h1 q hq).1) (by simpa [cntP] using h2)
 simpa [allOf] using this
theorem all_ids {p : Pg} (h : mayP p = true) : ∀ x ∈ allOf p, 1 ≤ x.s.id ∧ x.s.id ≤ 200 := fun x hx => by
 have h1 : x.s ∈ (allOf p).map It.s := List.mem_map_of_mem hx
 rw [all_map h, List.mem_flatMap] at h1
 obtain ⟨q, hq, hs⟩ := h1
 exact may_ids h q hq _ hs
end Go.Proofs.YtimejkbmfbjomaaGreat
namespace Go.Proofs.YtimejkbmfbjomaaGreat
open Go.ChangeShapes Go.WideShapes Go.ChangeAt Go.RowKit Go.Deep
set_option linter.unusedVariables false
set_option linter.unusedSimpArgs false
theorem Mod_fix (n : Int) (k : Nat) (h1 : 1 ≤ k) (h2 : k ≤ 1000000) : ∃ m, m < k ∧ ∀ w : World, Calls Tryz.prog 35 #[.int .i64 n, .int .i64 k] w fun e w' => e = .returned (.int .i64 m) ∧ w = w' := by
 have hb : n.tmod k < k := Int.tmod_lt_of_pos n (by omega)
 have hb2 : -(k : Int) < n.tmod k := by
  have := Int.tmod_lt_of_pos (-n) (show (0 : Int) < k by omega)
  rw [Int.neg_tmod] at this
  omega
 by_cases hn : n.tmod k < 0
 ·refine ⟨(n.tmod k + k).toNat, by omega, fun w => ?_⟩
  go_enter Tryz.func35, Tryz.ntmps35
  go_wp2
  go_ret
  exact ⟨ret_int (by omega), rfl⟩
 ·refine ⟨(n.tmod k).toNat, by omega, fun w => ?_⟩
  go_enter Tryz.func35, Tryz.ntmps35
  go_wp2
  go_ret
  exact ⟨ret_int (by omega), rfl⟩
end Go.Proofs.YtimejkbmfbjomaaGreat
namespace Go.Proofs.YtimejkbmfbjomaaGreat
open Go.ChangeShapes Go.WideShapes Go.ChangeAt Go.RowKit Go.Deep
set_option linter.unusedVariables false
set_option linter.unusedSimpArgs false
theorem int_info : (Tryz.prog.info? 3).map (fun i => (i.zero, i.size, i.bytes)) = some (some (.int .i64 0), 1, 8) := by kernel_rfl
def intsV (l : List Int) : List Value := l.map (Value.int .i64)
def idsOf (kind : Int) (l : List It) : List Int := (l.filter (fun x => kind == 0 || x.s.kind == kind)).map (fun x => x.s.id)
theorem idsOf_take {kind : Int} {l : List It} {k : Nat} (h : k < l.length) : idsOf kind (l.take (k + 1)) = idsOf kind (l.take k) ++ if (kind == 0 || l[k].s.kind == kind) = true then [l[k].s.id] else [] := by
 unfold idsOf
 rw [List.take_succ_eq_append_getElem h, List.filter_append, List.map_append]
 congr 1
 rw [List.filter_cons, List.filter_nil]
 split <;> rfl
theorem idsOf_len {kind : Int} {l : List It} {k : Nat} : (idsOf kind (l.take k)).length ≤ k := by
 unfold idsOf
 rw [List.length_map]
 exact Nat.le_trans (List.length_filter_le ..) (by rw [List.length_take]; omega)
theorem new_int (w : World) (n : Int) : ∀ j u, [Value.int .i64 n][j]? = some u → (w.alloc (.cells #[.int .i64 n] 3)).cell? ((⟨w.heap.size, 0, none⟩ : Addr).add j) = some u := by
 intro j u hu
 have hj : j = 0 := by have := (List.getElem?_eq_some_iff.1 hu).1; simp at this; exact this
 subst hj
 simp at hu
 subst hu
 simp [Addr.add]
structure IdI (V wr : World) (l : List Int) (X : Option Addr) (n c : Nat) : Prop where
 row : wr.ownsRow V.heap.size 3 1 (.slice X n c) n (intsV l)
 len : n = l.length
 below : Below V.heap.size V wr
def NewInts (l : List Int) (w : World) (e : Ending) (w' : World) : Prop := ∃ v, e = .returned v ∧ w'.ownsRow w.heap.size 3 1 v l.length (intsV l) ∧ Below w.heap.size w w'
set_option maxHeartbeats 8000000 in
set_option maxRecDepth 100000 in
theorem Ids_any {w : World} {Q : Nat → Prop} {p : Pg} {c0 c1 : Value} (h : ProgI w Q p [c0, c1]) (kd : Int) (hkd : i64 kd) (W : World) (hI : In Q w W) :
 Calls Tryz.prog 29 #[.agg #[c0, c1], .int .i64 kd] W (NewInts (idsOf kd (allOf p)) W) := by
 have HAl := Lib.hid (fun V hV => All_any (W := V) h hV)
 obtain ⟨Ag, cg, Ap, cp, rfl, rfl, _⟩ := prog_open h
 have HI := Lib.hid hI
 have HLn : Hid ((allOf p).length ≤ 401) := Lib.hid (allL_len p.procs [] (by simp))
 obtain ⟨i0, hi0, hz0, hz1, hz2⟩ := info_parts int_info
 unfold i64 at hkd
 clear h hI
 generalize allOf p = its at HAl HLn ⊢
 go_enter Tryz.func29, Tryz.ntmps29
 go_upto_region 1 with fail
 have HB0 : Hid (Below W.heap.size W (W.alloc (.cells #[.slice Ag p.globals.length cg, .slice Ap p.procs.length cp] 25))) := Lib.hid (below_box _)
 have HBp : Hid (Blk (W.alloc (.cells #[.slice Ag p.globals.length cg, .slice Ap p.procs.length cp] 25)) W.heap.size 25 #[.slice Ag p.globals.length cg, .slice Ap p.procs.length cp]) := Lib.hid (Blk.new _ _ _)
 generalize World.alloc _ _ = V at HB0 HBp ⊢
 have HI0 := Lib.hid (HI.out.on HB0.out)
 generalize hbe : W.heap.size = b at HBp ⊢
 clear hbe
 have q0 : V.cell? ⟨b, 0, none⟩ = some (.slice Ag p.globals.length cg) := by rw [HBp.out.cell]; rfl
 have q1 : V.cell? ⟨b, 1, none⟩ = some (.slice Ap p.procs.length cp) := by rw [HBp.out.cell]; rfl
 go_upto_region 3 with (go_at_call 68; refine (HAl.out V HI0.out).mono ?_; rintro e w1 ⟨X1, n1, k1, rfl, hal⟩; obtain ⟨rfl, hn1, hk1, hsl⟩ := hal.slice)
 have HSl := Lib.hid hsl
 have HB1 := Lib.hid (below_step HB0.out hal.below)
 have HI1 := Lib.hid hal.inn
 have HIl : Hid (In (fun b => V.heap.size ≤ b ∧ b < w1.heap.size) w1 w1) := Lib.hid ⟨fun b h => h.2, fun _ _ => rfl⟩
 clear q0 q1 hal hsl HB0 HBp HI0 HAl
 generalize (fun b => V.heap.size ≤ b ∧ b < w1.heap.size) = T0 at HSl HIl
 have hll : its.length ≤ 401 := HLn.out
 have HS0 : Hid (IdI w1 w1 (idsOf kd (its.take 0)) none 0 0) := Lib.hid ⟨World.ownsRow_nil _ _ _ _, rfl, Below.refl _ _⟩
 go_loopg [5, 11] its.length (fun kk ov iv wr => ∃ (k : Nat) (Xr : Option Addr) (n c : Nat), k + kk = its.length ∧ iv = .int .i64 k ∧ ov = .slice Xr n c ∧ n ≤ 401 ∧ Hid (IdI w1 wr (idsOf kd (its.take k)) Xr n c))
 case atStart => exact ⟨0, none, 0, 0, by omega, rfl, rfl, by omega, HS0⟩
 case round =>
  clear HS0
  obtain ⟨k, Xr, n, c, hk, rfl, rfl, hn4, HR⟩ := hrel
  have HIr := Lib.hid (HI1.out.on HR.out.below)
  by_cases hlt : k < its.length
  ·obtain ⟨a2, id, kind, labels, nm, proc, x, has, args, th, el, L, lc, y0, y1, y2, X, xn, xc, R, rc, T, tc, U, uc, dp, inn, els, rfl, hq2, hmk, hrow2, hid, hkind, hst⟩ := item_at HSl.out (HIl.out.on HR.out.below) hlt
   have HT := Lib.hid (idsOf_take (kind := kd) hlt)
   rw [hmk] at HT
   have HLe : Hid (n = (idsOf kd (its.take k)).length ∧ n ≤ k) := Lib.hid ⟨HR.out.len, by rw [HR.out.len]; exact idsOf_len⟩
   generalize idsOf kd (its.take k) = pre at HR HT HLe
   have hkb := hkind
   unfold i64 at hkb
   obtain ⟨bb, hbb⟩ : ∃ bb, bb = (kd == 0 || kind == kd) := ⟨_, rfl⟩
   have HT2 : Hid (idsOf kd (its.take (k + 1)) = pre ++ if bb = true then [id] else []) := Lib.hid (by rw [hbb]; exact HT.out)
   have Hbb := Lib.hid hbb
   obtain ⟨p0, p1, p2, p3, p4, p5, p6, p7, p8, p9, p10, p11, p12, p13, p14, p15, _⟩ := hrow2
   clear hbb HT hmk hst hid hkind hq2
   go_upto_region 5 with fail
   have HBi : Hid (Blk (wr.alloc (.cells #[.int .i64 id, .int .i64 kind, .slice L labels.length lc, .string nm, .string proc, .int .i64 y0, .int .i64 y1, .string y2, .slice X xn xc, .bool has, .slice R args.length rc, .slice T th.length tc, .slice U el.length uc, .int .i64 dp, .int .i64 inn, .bool els] 51)) wr.heap.size 51 #[.int .i64 id, .int .i64 kind, .slice L labels.length lc, .string nm, .string proc, .int .i64 y0, .int .i64 y1, .string y2, .slice X xn xc, .bool has, .slice R args.length rc, .slice T th.length tc, .slice U el.length uc, .int .i64 dp, .int .i64 inn, .bool els]) := Lib.hid (Blk.new _ _ _)
   have HO4 : Hid ((wr.alloc (.cells #[.int .i64 id, .int .i64 kind, .slice L labels.length lc, .string nm, .string proc, .int .i64 y0, .int .i64 y1, .string y2, .slice X xn xc, .bool has, .slice R args.length rc, .slice T th.length tc, .slice U el.length uc, .int .i64 dp, .int .i64 inn, .bool els] 51)).ownsRow w1.heap.size 3 1 (.slice Xr n c) n (intsV pre)) := Lib.hid (HR.out.row.alloc _)
   have HB4 : Hid (Below w1.heap.size w1 (wr.alloc (.cells #[.int .i64 id, .int .i64 kind, .slice L labels.length lc, .string nm, .string proc, .int .i64 y0, .int .i64 y1, .string y2, .slice X xn xc, .bool has, .slice R args.length rc, .slice T th.length tc, .slice U el.length uc, .int .i64 dp, .int .i64 inn, .bool els] 51))) := Lib.hid (below_stepA HR.out.below _)
   clear p0 p1 p2 p3 p4 p5 p6 p7 p8 p9 p10 p11 p12 p13 p14 p15 HIr HR
   generalize World.alloc wr _ = V4 at HBi HB4 HO4 ⊢
   generalize wr.heap.size = bi at HBi ⊢
   have s0 : V4.cell? ⟨bi, 0, none⟩ = some (.int .i64 id) := by rw [HBi.out.cell]; rfl
   have s1 : V4.cell? ⟨bi, 1, none⟩ = some (.int .i64 kind) := by rw [HBi.out.cell]; rfl
   have hnk : n ≤ 400 := by have := HLe.out.2; omega
   go_cut [23] from 15 to 22 (fun s wx => s = .bool bb ∧ wx = V4)
   case first =>
    by_cases hk0 : kd = 0
    ·subst hk0
     have H2 : Hid (bb = true) := Lib.hid (by rw [Hbb.out]; rfl)
     go_wp2_with fail
     go_meet
     exact ⟨by rw [H2.out], rfl⟩
    ·have hk1 : (kd == 0) = false := beq_eq_false_iff_ne.2 hk0
     have H2 : Hid (bb = (kind == kd)) := Lib.hid (by rw [Hbb.out, hk1]; rfl)
     clear hk0
     go_wp2_with fail
     go_meet
     exact ⟨by rw [H2.out]; try rfl, rfl⟩
   case rest =>
    obtain ⟨rfl, hw⟩ := hcut
    replace hw := hw.symm
    subst hw
    cases bb with
    | true =>
     have HW := Lib.hid (new_int V4 id)
     have HO5 : Hid ((V4.alloc (.cells #[.int .i64 id] 3)).ownsRow w1.heap.size 3 1 (.slice Xr n c) n (intsV pre)) := Lib.hid (HO4.out.alloc _)
     have HB5 : Hid (Below w1.heap.size w1 (V4.alloc (.cells #[.int .i64 id] 3))) := Lib.hid (below_stepA HB4.out _)
     go_wp2_with (at_builtin; refine wpList_append_own_at _ rfl (.tmp 24) (.tmp 28) 55 rfl w1.heap.size 3 i0 _ 1 8 Tryz.underlying55 hi0 hz0 hz1 hz2 rfl (by decide) _ n (intsV pre) rfl HO5.out ⟨V4.heap.size, 0, none⟩ 1 1 [.int .i64 id] rfl rfl HW.out (by simp [Value.oneCell']) (by unfold maxLen; omega) (by omega) HB5.out.size ?_; intro v6 w6 hown6 hg6 _ hat6; obtain ⟨X6, k6, rfl, _, _⟩ := own_shape hown6; have HO6 := Lib.hid hown6; have HG6 := Lib.hid hg6; clear hown6 hg6 hat6)
     have HS : Hid (IdI w1 w6 (idsOf kd (its.take (k + 1))) X6 (n + 1) k6) := Lib.hid ⟨by rw [HT2.out]; show World.ownsRow _ _ _ _ _ _ (intsV (pre ++ [id])); unfold intsV; rw [List.map_append]; exact HO6.out, by rw [HT2.out]; show _ = (pre ++ [id]).length; rw [List.length_append, ← HLe.out.1]; rfl, HB5.out.grown HG6.out HB5.out.size (fun j hj => (HO5.out.lt j hj).1)⟩
     go_roundg (its.length - k - 1)
     case measure => omega
     case rel => exact ⟨k + 1, X6, _, k6, by omega, by go_num, rfl, by omega, HS⟩
    | false =>
     have HS : Hid (IdI w1 V4 (idsOf kd (its.take (k + 1))) Xr n c) := Lib.hid ⟨by rw [HT2.out]; show World.ownsRow _ _ _ _ _ _ (intsV (pre ++ [])); rw [List.append_nil]; exact HO4.out, by rw [HT2.out]; show _ = (pre ++ []).length; rw [List.append_nil]; exact HLe.out.1, HB4.out⟩
     go_wp2_with fail
     go_roundg (its.length - k - 1)
     case measure => omega
     case rel => exact ⟨k + 1, Xr, _, c, by omega, by go_num, rfl, by omega, HS⟩
  ·have hke : k = its.length := by omega
   subst hke
   go_wp2_with fail
   go_ret
   refine ⟨_, rfl, own_lower ?_ HB1.out.size, below_step HB1.out HR.out.below⟩
   have h1 := HR.out.row
   have h2 := HR.out.len
   rw [List.take_length] at h1 h2
   rw [h2] at h1 ⊢
   exact h1
theorem Pick_any {w W : World} {base c : Nat} {X : Option Addr} {l : List Int} (h : w.ownsRow base 3 1 (.slice X l.length c) l.length (intsV l)) (hl : l.length ≤ 1000) (hlb : ∀ i ∈ l, i64 i) (n : Int) (hb : Below w.heap.size w W) :
 Calls Tryz.prog 28 #[.slice X l.length c, .int .i64 n] W fun e w' => ∃ i : Int, (l = [] ∧ i = 0 ∨ i ∈ l) ∧ e = .returned (.int .i64 i) ∧ W = w' := by
 by_cases h0 : l.length = 0
 ·have hnil : l = [] := List.eq_nil_of_length_eq_zero h0
  have HN := Lib.hid hnil
  obtain ⟨len, hlen⟩ : ∃ len, len = l.length := ⟨_, rfl⟩
  rw [← hlen] at h0 ⊢
  subst h0
  clear h hl hlb hnil hlen
  go_enter Tryz.func28, Tryz.ntmps28
  go_wp2_with fail
  go_ret
  exact ⟨0, .inl ⟨HN.out, rfl⟩, rfl, rfl⟩
 ·obtain ⟨m, hm, hM⟩ := Mod_fix n l.length (by omega) (by omega)
  have HM := Lib.hid hM
  obtain ⟨a, cap, he, hc, _, _⟩ := own_at h hm
  injection he with h1 _ h3
  subst h1 h3
  have hcell := hc (.int .i64 l[m]) (by simp [intsV, List.getElem?_map, List.getElem?_eq_getElem hm])
  have hlt : (a.add m).block < w.heap.size := World.block_lt_of_cell? w _ hcell
  have p0 : W.cell? (a.add m) = some (.int .i64 l[m]) := (hb.cell hlt).trans hcell
  have hmem := List.getElem_mem hm
  have HMem := Lib.hid hmem
  have hb0 : (((l.length : Nat) : Int) == 0) = false := beq_eq_false_iff_ne.2 (by omega)
  clear h hl hlb hM hc hcell hlt hb hmem
  generalize l[m] = x at p0 HMem
  go_enter Tryz.func28, Tryz.ntmps28
  go_wp2_with (go_at_call 35; refine (HM.out _).mono ?_; rintro e w' ⟨rfl, rfl⟩)
  go_ret
  exact ⟨x, .inr HMem.out, rfl, rfl⟩
end Go.Proofs.YtimejkbmfbjomaaGreat
namespace Go.Proofs.YtimejkbmfbjomaaGreat
open Go.ChangeShapes Go.WideShapes Go.ChangeAt Go.RowKit Go.Deep
set_option linter.unusedVariables false
set_option linter.unusedSimpArgs false
theorem results_ctt {P : Program} {fn : Func} {p t u : Tmp} {ty : TypeId} (h : fn.results = #[.cell p ty, .tmp t, .tmp u]) (tmps : Array Value) (w : World) (g : Nat) (tt : TypeId) (cs : Array Value) (fr : Nat × Nat) (d : TypeDesc)
 (hp : tmps.getD p undef = .pointer (some ⟨g, 0, none⟩)) (hg : w.heap[g]? = some (.cells cs tt fr))
 (hu : P.underlying ty = some d) (hd : (match d with | .struct _ | .array _ _ => true | _ => false) = true) (hi : (P.info? ty).map (·.size) = some cs.size) :
 (results fn tmps).run P w = .ok (.tuple #[.agg cs, tmps.getD t undef, tmps.getD u undef]) w := by
 have hp' : tmps[p]?.getD undef = .pointer (some ⟨g, 0, none⟩) := by simpa using hp
 simp [results, h, hp', asAddr, run_loadVar_row w g tt ty cs fr d hg hu hd hi]
abbrev zI : Array Value := #[.int .i64 0, .int .i64 0, .slice none 0 0, .string ⟨#[]⟩, .string ⟨#[]⟩, .int .i64 0, .int .i64 0, .string ⟨#[]⟩, .slice none 0 0, .bool false, .slice none 0 0, .slice none 0 0, .slice none 0 0, .int .i64 0, .int .i64 0, .bool false]
theorem blk16 {w : World} {f : Nat} {d0 d1 d2 d3 d4 d5 d6 d7 d8 d9 d10 d11 d12 d13 d14 d15 : Value} (h : Blk w f 51 zI) : Blk (World.setCell (World.setCell (World.setCell (World.setCell (World.setCell (World.setCell (World.setCell (World.setCell (World.setCell (World.setCell (World.setCell (World.setCell (World.setCell (World.setCell (World.setCell (World.setCell w ⟨f, 0, none⟩ d0) ⟨f, 1, none⟩ d1) ⟨f, 2, none⟩ d2) ⟨f, 3, none⟩ d3) ⟨f, 4, none⟩ d4) ⟨f, 5, none⟩ d5) ⟨f, 6, none⟩ d6) ⟨f, 7, none⟩ d7) ⟨f, 8, none⟩ d8) ⟨f, 9, none⟩ d9) ⟨f, 10, none⟩ d10) ⟨f, 11, none⟩ d11) ⟨f, 12, none⟩ d12) ⟨f, 13, none⟩ d13) ⟨f, 14, none⟩ d14) ⟨f, 15, none⟩ d15) f 51 #[d0, d1, d2, d3, d4, d5, d6, d7, d8, d9, d10, d11, d12, d13, d14, d15] := by
 have := ((((((((((((((((h.set_ 0 d0).set_ 1 d1).set_ 2 d2).set_ 3 d3).set_ 4 d4).set_ 5 d5).set_ 6 d6).set_ 7 d7).set_ 8 d8).set_ 9 d9).set_ 10 d10).set_ 11 d11).set_ 12 d12).set_ 13 d13).set_ 14 d14).set_ 15 d15)
 simp only [List.setIfInBounds_toArray, List.set_cons_zero, List.set_cons_succ] at this
 exact this
theorem blk_drew {w : World} {g : Nat} {ty : TypeId} {cs : Array Value} (h : Blk w g ty cs) : Blk w.drew g ty cs := h
theorem below16 {B : Nat} {a w : World} {f : Nat} {d0 d1 d2 d3 d4 d5 d6 d7 d8 d9 d10 d11 d12 d13 d14 d15 : Value} (h : Below B a w) (hf : B ≤ f) : Below B a (World.setCell (World.setCell (World.setCell (World.setCell (World.setCell (World.setCell (World.setCell (World.setCell (World.setCell (World.setCell (World.setCell (World.setCell (World.setCell (World.setCell (World.setCell (World.setCell w ⟨f, 0, none⟩ d0) ⟨f, 1, none⟩ d1) ⟨f, 2, none⟩ d2) ⟨f, 3, none⟩ d3) ⟨f, 4, none⟩ d4) ⟨f, 5, none⟩ d5) ⟨f, 6, none⟩ d6) ⟨f, 7, none⟩ d7) ⟨f, 8, none⟩ d8) ⟨f, 9, none⟩ d9) ⟨f, 10, none⟩ d10) ⟨f, 11, none⟩ d11) ⟨f, 12, none⟩ d12) ⟨f, 13, none⟩ d13) ⟨f, 14, none⟩ d14) ⟨f, 15, none⟩ d15) := by
 iterate 16 (refine below_setc ?_ hf _)
 exact h
theorem item_at2 {w W0 W : World} {Q Q0 : Nat → Prop} {l : List It} {A : Option Addr} {n cap : Nat} (h : SliceI W0 Q0 16 (ItemI w Q) l (.slice A n cap)) (hI : In Q0 W0 W) {k : Nat} (hk : k < l.length) :
 ∃ a id kind labels nm proc x has args th el L lc y0 y1 y2 X xn xc R rc T tc U uc dp inn els, A = some a ∧ Q0 a.block ∧ l[k].s = .mk id kind labels nm proc x has args th el ∧
 RowAt W (a.add (k * 16)) (.int .i64 id) [.int .i64 kind, .slice L labels.length lc, .string nm, .string proc, .int .i64 y0, .int .i64 y1, .string y2, .slice X xn xc, .bool has, .slice R args.length rc, .slice T th.length tc, .slice U el.length uc, .int .i64 dp, .int .i64 inn, .bool els] ∧ i64 id ∧ i64 kind ∧
 StmtI w Q (.mk id kind labels nm proc x has args th el) [.int .i64 id, .int .i64 kind, .slice L labels.length lc, .string nm, .string proc, .int .i64 y0, .int .i64 y1, .string y2, .slice X xn xc, .bool has, .slice R args.length rc, .slice T th.length tc, .slice U el.length uc] ∧ l[k].deep = dp ∧ l[k].inn = inn ∧ l[k].els = els := by
 obtain ⟨a, cs, rfl, hq, ⟨c, rfl, hst⟩, hc⟩ := slice_at h hI hk
 obtain ⟨id, kind, labels, nm, proc, x, has, args, th, el, L, lc, y0, y1, y2, X, xn, xc, R, rc, T, tc, U, uc, hmk, rfl, h1, h2, _⟩ := stmt_open hst
 rw [hmk] at hst
 exact ⟨a, id, kind, labels, nm, proc, x, has, args, th, el, L, lc, y0, y1, y2, X, xn, xc, R, rc, T, tc, U, uc, _, _, _, rfl, hq, hmk, rowAt_elem hc, h1, h2, hst, rfl, rfl, rfl⟩
def It0 : It := ⟨S0, 0, 0, false⟩
theorem zero_item (w : World) (Q : Nat → Prop) : ItemI w Q It0 zI.toList := by
 refine ⟨[.int .i64 0, .int .i64 0, .slice none 0 0, .string ⟨#[]⟩, .string ⟨#[]⟩, .int .i64 0, .int .i64 0, .string ⟨#[]⟩, .slice none 0 0, .bool false, .slice none 0 0, .slice none 0 0, .slice none 0 0], rfl, ?_⟩
 exact .mk (css1 := fun _ => []) (css2 := fun _ => []) (by simp [i64]) (by simp [i64]) (by decide) (by decide) nil_slice (.mk (css := fun _ => []) (by simp [i64]) (by simp [i64]) (by decide) (by simp) (by simp) (by simp)) nil_slice (by simp) (by simp) (by simp) (by simp) (by simp) (by simp)
def rfL : List Pr → Int → Option (It × ByteArray)
 | [], _ => none
 | q :: l, id => ((flatOf q).find? (fun x => x.s.id == id)).elim (rfL l id) (fun x => some (x, q.nm))
theorem rfL_drop {l : List Pr} {k : Nat} (h : k < l.length) (id : Int) : rfL (l.drop k) id = ((flatOf l[k]).find? (fun x => x.s.id == id)).elim (rfL (l.drop (k + 1)) id) (fun x => some (x, l[k].nm)) := by rw [List.drop_eq_getElem_cons h, rfL]
def FdRes (w : World) (Q : Nat → Prop) (r : Option (It × ByteArray)) (W : World) (e : Ending) (w' : World) : Prop := ∃ cs, e = .returned (.tuple #[.agg cs, .string (r.elim ⟨#[]⟩ Prod.snd), .bool r.isSome]) ∧ ItemI w Q (r.elim It0 Prod.fst) cs.toList ∧ Below W.heap.size W w'
set_option maxHeartbeats 2000000 in
set_option maxRecDepth 100000 in
theorem rFind_any {w : World} {Q : Nat → Prop} {p : Pg} {c0 c1 : Value} (h : ProgI w Q p [c0, c1]) (id0 : Int) (W : World) (hI : In Q w W) :
 Calls Tryz.prog 69 #[.agg #[c0, c1], .int .i64 id0] W (FdRes w Q (rfL p.procs id0) W) := by
 obtain ⟨Ag, cg, Ap, cp, rfl, rfl, _, _, _, _, hgl, hpr⟩ := prog_open h
 have HP := Lib.hid hpr
 have HI := Lib.hid hI
 clear h hI hgl hpr
 go_enter Tryz.func69, Tryz.ntmps69
 go_upto_region 1 with fail
 have HB0 : Hid (Below W.heap.size W ((W.alloc (.cells #[.slice Ag p.globals.length cg, .slice Ap p.procs.length cp] 25)).alloc (.cells zI 51))) := Lib.hid (below_two _ _)
 have HBp : Hid (Blk ((W.alloc (.cells #[.slice Ag p.globals.length cg, .slice Ap p.procs.length cp] 25)).alloc (.cells zI 51)) W.heap.size 25 #[.slice Ag p.globals.length cg, .slice Ap p.procs.length cp]) := Lib.hid ((Blk.new _ _ _).alloc _)
 have HBf : Hid (Blk ((W.alloc (.cells #[.slice Ag p.globals.length cg, .slice Ap p.procs.length cp] 25)).alloc (.cells zI 51)) (W.heap.size + 1) 51 zI) := Lib.hid (by have := Blk.new (W.alloc (.cells #[.slice Ag p.globals.length cg, .slice Ap p.procs.length cp] 25)) 51 zI; rw [World.size_alloc] at this; exact this)
 generalize World.alloc _ _ = V at HB0 HBp HBf ⊢
 have HI0 := Lib.hid (HI.out.on HB0.out)
 have hwb : W.heap.size ≤ W.heap.size + 1 := by omega
 generalize hbe : W.heap.size = b at HBp HBf hwb ⊢
 generalize hfe : b + 1 = f at HBf hwb ⊢
 have hWf : W.heap.size ≤ f := by omega
 clear hbe hfe
 have q0 : V.cell? ⟨b, 0, none⟩ = some (.slice Ag p.globals.length cg) := by rw [HBp.out.cell]; rfl
 have q1 : V.cell? ⟨b, 1, none⟩ = some (.slice Ap p.procs.length cp) := by rw [HBp.out.cell]; rfl
 have hfl := HBf.out.lt
 go_upto_region 2 with fail
 clear q0 q1
 go_loopg [14] p.procs.length (fun kk iv wr => ∃ (k : Nat), k + kk = p.procs.length ∧ iv = .int .i64 k ∧ Hid (Below V.heap.size V wr) ∧ Hid (rfL (p.procs.drop k) id0 = rfL p.procs id0))
 case atStart => exact ⟨0, by omega, rfl, Lib.hid (Below.refl _ _), Lib.hid rfl⟩
 case round =>
  obtain ⟨k, hk, rfl, HBr, HA⟩ := hrel
  generalize wr = wo at *
  have HIr := Lib.hid (HI0.out.on HBr.out)
  by_cases hlt : k < p.procs.length
  ·obtain ⟨a, Bp, kp, Bv, kv, Bb, kb, Be, ke, rfl, hqa, hrow, hnm, hpp, hvv, hbody, hee⟩ := proc_at HP.out HIr.out hlt
   have HPI : Hid (ProcI w Q p.procs[k] [.string p.procs[k].nm, .slice Bp p.procs[k].params.length kp, .slice Bv p.procs[k].vars.length kv, .slice Bb p.procs[k].body.length kb, .slice Be p.procs[k].end_.length ke]) := Lib.hid ⟨_, _, _, _, rfl, hnm, hpp, hvv, hbody, hee⟩
   have HFl := Lib.hid (fun V hV => Flat_any (W := V) HPI.out hV hV.1)
   have HAk := Lib.hid (rfL_drop hlt id0)
   rw [HA.out] at HAk
   clear HPI hnm hpp hvv hbody hee hqa HA
   generalize flatOf p.procs[k] = its at HFl HAk
   generalize p.procs[k].nm = x0 at hrow HFl HAk
   generalize p.procs[k].params.length = x1 at hrow HFl
   generalize p.procs[k].vars.length = x2 at hrow HFl
   generalize p.procs[k].body.length = x3 at hrow HFl
   generalize p.procs[k].end_.length = x4 at hrow HFl
   obtain ⟨p0, p1, p2, p3, p4, _⟩ := hrow
   go_upto_region 4 with fail
   have HBx : Hid (Blk (wo.alloc (.cells #[.string x0, .slice Bp x1 kp, .slice Bv x2 kv, .slice Bb x3 kb, .slice Be x4 ke] 39)) wo.heap.size 39 #[.string x0, .slice Bp x1 kp, .slice Bv x2 kv, .slice Bb x3 kb, .slice Be x4 ke]) := Lib.hid (Blk.new _ _ _)
   have HB4 : Hid (Below V.heap.size V (wo.alloc (.cells #[.string x0, .slice Bp x1 kp, .slice Bv x2 kv, .slice Bb x3 kb, .slice Be x4 ke] 39))) := Lib.hid (below_stepA HBr.out _)
   have HI4 : Hid (In Q w (wo.alloc (.cells #[.string x0, .slice Bp x1 kp, .slice Bv x2 kv, .slice Bb x3 kb, .slice Be x4 ke] 39))) := Lib.hid (HIr.out.alloc _)
   have HBo : Hid (f < wo.heap.size) := Lib.hid (Nat.lt_of_lt_of_le hfl HBr.out.size)
   clear p0 p1 p2 p3 p4 HIr HBr
   generalize World.alloc wo _ = V4 at HBx HB4 HI4 ⊢
   have hxf : wo.heap.size ≠ f := by have := HBo.out; omega
   have hfx : f ≠ wo.heap.size := fun e => hxf e.symm
   generalize wo.heap.size = bx at HBx hxf hfx ⊢
   clear HBo
   have hxl := HBx.out.lt
   have z0 : V4.cell? ⟨bx, 0, none⟩ = some (.string x0) := by rw [HBx.out.cell]; rfl
   have z1 : V4.cell? ⟨bx, 1, none⟩ = some (.slice Bp x1 kp) := by rw [HBx.out.cell]; rfl
   have z2 : V4.cell? ⟨bx, 2, none⟩ = some (.slice Bv x2 kv) := by rw [HBx.out.cell]; rfl
   have z3 : V4.cell? ⟨bx, 3, none⟩ = some (.slice Bb x3 kb) := by rw [HBx.out.cell]; rfl
   have z4 : V4.cell? ⟨bx, 4, none⟩ = some (.slice Be x4 ke) := by rw [HBx.out.cell]; rfl
   go_upto_region 5 with (go_at_call 20; refine (HFl.out V4 HI4.out).mono ?_; rintro e' W9 ⟨v9, rows9, rfl, ho9, ha9, hb9⟩; obtain ⟨X9, cx9, rfl, hx9, hx9'⟩ := own_shape ho9)
   have HSl := Lib.hid (slice_of_own ho9 ha9 (fun x cs h => by obtain ⟨c, rfl, hc⟩ := h; obtain ⟨_, _, _, _, _, _, _, _, _, _, _, _, _, _, _, _, _, _, _, _, _, _, _, _, _, rfl, _⟩ := stmt_open hc; rfl))
   have HB9 := Lib.hid (below_step HB4.out hb9)
   have HI9 := Lib.hid (HI4.out.on hb9)
   have HBx9 := Lib.hid (HBx.out.below hb9 hxl)
   clear ho9 ha9 hb9 z0 z1 z2 z3 z4 hxl HI4 HB4 HBx HFl
   have hxl := HBx9.out.lt
   go_loopg [21] its.length (fun kk iv wr => ∃ (j : Nat), j + kk = its.length ∧ iv = .int .i64 j ∧ Hid (Below W9.heap.size W9 wr) ∧ Hid ((its.drop j).find? (fun x => x.s.id == id0) = its.find? (fun x => x.s.id == id0)))
   case atStart => exact ⟨0, by omega, rfl, Lib.hid (Below.refl _ _), Lib.hid rfl⟩
   case round =>
    obtain ⟨j, hj, rfl, HR2, HF2⟩ := hrel
    by_cases hlt2 : j < its.length
    ·obtain ⟨a2, id, kind, labels, nm, proc, x, has, args, th, el, L, lc, y0, y1, y2, X, xn, xc, R, rc, T, tc, U, uc, dp, inn, els, rfl, hq2, hmk, hrow2, hid, hkind, hst, hdp, hinn, hels⟩ := item_at2 HSl.out (W := wr) ⟨fun b h => Nat.lt_of_lt_of_le h.2 HR2.out.size, fun p hp => HR2.out.cell hp.2⟩ hlt2
     have HF3 : Hid (its.find? (fun x => x.s.id == id0) = if (id == id0) = true then some its[j] else (its.drop (j + 1)).find? (fun x => x.s.id == id0)) := Lib.hid (by
      rw [← HF2.out, List.drop_eq_getElem_cons hlt2, List.find?_cons]
      have he : its[j].s.id = id := by rw [hmk]; rfl
      rw [he]
      cases id == id0 <;> rfl)
     obtain ⟨d, hd⟩ : ∃ d, d = (id == id0) := ⟨_, rfl⟩
     have HF4 : Hid (its.find? (fun x => x.s.id == id0) = if d = true then some its[j] else (its.drop (j + 1)).find? (fun x => x.s.id == id0)) := Lib.hid (by rw [hd]; exact HF3.out)
     have HIt : Hid (ItemI w Q its[j] [.int .i64 id, .int .i64 kind, .slice L labels.length lc, .string nm, .string proc, .int .i64 y0, .int .i64 y1, .string y2, .slice X xn xc, .bool has, .slice R args.length rc, .slice T th.length tc, .slice U el.length uc, .int .i64 dp, .int .i64 inn, .bool els]) := Lib.hid (by
      refine ⟨[.int .i64 id, .int .i64 kind, .slice L labels.length lc, .string nm, .string proc, .int .i64 y0, .int .i64 y1, .string y2, .slice X xn xc, .bool has, .slice R args.length rc, .slice T th.length tc, .slice U el.length uc], ?_, by rw [hmk]; exact hst⟩
      rw [← hdp, ← hinn, ← hels]
      rfl)
     have hkb := hid
     unfold i64 at hkb
     obtain ⟨p0, p1, p2, p3, p4, p5, p6, p7, p8, p9, p10, p11, p12, p13, p14, p15, _⟩ := hrow2
     generalize its[j] = xi at HF4 HIt
     have Hd := Lib.hid hd
     clear hd HF3 hmk hst hid hkind hq2 HF2 hdp hinn hels
     go_upto_region 7 with fail
     have HBi : Hid (Blk (wr.alloc (.cells #[.int .i64 id, .int .i64 kind, .slice L labels.length lc, .string nm, .string proc, .int .i64 y0, .int .i64 y1, .string y2, .slice X xn xc, .bool has, .slice R args.length rc, .slice T th.length tc, .slice U el.length uc, .int .i64 dp, .int .i64 inn, .bool els] 51)) wr.heap.size 51 #[.int .i64 id, .int .i64 kind, .slice L labels.length lc, .string nm, .string proc, .int .i64 y0, .int .i64 y1, .string y2, .slice X xn xc, .bool has, .slice R args.length rc, .slice T th.length tc, .slice U el.length uc, .int .i64 dp, .int .i64 inn, .bool els]) := Lib.hid (Blk.new _ _ _)
     have HB10 : Hid (Below W9.heap.size W9 (wr.alloc (.cells #[.int .i64 id, .int .i64 kind, .slice L labels.length lc, .string nm, .string proc, .int .i64 y0, .int .i64 y1, .string y2, .slice X xn xc, .bool has, .slice R args.length rc, .slice T th.length tc, .slice U el.length uc, .int .i64 dp, .int .i64 inn, .bool els] 51))) := Lib.hid (below_stepA HR2.out _)
     have hbi : f ≠ wr.heap.size := by have := HR2.out.size; have := HB9.out.size; omega
     have hib : wr.heap.size ≠ f := fun e => hbi e.symm
     clear p0 p1 p2 p3 p4 p5 p6 p7 p8 p9 p10 p11 p12 p13 p14 p15 HR2
     generalize World.alloc wr _ = V10 at HBi HB10 ⊢
     generalize wr.heap.size = bi at HBi hbi hib ⊢
     have s0 : V10.cell? ⟨bi, 0, none⟩ = some (.int .i64 id) := by rw [HBi.out.cell]; rfl
     cases d with
     | false =>
      have hdf : (id == id0) = false := Hd.out.symm
      have HF5 : Hid (its.find? (fun x => x.s.id == id0) = (its.drop (j + 1)).find? (fun x => x.s.id == id0)) := Lib.hid HF4.out
      clear HF4
      go_wp2_with fail
      go_roundg (its.length - j - 1)
      case measure => omega
      case rel => exact ⟨j + 1, by omega, by go_num, HB10, Lib.hid HF5.out.symm⟩
     | true =>
      have hdt : (id == id0) = true := Hd.out.symm
      have HAn : Hid (rfL p.procs id0 = some (xi, x0)) := Lib.hid (by rw [HAk.out, HF4.out]; rfl)
      clear HF4 HAk
      have HB11 := Lib.hid (below_step HB9.out HB10.out)
      have HBf11 := Lib.hid (HBf.out.below HB11.out hfl)
      have HBx11 := Lib.hid (HBx9.out.below HB10.out hxl)
      have HBW11 := Lib.hid (below_step HB0.out HB11.out)
      go_upto_region 8 with fail
      clear s0
      have s0 : V10.cell? ⟨bi, 0, none⟩ = some (.int .i64 id) := by rw [HBi.out.cell]; rfl
      have s1 : V10.cell? ⟨bi, 1, none⟩ = some (.int .i64 kind) := by rw [HBi.out.cell]; rfl
      have s2 : V10.cell? ⟨bi, 2, none⟩ = some (.slice L labels.length lc) := by rw [HBi.out.cell]; rfl
      have s3 : V10.cell? ⟨bi, 3, none⟩ = some (.string nm) := by rw [HBi.out.cell]; rfl
      have s4 : V10.cell? ⟨bi, 4, none⟩ = some (.string proc) := by rw [HBi.out.cell]; rfl
      have s5 : V10.cell? ⟨bi, 5, none⟩ = some (.int .i64 y0) := by rw [HBi.out.cell]; rfl
      have s6 : V10.cell? ⟨bi, 6, none⟩ = some (.int .i64 y1) := by rw [HBi.out.cell]; rfl
      have s7 : V10.cell? ⟨bi, 7, none⟩ = some (.string y2) := by rw [HBi.out.cell]; rfl
      have s8 : V10.cell? ⟨bi, 8, none⟩ = some (.slice X xn xc) := by rw [HBi.out.cell]; rfl
      have s9 : V10.cell? ⟨bi, 9, none⟩ = some (.bool has) := by rw [HBi.out.cell]; rfl
      have s10 : V10.cell? ⟨bi, 10, none⟩ = some (.slice R args.length rc) := by rw [HBi.out.cell]; rfl
      have s11 : V10.cell? ⟨bi, 11, none⟩ = some (.slice T th.length tc) := by rw [HBi.out.cell]; rfl
      have s12 : V10.cell? ⟨bi, 12, none⟩ = some (.slice U el.length uc) := by rw [HBi.out.cell]; rfl
      have s13 : V10.cell? ⟨bi, 13, none⟩ = some (.int .i64 dp) := by rw [HBi.out.cell]; rfl
      have s14 : V10.cell? ⟨bi, 14, none⟩ = some (.int .i64 inn) := by rw [HBi.out.cell]; rfl
      have s15 : V10.cell? ⟨bi, 15, none⟩ = some (.bool els) := by rw [HBi.out.cell]; rfl
      have z0 : V10.cell? ⟨bx, 0, none⟩ = some (.string x0) := by rw [HBx11.out.cell]; rfl
      have f0_ := HBf11.out.frozen 0
      have y0_ : V10.cell? ⟨f, 0, none⟩ = some (.int .i64 0) := by rw [HBf11.out.cell]; rfl
      have f1_ := HBf11.out.frozen 1
      have y1_ : V10.cell? ⟨f, 1, none⟩ = some (.int .i64 0) := by rw [HBf11.out.cell]; rfl
      have f2_ := HBf11.out.frozen 2
      have y2_ : V10.cell? ⟨f, 2, none⟩ = some (.slice none 0 0) := by rw [HBf11.out.cell]; rfl
      have f3_ := HBf11.out.frozen 3
      have y3_ : V10.cell? ⟨f, 3, none⟩ = some (.string ⟨#[]⟩) := by rw [HBf11.out.cell]; rfl
      have f4_ := HBf11.out.frozen 4
      have y4_ : V10.cell? ⟨f, 4, none⟩ = some (.string ⟨#[]⟩) := by rw [HBf11.out.cell]; rfl
      have f5_ := HBf11.out.frozen 5
      have y5_ : V10.cell? ⟨f, 5, none⟩ = some (.int .i64 0) := by rw [HBf11.out.cell]; rfl
      have f6_ := HBf11.out.frozen 6
      have y6_ : V10.cell? ⟨f, 6, none⟩ = some (.int .i64 0) := by rw [HBf11.out.cell]; rfl
      have f7_ := HBf11.out.frozen 7
      have y7_ : V10.cell? ⟨f, 7, none⟩ = some (.string ⟨#[]⟩) := by rw [HBf11.out.cell]; rfl
      have f8_ := HBf11.out.frozen 8
      have y8_ : V10.cell? ⟨f, 8, none⟩ = some (.slice none 0 0) := by rw [HBf11.out.cell]; rfl
      have f9_ := HBf11.out.frozen 9
      have y9_ : V10.cell? ⟨f, 9, none⟩ = some (.bool false) := by rw [HBf11.out.cell]; rfl
      have f10_ := HBf11.out.frozen 10
      have y10_ : V10.cell? ⟨f, 10, none⟩ = some (.slice none 0 0) := by rw [HBf11.out.cell]; rfl
      have f11_ := HBf11.out.frozen 11
      have y11_ : V10.cell? ⟨f, 11, none⟩ = some (.slice none 0 0) := by rw [HBf11.out.cell]; rfl
      have f12_ := HBf11.out.frozen 12
      have y12_ : V10.cell? ⟨f, 12, none⟩ = some (.slice none 0 0) := by rw [HBf11.out.cell]; rfl
      have f13_ := HBf11.out.frozen 13
      have y13_ : V10.cell? ⟨f, 13, none⟩ = some (.int .i64 0) := by rw [HBf11.out.cell]; rfl
      have f14_ := HBf11.out.frozen 14
      have y14_ : V10.cell? ⟨f, 14, none⟩ = some (.int .i64 0) := by rw [HBf11.out.cell]; rfl
      have f15_ := HBf11.out.frozen 15
      have y15_ : V10.cell? ⟨f, 15, none⟩ = some (.bool false) := by rw [HBf11.out.cell]; rfl
      have HBl : Hid (Blk (World.drew (World.setCell (World.setCell (World.setCell (World.setCell (World.setCell (World.setCell (World.setCell (World.setCell (World.setCell (World.setCell (World.setCell (World.setCell (World.setCell (World.setCell (World.setCell (World.setCell V10 ⟨f, 0, none⟩ (.int .i64 id)) ⟨f, 1, none⟩ (.int .i64 kind)) ⟨f, 2, none⟩ (.slice L labels.length lc)) ⟨f, 3, none⟩ (.string nm)) ⟨f, 4, none⟩ (.string proc)) ⟨f, 5, none⟩ (.int .i64 y0)) ⟨f, 6, none⟩ (.int .i64 y1)) ⟨f, 7, none⟩ (.string y2)) ⟨f, 8, none⟩ (.slice X xn xc)) ⟨f, 9, none⟩ (.bool has)) ⟨f, 10, none⟩ (.slice R args.length rc)) ⟨f, 11, none⟩ (.slice T th.length tc)) ⟨f, 12, none⟩ (.slice U el.length uc)) ⟨f, 13, none⟩ (.int .i64 dp)) ⟨f, 14, none⟩ (.int .i64 inn)) ⟨f, 15, none⟩ (.bool els))) f 51 #[.int .i64 id, .int .i64 kind, .slice L labels.length lc, .string nm, .string proc, .int .i64 y0, .int .i64 y1, .string y2, .slice X xn xc, .bool has, .slice R args.length rc, .slice T th.length tc, .slice U el.length uc, .int .i64 dp, .int .i64 inn, .bool els]) := Lib.hid (blk_drew (blk16 HBf11.out))
      have HBe : Hid (Below W.heap.size W (World.drew (World.setCell (World.setCell (World.setCell (World.setCell (World.setCell (World.setCell (World.setCell (World.setCell (World.setCell (World.setCell (World.setCell (World.setCell (World.setCell (World.setCell (World.setCell (World.setCell V10 ⟨f, 0, none⟩ (.int .i64 id)) ⟨f, 1, none⟩ (.int .i64 kind)) ⟨f, 2, none⟩ (.slice L labels.length lc)) ⟨f, 3, none⟩ (.string nm)) ⟨f, 4, none⟩ (.string proc)) ⟨f, 5, none⟩ (.int .i64 y0)) ⟨f, 6, none⟩ (.int .i64 y1)) ⟨f, 7, none⟩ (.string y2)) ⟨f, 8, none⟩ (.slice X xn xc)) ⟨f, 9, none⟩ (.bool has)) ⟨f, 10, none⟩ (.slice R args.length rc)) ⟨f, 11, none⟩ (.slice T th.length tc)) ⟨f, 12, none⟩ (.slice U el.length uc)) ⟨f, 13, none⟩ (.int .i64 dp)) ⟨f, 14, none⟩ (.int .i64 inn)) ⟨f, 15, none⟩ (.bool els)))) := Lib.hid (below16 HBW11.out hWf).drew
      go_region
      generalize World.drew _ = VF at HBl HBe ⊢
      clear s0 s1 s2 s3 s4 s5 s6 s7 s8 s9 s10 s11 s12 s13 s14 s15 z0
      go_wp2_with fail
      (try simp only [Exit.inBlock, Exit.then])
      refine bodyPost_ret (results_ctt rfl _ _ f 51 #[.int .i64 id, .int .i64 kind, .slice L labels.length lc, .string nm, .string proc, .int .i64 y0, .int .i64 y1, .string y2, .slice X xn xc, .bool has, .slice R args.length rc, .slice T th.length tc, .slice U el.length uc, .int .i64 dp, .int .i64 inn, .bool els] (0, 0) _ rfl HBl.out Tryz.underlying51 rfl (by kernel_rfl)) rfl ?_
      rw [HAn.out]
      exact ⟨_, rfl, HIt.out, HBe.out⟩
    ·have HFe : Hid (its.find? (fun x => x.s.id == id0) = none) := Lib.hid (by rw [← HF2.out, List.drop_of_length_le (by omega)]; rfl)
     have HAn : Hid (rfL p.procs id0 = rfL (p.procs.drop (k + 1)) id0) := Lib.hid (by rw [HAk.out, HFe.out]; rfl)
     clear HAk HFe HF2
     go_wp2_with fail
     go_roundg (p.procs.length - k - 1)
     case measure => omega
     case rel => exact ⟨k + 1, by omega, by go_num, Lib.hid (below_step HB9.out HR2.out), Lib.hid HAn.out.symm⟩
  ·have HAn : Hid (rfL p.procs id0 = none) := Lib.hid (by rw [← HA.out, List.drop_of_length_le (by omega)]; rfl)
   have HBfr := Lib.hid (HBf.out.below HBr.out hfl)
   have HBWr := Lib.hid (below_step HB0.out HBr.out)
   have hf := HBfr.out.lt
   have f0_ := HBfr.out.frozen 0
   have y0_ : wo.cell? ⟨f, 0, none⟩ = some (.int .i64 0) := by rw [HBfr.out.cell]; rfl
   have f1_ := HBfr.out.frozen 1
   have y1_ : wo.cell? ⟨f, 1, none⟩ = some (.int .i64 0) := by rw [HBfr.out.cell]; rfl
   have f2_ := HBfr.out.frozen 2
   have y2_ : wo.cell? ⟨f, 2, none⟩ = some (.slice none 0 0) := by rw [HBfr.out.cell]; rfl
   have f3_ := HBfr.out.frozen 3
   have y3_ : wo.cell? ⟨f, 3, none⟩ = some (.string ⟨#[]⟩) := by rw [HBfr.out.cell]; rfl
   have f4_ := HBfr.out.frozen 4
   have y4_ : wo.cell? ⟨f, 4, none⟩ = some (.string ⟨#[]⟩) := by rw [HBfr.out.cell]; rfl
   have f5_ := HBfr.out.frozen 5
   have y5_ : wo.cell? ⟨f, 5, none⟩ = some (.int .i64 0) := by rw [HBfr.out.cell]; rfl
   have f6_ := HBfr.out.frozen 6
   have y6_ : wo.cell? ⟨f, 6, none⟩ = some (.int .i64 0) := by rw [HBfr.out.cell]; rfl
   have f7_ := HBfr.out.frozen 7
   have y7_ : wo.cell? ⟨f, 7, none⟩ = some (.string ⟨#[]⟩) := by rw [HBfr.out.cell]; rfl
   have f8_ := HBfr.out.frozen 8
   have y8_ : wo.cell? ⟨f, 8, none⟩ = some (.slice none 0 0) := by rw [HBfr.out.cell]; rfl
   have f9_ := HBfr.out.frozen 9
   have y9_ : wo.cell? ⟨f, 9, none⟩ = some (.bool false) := by rw [HBfr.out.cell]; rfl
   have f10_ := HBfr.out.frozen 10
   have y10_ : wo.cell? ⟨f, 10, none⟩ = some (.slice none 0 0) := by rw [HBfr.out.cell]; rfl
   have f11_ := HBfr.out.frozen 11
   have y11_ : wo.cell? ⟨f, 11, none⟩ = some (.slice none 0 0) := by rw [HBfr.out.cell]; rfl
   have f12_ := HBfr.out.frozen 12
   have y12_ : wo.cell? ⟨f, 12, none⟩ = some (.slice none 0 0) := by rw [HBfr.out.cell]; rfl
   have f13_ := HBfr.out.frozen 13
   have y13_ : wo.cell? ⟨f, 13, none⟩ = some (.int .i64 0) := by rw [HBfr.out.cell]; rfl
   have f14_ := HBfr.out.frozen 14
   have y14_ : wo.cell? ⟨f, 14, none⟩ = some (.int .i64 0) := by rw [HBfr.out.cell]; rfl
   have f15_ := HBfr.out.frozen 15
   have y15_ : wo.cell? ⟨f, 15, none⟩ = some (.bool false) := by rw [HBfr.out.cell]; rfl
   go_wp2_with fail
   (try simp only [Exit.inBlock, Exit.then])
   refine bodyPost_ret (results_ctt rfl _ _ f 51 _ (0, 0) _ rfl (blk16 HBfr.out) Tryz.underlying51 rfl (by kernel_rfl)) rfl ?_
   rw [HAn.out]
   exact ⟨_, rfl, zero_item _ _, below16 HBWr.out hWf⟩
end Go.Proofs.YtimejkbmfbjomaaGreat
