/- Texts, merged by a program; only what is used. -/
import Derived.Test.YtimejkbmfbjomaaGreatKX1
import Derived.Test.YtimejkbmfbjomaaGreatKX2
import Derived.Test.YtimejkbmfbjomaaGreatKX3
import Derived.Test.YtimejkbmfbjomaaGreatKX4
import Derived.Test.YtimejkbmfbjomaaGreatKX5
import Derived.Test.YtimejkbmfbjomaaGreatKX6
import Derived.Test.YtimejkbmfbjomaaGreatKX7
import Derived.Test.YtimejkbmfbjomaaGreatKX8
import Derived.Test.YtimejkbmfbjomaaGreatKX9
import Derived.Test.YtimejkbmfbjomaaGreatKX10
import Derived.Test.YtimejkbmfbjomaaGreatKX11
import Derived.Test.YtimejkbmfbjomaaGreatKX12
import Derived.Test.YtimejkbmfbjomaaGreatKX13
import Derived.Test.YtimejkbmfbjomaaGreatKX14
import Derived.Test.YtimejkbmfbjomaaGreatKX15
import Derived.Test.YtimejkbmfbjomaaGreatKX16
import Derived.Test.YtimejkbmfbjomaaGreatKX17
import Derived.Test.YtimejkbmfbjomaaGreatKX18
import Derived.Test.YtimejkbmfbjomaaGreatKX19
import Derived.Test.YtimejkbmfbjomaaGreatKX20
import Derived.Test.YtimejkbmfbjomaaGreatKX21
import Derived.Test.YtimejkbmfbjomaaGreatKX22
import Derived.Test.YtimejkbmfbjomaaGreatKX23
import Derived.Test.YtimejkbmfbjomaaGreatKX24
import Derived.Test.YtimejkbmfbjomaaGreatKX25
import Derived.Test.YtimejkbmfbjomaaGreatKX26
import Derived.Test.YtimejkbmfbjomaaGreatKX27
import Derived.Test.YtimejkbmfbjomaaGreatKX28
import Derived.Test.YtimejkbmfbjomaaGreatKX29
import Derived.Test.YtimejkbmfbjomaaGreatKX30
import Derived.Test.YtimejkbmfbjomaaGreatKX31
import Derived.Test.YtimejkbmfbjomaaGreatKX32
import Derived.Test.YtimejkbmfbjomaaGreatKX33
import Derived.Test.YtimejkbmfbjomaaGreatKX34
namespace Go.Proofs.YtimejkbmfbjomaaGreat
open Go.ChangeShapes Go.WideShapes Go.ChangeAt Go.RowKit Go.Deep
set_option linter.unusedVariables false
set_option linter.unusedSimpArgs false
def raL (tk : ByteArray → Bool) : List ByteArray → List Ar → Bool
 | _, [] => true
 | pre, a :: l => if a.ref = true then !(pre.any (isT a.nm) || tk a.nm) && raL tk (pre ++ [a.nm]) l else raL tk pre l
theorem raL_drop {tk : ByteArray → Bool} {pre : List ByteArray} {l : List Ar} {k : Nat} (h : k < l.length) : raL tk pre (l.drop k) = if l[k].ref = true then !(pre.any (isT l[k].nm) || tk l[k].nm) && raL tk (pre ++ [l[k].nm]) (l.drop (k + 1)) else raL tk pre (l.drop (k + 1)) := by
 rw [List.drop_eq_getElem_cons h, raL]
def ownN (nm : ByteArray) : List ByteArray := if (nm.toList == []) = true then [] else [nm]
theorem ownN_any {nm x : ByteArray} (hx : (x.toList == []) = false) : (ownN nm).any (isT x) = decide (x = nm) := by
 unfold ownN
 cases h : (nm.toList == []) with
 | true =>
  rw [if_pos rfl]
  symm
  refine decide_eq_false (fun e => ?_)
  rw [e, h] at hx
  cases hx
 | false =>
  rw [if_neg (by simp)]
  simp [isT]
theorem raL_eq {tk : ByteArray → Bool} {nm : ByteArray} : ∀ (l : List Ar) (pre : List ByteArray), (∀ a ∈ l, a.ref = true → (a.nm.toList == []) = false) → raL tk (ownN nm ++ pre) l = apL tk nm pre (refsOf l)
 | [], pre, _ => rfl
 | a :: l, pre, h => by
  have ih := fun q => raL_eq (tk := tk) (nm := nm) l q (fun x hx => h x (List.mem_cons_of_mem _ hx))
  have e : refsOf (a :: l) = refV a ++ refsOf l := rfl
  rw [raL, e]
  unfold refV
  cases hr : a.ref with
  | false => rw [if_neg (by simp), if_neg (by simp), List.nil_append]; exact ih pre
  | true =>
   rw [if_pos rfl, if_pos rfl, List.singleton_append, apL, List.any_append, ownN_any (h a (List.mem_cons_self ..) hr), List.append_assoc, ih (pre ++ [a.nm])]
theorem may_refs {p : Pg} (hm : mayP p = true) : ∀ q ∈ p.procs, ∀ s ∈ preSL q.body, ∀ a ∈ s.args, a.ref = true → (a.nm.toList == []) = false := fun q hq s hs a ha hr => by
 have h := may_stm hm q hq s hs
 obtain ⟨id, kind, labels, nm, proc, x, has, args, th, el⟩ := s
 unfold stmtOk at h
 simp only [Bool.and_eq_true] at h
 have h2 := h.2
 unfold argsOk at h2
 have h3 := List.all_eq_true.1 h2 a ha
 unfold argOk at h3
 rw [Bool.and_eq_true, hr] at h3
 have h4 := h3.1
 rw [toList_beq]
 refine decide_eq_false (fun e => ?_)
 unfold nmOk at h4
 rw [if_pos rfl, show bl a.nm = [] from List.eq_nil_of_length_eq_zero (by rw [← size_bl]; exact e)] at h4
 exact absurd h4 (by decide)
/-- who is called is there: what it touches, as the reference tells it -/
theorem tk_row {w W : World} {Q : Nat → Prop} {p : Pg} {c0 c1 : Value} (h : ProgI w Q p [c0, c1]) (hsm : SmG p) (hck : chkOK p = true → p.procs.length ≤ 16 ∧ ∀ q ∈ p.procs, (saidOf (preSL q.body)).length ≤ 10000000) (hI : In Q w W) (hc : chkOK p = true) {q : Pr} (hq : q ∈ p.procs) {l : List ByteArray} (hl : TdRes p q l) (x : ByteArray) : l.any (isT x) = tkB p q.nm x := by
 obtain ⟨e, w', fr, ⟨l2, v, _, _, _, hg⟩, _⟩ := (tGlobals_any h hsm hck q.nm W hI) []
 rw [← tkB_any hg x, Bool.eq_iff_iff, any_isT, any_isT, glob_mem (ck_ok9 hc) hc hq hg x]
 obtain ⟨L, rfl, hL⟩ := hl
 rw [srt_mem, hL]
 obtain ⟨A1, c1, A2, c2, e1, e2, _, _, _, _, hgl, _⟩ := prog_open h
 exact ⟨fun hs => ⟨texts_sm hgl x hs.1, hs⟩, fun hs => hs.2⟩
theorem td_small {p : Pg} (hg : ∀ s ∈ p.globals, small s) {q : Pr} {l : List ByteArray} (h : TdRes p q l) : ∀ t ∈ l, small t := by
 obtain ⟨L, rfl, hL⟩ := h
 exact fun t ht => hg t ((hL t).1 ((srt_mem _ _).1 ht)).1
set_option maxHeartbeats 8000000 in
set_option maxRecDepth 100000 in
theorem rapart_any {w : World} {Q : Nat → Prop} {p : Pg} {c0 c1 : Value} {s : S} {cs : List Value} (h : ProgI w Q p [c0, c1]) (hsm : SmG p) (hck : chkOK p = true → p.procs.length ≤ 16 ∧ ∀ q ∈ p.procs, (saidOf (preSL q.body)).length ≤ 10000000) (hs1 : ∀ f ∈ p.procs, ∀ s ∈ preSL f.body, (saidS s).length ≤ 20000) (hc : chkOK p = true) (hs : StmtI w Q s cs) (hna : s.args.length ≤ 1000000) (hra : ∀ a ∈ s.args, a.ref = true → (a.nm.toList == []) = false) (W : World) (hI : In Q w W) :
 Calls Tryz.prog 72 #[.agg #[c0, c1], .agg cs.toArray] W (MayOk (fitsB p.procs s && apB p s) W) := by
 have HCf := Lib.hid (fun V hV => rcallFits_any h hs V hV)
 have HTd := Lib.hid (fun q hq V hV => rtouched_any h (ck_ok9 hc) hs1 (hck hc).2 (q := q) hq V hV)
 have HTk := Lib.hid (fun q hq l hl x => tk_row h hsm hck hI hc (q := q) hq (l := l) hl x)
 obtain ⟨id, kind, labels, nm, proc, x, has, args, th, el, L, lc, y0, y1, y2, X, xn, xc, R, rc, T, tc, U, uc, rfl, rfl, hid, hkind, hnm, hproc, _, _, ha, _⟩ := stmt_open hs
 obtain ⟨Ag, cg, Ap, cp, rfl, rfl, _⟩ := prog_open h
 have HI := Lib.hid hI
 have HAs : Hid (∀ s ∈ p.globals, small s) := Lib.hid (by obtain ⟨A1, c1, A2, c2, e1, e2, _, _, _, _, hg, _⟩ := prog_open h; exact texts_sm hg)
 have HAr := Lib.hid ha
 have HRa := Lib.hid hra
 obtain ⟨_, har, hrc, _⟩ := slice_len ha
 have HNa : Hid (args.length ≤ 1000000) := Lib.hid hna
 have HNm : Hid (small nm) := Lib.hid hnm
 obtain ⟨i0, hi0, hz0, hz1, hz2⟩ := info_parts string_info
 have HFb : Hid (fitsB p.procs (.mk id kind labels nm proc x has args th el) = true → ∃ q ∈ p.procs, q.nm = proc) := Lib.hid (fun h => by
  unfold fitsB at h
  simp only [Bool.and_eq_true] at h
  cases hf : p.procs.find? (isQ proc) with
  | none => rw [show (S.mk id kind labels nm proc x has args th el).proc = proc from rfl, hf] at h; cases h.2
  | some q => exact ⟨q, List.mem_of_find?_eq_some hf, of_decide_eq_true (show decide (q.nm = proc) = true from List.find?_some (p := isQ proc) hf)⟩)
 have HRv : Hid (apB p (.mk id kind labels nm proc x has args th el) = raL (tkB p proc) (ownN nm) args) := Lib.hid (by
  have e := raL_eq (tk := tkB p proc) (nm := nm) args [] (fun a ha hr => hra a ha hr)
  rw [List.append_nil] at e
  exact e.symm)
 clear h hsm hck hs1 hs hna hra hI hid hkind hnm hproc ha hc
 simp only [List.toArray] at HCf ⊢
 generalize fitsB p.procs (.mk id kind labels nm proc x has args th el) = fb at HCf HFb ⊢
 generalize apB p (.mk id kind labels nm proc x has args th el) = ab at HRv ⊢
 go_enter Tryz.func72, Tryz.ntmps72
 go_upto_region 1 with fail
 have HB0 : Hid (Below W.heap.size W ((W.alloc (.cells #[.slice Ag p.globals.length cg, .slice Ap p.procs.length cp] 25)).alloc (.cells #[.int .i64 id, .int .i64 kind, .slice L labels.length lc, .string nm, .string proc, .int .i64 y0, .int .i64 y1, .string y2, .slice X xn xc, .bool has, .slice R args.length rc, .slice T th.length tc, .slice U el.length uc] 49))) := Lib.hid (below_two _ _)
 have HBp : Hid (Blk ((W.alloc (.cells #[.slice Ag p.globals.length cg, .slice Ap p.procs.length cp] 25)).alloc (.cells #[.int .i64 id, .int .i64 kind, .slice L labels.length lc, .string nm, .string proc, .int .i64 y0, .int .i64 y1, .string y2, .slice X xn xc, .bool has, .slice R args.length rc, .slice T th.length tc, .slice U el.length uc] 49)) W.heap.size 25 #[.slice Ag p.globals.length cg, .slice Ap p.procs.length cp]) := Lib.hid ((Blk.new _ _ _).alloc _)
 have HBs : Hid (Blk ((W.alloc (.cells #[.slice Ag p.globals.length cg, .slice Ap p.procs.length cp] 25)).alloc (.cells #[.int .i64 id, .int .i64 kind, .slice L labels.length lc, .string nm, .string proc, .int .i64 y0, .int .i64 y1, .string y2, .slice X xn xc, .bool has, .slice R args.length rc, .slice T th.length tc, .slice U el.length uc] 49)) (W.heap.size + 1) 49 #[.int .i64 id, .int .i64 kind, .slice L labels.length lc, .string nm, .string proc, .int .i64 y0, .int .i64 y1, .string y2, .slice X xn xc, .bool has, .slice R args.length rc, .slice T th.length tc, .slice U el.length uc]) := Lib.hid (by have := Blk.new (W.alloc (.cells #[.slice Ag p.globals.length cg, .slice Ap p.procs.length cp] 25)) 49 #[.int .i64 id, .int .i64 kind, .slice L labels.length lc, .string nm, .string proc, .int .i64 y0, .int .i64 y1, .string y2, .slice X xn xc, .bool has, .slice R args.length rc, .slice T th.length tc, .slice U el.length uc]; rw [World.size_alloc] at this; exact this)
 generalize World.alloc _ _ = V at HB0 HBp HBs ⊢
 have HI0 := Lib.hid (HI.out.on HB0.out)
 generalize hbe : W.heap.size = b at HBp HBs ⊢
 generalize hfe : b + 1 = f at HBs ⊢
 clear hbe hfe HI
 have hbl := HBp.out.lt
 have hfl := HBs.out.lt
 have q0 : V.cell? ⟨b, 0, none⟩ = some (.slice Ag p.globals.length cg) := by rw [HBp.out.cell]; rfl
 have q1 : V.cell? ⟨b, 1, none⟩ = some (.slice Ap p.procs.length cp) := by rw [HBp.out.cell]; rfl
 have s0 : V.cell? ⟨f, 0, none⟩ = some (.int .i64 id) := by rw [HBs.out.cell]; rfl
 have s1 : V.cell? ⟨f, 1, none⟩ = some (.int .i64 kind) := by rw [HBs.out.cell]; rfl
 have s2 : V.cell? ⟨f, 2, none⟩ = some (.slice L labels.length lc) := by rw [HBs.out.cell]; rfl
 have s3 : V.cell? ⟨f, 3, none⟩ = some (.string nm) := by rw [HBs.out.cell]; rfl
 have s4 : V.cell? ⟨f, 4, none⟩ = some (.string proc) := by rw [HBs.out.cell]; rfl
 have s5 : V.cell? ⟨f, 5, none⟩ = some (.int .i64 y0) := by rw [HBs.out.cell]; rfl
 have s6 : V.cell? ⟨f, 6, none⟩ = some (.int .i64 y1) := by rw [HBs.out.cell]; rfl
 have s7 : V.cell? ⟨f, 7, none⟩ = some (.string y2) := by rw [HBs.out.cell]; rfl
 have s8 : V.cell? ⟨f, 8, none⟩ = some (.slice X xn xc) := by rw [HBs.out.cell]; rfl
 have s9 : V.cell? ⟨f, 9, none⟩ = some (.bool has) := by rw [HBs.out.cell]; rfl
 have s10 : V.cell? ⟨f, 10, none⟩ = some (.slice R args.length rc) := by rw [HBs.out.cell]; rfl
 have s11 : V.cell? ⟨f, 11, none⟩ = some (.slice T th.length tc) := by rw [HBs.out.cell]; rfl
 have s12 : V.cell? ⟨f, 12, none⟩ = some (.slice U el.length uc) := by rw [HBs.out.cell]; rfl
 cases fb with
 | false =>
  go_wp2_with (go_at_call 108; refine (HCf.out V HI0.out).mono ?_; rintro e w1 ⟨rfl, hb1⟩)
  go_ret
  exact ⟨ret_bool (by simp), below_step HB0.out hb1⟩
 | true =>
  obtain ⟨q, hq, hqn⟩ := HFb.out rfl
  have HT1 := Lib.hid (fun V hV => HTd.out q hq V hV)
  have HK1 := Lib.hid (fun l hl x => HTk.out q hq l hl x)
  rw [hqn] at HT1 HK1
  clear HTd HTk HFb hqn hq
  generalize tkB p proc = tk at HK1 HRv
  go_upto_region 4 with (go_at_call 108; refine (HCf.out V HI0.out).mono ?_; rintro e w1 ⟨rfl, hb1⟩)
  have HB1 := Lib.hid (below_step HB0.out hb1)
  have HI1 := Lib.hid (HI0.out.on hb1)
  have HBp1 := Lib.hid (HBp.out.below hb1 hbl)
  have HBs1 := Lib.hid (HBs.out.below hb1 hfl)
  clear hb1 q0 q1 s0 s1 s2 s3 s4 s5 s6 s7 s8 s9 s10 s11 s12 hbl hfl HB0 HI0 HBp HBs HCf
  have hbl := HBp1.out.lt
  have hfl := HBs1.out.lt
  have s3 : w1.cell? ⟨f, 3, none⟩ = some (.string nm) := by rw [HBs1.out.cell]; rfl
  go_upto_if 14 with fail
  obtain ⟨bb, hbb⟩ : ∃ bb, bb = !nm.toList.isEmpty := ⟨_, rfl⟩
  have HBb := Lib.hid hbb
  rw [← hbb]
  clear hbb
  go_cut [5] from 15 to 19 (fun s wx => ∃ (X : Option Addr) (c : Nat), s = .slice X (ownN nm).length c ∧ Hid (wx.ownsRow w1.heap.size 9 1 (.slice X (ownN nm).length c) (ownN nm).length (strs (ownN nm))) ∧ Hid (Below w1.heap.size w1 wx))
  case first =>
   cases bb with
   | false =>
    have he : (nm.toList == []) = true := by have h := HBb.out; rw [toList_emp] at h; rw [toList_beq]; simpa using h
    have HO : Hid (ownN nm = []) := Lib.hid (by unfold ownN; rw [if_pos he])
    go_wp2_with fail
    go_meet
    exact ⟨none, 0, by rw [HO.out]; rfl, Lib.hid (by rw [HO.out]; exact World.ownsRow_nil _ _ _ _), Lib.hid (Below.refl _ _)⟩
   | true =>
    have he : (nm.toList == []) = false := by have h := HBb.out; rw [toList_emp] at h; rw [toList_beq]; simpa using h
    have HO : Hid (ownN nm = [nm]) := Lib.hid (by unfold ownN; rw [if_neg (by rw [he]; simp)])
    have HW := Lib.hid (new_one w1 nm)
    have HO5 : Hid ((w1.alloc (.cells #[.string nm] 9)).ownsRow w1.heap.size 9 1 (.slice none 0 0) 0 (strs [])) := Lib.hid (World.ownsRow_nil _ _ _ _)
    have HB5 : Hid (Below w1.heap.size w1 (w1.alloc (.cells #[.string nm] 9))) := Lib.hid (below_box _)
    go_wp2_with (at_builtin; refine wpList_append_own_at _ rfl (.tmp 15) (.tmp 18) 22 rfl w1.heap.size 9 i0 _ 1 16 Tryz.underlying22 hi0 hz0 hz1 hz2 rfl (by decide) _ 0 (strs []) rfl HO5.out ⟨w1.heap.size, 0, none⟩ 1 1 [.string nm] rfl rfl HW.out (by simp [Value.oneCell']) (by unfold maxLen; omega) (by omega) HB5.out.size ?_; intro v6 w7 hown6 hg6 _ hat6; obtain ⟨X6, k6, rfl, _, _⟩ := own_shape hown6; have HO6 : Hid (w7.ownsRow w1.heap.size 9 1 (.slice X6 1 k6) 1 (strs [nm])) := Lib.hid hown6; have HB6 := Lib.hid (HB5.out.grown hg6 HB5.out.size (fun j hj => (HO5.out.lt j hj).1)); clear hown6 hg6 hat6)
    go_meet
    exact ⟨X6, k6, by rw [HO.out]; rfl, Lib.hid (by rw [HO.out]; exact HO6.out), HB6⟩
  case rest =>
  obtain ⟨X2, c2, rfl, HO2, HB2⟩ := hcut
  clear s3
  have HBs2 := Lib.hid (HBs1.out.below HB2.out hfl)
  have s10 : wc.cell? ⟨f, 10, none⟩ = some (.slice R args.length rc) := by rw [HBs2.out.cell]; rfl
  have HLo : Hid ((ownN nm).length ≤ 1) := Lib.hid (by unfold ownN; split <;> simp)
  have HSo : Hid (∀ t ∈ ownN nm, small t) := Lib.hid (fun t ht => by
   unfold ownN at ht
   split at ht
   ·cases ht
   ·rw [List.mem_singleton] at ht; subst ht; exact HNm.out)
  go_upto_region 7 with fail
  clear s10 HBs2
  go_loopg [5, 23] args.length (fun kk o5 iv wr => ∃ (k : Nat) (X : Option Addr) (c : Nat) (M : List ByteArray), k + kk = args.length ∧ iv = .int .i64 k ∧ o5 = .slice X M.length c ∧ Hid (wr.ownsRow w1.heap.size 9 1 (.slice X M.length c) M.length (strs M)) ∧ Hid (Below w1.heap.size w1 wr) ∧ Hid (∀ t ∈ M, small t) ∧ Hid (M.length ≤ k + 1) ∧ Hid (raL tk M (args.drop k) = ab))
  case atStart => exact ⟨0, X2, c2, ownN nm, by omega, rfl, rfl, HO2, HB2, HSo, HLo, Lib.hid HRv.out.symm⟩
  case round =>
   obtain ⟨k, X3, c3, M, hk, rfl, rfl, HO3, HB3, HSm, HLm, HA⟩ := hrel
   have HIr := Lib.hid (HI1.out.on HB3.out)
   by_cases hlt : k < args.length
   ·obtain ⟨a2, o1, n1, s1, A1, l1, k1, rfl, _, ⟨p0, p1, p2, p3, p4, p5, _⟩, hs, hxa⟩ := arg_at HAr.out HIr.out hlt
    have hAk := raL_drop (tk := tk) (pre := M) hlt
    rw [HA.out] at hAk
    have HAk := Lib.hid hAk
    clear hxa hAk
    generalize args[k] = y at p0 p1 hs HAk
    obtain ⟨xr, xnm, xx⟩ := y
    simp only at p0 p1 hs HAk
    have hM1 : M.length ≤ 1000001 := by have := HLm.out; have := HNa.out; omega
    have HXs : Hid (small xnm) := Lib.hid hs
    go_upto_region 9 with fail
    have HBx : Hid (Blk (wr.alloc (.cells #[.bool xr, .string xnm, .int .i64 o1, .int .i64 n1, .string s1, .slice A1 l1 k1] 61)) wr.heap.size 61 #[.bool xr, .string xnm, .int .i64 o1, .int .i64 n1, .string s1, .slice A1 l1 k1]) := Lib.hid (Blk.new _ _ _)
    have HB4 : Hid (Below w1.heap.size w1 (wr.alloc (.cells #[.bool xr, .string xnm, .int .i64 o1, .int .i64 n1, .string s1, .slice A1 l1 k1] 61))) := Lib.hid (below_stepA HB3.out _)
    have HO4 : Hid ((wr.alloc (.cells #[.bool xr, .string xnm, .int .i64 o1, .int .i64 n1, .string s1, .slice A1 l1 k1] 61)).ownsRow w1.heap.size 9 1 (.slice X3 M.length c3) M.length (strs M)) := Lib.hid (HO3.out.alloc _)
    have HI4 : Hid (In Q w (wr.alloc (.cells #[.bool xr, .string xnm, .int .i64 o1, .int .i64 n1, .string s1, .slice A1 l1 k1] 61))) := Lib.hid (HIr.out.alloc _)
    clear p0 p1 p2 p3 p4 p5 HIr HB3 HO3 HA
    generalize World.alloc wr _ = V6 at HBx HB4 HO4 HI4 ⊢
    generalize wr.heap.size = bx at HBx ⊢
    have hxl := HBx.out.lt
    have z0 : V6.cell? ⟨bx, 0, none⟩ = some (.bool xr) := by rw [HBx.out.cell]; rfl
    have z1 : V6.cell? ⟨bx, 1, none⟩ = some (.string xnm) := by rw [HBx.out.cell]; rfl
    have HBp6 := Lib.hid (HBp1.out.below HB4.out hbl)
    have HBs6 := Lib.hid (HBs1.out.below HB4.out hfl)
    have hb6 := HBp6.out.lt
    have hf6 := HBs6.out.lt
    have q0 : V6.cell? ⟨b, 0, none⟩ = some (.slice Ag p.globals.length cg) := by rw [HBp6.out.cell]; rfl
    have q1 : V6.cell? ⟨b, 1, none⟩ = some (.slice Ap p.procs.length cp) := by rw [HBp6.out.cell]; rfl
    have s4 : V6.cell? ⟨f, 4, none⟩ = some (.string proc) := by rw [HBs6.out.cell]; rfl
    have HTm := Lib.hid (texts_of_own HSm.out HO4.out).2
    cases xr with
    | false =>
     have HAn : Hid (raL tk M (args.drop (k + 1)) = ab) := Lib.hid (by rw [HAk.out, if_neg (by simp)])
     have z0n : ∀ j, (V6.drewN j).cell? ⟨bx, 0, none⟩ = some (.bool false) := fun j => z0
     clear HAk
     go_quiet (fail)
     go_wp2_with fail
     go_roundg (args.length - k - 1)
     case measure => omega
     case rel => exact ⟨k + 1, X3, c3, M, by omega, by go_num, rfl, HO4, Lib.hid (below_drewN HB4.out _), HSm, Lib.hid (by have := HLm.out; omega), HAn⟩
    | true =>
     replace HAk := Lib.hid (HAk.out.trans (if_pos rfl))
     cases hm : M.any (isT xnm) with
     | true =>
      have HR2 : Hid (ab = false) := Lib.hid (by rw [HAk.out, hm]; rfl)
      have HIm := Lib.hid (fun j => rIn_any HTm.out (W := V6.drewN j) ⟨fun b h => h.2, fun _ _ => rfl⟩ xnm)
      rw [hm] at HIm
      clear HAk hm
      go_quiet ((go_at_call 22; exact quiet_same (HIm.out _)))
      go_wp2_with fail
      go_ret
      exact ⟨ret_bool (by rw [HR2.out]; rfl), below_drewN (below_step HB1.out HB4.out) _⟩
     | false =>
      have HIm := Lib.hid (rIn_any HTm.out (W := V6.drew) ⟨fun b h => h.2, fun _ _ => rfl⟩ xnm)
      rw [hm] at HIm HAk
      clear hm
      have hdr : In Q w V6.drew := HI4.out
      have HS6 : Hid (∀ w' : World, Below V6.heap.size V6 w' → (w'.cell? ⟨b, 0, none⟩ = some (.slice Ag p.globals.length cg) ∧ w'.cell? ⟨b, 1, none⟩ = some (.slice Ap p.procs.length cp) ∧ w'.cell? ⟨f, 4, none⟩ = some (.string proc) ∧ w'.cell? ⟨bx, 0, none⟩ = some (.bool true) ∧ w'.cell? ⟨bx, 1, none⟩ = some (.string xnm))) := Lib.hid (fun w' hb => ⟨(hb.cell (p := ⟨b, 0, none⟩) hb6).trans q0, (hb.cell (p := ⟨b, 1, none⟩) hb6).trans q1, (hb.cell (p := ⟨f, 4, none⟩) hf6).trans s4, (hb.cell (p := ⟨bx, 0, none⟩) hxl).trans z0, (hb.cell (p := ⟨bx, 1, none⟩) hxl).trans z1⟩)
      have hBD : Below V6.heap.size V6 V6.drew := (Below.refl _ _).drew
      cases htk : tk xnm with
      | true =>
       have HR2 : Hid (ab = false) := Lib.hid (by rw [HAk.out, htk]; rfl)
       go_region_held3 (fun w' => w'.cell? ⟨b, 0, none⟩ = some (.slice Ag p.globals.length cg) ∧ w'.cell? ⟨b, 1, none⟩ = some (.slice Ap p.procs.length cp) ∧ w'.cell? ⟨f, 4, none⟩ = some (.string proc) ∧ w'.cell? ⟨bx, 0, none⟩ = some (.bool true) ∧ w'.cell? ⟨bx, 1, none⟩ = some (.string xnm))
        ((refine HS6.out _ ?_; with_reducible assumption))
        (first
         | (go_at_call 51; (with_reducible refine (HT1.out V6.drew hdr).mono ?_); rintro e' W8 ⟨l8, v8, rfl, ho8, hb8, ha8⟩; obtain ⟨X8, k8, rfl, _, _⟩ := own_shape ho8; have g8 : Below V6.heap.size V6 W8 := hBD.trans hb8; have HI8 := Lib.hid (rIn_any (texts_of_own (td_small HAs.out ha8) ho8).2 (in_slf _ W8) xnm); rw [HK1.out l8 ha8, htk] at HI8; clear ho8 hb8 ha8)
         | (go_at_call 22; (with_reducible refine HI8.out.mono ?_); rintro e' W9 ⟨rfl, rfl⟩)
         | (go_at_call 22; (with_reducible refine HIm.out.mono ?_); rintro e' W7 ⟨rfl, rfl⟩))
       go_wp2_with fail
       go_ret
       exact ⟨ret_bool (by rw [HR2.out]; rfl), below_step (below_step HB1.out HB4.out) g8⟩
      | false =>
       have HAn : Hid (raL tk (M ++ [xnm]) (args.drop (k + 1)) = ab) := Lib.hid (by rw [HAk.out, htk]; rfl)
       go_region_held3 (fun w' => w'.cell? ⟨b, 0, none⟩ = some (.slice Ag p.globals.length cg) ∧ w'.cell? ⟨b, 1, none⟩ = some (.slice Ap p.procs.length cp) ∧ w'.cell? ⟨f, 4, none⟩ = some (.string proc) ∧ w'.cell? ⟨bx, 0, none⟩ = some (.bool true) ∧ w'.cell? ⟨bx, 1, none⟩ = some (.string xnm))
        ((refine HS6.out _ ?_; with_reducible assumption))
        (first
         | (go_at_call 51; (with_reducible refine (HT1.out V6.drew hdr).mono ?_); rintro e' W8 ⟨l8, v8, rfl, ho8, hb8, ha8⟩; obtain ⟨X8, k8, rfl, _, _⟩ := own_shape ho8; have g8 : Below V6.heap.size V6 W8 := hBD.trans hb8; have HI8 := Lib.hid (rIn_any (texts_of_own (td_small HAs.out ha8) ho8).2 (in_slf _ W8) xnm); rw [HK1.out l8 ha8, htk] at HI8; clear ho8 hb8 ha8)
         | (go_at_call 22; (with_reducible refine HI8.out.mono ?_); rintro e' W9 ⟨rfl, rfl⟩)
         | (go_at_call 22; (with_reducible refine HIm.out.mono ?_); rintro e' W7 ⟨rfl, rfl⟩))
       have HO8 : Hid (W8.ownsRow w1.heap.size 9 1 (.slice X3 M.length c3) M.length (strs M)) := Lib.hid ((Below.moves g8).row HO4.out (fun j hj e => Nat.not_lt.2 e (HO4.out.lt j hj).2))
       have HB8 := Lib.hid (below_step HB4.out g8)
       have HBx8 := Lib.hid (HBx.out.below g8 hxl)
       clear z0 z1 q0 q1 s4 HS6 hBD hdr
       have z0 : W8.cell? ⟨bx, 0, none⟩ = some (.bool true) := by rw [HBx8.out.cell]; rfl
       have z1 : W8.cell? ⟨bx, 1, none⟩ = some (.string xnm) := by rw [HBx8.out.cell]; rfl
       have HW := Lib.hid (new_one W8 xnm)
       have HO5 : Hid ((W8.alloc (.cells #[.string xnm] 9)).ownsRow w1.heap.size 9 1 (.slice X3 M.length c3) M.length (strs M)) := Lib.hid (HO8.out.alloc _)
       have HB5 : Hid (Below w1.heap.size w1 (W8.alloc (.cells #[.string xnm] 9))) := Lib.hid (below_stepA HB8.out _)
       go_wp2_with (at_builtin; refine wpList_append_own_at _ rfl (.tmp 46) (.tmp 49) 22 rfl w1.heap.size 9 i0 _ 1 16 Tryz.underlying22 hi0 hz0 hz1 hz2 rfl (by decide) _ M.length (strs M) rfl HO5.out ⟨W8.heap.size, 0, none⟩ 1 1 [.string xnm] rfl rfl HW.out (by simp [Value.oneCell']) (by unfold maxLen; omega) (by omega) HB5.out.size ?_; intro v6 w7 hown6 hg6 _ hat6; obtain ⟨X6, k6, rfl, _, _⟩ := own_shape hown6; have HO6 : Hid (w7.ownsRow w1.heap.size 9 1 (.slice X6 (M ++ [xnm]).length k6) (M ++ [xnm]).length (strs (M ++ [xnm]))) := Lib.hid (by rw [strs_append, List.length_append]; exact hown6); have HB6 := Lib.hid (HB5.out.grown hg6 HB5.out.size (fun j hj => (HO5.out.lt j hj).1)); clear hown6 hg6 hat6)
       go_roundg (args.length - k - 1)
       case measure => omega
       case rel => exact ⟨k + 1, X6, k6, M ++ [xnm], by omega, by go_num, by rw [List.length_append]; rfl, HO6, HB6, Lib.hid (fun t ht => by
        rcases List.mem_append.1 ht with ht | ht
        ·exact HSm.out t ht
        ·rw [List.mem_singleton.1 ht]; exact HXs.out), Lib.hid (by have := HLm.out; rw [List.length_append]; simp only [List.length_singleton]; omega), HAn⟩
   ·have HR2 : Hid (ab = true) := Lib.hid (by rw [← HA.out, List.drop_of_length_le (by omega)]; rfl)
    go_wp2_with fail
    go_ret
    exact ⟨ret_bool (by rw [HR2.out]; rfl), below_step HB1.out HB3.out⟩
end Go.Proofs.YtimejkbmfbjomaaGreat
