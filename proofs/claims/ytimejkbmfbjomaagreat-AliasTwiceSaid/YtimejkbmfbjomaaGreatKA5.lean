/- Texts, merged by a program; only what is used. -/
import Derived.Test.YtimejkbmfbjomaaGreatK1
import Derived.Test.YtimejkbmfbjomaaGreatK2
import Derived.Test.YtimejkbmfbjomaaGreatK3
import Derived.Test.YtimejkbmfbjomaaGreatK4
import Derived.Test.YtimejkbmfbjomaaGreatK5
import Derived.Test.YtimejkbmfbjomaaGreatK6
import Derived.Test.YtimejkbmfbjomaaGreatK7
import Derived.Test.YtimejkbmfbjomaaGreatK8
import Derived.Test.YtimejkbmfbjomaaGreatK9
import Derived.Test.YtimejkbmfbjomaaGreatK10
import Derived.Test.YtimejkbmfbjomaaGreatK11
import Derived.Test.YtimejkbmfbjomaaGreatK12
import Derived.Test.YtimejkbmfbjomaaGreatK13
import Derived.Test.YtimejkbmfbjomaaGreatK14
import Derived.Test.YtimejkbmfbjomaaGreatK15
import Derived.Test.YtimejkbmfbjomaaGreatK16
import Derived.Test.YtimejkbmfbjomaaGreatK17
import Derived.Test.YtimejkbmfbjomaaGreatK18
import Derived.Test.YtimejkbmfbjomaaGreatK19
import Derived.Test.YtimejkbmfbjomaaGreatK20
import Derived.Test.YtimejkbmfbjomaaGreatK21
import Derived.Test.YtimejkbmfbjomaaGreatK22
import Derived.Test.YtimejkbmfbjomaaGreatK23
import Derived.Test.YtimejkbmfbjomaaGreatK24
import Derived.Test.YtimejkbmfbjomaaGreatK25
import Derived.Test.YtimejkbmfbjomaaGreatK26
import Derived.Test.YtimejkbmfbjomaaGreatK27
import Derived.Test.YtimejkbmfbjomaaGreatK28
import Derived.Test.YtimejkbmfbjomaaGreatK29
import Derived.Test.YtimejkbmfbjomaaGreatK30
import Derived.Test.YtimejkbmfbjomaaGreatKA1
import Derived.Test.YtimejkbmfbjomaaGreatKA2
import Derived.Test.YtimejkbmfbjomaaGreatKA3
import Derived.Test.YtimejkbmfbjomaaGreatKA4
namespace Go.Proofs.YtimejkbmfbjomaaGreat
open Go.ChangeShapes Go.WideShapes Go.ChangeAt Go.RowKit Go.Deep
set_option linter.unusedVariables false
set_option linter.unusedSimpArgs false
/-- a global that the procedure touches -/
noncomputable def tkB (p : Pg) (proc s : ByteArray) : Bool := @decide (∃ l, GlobOf p (jfP p proc) l ∧ s ∈ l) (Classical.propDecidable _)
theorem glob_uni {p : Pg} {s0 : ByteArray} {l1 l2 : List ByteArray} (h1 : GlobOf p (jfP p s0) l1) (h2 : GlobOf p (jfP p s0) l2) (s : ByteArray) : s ∈ l1 ↔ s ∈ l2 := by
 by_cases hc : chkOK p = true
 ·have hok := ck_ok9 hc
  by_cases hq : ∃ q ∈ p.procs, q.nm = s0
  ·obtain ⟨q, hq, rfl⟩ := hq
   rw [glob_mem hok hc hq h1, glob_mem hok hc hq h2]
  ·have hz : jfP p s0 < 0 := by
    unfold jfP
    rw [if_pos hc]
    rcases idxL_get (isQ s0) p.procs 0 with ⟨e, _⟩ | ⟨j, hj, e, hf, _⟩
    ·rw [e]; decide
    ·exfalso
     exact hq ⟨p.procs[j], List.getElem_mem hj, (of_decide_eq_true hf)⟩
   rcases h1 with ⟨_, rfl⟩ | ⟨m, _, _, e, _⟩
   ·rcases h2 with ⟨_, rfl⟩ | ⟨m, _, _, e, _⟩
    ·rfl
    ·omega
   ·omega
 ·have hz : jfP p s0 < 0 := by
   unfold jfP
   rw [if_neg hc]
   decide
  rcases h1 with ⟨_, rfl⟩ | ⟨m, _, _, e, _⟩
  ·rcases h2 with ⟨_, rfl⟩ | ⟨m, _, _, e, _⟩
   ·rfl
   ·omega
  ·omega
theorem tkB_any {p : Pg} {proc : ByteArray} {l : List ByteArray} (h : GlobOf p (jfP p proc) l) (s : ByteArray) : l.any (isT s) = tkB p proc s := by
 unfold tkB
 rw [Bool.eq_iff_iff, List.any_eq_true, @decide_eq_true_iff _ (Classical.propDecidable _)]
 constructor
 ·rintro ⟨x, hx, e⟩
  have e := of_decide_eq_true e
  subst e
  exact ⟨l, h, hx⟩
 ·rintro ⟨l2, h2, hs⟩
  exact ⟨s, (glob_uni h2 h s).1 hs, by simp [isT]⟩
/-- of the names in order: none is nm, one of those ahead, or touched -/
def apL (tk : ByteArray → Bool) (nm : ByteArray) : List ByteArray → List ByteArray → Bool
 | _, [] => true
 | pre, x :: l => !((decide (x = nm) || pre.any (isT x)) || tk x) && apL tk nm (pre ++ [x]) l
noncomputable def apB (p : Pg) (s : S) : Bool := apL (tkB p s.proc) s.nm [] (refsOf s.args)
theorem apL_drop {tk : ByteArray → Bool} {nm : ByteArray} {l : List ByteArray} {k : Nat} (h : k < l.length) : apL tk nm (l.take k) (l.drop k) = (!((decide (l[k] = nm) || (l.take k).any (isT l[k])) || tk l[k]) && apL tk nm (l.take (k + 1)) (l.drop (k + 1))) := by
 rw [List.drop_eq_getElem_cons h, apL, List.take_succ_eq_append_getElem h]
theorem refs_small {w : World} {Q : Nat → Prop} {args : List Ar} {v : Value} (h : SliceI w Q 6 (ArgI w Q) args v) : ∀ t ∈ refsOf args, small t := by
 intro t ht
 unfold refsOf at ht
 obtain ⟨a, ha, ht⟩ := List.mem_flatMap.1 ht
 obtain ⟨cs, xcs, _, hz, _⟩ := slice_mem h a ha
 unfold refV at ht
 split at ht
 ·rw [List.mem_singleton] at ht
  subst ht
  exact hz
 ·cases ht
theorem glob_small {p : Pg} {z : Int} {l : List ByteArray} (h : GlobOf p z l) : ∀ t ∈ l, small t := by
 intro t ht
 rcases h with ⟨_, rfl⟩ | ⟨m, _, _, _, _, hi⟩
 ·cases ht
 ·exact ((hi.mem t).1 ht).1
set_option maxHeartbeats 8000000 in
set_option maxRecDepth 100000 in
theorem alFits_any {w W : World} {Q : Nat → Prop} {p : Pg} {c0 c1 : Value} {s : S} {cs : List Value} {B m n : Nat} (h : ProgI w Q p [c0, c1]) (hsm : SmG p) (hck : chkOK p = true → p.procs.length ≤ 16 ∧ ∀ q ∈ p.procs, (saidOf (preSL q.body)).length ≤ 10000000) {w2 : World} {Q2 : Nat → Prop} (hs : StmtI w2 Q2 s cs) (hna : s.args.length ≤ 1000000) (hC : CkI p B W m n) (hB : B ≤ W.heap.size) (hn : n < maxLen) (hI : In Q w W) (hQ : ¬ Q m) (hI2 : In Q2 w2 W) :
 Calls Tryz.prog 71 #[.agg #[c0, c1, .map (some m)], .agg cs.toArray] W fun e W' => e = .returned (.bool (apB p s)) ∧ CkI p B W' m (n + 1) ∧ Moves (fun j => j = m) W W' := by
 have HH := Lib.hid (fun V hV => handedIn_any hs hna V hV)
 obtain ⟨id, kind, labels, nm, proc, x, has, args, th, el, L, lc, y0, y1, y2, X, xn, xc, R, rc, T, tc, U, uc, rfl, rfl, hid, hkind, hnm, hproc, _, _, ha, _⟩ := stmt_open hs
 have hpz : proc.size ≤ maxLen := hproc
 have HG := Lib.hid (fun (V : World) (hV : In Q w V) (hC2 : CkI p B V m n) (hB2 : B ≤ V.heap.size) => globals_any h hsm hck proc hpz hC2 hB2 hn hV)
 obtain ⟨Ag, cg, Ap, cp, rfl, rfl, _⟩ := prog_open h
 have HI := Lib.hid hI
 have HI2 := Lib.hid hI2
 have HC := Lib.hid hC
 have HR : Hid (apB p (.mk id kind labels nm proc x has args th el) = apL (tkB p proc) nm [] (refsOf args)) := Lib.hid rfl
 have HLn : Hid ((refsOf args).length ≤ 1000000) := Lib.hid (Nat.le_trans (refsOf_len args) hna)
 have HSm : Hid (∀ t ∈ refsOf args, small t) := Lib.hid (refs_small ha)
 have hml := hC.lt
 clear h hsm hck hI hC hs hna hid hkind hnm hproc ha hI2
 simp only [List.toArray] at HH ⊢
 simp only [S.args] at HH
 generalize refsOf args = l at HH HR HLn HSm
 go_enter Tryz.func71, Tryz.ntmps71
 go_upto_region 1 with fail
 have HB0 : Hid (Below W.heap.size W ((W.alloc (.cells #[.slice Ag p.globals.length cg, .slice Ap p.procs.length cp, .map (some m)] 89)).alloc (.cells #[.int .i64 id, .int .i64 kind, .slice L labels.length lc, .string nm, .string proc, .int .i64 y0, .int .i64 y1, .string y2, .slice X xn xc, .bool has, .slice R args.length rc, .slice T th.length tc, .slice U el.length uc] 49))) := Lib.hid (below_two _ _)
 have HBp : Hid (Blk ((W.alloc (.cells #[.slice Ag p.globals.length cg, .slice Ap p.procs.length cp, .map (some m)] 89)).alloc (.cells #[.int .i64 id, .int .i64 kind, .slice L labels.length lc, .string nm, .string proc, .int .i64 y0, .int .i64 y1, .string y2, .slice X xn xc, .bool has, .slice R args.length rc, .slice T th.length tc, .slice U el.length uc] 49)) W.heap.size 89 #[.slice Ag p.globals.length cg, .slice Ap p.procs.length cp, .map (some m)]) := Lib.hid ((Blk.new _ _ _).alloc _)
 have HBs : Hid (Blk ((W.alloc (.cells #[.slice Ag p.globals.length cg, .slice Ap p.procs.length cp, .map (some m)] 89)).alloc (.cells #[.int .i64 id, .int .i64 kind, .slice L labels.length lc, .string nm, .string proc, .int .i64 y0, .int .i64 y1, .string y2, .slice X xn xc, .bool has, .slice R args.length rc, .slice T th.length tc, .slice U el.length uc] 49)) (W.heap.size + 1) 49 #[.int .i64 id, .int .i64 kind, .slice L labels.length lc, .string nm, .string proc, .int .i64 y0, .int .i64 y1, .string y2, .slice X xn xc, .bool has, .slice R args.length rc, .slice T th.length tc, .slice U el.length uc]) := Lib.hid (by have := Blk.new (W.alloc (.cells #[.slice Ag p.globals.length cg, .slice Ap p.procs.length cp, .map (some m)] 89)) 49 #[.int .i64 id, .int .i64 kind, .slice L labels.length lc, .string nm, .string proc, .int .i64 y0, .int .i64 y1, .string y2, .slice X xn xc, .bool has, .slice R args.length rc, .slice T th.length tc, .slice U el.length uc]; rw [World.size_alloc] at this; exact this)
 generalize World.alloc _ _ = V at HB0 HBp HBs ⊢
 have HBV : Hid (B ≤ V.heap.size) := Lib.hid (Nat.le_trans hB HB0.out.size)
 have HI0 := Lib.hid (HI.out.on HB0.out)
 have HI20 := Lib.hid (HI2.out.on HB0.out)
 have HC0 := Lib.hid (HC.out.step HB0.out)
 generalize hbe : W.heap.size = b at HBp HBs hml ⊢
 generalize hfe : b + 1 = f at HBs ⊢
 have hmb : m ≠ b := by omega
 have hmf : m ≠ f := by omega
 clear hbe hfe
 have hbl := HBp.out.lt
 have hfl := HBs.out.lt
 have hmV := HC0.out.lt
 have s0 : V.cell? ⟨f, 0, none⟩ = some (.int .i64 id) := by rw [HBs.out.cell]; rfl
 have s1 : V.cell? ⟨f, 1, none⟩ = some (.int .i64 kind) := by rw [HBs.out.cell]; rfl
 have s2 : V.cell? ⟨f, 2, none⟩ = some (.slice L labels.length lc) := by rw [HBs.out.cell]; rfl
 have s3 : V.cell? ⟨f, 3, none⟩ = some (.string nm) := by rw [HBs.out.cell]; rfl
 have s4 : V.cell? ⟨f, 4, none⟩ = some (.string proc) := by rw [HBs.out.cell]; rfl
 have s5 : V.cell? ⟨f, 5, none⟩ = some (.int .i64 y0) := by rw [HBs.out.cell]; rfl
 have s6 : V.cell? ⟨f, 6, none⟩ = some (.int .i64 y1) := by rw [HBs.out.cell]; rfl
 have s7 : V.cell? ⟨f, 7, none⟩ = some (.string y2) := by rw [HBs.out.cell]; rfl
 have s8 : V.cell? ⟨f, 8, none⟩ = some (.slice X xn xc) := by rw [HBs.out.cell]; rfl
 have s9 : V.cell? ⟨f, 9, none⟩ = some (.bool has) := by rw [HBs.out.cell]; rfl
 have s10 : V.cell? ⟨f, 10, none⟩ = some (.slice R args.length rc) := by rw [HBs.out.cell]; rfl
 have s11 : V.cell? ⟨f, 11, none⟩ = some (.slice T th.length tc) := by rw [HBs.out.cell]; rfl
 have s12 : V.cell? ⟨f, 12, none⟩ = some (.slice U el.length uc) := by rw [HBs.out.cell]; rfl
 go_upto_region 2 with (go_at_call 106; refine (HH.out V HI20.out).mono ?_; rintro e' W1 ⟨v1, rfl, ho1, hb1⟩; obtain ⟨X1, k1, rfl, _, _⟩ := own_shape ho1)
 have HO1 := Lib.hid ho1
 have HB1 := Lib.hid (below_step HB0.out hb1)
 have HI1 := Lib.hid (HI0.out.on hb1)
 have HC1 := Lib.hid (HC0.out.step hb1)
 have HBs1 := Lib.hid (HBs.out.below hb1 hfl)
 have HBp1 := Lib.hid (HBp.out.below hb1 hbl)
 have HBV1 : Hid (B ≤ W1.heap.size) := Lib.hid (Nat.le_trans HBV.out hb1.size)
 clear ho1 hb1 s0 s1 s2 s3 s4 s5 s6 s7 s8 s9 s10 s11 s12 HI0 HI20 HC0 HBs HBp hbl hfl HB0 HH
 have hbl := HBp1.out.lt
 have hfl := HBs1.out.lt
 by_cases hl0 : l.length = 0
 ·have hle : l = [] := List.eq_nil_of_length_eq_zero hl0
  have HR2 : Hid (apB p (.mk id kind labels nm proc x has args th el) = true) := Lib.hid (by rw [HR.out, hle]; rfl)
  have hz : ((l.length : Int) == 0) = true := by rw [hl0]; rfl
  clear hle HR
  go_wp2_with fail
  go_ret
  exact ⟨ret_bool HR2.out.symm, HC1.out.mono (by omega), (below_mv HB1.out)⟩
 ·have hz : ((l.length : Int) == 0) = false := beq_eq_false_iff_ne.2 (by omega)
  clear hl0
  have s0 : W1.cell? ⟨f, 0, none⟩ = some (.int .i64 id) := by rw [HBs1.out.cell]; rfl
  have s1 : W1.cell? ⟨f, 1, none⟩ = some (.int .i64 kind) := by rw [HBs1.out.cell]; rfl
  have s2 : W1.cell? ⟨f, 2, none⟩ = some (.slice L labels.length lc) := by rw [HBs1.out.cell]; rfl
  have s3 : W1.cell? ⟨f, 3, none⟩ = some (.string nm) := by rw [HBs1.out.cell]; rfl
  have s4 : W1.cell? ⟨f, 4, none⟩ = some (.string proc) := by rw [HBs1.out.cell]; rfl
  have s5 : W1.cell? ⟨f, 5, none⟩ = some (.int .i64 y0) := by rw [HBs1.out.cell]; rfl
  have s6 : W1.cell? ⟨f, 6, none⟩ = some (.int .i64 y1) := by rw [HBs1.out.cell]; rfl
  have s7 : W1.cell? ⟨f, 7, none⟩ = some (.string y2) := by rw [HBs1.out.cell]; rfl
  have s8 : W1.cell? ⟨f, 8, none⟩ = some (.slice X xn xc) := by rw [HBs1.out.cell]; rfl
  have s9 : W1.cell? ⟨f, 9, none⟩ = some (.bool has) := by rw [HBs1.out.cell]; rfl
  have s10 : W1.cell? ⟨f, 10, none⟩ = some (.slice R args.length rc) := by rw [HBs1.out.cell]; rfl
  have s11 : W1.cell? ⟨f, 11, none⟩ = some (.slice T th.length tc) := by rw [HBs1.out.cell]; rfl
  have s12 : W1.cell? ⟨f, 12, none⟩ = some (.slice U el.length uc) := by rw [HBs1.out.cell]; rfl
  have q0 : W1.cell? ⟨b, 0, none⟩ = some (.slice Ag p.globals.length cg) := by rw [HBp1.out.cell]; rfl
  have q1 : W1.cell? ⟨b, 1, none⟩ = some (.slice Ap p.procs.length cp) := by rw [HBp1.out.cell]; rfl
  have q2 : W1.cell? ⟨b, 2, none⟩ = some (.map (some m)) := by rw [HBp1.out.cell]; rfl
  go_upto_region 5 with (go_at_call 107; refine (HG.out W1 HI1.out HC1.out HBV1.out).mono ?_; rintro e' W2 ⟨l2, X2, k2, rfl, ho2, hg2, hc2, hm2⟩)
  have HO2 := Lib.hid ho2
  have HC2 := Lib.hid hc2
  have HMv : Hid (Moves (fun j => j = m) W W2) := Lib.hid ((below_mv HB1.out).trans hm2 (fun j hj => .inr hj))
  have HBs2 := Lib.hid (hm2.blk HBs1.out hmf.symm)
  have HO12 : Hid (W2.ownsRow V.heap.size 9 1 (.slice X1 l.length k1) l.length (strs l)) := Lib.hid (hm2.row HO1.out (fun j hj e => by have := (HO1.out.lt j hj).1; omega))
  have HTk := Lib.hid (fun t => tkB_any hg2 t)
  have HT1 := Lib.hid (texts_of_own HSm.out HO12.out).2
  have HSm2 : Hid (∀ t ∈ l2, small t) := Lib.hid (glob_small hg2)
  have HT2 := Lib.hid (texts_of_own HSm2.out HO2.out).2
  have HCt := Lib.hid (fun t => Contains_any HT2.out (in_slf _ W2) t)
  have HCp := Lib.hid (fun (k : Nat) (hk : k ≤ l.length) t => Contains_any (HT1.out.take hk) (in_slf _ W2) t)
  clear ho2 hg2 hc2 hm2 s0 s1 s2 s3 s4 s5 s6 s7 s8 s9 s10 s11 s12 q0 q1 q2 HO1 HC1 HBs1 HBp1 hbl hfl HG HI1 HB1 HBV1
  have hfl := HBs2.out.lt
  have s3 : W2.cell? ⟨f, 3, none⟩ = some (.string nm) := by rw [HBs2.out.cell]; rfl
  generalize tkB p proc = tk at HR HTk
  have hck1 : l.length ≤ k1 := by
   obtain ⟨A9, c9, e9, h9, _⟩ := own_form HO12.out
   cases e9
   exact h9
  go_upto_region 6 with fail
  go_loopg [20] l.length (fun kk i wr => ∃ k : Nat, k + kk = l.length ∧ i = .int .i64 k ∧ W2 = wr ∧ Hid (apL tk nm (l.take k) (l.drop k) = apL tk nm [] l))
  case atStart => exact ⟨0, by omega, rfl, rfl, Lib.hid rfl⟩
  case round =>
   obtain ⟨k, hk, rfl, rfl, HA⟩ := hrel
   by_cases hlt : k < l.length
   ·obtain ⟨g5, cap5, he5, hcl5, _, hcp5⟩ := own_at HO12.out hlt
    injection he5 with h51 _ h53
    subst h51 h53
    have pt := hcl5 (.string l[k]) (by simp [strs, List.getElem?_map, List.getElem?_eq_getElem hlt])
    have HAk := apL_drop (tk := tk) (nm := nm) hlt
    rw [HA.out] at HAk
    have HP := Lib.hid (HCp.out k (by omega) l[k])
    have HQ := Lib.hid (HCt.out l[k])
    rw [HTk.out] at HQ
    have hdb : decide (l[k] = nm) = (l[k].toList == nm.toList) := (dec_bytes _ _).symm
    rw [hdb] at HAk
    have HAk := Lib.hid HAk
    clear hcl5 hdb HA
    generalize (l.take k).any (isT l[k]) = b2 at HP HAk
    generalize tk l[k] = b3 at HQ HAk
    generalize l[k] = t at pt HP HQ HAk
    have hcpk : (k : Int) ≤ k1 := by have := hck1; omega
    cases hb1 : (t.toList == nm.toList) with
    | true =>
     rw [hb1] at HAk
     have HR2 : Hid (apB p (.mk id kind labels nm proc x has args th el) = false) := Lib.hid (by rw [HR.out, HAk.out]; rfl)
     clear HR HAk
     go_wp2_with fail
     go_ret
     exact ⟨ret_bool HR2.out.symm, HC2.out, HMv.out⟩
    | false =>
     rw [hb1] at HAk
     cases b2 with
     | true =>
      have HR2 : Hid (apB p (.mk id kind labels nm proc x has args th el) = false) := Lib.hid (by rw [HR.out, HAk.out]; rfl)
      clear HR HAk HQ
      go_wp2_with (go_at_call 94; refine HP.out.mono ?_; rintro e' W' ⟨rfl, rfl⟩)
      go_ret
      exact ⟨ret_bool HR2.out.symm, HC2.out, HMv.out⟩
     | false =>
      cases b3 with
      | true =>
       have HR2 : Hid (apB p (.mk id kind labels nm proc x has args th el) = false) := Lib.hid (by rw [HR.out, HAk.out]; rfl)
       clear HR HAk
       go_wp2_with (go_at_call 94; (first | (with_reducible refine HP.out.mono ?_) | (with_reducible refine HQ.out.mono ?_)); rintro e' W' ⟨rfl, rfl⟩)
       go_ret
       exact ⟨ret_bool HR2.out.symm, HC2.out, HMv.out⟩
      | false =>
       have HAn : Hid (apL tk nm (l.take (k + 1)) (l.drop (k + 1)) = apL tk nm [] l) := Lib.hid (by rw [HAk.out]; rfl)
       clear HAk
       go_wp2_with (go_at_call 94; (first | (with_reducible refine HP.out.mono ?_) | (with_reducible refine HQ.out.mono ?_)); rintro e' W' ⟨rfl, rfl⟩)
       go_roundg (l.length - k - 1)
       case measure => omega
       case rel => exact ⟨k + 1, by omega, by go_num, rfl, HAn⟩
   ·have HR2 : Hid (apB p (.mk id kind labels nm proc x has args th el) = true) := Lib.hid (by rw [HR.out, ← HA.out, List.drop_of_length_le (by omega)]; rfl)
    clear HR HA
    go_wp2_with fail
    go_ret
    exact ⟨ret_bool HR2.out.symm, HC2.out, HMv.out⟩
end Go.Proofs.YtimejkbmfbjomaaGreat
namespace Go.Proofs.YtimejkbmfbjomaaGreat
open Go.ChangeShapes Go.WideShapes Go.ChangeAt Go.RowKit Go.Deep
set_option linter.unusedVariables false
set_option linter.unusedSimpArgs false
noncomputable def alB (p : Pg) (s : S) : Bool := s.kind == 4 && !apB p s
theorem preS_len (s : S) : (preS s).length = 1 + (preSL s.th).length + (preSL s.el).length := by
 rw [preS_eq, subS_eq, List.length_cons, List.length_append]
 omega
set_option maxHeartbeats 8000000 in
set_option maxRecDepth 100000 in
theorem alMisfit_any {w : World} {Q : Nat → Prop} {p : Pg} {c0 c1 : Value} {B m : Nat} (h : ProgI w Q p [c0, c1]) (hsm : SmG p) (hck : chkOK p = true → p.procs.length ≤ 16 ∧ ∀ q ∈ p.procs, (saidOf (preSL q.body)).length ≤ 10000000) (hQ : ¬ Q m) : ∀ (N : Nat) (l : List S), (preSL l).length < N → ∀ {W : World} {A : Option Addr} {cap n : Nat}, StmtsI w Q l (.slice A l.length cap) → In Q w W → CkI p B W m n → B ≤ W.heap.size → n + (preSL l).length < 1000000000 → (∀ s ∈ preSL l, s.id ≠ 0) → (∀ s ∈ preSL l, s.args.length ≤ 1000000) →
 Calls Tryz.prog 61 #[.agg #[c0, c1, .map (some m)], .slice A l.length cap] W fun e W' => e = .returned (.int .i64 (fstB (alB p) (preSL l))) ∧ CkI p B W' m (n + (preSL l).length) ∧ Moves (fun j => j = m) W W' := by
 have HFi := Lib.hid (fun s cs (hs : StmtI w Q s cs) (ha : s.args.length ≤ 1000000) (V : World) (k : Nat) (hC : CkI p B V m k) (hB : B ≤ V.heap.size) (hk : k < maxLen) (hV : In Q w V) => alFits_any h hsm hck hs ha hC hB hk hV hQ hV)
 have HQ := Lib.hid hQ
 obtain ⟨Ag, cg, Ap, cp, rfl, rfl, _⟩ := prog_open h
 clear h hsm hck hQ
 intro N
 induction N with
 | zero => intro l h; omega
 | succ N ih =>
  intro l hN W A cap n hl hI hC hB hn hz ha
  obtain ⟨_, hlc, hcap, _⟩ := slice_len hl
  have IH := Lib.hid @ih
  have HN := Lib.hid hN
  have HL := Lib.hid hl
  have HI := Lib.hid hI
  have HZ := Lib.hid hz
  have HAr := Lib.hid ha
  have HC := Lib.hid hC
  have HNn := Lib.hid hn
  have hml := hC.lt
  clear ih hN hl hI hz ha hC hn
  go_enter Tryz.func61, Tryz.ntmps61
  go_upto_region 1 with fail
  have HB0 : Hid (Below W.heap.size W (W.alloc (.cells #[.slice Ag p.globals.length cg, .slice Ap p.procs.length cp, .map (some m)] 89))) := Lib.hid (below_box _)
  have HBp : Hid (Blk (W.alloc (.cells #[.slice Ag p.globals.length cg, .slice Ap p.procs.length cp, .map (some m)] 89)) W.heap.size 89 #[.slice Ag p.globals.length cg, .slice Ap p.procs.length cp, .map (some m)]) := Lib.hid (Blk.new _ _ _)
  generalize World.alloc _ _ = V at HB0 HBp ⊢
  have HBV : Hid (B ≤ V.heap.size) := Lib.hid (Nat.le_trans hB HB0.out.size)
  generalize hbe : W.heap.size = b at HBp hml ⊢
  have hmb : b ≠ m := by omega
  clear hbe
  have HI0 := Lib.hid (HI.out.on HB0.out)
  have HC0 := Lib.hid (HC.out.step HB0.out)
  have HMV : Hid (Moves (fun j => j = m) W V) := Lib.hid (below_mv HB0.out)
  clear HC HI HB0
  go_upto_region 2 with fail
  go_loopg [11] l.length (fun kk iv wr => ∃ (k : Nat), k + kk = l.length ∧ iv = .int .i64 k ∧ Hid (Moves (fun j => j = m) V wr) ∧ Hid (CkI p B wr m (n + (preSL (l.take k)).length)) ∧ Hid (fstB (alB p) (preSL (l.drop k)) = fstB (alB p) (preSL l)))
  case atStart => exact ⟨0, by omega, rfl, Lib.hid (Moves.refl _ _), Lib.hid (by simpa [preSL] using HC0.out), Lib.hid rfl⟩
  case round =>
   obtain ⟨k, hk, rfl, HMr, HCr, HA⟩ := hrel
   have HIr := Lib.hid (HI0.out.moves HMr.out (fun j hj hq => HQ.out (hj ▸ hq)))
   have HBpr := Lib.hid (HMr.out.blk HBp.out hmb)
   have HBr : Hid (B ≤ wr.heap.size) := Lib.hid (Nat.le_trans HBV.out HMr.out.size)
   by_cases hlt : k < l.length
   ·obtain ⟨a, id, kind, labels, nm, proc, x, has, args, th, el, L, lc, x0, x1, x2, X, xn, xc, R, rc, T, tc, U, uc, rfl, hqa, hlk, ⟨p0, p1, p2, p3, p4, p5, p6, p7, p8, p9, p10, p11, p12, _⟩, hid, hkind, hnm, hproc, htx, hx, ha, hth, hel, hst⟩ := stmt_at HL.out HIr.out hlt
    have HAk : Hid (fstB (alB p) (preSL l) = if alB p (.mk id kind labels nm proc x has args th el) = true then id else if fstB (alB p) (preSL th) = 0 then (if fstB (alB p) (preSL el) = 0 then fstB (alB p) (preSL (l.drop (k + 1))) else fstB (alB p) (preSL el)) else fstB (alB p) (preSL th)) := Lib.hid (by
     have h := fstB_step (f := alB p) hlt HZ.out
     rw [HA.out, hlk] at h
     exact h)
    have hsub := preSL_at hlt
    have hmem : ∀ s ∈ preS l[k], s ∈ preSL l := preS_in l k hlt
    have hpl : (preSL (l.take (k + 1))).length = (preSL (l.take k)).length + (1 + (preSL th).length + (preSL el).length) := by
     rw [preSL_take hlt, List.length_append, preS_len, hlk]
     rfl
    have hpm := preSL_take_le l (k + 1)
    rw [hlk, subS_eq] at hsub
    rw [hlk, preS_eq, subS_eq] at hmem
    rw [List.length_append] at hsub
    rw [hlk] at hst
    have hn := HNn.out
    obtain ⟨n1, hn1⟩ : ∃ n1, n1 = n + (preSL (l.take k)).length := ⟨_, rfl⟩
    rw [← hn1] at HCr
    have HNe : Hid (n + (preSL (l.take (k + 1))).length = n1 + 1 + (preSL th).length + (preSL el).length) := Lib.hid (by omega)
    have HNl : Hid (n1 + 1 + (preSL th).length + (preSL el).length ≤ n + (preSL l).length) := Lib.hid (by omega)
    have HNz : Hid (n1 + 1 + (preSL th).length + (preSL el).length < 1000000000) := Lib.hid (by omega)
    have HR := Lib.hid (fun V hC hB hV => HFi.out _ _ hst (HAr.out _ (hmem _ (List.mem_cons_self ..))) V n1 hC hB (by have := HNz.out; unfold maxLen; omega) hV)
    have HT := Lib.hid (fun V hV hC hB => IH.out th (by have := HN.out; simp only [S.th, S.el] at hsub; omega) (W := V) (n := n1 + 1) hth hV hC hB (by have := HNz.out; omega) (fun s hs => HZ.out s (hmem s (List.mem_cons_of_mem _ (List.mem_append_left _ hs)))) (fun s hs => HAr.out s (hmem s (List.mem_cons_of_mem _ (List.mem_append_left _ hs)))))
    have HE := Lib.hid (fun V hV hC hB => IH.out el (by have := HN.out; simp only [S.th, S.el] at hsub; omega) (W := V) (n := n1 + 1 + (preSL th).length) hel hV hC hB (by have := HNz.out; omega) (fun s hs => HZ.out s (hmem s (List.mem_cons_of_mem _ (List.mem_append_right _ hs)))) (fun s hs => HAr.out s (hmem s (List.mem_cons_of_mem _ (List.mem_append_right _ hs)))))
    simp only [List.toArray] at HR
    have hidb := hid
    have hkb := hkind
    unfold i64 at hidb hkb
    obtain ⟨r, hr⟩ : ∃ r, r = apB p (.mk id kind labels nm proc x has args th el) := ⟨_, rfl⟩
    have HB : Hid (alB p (.mk id kind labels nm proc x has args th el) = (kind == 4 && !r)) := Lib.hid (by rw [hr]; rfl)
    rw [← hr] at HR
    obtain ⟨d, hd⟩ : ∃ d, d = alB p (.mk id kind labels nm proc x has args th el) := ⟨_, rfl⟩
    rw [← hd] at HAk HB
    clear hr hd hlk hsub hmem hst hid hkind hnm hproc htx hx ha hth hel hqa hpl hpm hn hn1
    generalize fstB (alB p) (preSL th) = r1 at HT HAk
    generalize fstB (alB p) (preSL el) = r2 at HE HAk
    generalize (preSL th).length = t1 at HT HE HNe HNl HNz
    generalize (preSL el).length = t2 at HE HNe HNl HNz
    go_upto_region 4 with fail
    have HBx : Hid (Blk (wr.alloc (.cells #[.int .i64 id, .int .i64 kind, .slice L labels.length lc, .string nm, .string proc, .int .i64 x0, .int .i64 x1, .string x2, .slice X xn xc, .bool has, .slice R args.length rc, .slice T th.length tc, .slice U el.length uc] 49)) wr.heap.size 49 #[.int .i64 id, .int .i64 kind, .slice L labels.length lc, .string nm, .string proc, .int .i64 x0, .int .i64 x1, .string x2, .slice X xn xc, .bool has, .slice R args.length rc, .slice T th.length tc, .slice U el.length uc]) := Lib.hid (Blk.new _ _ _)
    have HM4 : Hid (Moves (fun j => j = m) V (wr.alloc (.cells #[.int .i64 id, .int .i64 kind, .slice L labels.length lc, .string nm, .string proc, .int .i64 x0, .int .i64 x1, .string x2, .slice X xn xc, .bool has, .slice R args.length rc, .slice T th.length tc, .slice U el.length uc] 49))) := Lib.hid (HMr.out.alloc _)
    have HC4 : Hid (CkI p B (wr.alloc (.cells #[.int .i64 id, .int .i64 kind, .slice L labels.length lc, .string nm, .string proc, .int .i64 x0, .int .i64 x1, .string x2, .slice X xn xc, .bool has, .slice R args.length rc, .slice T th.length tc, .slice U el.length uc] 49)) m n1) := Lib.hid (HCr.out.step (below_box _))
    have HI4 : Hid (In Q w (wr.alloc (.cells #[.int .i64 id, .int .i64 kind, .slice L labels.length lc, .string nm, .string proc, .int .i64 x0, .int .i64 x1, .string x2, .slice X xn xc, .bool has, .slice R args.length rc, .slice T th.length tc, .slice U el.length uc] 49))) := Lib.hid (HIr.out.alloc _)
    have HBp4 : Hid (Blk (wr.alloc (.cells #[.int .i64 id, .int .i64 kind, .slice L labels.length lc, .string nm, .string proc, .int .i64 x0, .int .i64 x1, .string x2, .slice X xn xc, .bool has, .slice R args.length rc, .slice T th.length tc, .slice U el.length uc] 49)) b 89 #[.slice Ag p.globals.length cg, .slice Ap p.procs.length cp, .map (some m)]) := Lib.hid (HBpr.out.alloc _)
    have HB4 : Hid (B ≤ (wr.alloc (.cells #[.int .i64 id, .int .i64 kind, .slice L labels.length lc, .string nm, .string proc, .int .i64 x0, .int .i64 x1, .string x2, .slice X xn xc, .bool has, .slice R args.length rc, .slice T th.length tc, .slice U el.length uc] 49)).heap.size) := Lib.hid (Nat.le_trans HBr.out (below_box (W := wr) _).size)
    have hmr := HCr.out.lt
    clear p0 p1 p2 p3 p4 p5 p6 p7 p8 p9 p10 p11 p12 HIr HBr HBpr HCr HMr
    generalize World.alloc wr _ = V4 at HBx HM4 HC4 HI4 HBp4 HB4 ⊢
    generalize hbx : wr.heap.size = bx at HBx hmr ⊢
    have hmx : bx ≠ m := by omega
    clear hbx hmr
    have y0 : V4.cell? ⟨bx, 0, none⟩ = some (.int .i64 id) := by rw [HBx.out.cell]; rfl
    have y1 : V4.cell? ⟨bx, 1, none⟩ = some (.int .i64 kind) := by rw [HBx.out.cell]; rfl
    have y2 : V4.cell? ⟨bx, 2, none⟩ = some (.slice L labels.length lc) := by rw [HBx.out.cell]; rfl
    have y3 : V4.cell? ⟨bx, 3, none⟩ = some (.string nm) := by rw [HBx.out.cell]; rfl
    have y4 : V4.cell? ⟨bx, 4, none⟩ = some (.string proc) := by rw [HBx.out.cell]; rfl
    have y5 : V4.cell? ⟨bx, 5, none⟩ = some (.int .i64 x0) := by rw [HBx.out.cell]; rfl
    have y6 : V4.cell? ⟨bx, 6, none⟩ = some (.int .i64 x1) := by rw [HBx.out.cell]; rfl
    have y7 : V4.cell? ⟨bx, 7, none⟩ = some (.string x2) := by rw [HBx.out.cell]; rfl
    have y8 : V4.cell? ⟨bx, 8, none⟩ = some (.slice X xn xc) := by rw [HBx.out.cell]; rfl
    have y9 : V4.cell? ⟨bx, 9, none⟩ = some (.bool has) := by rw [HBx.out.cell]; rfl
    have y10 : V4.cell? ⟨bx, 10, none⟩ = some (.slice R args.length rc) := by rw [HBx.out.cell]; rfl
    have y11 : V4.cell? ⟨bx, 11, none⟩ = some (.slice T th.length tc) := by rw [HBx.out.cell]; rfl
    have y12 : V4.cell? ⟨bx, 12, none⟩ = some (.slice U el.length uc) := by rw [HBx.out.cell]; rfl
    have q0 : V4.cell? ⟨b, 0, none⟩ = some (.slice Ag p.globals.length cg) := by rw [HBp4.out.cell]; rfl
    have q1 : V4.cell? ⟨b, 1, none⟩ = some (.slice Ap p.procs.length cp) := by rw [HBp4.out.cell]; rfl
    have q2 : V4.cell? ⟨b, 2, none⟩ = some (.map (some m)) := by rw [HBp4.out.cell]; rfl
    go_cut [23] from 15 to 22 (fun s wx => s = .bool d ∧ Hid (CkI p B wx m (n1 + 1)) ∧ Hid (Moves (fun j => j = m) V4 wx))
    case first =>
     by_cases hk4 : kind = 4
     ·subst hk4
      have HB2 : Hid (d = !r) := Lib.hid HB.out
      clear HB
      go_wp2_with (go_at_call 71; refine (HR.out V4 HC4.out HB4.out HI4.out).mono ?_; rintro e w5 ⟨rfl, hc5, hm5⟩)
      go_meet
      exact ⟨by rw [HB2.out], Lib.hid hc5, Lib.hid hm5⟩
     ·have hk5 : (kind == 4) = false := beq_eq_false_iff_ne.2 hk4
      have HB2 : Hid (d = false) := Lib.hid (by rw [HB.out, hk5]; rfl)
      clear hk4 HB
      go_wp2_with fail
      go_meet
      exact ⟨by rw [HB2.out], Lib.hid (HC4.out.mono (by omega)), Lib.hid (Moves.refl _ _)⟩
    case rest =>
     obtain ⟨rfl, HC5, HMc⟩ := hcut
     have HBx5 := Lib.hid (HMc.out.blk HBx.out hmx)
     have HBp5 := Lib.hid (HMc.out.blk HBp4.out hmb)
     have HM5 : Hid (Moves (fun j => j = m) V wc) := Lib.hid (HM4.out.trans HMc.out (fun j hj => .inr hj))
     have HI5 := Lib.hid (HI4.out.moves HMc.out (fun j hj hq => HQ.out (hj ▸ hq)))
     have HB5 : Hid (B ≤ wc.heap.size) := Lib.hid (Nat.le_trans HB4.out HMc.out.size)
     clear y0 y1 y2 y3 y4 y5 y6 y7 y8 y9 y10 y11 y12 q0 q1 q2 HMc HM4 HC4 HI4 HBx HBp4 HB4 HR HB
     cases d with
     | true =>
      have HAn : Hid (fstB (alB p) (preSL l) = id) := Lib.hid (by rw [HAk.out]; rfl)
      clear HAk
      have y0 : wc.cell? ⟨bx, 0, none⟩ = some (.int .i64 id) := by rw [HBx5.out.cell]; rfl
      go_wp2_with fail
      go_ret
      exact ⟨ret_int HAn.out.symm, HC5.out.mono (by have := HNl.out; omega), HMV.out.trans HM5.out (fun j hj => .inr hj)⟩
     | false =>
      have y11 : wc.cell? ⟨bx, 11, none⟩ = some (.slice T th.length tc) := by rw [HBx5.out.cell]; rfl
      have q0 : wc.cell? ⟨b, 0, none⟩ = some (.slice Ag p.globals.length cg) := by rw [HBp5.out.cell]; rfl
      have q1 : wc.cell? ⟨b, 1, none⟩ = some (.slice Ap p.procs.length cp) := by rw [HBp5.out.cell]; rfl
      have q2 : wc.cell? ⟨b, 2, none⟩ = some (.map (some m)) := by rw [HBp5.out.cell]; rfl
      go_upto_region 7 with (go_at_call 61; refine (HT.out wc HI5.out HC5.out HB5.out).mono ?_; rintro e w6 ⟨rfl, hc6, hm6⟩)
      have HC6 := Lib.hid hc6
      have HBx6 := Lib.hid (hm6.blk HBx5.out hmx)
      have HBp6 := Lib.hid (hm6.blk HBp5.out hmb)
      have HM6 : Hid (Moves (fun j => j = m) V w6) := Lib.hid (HM5.out.trans hm6 (fun j hj => .inr hj))
      have HI6 := Lib.hid (HI5.out.moves hm6 (fun j hj hq => HQ.out (hj ▸ hq)))
      have HB6 : Hid (B ≤ w6.heap.size) := Lib.hid (Nat.le_trans HB5.out hm6.size)
      clear y11 q0 q1 q2 hc6 hm6 HC5 HBx5 HBp5 HM5 HI5 HB5 HT
      by_cases h1 : r1 = 0
      ·subst h1
       have HAn : Hid (fstB (alB p) (preSL l) = if r2 = 0 then fstB (alB p) (preSL (l.drop (k + 1))) else r2) := Lib.hid (by rw [HAk.out]; rfl)
       clear HAk
       have y12 : w6.cell? ⟨bx, 12, none⟩ = some (.slice U el.length uc) := by rw [HBx6.out.cell]; rfl
       have q0 : w6.cell? ⟨b, 0, none⟩ = some (.slice Ag p.globals.length cg) := by rw [HBp6.out.cell]; rfl
       have q1 : w6.cell? ⟨b, 1, none⟩ = some (.slice Ap p.procs.length cp) := by rw [HBp6.out.cell]; rfl
       have q2 : w6.cell? ⟨b, 2, none⟩ = some (.map (some m)) := by rw [HBp6.out.cell]; rfl
       by_cases h2 : r2 = 0
       ·subst h2
        rw [if_pos rfl] at HAn
        go_wp2_with (go_at_call 61; refine (HE.out w6 HI6.out HC6.out HB6.out).mono ?_; rintro e w7 ⟨rfl, hc7, hm7⟩; have HC7 : Hid (CkI p B w7 m (n + (preSL (l.take (k + 1))).length)) := Lib.hid (by rw [HNe.out]; exact hc7); have HM7 : Hid (Moves (fun j => j = m) V w7) := Lib.hid (HM6.out.trans hm7 (fun j hj => .inr hj)); clear hc7 hm7)
        go_roundg (l.length - k - 1)
        case measure => omega
        case rel => exact ⟨k + 1, by omega, by go_num, HM7, HC7, Lib.hid HAn.out.symm⟩
       ·rw [if_neg h2] at HAn
        have h2' : (r2 == 0) = false := beq_eq_false_iff_ne.2 h2
        clear h2
        go_wp2_with (go_at_call 61; refine (HE.out w6 HI6.out HC6.out HB6.out).mono ?_; rintro e w7 ⟨rfl, hc7, hm7⟩; have HC7 := Lib.hid hc7; have HM7 : Hid (Moves (fun j => j = m) V w7) := Lib.hid (HM6.out.trans hm7 (fun j hj => .inr hj)); clear hc7 hm7)
        go_ret
        exact ⟨ret_int HAn.out.symm, HC7.out.mono (by have := HNl.out; omega), HMV.out.trans HM7.out (fun j hj => .inr hj)⟩
      ·have HAn : Hid (fstB (alB p) (preSL l) = r1) := Lib.hid (by rw [HAk.out, if_neg h1]; rfl)
       have h1' : (r1 == 0) = false := beq_eq_false_iff_ne.2 h1
       clear HAk h1
       go_wp2_with fail
       go_ret
       exact ⟨ret_int HAn.out.symm, HC6.out.mono (by have := HNl.out; omega), HMV.out.trans HM6.out (fun j hj => .inr hj)⟩
   ·have HAn : Hid (fstB (alB p) (preSL l) = 0) := Lib.hid (by rw [← HA.out, List.drop_of_length_le (by omega)]; rfl)
    have hkl : k = l.length := by omega
    clear hlt
    go_wp2_with fail
    go_ret
    exact ⟨ret_int HAn.out.symm, (by have h := HCr.out; rw [hkl, List.take_length] at h; exact h), HMV.out.trans HMr.out (fun j hj => .inr hj)⟩
end Go.Proofs.YtimejkbmfbjomaaGreat
