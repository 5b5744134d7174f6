/- Texts, merged by a program; only what is used. -/
import Derived.ArgAppend
import Derived.Test.YtimejkbmfbjomaaGreatKX1
import Derived.Test.YtimejkbmfbjomaaGreatKX2
import Derived.Test.YtimejkbmfbjomaaGreatKX3
import Derived.Test.YtimejkbmfbjomaaGreatKX4
import Derived.Test.YtimejkbmfbjomaaGreatKX5
import Derived.Test.YtimejkbmfbjomaaGreatKX6
import Derived.Test.YtimejkbmfbjomaaGreatKX7
import Derived.Test.YtimejkbmfbjomaaGreatKX8
import Derived.Test.YtimejkbmfbjomaaGreatKX9
import Derived.Test.YtimejkbmfbjomaaGreatKX10
import Derived.Test.YtimejkbmfbjomaaGreatKX11
import Derived.Test.YtimejkbmfbjomaaGreatKX12
import Derived.Test.YtimejkbmfbjomaaGreatKX13
import Derived.Test.YtimejkbmfbjomaaGreatKX14
import Derived.Test.YtimejkbmfbjomaaGreatKX15
import Derived.Test.YtimejkbmfbjomaaGreatKX16
import Derived.Test.YtimejkbmfbjomaaGreatKX17
import Derived.Test.YtimejkbmfbjomaaGreatKX18
namespace Go.Proofs.YtimejkbmfbjomaaGreat
open Go.ChangeShapes Go.WideShapes Go.ChangeAt Go.RowKit Go.Deep
set_option linter.unusedVariables false
set_option linter.unusedSimpArgs false
theorem saidOf_le {a b : List S} (h : a <+: b) : (saidOf a).length ≤ (saidOf b).length := by
 obtain ⟨c, rfl⟩ := h
 rw [saidOf_app, List.length_append]
 omega
theorem preSL_take_pre (l : List S) (k : Nat) : preSL (l.take k) <+: preSL l := by
 conv => rhs; rw [← List.take_append_drop k l, preSL_app]
 exact List.prefix_append ..
abbrev VaI (W0 W : World) (c b : Nat) (pre : List S) : Prop := NaI W0 W c b (saidOf pre)
theorem varsDo2_any {w W0 W : World} {Q : Nat → Prop} {s : S} {cs : List Value} {c b : Nat} {pre : List S} (hs : StmtI w Q s cs) (hI : In Q w W0) (h : VaI W0 W c b pre) (hb : W0.heap.size ≤ b) (hcb : c ≠ b) (hn : (saidOf (pre ++ [s])).length ≤ 1000000000) :
 Calls Tryz.prog 92 #[.agg cs.toArray, .pointer (some ⟨c, 0, none⟩)] W fun e W' => e = .returned (.tuple #[]) ∧ VaI W0 W' c b (pre ++ [s]) ∧ Moves (fun k => k = b) W W' := by
 have e : saidOf (pre ++ [s]) = saidOf pre ++ saidS s := by rw [saidOf_app]; simp [saidOf]
 have h2 := varsDo_any hs hI h hb hcb (by rw [e, List.length_append] at hn; exact hn)
 show Calls Tryz.prog _ _ W fun r W' => r = .returned (.tuple #[]) ∧ NaI W0 W' c b (saidOf (pre ++ [s])) ∧ Moves (fun k => k = b) W W'
 rw [e]
 exact h2
set_option maxHeartbeats 4000000 in
set_option maxRecDepth 100000 in
theorem eachV_any {w W0 : World} {Q : Nat → Prop} {c b : Nat} (hI : In Q w W0) (hb : W0.heap.size ≤ b) (hcb : c ≠ b) : ∀ (M : Nat) (blk : List S), (preSL blk).length < M → ∀ (v : Value) (pre : List S) (W : World), StmtsI w Q blk v → VaI W0 W c b pre → (saidOf (pre ++ preSL blk)).length ≤ 1000000000 →
 Calls Tryz.prog 84 #[v, .func (.func 92) #[] #[.pointer (some ⟨c, 0, none⟩)]] W fun e W' => e = .returned (.tuple #[]) ∧ VaI W0 W' c b (pre ++ preSL blk) ∧ Moves (fun k => k = b) W W' := by
 intro M
 induction M with
 | zero => intro blk h; omega
 | succ M ih =>
  intro blk hM v pre W hbl hca hN
  obtain ⟨A, cap, rfl, hlc, hcc⟩ := hbl.shape
  have HBl := Lib.hid hbl
  have HI := Lib.hid hI
  have HCa := Lib.hid hca
  have HN := Lib.hid hN
  have HIh := Lib.hid ih
  have HML := Lib.hid hM
  have HB := Lib.hid hb
  have HCB := Lib.hid hcb
  clear hbl hI hca hN ih hM hb hcb
  go_enter Tryz.func84, Tryz.ntmps84
  go_wp2_with fail
  go_loopg [8] blk.length (fun kk i wr => ∃ k : Nat, k + kk = blk.length ∧ i = .int .i64 k ∧ Hid (VaI W0 wr c b (pre ++ preSL (blk.take k))) ∧ Hid (Moves (fun j => j = b) W wr))
  case atStart => exact ⟨0, by omega, rfl, Lib.hid (by simpa [preSL] using HCa.out), Lib.hid (Moves.refl _ _)⟩
  case round =>
   obtain ⟨k, hk, rfl, HC, HMv⟩ := hrel
   by_cases hlt : k < blk.length
   ·have HIr := Lib.hid (HI.out.on HC.out.below)
    obtain ⟨a, id, kind, labels, nm, proc, x, has, args, th, el, L, lc, x0, x1, x2, X, xn, xc, R, rc, T, tc, U, uc, rfl, hqa, hmk, ⟨p0, p1, p2, p3, p4, p5, p6, p7, p8, p9, p10, p11, p12, _⟩, hid, hkind, hnm, hproc, hlab, hx, har, hth, hel, hst⟩ := stmt_at HBl.out HIr.out hlt
    have HPt : Hid (preSL (blk.take (k + 1)) = preSL (blk.take k) ++ (blk[k] :: (preSL th ++ preSL el))) := Lib.hid (by rw [preSL_take hlt, hmk, preS])
    have hle := preSL_take_le blk (k + 1)
    rw [HPt.out, List.length_append, List.length_cons, List.length_append] at hle
    have HLe : Hid ((preSL th).length < M ∧ (preSL el).length < M ∧ (saidOf (pre ++ preSL (blk.take k) ++ [blk[k]])).length ≤ 1000000000 ∧ (saidOf (pre ++ preSL (blk.take k) ++ [blk[k]] ++ preSL th)).length ≤ 1000000000 ∧ (saidOf (pre ++ preSL (blk.take k) ++ [blk[k]] ++ preSL th ++ preSL el)).length ≤ 1000000000) := Lib.hid (by
     have h2 := HML.out
     have h0 : pre ++ preSL (blk.take k) ++ [blk[k]] ++ preSL th ++ preSL el <+: pre ++ preSL blk := by
      have e : pre ++ preSL (blk.take k) ++ [blk[k]] ++ preSL th ++ preSL el = pre ++ preSL (blk.take (k + 1)) := by rw [HPt.out]; simp only [List.append_assoc, List.cons_append, List.nil_append]
      rw [e]
      exact (List.prefix_append_right_inj pre).2 (preSL_take_pre blk (k + 1))
     have h1 := Nat.le_trans (saidOf_le h0) HN.out
     refine ⟨by omega, by omega, Nat.le_trans (saidOf_le ?_) h1, Nat.le_trans (saidOf_le ?_) h1, h1⟩
     ·rw [List.append_assoc, List.append_assoc]; exact List.prefix_append ..
     ·exact List.prefix_append ..)
    have HTh := Lib.hid hth
    have HEl := Lib.hid hel
    have HSt := Lib.hid hst
    generalize preSL (blk.take k) = pk at HC HPt HLe
    generalize blk[k] = s at HPt HLe HSt
    clear hle hmk hid hkind hnm hproc hlab hx har hth hel hst hqa
    go_upto_region 3 with fail
    have HBi : Hid (Blk (wr.alloc (.cells #[.int .i64 id, .int .i64 kind, .slice L labels.length lc, .string nm, .string proc, .int .i64 x0, .int .i64 x1, .string x2, .slice X xn xc, .bool has, .slice R args.length rc, .slice T th.length tc, .slice U el.length uc] 49)) wr.heap.size 49 #[.int .i64 id, .int .i64 kind, .slice L labels.length lc, .string nm, .string proc, .int .i64 x0, .int .i64 x1, .string x2, .slice X xn xc, .bool has, .slice R args.length rc, .slice T th.length tc, .slice U el.length uc]) := Lib.hid (Blk.new _ _ _)
    have HC3 : Hid (VaI W0 (wr.alloc (.cells #[.int .i64 id, .int .i64 kind, .slice L labels.length lc, .string nm, .string proc, .int .i64 x0, .int .i64 x1, .string x2, .slice X xn xc, .bool has, .slice R args.length rc, .slice T th.length tc, .slice U el.length uc] 49)) c b (pre ++ pk)) := Lib.hid (HC.out.on (below_box _))
    have HM3 : Hid (Moves (fun j => j = b) W (wr.alloc (.cells #[.int .i64 id, .int .i64 kind, .slice L labels.length lc, .string nm, .string proc, .int .i64 x0, .int .i64 x1, .string x2, .slice X xn xc, .bool has, .slice R args.length rc, .slice T th.length tc, .slice U el.length uc] 49))) := Lib.hid (HMv.out.alloc _)
    have HNb : Hid (¬ wr.heap.size = b) := Lib.hid (fun e => by have := HC.out.set.lt; omega)
    clear p0 p1 p2 p3 p4 p5 p6 p7 p8 p9 p10 p11 p12 HC HMv HIr
    generalize World.alloc wr _ = V at HBi HC3 HM3 ⊢
    generalize wr.heap.size = bi at HBi HNb ⊢
    have s0 : V.cell? ⟨bi, 0, none⟩ = some (.int .i64 id) := by rw [HBi.out.cell]; rfl
    have s1 : V.cell? ⟨bi, 1, none⟩ = some (.int .i64 kind) := by rw [HBi.out.cell]; rfl
    have s2 : V.cell? ⟨bi, 2, none⟩ = some (.slice L labels.length lc) := by rw [HBi.out.cell]; rfl
    have s3 : V.cell? ⟨bi, 3, none⟩ = some (.string nm) := by rw [HBi.out.cell]; rfl
    have s4 : V.cell? ⟨bi, 4, none⟩ = some (.string proc) := by rw [HBi.out.cell]; rfl
    have s5 : V.cell? ⟨bi, 5, none⟩ = some (.int .i64 x0) := by rw [HBi.out.cell]; rfl
    have s6 : V.cell? ⟨bi, 6, none⟩ = some (.int .i64 x1) := by rw [HBi.out.cell]; rfl
    have s7 : V.cell? ⟨bi, 7, none⟩ = some (.string x2) := by rw [HBi.out.cell]; rfl
    have s8 : V.cell? ⟨bi, 8, none⟩ = some (.slice X xn xc) := by rw [HBi.out.cell]; rfl
    have s9 : V.cell? ⟨bi, 9, none⟩ = some (.bool has) := by rw [HBi.out.cell]; rfl
    have s10 : V.cell? ⟨bi, 10, none⟩ = some (.slice R args.length rc) := by rw [HBi.out.cell]; rfl
    have s11 : V.cell? ⟨bi, 11, none⟩ = some (.slice T th.length tc) := by rw [HBi.out.cell]; rfl
    have s12 : V.cell? ⟨bi, 12, none⟩ = some (.slice U el.length uc) := by rw [HBi.out.cell]; rfl
    have HDo := Lib.hid (varsDo2_any HSt.out HI.out HC3.out HB.out HCB.out HLe.out.2.2.1)
    simp only [List.toArray] at HDo
    go_upto_region 4 with (go_at_call 92; refine HDo.out.mono ?_; rintro e W1 ⟨rfl, hc1, hm1⟩)
    have HC4 := Lib.hid hc1
    have HM4 := Lib.hid (HM3.out.trans hm1 (fun j hj => .inr hj))
    have HBi1 := Lib.hid (hm1.blk HBi.out HNb.out)
    clear hc1 hm1 s0 s1 s2 s3 s4 s5 s6 s7 s8 s9 s10 s11 s12 HC3 HM3 HBi HDo
    have s11 : W1.cell? ⟨bi, 11, none⟩ = some (.slice T th.length tc) := by rw [HBi1.out.cell]; rfl
    go_upto_region 5 with (go_at_call 84; refine (HIh.out th HLe.out.1 _ _ W1 HTh.out HC4.out HLe.out.2.2.2.1).mono ?_; rintro e W2 ⟨rfl, hc2, hm2⟩)
    have HC5 := Lib.hid hc2
    have HM5 := Lib.hid (HM4.out.trans hm2 (fun j hj => .inr hj))
    have HBi2 := Lib.hid (hm2.blk HBi1.out HNb.out)
    clear hc2 hm2 s11 HC4 HM4 HBi1
    have s12 : W2.cell? ⟨bi, 12, none⟩ = some (.slice U el.length uc) := by rw [HBi2.out.cell]; rfl
    go_wp2_with (go_at_call 84; refine (HIh.out el HLe.out.2.1 _ _ W2 HEl.out HC5.out HLe.out.2.2.2.2).mono ?_; rintro e W3 ⟨rfl, hc3, hm3⟩; have HC6 := Lib.hid hc3; have HM6 := Lib.hid (HM5.out.trans hm3 (fun j hj => .inr hj)); clear hc3 hm3)
    go_roundg (blk.length - k - 1)
    case measure => omega
    case rel => exact ⟨k + 1, by omega, by go_num, Lib.hid (by rw [HPt.out]; have h := HC6.out; simp only [List.append_assoc, List.cons_append, List.nil_append] at h ⊢; exact h), HM6⟩
   ·obtain rfl : k = blk.length := by omega
    rw [List.take_length] at HC
    go_wp2_with fail
    go_end0
    exact ⟨rfl, HC.out, HMv.out⟩
set_option maxHeartbeats 2000000 in
set_option maxRecDepth 100000 in
theorem tvars_any {w W : World} {Q : Nat → Prop} {q : Pr} {c0 c1 c2 c3 c4 : Value} (h : ProcI w Q q [c0, c1, c2, c3, c4]) (hI : In Q w W) (hn : (saidOf (preSL q.body)).length ≤ 1000000000) :
 Calls Tryz.prog 49 #[.agg #[c0, c1, c2, c3, c4]] W fun e w' => ∃ b, e = .returned (.map (some b)) ∧ W.heap.size ≤ b ∧ SetI w' b (saidOf (preSL q.body)).length (setF (saidOf (preSL q.body))) ∧ Below W.heap.size W w' := by
 obtain ⟨vp, vv, vb, ve, hc, hqn, hpp, hvv, hbody, hee⟩ := h
 simp only [List.cons.injEq, and_true] at hc
 obtain ⟨rfl, rfl, rfl, rfl, rfl⟩ := hc
 obtain ⟨Bp, kp, rfl, _, _⟩ := hpp.shape
 obtain ⟨Bv, kv, rfl, _, _⟩ := hvv.shape
 obtain ⟨Bb, kb, rfl, _⟩ := hbody.shape
 obtain ⟨Be, ke, rfl, _⟩ := hee.shape
 have HBd := Lib.hid hbody
 have HI := Lib.hid hI
 have HN := Lib.hid hn
 clear hpp hvv hee hbody hI hqn hn
 go_enter Tryz.func49, Tryz.ntmps49
 have hmm := @run_makeMap Tryz.prog
 go_upto_region 2 with fail
 clear hmm
 have HBp : Hid (Blk (((W.alloc (.cells #[.string q.nm, .slice Bp q.params.length kp, .slice Bv q.vars.length kv, .slice Bb q.body.length kb, .slice Be q.end_.length ke] 39)).alloc (.map #[] 0)).alloc (.cells #[.map (some (W.heap.size + 1))] 73)) W.heap.size 39 #[.string q.nm, .slice Bp q.params.length kp, .slice Bv q.vars.length kv, .slice Bb q.body.length kb, .slice Be q.end_.length ke]) := Lib.hid (((Blk.new _ _ _).alloc _).alloc _)
 have HS0 : Hid (SetI (((W.alloc (.cells #[.string q.nm, .slice Bp q.params.length kp, .slice Bv q.vars.length kv, .slice Bb q.body.length kb, .slice Be q.end_.length ke] 39)).alloc (.map #[] 0)).alloc (.cells #[.map (some (W.heap.size + 1))] 73)) (W.heap.size + 1) 0 (setF [])) := Lib.hid (by have h := (SetI.made (W.alloc (.cells #[.string q.nm, .slice Bp q.params.length kp, .slice Bv q.vars.length kv, .slice Bb q.body.length kb, .slice Be q.end_.length ke] 39))).alloc (.cells #[.map (some (W.heap.size + 1))] 73); rw [World.size_alloc] at h; exact h)
 have HBc : Hid (Blk (((W.alloc (.cells #[.string q.nm, .slice Bp q.params.length kp, .slice Bv q.vars.length kv, .slice Bb q.body.length kb, .slice Be q.end_.length ke] 39)).alloc (.map #[] 0)).alloc (.cells #[.map (some (W.heap.size + 1))] 73)) (W.heap.size + 1 + 1) 73 #[.map (some (W.heap.size + 1))]) := Lib.hid (by have h := Blk.new ((W.alloc (.cells #[.string q.nm, .slice Bp q.params.length kp, .slice Bv q.vars.length kv, .slice Bb q.body.length kb, .slice Be q.end_.length ke] 39)).alloc (.map #[] 0)) 73 #[.map (some (W.heap.size + 1))]; rw [World.size_alloc, World.size_alloc] at h; exact h)
 have HB0 : Hid (Below W.heap.size W (((W.alloc (.cells #[.string q.nm, .slice Bp q.params.length kp, .slice Bv q.vars.length kv, .slice Bb q.body.length kb, .slice Be q.end_.length ke] 39)).alloc (.map #[] 0)).alloc (.cells #[.map (some (W.heap.size + 1))] 73))) := Lib.hid (below_stepA (below_stepA (below_box _) _) _)
 generalize World.alloc _ _ = V at HBp HS0 HBc HB0 ⊢
 have q3 : V.cell? ⟨W.heap.size, 3, none⟩ = some (.slice Bb q.body.length kb) := by rw [HBp.out.cell]; rfl
 have HCa : Hid (VaI W V (W.heap.size + 1 + 1) (W.heap.size + 1) []) := Lib.hid ⟨HB0.out, HS0.out, HBc.out⟩
 have hb1 : W.heap.size ≤ W.heap.size + 1 := by omega
 have hb2 : W.heap.size + 1 + 1 ≠ W.heap.size + 1 := by omega
 have HEa := Lib.hid (eachV_any HI.out hb1 hb2 ((preSL q.body).length + 1) q.body (by omega) _ [] V HBd.out HCa.out (by have := HN.out; simpa using this))
 clear HBp HS0 HBc HB0 HCa hb2
 go_upto_region 3 with (go_at_call 84; refine HEa.out.mono ?_; rintro e W1 ⟨rfl, hc1, hm1⟩)
 have HC := Lib.hid hc1
 clear hc1 hm1 q3 HEa
 have p0 : W1.cell? ⟨W.heap.size + 1 + 1, 0, none⟩ = some (.map (some (W.heap.size + 1))) := by rw [HC.out.ptr.cell]; rfl
 go_wp2_with fail
 go_ret
 exact ⟨W.heap.size + 1, rfl, hb1, HC.out.set, HC.out.below⟩
end Go.Proofs.YtimejkbmfbjomaaGreat
namespace Go.Proofs.YtimejkbmfbjomaaGreat
open Go.ChangeShapes Go.WideShapes Go.ChangeAt Go.RowKit Go.Deep
set_option linter.unusedVariables false
set_option linter.unusedSimpArgs false
theorem setF_mem {l : List ByteArray} {s : ByteArray} : setF l s = true ↔ s ∈ l := by simp [setF, isT]
def OrdRow (R : List ByteArray → Prop) (W : World) (e : Ending) (w' : World) : Prop := ∃ l v, e = .returned v ∧ w'.ownsRow W.heap.size 9 1 v l.length (strs l) ∧ Below W.heap.size W w' ∧ R l
end Go.Proofs.YtimejkbmfbjomaaGreat
namespace Go.Proofs.YtimejkbmfbjomaaGreat
open Go.ChangeShapes Go.WideShapes Go.ChangeAt Go.RowKit Go.Deep
set_option linter.unusedVariables false
set_option linter.unusedSimpArgs false
structure AhI (w : World) (Q : Nat → Prop) (B : Nat) (W : World) (v : Value) (l : List Pr) : Prop where
 ex : ∃ (g o cap : Nat) (rows : List (List Value)), v = .slice (some ⟨g, o, none⟩) l.length cap ∧ l.length ≤ cap ∧ cap ≤ 9223372036854775807 ∧ B ≤ g ∧ (∃ t cs, Blk W g t cs) ∧ All2 (ProcI w Q) l rows ∧ (∀ j u, rows.flatten[j]? = some u → W.cell? ⟨g, o + j, none⟩ = some u) ∧ (∀ j, j < cap * 5 → (W.cell? ⟨g, o + j, none⟩).isSome = true)
section
variable {w W W' : World} {Q : Nat → Prop} {B b n : Nat} {f : ByteArray → Bool} {v : Value} {l r : List Pr} {q : Pr}
theorem AhI.keep (h : AhI w Q B W v l) (hb : ∀ g, B ≤ g → (∃ t cs, Blk W g t cs) → W'.heap[g]? = W.heap[g]?) : AhI w Q B W' v l := by
 obtain ⟨g, o, cap, rows, h1, h2, h3, h4, h5, h6, h7, h8⟩ := h.ex
 have hg := hb g h4 h5
 have hc : ∀ j, W'.cell? ⟨g, j, none⟩ = W.cell? ⟨g, j, none⟩ := fun j => World.cell?_of_block (a := ⟨g, j, none⟩) hg
 obtain ⟨t, cs, h5⟩ := h5
 exact ⟨g, o, cap, rows, h1, h2, h3, h4, ⟨t, cs, hg.trans h5⟩, h6, fun j u hu => (hc _).trans (h7 j u hu), fun j hj => by rw [hc]; exact h8 j hj⟩
theorem AhI.below (h : AhI w Q B W v l) (hb : Below W.heap.size W W') : AhI w Q B W' v l := h.keep (fun g _ ⟨t, cs, h⟩ => hb.block g h.lt)
theorem blk_not_map {g : Nat} {t : TypeId} {cs : Array Value} (hB : Blk W g t cs) (hS : SetI W b n f) : g ≠ b := by
 rintro rfl
 obtain ⟨D, ⟨es, clock, h1, _⟩, _⟩ := hS
 have h2 : W.heap[g]? = some (.cells cs t (0, 0)) := hB
 rw [h1] at h2
 cases h2
theorem AhI.moves (h : AhI w Q B W v l) (hS : SetI W b n f) (hm : Moves (fun j => j = b) W W') : AhI w Q B W' v l := h.keep (fun g _ ⟨t, cs, hB⟩ => hm.block g hB.lt (fun e => blk_not_map hB hS e))
theorem proc_len {cs : List Value} (h : ProcI w Q q cs) : cs.length = 5 := by
 obtain ⟨vp, vv, vb, ve, rfl, _⟩ := h
 rfl
theorem procs_len : ∀ {l : List Pr} {rows : List (List Value)}, All2 (ProcI w Q) l rows → rows.flatten.length = l.length * 5
 | [], [], _ => rfl
 | x :: l, c :: rows, h => by
  rw [List.flatten_cons, List.length_append, proc_len h.1, procs_len h.2, List.length_cons]
  omega
theorem AhI.head (h : AhI w Q B W v (q :: r)) : ∃ (g o cap : Nat) (Bp : Option Addr) (kp : Nat) (Bv : Option Addr) (kv : Nat) (Bb : Option Addr) (kb : Nat) (Be : Option Addr) (ke : Nat), v = .slice (some ⟨g, o, none⟩) (r.length + 1) cap ∧ r.length + 1 ≤ cap ∧ cap ≤ 9223372036854775807 ∧ RowAt W ⟨g, o, none⟩ (.string q.nm) [.slice Bp q.params.length kp, .slice Bv q.vars.length kv, .slice Bb q.body.length kb, .slice Be q.end_.length ke] ∧ ProcI w Q q [.string q.nm, .slice Bp q.params.length kp, .slice Bv q.vars.length kv, .slice Bb q.body.length kb, .slice Be q.end_.length ke] ∧
  AhI w Q B W (.slice (some ⟨g, o, none⟩) (r.length + 1) cap) (q :: r) ∧ (cap = 1 → AhI w Q B W (.slice (some ⟨g, o, none⟩) r.length (cap - 1)) r) ∧ (cap ≠ 1 → AhI w Q B W (.slice (some ⟨g, o + 5, none⟩) r.length (cap - 1)) r) := by
 have h0 := h
 obtain ⟨g, o, cap, rows, h1, h2, h3, h4, h5, h6, h7, h8⟩ := h.ex
 cases rows with
 | nil => exact h6.elim
 | cons c rows =>
  obtain ⟨h9, h10⟩ := h6
  have h9' := h9
  obtain ⟨vp, vv, vb, ve, rfl, hn, hpp, hvv, hbb, hee⟩ := h9'
  obtain ⟨Bp, kp, rfl, _⟩ := hpp.shape
  obtain ⟨Bv, kv, rfl, _⟩ := hvv.shape
  obtain ⟨Bb, kb, rfl, _⟩ := hbb.shape
  obtain ⟨Be, ke, rfl, _⟩ := hee.shape
  rw [List.length_cons] at h1 h2
  have hr := procs_len h10
  refine ⟨g, o, cap, Bp, kp, Bv, kv, Bb, kb, Be, ke, h1, h2, h3, ?_, h9, h1 ▸ h0, ?_, ?_⟩
  ·refine rowAt_of (fun j u hu => ?_)
   have := h7 j u (by rw [List.flatten_cons, List.getElem?_append_left (by have := (List.getElem?_eq_some_iff.1 hu).1; simpa using this)]; exact hu)
   rw [Addr.add_lit]
   exact this
  ·intro hc
   have hr0 : r.length = 0 := by omega
   obtain rfl : r = [] := List.eq_nil_of_length_eq_zero hr0
   have hrw : rows = [] := by cases rows with | nil => rfl | cons c rows => exact h10.elim
   subst hrw
   exact ⟨g, o, cap - 1, [], rfl, by simp, by omega, h4, h5, h10, fun j u hu => by simp at hu, fun j hj => by omega⟩
  ·intro hc
   refine ⟨g, o + 5, cap - 1, rows, rfl, by omega, by omega, h4, h5, h10, fun j u hu => ?_, fun j hj => ?_⟩
   ·have := h7 (5 + j) u (by rw [List.flatten_cons, List.getElem?_append_right (by simp)]; simpa using hu)
    rw [← Nat.add_assoc] at this
    exact this
   ·have := h8 (5 + j) (by omega)
    rw [← Nat.add_assoc] at this
    exact this
theorem AhI.one {g : Nat} {cs : Array Value} (hB : Blk W g 39 cs) (hg : B ≤ g) (hp : ProcI w Q q cs.toList) : AhI w Q B W (.slice (some ⟨g, 0, none⟩) 1 1) [q] := by
 have hl := proc_len hp
 refine ⟨g, 0, 1, [cs.toList], rfl, by simp, by omega, hg, ⟨_, _, hB⟩, ⟨hp, trivial⟩, fun j u hu => ?_, fun j hj => ?_⟩
 ·rw [Nat.zero_add, hB.cell]
  simpa using hu
 ·rw [Nat.zero_add, hB.cell]
  have : j < cs.size := by rw [← Array.length_toList]; omega
  simp [this]
end
end Go.Proofs.YtimejkbmfbjomaaGreat
namespace Go.Proofs.YtimejkbmfbjomaaGreat
open Go.ChangeShapes Go.WideShapes Go.ChangeAt Go.RowKit Go.Deep
set_option linter.unusedVariables false
set_option linter.unusedSimpArgs false
/-- below B all is as it was, and so are all sets -/
structure Mv (B : Nat) (W W' : World) : Prop where
 below : Below B W W'
 maps : ∀ b n f, SetI W b n f → SetI W' b n f
theorem heap_setCells {g k : Nat} (hk : k ≠ g) : ∀ (vs : List Value) (o : Nat) (W : World), (W.setCells g o vs).heap[k]? = W.heap[k]?
 | [], _, _ => rfl
 | v :: r, o, W => by rw [World.setCells, heap_setCells hk r (o + 1) _]; exact Below.heap_setCell _ _ _ _ hk
theorem blk_setCells {g : Nat} : ∀ (vs : List Value) (o : Nat) (W : World), (∃ t cs, Blk W g t cs) → ∃ t cs, Blk (W.setCells g o vs) g t cs
 | [], _, _, h => h
 | v :: r, o, W, ⟨t, cs, h⟩ => by rw [World.setCells]; exact blk_setCells r (o + 1) _ ⟨t, _, h.set_ o v⟩
theorem below_setCells {B g : Nat} (hg : B ≤ g) {A : World} : ∀ (vs : List Value) (o : Nat) (W : World), Below B A W → Below B A (W.setCells g o vs)
 | [], _, _, h => h
 | v :: r, o, W, h => by rw [World.setCells]; exact below_setCells hg r (o + 1) _ (below_setc (p := ⟨g, o, none⟩) h hg v)
theorem ah_grown {w W W' : World} {Q : Nat → Prop} {B : Nat} {v' : Value} {l : List Pr} {q : Pr} {rows : List (List Value)} {c : List Value} (hB : B ≤ W.heap.size) (hr : All2 (ProcI w Q) l rows) (hc : ProcI w Q q c) (h : W'.ownsRow W.heap.size 39 5 v' (l.length + 1) (rows.flatten ++ c)) : AhI w Q B W' v' (l ++ [q]) := by
 obtain ⟨h0, h⟩ := h
 have hfl := procs_len hr
 have hcl := proc_len hc
 rcases h with ⟨_, h1⟩ | ⟨g, cap, cur, rfl, hb, hg, hnc, hcm, hsz, htk⟩
 ·omega
 ·have hcm' : cap ≤ 9223372036854775807 := hcm
  have hcell : ∀ j, W'.cell? ⟨g, j, none⟩ = cur[j]? := fun j => cell_of_row W' g j cur _ (0, 0) hg
  refine ⟨g, 0, cap, rows ++ [c], by rw [List.length_append]; rfl, by simpa using hnc, hcm', by omega, ⟨_, _, hg⟩, All2.append hr ⟨hc, trivial⟩, fun j u hu => ?_, fun j hj => ?_⟩
  ·rw [Nat.zero_add, hcell, ← Array.getElem?_toList]
   have hj : j < (l.length + 1) * 5 := by
    have := (List.getElem?_eq_some_iff.1 hu).1
    simp only [List.flatten_append, List.length_append, List.flatten_cons, List.flatten_nil, List.append_nil] at this
    omega
   have h3 : (cur.toList.take ((l.length + 1) * 5))[j]? = some u := by
    rw [htk]
    simpa using hu
   rw [List.getElem?_take_of_lt hj] at h3
   exact h3
  ·rw [Nat.zero_add, hcell]
   have : j < cur.size := by omega
   simp [this]
theorem wpList_append_ah {ops : Array Oper} {rest : List Oper} {o : Oper} {a : Act} {QQ : Exit → Act → World → Prop} {w W : World} {Q : Nat → Prop} {B : Nat} {l : List Pr} {v : Value} {q : Pr} {g2 c2 : Nat} {cs : Array Value} (hgd : o.guard = none) (s x : Operand)
 (ho : o.op = .call { callee := .builtin .append, args := #[s, x], argTypes := #[23, 23] }) (hs : a.eval s = v) (h : AhI w Q B W v l) (hx : a.eval x = .slice (some ⟨g2, 0, none⟩) 1 c2) (h2 : Blk W g2 39 cs) (hq : ProcI w Q q cs.toList) (hl : l.length + 1 ≤ 1000000) (hB : B ≤ W.heap.size)
 (hk : ∀ v' w', AhI w Q B w' v' (l ++ [q]) → Mv B W w' → wpList Tryz.prog ops QQ rest (a.put o.dst v') w') : wpList Tryz.prog ops QQ (o :: rest) a W := by
 obtain ⟨i0, hi, hz0, hz1, hz2⟩ := info_parts proc_info
 obtain ⟨g, of, cap, rows, rfl, h3, h4, h5, h6, h7, h8, h9⟩ := h.ex
 have hfl := procs_len h7
 have hcl := proc_len hq
 obtain ⟨t6, cs6, hB6⟩ := h6
 have hone : ∀ u ∈ cs.toList, u.oneCell' = true := by
  obtain ⟨vp, vv, vb, ve, hc, _, hpp, hvv, hbb, hee⟩ := hq
  obtain ⟨_, _, rfl, _⟩ := hpp.shape
  obtain ⟨_, _, rfl, _⟩ := hvv.shape
  obtain ⟨_, _, rfl, _⟩ := hbb.shape
  obtain ⟨_, _, rfl, _⟩ := hee.shape
  rw [hc]
  intro u hu
  simp only [List.mem_cons, List.not_mem_nil, or_false] at hu
  rcases hu with rfl | rfl | rfl | rfl | rfl <;> rfl
 refine wpList_append_arg W hgd s x 23 ho 39 i0 _ 5 112 Tryz.underlying23 hi hz0 hz1 hz2 rfl (by decide) g of l.length cap rows.flatten hs hfl h8 ⟨g2, 0, none⟩ 1 c2 cs.toList hx (by omega) (fun j u hu => by rw [Addr.add_lit, Nat.zero_add, h2.cell]; simpa using hu) hone ?_ (by unfold maxLen; omega) (by omega) ?_ ?_
 ·intro hr j hj
  have := h9 (l.length * 5 + j) (by omega)
  rw [← Nat.add_assoc] at this
  exact ⟨this, hB6.frozen _⟩
 ·intro hr
  have hin : ∀ j, j < cs.toList.length → (W.cell? ⟨g, of + l.length * 5 + j, none⟩).isSome = true := fun j hj => by
   have := h9 (l.length * 5 + j) (by omega)
   rw [← Nat.add_assoc] at this
   exact this
  refine hk _ _ ⟨g, of, cap, rows ++ [cs.toList], by rw [List.length_append]; rfl, by simpa using hr, h4, h5, blk_setCells _ _ _ ⟨_, _, hB6⟩, All2.append h7 ⟨hq, trivial⟩, fun j u hu => ?_, fun j hj => ?_⟩ ⟨below_setCells h5 _ _ _ (Below.refl _ _), fun b n f hS => hS.same (heap_setCells (fun e => blk_not_map hB6 hS e.symm) _ _ _)⟩
  ·rw [List.flatten_append, List.flatten_cons, List.flatten_nil, List.append_nil] at hu
   by_cases hj : j < rows.flatten.length
   ·rw [List.getElem?_append_left hj] at hu
    rw [World.cell?_setCells_out g _ _ _ _ (fun _ _ => .inl (by show of + j < _; omega))]
    exact h8 j u hu
   ·rw [List.getElem?_append_right (by omega)] at hu
    have hj2 := (List.getElem?_eq_some_iff.1 hu).1
    have := World.cell?_setCells_in g cs.toList (of + l.length * 5) W hin (j - rows.flatten.length) hj2
    rw [show of + j = of + l.length * 5 + (j - rows.flatten.length) by omega, this]
    rw [List.getElem?_eq_getElem hj2] at hu
    exact hu
  ·by_cases hj2 : l.length * 5 ≤ j ∧ j < l.length * 5 + cs.toList.length
   ·have := World.cell?_setCells_in g cs.toList (of + l.length * 5) W hin (j - l.length * 5) (by omega)
    rw [show of + j = of + l.length * 5 + (j - l.length * 5) by omega, this]
    rfl
   ·rw [World.cell?_setCells_out g _ _ _ _ (fun _ _ => by show of + j < _ ∨ _ ≤ of + j; omega)]
    exact h9 j hj
 ·intro hr v' w' hown hg
  exact hk v' w' (ah_grown hB h7 hq hown) ⟨(Below.refl _ _).grown hg hB (fun j hj => by cases hj), fun b n f hS => hS.kept hg (by simp)⟩
end Go.Proofs.YtimejkbmfbjomaaGreat
namespace Go.Proofs.YtimejkbmfbjomaaGreat
open Go.ChangeShapes Go.WideShapes Go.ChangeAt Go.RowKit Go.Deep
set_option linter.unusedVariables false
set_option linter.unusedSimpArgs false
/-- a procedure and all that it calls, by others too -/
inductive RchP (procs : List Pr) (fr : Pr) : Pr → Prop
 | refl : RchP procs fr fr
 | step {q f : Pr} : RchP procs fr q → f ∈ procs → f.nm ∈ callsOf (preSL q.body) → RchP procs fr f
structure BfsI (procs : List Pr) (fr : Pr) (vis ah : List Pr) : Prop where
 sub : ∀ q ∈ vis ++ ah, q ∈ procs ∧ RchP procs fr q
 nd : ((vis ++ ah).map Pr.nm).Nodup
 frm : fr ∈ vis ++ ah
 cl : ∀ q ∈ vis, ∀ f ∈ procs, f.nm ∈ callsOf (preSL q.body) → f.nm ∈ (vis ++ ah).map Pr.nm
/-- within a round: the one at the front is off, procs up to k are looked at -/
structure BfsK (procs : List Pr) (fr : Pr) (vis : List Pr) (q : Pr) (ah : List Pr) (k : Nat) : Prop where
 sub : ∀ x ∈ vis ++ [q] ++ ah, x ∈ procs ∧ RchP procs fr x
 nd : ((vis ++ [q] ++ ah).map Pr.nm).Nodup
 frm : fr ∈ vis ++ [q] ++ ah
 cl : ∀ x ∈ vis, ∀ f ∈ procs, f.nm ∈ callsOf (preSL x.body) → f.nm ∈ (vis ++ [q] ++ ah).map Pr.nm
 clq : ∀ f ∈ procs.take k, f.nm ∈ callsOf (preSL q.body) → f.nm ∈ (vis ++ [q] ++ ah).map Pr.nm
theorem nodup_le : ∀ (a b : List ByteArray), a.Nodup → (∀ x ∈ a, x ∈ b) → a.length ≤ b.length
 | [], b, _, _ => Nat.zero_le _
 | x :: a, b, h, hs => by
  rw [List.nodup_cons] at h
  have h1 := nodup_le a (b.eraseP (fun y => decide (y = x))) h.2 (fun y hy => (List.mem_eraseP_of_neg (by simpa using fun e : y = x => h.1 (e ▸ hy))).2 (hs y (List.mem_cons_of_mem _ hy)))
  have h2 := List.length_eraseP_of_mem (p := fun y => decide (y = x)) (hs x (List.mem_cons_self ..)) (by simp)
  have h3 : 0 < b.length := List.length_pos_of_mem (hs x (List.mem_cons_self ..))
  rw [List.length_cons]; omega
theorem all_le {procs all : List Pr} (hn : (all.map Pr.nm).Nodup) (hs : ∀ q ∈ all, q ∈ procs) : all.length ≤ procs.length := by
 have := nodup_le (all.map Pr.nm) (procs.map Pr.nm) hn (fun x hx => by obtain ⟨q, hq, rfl⟩ := List.mem_map.1 hx; exact List.mem_map_of_mem (hs q hq))
 rwa [List.length_map, List.length_map] at this
theorem BfsI.start {procs : List Pr} {fr : Pr} (h : fr ∈ procs) : BfsI procs fr [] [fr] := ⟨fun q hq => by rw [List.nil_append, List.mem_singleton] at hq; subst hq; exact ⟨h, .refl⟩, by simp, by simp, fun q hq => by cases hq⟩
theorem BfsI.pop {procs : List Pr} {fr : Pr} {vis : List Pr} {q : Pr} {r : List Pr} (h : BfsI procs fr vis (q :: r)) : BfsK procs fr vis q r 0 := by
 have e : vis ++ [q] ++ r = vis ++ q :: r := by simp
 exact ⟨by rw [e]; exact h.sub, by rw [e]; exact h.nd, by rw [e]; exact h.frm, by rw [e]; exact h.cl, fun f hf => by simp at hf⟩
theorem BfsK.done {procs : List Pr} {fr : Pr} {vis : List Pr} {q : Pr} {ah : List Pr} (h : BfsK procs fr vis q ah procs.length) : BfsI procs fr (vis ++ [q]) ah := by
 refine ⟨h.sub, h.nd, h.frm, fun x hx f hf hc => ?_⟩
 rcases List.mem_append.1 hx with hx | hx
 ·exact h.cl x hx f hf hc
 ·rw [List.mem_singleton] at hx
  subst hx
  exact h.clq f (by rw [List.take_length]; exact hf) hc
theorem BfsK.skip {procs : List Pr} {fr : Pr} {vis : List Pr} {q : Pr} {ah : List Pr} {k : Nat} (h : BfsK procs fr vis q ah k) (hk : k < procs.length) (hn : procs[k].nm ∈ callsOf (preSL q.body) → procs[k].nm ∈ (vis ++ [q] ++ ah).map Pr.nm) : BfsK procs fr vis q ah (k + 1) := by
 refine ⟨h.sub, h.nd, h.frm, h.cl, fun f hf hc => ?_⟩
 rw [List.take_succ_eq_append_getElem hk] at hf
 rcases List.mem_append.1 hf with hf | hf
 ·exact h.clq f hf hc
 ·rw [List.mem_singleton] at hf
  subst hf
  exact hn hc
theorem BfsK.add {procs : List Pr} {fr : Pr} {vis : List Pr} {q : Pr} {ah : List Pr} {k : Nat} (h : BfsK procs fr vis q ah k) (hk : k < procs.length) (hc : procs[k].nm ∈ callsOf (preSL q.body)) (hn : procs[k].nm ∉ (vis ++ [q] ++ ah).map Pr.nm) : BfsK procs fr vis q (ah ++ [procs[k]]) (k + 1) := by
 have e : vis ++ [q] ++ (ah ++ [procs[k]]) = (vis ++ [q] ++ ah) ++ [procs[k]] := by simp
 refine ⟨?_, ?_, ?_, ?_, ?_⟩
 ·rw [e]
  intro x hx
  rcases List.mem_append.1 hx with hx | hx
  ·exact h.sub x hx
  ·rw [List.mem_singleton] at hx
   subst hx
   exact ⟨List.getElem_mem hk, .step (h.sub q (by simp)).2 (List.getElem_mem hk) hc⟩
 ·rw [e, List.map_append]
  exact List.nodup_append.2 ⟨h.nd, by simp, fun a ha b hb e => by simp at hb; subst hb; subst e; exact hn ha⟩
 ·rw [e]; exact List.mem_append_left _ h.frm
 ·rw [e, List.map_append]; exact fun x hx f hf hc => List.mem_append_left _ (h.cl x hx f hf hc)
 ·rw [e, List.map_append]
  intro f hf hc2
  rw [List.take_succ_eq_append_getElem hk] at hf
  rcases List.mem_append.1 hf with hf | hf
  ·exact List.mem_append_left _ (h.clq f hf hc2)
  ·rw [List.mem_singleton] at hf
   subst hf
   exact List.mem_append_right _ (by simp)
theorem nm_inj {procs : List Pr} (hn : (procs.map Pr.nm).Nodup) {a b : Pr} (ha : a ∈ procs) (hb : b ∈ procs) (e : a.nm = b.nm) : a = b := by
 have h1 := find_own procs hn a ha
 have h2 := find_own procs hn b hb
 rw [e, h2] at h1
 injection h1 with h1
 exact h1.symm
/-- in the end: the names of all that are reached -/
theorem BfsI.end_ {procs : List Pr} {fr : Pr} {vis : List Pr} (h : BfsI procs fr vis []) (hn : (procs.map Pr.nm).Nodup) (s : ByteArray) : s ∈ vis.map Pr.nm ↔ ∃ f, f ∈ procs ∧ RchP procs fr f ∧ f.nm = s := by
 obtain ⟨hs, hd, hf, hc⟩ := h
 rw [List.append_nil] at hs hd hf hc
 constructor
 ·intro h1
  obtain ⟨q, hq, rfl⟩ := List.mem_map.1 h1
  exact ⟨q, (hs q hq).1, (hs q hq).2, rfl⟩
 ·rintro ⟨f, hfp, hr, rfl⟩
  have key : ∀ x, RchP procs fr x → x ∈ procs → x ∈ vis := by
   intro x hx
   induction hx with
   | refl => exact fun _ => hf
   | @step q f hq hfp hfc ih =>
    intro _
    have hqp : q ∈ procs := by
     cases hq with
     | refl => exact (hs fr hf).1
     | step _ h2 _ => exact h2
    have := hc q (ih hqp) f hfp hfc
    obtain ⟨y, hy, he⟩ := List.mem_map.1 this
    exact nm_inj hn (hs y hy).1 hfp he ▸ hy
  exact List.mem_map_of_mem (key f hr hfp)
end Go.Proofs.YtimejkbmfbjomaaGreat
