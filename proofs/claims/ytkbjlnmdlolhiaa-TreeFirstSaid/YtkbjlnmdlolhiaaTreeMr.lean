/- A row with other ids: the contract of marred (whittlerref3). -/
import Derived.Test.YtkbjlnmdlolhiaaTreeN16
namespace Go.Proofs.Ytkbjlnmdlolhiaa
open Go.ChangeShapes Go.WideShapes Go.ChangeAt Go.RowKit Go.Deep
set_option linter.unusedVariables false
set_option linter.unusedSimpArgs false

theorem stmt_id {w : World} {Q : Nat → Prop} {id id' kind : Int} {labels : List ByteArray} {nm proc : ByteArray} {x : E} {has : Bool} {args : List Ar} {th el th' el' : List S} {d0 d1 d2 d3 d4 d5 d6 d7 d8 d9 d10 d11 d12 vt ve : Value} (h : StmtI w Q (.mk id kind labels nm proc x has args th' el') [d0, d1, d2, d3, d4, d5, d6, d7, d8, d9, d10, d11, d12]) (hi : i64 id') (ht : StmtsI w Q th vt) (he : StmtsI w Q el ve) :
    StmtI w Q (.mk id' kind labels nm proc x has args th el) [.int .i64 id', d1, d2, d3, d4, d5, d6, d7, d8, d9, d10, vt, ve] := by
  obtain ⟨aid, akind, alabels, anm, aproc, ax, ahas, aargs, ath, ael, aL, alc, ax0, ax1, ax2, aX, axn, axc, aR, arc, aT, atc, aU, auc, hs, hcs, hid, hkind, hnm, hproc, hl, hx, ha, _, _⟩ := stmt_open h
  injection hs with e1 e2 e3 e4 e5 e6 e7 e8 e9 e10
  subst e1 e2 e3 e4 e5 e6 e7 e8 e9 e10
  simp only [List.cons.injEq, and_true] at hcs
  obtain ⟨rfl, rfl, rfl, rfl, rfl, rfl, rfl, rfl, rfl, rfl, rfl, rfl, rfl⟩ := hcs
  exact StmtI.of_slice hi hkind hnm hproc hl hx ha ht he
/-- what holds of a row of statements that is built by append -/
structure RoI (w : World) (Q : Nat → Prop) (W wr : World) (base : Nat) (outs : List S) (X : Option Addr) (n c : Nat) : Prop where
  row : BuildI wr base 42 13 (fun w Q => StmtI w Q) outs (.slice X n c)
  inn : In Q w wr
  size : base ≤ wr.heap.size
  below : Below W.heap.size W wr
section
variable {w W wr : World} {Q : Nat → Prop} {base : Nat} {outs : List S} {X : Option Addr} {n c : Nat}
theorem RoI.on (h : RoI w Q W wr base outs X n c) {w3 : World} (hb : Below wr.heap.size wr w3) : RoI w Q W w3 base outs X n c :=
  ⟨BuildI.below (R := fun w Q => StmtI w Q) stayS h.row hb, h.inn.on hb, Nat.le_trans h.size hb.size, h.below.trans (hb.mono h.below.size)⟩
theorem ro_step {w3 w4 : World} (h : RoI w Q W w3 base outs X n c) (hn : n = outs.length) (hW : W.heap.size ≤ base) (hQ : ∀ j, Q j → j < base) {B : Nat} (hB : base ≤ B) (hrB : ∀ j, (Value.slice X n c).ownBlock = some j → j < B)
    {x : S} {cs : List Value} (he : StmtI w3 (fun j => B ≤ j ∧ j < w3.heap.size) x cs) {rows : List (List Value)} (h1 : w3.ownsRow base 42 13 (.slice X n c) outs.length rows.flatten) (h2 : All2 (StmtI w3 (fun j => (base ≤ j ∧ j < w3.heap.size) ∧ (Value.slice X n c).ownBlock ≠ some j)) outs rows) {o : Obj} {v' : Value} (hown4 : w4.ownsRow base 42 13 v' (n + 1) (rows.flatten ++ cs)) (hgrow : (w3.alloc o).grownBy w4 (Value.slice X n c).ownBlock) (hat : (Value.slice X n c).ownBlock = v'.ownBlock ∨ v'.ownBlock = some (w3.alloc o).heap.size) :
    ∃ X' c', v' = .slice X' (n + 1) c' ∧ RoI w Q W w4 base (outs ++ [x]) X' (n + 1) c' := by
  have hm4 : Moves (fun j => (Value.slice X n c).ownBlock = some j) w3 w4 := ((Moves.refl _ w3).alloc o).trans (moves_grown hgrow) (fun j hj => .inr hj)
  have hno : ∀ j, j < base → ¬ (Value.slice X n c).ownBlock = some j := fun j hj e => by have := (h1.lt j e).1; omega
  have hbu : BuildI w4 base 42 13 (fun w Q => StmtI w Q) (outs ++ [x]) v' :=
    BuildI.push (R := fun w Q => StmtI w Q) stayS h1 h2 (x := x) (B := B) he hB hrB (n := n + 1) (by omega) rfl hown4 hgrow hat
  obtain ⟨X', c', rfl, _, _⟩ := own_form hown4
  exact ⟨X', c', rfl, hbu, h.inn.moves hm4 (fun j hj hq => hno j (hQ j hq) hj), Nat.le_trans h.size hm4.size, h.below.trans (hm4.below (by have := h.below.size; omega) (fun j hj => by have := (h1.lt j hj).1; omega))⟩
end
theorem preSL_sub : ∀ {l : List S} {k : Nat} (h : k < l.length) {x : S}, x ∈ preS l[k] → x ∈ preSL l
  | s :: l, 0, h, x, hx => by rw [preSL]; exact List.mem_append_left _ hx
  | s :: l, k + 1, h, x, hx => by rw [preSL]; exact List.mem_append_right _ (preSL_sub (l := l) (k := k) (by simpa using h) hx)
mutual
def marS (by_ more : Int) : S → S
  | .mk id kind labels nm proc x has args th el => .mk (id * by_ + more) kind labels nm proc x has args (marSL by_ more th) (marSL by_ more el)
def marSL (by_ more : Int) : List S → List S
  | [] => []
  | s :: l => marS by_ more s :: marSL by_ more l
end
theorem marSL_map (b m : Int) : ∀ l : List S, marSL b m l = l.map (marS b m)
  | [] => by rw [marSL]; rfl
  | s :: l => by rw [marSL, List.map_cons, marSL_map b m l]
theorem marSL_len (b m : Int) (l : List S) : (marSL b m l).length = l.length := by rw [marSL_map, List.length_map]
theorem marSL_take (b m : Int) {l : List S} {k : Nat} (h : k < l.length) : (marSL b m l).take (k + 1) = (marSL b m l).take k ++ [marS b m l[k]] := by
  rw [marSL_map, List.take_succ_eq_append_getElem (by rw [List.length_map]; exact h), List.getElem_map]
set_option maxHeartbeats 8000000 in
set_option maxRecDepth 100000 in
theorem marred_any {w : World} {Q : Nat → Prop} {by_ more : Int} (hby : 0 ≤ by_ ∧ by_ ≤ 8) (hmo : -300 ≤ more ∧ more ≤ 599) : ∀ (N : Nat) (l : List S), (preSL l).length < N → ∀ {A : Option Addr} {cap : Nat} {W : World}, StmtsI w Q l (.slice A l.length cap) → In Q w W → wSL l ≤ 1000000 → (∀ x ∈ preSL l, 1 ≤ x.id ∧ x.id ≤ 200) →
    Calls Try.prog 62 #[.slice A l.length cap, .int .i64 by_, .int .i64 more] W (PutOk (marSL by_ more l) W) := by
  intro N
  induction N with
  | zero => intro l h; omega
  | succ N ih =>
    intro l hN A cap W hl hI hw hids
    obtain ⟨i0, hi0, hz0, hz1, hz2⟩ := info_parts stmt_info
    obtain ⟨_, hlc, hcap, _⟩ := slice_len hl
    have hll : l.length ≤ 1000000 := Nat.le_trans (wSL_len l) hw
    have IH := Lib.hid @ih
    have HN := Lib.hid hN
    have HL := Lib.hid hl
    have HQ : Hid (∀ j, Q j → j < W.heap.size) := Lib.hid hI.1
    have HWm : Hid (∀ k (h : k < l.length), wS l[k] ≤ 1000000) := Lib.hid (fun k h => Nat.le_trans (wSL_mem (List.getElem_mem h)) hw)
    have HId : Hid (∀ k (h : k < l.length), ∀ x ∈ preS l[k], 1 ≤ x.id ∧ x.id ≤ 200) := Lib.hid (fun k h x hx => hids x (preSL_sub h hx))
    have HS : Hid (RoI w Q W W W.heap.size ((marSL by_ more l).take 0) none 0 0) := Lib.hid ⟨BuildI.nil _ _ _ _ _, hI, Nat.le_refl _, Below.refl _ _⟩
    obtain ⟨hby1, hby2⟩ := hby
    obtain ⟨hmo1, hmo2⟩ := hmo
    clear ih hN hl hI hw hids
    go_enter Try.func62, Try.ntmps62
    go_wp2_with fail
    go_loopw [7, 13] (fun ov iv wr => ∃ (k : Nat) (Xo : Option Addr) (co : Nat), k ≤ l.length ∧ iv = .int .i64 k ∧ ov = .slice Xo k co ∧ Hid (RoI w Q W wr W.heap.size ((marSL by_ more l).take k) Xo k co)) (fun _ iv _ => l.length - (intOf iv).toNat)
    case atStart => exact ⟨0, none, 0, Nat.zero_le _, rfl, rfl, HS⟩
    case round =>
      clear HS
      obtain ⟨k, Xo, co, hk, rfl, rfl, HR⟩ := hrel
      have htk : ((marSL by_ more l).take k).length = k := by rw [List.length_take, marSL_len]; omega
      obtain ⟨rows, hO, hAl⟩ := HR.out.row
      obtain ⟨_, _, hXe, hko, hco⟩ := own_form hO
      rw [htk] at hXe hko
      injection hXe with hX1 hX2 hX3
      subst hX1 hX3
      have HO := Lib.hid hO
      have HAl := Lib.hid hAl
      clear hO hAl hX2
      by_cases hlt : k < l.length
      · obtain ⟨a, id, kind, labels, nm, proc, x, has, args, th, el, L, lc, x0, x1, x2, X, xn, xc, R, rc, T, tc, U, uc, rfl, hqa, hmk, ⟨p0, p1, p2, p3, p4, p5, p6, p7, p8, p9, p10, p11, p12, _⟩, hid, hkind, hnm, hproc, hlab, hx, har, hth, hel, hst⟩ := stmt_at HL.out HR.out.inn hlt
        have hsub := preSL_at hlt
        have hwk := HWm.out k hlt
        have hik := HId.out k hlt
        have htake := marSL_take by_ more hlt
        rw [hmk] at hsub hst hwk htake hik
        simp only [subS, List.length_append] at hsub
        rw [wS] at hwk
        rw [preS] at hik
        have hi0_ : 1 ≤ id ∧ id ≤ 200 := hik _ (List.mem_cons_self ..)
        obtain ⟨hi1, hi2⟩ := hi0_
        have HC := Lib.hid (fun V hV => copyOne_any (W := V) hst hV (by omega) (by have := wT_len labels; omega) (by omega))
        have HT := Lib.hid (fun V h1 => IH.out th (by have := HN.out; omega) (W := V) hth h1 (by omega) (fun x hx => hik x (List.mem_cons_of_mem _ (List.mem_append_left _ hx))))
        have HE := Lib.hid (fun V h1 => IH.out el (by have := HN.out; omega) (W := V) hel h1 (by omega) (fun x hx => hik x (List.mem_cons_of_mem _ (List.mem_append_right _ hx))))
        have hmul : 0 ≤ id * by_ ∧ id * by_ ≤ 1600 := ⟨Int.mul_nonneg (by omega) hby1, by have := Int.mul_le_mul hi2 hby2 hby1 (by omega : (0 : Int) ≤ 200); omega⟩
        obtain ⟨hmu1, hmu2⟩ := hmul
        have HTk := Lib.hid htake
        have HSz := HR.out.size
        clear hmk hsub hst hth hel hx hlab har hid hkind hnm hproc hqa hwk htake hik
        go_upto_region 5 with fail
        have HBx : Hid (Blk (wr.alloc (.cells #[.int .i64 id, .int .i64 kind, .slice L labels.length lc, .string nm, .string proc, .int .i64 x0, .int .i64 x1, .string x2, .slice X xn xc, .bool has, .slice R args.length rc, .slice T th.length tc, .slice U el.length uc] 42)) wr.heap.size 42 #[.int .i64 id, .int .i64 kind, .slice L labels.length lc, .string nm, .string proc, .int .i64 x0, .int .i64 x1, .string x2, .slice X xn xc, .bool has, .slice R args.length rc, .slice T th.length tc, .slice U el.length uc]) := Lib.hid (Blk.new _ _ _)
        have HBa : Hid (Below wr.heap.size wr (wr.alloc (.cells #[.int .i64 id, .int .i64 kind, .slice L labels.length lc, .string nm, .string proc, .int .i64 x0, .int .i64 x1, .string x2, .slice X xn xc, .bool has, .slice R args.length rc, .slice T th.length tc, .slice U el.length uc] 42))) := Lib.hid (below_box _)
        clear p0 p1 p2 p3 p4 p5 p6 p7 p8 p9 p10 p11 p12
        generalize World.alloc _ _ = wa at HBx HBa ⊢
        obtain ⟨xb, hxb⟩ : ∃ xb, xb = wr.heap.size := ⟨_, rfl⟩
        rw [← hxb] at HBx ⊢
        have hxge : wr.heap.size ≤ xb := by omega
        clear hxb
        have p0 : wa.cell? ⟨xb, 0, none⟩ = some (.int .i64 id) := by rw [HBx.out.cell]; rfl
        have p1 : wa.cell? ⟨xb, 1, none⟩ = some (.int .i64 kind) := by rw [HBx.out.cell]; rfl
        have p2 : wa.cell? ⟨xb, 2, none⟩ = some (.slice L labels.length lc) := by rw [HBx.out.cell]; rfl
        have p3 : wa.cell? ⟨xb, 3, none⟩ = some (.string nm) := by rw [HBx.out.cell]; rfl
        have p4 : wa.cell? ⟨xb, 4, none⟩ = some (.string proc) := by rw [HBx.out.cell]; rfl
        have p5 : wa.cell? ⟨xb, 5, none⟩ = some (.int .i64 x0) := by rw [HBx.out.cell]; rfl
        have p6 : wa.cell? ⟨xb, 6, none⟩ = some (.int .i64 x1) := by rw [HBx.out.cell]; rfl
        have p7 : wa.cell? ⟨xb, 7, none⟩ = some (.string x2) := by rw [HBx.out.cell]; rfl
        have p8 : wa.cell? ⟨xb, 8, none⟩ = some (.slice X xn xc) := by rw [HBx.out.cell]; rfl
        have p9 : wa.cell? ⟨xb, 9, none⟩ = some (.bool has) := by rw [HBx.out.cell]; rfl
        have p10 : wa.cell? ⟨xb, 10, none⟩ = some (.slice R args.length rc) := by rw [HBx.out.cell]; rfl
        have p11 : wa.cell? ⟨xb, 11, none⟩ = some (.slice T th.length tc) := by rw [HBx.out.cell]; rfl
        have p12 : wa.cell? ⟨xb, 12, none⟩ = some (.slice U el.length uc) := by rw [HBx.out.cell]; rfl
        go_upto_region 6 with (go_at_call 107; refine (HC.out _ (HR.out.inn.on HBa.out)).mono ?_; rintro e q1 ⟨d0, d1, d2, d3, d4, d5, d6, d7, d8, d9, d10, d11, d12, rfl, hb1, hs1⟩; obtain ⟨did, dkind, dlabels, dnm, dproc, dx, dhas, dargs, dth, del, dL, dlc, dx0, dx1, dx2, dX, dxn, dxc, dR, drc, dT, dtc, dU, duc, hds, hdc, _⟩ := stmt_open hs1; (simp only [List.cons.injEq, and_true] at hdc); obtain ⟨rfl, rfl, rfl, rfl, rfl, rfl, rfl, rfl, rfl, rfl, rfl, rfl, rfl⟩ := hdc; clear hds)
        clear p0 p1 p2 p3 p4 p5 p6 p7 p8 p9 p10 p11 p12 HC
        have HBy : Hid (Blk (q1.alloc (.cells #[.int .i64 did, .int .i64 dkind, .slice dL dlabels.length dlc, .string dnm, .string dproc, .int .i64 dx0, .int .i64 dx1, .string dx2, .slice dX dxn dxc, .bool dhas, .slice dR dargs.length drc, .slice dT dth.length dtc, .slice dU del.length duc] 42)) q1.heap.size 42 #[.int .i64 did, .int .i64 dkind, .slice dL dlabels.length dlc, .string dnm, .string dproc, .int .i64 dx0, .int .i64 dx1, .string dx2, .slice dX dxn dxc, .bool dhas, .slice dR dargs.length drc, .slice dT dth.length dtc, .slice dU del.length duc]) := Lib.hid (Blk.new _ _ _)
        have HBx1 := Lib.hid ((HBx.out.below hb1 HBx.out.lt).alloc (.cells #[.int .i64 did, .int .i64 dkind, .slice dL dlabels.length dlc, .string dnm, .string dproc, .int .i64 dx0, .int .i64 dx1, .string dx2, .slice dX dxn dxc, .bool dhas, .slice dR dargs.length drc, .slice dT dth.length dtc, .slice dU del.length duc] 42))
        have HBb : Hid (Below wr.heap.size wr (q1.alloc (.cells #[.int .i64 did, .int .i64 dkind, .slice dL dlabels.length dlc, .string dnm, .string dproc, .int .i64 dx0, .int .i64 dx1, .string dx2, .slice dX dxn dxc, .bool dhas, .slice dR dargs.length drc, .slice dT dth.length dtc, .slice dU del.length duc] 42))) := Lib.hid (below_stepA (below_step HBa.out hb1) _)
        have hS1 := hs1.keep (w' := q1.alloc (.cells #[.int .i64 did, .int .i64 dkind, .slice dL dlabels.length dlc, .string dnm, .string dproc, .int .i64 dx0, .int .i64 dx1, .string dx2, .slice dX dxn dxc, .bool dhas, .slice dR dargs.length drc, .slice dT dth.length dtc, .slice dU del.length duc] 42)) (Q' := fun j => (wr.heap.size ≤ j ∧ j < (q1.alloc (.cells #[.int .i64 did, .int .i64 dkind, .slice dL dlabels.length dlc, .string dnm, .string dproc, .int .i64 dx0, .int .i64 dx1, .string dx2, .slice dX dxn dxc, .bool dhas, .slice dR dargs.length drc, .slice dT dth.length dtc, .slice dU del.length duc] 42)).heap.size) ∧ j ≠ q1.heap.size) (fun j hj => ⟨⟨by have := hj.1; have := HBa.out.size; omega, by rw [World.size_alloc]; have := hj.2; omega⟩, by have := hj.2; omega⟩) (fun p hp => (below_box _).cell hp.2)
        have HS1 := Lib.hid hS1
        have hxy : xb < q1.heap.size := (HBx.out.below hb1 HBx.out.lt).lt
        have hwy : wr.heap.size ≤ q1.heap.size := (below_step HBa.out hb1).size
        clear hS1 hs1 hb1 HBx HBa
        generalize World.alloc _ _ = wb at HBy HBx1 HBb HS1 ⊢
        generalize q1.heap.size = yb at HBy HS1 hxy hwy ⊢
        have x0_ : wb.cell? ⟨xb, 0, none⟩ = some (.int .i64 id) := by rw [HBx1.out.cell]; rfl
        have y0_ : wb.cell? ⟨yb, 0, none⟩ = some (.int .i64 did) := by rw [HBy.out.cell]; rfl
        have f0_ := HBy.out.frozen 0
        have hxl_ := HBx1.out.lt
        have hyl_ := HBy.out.lt
        have hyx : xb ≠ yb := by omega
        go_upto_region 7 with fail
        clear x0_ y0_ f0_ hxl_ hyl_
        have HByd : Hid (Blk (wb.setCell ⟨yb, 0, none⟩ (.int .i64 (id * by_ + more))) yb 42 #[.int .i64 (id * by_ + more), .int .i64 dkind, .slice dL dlabels.length dlc, .string dnm, .string dproc, .int .i64 dx0, .int .i64 dx1, .string dx2, .slice dX dxn dxc, .bool dhas, .slice dR dargs.length drc, .slice dT dth.length dtc, .slice dU del.length duc]) := Lib.hid (HBy.out.set_ 0 _)
        have HBxd := Lib.hid (HBx1.out.far (p := ⟨yb, 0, none⟩) hyx (.int .i64 (id * by_ + more)))
        have HBd : Hid (Below wr.heap.size wr (wb.setCell ⟨yb, 0, none⟩ (.int .i64 (id * by_ + more)))) := Lib.hid (below_setc HBb.out hwy _)
        have HSd : Hid (StmtI (wb.setCell ⟨yb, 0, none⟩ (.int .i64 (id * by_ + more))) (fun j => (wr.heap.size ≤ j ∧ j < (wb.setCell ⟨yb, 0, none⟩ (.int .i64 (id * by_ + more))).heap.size) ∧ j ≠ yb) (S.mk id kind labels nm proc x has args [] []) [.int .i64 did, .int .i64 dkind, .slice dL dlabels.length dlc, .string dnm, .string dproc, .int .i64 dx0, .int .i64 dx1, .string dx2, .slice dX dxn dxc, .bool dhas, .slice dR dargs.length drc, .slice dT dth.length dtc, .slice dU del.length duc]) := Lib.hid (HS1.out.keep (fun j hj => ⟨⟨hj.1.1, by simp only [size_set]; exact hj.1.2⟩, hj.2⟩) (fun p hp => cell_set_ne _ (fun e => hp.2 (by rw [e]))))
        clear HBb HBx1 HBy HS1
        generalize World.setCell _ _ _ = wd at HByd HBxd HBd HSd ⊢
        have x11_ : wd.cell? ⟨xb, 11, none⟩ = some (.slice T th.length tc) := by rw [HBxd.out.cell]; rfl
        have x12_ : wd.cell? ⟨xb, 12, none⟩ = some (.slice U el.length uc) := by rw [HBxd.out.cell]; rfl
        have hxl := HBxd.out.lt
        have hyl := HByd.out.lt
        have hdr : ∀ {Q : Nat → Prop} {w V : World}, In Q w V → In Q w V.drew := fun h => h
        refine wp_region_last (fun w' : World => w'.cell? ⟨xb, 11, none⟩ = some (.slice T th.length tc) ∧ w'.cell? ⟨xb, 12, none⟩ = some (.slice U el.length uc)) 13 (by kernel_rfl) ?_
        have hS0 : (fun w' : World => w'.cell? ⟨xb, 11, none⟩ = some (.slice T th.length tc) ∧ w'.cell? ⟨xb, 12, none⟩ = some (.slice U el.length uc)) wd.drew := ⟨x11_, x12_⟩
        change wpAnyL _ _ _ _ _ _ 14 _ _ wd.drew
        refine wpAnyL_take (i := 0) (v := ?_) rfl (by kernel_rfl) (by decide) (by kernel_rfl) (by kernel_rfl) (by kernel_rfl) (fun _ _ _ h => h) (Or.inl ⟨by rfl, ?_⟩) (by assumption) ?_
        rotate_left
        · intro w hSw
          (try dsimp only at hSw)
          go_split_ands
          go_simp
          (try (with_reducible rfl))
        (try simp only [Act.put, List.setIfInBounds_toArray, List.set_cons_zero, List.set_cons_succ])
        refine wpAnyL_take (i := 1) (v := ?_) rfl (by kernel_rfl) (by decide) (by kernel_rfl) (by kernel_rfl) (by kernel_rfl) (fun _ _ _ h => h) (Or.inl ⟨by rfl, ?_⟩) (by assumption) ?_
        rotate_left
        · intro w hSw
          (try dsimp only at hSw)
          go_split_ands
          go_simp
          (try (with_reducible rfl))
        (try simp only [Act.put, List.setIfInBounds_toArray, List.set_cons_zero, List.set_cons_succ])
        refine wpAnyL_take (i := 2) (v := ?_) rfl (by kernel_rfl) (by decide) (by kernel_rfl) (by kernel_rfl) (by kernel_rfl) (fun _ _ _ h => h) (Or.inl ⟨by rfl, ?_⟩) (by assumption) ?_
        rotate_left
        · intro w hSw
          (try dsimp only at hSw)
          go_split_ands
          go_simp
          (try (with_reducible rfl))
        (try simp only [Act.put, List.setIfInBounds_toArray, List.set_cons_zero, List.set_cons_succ])
        refine wpAnyL_take (i := 3) (v := ?_) rfl (by kernel_rfl) (by decide) (by kernel_rfl) (by kernel_rfl) (by kernel_rfl) (fun _ _ _ h => h) (Or.inl ⟨by rfl, ?_⟩) (by assumption) ?_
        rotate_left
        · intro w hSw
          (try dsimp only at hSw)
          go_split_ands
          go_simp
          (try (with_reducible rfl))
        (try simp only [Act.put, List.setIfInBounds_toArray, List.set_cons_zero, List.set_cons_succ])
        refine wpAnyL_take (i := 5) (v := ?_) rfl (by kernel_rfl) (by decide) (by kernel_rfl) (by kernel_rfl) (by kernel_rfl) (fun _ _ _ h => h) (Or.inl ⟨by rfl, ?_⟩) (by assumption) ?_
        rotate_left
        · intro w hSw
          (try dsimp only at hSw)
          go_split_ands
          go_simp
          (try (with_reducible rfl))
        (try simp only [Act.put, List.setIfInBounds_toArray, List.set_cons_zero, List.set_cons_succ])
        refine wpAnyL_take (i := 6) (v := ?_) rfl (by kernel_rfl) (by decide) (by kernel_rfl) (by kernel_rfl) (by kernel_rfl) (fun _ _ _ h => h) (Or.inl ⟨by rfl, ?_⟩) (by assumption) ?_
        rotate_left
        · intro w hSw
          (try dsimp only at hSw)
          go_split_ands
          go_simp
          (try (with_reducible rfl))
        (try simp only [Act.put, List.setIfInBounds_toArray, List.set_cons_zero, List.set_cons_succ])
        refine wpAnyL_take (i := 7) (v := ?_) rfl (by kernel_rfl) (by decide) (by kernel_rfl) (by kernel_rfl) (by kernel_rfl) (fun _ _ _ h => h) (Or.inl ⟨by rfl, ?_⟩) (by assumption) ?_
        rotate_left
        · intro w hSw
          (try dsimp only at hSw)
          go_split_ands
          go_simp
          (try (with_reducible rfl))
        (try simp only [Act.put, List.setIfInBounds_toArray, List.set_cons_zero, List.set_cons_succ])
        refine wpAnyL_take (i := 8) (v := ?_) rfl (by kernel_rfl) (by decide) (by kernel_rfl) (by kernel_rfl) (by kernel_rfl) (fun _ _ _ h => h) (Or.inl ⟨by rfl, ?_⟩) (by assumption) ?_
        rotate_left
        · intro w hSw
          (try dsimp only at hSw)
          go_split_ands
          go_simp
          (try (with_reducible rfl))
        (try simp only [Act.put, List.setIfInBounds_toArray, List.set_cons_zero, List.set_cons_succ])
        refine wpAnyL_step (i := 4) (by kernel_rfl) rfl (fun K hK => ?_)
        go_simp
        refine (HT.out _ (hdr (HR.out.inn.on HBd.out))).mono ?_
        rintro e' w3 ⟨v3, rfl, hb3, hs3⟩
        obtain ⟨T3, tc3, rfl, hl3, hc3⟩ := hs3.shape
        have hb3' : Below wd.heap.size wd w3 := (show Below wd.heap.size wd wd.drew from (Below.refl _ _).drew).trans hb3
        have ux11 : w3.cell? ⟨xb, 11, none⟩ = some (.slice T th.length tc) := (hb3'.cell (p := ⟨xb, 11, none⟩) hxl).trans x11_
        have ux12 : w3.cell? ⟨xb, 12, none⟩ = some (.slice U el.length uc) := (hb3'.cell (p := ⟨xb, 12, none⟩) hxl).trans x12_
        refine hK.out _ _ (fun _ => ⟨ux11, ux12⟩) ?_
        clear hK K
        (try simp only [Act.put, List.setIfInBounds_toArray, List.set_cons_zero, List.set_cons_succ])
        refine wpAnyL_take (i := 10) (v := ?_) rfl (by kernel_rfl) (by decide) (by kernel_rfl) (by kernel_rfl) (by kernel_rfl) (fun _ _ _ h => h) (Or.inl ⟨by rfl, ?_⟩) ⟨ux11, ux12⟩ ?_
        rotate_left
        · intro w hSw
          (try dsimp only at hSw)
          go_split_ands
          go_simp
          (try (with_reducible rfl))
        (try simp only [Act.put, List.setIfInBounds_toArray, List.set_cons_zero, List.set_cons_succ])
        refine wpAnyL_step (i := 9) (by kernel_rfl) rfl (fun K hK => ?_)
        go_simp
        refine (HE.out _ (HR.out.inn.on (below_step HBd.out hb3'))).mono ?_
        rintro e' w4 ⟨v4, rfl, hb4, hs4⟩
        obtain ⟨U4, uc4, rfl, hl4, hc4⟩ := hs4.shape
        have hb4' : Below wd.heap.size wd w4 := below_step hb3' hb4
        have HBy4 := Lib.hid (HByd.out.below hb4' hyl)
        have vx11 : w4.cell? ⟨xb, 11, none⟩ = some (.slice T th.length tc) := (hb4'.cell (p := ⟨xb, 11, none⟩) hxl).trans x11_
        have vx12 : w4.cell? ⟨xb, 12, none⟩ = some (.slice U el.length uc) := (hb4'.cell (p := ⟨xb, 12, none⟩) hxl).trans x12_
        have y11 : w4.cell? ⟨yb, 11, none⟩ = some (.slice dT dth.length dtc) := (by rw [HBy4.out.cell]; rfl)
        have y12 : w4.cell? ⟨yb, 12, none⟩ = some (.slice dU del.length duc) := (by rw [HBy4.out.cell]; rfl)
        have f11 := HBy4.out.frozen 11
        have f12 := HBy4.out.frozen 12
        have hyl4 := HBy4.out.lt
        have hxl4 := Nat.lt_of_lt_of_le hxl hb4'.size
        refine hK.out _ _ (fun _ => ⟨vx11, vx12⟩) ?_
        clear hK K
        (try simp only [Act.put, List.setIfInBounds_toArray, List.set_cons_zero, List.set_cons_succ])
        refine wpAnyL_step (i := 11) (by kernel_rfl) rfl (fun K hK => ?_)
        go_simp
        refine hK.out _ _ (fun _ => ⟨set_far (by exact hyx) _ vx11, set_far (by exact hyx) _ vx12⟩) ?_
        clear hK K
        (try simp only [Act.put, List.setIfInBounds_toArray, List.set_cons_zero, List.set_cons_succ])
        refine wpAnyL_step (i := 12) (by kernel_rfl) rfl (fun K hK => ?_)
        go_simp
        refine hK.out _ _ (fun _ => ⟨set_far (by exact hyx) _ vx11, set_far (by exact hyx) _ vx12⟩) ?_
        clear hK K
        (try simp only [Act.put, List.setIfInBounds_toArray, List.set_cons_zero, List.set_cons_succ])
        refine wpAnyL_step (i := 13) (by kernel_rfl) rfl (fun K hK => ?_)
        go_simp
        refine hK.out _ _ (fun h => absurd rfl h) ?_
        clear hK K
        (try simp only [Act.put, List.setIfInBounds_toArray, List.set_cons_zero, List.set_cons_succ])
        refine wpAnyL_done (by kernel_rfl) ?_ 0
        have HBy5 : Hid (Blk ((w4.setCell ⟨yb, 11, none⟩ (.slice T3 (marSL by_ more th).length tc3)).setCell ⟨yb, 12, none⟩ (.slice U4 (marSL by_ more el).length uc4)) yb 42 #[.int .i64 (id * by_ + more), .int .i64 dkind, .slice dL dlabels.length dlc, .string dnm, .string dproc, .int .i64 dx0, .int .i64 dx1, .string dx2, .slice dX dxn dxc, .bool dhas, .slice dR dargs.length drc, .slice T3 (marSL by_ more th).length tc3, .slice U4 (marSL by_ more el).length uc4]) := Lib.hid ((HBy4.out.set_ 11 _).set_ 12 _)
        have HB5 : Hid (Below wr.heap.size wr ((w4.setCell ⟨yb, 11, none⟩ (.slice T3 (marSL by_ more th).length tc3)).setCell ⟨yb, 12, none⟩ (.slice U4 (marSL by_ more el).length uc4))) := Lib.hid (below_setc (below_setc (below_step HBd.out hb4') hwy _) hwy _)
        have hz4 : wd.heap.size ≤ w4.heap.size := hb4'.size
        have hzr : wr.heap.size ≤ wd.heap.size := HBd.out.size
        have hsz5 : ((w4.setCell ⟨yb, 11, none⟩ (.slice T3 (marSL by_ more th).length tc3)).setCell ⟨yb, 12, none⟩ (.slice U4 (marSL by_ more el).length uc4)).heap.size = w4.heap.size := by simp only [size_set]
        have hc5 : ∀ p : Addr, p.block ≠ yb → ((w4.setCell ⟨yb, 11, none⟩ (.slice T3 (marSL by_ more th).length tc3)).setCell ⟨yb, 12, none⟩ (.slice U4 (marSL by_ more el).length uc4)).cell? p = w4.cell? p := fun p hp => by rw [cell_set_ne _ (fun e => hp (by rw [e])), cell_set_ne _ (fun e => hp (by rw [e]))]
        have hz3 : wd.heap.size ≤ w3.heap.size := hb3'.size
        have HEl : Hid (StmtI ((w4.setCell ⟨yb, 11, none⟩ (.slice T3 (marSL by_ more th).length tc3)).setCell ⟨yb, 12, none⟩ (.slice U4 (marSL by_ more el).length uc4)) (fun j => wr.heap.size ≤ j ∧ j < ((w4.setCell ⟨yb, 11, none⟩ (.slice T3 (marSL by_ more th).length tc3)).setCell ⟨yb, 12, none⟩ (.slice U4 (marSL by_ more el).length uc4)).heap.size) (marS by_ more (S.mk id kind labels nm proc x has args th el)) [.int .i64 (id * by_ + more), .int .i64 dkind, .slice dL dlabels.length dlc, .string dnm, .string dproc, .int .i64 dx0, .int .i64 dx1, .string dx2, .slice dX dxn dxc, .bool dhas, .slice dR dargs.length drc, .slice T3 (marSL by_ more th).length tc3, .slice U4 (marSL by_ more el).length uc4]) := Lib.hid (by rw [marS]; exact stmt_id (HSd.out.keep (fun j hj => ⟨hj.1.1, by rw [hsz5]; have := hj.1.2; omega⟩) (fun p hp => (hc5 p hp.2).trans (hb4'.cell hp.1.2))) ⟨by omega, by omega⟩ (SliceI.keep hs3 (fun j hj => ⟨by have : wd.heap.size ≤ j := hj.1; omega, by rw [hsz5]; have := hj.2; have := hb4.size; omega⟩) (fun p hp => (hc5 p (by have : wd.heap.size ≤ p.block := hp.1; omega)).trans (hb4.cell hp.2)) (fun s cs _ h => h.keep (fun j hj => ⟨by have : wd.heap.size ≤ j := hj.1; omega, by rw [hsz5]; have := hj.2; have := hb4.size; omega⟩) (fun p hp => (hc5 p (by have : wd.heap.size ≤ p.block := hp.1; omega)).trans (hb4.cell hp.2)))) (SliceI.keep hs4 (fun j hj => ⟨by have := hj.1; omega, by rw [hsz5]; exact hj.2⟩) (fun p hp => hc5 p (by have := hp.1; omega)) (fun s cs _ h => h.keep (fun j hj => ⟨by have := hj.1; omega, by rw [hsz5]; exact hj.2⟩) (fun p hp => hc5 p (by have := hp.1; omega)))))
        clear hc5 hsz5 hs3 hs4 hb3 hb4 hb3' hb4' HSd HBy4 y11 y12 f11 f12 hS0 ux11 ux12 vx11 vx12 x11_ x12_
        generalize (World.setCell (World.setCell w4 _ _) _ _) = we at HBy5 HB5 HEl ⊢
        have y0_ : we.cell? ⟨yb, 0, none⟩ = some (.int .i64 (id * by_ + more)) := by rw [HBy5.out.cell]; rfl
        have y1_ : we.cell? ⟨yb, 1, none⟩ = some (.int .i64 dkind) := by rw [HBy5.out.cell]; rfl
        have y2_ : we.cell? ⟨yb, 2, none⟩ = some (.slice dL dlabels.length dlc) := by rw [HBy5.out.cell]; rfl
        have y3_ : we.cell? ⟨yb, 3, none⟩ = some (.string dnm) := by rw [HBy5.out.cell]; rfl
        have y4_ : we.cell? ⟨yb, 4, none⟩ = some (.string dproc) := by rw [HBy5.out.cell]; rfl
        have y5_ : we.cell? ⟨yb, 5, none⟩ = some (.int .i64 dx0) := by rw [HBy5.out.cell]; rfl
        have y6_ : we.cell? ⟨yb, 6, none⟩ = some (.int .i64 dx1) := by rw [HBy5.out.cell]; rfl
        have y7_ : we.cell? ⟨yb, 7, none⟩ = some (.string dx2) := by rw [HBy5.out.cell]; rfl
        have y8_ : we.cell? ⟨yb, 8, none⟩ = some (.slice dX dxn dxc) := by rw [HBy5.out.cell]; rfl
        have y9_ : we.cell? ⟨yb, 9, none⟩ = some (.bool dhas) := by rw [HBy5.out.cell]; rfl
        have y10_ : we.cell? ⟨yb, 10, none⟩ = some (.slice dR dargs.length drc) := by rw [HBy5.out.cell]; rfl
        have y11_ : we.cell? ⟨yb, 11, none⟩ = some (.slice T3 (marSL by_ more th).length tc3) := by rw [HBy5.out.cell]; rfl
        have y12_ : we.cell? ⟨yb, 12, none⟩ = some (.slice U4 (marSL by_ more el).length uc4) := by rw [HBy5.out.cell]; rfl
        have HR5 := Lib.hid (HR.out.on HB5.out)
        have hO5 := (Below.moves HB5.out).row HO.out (fun j hj e => Nat.not_lt.2 e (HO.out.lt j hj).2)
        have HO5 := Lib.hid hO5
        rw [htk] at hO5
        have HO5k := Lib.hid hO5
        clear hO5
        have HAl5 := Lib.hid (HAl.out.imp fun x cs h => h.keep (Q' := fun j => (W.heap.size ≤ j ∧ j < we.heap.size) ∧ (Value.slice Xo k co).ownBlock ≠ some j) (fun j h => ⟨⟨h.1.1, Nat.lt_of_lt_of_le h.1.2 HB5.out.size⟩, h.2⟩) (fun p hp => HB5.out.cell hp.1.2))
        have HNw := Lib.hid (new16 we 42 [.int .i64 (id * by_ + more), .int .i64 dkind, .slice dL dlabels.length dlc, .string dnm, .string dproc, .int .i64 dx0, .int .i64 dx1, .string dx2, .slice dX dxn dxc, .bool dhas, .slice dR dargs.length drc, .slice T3 (marSL by_ more th).length tc3, .slice U4 (marSL by_ more el).length uc4])
        have hcb : W.heap.size ≤ we.heap.size + 1 := by have := HB5.out.size; omega
        have HRl : Hid (∀ j, (Value.slice Xo k co).ownBlock = some j → j < wr.heap.size) := Lib.hid (fun j hj => (HO.out.lt j hj).2)
        go_wp2_with (at_builtin; refine wpList_append_own_at _ rfl (.tmp 38) (.tmp 40) 40 rfl W.heap.size 42 i0 _ 13 208 Try.underlying40 hi0 hz0 hz1 hz2 rfl (by decide) _ k rows.flatten rfl (HO5k.out.alloc _) ⟨we.heap.size, 0, none⟩ 1 1 [.int .i64 (id * by_ + more), .int .i64 dkind, .slice dL dlabels.length dlc, .string dnm, .string dproc, .int .i64 dx0, .int .i64 dx1, .string dx2, .slice dX dxn dxc, .bool dhas, .slice dR dargs.length drc, .slice T3 (marSL by_ more th).length tc3, .slice U4 (marSL by_ more el).length uc4] rfl rfl HNw.out (by simp [Value.oneCell']) (by unfold maxLen; omega) (by omega) (by rw [World.size_alloc]; exact hcb) ?_)
        intro v' w6 hown6 hg6 _ hat6
        obtain ⟨X6, c6, rfl, hP6⟩ := ro_step HR5.out htk.symm (Nat.le_refl _) HQ.out HSz HRl.out HEl.out HO5.out HAl5.out hown6 hg6 (hat6.imp Eq.symm (fun h => by rw [h, World.size_alloc]))
        have HP6 := Lib.hid hP6
        clear hown6 hg6 hat6 hP6
        go_wp2_with fail
        go_roundw
        case rel => exact ⟨k + 1, X6, c6, by omega, by go_num, rfl, Lib.hid (by rw [HTk.out]; exact HP6.out)⟩
        case measure => simp [intOf]; omega
      · have hke : k = l.length := by omega
        subst hke
        have HSl := Lib.hid (BuildI.done (R := fun w Q => StmtI w Q) stayS (fun h => (stmtCk _ _ _ _ h).1) HR.out.row)
        rw [List.take_of_length_le (by rw [marSL_len]; omega)] at HSl
        go_wp2_with fail
        go_ret
        exact ⟨_, rfl, HR.out.below, SliceI.keep HSl.out (fun j hj => ⟨by have := hj.1; omega, hj.2⟩) (fun p hp => rfl) (fun s cs _ h => h.keep (fun j hj => ⟨by have := hj.1; omega, hj.2⟩) (fun p hp => rfl))⟩
end Go.Proofs.Ytkbjlnmdlolhiaa
