/-
  Texts of this proof, put together: RfT. No statement is proved here.
-/
import Derived.Test.YtopnpdobcagcgaaGreatMBN
namespace Go.Proofs.YtopnpdobcagcgaaGreat
open Go.RowKit
set_option linter.unusedSimpArgs false
set_option linter.unusedVariables false
/-! ### stars -/
set_option maxHeartbeats 8000000 in
set_option maxRecDepth 1000000 in
theorem rstep_k6 (N : Nat) (ih : RStepC N) (s : Nat → Bool) (l : List T) (hN : (T.node 6 s l).nodes ≤ N + 1) (hM : (T.node 6 s l).nodes ≤ 2000) (hg : good (.node 6 s l)) (b : UInt8) (cs : List Value) (w : World) (hv : RxV w.heap.size w cs (.node 6 s l)) :
  Calls Tryz.prog 18 #[.agg cs.toArray, bv b] w fun e w' => ∃ ds, e = .returned (.agg ds.toArray) ∧ RxD (fun k => w.heap.size ≤ k ∧ k < w'.heap.size) w' ds (stepT (.node 6 s l) b.toNat) ∧ Below w.heap.size w w' := by
 have IH := qH ih
 clear ih
 have X := qH hv
 have HC6 := qH hv.length
 obtain ⟨A, cap, f, hcs, h1, h2, h0, h3, h4⟩ := hv.opened
 have H3 := qH h3
 have H4 := qH h4
 have HCL := qH h1
 have HCM := qH h2
 have HTM := qH hM
 have HNN := qH (show T.nodes (.node 6 s l) = 1 + nodesL l by simp only [T.nodes])
 rw [HNN.out] at hN hM
 have HN := qH (show nodesL l ≤ N by omega)
 have HM := qH (show nodesL l ≤ 2000 by omega)
 have HG := qH hg
 have HGL := qH (good_node.1 hg).2.1
 have HC0 := qH (show cs[0]? = some (.int .i64 6) by rw [hcs]; rfl)
 have HC5 := qH (show cs[5]? = some (.slice A l.length cap) by rw [hcs]; rfl)
 have HCS := qH hcs
 have HBT := qH (show b.toNat < 256 from b.toNat_lt)
 obtain ⟨i0, hi0, hz0, hz1, hz2⟩ := inf_rx'
 obtain ⟨z, hz⟩ : ∃ z, z = rxc 0 zeroS (.slice none 0 0) := ⟨_, rfl⟩
 have HZL := qH (show z.length = 6 by rw [hz]; rfl)
 have HZ0 := qH (show i0.zero = some (.agg z.toArray) by rw [hz]; exact hz0)
 have HZ1 := qH hz0
 clear hz hz0
 clear hv h1 h2 h0 h3 h4 hcs hN hM hg
 obtain ⟨x, hx, _⟩ := star_one HG.out
 subst hx
 have HR := qH (step_star HG.out b)
 have HXG := qH (HGL.out x (by simp))
 have HXN := qH (show x.nodes ≤ N by have := HN.out; simp only [nodesL] at this; omega)
 have HXM := qH (show x.nodes ≤ 2000 by have := HM.out; simp only [nodesL] at this; omega)
 obtain ⟨bb, off, rfl, hbb, hrng⟩ := H3.out (by simp)
 have HRG := qH (hrng 0 (by simp))
 have HBB := qH hbb
 have HVX := qH (H4.out 0 x rfl)
 have HV6 := qH HVX.out.length
 have j1 : (0 : Int) < (1 : Int) := by omega
 have HCN := qH (show nodesL [stepT x b.toNat, .node 6 s [x]] ≤ 549755813888 by
  have h1 := step_few HXG.out b HXM.out
  have h2 := HTM.out
  simp only [nodesL]
  omega)
 clear hrng hbb
 go_enter Tryz.func18, Tryz.ntmps18
 go_wp2_with (first
  | ((with_reducible refine atDst 2 ?_); refine wpList_box rfl 29 _ rfl cs rfl (Below.refl w.heap.size w) (Nat.le_refl _) ?_; intro w1 hk1 hb1 hs1 _; have L1 := qH hk1; have B1 := qH hb1; clear hk1 hb1 hs1; (try simp only [Act.put, qA, qB, qC]))
  | ((with_reducible refine atDst 4 ?_); refine wpList_new rfl 29 rfl i0 _ z hi0 HZ0.out rfl B1.out B1.out.size ?_; intro w2 hk2 hb2 hs2 ho2; have K2 := qH hk2; have B2 := qH hb2; have L2 := qH (show Blk w2 w.heap.size 29 cs from (ho2 _ L1.out.lt).trans L1.out); have c0 := L2.out.cell 0; rw [HC0.out] at c0; have c5 := L2.out.cell 5; rw [HC5.out] at c5; have RS := qH (set_range' HCS.out L2.out); clear hk2 hb2 hs2 ho2; (try simp only [Act.put, qA, qB, qC]))
  )
 refine sg_start (S := fun V => w2.grownBy V (some w1.heap.size)) (by kernel_rfl) (grown_start w2 _) (fun wd hwd => ?_)
 have hX : w2.grownBy wd (some w1.heap.size) := by rw [hwd]; exact grown_start w2 _
 have hC : Below w2.heap.size w2 wd := by rw [hwd]; exact (Below.refl _ _).drew
 have HNE := qH (show some w.heap.size ≠ some w1.heap.size from fun e => by have h1 := Option.some.inj e; have h2 := L1.out.lt; omega)
 have HBN := qH (show some bb ≠ some w1.heap.size from fun e => by have h1 := Option.some.inj e; have h2 := L1.out.lt; have h3 := HBB.out; omega)
 have HRG2 := qH (range_below HRG.out B2.out HBB.out)
 clear hwd
 refine sg_take (i := 0) (oi := ⟨some 41, _, _, _, _, _⟩) (v := ?_) rfl (by kernel_rfl) (by kernel_rfl) (by kernel_rfl) (fun _ _ _ h => h) rfl hX ?_ ?_; rotate_left; (intro W hW; go_simp; try with_reducible rfl); simp only [Act.put, qA, qB, qC]
 refine sg_take (i := 1) (oi := ⟨some 42, _, _, _, _, _⟩) (v := .slice (some ⟨bb, off, none⟩) 1 cap) rfl (by kernel_rfl) (by kernel_rfl) (by kernel_rfl) (fun _ _ _ h => h) rfl hX (fun V hV => ld_rxs (.tmp 41) rfl rfl (grown_cell hV L2.out.lt HNE.out c5)) ?_; simp only [Act.put, qA, qB, qC]
 refine sg_take (i := 2) (oi := ⟨some 43, _, _, _, _, _⟩) (v := ?_) rfl (by kernel_rfl) (by kernel_rfl) (by kernel_rfl) (fun _ _ _ h => h) rfl hX ?_ ?_; rotate_left; (intro W hW; go_simp; try with_reducible rfl); simp only [Act.put, qA, qB, qC]
 refine sg_take (i := 3) (oi := ⟨some 44, _, _, _, _, _⟩) (v := .agg (f 0).toArray) rfl (by kernel_rfl) (by kernel_rfl) (by kernel_rfl) (fun _ _ _ h => h) rfl hX (fun V hV => ld_keep 29 _ rfl bb (off + 0 * 6) rfl _ _ HRG2.out (hV.block bb (Nat.lt_of_lt_of_le HBB.out B2.out.size) HBN.out) Tryz.underlying29 rfl (size_rx HV6.out)) ?_; simp only [Act.put, qA, qB, qC]
 refine sg_take (i := 4) (oi := ⟨some 45, _, _, _, _, _⟩) (v := ?_) rfl (by kernel_rfl) (by kernel_rfl) (by kernel_rfl) (fun _ _ _ h => h) rfl hX ?_ ?_; rotate_left; (intro W hW; go_simp; try with_reducible rfl); simp only [Act.put, qA, qB, qC]
 refine sg_take (i := 6) (oi := ⟨some 47, _, _, _, _, _⟩) (v := .agg cs.toArray) rfl (by kernel_rfl) (by kernel_rfl) (by kernel_rfl) (fun _ _ _ h => h) rfl hX (fun V hV => ld_keep 29 _ rfl w.heap.size 0 rfl _ _ (fun i v hv => (L2.out.cell (0 + i)).trans (by rw [Nat.zero_add]; exact hv)) (hV.block _ L2.out.lt HNE.out) Tryz.underlying29 rfl (size_rx HC6.out)) ?_; simp only [Act.put, qA, qB, qC]
 refine sg_actB (i := 5) (o := ⟨some 46, _, _, _, _, _⟩) rfl (by kernel_rfl) rfl hX (fun K hK => ?_)
 go_wp2_with fail
 refine (IH.out x HXN.out HXM.out HXG.out b (f 0) wd (RxV.mono (HVX.out.stay (B2.out.trans (hC.mono B2.out.size))) (Nat.le_trans B2.out.size hC.size))).mono ?_
 rintro e w3 ⟨es, rfl, hes, hb⟩
 go_wp2_with fail
 refine hK _ _ (grown_then hX hb) ?_
 clear hK K
 (try simp only [Act.put, qA, qB, qC])
 replace hX := grown_then hX hb
 replace hC := hC.trans (hb.mono hC.size)
 have HES := qH (Fr.v hes)
 have HE6 := qH hes.length
 clear hes hb
 refine sg_actB (i := 7) (o := ⟨some 48, _, _, _, _, _⟩) rfl (by kernel_rfl) rfl hX (fun K hK => ?_)
 refine wp_bldT2 27 29 (.tmp 46) (.tmp 47) rfl i0 Tryz.underlying27 hi0 HZ1.out hz1 es cs HE6.out HC6.out rfl rfl ?_
 intro w4 hk4 hb hs4
 refine hK _ _ (grown_then hX hb) ?_
 clear hK K
 (try simp only [Act.put, qA, qB, qC])
 replace hX := grown_then hX hb
 replace hC := hC.trans (hb.mono hC.size)
 have R4 := qH (row_two (B := w4.heap.size) hk4 (RxV.mono (HES.out.stay hb) hb.size) (RxV.mono (X.out.stay (B2.out.trans (hC.mono B2.out.size))) (Nat.le_trans B2.out.size hC.size)) hk4.lt)
 clear hk4 hb hs4
 refine sg_actB (i := 8) (o := ⟨some 49, _, _, _, _, _⟩) rfl (by kernel_rfl) rfl hX (fun K hK => ?_)
 go_wp2_with fail
 have S4 := qH hC.size
 refine (refCat_any _ _ w4 R4.out HCN.out).mono ?_
 rintro e w6 ⟨ds, rfl, hd6, hb⟩
 go_wp2_with fail
 refine hK _ _ (grown_then hX hb) ?_
 clear hK K
 (try simp only [Act.put, qA, qB, qC])
 replace hX := grown_then hX hb
 replace hC := hC.trans (hb.mono hC.size)
 have F6 := qH (Fr.of hd6 S4.out)
 clear hd6 hb
 have D6 := qH F6.out.v.length
 have D1 := qH (show ds.all (·.oneCell') = true from List.all_eq_true.2 (RxD.one F6.out))
 have B6 := qH (B2.out.trans (hC.mono B2.out.size))
 have K6 := qH (K2.out.below hC K2.out.lt)
 have HK6 := qH K2.out.lt
 refine sg_actB (i := 9) (o := ⟨none, _, _, _, _, _⟩) rfl (by kernel_rfl) rfl hX (fun K hK => ?_)
 refine wp_stBlk 29 _ _ rfl w1.heap.size ds rfl rfl 29 _ K6.out (size_rx D6.out) (by rw [HZL.out, D6.out]) D1.out B6.out B1.out.size ?_
 intro w7 hk7 hb7 hs7 ho7 hbx
 have hX9 := grown_at hX (grown_belowG hX K2.out.lt) ((grown_belowG hX K2.out.lt).trans (hbx w1.heap.size (Nat.le_refl _))) (by rw [hs7]; exact Nat.le_refl _) ho7
 refine hK _ _ hX9 ?_
 clear hK K
 refine wpAnyH_done (by kernel_rfl) ?_ _
 have K7 := qH hk7
 have B7 := qH hb7
 have V7 := qH (F6.out.put ho7 hs7 HK6.out)
 clear hX hX9 hk7 hb7 hs7 ho7 hbx hC
 go_wp2_with fail
 refine bodyPost_ret (results_blk rfl _ _ w1.heap.size 29 _ _ rfl K7.out Tryz.underlying29 rfl (size_rx D6.out)) rfl ?_
 exact ⟨ds, rfl, by rw [HR.out]; exact RxD.mono V7.out fun k hk => ⟨Nat.le_trans B2.out.size hk.1, hk.2⟩, B7.out⟩
/-! ### sequences -/
theorem sl_rxA {a : Act} {o : Oper} (x : Operand) (ho : o.op = .slice 27 x (some (.const (.int .i64 1))) none none) {b off n c : Nat} {A2 : Option Addr} (hA : (if c = 0 + 1 then some ⟨b, off, none⟩ else some ⟨b, off + (0 + 1) * 6, none⟩) = A2) (hx : a.eval x = .slice (some ⟨b, off, none⟩) n c) (hk : 1 ≤ n) (W : World) :
  (execOp a.eval o).run Tryz.prog W = .ok (.value (.slice A2 (n - (0 + 1)) (c - (0 + 1)))) W := by
 subst hA
 exact sl_rx1 x ho hx hk W
theorem ix_rx {a : Act} {o : Oper} (x i : Operand) (ho : o.op = .indexAddr 27 x i) {b off n c q : Nat} (hx : a.eval x = .slice (some ⟨b, off, none⟩) n c) (hi : a.eval i = .int .i64 (q : Int)) (hq : q < n) (W : World) : (execOp a.eval o).run Tryz.prog W = .ok (.value (.pointer (some ⟨b, off + q * 6, none⟩))) W := by
 have h1 : (q : Int) < (n : Int) := Int.ofNat_lt.2 hq
 simp only [execOp, ho, hx, hi]
 go_simp
theorem wp_newR {P : Program} {w : World} {o : Oper} {a : Act} {K : Act → World → Prop} {Q : Exit → Act → World → Prop} (ty : TypeId) (ho : o.op = .alloc ty) (i : TypeInfo) (z : Value) (cs : List Value) (hi : P.info? ty = some i) (hz : i.zero = some z) (hc : z.cells = cs.toArray)
  (h : ∀ w', Blk w' w.heap.size ty cs → Below w.heap.size w w' → w'.heap.size = w.heap.size + 1 → K (a.put o.dst (.pointer (some ⟨w.heap.size, 0, none⟩))) w') : o.wp P a w K Q := by
 unfold Oper.wp
 have hrun : (Instr.alloc ty true (.tuple #[])).run P w = .ok (.pointer (some ⟨w.heap.size, 0, none⟩)) (w.alloc (.cells cs.toArray ty)) := by
  have hzv : (zeroValue ty).run P w = .ok z w := by simp [zeroValue, typeInfo, hi, hz]
  simp [Instr.alloc, hzv, newVar, hc, run_newRow_blk]
 simp only [execOp, ho, hrun, Sem.run_bind, Result.andThen_ok, Sem.run_pure]
 exact h _ (Blk.new w ty cs) ((Below.refl _ _).alloc (Nat.le_refl _) _) (by simp)
-- acts of region 16; $1 the world ahead, $2 behind, $3 a text that carries on what is there
-- $1 the world ahead of the store, $2 that of the alloc
set_option maxHeartbeats 8000000 in
set_option maxRecDepth 1000000 in
theorem rstep_k4 (N : Nat) (ih : RStepC N) (s : Nat → Bool) (l : List T) (hN : (T.node 4 s l).nodes ≤ N + 1) (hM : (T.node 4 s l).nodes ≤ 2000) (hg : good (.node 4 s l)) (b : UInt8) (cs : List Value) (w : World) (hv : RxV w.heap.size w cs (.node 4 s l)) :
  Calls Tryz.prog 18 #[.agg cs.toArray, bv b] w fun e w' => ∃ ds, e = .returned (.agg ds.toArray) ∧ RxD (fun k => w.heap.size ≤ k ∧ k < w'.heap.size) w' ds (stepT (.node 4 s l) b.toNat) ∧ Below w.heap.size w w' := by
 have IH := qH ih
 clear ih
 have X := qH hv
 have HC6 := qH hv.length
 obtain ⟨A, cap, f, hcs, h1, h2, h0, h3, h4⟩ := hv.opened
 have H3 := qH h3
 have H4 := qH h4
 have HCL := qH h1
 have HCM := qH h2
 have HTM := qH hM
 have HNN := qH (show T.nodes (.node 4 s l) = 1 + nodesL l by simp only [T.nodes])
 rw [HNN.out] at hN hM
 have HN := qH (show nodesL l ≤ N by omega)
 have HM := qH (show nodesL l ≤ 2000 by omega)
 have HG := qH hg
 have HGL := qH (good_node.1 hg).2.1
 have HC0 := qH (show cs[0]? = some (.int .i64 4) by rw [hcs]; rfl)
 have HC5 := qH (show cs[5]? = some (.slice A l.length cap) by rw [hcs]; rfl)
 have HCS := qH hcs
 have HBT := qH (show b.toNat < 256 from b.toNat_lt)
 obtain ⟨i0, hi0, hz0, hz1, hz2⟩ := inf_rx'
 obtain ⟨z, hz⟩ : ∃ z, z = rxc 0 zeroS (.slice none 0 0) := ⟨_, rfl⟩
 have HZL := qH (show z.length = 6 by rw [hz]; rfl)
 have HZ0 := qH (show i0.zero = some (.agg z.toArray) by rw [hz]; exact hz0)
 have HZ1 := qH hz0
 clear hz hz0
 clear hv h1 h2 h0 h3 h4 hcs hN hM hg
 obtain ⟨a, r, har⟩ : ∃ a r, l = a :: r := by
  have hc := (good_node.1 HG.out).2.2.2.1
  rw [count45 (.inl rfl)] at hc
  cases l with
  | nil => simp at hc
  | cons a r => exact ⟨a, r, rfl⟩
 have HR := qH (show stepT (.node 4 s l) b.toNat = if nullT a then altT [catT [stepT a b.toNat, catT r], stepT (catT r) b.toNat] else catT [stepT a b.toNat, catT r] by rw [har]; exact step_cat (har ▸ HG.out) b)
 have HTC := qH (tail_cat (har ▸ HG.out))
 have HNL := qH (show nodesL l = a.nodes + nodesL r by rw [har]; rfl)
 have HAG := qH (HGL.out a (by rw [har]; simp))
 have HGR := qH (show ∀ t ∈ r, good t from fun t ht => HGL.out t (by rw [har]; simp [ht]))
 have HAN := qH (show a.nodes ≤ N by have := HN.out; have := HNL.out; omega)
 have HAM := qH (show a.nodes ≤ 2000 by have := HM.out; have := HNL.out; omega)
 have HRN := qH (show nodesL r ≤ 549755813888 by have := HM.out; have := HNL.out; omega)
 have HYK := qH (show (catT r).nodes ≤ nodesL l by have h1 := HTC.out.2.1; rw [← har] at h1; have h2 := HNN.out; omega)
 have HYN := qH (Nat.le_trans HYK.out HN.out)
 have HYM := qH (Nat.le_trans HYK.out HM.out)
 have HCN := qH (show nodesL [stepT a b.toNat, catT r] ≤ 549755813888 by
  have h1 := step_few HAG.out b HAM.out
  have h2 := HYM.out
  simp only [nodesL]
  omega)
 have HAN2 := qH (show nodesL [catT [stepT a b.toNat, catT r], stepT (catT r) b.toNat] ≤ 549755813887 by
  have h1 := step_few HAG.out b HAM.out
  have h2 := step_few HTC.out.1 b HYM.out
  have h3 := HYM.out
  have h4 := catT_nodes [stepT a b.toNat, catT r]
  simp only [nodesL] at h4 ⊢
  omega)
 have HA0 := qH (show l[0]? = some a by rw [har]; rfl)
 have HDR := qH (show l.drop (0 + 1) = r by rw [har]; rfl)
 have HPL := qH (show 0 < l.length by rw [har]; simp)
 have j1 : (0 : Int) < (l.length : Int) := Int.ofNat_lt.2 HPL.out
 obtain ⟨bb, off, rfl, hbb, hrng⟩ := H3.out (by rw [har]; simp)
 have HRG := qH (hrng 0 HPL.out)
 have HBB := qH hbb
 have HVA := qH (H4.out 0 a HA0.out)
 have HV6 := qH HVA.out.length
 have HROW := qH (show RowD (fun k => k < w.heap.size) w (.slice (some ⟨bb, off, none⟩) l.length cap) l from ⟨_, cap, f, rfl, HCL.out, HCM.out, (fun h => by cases h), fun _ => ⟨bb, off, rfl, hbb, hrng⟩, H4.out⟩)
 obtain ⟨A2, hA2⟩ : ∃ A2 : Option Addr, (if cap = 0 + 1 then some ⟨bb, off, none⟩ else some ⟨bb, off + (0 + 1) * 6, none⟩) = A2 := ⟨_, rfl⟩
 have HIF := qH hA2
 have HRD := qH (show RowT w.heap.size w (.slice A2 (l.length - (0 + 1)) (cap - (0 + 1))) r by rw [← hA2, ← HDR.out]; exact (rowD_drop HROW.out HPL.out).rowT)
 clear hrng hbb har hA2
 go_enter Tryz.func18, Tryz.ntmps18
 go_wp2_with (first
  | ((with_reducible refine atDst 2 ?_); refine wpList_box rfl 29 _ rfl cs rfl (Below.refl w.heap.size w) (Nat.le_refl _) ?_; intro w1 hk1 hb1 hs1 _; have L1 := qH hk1; have B1 := qH hb1; clear hk1 hb1 hs1; (try simp only [Act.put, qA, qB, qC]))
  | ((with_reducible refine atDst 4 ?_); refine wpList_new rfl 29 rfl i0 _ z hi0 HZ0.out rfl B1.out B1.out.size ?_; intro w2 hk2 hb2 hs2 ho2; have K2 := qH hk2; have B2 := qH hb2; have L2 := qH (show Blk w2 w.heap.size 29 cs from (ho2 _ L1.out.lt).trans L1.out); have c0 := L2.out.cell 0; rw [HC0.out] at c0; have c5 := L2.out.cell 5; rw [HC5.out] at c5; have RS := qH (set_range' HCS.out L2.out); clear hk2 hb2 hs2 ho2; (try simp only [Act.put, qA, qB, qC]))
  | ((with_reducible refine atDst 54 ?_); refine wpList_rd rfl (sl_rxA (.tmp 53) rfl HIF.out rfl HPL.out _) ?_; (try simp only [Act.put, qA, qB, qC])))
 refine (refCat_any r _ w2 (RowT.monoX (HRD.out.below B2.out) B2.out.size) HRN.out).mono ?_
 rintro e w3 ⟨ys, rfl, hys, hb⟩
 have HY3 := qH (show Fr w2.heap.size w3 ys (catT r) from hys)
 have HY6 := qH hys.length
 have HY1 := qH (show ys.all (·.oneCell') = true from List.all_eq_true.2 (RxD.one hys))
 have C3 := qH hb
 clear hys hb
 go_wp2_with (first
  | ((with_reducible refine atDst 7 ?_); refine wpList_new rfl 29 rfl i0 _ z hi0 HZ0.out rfl (Below.refl w3.heap.size w3) (Nat.le_refl _) ?_; intro w4 hk hb hs ho; have M4 := qH hk; have B34 := qH hb; clear hk hb hs ho; (try simp only [Act.put, qA, qB, qC]))
  | ((with_reducible refine atStore 29 7 55 ?_); refine wpList_stBlk rfl 29 _ _ rfl w3.heap.size ys rfl rfl 29 _ M4.out (size_rx HY6.out) (by rw [HZL.out, HY6.out]) HY1.out B34.out (Nat.le_refl _) ?_; intro w5 hk hb hs ho; have M5 := qH hk; have B35 := qH hb; clear hk hb hs ho; (try simp only [Act.put, qA, qB, qC])))
 have HY := qH (HY3.out.keep B35.out)
 have C5 := qH (C3.out.trans (B35.out.mono C3.out.size))
 have B5 := qH (B2.out.trans (C5.out.mono B2.out.size))
 have L5 := qH (L2.out.below C5.out L2.out.lt)
 have k5 := L5.out.cell 5
 rw [HC5.out] at k5
 refine sg_start (S := fun V => Below w5.heap.size w5 V) (by kernel_rfl) (Below.refl _ _).drew (fun wd hwd => ?_)
 have hX : Below w5.heap.size w5 wd := by rw [hwd]; exact (Below.refl _ _).drew
 clear hwd
 have HRG5 := qH (range_below HRG.out B5.out HBB.out)
 refine sg_take (i := 0) (oi := ⟨some 56, _, _, _, _, _⟩) (v := ?_) rfl (by kernel_rfl) (by kernel_rfl) (by kernel_rfl) (fun _ _ _ h => h) rfl hX ?_ ?_; rotate_left; (intro W hW; go_simp; try with_reducible rfl); simp only [Act.put, qA, qB, qC]
 refine sg_take (i := 1) (oi := ⟨some 57, _, _, _, _, _⟩) (v := .slice (some ⟨bb, off, none⟩) l.length cap) rfl (by kernel_rfl) (by kernel_rfl) (by kernel_rfl) (fun _ _ _ h => h) rfl hX (fun V hV => ld_rxs (.tmp 56) rfl rfl ((hV.cell (p := ⟨w.heap.size, 5, none⟩) L5.out.lt).trans k5)) ?_; simp only [Act.put, qA, qB, qC]
 refine sg_take (i := 2) (oi := ⟨some 58, _, _, _, _, _⟩) (v := .pointer (some ⟨bb, off + 0 * 6, none⟩)) rfl (by kernel_rfl) (by kernel_rfl) (by kernel_rfl) (fun _ _ _ h => h) rfl hX (fun V hV => ix_rx (.tmp 57) (.const (.int .i64 0)) rfl rfl rfl HPL.out V) ?_; simp only [Act.put, qA, qB, qC]
 refine sg_take (i := 3) (oi := ⟨some 59, _, _, _, _, _⟩) (v := .agg (f 0).toArray) rfl (by kernel_rfl) (by kernel_rfl) (by kernel_rfl) (fun _ _ _ h => h) rfl hX (fun V hV => ld_keep 29 _ rfl bb (off + 0 * 6) rfl _ _ HRG5.out (hV.block bb (Nat.lt_of_lt_of_le HBB.out B5.out.size)) Tryz.underlying29 rfl (size_rx HV6.out)) ?_; simp only [Act.put, qA, qB, qC]
 refine sg_take (i := 4) (oi := ⟨some 60, _, _, _, _, _⟩) (v := ?_) rfl (by kernel_rfl) (by kernel_rfl) (by kernel_rfl) (fun _ _ _ h => h) rfl hX ?_ ?_; rotate_left; (intro W hW; go_simp; try with_reducible rfl); simp only [Act.put, qA, qB, qC]
 refine sg_take (i := 6) (oi := ⟨some 62, _, _, _, _, _⟩) (v := .agg ys.toArray) rfl (by kernel_rfl) (by kernel_rfl) (by kernel_rfl) (fun _ _ _ h => h) rfl hX (fun V hV => ld_keep 29 _ rfl w3.heap.size 0 rfl _ _ (fun i v hv => (M5.out.cell (0 + i)).trans (by rw [Nat.zero_add]; exact hv)) (hV.block _ M5.out.lt) Tryz.underlying29 rfl (size_rx HY6.out)) ?_; simp only [Act.put, qA, qB, qC]
 refine sg_two (i := 5) (j := 9) (oi := ⟨some 61, _, _, _, _, _⟩) (oj := ⟨some 8, _, _, _, _, _⟩) rfl rfl (by kernel_rfl) rfl rfl hX (fun K hK => ?_) (fun K hK => ?_)
 focus
  go_wp2_with fail
  refine (IH.out a HAN.out HAM.out HAG.out b (f 0) wd (RxV.mono (HVA.out.stay (B5.out.trans (hX.mono B5.out.size))) (Nat.le_trans B5.out.size hX.size))).mono ?_
  rintro e wa ⟨es, rfl, hes, hb⟩
  go_wp2_with fail
  refine hK _ _ (hX.trans (hb.mono hX.size)) ?_
  clear hK K
  (try simp only [Act.put, qA, qB, qC])
  replace hX := hX.trans (hb.mono hX.size)
  have HES := qH (Fr.v hes)
  have HE6 := qH hes.length
  skip
  clear hes hb
  refine sg_two (i := 7) (j := 9) (oi := ⟨some 63, _, _, _, _, _⟩) (oj := ⟨some 8, _, _, _, _, _⟩) rfl rfl (by kernel_rfl) rfl rfl hX (fun K hK => ?_) (fun K hK => ?_)
  focus
   refine wp_bldT2 27 29 (.tmp 61) (.tmp 62) rfl i0 Tryz.underlying27 hi0 HZ1.out hz1 es ys HE6.out HY6.out rfl rfl ?_
   intro wb hk4 hb hs4
   refine hK _ _ (hX.trans (hb.mono hX.size)) ?_
   clear hK K
   (try simp only [Act.put, qA, qB, qC])
   replace hX := hX.trans (hb.mono hX.size)
   have R4 := qH (row_two (B := wb.heap.size) hk4 (RxV.mono (HES.out.stay hb) hb.size) (RxV.mono (HY.out.v.stay hX) hX.size) hk4.lt)
   skip
   clear hk4 hb hs4
   refine sg_two (i := 8) (j := 9) (oi := ⟨some 64, _, _, _, _, _⟩) (oj := ⟨some 8, _, _, _, _, _⟩) rfl rfl (by kernel_rfl) rfl rfl hX (fun K hK => ?_) (fun K hK => ?_)
   focus
    go_wp2_with fail
    have S4 := qH (Nat.le_trans C5.out.size hX.size)
    refine (refCat_any _ _ wb R4.out HCN.out).mono ?_
    rintro e wc ⟨qs, rfl, hd6, hb⟩
    go_wp2_with fail
    refine hK _ _ (hX.trans (hb.mono hX.size)) ?_
    clear hK K
    (try simp only [Act.put, qA, qB, qC])
    replace hX := hX.trans (hb.mono hX.size)
    have Q6 := qH hd6.length
    have Q1 := qH (show qs.all (·.oneCell') = true from List.all_eq_true.2 (RxD.one hd6))
    have FH := qH hd6
    clear hd6 hb
    refine sg_actB (i := 9) (o := ⟨some 8, _, _, _, _, _⟩) rfl (by kernel_rfl) rfl hX (fun K hK => ?_)
    obtain ⟨wK, hwK⟩ : ∃ v : World, v = wc := ⟨_, rfl⟩
    subst hwK
    have HG8 := qH hX.size
    refine wp_newR 29 rfl i0 _ z hi0 HZ0.out rfl ?_
    intro we hk hb hsz
    refine hK _ _ (hX.trans (hb.mono hX.size)) ?_
    clear hK K
    (try simp only [Act.put, qA, qB, qC])
    replace hX := hX.trans (hb.mono hX.size)
    have K8 := qH hk
    have FX := qH (show RxD (fun k => w2.heap.size ≤ k ∧ k < we.heap.size ∧ k ≠ wK.heap.size) we qs _ from RxD.mono (RxD.stay FH.out (w' := we) fun k hk => hb.block k hk.2) fun k hk => ⟨Nat.le_trans S4.out hk.1, Nat.lt_of_lt_of_le hk.2 hb.size, Nat.ne_of_lt hk.2⟩)
    clear hk hb hsz
   rotate_left
   focus
    obtain ⟨wK, hwK⟩ : ∃ v : World, v = wb := ⟨_, rfl⟩
    subst hwK
    have HG8 := qH hX.size
    refine wp_newR 29 rfl i0 _ z hi0 HZ0.out rfl ?_
    intro wc hk hb hsz
    refine hK _ _ (hX.trans (hb.mono hX.size)) ?_
    clear hK K
    (try simp only [Act.put, qA, qB, qC])
    replace hX := hX.trans (hb.mono hX.size)
    have K8 := qH hk
    have R4 := qH ((R4.out.below hb).monoX hb.size)
    clear hk hb hsz
    refine sg_actB (i := 8) (o := ⟨some 64, _, _, _, _, _⟩) rfl (by kernel_rfl) rfl hX (fun K hK => ?_)
    go_wp2_with fail
    have S4 := qH (Nat.le_trans C5.out.size hX.size)
    refine (refCat_any _ _ wc R4.out HCN.out).mono ?_
    rintro e we ⟨qs, rfl, hd6, hb⟩
    go_wp2_with fail
    refine hK _ _ (hX.trans (hb.mono hX.size)) ?_
    clear hK K
    (try simp only [Act.put, qA, qB, qC])
    replace hX := hX.trans (hb.mono hX.size)
    have Q6 := qH hd6.length
    have Q1 := qH (show qs.all (·.oneCell') = true from List.all_eq_true.2 (RxD.one hd6))
    have FX := qH (show RxD (fun k => w2.heap.size ≤ k ∧ k < we.heap.size ∧ k ≠ wK.heap.size) we qs _ from RxD.mono hd6 fun k hk => ⟨Nat.le_trans S4.out hk.1, hk.2, by have h1 := hk.1; have h2 := K8.out.lt; omega⟩); have K8 := qH (K8.out.below hb K8.out.lt)
    clear hd6 hb
   rotate_left
  rotate_left
  rotate_left
  focus
   obtain ⟨wK, hwK⟩ : ∃ v : World, v = wa := ⟨_, rfl⟩
   subst hwK
   have HG8 := qH hX.size
   refine wp_newR 29 rfl i0 _ z hi0 HZ0.out rfl ?_
   intro wb hk hb hsz
   refine hK _ _ (hX.trans (hb.mono hX.size)) ?_
   clear hK K
   (try simp only [Act.put, qA, qB, qC])
   replace hX := hX.trans (hb.mono hX.size)
   have K8 := qH hk
   have HES := qH (RxV.mono (HES.out.stay hb) hb.size)
   clear hk hb hsz
   refine sg_actB (i := 7) (o := ⟨some 63, _, _, _, _, _⟩) rfl (by kernel_rfl) rfl hX (fun K hK => ?_)
   refine wp_bldT2 27 29 (.tmp 61) (.tmp 62) rfl i0 Tryz.underlying27 hi0 HZ1.out hz1 es ys HE6.out HY6.out rfl rfl ?_
   intro wc hk4 hb hs4
   refine hK _ _ (hX.trans (hb.mono hX.size)) ?_
   clear hK K
   (try simp only [Act.put, qA, qB, qC])
   replace hX := hX.trans (hb.mono hX.size)
   have R4 := qH (row_two (B := wc.heap.size) hk4 (RxV.mono (HES.out.stay hb) hb.size) (RxV.mono (HY.out.v.stay hX) hX.size) hk4.lt)
   have K8 := qH (K8.out.below hb K8.out.lt)
   clear hk4 hb hs4
   refine sg_actB (i := 8) (o := ⟨some 64, _, _, _, _, _⟩) rfl (by kernel_rfl) rfl hX (fun K hK => ?_)
   go_wp2_with fail
   have S4 := qH (Nat.le_trans C5.out.size hX.size)
   refine (refCat_any _ _ wc R4.out HCN.out).mono ?_
   rintro e we ⟨qs, rfl, hd6, hb⟩
   go_wp2_with fail
   refine hK _ _ (hX.trans (hb.mono hX.size)) ?_
   clear hK K
   (try simp only [Act.put, qA, qB, qC])
   replace hX := hX.trans (hb.mono hX.size)
   have Q6 := qH hd6.length
   have Q1 := qH (show qs.all (·.oneCell') = true from List.all_eq_true.2 (RxD.one hd6))
   have FX := qH (show RxD (fun k => w2.heap.size ≤ k ∧ k < we.heap.size ∧ k ≠ wK.heap.size) we qs _ from RxD.mono hd6 fun k hk => ⟨Nat.le_trans S4.out hk.1, hk.2, by have h1 := hk.1; have h2 := K8.out.lt; omega⟩); have K8 := qH (K8.out.below hb K8.out.lt)
   clear hd6 hb
  rotate_left
 rotate_left
 rotate_left
 rotate_left
 focus
  obtain ⟨wK, hwK⟩ : ∃ v : World, v = wd := ⟨_, rfl⟩
  subst hwK
  have HG8 := qH hX.size
  refine wp_newR 29 rfl i0 _ z hi0 HZ0.out rfl ?_
  intro wa hk hb hsz
  refine hK _ _ (hX.trans (hb.mono hX.size)) ?_
  clear hK K
  (try simp only [Act.put, qA, qB, qC])
  replace hX := hX.trans (hb.mono hX.size)
  have K8 := qH hk
  skip
  clear hk hb hsz
  refine sg_actB (i := 5) (o := ⟨some 61, _, _, _, _, _⟩) rfl (by kernel_rfl) rfl hX (fun K hK => ?_)
  go_wp2_with fail
  refine (IH.out a HAN.out HAM.out HAG.out b (f 0) wa (RxV.mono (HVA.out.stay (B5.out.trans (hX.mono B5.out.size))) (Nat.le_trans B5.out.size hX.size))).mono ?_
  rintro e wb ⟨es, rfl, hes, hb⟩
  go_wp2_with fail
  refine hK _ _ (hX.trans (hb.mono hX.size)) ?_
  clear hK K
  (try simp only [Act.put, qA, qB, qC])
  replace hX := hX.trans (hb.mono hX.size)
  have HES := qH (Fr.v hes)
  have HE6 := qH hes.length
  have K8 := qH (K8.out.below hb K8.out.lt)
  clear hes hb
  refine sg_actB (i := 7) (o := ⟨some 63, _, _, _, _, _⟩) rfl (by kernel_rfl) rfl hX (fun K hK => ?_)
  refine wp_bldT2 27 29 (.tmp 61) (.tmp 62) rfl i0 Tryz.underlying27 hi0 HZ1.out hz1 es ys HE6.out HY6.out rfl rfl ?_
  intro wc hk4 hb hs4
  refine hK _ _ (hX.trans (hb.mono hX.size)) ?_
  clear hK K
  (try simp only [Act.put, qA, qB, qC])
  replace hX := hX.trans (hb.mono hX.size)
  have R4 := qH (row_two (B := wc.heap.size) hk4 (RxV.mono (HES.out.stay hb) hb.size) (RxV.mono (HY.out.v.stay hX) hX.size) hk4.lt)
  have K8 := qH (K8.out.below hb K8.out.lt)
  clear hk4 hb hs4
  refine sg_actB (i := 8) (o := ⟨some 64, _, _, _, _, _⟩) rfl (by kernel_rfl) rfl hX (fun K hK => ?_)
  go_wp2_with fail
  have S4 := qH (Nat.le_trans C5.out.size hX.size)
  refine (refCat_any _ _ wc R4.out HCN.out).mono ?_
  rintro e we ⟨qs, rfl, hd6, hb⟩
  go_wp2_with fail
  refine hK _ _ (hX.trans (hb.mono hX.size)) ?_
  clear hK K
  (try simp only [Act.put, qA, qB, qC])
  replace hX := hX.trans (hb.mono hX.size)
  have Q6 := qH hd6.length
  have Q1 := qH (show qs.all (·.oneCell') = true from List.all_eq_true.2 (RxD.one hd6))
  have FX := qH (show RxD (fun k => w2.heap.size ≤ k ∧ k < we.heap.size ∧ k ≠ wK.heap.size) we qs _ from RxD.mono hd6 fun k hk => ⟨Nat.le_trans S4.out hk.1, hk.2, by have h1 := hk.1; have h2 := K8.out.lt; omega⟩); have K8 := qH (K8.out.below hb K8.out.lt)
  clear hd6 hb
 all_goals
  refine sg_actB (i := 10) (o := ⟨none, _, _, _, _, _⟩) rfl (by kernel_rfl) rfl hX (fun K hK => ?_)
  refine wp_stBlk 29 _ _ rfl wK.heap.size qs rfl rfl 29 _ K8.out (size_rx Q6.out) (by rw [HZL.out, Q6.out]) Q1.out (Below.refl w5.heap.size we) HG8.out ?_
  intro w9 hk9 hb9 hs9 ho9 hbx
  refine hK _ _ (hX.trans (hbx w5.heap.size HG8.out)) ?_
  clear hK K
  refine wpAnyH_done (by kernel_rfl) ?_ _
  have K9 := qH hk9
  have Q9 := qH (show Fr w2.heap.size w9 qs (catT [stepT a b.toNat, catT r]) from RxD.mono (RxD.stay FX.out (w' := w9) fun k hk => ho9 k hk.2.2) fun k hk => ⟨hk.1, by rw [hs9]; exact hk.2.1⟩)
  have X9 := qH (hX.trans (hbx w5.heap.size HG8.out))
  clear hX hk9 hb9 hs9 ho9 hbx
  have C9 := qH (C5.out.trans (X9.out.mono C5.out.size))
  have B9 := qH (B2.out.trans (C9.out.mono B2.out.size))
  have L9 := qH (L2.out.below C9.out L2.out.lt)
  have R9 := qH (K2.out.below C9.out K2.out.lt)
  have M9 := qH (M5.out.below X9.out M5.out.lt)
  have Y9 := qH (HY.out.keep X9.out)
  have k9 := L9.out.cell 5
  rw [HC5.out] at k9
  obtain ⟨nv, hnv⟩ : ∃ x, x = nullT a := ⟨_, rfl⟩
  have HNV := qH hnv
  clear hnv
  go_wp2_with ((with_reducible refine atDst 68 ?_); refine wpList_load_mid rfl 29 _ rfl bb (off + 0 * 6) rfl (f 0) _ (range_below HRG.out B9.out HBB.out) Tryz.underlying29 rfl (size_rx HV6.out) ?_; (try simp only [Act.put, qA, qB, qC]))
  refine (refNull_any _ a (Nat.le_refl _) (Nat.le_trans HAM.out (by decide)) (f 0) w9 (RxV.mono (HVA.out.stay B9.out) B9.out.size)).mono ?_
  rintro e wn ⟨rfl, hbn⟩
  rw [← HNV.out]
  have CN := qH (C9.out.trans (hbn.mono C9.out.size))
  have BN := qH (B2.out.trans (CN.out.mono B2.out.size))
  have QN := qH (Q9.out.keep hbn)
  have KN := qH (K9.out.below hbn K9.out.lt)
  have YN := qH (Y9.out.keep hbn)
  have MN := qH (M9.out.below hbn M9.out.lt)
  have RN := qH (R9.out.below hbn R9.out.lt)
  have HKN := qH K2.out.lt
  have HGN := qH (Nat.le_trans C5.out.size HG8.out)
  clear hbn
  cases nv with
  | false =>
   have HR' := qH (show stepT (.node 4 s l) b.toNat = catT [stepT a b.toNat, catT r] by rw [HR.out, ← HNV.out]; rfl)
   go_wp2_with (first
    | ((with_reducible refine atDst 76 ?_); refine wpList_ldArr rfl 29 _ rfl wK.heap.size rfl 29 _ _ KN.out Tryz.underlying29 rfl (size_rx Q6.out) ?_; (try simp only [Act.put, qA, qB, qC]))
    | ((with_reducible refine atStore 29 4 76 ?_); refine wpList_stBlk rfl 29 _ _ rfl w1.heap.size qs rfl rfl 29 _ RN.out (size_rx Q6.out) (by rw [HZL.out, Q6.out]) Q1.out BN.out B1.out.size ?_; intro w7 hk7 hb7 hs7 ho7; have K7 := qH hk7; have B7 := qH hb7; have V7 := qH (QN.out.put ho7 hs7 HKN.out); clear hk7 hb7 hs7 ho7; (try simp only [Act.put, qA, qB, qC])))
   refine bodyPost_ret (results_blk rfl _ _ w1.heap.size 29 _ _ rfl K7.out Tryz.underlying29 rfl (size_rx Q6.out)) rfl ?_
   exact ⟨qs, rfl, by rw [HR'.out]; exact RxD.mono V7.out fun k hk => ⟨Nat.le_trans B2.out.size hk.1, hk.2⟩, B7.out⟩
  | true =>
   have HR' := qH (show stepT (.node 4 s l) b.toNat = altT [catT [stepT a b.toNat, catT r], stepT (catT r) b.toNat] by rw [HR.out, ← HNV.out]; rfl)
   go_wp2_with fail
   refine sg_start (S := fun V => wn.grownBy V (some w1.heap.size)) (by kernel_rfl) (grown_start wn _) (fun wt hwd => ?_)
   have hX : wn.grownBy wt (some w1.heap.size) := by rw [hwd]; exact grown_start wn _
   have hC : Below wn.heap.size wn wt := by rw [hwd]; exact (Below.refl _ _).drew
   have HNE8 := qH (show some wK.heap.size ≠ some w1.heap.size from fun e => by have h1 := Option.some.inj e; have h2 := HGN.out; have h3 := HKN.out; omega)
   have HNE7 := qH (show some w3.heap.size ≠ some w1.heap.size from fun e => by have h1 := Option.some.inj e; have h2 := C3.out.size; have h3 := HKN.out; omega)
   clear hwd
   refine sg_take (i := 0) (oi := ⟨some 70, _, _, _, _, _⟩) (v := .agg qs.toArray) rfl (by kernel_rfl) (by kernel_rfl) (by kernel_rfl) (fun _ _ _ h => h) rfl hX (fun V hV => ld_keep 29 _ rfl wK.heap.size 0 rfl _ _ (fun i v hv => (KN.out.cell (0 + i)).trans (by rw [Nat.zero_add]; exact hv)) (hV.block _ KN.out.lt HNE8.out) Tryz.underlying29 rfl (size_rx Q6.out)) ?_; simp only [Act.put, qA, qB, qC]
   refine sg_take (i := 1) (oi := ⟨some 71, _, _, _, _, _⟩) (v := .agg ys.toArray) rfl (by kernel_rfl) (by kernel_rfl) (by kernel_rfl) (fun _ _ _ h => h) rfl hX (fun V hV => ld_keep 29 _ rfl w3.heap.size 0 rfl _ _ (fun i v hv => (MN.out.cell (0 + i)).trans (by rw [Nat.zero_add]; exact hv)) (hV.block _ MN.out.lt HNE7.out) Tryz.underlying29 rfl (size_rx HY6.out)) ?_; simp only [Act.put, qA, qB, qC]
   refine sg_take (i := 2) (oi := ⟨some 72, _, _, _, _, _⟩) (v := ?_) rfl (by kernel_rfl) (by kernel_rfl) (by kernel_rfl) (fun _ _ _ h => h) rfl hX ?_ ?_; rotate_left; (intro W hW; go_simp; try with_reducible rfl); simp only [Act.put, qA, qB, qC]
   refine sg_actB (i := 3) (o := ⟨some 73, _, _, _, _, _⟩) rfl (by kernel_rfl) rfl hX (fun K hK => ?_)
   go_wp2_with fail
   refine (IH.out (catT r) HYN.out HYM.out HTC.out.1 b ys wt (RxV.mono (YN.out.v.stay hC) hC.size)).mono ?_
   rintro e wx ⟨zs, rfl, hzs, hb⟩
   go_wp2_with fail
   refine hK _ _ (grown_then hX hb) ?_
   clear hK K
   (try simp only [Act.put, qA, qB, qC])
   replace hX := grown_then hX hb
   replace hC := hC.trans (hb.mono hC.size)
   have HZS := qH (Fr.v hzs)
   have HZ6 := qH hzs.length
   clear hzs hb
   refine sg_actB (i := 4) (o := ⟨some 74, _, _, _, _, _⟩) rfl (by kernel_rfl) rfl hX (fun K hK => ?_)
   refine wp_bldT2 27 29 (.tmp 70) (.tmp 73) rfl i0 Tryz.underlying27 hi0 HZ1.out hz1 qs zs Q6.out HZ6.out rfl rfl ?_
   intro wy hk4 hb hs4
   refine hK _ _ (grown_then hX hb) ?_
   clear hK K
   (try simp only [Act.put, qA, qB, qC])
   replace hX := grown_then hX hb
   replace hC := hC.trans (hb.mono hC.size)
   have R7 := qH (row_two (B := wy.heap.size) hk4 (RxV.mono (QN.out.v.stay hC) hC.size) (RxV.mono (HZS.out.stay hb) hb.size) hk4.lt)
   clear hk4 hb hs4
   refine sg_actB (i := 5) (o := ⟨some 75, _, _, _, _, _⟩) rfl (by kernel_rfl) rfl hX (fun K hK => ?_)
   go_wp2_with fail
   have S7 := qH (Nat.le_trans CN.out.size hC.size)
   refine (refAlt_any _ _ wy R7.out HAN2.out).mono ?_
   rintro e w6 ⟨ds, rfl, hd6, hb⟩
   go_wp2_with fail
   refine hK _ _ (grown_then hX hb) ?_
   clear hK K
   (try simp only [Act.put, qA, qB, qC])
   replace hX := grown_then hX hb
   replace hC := hC.trans (hb.mono hC.size)
   have F6 := qH (Fr.of hd6 S7.out)
   clear hd6 hb
   have D6 := qH F6.out.v.length
   have D1 := qH (show ds.all (·.oneCell') = true from List.all_eq_true.2 (RxD.one F6.out))
   have B6 := qH (BN.out.trans (hC.mono BN.out.size))
   have K6 := qH (RN.out.below hC RN.out.lt)
   refine sg_actB (i := 6) (o := ⟨none, _, _, _, _, _⟩) rfl (by kernel_rfl) rfl hX (fun K hK => ?_)
   refine wp_stBlk 29 _ _ rfl w1.heap.size ds rfl rfl 29 _ K6.out (size_rx D6.out) (by rw [HZL.out, D6.out]) D1.out B6.out B1.out.size ?_
   intro w7 hk7 hb7 hs7 ho7 hbx
   have hX9 := grown_at hX (grown_belowG hX RN.out.lt) ((grown_belowG hX RN.out.lt).trans (hbx w1.heap.size (Nat.le_refl _))) (by rw [hs7]; exact Nat.le_refl _) ho7
   refine hK _ _ hX9 ?_
   clear hK K
   refine wpAnyH_done (by kernel_rfl) ?_ _
   have K7 := qH hk7
   have B7 := qH hb7
   have V7 := qH (F6.out.put ho7 hs7 HKN.out)
   clear hX hX9 hk7 hb7 hs7 ho7 hbx hC
   go_wp2_with fail
   refine bodyPost_ret (results_blk rfl _ _ w1.heap.size 29 _ _ rfl K7.out Tryz.underlying29 rfl (size_rx D6.out)) rfl ?_
   exact ⟨ds, rfl, by rw [HR'.out]; exact RxD.mono V7.out fun k hk => ⟨Nat.le_trans B2.out.size hk.1, hk.2⟩, B7.out⟩
/-! ### all kinds -/
theorem refStep_any : ∀ N : Nat, RStepC N := by
 intro N
 induction N with
 | zero => intro t h; have := nodes_pos t; omega
 | succ N ih =>
  rintro ⟨k, s, l⟩ hN hM hg b cs w hv
  by_cases k3 : k = 3
  ·subst k3; exact rstep_k3 N s l hN hM hg b cs w hv
  by_cases k4 : k = 4
  ·subst k4; exact rstep_k4 N ih s l hN hM hg b cs w hv
  by_cases k5 : k = 5
  ·subst k5; exact rstep_k5 N ih s l hN hM hg b cs w hv
  by_cases k6 : k = 6
  ·subst k6; exact rstep_k6 N ih s l hN hM hg b cs w hv
  exact rstep_no N k s l k3 k4 k5 k6 hN hM hg b cs w hv
end Go.Proofs.YtopnpdobcagcgaaGreat
