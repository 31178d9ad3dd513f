/-
  Texts of this proof, put together: LwU, LwM. No statement is proved here.
-/
import Derived.Test.YtopnpdobcagcgaaGreatMY
import Derived.Test.YtopnpdobcagcgaaGreatMS
namespace Go.Proofs.YtopnpdobcagcgaaGreat
open Go.RowKit
set_option linter.unusedSimpArgs false
set_option linter.unusedVariables false
-- the answer: $1 Below ahead, $2 the answer's Blk ahead, $3 slot
set_option maxHeartbeats 8000000 in
set_option maxRecDepth 1000000 in
theorem lStep0_any : ∀ N : Nat, StepC N := by
 intro N
 induction N with
 | zero => intro t h; have := nodes_pos t; omega
 | succ N ih =>
  rintro ⟨k, s, l⟩ hN hM hg b cs w hv
  have IH := qH ih
  clear ih
  have X := qH hv
  have HC6 := qH hv.length
  obtain ⟨A, cap, f, hcs, h1, h2, h0, h3, h4⟩ := hv.opened
  obtain ⟨vr, hvr, hrow⟩ := RxV.row hv
  have hve : vr = .slice A l.length cap := by
   rw [hcs] at hvr
   have := congrArg (fun l => l[5]?) hvr
   exact (Option.some.inj this).symm
  subst hve
  have HROW := qH hrow
  have H3 := qH h3
  have H4 := qH h4
  have HNN := qH (show T.nodes (.node k s l) = 1 + nodesL l by simp only [T.nodes])
  have HTM := qH hM
  rw [HNN.out] at hN hM
  have HN := qH (show nodesL l ≤ N by omega)
  have HM := qH (show nodesL l ≤ 2000 by omega)
  have HG := qH hg
  have HGL := qH (good_node.1 hg).2.1
  have HC0 := qH (show cs[0]? = some (.int .i64 k) by rw [hcs]; rfl)
  have HC5 := qH (show cs[5]? = some (.slice A l.length cap) by rw [hcs]; rfl)
  have HCS := qH hcs
  have HBT := qH (show b.toNat < 256 from b.toNat_lt)
  obtain ⟨i0, hi0, hz0, hz1, hz2⟩ := inf_rx'
  obtain ⟨z, hz⟩ : ∃ z, z = rxc 0 zeroS (.slice none 0 0) := ⟨_, rfl⟩
  have HZL := qH (show z.length = 6 by rw [hz]; rfl)
  have HZ0 := qH (show i0.zero = some (.agg z.toArray) by rw [hz]; exact hz0)
  have HZ1 := qH hz0
  clear hz hz0
  clear hv h1 h2 h0 h3 h4 hcs hN hM hg hrow hvr
  by_cases k3 : k = 3
  ·obtain ⟨q, hq⟩ : ∃ q, q = s b.toNat := ⟨_, rfl⟩
   have HQ := qH hq
   subst k3
   clear hq
   go_enter Tryz.func40, Tryz.ntmps40
   go_wp2_with (first
    | ((with_reducible refine atDst 2 ?_); refine wpList_box rfl 29 _ rfl cs rfl (Below.refl w.heap.size w) (Nat.le_refl _) ?_; intro w1 hk1 hb1 hs1 _; have L1 := qH hk1; have B1 := qH hb1; clear hk1 hb1 hs1; (try simp only [Act.put, qA, qB, qC]))
    | ((with_reducible refine atDst 4 ?_); refine wpList_new rfl 29 rfl i0 _ z hi0 HZ0.out rfl B1.out B1.out.size ?_; intro w2 hk2 hb2 hs2 ho2; have K2 := qH hk2; have B2 := qH hb2; have L2 := qH (show Blk w2 w.heap.size 29 cs from (ho2 _ L1.out.lt).trans L1.out); have c0 := L2.out.cell 0; rw [HC0.out] at c0; have c5 := L2.out.cell 5; rw [HC5.out] at c5; have RS := qH (set_range' HCS.out L2.out); clear hk2 hb2 hs2 ho2; (try simp only [Act.put, qA, qB, qC]))
    | ((with_reducible refine atDst 10 ?_); refine wpList_ldMidG rfl 26 _ rfl w.heap.size 1 rfl (wds s) _ RS.out Tryz.underlying26 rfl (size_set s) ?_; (try simp only [Act.put, qA, qB, qC])))
   refine (bsHas_any s b.toNat w2 HBT.out).mono ?_
   rintro e w3 ⟨rfl, hb3⟩
   rw [← HQ.out]
   have B3 := qH (B2.out.trans (hb3.mono B2.out.size))
   have K3 := qH (K2.out.below hb3 K2.out.lt)
   clear hb3
   cases q with
   | true =>
    have HR := qH (show stepT (.node 3 s l) b.toNat = emptyT by rw [step_set, ← HQ.out]; rfl)
    go_wp2_with fail
    refine (rxEmpty_any w3).mono ?_
    rintro e w6 ⟨ds, rfl, hd6', hb6⟩
    have hd6 := hd6' fun k => w3.heap.size ≤ k ∧ k < w6.heap.size
    clear hd6'
    have D6 := qH hd6.length
    have D1 := qH (show ds.all (·.oneCell') = true from List.all_eq_true.2 (RxD.one hd6))
    have B6 := qH (B3.out.trans (hb6.mono B3.out.size))
    have K6 := qH (K3.out.below hb6 K3.out.lt)
    have V6 := qH hd6
    have S6 := qH B3.out.size
    have HK6 := qH K3.out.lt
    clear hd6 hb6
    go_wp2_with ((with_reducible refine atStore 29 4 13 ?_); refine wpList_stBlk rfl 29 _ _ rfl w1.heap.size ds rfl rfl 29 _ K6.out (size_rx D6.out) (by rw [HZL.out, D6.out]) D1.out B6.out B1.out.size ?_; intro w7 hk7 hb7 hs7 ho7; have K7 := qH hk7; have B7 := qH hb7; have V7 := qH ((V6.out.stay (w' := w7) fun k hk => ho7 k (by have h1 := hk.1; have h2 := HK6.out; omega)).mono (D' := fun k => w.heap.size ≤ k ∧ k < w7.heap.size) fun k hk => ⟨Nat.le_trans S6.out hk.1, by rw [hs7]; exact hk.2⟩); clear hk7 hb7 hs7 ho7; (try simp only [Act.put, qA, qB, qC]))
    refine bodyPost_ret (results_blk rfl _ _ w1.heap.size 29 _ _ rfl K7.out Tryz.underlying29 rfl (size_rx D6.out)) rfl ?_
    exact ⟨ds, rfl, by rw [HR.out]; exact V7.out, B7.out⟩
   | false =>
    have HR := qH (show stepT (.node 3 s l) b.toNat = noneT by rw [step_set, ← HQ.out]; rfl)
    go_wp2_with fail
    refine (rxNone_any w3).mono ?_
    rintro e w6 ⟨ds, rfl, hd6', hb6⟩
    have hd6 := hd6' fun k => w3.heap.size ≤ k ∧ k < w6.heap.size
    clear hd6'
    have D6 := qH hd6.length
    have D1 := qH (show ds.all (·.oneCell') = true from List.all_eq_true.2 (RxD.one hd6))
    have B6 := qH (B3.out.trans (hb6.mono B3.out.size))
    have K6 := qH (K3.out.below hb6 K3.out.lt)
    have V6 := qH hd6
    have S6 := qH B3.out.size
    have HK6 := qH K3.out.lt
    clear hd6 hb6
    go_wp2_with ((with_reducible refine atStore 29 4 41 ?_); refine wpList_stBlk rfl 29 _ _ rfl w1.heap.size ds rfl rfl 29 _ K6.out (size_rx D6.out) (by rw [HZL.out, D6.out]) D1.out B6.out B1.out.size ?_; intro w7 hk7 hb7 hs7 ho7; have K7 := qH hk7; have B7 := qH hb7; have V7 := qH ((V6.out.stay (w' := w7) fun k hk => ho7 k (by have h1 := hk.1; have h2 := HK6.out; omega)).mono (D' := fun k => w.heap.size ≤ k ∧ k < w7.heap.size) fun k hk => ⟨Nat.le_trans S6.out hk.1, by rw [hs7]; exact hk.2⟩); clear hk7 hb7 hs7 ho7; (try simp only [Act.put, qA, qB, qC]))
    refine bodyPost_ret (results_blk rfl _ _ w1.heap.size 29 _ _ rfl K7.out Tryz.underlying29 rfl (size_rx D6.out)) rfl ?_
    exact ⟨ds, rfl, by rw [HR.out]; exact V7.out, B7.out⟩
  have z3 : (k == 3) = false := by simpa using k3
  by_cases k4 : k = 4
  ·subst k4
   have HR := qH (step_cat_ways HG.out b)
   clear k3
   go_enter Tryz.func40, Tryz.ntmps40
   go_wp2_with (first
    | ((with_reducible refine atDst 2 ?_); refine wpList_box rfl 29 _ rfl cs rfl (Below.refl w.heap.size w) (Nat.le_refl _) ?_; intro w1 hk1 hb1 hs1 _; have L1 := qH hk1; have B1 := qH hb1; clear hk1 hb1 hs1; (try simp only [Act.put, qA, qB, qC]))
    | ((with_reducible refine atDst 4 ?_); refine wpList_new rfl 29 rfl i0 _ z hi0 HZ0.out rfl B1.out B1.out.size ?_; intro w2 hk2 hb2 hs2 ho2; have K2 := qH hk2; have B2 := qH hb2; have L2 := qH (show Blk w2 w.heap.size 29 cs from (ho2 _ L1.out.lt).trans L1.out); have c0 := L2.out.cell 0; rw [HC0.out] at c0; have c5 := L2.out.cell 5; rw [HC5.out] at c5; have RS := qH (set_range' HCS.out L2.out); clear hk2 hb2 hs2 ho2; (try simp only [Act.put, qA, qB, qC]))
    )
   refine (lStepCat_any N IH.out l HN.out HM.out HGL.out b _ w2 (RowT.monoX (HROW.out.below B2.out) B2.out.size)).mono ?_
   rintro e w6 ⟨ds, rfl, hd6, hb6⟩
   have D6 := qH hd6.length
   have D1 := qH (show ds.all (·.oneCell') = true from List.all_eq_true.2 (RxD.one hd6))
   have B6 := qH (B2.out.trans (hb6.mono B2.out.size))
   have K6 := qH (K2.out.below hb6 K2.out.lt)
   have V6 := qH hd6
   have S6 := qH B2.out.size
   have HK6 := qH K2.out.lt
   clear hd6 hb6
   go_wp2_with ((with_reducible refine atStore 29 4 19 ?_); refine wpList_stBlk rfl 29 _ _ rfl w1.heap.size ds rfl rfl 29 _ K6.out (size_rx D6.out) (by rw [HZL.out, D6.out]) D1.out B6.out B1.out.size ?_; intro w7 hk7 hb7 hs7 ho7; have K7 := qH hk7; have B7 := qH hb7; have V7 := qH ((V6.out.stay (w' := w7) fun k hk => ho7 k (by have h1 := hk.1; have h2 := HK6.out; omega)).mono (D' := fun k => w.heap.size ≤ k ∧ k < w7.heap.size) fun k hk => ⟨Nat.le_trans S6.out hk.1, by rw [hs7]; exact hk.2⟩); clear hk7 hb7 hs7 ho7; (try simp only [Act.put, qA, qB, qC]))
   refine bodyPost_ret (results_blk rfl _ _ w1.heap.size 29 _ _ rfl K7.out Tryz.underlying29 rfl (size_rx D6.out)) rfl ?_
   exact ⟨ds, rfl, by rw [HR.out]; exact V7.out, B7.out⟩
  have z4 : (k == 4) = false := by simpa using k4
  by_cases k5 : k = 5
  ·subst k5
   have HR := qH (step_alt HG.out b)
   clear k3 k4
   go_enter Tryz.func40, Tryz.ntmps40
   go_wp2_with (first
    | ((with_reducible refine atDst 2 ?_); refine wpList_box rfl 29 _ rfl cs rfl (Below.refl w.heap.size w) (Nat.le_refl _) ?_; intro w1 hk1 hb1 hs1 _; have L1 := qH hk1; have B1 := qH hb1; clear hk1 hb1 hs1; (try simp only [Act.put, qA, qB, qC]))
    | ((with_reducible refine atDst 4 ?_); refine wpList_new rfl 29 rfl i0 _ z hi0 HZ0.out rfl B1.out B1.out.size ?_; intro w2 hk2 hb2 hs2 ho2; have K2 := qH hk2; have B2 := qH hb2; have L2 := qH (show Blk w2 w.heap.size 29 cs from (ho2 _ L1.out.lt).trans L1.out); have c0 := L2.out.cell 0; rw [HC0.out] at c0; have c5 := L2.out.cell 5; rw [HC5.out] at c5; have RS := qH (set_range' HCS.out L2.out); clear hk2 hb2 hs2 ho2; (try simp only [Act.put, qA, qB, qC]))
    )
   refine (lStepAlt_any N IH.out l HN.out HM.out HGL.out b _ w2 (RowT.monoX (HROW.out.below B2.out) B2.out.size)).mono ?_
   rintro e w6 ⟨ds, rfl, hd6, hb6⟩
   have D6 := qH hd6.length
   have D1 := qH (show ds.all (·.oneCell') = true from List.all_eq_true.2 (RxD.one hd6))
   have B6 := qH (B2.out.trans (hb6.mono B2.out.size))
   have K6 := qH (K2.out.below hb6 K2.out.lt)
   have V6 := qH hd6
   have S6 := qH B2.out.size
   have HK6 := qH K2.out.lt
   clear hd6 hb6
   go_wp2_with ((with_reducible refine atStore 29 4 25 ?_); refine wpList_stBlk rfl 29 _ _ rfl w1.heap.size ds rfl rfl 29 _ K6.out (size_rx D6.out) (by rw [HZL.out, D6.out]) D1.out B6.out B1.out.size ?_; intro w7 hk7 hb7 hs7 ho7; have K7 := qH hk7; have B7 := qH hb7; have V7 := qH ((V6.out.stay (w' := w7) fun k hk => ho7 k (by have h1 := hk.1; have h2 := HK6.out; omega)).mono (D' := fun k => w.heap.size ≤ k ∧ k < w7.heap.size) fun k hk => ⟨Nat.le_trans S6.out hk.1, by rw [hs7]; exact hk.2⟩); clear hk7 hb7 hs7 ho7; (try simp only [Act.put, qA, qB, qC]))
   refine bodyPost_ret (results_blk rfl _ _ w1.heap.size 29 _ _ rfl K7.out Tryz.underlying29 rfl (size_rx D6.out)) rfl ?_
   exact ⟨ds, rfl, by rw [HR.out]; exact V7.out, B7.out⟩
  have z5 : (k == 5) = false := by simpa using k5
  by_cases k6 : k = 6
  ·subst k6
   clear k3 k4 k5
   obtain ⟨x, hx, _⟩ := star_one HG.out
   subst hx
   have HR := qH (step_star HG.out b)
   have HXG := qH (HGL.out x (by simp))
   have HXN := qH (show x.nodes ≤ N by have := HN.out; simp only [nodesL] at this; omega)
   have HXM := qH (show x.nodes ≤ 2000 by have := HM.out; simp only [nodesL] at this; omega)
   obtain ⟨bb, off, rfl, hbb, hrng⟩ := H3.out (by simp)
   have HRG := qH (hrng 0 (by simp))
   have HBB := qH hbb
   have HVX := qH (H4.out 0 x rfl)
   have HV6 := qH HVX.out.length
   have j1 : (0 : Int) < (1 : Int) := by omega
   have HCN := qH (show nodesL [stepT x b.toNat, .node 6 s [x]] ≤ 274877906944 by
    have h1 := step_few HXG.out b HXM.out
    have h2 := HTM.out
    simp only [nodesL]
    omega)
   clear hrng hbb
   go_enter Tryz.func40, Tryz.ntmps40
   go_wp2_with (first
    | ((with_reducible refine atDst 2 ?_); refine wpList_box rfl 29 _ rfl cs rfl (Below.refl w.heap.size w) (Nat.le_refl _) ?_; intro w1 hk1 hb1 hs1 _; have L1 := qH hk1; have B1 := qH hb1; clear hk1 hb1 hs1; (try simp only [Act.put, qA, qB, qC]))
    | ((with_reducible refine atDst 4 ?_); refine wpList_new rfl 29 rfl i0 _ z hi0 HZ0.out rfl B1.out B1.out.size ?_; intro w2 hk2 hb2 hs2 ho2; have K2 := qH hk2; have B2 := qH hb2; have L2 := qH (show Blk w2 w.heap.size 29 cs from (ho2 _ L1.out.lt).trans L1.out); have c0 := L2.out.cell 0; rw [HC0.out] at c0; have c5 := L2.out.cell 5; rw [HC5.out] at c5; have RS := qH (set_range' HCS.out L2.out); clear hk2 hb2 hs2 ho2; (try simp only [Act.put, qA, qB, qC]))
    )
   refine sg_start (S := fun V => w2.grownBy V (some w1.heap.size)) (by kernel_rfl) (grown_start w2 _) (fun wd hwd => ?_)
   have hX : w2.grownBy wd (some w1.heap.size) := by rw [hwd]; exact grown_start w2 _
   have KD := qH (show Blk wd w1.heap.size 29 z by rw [hwd]; exact K2.out)
   have BD := qH (show Below w2.heap.size w2 wd by rw [hwd]; exact (Below.refl _ _).drew)
   have HNE := qH (show some w.heap.size ≠ some w1.heap.size from fun e => by have h1 := Option.some.inj e; have h2 := L1.out.lt; omega)
   have HBN := qH (show some bb ≠ some w1.heap.size from fun e => by have h1 := Option.some.inj e; have h2 := L1.out.lt; have h3 := HBB.out; omega)
   have HRG2 := qH (range_below HRG.out B2.out HBB.out)
   clear hwd
   refine sg_take (i := 0) (oi := ⟨some 32, _, _, _, _, _⟩) (v := ?_) rfl (by kernel_rfl) (by kernel_rfl) (by kernel_rfl) (fun _ _ _ h => h) rfl hX ?_ ?_; rotate_left; (intro W hW; go_simp; try with_reducible rfl); simp only [Act.put, qA, qB, qC]
   refine sg_take (i := 1) (oi := ⟨some 33, _, _, _, _, _⟩) (v := .slice (some ⟨bb, off, none⟩) 1 cap) rfl (by kernel_rfl) (by kernel_rfl) (by kernel_rfl) (fun _ _ _ h => h) rfl hX (fun V hV => ld_rxs (.tmp 32) rfl rfl (grown_cell hV L2.out.lt HNE.out c5)) ?_; simp only [Act.put, qA, qB, qC]
   refine sg_take (i := 2) (oi := ⟨some 34, _, _, _, _, _⟩) (v := ?_) rfl (by kernel_rfl) (by kernel_rfl) (by kernel_rfl) (fun _ _ _ h => h) rfl hX ?_ ?_; rotate_left; (intro W hW; go_simp; try with_reducible rfl); simp only [Act.put, qA, qB, qC]
   refine sg_take (i := 3) (oi := ⟨some 35, _, _, _, _, _⟩) (v := .agg (f 0).toArray) rfl (by kernel_rfl) (by kernel_rfl) (by kernel_rfl) (fun _ _ _ h => h) rfl hX (fun V hV => ld_keep 29 _ rfl bb (off + 0 * 6) rfl _ _ HRG2.out (hV.block bb (Nat.lt_of_lt_of_le HBB.out B2.out.size) HBN.out) Tryz.underlying29 rfl (size_rx HV6.out)) ?_; simp only [Act.put, qA, qB, qC]
   refine sg_take (i := 4) (oi := ⟨some 36, _, _, _, _, _⟩) (v := ?_) rfl (by kernel_rfl) (by kernel_rfl) (by kernel_rfl) (fun _ _ _ h => h) rfl hX ?_ ?_; rotate_left; (intro W hW; go_simp; try with_reducible rfl); simp only [Act.put, qA, qB, qC]
   refine sg_take (i := 6) (oi := ⟨some 38, _, _, _, _, _⟩) (v := .agg cs.toArray) rfl (by kernel_rfl) (by kernel_rfl) (by kernel_rfl) (fun _ _ _ h => h) rfl hX (fun V hV => ld_keep 29 _ rfl w.heap.size 0 rfl _ _ (fun i v hv => (L2.out.cell (0 + i)).trans (by rw [Nat.zero_add]; exact hv)) (hV.block _ L2.out.lt HNE.out) Tryz.underlying29 rfl (size_rx HC6.out)) ?_; simp only [Act.put, qA, qB, qC]
   refine sg_actB (i := 5) (o := ⟨some 37, _, _, _, _, _⟩) rfl (by kernel_rfl) rfl hX (fun K hK => ?_)
   go_wp2_with fail
   refine (IH.out x HXN.out HXM.out HXG.out b (f 0) wd (RxV.mono (HVX.out.stay (B2.out.trans (BD.out.mono B2.out.size))) (Nat.le_trans B2.out.size BD.out.size))).mono ?_
   rintro e w3 ⟨es, rfl, hes, hb3⟩
   go_wp2_with fail
   refine hK _ _ (grown_then hX hb3) ?_
   clear hK K
   (try simp only [Act.put, qA, qB, qC])
   replace hX := grown_then hX hb3
   have HES := qH hes
   have HE6 := qH hes.length
   have K3 := qH (KD.out.below hb3 KD.out.lt)
   have B3 := qH (B2.out.trans ((BD.out.trans (hb3.mono BD.out.size)).mono B2.out.size))
   clear hes hb3
   refine sg_actB (i := 7) (o := ⟨some 39, _, _, _, _, _⟩) rfl (by kernel_rfl) rfl hX (fun K hK => ?_)
   refine wp_bldT2 27 29 (.tmp 37) (.tmp 38) rfl i0 Tryz.underlying27 hi0 HZ1.out hz1 es cs HE6.out HC6.out rfl rfl ?_
   intro w4 hk4 hb4 hs4
   refine hK _ _ (grown_then hX hb4) ?_
   clear hK K
   (try simp only [Act.put, qA, qB, qC])
   replace hX := grown_then hX hb4
   have K4 := qH (K3.out.below hb4 K3.out.lt)
   have B4 := qH (B3.out.trans (hb4.mono B3.out.size))
   have R4 := qH (row_two (B := w4.heap.size) hk4 (RxD.mono (HES.out.stay (w' := w4) fun q hq => hb4.block q hq.2) fun q hq => Nat.lt_of_lt_of_le hq.2 hb4.size) (RxV.mono (X.out.stay B4.out) B4.out.size) (by rw [hs4]; omega))
   clear hk4 hb4 hs4
   refine sg_actB (i := 8) (o := ⟨some 40, _, _, _, _, _⟩) rfl (by kernel_rfl) rfl hX (fun K hK => ?_)
   go_wp2_with fail
   refine (rxCat_any _ _ w4 R4.out HCN.out).mono ?_
   rintro e w6 ⟨ds, rfl, hd6, hb6⟩
   go_wp2_with fail
   refine hK _ _ (grown_then hX hb6) ?_
   clear hK K
   (try simp only [Act.put, qA, qB, qC])
   replace hX := grown_then hX hb6
   have D6 := qH hd6.length
   have D1 := qH (show ds.all (·.oneCell') = true from List.all_eq_true.2 (RxD.one hd6))
   have B6 := qH (B4.out.trans (hb6.mono B4.out.size))
   have K6 := qH (K4.out.below hb6 K4.out.lt)
   have V6 := qH hd6
   have HK6 := qH K4.out.lt
   clear hd6 hb6
   refine sg_actB (i := 9) (o := ⟨none, _, _, _, _, _⟩) rfl (by kernel_rfl) rfl hX (fun K hK => ?_)
   refine wp_stBlk 29 _ _ rfl w1.heap.size ds rfl rfl 29 _ K6.out (size_rx D6.out) (by rw [HZL.out, D6.out]) D1.out B6.out B1.out.size ?_
   intro w7 hk7 hb7 hs7 ho7 hbx
   have hX9 := grown_at hX (grown_belowG hX K2.out.lt) ((grown_belowG hX K2.out.lt).trans (hbx w1.heap.size (Nat.le_refl _))) (by rw [hs7]; exact Nat.le_refl _) ho7
   refine hK _ _ hX9 ?_
   clear hK K
   refine wpAnyH_done (by kernel_rfl) ?_ _
   have K7 := qH hk7
   have B7 := qH hb7
   have V7 := qH ((V6.out.stay (w' := w7) fun k hk => ho7 k (by have h1 := hk.1; have h2 := HK6.out; omega)).mono (D' := fun k => w.heap.size ≤ k ∧ k < w7.heap.size) fun k hk => ⟨Nat.le_trans B4.out.size hk.1, by rw [hs7]; exact hk.2⟩)
   clear hX hX9 hk7 hb7 hs7 ho7 hbx
   go_wp2_with fail
   refine bodyPost_ret (results_blk rfl _ _ w1.heap.size 29 _ _ rfl K7.out Tryz.underlying29 rfl (size_rx D6.out)) rfl ?_
   exact ⟨ds, rfl, by rw [HR.out]; exact V7.out, B7.out⟩
  have z6 : (k == 6) = false := by simpa using k6
  have HR := qH (step_no (s := s) (l := l) k3 k4 k5 k6 b.toNat)
  clear k3 k4 k5 k6
  go_enter Tryz.func40, Tryz.ntmps40
  go_wp2_with (first
   | ((with_reducible refine atDst 2 ?_); refine wpList_box rfl 29 _ rfl cs rfl (Below.refl w.heap.size w) (Nat.le_refl _) ?_; intro w1 hk1 hb1 hs1 _; have L1 := qH hk1; have B1 := qH hb1; clear hk1 hb1 hs1; (try simp only [Act.put, qA, qB, qC]))
   | ((with_reducible refine atDst 4 ?_); refine wpList_new rfl 29 rfl i0 _ z hi0 HZ0.out rfl B1.out B1.out.size ?_; intro w2 hk2 hb2 hs2 ho2; have K2 := qH hk2; have B2 := qH hb2; have L2 := qH (show Blk w2 w.heap.size 29 cs from (ho2 _ L1.out.lt).trans L1.out); have c0 := L2.out.cell 0; rw [HC0.out] at c0; have c5 := L2.out.cell 5; rw [HC5.out] at c5; have RS := qH (set_range' HCS.out L2.out); clear hk2 hb2 hs2 ho2; (try simp only [Act.put, qA, qB, qC]))
   )
  refine (rxNone_any w2).mono ?_
  rintro e w6 ⟨ds, rfl, hd6', hb6⟩
  have hd6 := hd6' fun k => w2.heap.size ≤ k ∧ k < w6.heap.size
  clear hd6'
  have D6 := qH hd6.length
  have D1 := qH (show ds.all (·.oneCell') = true from List.all_eq_true.2 (RxD.one hd6))
  have B6 := qH (B2.out.trans (hb6.mono B2.out.size))
  have K6 := qH (K2.out.below hb6 K2.out.lt)
  have V6 := qH hd6
  have S6 := qH B2.out.size
  have HK6 := qH K2.out.lt
  clear hd6 hb6
  go_wp2_with ((with_reducible refine atStore 29 4 41 ?_); refine wpList_stBlk rfl 29 _ _ rfl w1.heap.size ds rfl rfl 29 _ K6.out (size_rx D6.out) (by rw [HZL.out, D6.out]) D1.out B6.out B1.out.size ?_; intro w7 hk7 hb7 hs7 ho7; have K7 := qH hk7; have B7 := qH hb7; have V7 := qH ((V6.out.stay (w' := w7) fun k hk => ho7 k (by have h1 := hk.1; have h2 := HK6.out; omega)).mono (D' := fun k => w.heap.size ≤ k ∧ k < w7.heap.size) fun k hk => ⟨Nat.le_trans S6.out hk.1, by rw [hs7]; exact hk.2⟩); clear hk7 hb7 hs7 ho7; (try simp only [Act.put, qA, qB, qC]))
  refine bodyPost_ret (results_blk rfl _ _ w1.heap.size 29 _ _ rfl K7.out Tryz.underlying29 rfl (size_rx D6.out)) rfl ?_
  exact ⟨ds, rfl, by rw [HR.out]; exact V7.out, B7.out⟩
set_option maxHeartbeats 2000000 in
set_option maxRecDepth 100000 in
theorem lStep_any (t : T) (hn : t.nodes ≤ 400) (hg : good t) (b : UInt8) (cs : List Value) (w : World) (hv : RxV w.heap.size w cs t) :
  Calls Tryz.prog 17 #[.agg cs.toArray, bv b] w fun e w' => ∃ ds, e = .returned (.agg ds.toArray) ∧ RxD (fun k => w.heap.size ≤ k ∧ k < w'.heap.size) w' ds (stepT t b.toNat) ∧ Below w.heap.size w w' := by
 have X := qH hv
 have HC6 := qH hv.length
 have HN := qH hn
 have HG := qH hg
 have HLG := qH (show decide (2000 < t.nodes) = false from decide_eq_false (by omega))
 obtain ⟨i0, hi0, hz0, hz1, hz2⟩ := inf_rx'
 obtain ⟨z, hz⟩ : ∃ z, z = rxc 0 zeroS (.slice none 0 0) := ⟨_, rfl⟩
 have HZL := qH (show z.length = 6 by rw [hz]; rfl)
 have HZ0 := qH (show i0.zero = some (.agg z.toArray) by rw [hz]; exact hz0)
 have HZ1 := qH hz0
 clear hz hz0
 clear hv hn hg
 go_enter Tryz.func17, Tryz.ntmps17
 go_wp2_with (first
  | ((with_reducible refine atDst 2 ?_); refine wpList_box rfl 29 _ rfl cs rfl (Below.refl w.heap.size w) (Nat.le_refl _) ?_; intro w1 hk1 hb1 hs1 _; have L1 := qH hk1; have B1 := qH hb1; clear hk1 hb1 hs1; (try simp only [Act.put, qA, qB, qC]))
  | ((with_reducible refine atDst 4 ?_); refine wpList_new rfl 29 rfl i0 _ z hi0 HZ0.out rfl B1.out B1.out.size ?_; intro w2 hk2 hb2 hs2 ho2; have K2 := qH hk2; have B2 := qH hb2; have L2 := qH (show Blk w2 w.heap.size 29 cs from (ho2 _ L1.out.lt).trans L1.out); clear hk2 hb2 hs2 ho2; (try simp only [Act.put, qA, qB, qC]))
  | ((with_reducible refine atDst 5 ?_); refine wpList_ldArr rfl 29 _ rfl w.heap.size rfl 29 _ _ L2.out Tryz.underlying29 rfl (size_rx HC6.out) ?_; (try simp only [Act.put, qA, qB, qC])))
 refine (lLarge_any t cs w2 ((X.out.stay B2.out).mono B2.out.size) false HLG.out).mono ?_
 rintro e w3 ⟨rfl, hb3⟩
 have B3 := qH (B2.out.trans (hb3.mono B2.out.size))
 have K3 := qH (K2.out.below hb3 K2.out.lt)
 have L3 := qH (L2.out.below hb3 L2.out.lt)
 clear hb3
 go_wp2_with ((with_reducible refine atDst 8 ?_); refine wpList_ldMidG rfl 29 _ rfl w.heap.size 0 rfl cs _ (fun i u hu => by have := L3.out.cell (0 + i); rw [this]; simpa using hu) Tryz.underlying29 rfl (size_rx HC6.out) ?_; (try simp only [Act.put, qA, qB, qC]))
 refine (lDear_any t HN.out cs w3 ((X.out.stay B3.out).mono B3.out.size)).mono ?_
 rintro e w4 ⟨rfl, hb4⟩
 have B4 := qH (B3.out.trans (hb4.mono B3.out.size))
 have K4 := qH (K3.out.below hb4 K3.out.lt)
 have L4 := qH (L3.out.below hb4 L3.out.lt)
 clear hb4
 go_wp2_with ((with_reducible refine atDst 12 ?_); refine wpList_ldArr rfl 29 _ rfl w.heap.size rfl 29 _ _ L4.out Tryz.underlying29 rfl (size_rx HC6.out) ?_; (try simp only [Act.put, qA, qB, qC]))
 refine (lStep0_any _ t (Nat.le_refl _) (by have := HN.out; omega) HG.out b cs w4 ((X.out.stay B4.out).mono B4.out.size)).mono ?_
 rintro e w6 ⟨ds, rfl, hd6, hb6⟩
 have D6 := qH hd6.length
 have D1 := qH (show ds.all (·.oneCell') = true from List.all_eq_true.2 (RxD.one hd6))
 have B6 := qH (B4.out.trans (hb6.mono B4.out.size))
 have K6 := qH (K4.out.below hb6 K4.out.lt)
 have V6 := qH hd6
 have S6 := qH B4.out.size
 have HK6 := qH K4.out.lt
 clear hd6 hb6
 go_wp2_with ((with_reducible refine atStore 29 4 14 ?_); refine wpList_stBlk rfl 29 _ _ rfl w1.heap.size ds rfl rfl 29 _ K6.out (size_rx D6.out) (by rw [HZL.out, D6.out]) D1.out B6.out B1.out.size ?_; intro w7 hk7 hb7 hs7 ho7; have K7 := qH hk7; have B7 := qH hb7; have V7 := qH ((V6.out.stay (w' := w7) fun k hk => ho7 k (by have h1 := hk.1; have h2 := HK6.out; omega)).mono (D' := fun k => w.heap.size ≤ k ∧ k < w7.heap.size) fun k hk => ⟨Nat.le_trans S6.out hk.1, by rw [hs7]; exact hk.2⟩); clear hk7 hb7 hs7 ho7; (try simp only [Act.put, qA, qB, qC]))
 refine bodyPost_ret (results_blk rfl _ _ w1.heap.size 29 _ _ rfl K7.out Tryz.underlying29 rfl (size_rx D6.out)) rfl ?_
 exact ⟨ds, rfl, V7.out, B7.out⟩
structure Off (D : Nat → Prop) (w w' : World) : Prop where
 os : w'.os = w.os
 tape : w'.tape = w.tape
 output : w'.output = w.output
 size : w.heap.size ≤ w'.heap.size
 block : ∀ k, k < w.heap.size → ¬ D k → w'.heap[k]? = w.heap[k]?
section
variable {D D' : Nat → Prop} {w w1 w2 w' : World} {B b o : Nat}
theorem Off.refl (D : Nat → Prop) (w : World) : Off D w w := ⟨rfl, rfl, rfl, Nat.le_refl _, fun _ _ _ => rfl⟩
theorem Off.start (D : Nat → Prop) (w : World) : Off D w w.drew := ⟨rfl, rfl, rfl, Nat.le_refl _, fun _ _ _ => rfl⟩
theorem Off.trans (h : Off D w w1) (k : Off D w1 w2) : Off D w w2 :=
 ⟨k.os.trans h.os, k.tape.trans h.tape, k.output.trans h.output, Nat.le_trans h.size k.size, fun i hi hn => (k.block i (Nat.lt_of_lt_of_le hi h.size) hn).trans (h.block i hi hn)⟩
theorem Off.mono (h : Off D w w') (hD : ∀ k, k < w.heap.size → D k → D' k) : Off D' w w' := ⟨h.os, h.tape, h.output, h.size, fun k hk hn => h.block k hk fun hd => hn (hD k hk hd)⟩
theorem Off.of (h : Below B w w') (hB : ∀ k, k < w.heap.size → ¬ D k → k < B) : Off D w w' := ⟨h.os, h.tape, h.output, h.size, fun k hk hn => h.block k (hB k hk hn)⟩
theorem Off.new (D : Nat → Prop) (h : Below w.heap.size w w') : Off D w w' := .of h fun k hk _ => hk
theorem Off.put {g : Nat} (h : Below B w w') (ho : ∀ k, k ≠ g → w'.heap[k]? = w.heap[k]?) (hD : w.heap.size ≤ g ∨ D g) : Off D w w' :=
 ⟨h.os, h.tape, h.output, h.size, fun k hk hn => ho k (by rintro rfl; rcases hD with h1 | h1; exact absurd hk (Nat.not_lt.2 h1); exact hn h1)⟩
theorem Off.grown {r : Option Nat} (h : w.grownBy w' r) (hD : ∀ k, r = some k → w.heap.size ≤ k ∨ D k) : Off D w w' :=
 ⟨h.os, h.tape, h.output, h.size, fun k hk hn => h.block k hk fun e => by rcases hD k e.symm with h1 | h1; exact absurd hk (Nat.not_lt.2 h1); exact hn h1⟩
theorem Off.set (w : World) {g : Nat} (i : Nat) (u : Value) (hD : D g) : Off D w (w.setCell ⟨g, i, none⟩ u) :=
 ⟨rfl, rfl, rfl, by simp [World.setCell], fun k hk hn => Below.heap_setCell w ⟨g, i, none⟩ u k (by rintro rfl; exact hn hD)⟩
theorem Off.setCells {g : Nat} (hD : D g) : ∀ (vs : List Value) (o : Nat) (w : World), Off D w (w.setCells g o vs)
 | [], _, w => Off.refl D w
 | v :: r, o, w => (Off.set w o v hD).trans (Off.setCells hD r (o + 1) _)
theorem Off.below (h : Off D w w') (hD : ∀ k, D k → B ≤ k) (hB : B ≤ w.heap.size) : Below B w w' := ⟨h.os, h.tape, h.output, h.size, fun k hk => h.block k (Nat.lt_of_lt_of_le hk hB) fun hd => absurd hk (Nat.not_lt.2 (hD k hd))⟩
theorem Off.cell (h : Off D w w') {v : Value} (hb : b < w.heap.size) (hn : ¬ D b) (hc : w.cell? ⟨b, o, none⟩ = some v) : w'.cell? ⟨b, o, none⟩ = some v := by
 have := h.block b hb hn
 unfold World.cell? at hc ⊢
 simp only [this]
 exact hc
theorem Off.range (h : Off D w w') {cs : List Value} (hb : b < w.heap.size) (hn : ¬ D b) (hc : w.rangeAt b o cs) : w'.rangeAt b o cs := fun j v hv => h.cell hb hn (hc j v hv)
theorem Off.blk (h : Off D w w') {t : TypeId} {cs : List Value} (hn : ¬ D b) (hc : Blk w b t cs) : Blk w' b t cs := (h.block b hc.lt hn).trans hc
theorem Off.then (h : Off D w w1) (hb : Below w1.heap.size w1 w2) : Off D w w2 := h.trans (Off.new D hb)
end
/-! ### sets in a row -/
def flatS (n : Nat) (f : Nat → Nat → Bool) : List Value := ((List.range n).map fun p => wds (f p)).flatten
theorem flatS_succ (n : Nat) (f : Nat → Nat → Bool) : flatS (n + 1) f = flatS n f ++ wds (f n) := by
 unfold flatS
 rw [List.range_succ, List.map_append, List.flatten_append]
 simp
theorem flatS_len (f : Nat → Nat → Bool) : ∀ n, (flatS n f).length = n * 4
 | 0 => rfl
 | n + 1 => by rw [flatS_succ, List.length_append, flatS_len f n, wds_length]; omega
theorem flatS_get (f : Nat → Nat → Bool) : ∀ (n p j : Nat), p < n → j < 4 → (flatS n f)[p * 4 + j]? = (wds (f p))[j]?
 | 0, p, j, h, _ => by omega
 | n + 1, p, j, h, hj => by
  rw [flatS_succ, List.getElem?_append, flatS_len]
  by_cases hp : p < n
  ·rw [if_pos (by omega), flatS_get f n p j hp hj]
  ·obtain rfl : p = n := by omega
   rw [if_neg (by omega), Nat.add_sub_cancel_left]
theorem flatS_range {w : World} {g n p : Nat} {t : TypeId} {f : Nat → Nat → Bool} (h : Blk w g t (flatS n f)) (hp : p < n) : w.rangeAt g (p * 4) (wds (f p)) := fun j v hv => by
 have hj : j < 4 := by have := (List.getElem?_eq_some_iff.1 hv).1; rwa [wds_length] at this
 rw [h.cell, flatS_get f n p j hp hj]
 exact hv
def updS (f : Nat → Nat → Bool) (p : Nat) (q : Nat → Bool) : Nat → Nat → Bool := fun i => if i = p then q else f i
theorem flatS_set (n p : Nat) (f : Nat → Nat → Bool) (q : Nat → Bool) (hp : p < n) :
  ((((flatS n f).set (p * 4) (.int .u64 (word q 0 : Int))).set (p * 4 + 1) (.int .u64 (word q 1 : Int))).set (p * 4 + 2) (.int .u64 (word q 2 : Int))).set (p * 4 + 3) (.int .u64 (word q 3 : Int)) = flatS n (updS f p q) := by
 apply List.ext_getElem?
 intro i
 by_cases hi : i < n * 4
 ·have e : i = i / 4 * 4 + i % 4 := by omega
  have h1 : i / 4 < n := by omega
  have h2 : i % 4 < 4 := Nat.mod_lt _ (by omega)
  have hR := flatS_get (updS f p q) n (i / 4) (i % 4) h1 h2
  have hL := flatS_get f n (i / 4) (i % 4) h1 h2
  rw [← e] at hR hL
  rw [hR]
  by_cases hip : i / 4 = p
  ·have hu : updS f p q (i / 4) = q := by unfold updS; rw [if_pos hip]
   rw [hu]
   have h4 : i % 4 = 0 ∨ i % 4 = 1 ∨ i % 4 = 2 ∨ i % 4 = 3 := by omega
   rcases h4 with h | h | h | h
   ·have : i = p * 4 := by omega
    subst this
    rw [h]
    simp [List.getElem?_set, flatS_len, wds, hp]
   ·have : i = p * 4 + 1 := by omega
    subst this
    rw [h]
    simp [List.getElem?_set, flatS_len, wds]
    omega
   ·have : i = p * 4 + 2 := by omega
    subst this
    rw [h]
    simp [List.getElem?_set, flatS_len, wds]
    omega
   ·have : i = p * 4 + 3 := by omega
    subst this
    rw [h]
    simp [List.getElem?_set, flatS_len, wds]
    omega
  ·have hu : updS f p q (i / 4) = f (i / 4) := by unfold updS; rw [if_neg hip]
   rw [hu, ← hL]
   rw [List.getElem?_set_ne (by omega), List.getElem?_set_ne (by omega), List.getElem?_set_ne (by omega), List.getElem?_set_ne (by omega)]
 ·rw [List.getElem?_eq_none (by simp [flatS_len]; omega), List.getElem?_eq_none (by rw [flatS_len]; omega)]
theorem flatS_put {w : World} {g n p : Nat} {t : TypeId} {f : Nat → Nat → Bool} (h : Blk w g t (flatS n f)) (q : Nat → Bool) (hp : p < n) : Blk (w.setCells g (p * 4) (wds q)) g t (flatS n (updS f p q)) := by
 have := (((h.set (p * 4) (.int .u64 (word q 0 : Int))).set (p * 4 + 1) (.int .u64 (word q 1 : Int))).set (p * 4 + 2) (.int .u64 (word q 2 : Int))).set (p * 4 + 3) (.int .u64 (word q 3 : Int))
 rw [flatS_set n p f q hp] at this
 exact this
theorem blk_there {w : World} {g : Nat} {t : TypeId} {cs : List Value} (h : Blk w g t cs) (o n : Nat) (hn : o + n ≤ cs.length) : w.there g o n := fun j hj => by
 rw [h.cell]
 exact ⟨by rw [List.getElem?_eq_getElem (by omega)]; rfl, h.frozen _⟩
/-! ### matchers -/
def mcl (k : Int) (h : Nat → Bool) (P : Value) (kn : Nat → Bool) (tb : Value) : List Value := .int .i64 k :: (wds h ++ (P :: (wds kn ++ [tb])))
theorem mcl_known {w : World} {g : Nat} {t : TypeId} {k : Int} {h kn : Nat → Bool} {P tb : Value} (hb : Blk w g t (mcl k h P kn tb)) (q : Nat → Bool) : Blk (w.setCells g 6 (wds q)) g t (mcl k h P q tb) :=
 (((hb.set 6 (.int .u64 (word q 0 : Int))).set 7 (.int .u64 (word q 1 : Int))).set 8 (.int .u64 (word q 2 : Int))).set 9 (.int .u64 (word q 3 : Int))
theorem mcl_hits {w : World} {g : Nat} {t : TypeId} {k : Int} {h kn : Nat → Bool} {P tb : Value} (hb : Blk w g t (mcl k h P kn tb)) (q : Nat → Bool) : Blk (w.setCells g 1 (wds q)) g t (mcl k q P kn tb) :=
 (((hb.set 1 (.int .u64 (word q 0 : Int))).set 2 (.int .u64 (word q 1 : Int))).set 3 (.int .u64 (word q 2 : Int))).set 4 (.int .u64 (word q 3 : Int))
theorem mcl_at {w : World} {g : Nat} {t : TypeId} {k : Int} {h kn : Nat → Bool} {P tb : Value} (hb : Blk w g t (mcl k h P kn tb)) :
  w.cell? ⟨g, 0, none⟩ = some (.int .i64 k) ∧ w.cell? ⟨g, 5, none⟩ = some P ∧ w.cell? ⟨g, 10, none⟩ = some tb ∧ w.rangeAt g 1 (wds h) ∧ w.rangeAt g 6 (wds kn) := by
 refine ⟨hb.cell 0, hb.cell 5, hb.cell 10, fun j v hv => ?_, fun j v hv => ?_⟩
 ·have hj : j < 4 := by have := (List.getElem?_eq_some_iff.1 hv).1; rwa [wds_length] at this
  rw [hb.cell, ← hv]
  match j, hj with
  | 0, _ => rfl
  | 1, _ => rfl
  | 2, _ => rfl
  | 3, _ => rfl
 ·have hj : j < 4 := by have := (List.getElem?_eq_some_iff.1 hv).1; rwa [wds_length] at this
  rw [hb.cell, ← hv]
  match j, hj with
  | 0, _ => rfl
  | 1, _ => rfl
  | 2, _ => rfl
  | 3, _ => rfl
theorem mcl_len (k : Int) (h : Nat → Bool) (P : Value) (kn : Nat → Bool) (tb : Value) : (mcl k h P kn tb).length = 11 := rfl
def TabM (W : List UInt8) (w : World) (D : Nat → Prop) (g : Nat) (A : Option Addr) (Ds : Nat → Nat → Prop) (x : T) (kn : Nat → Bool) (tb : Value) : Prop :=
 ∃ (tg : Nat) (tf : Nat → Nat → Bool), tb = .slice (some ⟨tg, 0, none⟩) (W.length + 1) (W.length + 1) ∧ D tg ∧ tg ≠ g ∧ (∀ i, ¬ Ds i tg) ∧ (∀ b off, A = some ⟨b, off, none⟩ → b ≠ tg) ∧ Blk w tg 26 (flatS (W.length + 1) tf) ∧
  ∀ p, p ≤ W.length → kn p = true → tf p = endsB (Lg x) W (fun q => decide (q = p))
inductive Mat (W : List UInt8) (w : World) : (Nat → Prop) → Nat → T → Prop
 | node {D : Nat → Prop} {g : Nat} {k : Int} {s : Nat → Bool} {l : List T} (A : Option Addr) (cap : Nat) (gp : Nat → Nat) (Ds : Nat → Nat → Prop) (kn : Nat → Bool) (tb : Value)
  (hD : D g) (hg : ∀ i, ¬ Ds i g)
  (blk : Blk w g 68 (mcl k (if k = 3 then hitP s W else zeroS) (.slice A l.length cap) kn tb))
  (h1 : l.length ≤ cap) (h2 : cap ≤ maxLen)
  (h3 : l ≠ [] → ∃ b off, A = some ⟨b, off, none⟩ ∧ D b ∧ b ≠ g ∧ (∀ i, ¬ Ds i b) ∧ ∀ i, i < l.length → w.cell? ⟨b, off + i, none⟩ = some (.pointer (some ⟨gp i, 0, none⟩)))
  (ht : k = 6 → ∀ x, l = [x] → TabM W w D g A Ds x kn tb)
  (hn : ¬ (k = 6 ∧ l.length = 1) → tb = .slice none 0 0)
  (hs : ∀ i q, Ds i q → D q)
  (hd : ∀ i j q, Ds i q → Ds j q → i = j)
  (hc : ∀ i t, l[i]? = some t → Mat W w (Ds i) (gp i) t) : Mat W w D g (.node k s l)
structure MatN (W : List UInt8) (w : World) (D : Nat → Prop) (g : Nat) (k : Int) (s : Nat → Bool) (l : List T) (A : Option Addr) (cap : Nat) (gp : Nat → Nat) (Ds : Nat → Nat → Prop) (kn : Nat → Bool) (tb : Value) : Prop where
 hD : D g
 hg : ∀ i, ¬ Ds i g
 blk : Blk w g 68 (mcl k (if k = 3 then hitP s W else zeroS) (.slice A l.length cap) kn tb)
 h1 : l.length ≤ cap
 h2 : cap ≤ maxLen
 h3 : l ≠ [] → ∃ b off, A = some ⟨b, off, none⟩ ∧ D b ∧ b ≠ g ∧ (∀ i, ¬ Ds i b) ∧ ∀ i, i < l.length → w.cell? ⟨b, off + i, none⟩ = some (.pointer (some ⟨gp i, 0, none⟩))
 ht : k = 6 → ∀ x, l = [x] → TabM W w D g A Ds x kn tb
 hn : ¬ (k = 6 ∧ l.length = 1) → tb = .slice none 0 0
 hs : ∀ i q, Ds i q → D q
 hd : ∀ i j q, Ds i q → Ds j q → i = j
 hc : ∀ i t, l[i]? = some t → Mat W w (Ds i) (gp i) t
theorem Mat.opened {W : List UInt8} {w : World} {D : Nat → Prop} {g : Nat} {k : Int} {s : Nat → Bool} {l : List T} (h : Mat W w D g (.node k s l)) : ∃ A cap gp Ds kn tb, MatN W w D g k s l A cap gp Ds kn tb := by
 cases h with
 | node A cap gp Ds kn tb hD hg blk h1 h2 h3 ht hn hs hd hc => exact ⟨A, cap, gp, Ds, kn, tb, hD, hg, blk, h1, h2, h3, ht, hn, hs, hd, hc⟩
theorem MatN.mat {W : List UInt8} {w : World} {D : Nat → Prop} {g : Nat} {k : Int} {s : Nat → Bool} {l : List T} {A : Option Addr} {cap : Nat} {gp : Nat → Nat} {Ds : Nat → Nat → Prop} {kn : Nat → Bool} {tb : Value} (h : MatN W w D g k s l A cap gp Ds kn tb) : Mat W w D g (.node k s l) :=
 .node A cap gp Ds kn tb h.hD h.hg h.blk h.h1 h.h2 h.h3 h.ht h.hn h.hs h.hd h.hc
theorem cell_heap {w w' : World} {b o : Nat} {v : Value} (h : w.cell? ⟨b, o, none⟩ = some v) (hb : w'.heap[b]? = w.heap[b]?) : w'.cell? ⟨b, o, none⟩ = some v := by
 unfold World.cell? at h ⊢
 simp only [hb]
 exact h
theorem TabM.stay {W : List UInt8} {w w' : World} {D : Nat → Prop} {g : Nat} {A : Option Addr} {Ds : Nat → Nat → Prop} {x : T} {kn : Nat → Bool} {tb : Value} (h : TabM W w D g A Ds x kn tb) (hb : ∀ k, D k → k ≠ g → (∀ i, ¬ Ds i k) → w'.heap[k]? = w.heap[k]?) : TabM W w' D g A Ds x kn tb := by
 obtain ⟨tg, tf, e, h1, h2, h3, h4, h5, h6⟩ := h
 exact ⟨tg, tf, e, h1, h2, h3, h4, (hb tg h1 h2 h3).trans h5, h6⟩
theorem Mat.stay {W : List UInt8} {w w' : World} {D : Nat → Prop} {g : Nat} {t : T} (h : Mat W w D g t) (hb : ∀ k, D k → w'.heap[k]? = w.heap[k]?) : Mat W w' D g t := by
 induction h with
 | node A cap gp Ds kn tb hD hg blk h1 h2 h3 ht hn hs hd hc ih =>
  refine .node A cap gp Ds kn tb hD hg ((hb _ hD).trans blk) h1 h2 (fun hne => ?_) (fun hk x hx => (ht hk x hx).stay fun k h _ _ => hb k h) hn hs hd (fun i t h => ih i t h fun k hk => hb k (hs i k hk))
  obtain ⟨b, off, hA, a1, a2, a3, a4⟩ := h3 hne
  exact ⟨b, off, hA, a1, a2, a3, fun i hi => cell_heap (a4 i hi) (hb b a1)⟩
theorem Mat.mono {W : List UInt8} {w : World} {D D' : Nat → Prop} {g : Nat} {t : T} (h : Mat W w D g t) (hD' : ∀ k, D k → D' k) : Mat W w D' g t := by
 cases h with
 | node A cap gp Ds kn tb hD hg blk h1 h2 h3 ht hn hs hd hc =>
  refine .node A cap gp Ds kn tb (hD' _ hD) hg blk h1 h2 (fun hne => ?_) (fun hk x hx => ?_) hn (fun i k hk => hD' k (hs i k hk)) hd hc
  ·obtain ⟨b, off, hA, a1, a2⟩ := h3 hne
   exact ⟨b, off, hA, hD' b a1, a2⟩
  ·obtain ⟨tg, tf, e, a1, a2⟩ := ht hk x hx
   exact ⟨tg, tf, e, hD' tg a1, a2⟩
section
variable {W : List UInt8} {w w' : World} {D : Nat → Prop} {g : Nat} {k : Int} {s : Nat → Bool} {l : List T} {A : Option Addr} {cap : Nat} {gp : Nat → Nat} {Ds : Nat → Nat → Prop} {kn : Nat → Bool} {tb : Value}
theorem MatN.stay (h : MatN W w D g k s l A cap gp Ds kn tb) (hb : ∀ k, D k → w'.heap[k]? = w.heap[k]?) : MatN W w' D g k s l A cap gp Ds kn tb where
 hD := h.hD
 hg := h.hg
 blk := (hb _ h.hD).trans h.blk
 h1 := h.h1
 h2 := h.h2
 h3 := fun hne => by
  obtain ⟨b, off, hA, a1, a2, a3, a4⟩ := h.h3 hne
  exact ⟨b, off, hA, a1, a2, a3, fun i hi => cell_heap (a4 i hi) (hb b a1)⟩
 ht := fun hk x hx => (h.ht hk x hx).stay fun k h _ _ => hb k h
 hn := h.hn
 hs := h.hs
 hd := h.hd
 hc := fun i t ht => (h.hc i t ht).stay fun k hk => hb k (h.hs i k hk)
theorem MatN.part (h : MatN W w D g k s l A cap gp Ds kn tb) (hsz : ∀ k, D k → k < w.heap.size) {i : Nat} {t : T} (hi : l[i]? = some t) (ho : Off (Ds i) w w') (hm : Mat W w' (Ds i) (gp i) t) : MatN W w' D g k s l A cap gp Ds kn tb where
 hD := h.hD
 hg := h.hg
 blk := (ho.block g (hsz g h.hD) (h.hg i)).trans h.blk
 h1 := h.h1
 h2 := h.h2
 h3 := fun hne => by
  obtain ⟨b, off, hA, a1, a2, a3, a4⟩ := h.h3 hne
  exact ⟨b, off, hA, a1, a2, a3, fun i' hi => cell_heap (a4 i' hi) (ho.block b (hsz b a1) (a3 i))⟩
 ht := fun hk x hx => (h.ht hk x hx).stay fun k hk _ hn => ho.block k (hsz k hk) (hn i)
 hn := h.hn
 hs := h.hs
 hd := h.hd
 hc := fun i' t' ht' => by
  by_cases hii : i' = i
  ·subst hii
   rw [hi] at ht'
   injection ht' with ht'
   subst ht'
   exact hm
  ·exact (h.hc i' t' ht').stay fun k hk => ho.block k (hsz k (h.hs i' k hk)) fun hk2 => hii (h.hd _ _ _ hk hk2)
end
end Go.Proofs.YtopnpdobcagcgaaGreat
