/-
  Texts of this proof, put together: (LwU) Package lang's step and Step. No statement is proved here. (LwYa) What the statements of lang make out of numbers: how great it is; words. No statement is proved here. (LwY) Whether what the statements of lang make may be. No statement is proved here.
-/
import Derived.Test.YtopnpdobcagcgaaGreatPBA
import Derived.Test.YtopnpdobcagcgaaGreatPZ
import Derived.Test.YtopnpdobcagcgaaGreatPO
import Derived.Test.YtopnpdobcagcgaaGreatPL
namespace Go.Proofs.YtopnpdobcagcgaaGreat
open Go.RowKit
set_option linter.unusedSimpArgs false
set_option linter.unusedVariables false
-- the answer: $1 Below ahead, $2 the answer's Blk ahead, $3 slot
set_option maxHeartbeats 8000000 in
set_option maxRecDepth 1000000 in
theorem lStep0_any : ∀ N : Nat, StepC N := by
 intro N
 induction N with
 | zero => intro t h; have := nodes_pos t; omega
 | succ N ih =>
  rintro ⟨k, s, l⟩ hN hM hg b cs w hv
  have IH := Lib.hid ih
  clear ih
  have X := Lib.hid hv
  have HC6 := Lib.hid hv.length
  obtain ⟨A, cap, f, hcs, h1, h2, h0, h3, h4⟩ := hv.opened
  obtain ⟨vr, hvr, hrow⟩ := RxV.row hv
  have hve : vr = .slice A l.length cap := by
   rw [hcs] at hvr
   have := congrArg (fun l => l[5]?) hvr
   exact (Option.some.inj this).symm
  subst hve
  have HROW := Lib.hid hrow
  have H3 := Lib.hid h3
  have H4 := Lib.hid h4
  have HNN := Lib.hid (show T.nodes (.node k s l) = 1 + nodesL l by simp only [T.nodes])
  have HTM := Lib.hid hM
  rw [HNN.out] at hN hM
  have HN := Lib.hid (show nodesL l ≤ N by omega)
  have HM := Lib.hid (show nodesL l ≤ 2000 by omega)
  have HG := Lib.hid hg
  have HGL := Lib.hid (good_node.1 hg).2.1
  have HC0 := Lib.hid (show cs[0]? = some (.int .i64 k) by rw [hcs]; rfl)
  have HC5 := Lib.hid (show cs[5]? = some (.slice A l.length cap) by rw [hcs]; rfl)
  have HCS := Lib.hid hcs
  have HBT := Lib.hid (show b.toNat < 256 from b.toNat_lt)
  obtain ⟨i0, hi0, hz0, hz1, hz2⟩ := inf_rx'
  obtain ⟨z, hz⟩ : ∃ z, z = rxc 0 zeroS (.slice none 0 0) := ⟨_, rfl⟩
  have HZL := Lib.hid (show z.length = 6 by rw [hz]; rfl)
  have HZ0 := Lib.hid (show i0.zero = some (.agg z.toArray) by rw [hz]; exact hz0)
  have HZ1 := Lib.hid hz0
  clear hz hz0
  clear hv h1 h2 h0 h3 h4 hcs hN hM hg hrow hvr
  by_cases k3 : k = 3
  ·obtain ⟨q, hq⟩ : ∃ q, q = s b.toNat := ⟨_, rfl⟩
   have HQ := Lib.hid hq
   subst k3
   clear hq
   go_enter Tryz.func40, Tryz.ntmps40
   go_wp2_with (first
    | ((with_reducible refine atDst 2 ?_); refine wpList_box rfl 29 _ rfl cs rfl (Below.refl w.heap.size w) (Nat.le_refl _) ?_; intro w1 hk1 hb1 hs1 _; have L1 := Lib.hid hk1; have B1 := Lib.hid hb1; clear hk1 hb1 hs1; (try simp only [Act.put, qA, qB, qC]))
    | ((with_reducible refine atDst 4 ?_); refine wpList_new rfl 29 rfl i0 _ z hi0 HZ0.out rfl B1.out B1.out.size ?_; intro w2 hk2 hb2 hs2 ho2; have K2 := Lib.hid hk2; have B2 := Lib.hid hb2; have L2 := Lib.hid (show Blk w2 w.heap.size 29 cs from (ho2 _ L1.out.lt).trans L1.out); have c0 := L2.out.cell 0; rw [HC0.out] at c0; have c5 := L2.out.cell 5; rw [HC5.out] at c5; have RS := Lib.hid (set_range' HCS.out L2.out); clear hk2 hb2 hs2 ho2; (try simp only [Act.put, qA, qB, qC]))
    | ((with_reducible refine atDst 10 ?_); refine wpList_ldMidG rfl 26 _ rfl w.heap.size 1 rfl (wds s) _ RS.out Tryz.underlying26 rfl (size_set s) ?_; (try simp only [Act.put, qA, qB, qC])))
   refine (bsHas_any s b.toNat w2 HBT.out).mono ?_
   rintro e w3 ⟨rfl, hb3⟩
   rw [← HQ.out]
   have B3 := Lib.hid (B2.out.trans (hb3.mono B2.out.size))
   have K3 := Lib.hid (K2.out.below hb3 K2.out.lt)
   clear hb3
   cases q with
   | true =>
    have HR := Lib.hid (show stepT (.node 3 s l) b.toNat = emptyT by rw [step_set, ← HQ.out]; rfl)
    go_wp2_with fail
    refine (rxEmpty_any w3).mono ?_
    rintro e w6 ⟨ds, rfl, hd6', hb6⟩
    have hd6 := hd6' fun k => w3.heap.size ≤ k ∧ k < w6.heap.size
    clear hd6'
    have D6 := Lib.hid hd6.length
    have D1 := Lib.hid (show ds.all (·.oneCell') = true from List.all_eq_true.2 (RxD.one hd6))
    have B6 := Lib.hid (B3.out.trans (hb6.mono B3.out.size))
    have K6 := Lib.hid (K3.out.below hb6 K3.out.lt)
    have V6 := Lib.hid hd6
    have S6 := Lib.hid B3.out.size
    have HK6 := Lib.hid K3.out.lt
    clear hd6 hb6
    go_wp2_with ((with_reducible refine atStore 29 4 13 ?_); refine wpList_stBlk rfl 29 _ _ rfl w1.heap.size ds rfl rfl 29 _ K6.out (size_rx D6.out) (by rw [HZL.out, D6.out]) D1.out B6.out B1.out.size ?_; intro w7 hk7 hb7 hs7 ho7; have K7 := Lib.hid hk7; have B7 := Lib.hid hb7; have V7 := Lib.hid ((V6.out.stay (w' := w7) fun k hk => ho7 k (by have h1 := hk.1; have h2 := HK6.out; omega)).mono (D' := fun k => w.heap.size ≤ k ∧ k < w7.heap.size) fun k hk => ⟨Nat.le_trans S6.out hk.1, by rw [hs7]; exact hk.2⟩); clear hk7 hb7 hs7 ho7; (try simp only [Act.put, qA, qB, qC]))
    refine bodyPost_ret (results_blk rfl _ _ w1.heap.size 29 _ _ rfl K7.out Tryz.underlying29 rfl (size_rx D6.out)) rfl ?_
    exact ⟨ds, rfl, by rw [HR.out]; exact V7.out, B7.out⟩
   | false =>
    have HR := Lib.hid (show stepT (.node 3 s l) b.toNat = noneT by rw [step_set, ← HQ.out]; rfl)
    go_wp2_with fail
    refine (rxNone_any w3).mono ?_
    rintro e w6 ⟨ds, rfl, hd6', hb6⟩
    have hd6 := hd6' fun k => w3.heap.size ≤ k ∧ k < w6.heap.size
    clear hd6'
    have D6 := Lib.hid hd6.length
    have D1 := Lib.hid (show ds.all (·.oneCell') = true from List.all_eq_true.2 (RxD.one hd6))
    have B6 := Lib.hid (B3.out.trans (hb6.mono B3.out.size))
    have K6 := Lib.hid (K3.out.below hb6 K3.out.lt)
    have V6 := Lib.hid hd6
    have S6 := Lib.hid B3.out.size
    have HK6 := Lib.hid K3.out.lt
    clear hd6 hb6
    go_wp2_with ((with_reducible refine atStore 29 4 41 ?_); refine wpList_stBlk rfl 29 _ _ rfl w1.heap.size ds rfl rfl 29 _ K6.out (size_rx D6.out) (by rw [HZL.out, D6.out]) D1.out B6.out B1.out.size ?_; intro w7 hk7 hb7 hs7 ho7; have K7 := Lib.hid hk7; have B7 := Lib.hid hb7; have V7 := Lib.hid ((V6.out.stay (w' := w7) fun k hk => ho7 k (by have h1 := hk.1; have h2 := HK6.out; omega)).mono (D' := fun k => w.heap.size ≤ k ∧ k < w7.heap.size) fun k hk => ⟨Nat.le_trans S6.out hk.1, by rw [hs7]; exact hk.2⟩); clear hk7 hb7 hs7 ho7; (try simp only [Act.put, qA, qB, qC]))
    refine bodyPost_ret (results_blk rfl _ _ w1.heap.size 29 _ _ rfl K7.out Tryz.underlying29 rfl (size_rx D6.out)) rfl ?_
    exact ⟨ds, rfl, by rw [HR.out]; exact V7.out, B7.out⟩
  have z3 : (k == 3) = false := by simpa using k3
  by_cases k4 : k = 4
  ·subst k4
   have HR := Lib.hid (step_cat_ways HG.out b)
   clear k3
   go_enter Tryz.func40, Tryz.ntmps40
   go_wp2_with (first
    | ((with_reducible refine atDst 2 ?_); refine wpList_box rfl 29 _ rfl cs rfl (Below.refl w.heap.size w) (Nat.le_refl _) ?_; intro w1 hk1 hb1 hs1 _; have L1 := Lib.hid hk1; have B1 := Lib.hid hb1; clear hk1 hb1 hs1; (try simp only [Act.put, qA, qB, qC]))
    | ((with_reducible refine atDst 4 ?_); refine wpList_new rfl 29 rfl i0 _ z hi0 HZ0.out rfl B1.out B1.out.size ?_; intro w2 hk2 hb2 hs2 ho2; have K2 := Lib.hid hk2; have B2 := Lib.hid hb2; have L2 := Lib.hid (show Blk w2 w.heap.size 29 cs from (ho2 _ L1.out.lt).trans L1.out); have c0 := L2.out.cell 0; rw [HC0.out] at c0; have c5 := L2.out.cell 5; rw [HC5.out] at c5; have RS := Lib.hid (set_range' HCS.out L2.out); clear hk2 hb2 hs2 ho2; (try simp only [Act.put, qA, qB, qC]))
    )
   refine (lStepCat_any N IH.out l HN.out HM.out HGL.out b _ w2 (RowT.monoX (HROW.out.below B2.out) B2.out.size)).mono ?_
   rintro e w6 ⟨ds, rfl, hd6, hb6⟩
   have D6 := Lib.hid hd6.length
   have D1 := Lib.hid (show ds.all (·.oneCell') = true from List.all_eq_true.2 (RxD.one hd6))
   have B6 := Lib.hid (B2.out.trans (hb6.mono B2.out.size))
   have K6 := Lib.hid (K2.out.below hb6 K2.out.lt)
   have V6 := Lib.hid hd6
   have S6 := Lib.hid B2.out.size
   have HK6 := Lib.hid K2.out.lt
   clear hd6 hb6
   go_wp2_with ((with_reducible refine atStore 29 4 19 ?_); refine wpList_stBlk rfl 29 _ _ rfl w1.heap.size ds rfl rfl 29 _ K6.out (size_rx D6.out) (by rw [HZL.out, D6.out]) D1.out B6.out B1.out.size ?_; intro w7 hk7 hb7 hs7 ho7; have K7 := Lib.hid hk7; have B7 := Lib.hid hb7; have V7 := Lib.hid ((V6.out.stay (w' := w7) fun k hk => ho7 k (by have h1 := hk.1; have h2 := HK6.out; omega)).mono (D' := fun k => w.heap.size ≤ k ∧ k < w7.heap.size) fun k hk => ⟨Nat.le_trans S6.out hk.1, by rw [hs7]; exact hk.2⟩); clear hk7 hb7 hs7 ho7; (try simp only [Act.put, qA, qB, qC]))
   refine bodyPost_ret (results_blk rfl _ _ w1.heap.size 29 _ _ rfl K7.out Tryz.underlying29 rfl (size_rx D6.out)) rfl ?_
   exact ⟨ds, rfl, by rw [HR.out]; exact V7.out, B7.out⟩
  have z4 : (k == 4) = false := by simpa using k4
  by_cases k5 : k = 5
  ·subst k5
   have HR := Lib.hid (step_alt HG.out b)
   clear k3 k4
   go_enter Tryz.func40, Tryz.ntmps40
   go_wp2_with (first
    | ((with_reducible refine atDst 2 ?_); refine wpList_box rfl 29 _ rfl cs rfl (Below.refl w.heap.size w) (Nat.le_refl _) ?_; intro w1 hk1 hb1 hs1 _; have L1 := Lib.hid hk1; have B1 := Lib.hid hb1; clear hk1 hb1 hs1; (try simp only [Act.put, qA, qB, qC]))
    | ((with_reducible refine atDst 4 ?_); refine wpList_new rfl 29 rfl i0 _ z hi0 HZ0.out rfl B1.out B1.out.size ?_; intro w2 hk2 hb2 hs2 ho2; have K2 := Lib.hid hk2; have B2 := Lib.hid hb2; have L2 := Lib.hid (show Blk w2 w.heap.size 29 cs from (ho2 _ L1.out.lt).trans L1.out); have c0 := L2.out.cell 0; rw [HC0.out] at c0; have c5 := L2.out.cell 5; rw [HC5.out] at c5; have RS := Lib.hid (set_range' HCS.out L2.out); clear hk2 hb2 hs2 ho2; (try simp only [Act.put, qA, qB, qC]))
    )
   refine (lStepAlt_any N IH.out l HN.out HM.out HGL.out b _ w2 (RowT.monoX (HROW.out.below B2.out) B2.out.size)).mono ?_
   rintro e w6 ⟨ds, rfl, hd6, hb6⟩
   have D6 := Lib.hid hd6.length
   have D1 := Lib.hid (show ds.all (·.oneCell') = true from List.all_eq_true.2 (RxD.one hd6))
   have B6 := Lib.hid (B2.out.trans (hb6.mono B2.out.size))
   have K6 := Lib.hid (K2.out.below hb6 K2.out.lt)
   have V6 := Lib.hid hd6
   have S6 := Lib.hid B2.out.size
   have HK6 := Lib.hid K2.out.lt
   clear hd6 hb6
   go_wp2_with ((with_reducible refine atStore 29 4 25 ?_); refine wpList_stBlk rfl 29 _ _ rfl w1.heap.size ds rfl rfl 29 _ K6.out (size_rx D6.out) (by rw [HZL.out, D6.out]) D1.out B6.out B1.out.size ?_; intro w7 hk7 hb7 hs7 ho7; have K7 := Lib.hid hk7; have B7 := Lib.hid hb7; have V7 := Lib.hid ((V6.out.stay (w' := w7) fun k hk => ho7 k (by have h1 := hk.1; have h2 := HK6.out; omega)).mono (D' := fun k => w.heap.size ≤ k ∧ k < w7.heap.size) fun k hk => ⟨Nat.le_trans S6.out hk.1, by rw [hs7]; exact hk.2⟩); clear hk7 hb7 hs7 ho7; (try simp only [Act.put, qA, qB, qC]))
   refine bodyPost_ret (results_blk rfl _ _ w1.heap.size 29 _ _ rfl K7.out Tryz.underlying29 rfl (size_rx D6.out)) rfl ?_
   exact ⟨ds, rfl, by rw [HR.out]; exact V7.out, B7.out⟩
  have z5 : (k == 5) = false := by simpa using k5
  by_cases k6 : k = 6
  ·subst k6
   clear k3 k4 k5
   obtain ⟨x, hx, _⟩ := star_one HG.out
   subst hx
   have HR := Lib.hid (step_star HG.out b)
   have HXG := Lib.hid (HGL.out x (by simp))
   have HXN := Lib.hid (show x.nodes ≤ N by have := HN.out; simp only [nodesL] at this; omega)
   have HXM := Lib.hid (show x.nodes ≤ 2000 by have := HM.out; simp only [nodesL] at this; omega)
   obtain ⟨bb, off, rfl, hbb, hrng⟩ := H3.out (by simp)
   have HRG := Lib.hid (hrng 0 (by simp))
   have HBB := Lib.hid hbb
   have HVX := Lib.hid (H4.out 0 x rfl)
   have HV6 := Lib.hid HVX.out.length
   have j1 : (0 : Int) < (1 : Int) := by omega
   have HCN := Lib.hid (show nodesL [stepT x b.toNat, .node 6 s [x]] ≤ 274877906944 by
    have h1 := step_few HXG.out b HXM.out
    have h2 := HTM.out
    simp only [nodesL]
    omega)
   clear hrng hbb
   go_enter Tryz.func40, Tryz.ntmps40
   go_wp2_with (first
    | ((with_reducible refine atDst 2 ?_); refine wpList_box rfl 29 _ rfl cs rfl (Below.refl w.heap.size w) (Nat.le_refl _) ?_; intro w1 hk1 hb1 hs1 _; have L1 := Lib.hid hk1; have B1 := Lib.hid hb1; clear hk1 hb1 hs1; (try simp only [Act.put, qA, qB, qC]))
    | ((with_reducible refine atDst 4 ?_); refine wpList_new rfl 29 rfl i0 _ z hi0 HZ0.out rfl B1.out B1.out.size ?_; intro w2 hk2 hb2 hs2 ho2; have K2 := Lib.hid hk2; have B2 := Lib.hid hb2; have L2 := Lib.hid (show Blk w2 w.heap.size 29 cs from (ho2 _ L1.out.lt).trans L1.out); have c0 := L2.out.cell 0; rw [HC0.out] at c0; have c5 := L2.out.cell 5; rw [HC5.out] at c5; have RS := Lib.hid (set_range' HCS.out L2.out); clear hk2 hb2 hs2 ho2; (try simp only [Act.put, qA, qB, qC]))
    )
   refine sg_start (S := fun V => w2.grownBy V (some w1.heap.size)) (by kernel_rfl) (grown_start w2 _) (fun wd hwd => ?_)
   have hX : w2.grownBy wd (some w1.heap.size) := by rw [hwd]; exact grown_start w2 _
   have KD := Lib.hid (show Blk wd w1.heap.size 29 z by rw [hwd]; exact K2.out)
   have BD := Lib.hid (show Below w2.heap.size w2 wd by rw [hwd]; exact (Below.refl _ _).drew)
   have HNE := Lib.hid (show some w.heap.size ≠ some w1.heap.size from fun e => by have h1 := Option.some.inj e; have h2 := L1.out.lt; omega)
   have HBN := Lib.hid (show some bb ≠ some w1.heap.size from fun e => by have h1 := Option.some.inj e; have h2 := L1.out.lt; have h3 := HBB.out; omega)
   have HRG2 := Lib.hid (range_below HRG.out B2.out HBB.out)
   clear hwd
   refine sg_take (i := 0) (oi := ⟨some 32, _, _, _, _, _⟩) (v := ?_) rfl (by kernel_rfl) (by kernel_rfl) (by kernel_rfl) (fun _ _ _ h => h) rfl hX ?_ ?_; rotate_left; (intro W hW; go_simp; try with_reducible rfl); simp only [Act.put, qA, qB, qC]
   refine sg_take (i := 1) (oi := ⟨some 33, _, _, _, _, _⟩) (v := .slice (some ⟨bb, off, none⟩) 1 cap) rfl (by kernel_rfl) (by kernel_rfl) (by kernel_rfl) (fun _ _ _ h => h) rfl hX (fun V hV => ld_rxs (.tmp 32) rfl rfl (grown_cell hV L2.out.lt HNE.out c5)) ?_; simp only [Act.put, qA, qB, qC]
   refine sg_take (i := 2) (oi := ⟨some 34, _, _, _, _, _⟩) (v := ?_) rfl (by kernel_rfl) (by kernel_rfl) (by kernel_rfl) (fun _ _ _ h => h) rfl hX ?_ ?_; rotate_left; (intro W hW; go_simp; try with_reducible rfl); simp only [Act.put, qA, qB, qC]
   refine sg_take (i := 3) (oi := ⟨some 35, _, _, _, _, _⟩) (v := .agg (f 0).toArray) rfl (by kernel_rfl) (by kernel_rfl) (by kernel_rfl) (fun _ _ _ h => h) rfl hX (fun V hV => ld_keep 29 _ rfl bb (off + 0 * 6) rfl _ _ HRG2.out (hV.block bb (Nat.lt_of_lt_of_le HBB.out B2.out.size) HBN.out) Tryz.underlying29 rfl (size_rx HV6.out)) ?_; simp only [Act.put, qA, qB, qC]
   refine sg_take (i := 4) (oi := ⟨some 36, _, _, _, _, _⟩) (v := ?_) rfl (by kernel_rfl) (by kernel_rfl) (by kernel_rfl) (fun _ _ _ h => h) rfl hX ?_ ?_; rotate_left; (intro W hW; go_simp; try with_reducible rfl); simp only [Act.put, qA, qB, qC]
   refine sg_take (i := 6) (oi := ⟨some 38, _, _, _, _, _⟩) (v := .agg cs.toArray) rfl (by kernel_rfl) (by kernel_rfl) (by kernel_rfl) (fun _ _ _ h => h) rfl hX (fun V hV => ld_keep 29 _ rfl w.heap.size 0 rfl _ _ (fun i v hv => (L2.out.cell (0 + i)).trans (by rw [Nat.zero_add]; exact hv)) (hV.block _ L2.out.lt HNE.out) Tryz.underlying29 rfl (size_rx HC6.out)) ?_; simp only [Act.put, qA, qB, qC]
   refine sg_actB (i := 5) (o := ⟨some 37, _, _, _, _, _⟩) rfl (by kernel_rfl) rfl hX (fun K hK => ?_)
   go_wp2_with fail
   refine (IH.out x HXN.out HXM.out HXG.out b (f 0) wd (RxV.mono (HVX.out.stay (B2.out.trans (BD.out.mono B2.out.size))) (Nat.le_trans B2.out.size BD.out.size))).mono ?_
   rintro e w3 ⟨es, rfl, hes, hb3⟩
   go_wp2_with fail
   refine hK _ _ (grown_then hX hb3) ?_
   clear hK K
   (try simp only [Act.put, qA, qB, qC])
   replace hX := grown_then hX hb3
   have HES := Lib.hid hes
   have HE6 := Lib.hid hes.length
   have K3 := Lib.hid (KD.out.below hb3 KD.out.lt)
   have B3 := Lib.hid (B2.out.trans ((BD.out.trans (hb3.mono BD.out.size)).mono B2.out.size))
   clear hes hb3
   refine sg_actB (i := 7) (o := ⟨some 39, _, _, _, _, _⟩) rfl (by kernel_rfl) rfl hX (fun K hK => ?_)
   refine wp_bldT2 27 29 (.tmp 37) (.tmp 38) rfl i0 Tryz.underlying27 hi0 HZ1.out hz1 es cs HE6.out HC6.out rfl rfl ?_
   intro w4 hk4 hb4 hs4
   refine hK _ _ (grown_then hX hb4) ?_
   clear hK K
   (try simp only [Act.put, qA, qB, qC])
   replace hX := grown_then hX hb4
   have K4 := Lib.hid (K3.out.below hb4 K3.out.lt)
   have B4 := Lib.hid (B3.out.trans (hb4.mono B3.out.size))
   have R4 := Lib.hid (row_two (B := w4.heap.size) hk4 (RxD.mono (HES.out.stay (w' := w4) fun q hq => hb4.block q hq.2) fun q hq => Nat.lt_of_lt_of_le hq.2 hb4.size) (RxV.mono (X.out.stay B4.out) B4.out.size) (by rw [hs4]; omega))
   clear hk4 hb4 hs4
   refine sg_actB (i := 8) (o := ⟨some 40, _, _, _, _, _⟩) rfl (by kernel_rfl) rfl hX (fun K hK => ?_)
   go_wp2_with fail
   refine (rxCat_any _ _ w4 R4.out HCN.out).mono ?_
   rintro e w6 ⟨ds, rfl, hd6, hb6⟩
   go_wp2_with fail
   refine hK _ _ (grown_then hX hb6) ?_
   clear hK K
   (try simp only [Act.put, qA, qB, qC])
   replace hX := grown_then hX hb6
   have D6 := Lib.hid hd6.length
   have D1 := Lib.hid (show ds.all (·.oneCell') = true from List.all_eq_true.2 (RxD.one hd6))
   have B6 := Lib.hid (B4.out.trans (hb6.mono B4.out.size))
   have K6 := Lib.hid (K4.out.below hb6 K4.out.lt)
   have V6 := Lib.hid hd6
   have HK6 := Lib.hid K4.out.lt
   clear hd6 hb6
   refine sg_actB (i := 9) (o := ⟨none, _, _, _, _, _⟩) rfl (by kernel_rfl) rfl hX (fun K hK => ?_)
   refine wp_stBlk 29 _ _ rfl w1.heap.size ds rfl rfl 29 _ K6.out (size_rx D6.out) (by rw [HZL.out, D6.out]) D1.out B6.out B1.out.size ?_
   intro w7 hk7 hb7 hs7 ho7 hbx
   have hX9 := grown_at hX (grown_belowG hX K2.out.lt) ((grown_belowG hX K2.out.lt).trans (hbx w1.heap.size (Nat.le_refl _))) (by rw [hs7]; exact Nat.le_refl _) ho7
   refine hK _ _ hX9 ?_
   clear hK K
   refine wpAnyH_done (by kernel_rfl) ?_ _
   have K7 := Lib.hid hk7
   have B7 := Lib.hid hb7
   have V7 := Lib.hid ((V6.out.stay (w' := w7) fun k hk => ho7 k (by have h1 := hk.1; have h2 := HK6.out; omega)).mono (D' := fun k => w.heap.size ≤ k ∧ k < w7.heap.size) fun k hk => ⟨Nat.le_trans B4.out.size hk.1, by rw [hs7]; exact hk.2⟩)
   clear hX hX9 hk7 hb7 hs7 ho7 hbx
   go_wp2_with fail
   refine bodyPost_ret (results_blk rfl _ _ w1.heap.size 29 _ _ rfl K7.out Tryz.underlying29 rfl (size_rx D6.out)) rfl ?_
   exact ⟨ds, rfl, by rw [HR.out]; exact V7.out, B7.out⟩
  have z6 : (k == 6) = false := by simpa using k6
  have HR := Lib.hid (step_no (s := s) (l := l) k3 k4 k5 k6 b.toNat)
  clear k3 k4 k5 k6
  go_enter Tryz.func40, Tryz.ntmps40
  go_wp2_with (first
   | ((with_reducible refine atDst 2 ?_); refine wpList_box rfl 29 _ rfl cs rfl (Below.refl w.heap.size w) (Nat.le_refl _) ?_; intro w1 hk1 hb1 hs1 _; have L1 := Lib.hid hk1; have B1 := Lib.hid hb1; clear hk1 hb1 hs1; (try simp only [Act.put, qA, qB, qC]))
   | ((with_reducible refine atDst 4 ?_); refine wpList_new rfl 29 rfl i0 _ z hi0 HZ0.out rfl B1.out B1.out.size ?_; intro w2 hk2 hb2 hs2 ho2; have K2 := Lib.hid hk2; have B2 := Lib.hid hb2; have L2 := Lib.hid (show Blk w2 w.heap.size 29 cs from (ho2 _ L1.out.lt).trans L1.out); have c0 := L2.out.cell 0; rw [HC0.out] at c0; have c5 := L2.out.cell 5; rw [HC5.out] at c5; have RS := Lib.hid (set_range' HCS.out L2.out); clear hk2 hb2 hs2 ho2; (try simp only [Act.put, qA, qB, qC]))
   )
  refine (rxNone_any w2).mono ?_
  rintro e w6 ⟨ds, rfl, hd6', hb6⟩
  have hd6 := hd6' fun k => w2.heap.size ≤ k ∧ k < w6.heap.size
  clear hd6'
  have D6 := Lib.hid hd6.length
  have D1 := Lib.hid (show ds.all (·.oneCell') = true from List.all_eq_true.2 (RxD.one hd6))
  have B6 := Lib.hid (B2.out.trans (hb6.mono B2.out.size))
  have K6 := Lib.hid (K2.out.below hb6 K2.out.lt)
  have V6 := Lib.hid hd6
  have S6 := Lib.hid B2.out.size
  have HK6 := Lib.hid K2.out.lt
  clear hd6 hb6
  go_wp2_with ((with_reducible refine atStore 29 4 41 ?_); refine wpList_stBlk rfl 29 _ _ rfl w1.heap.size ds rfl rfl 29 _ K6.out (size_rx D6.out) (by rw [HZL.out, D6.out]) D1.out B6.out B1.out.size ?_; intro w7 hk7 hb7 hs7 ho7; have K7 := Lib.hid hk7; have B7 := Lib.hid hb7; have V7 := Lib.hid ((V6.out.stay (w' := w7) fun k hk => ho7 k (by have h1 := hk.1; have h2 := HK6.out; omega)).mono (D' := fun k => w.heap.size ≤ k ∧ k < w7.heap.size) fun k hk => ⟨Nat.le_trans S6.out hk.1, by rw [hs7]; exact hk.2⟩); clear hk7 hb7 hs7 ho7; (try simp only [Act.put, qA, qB, qC]))
  refine bodyPost_ret (results_blk rfl _ _ w1.heap.size 29 _ _ rfl K7.out Tryz.underlying29 rfl (size_rx D6.out)) rfl ?_
  exact ⟨ds, rfl, by rw [HR.out]; exact V7.out, B7.out⟩
set_option maxHeartbeats 2000000 in
set_option maxRecDepth 100000 in
theorem lStep_any (t : T) (hn : t.nodes ≤ 400) (hg : good t) (b : UInt8) (cs : List Value) (w : World) (hv : RxV w.heap.size w cs t) :
  Calls Tryz.prog 17 #[.agg cs.toArray, bv b] w fun e w' => ∃ ds, e = .returned (.agg ds.toArray) ∧ RxD (fun k => w.heap.size ≤ k ∧ k < w'.heap.size) w' ds (stepT t b.toNat) ∧ Below w.heap.size w w' := by
 have X := Lib.hid hv
 have HC6 := Lib.hid hv.length
 have HN := Lib.hid hn
 have HG := Lib.hid hg
 have HLG := Lib.hid (show decide (2000 < t.nodes) = false from decide_eq_false (by omega))
 obtain ⟨i0, hi0, hz0, hz1, hz2⟩ := inf_rx'
 obtain ⟨z, hz⟩ : ∃ z, z = rxc 0 zeroS (.slice none 0 0) := ⟨_, rfl⟩
 have HZL := Lib.hid (show z.length = 6 by rw [hz]; rfl)
 have HZ0 := Lib.hid (show i0.zero = some (.agg z.toArray) by rw [hz]; exact hz0)
 have HZ1 := Lib.hid hz0
 clear hz hz0
 clear hv hn hg
 go_enter Tryz.func17, Tryz.ntmps17
 go_wp2_with (first
  | ((with_reducible refine atDst 2 ?_); refine wpList_box rfl 29 _ rfl cs rfl (Below.refl w.heap.size w) (Nat.le_refl _) ?_; intro w1 hk1 hb1 hs1 _; have L1 := Lib.hid hk1; have B1 := Lib.hid hb1; clear hk1 hb1 hs1; (try simp only [Act.put, qA, qB, qC]))
  | ((with_reducible refine atDst 4 ?_); refine wpList_new rfl 29 rfl i0 _ z hi0 HZ0.out rfl B1.out B1.out.size ?_; intro w2 hk2 hb2 hs2 ho2; have K2 := Lib.hid hk2; have B2 := Lib.hid hb2; have L2 := Lib.hid (show Blk w2 w.heap.size 29 cs from (ho2 _ L1.out.lt).trans L1.out); clear hk2 hb2 hs2 ho2; (try simp only [Act.put, qA, qB, qC]))
  | ((with_reducible refine atDst 5 ?_); refine wpList_ldArr rfl 29 _ rfl w.heap.size rfl 29 _ _ L2.out Tryz.underlying29 rfl (size_rx HC6.out) ?_; (try simp only [Act.put, qA, qB, qC])))
 refine (lLarge_any t cs w2 ((X.out.stay B2.out).mono B2.out.size) false HLG.out).mono ?_
 rintro e w3 ⟨rfl, hb3⟩
 have B3 := Lib.hid (B2.out.trans (hb3.mono B2.out.size))
 have K3 := Lib.hid (K2.out.below hb3 K2.out.lt)
 have L3 := Lib.hid (L2.out.below hb3 L2.out.lt)
 clear hb3
 go_wp2_with ((with_reducible refine atDst 8 ?_); refine wpList_ldMidG rfl 29 _ rfl w.heap.size 0 rfl cs _ (fun i u hu => by have := L3.out.cell (0 + i); rw [this]; simpa using hu) Tryz.underlying29 rfl (size_rx HC6.out) ?_; (try simp only [Act.put, qA, qB, qC]))
 refine (lDear_any t HN.out cs w3 ((X.out.stay B3.out).mono B3.out.size)).mono ?_
 rintro e w4 ⟨rfl, hb4⟩
 have B4 := Lib.hid (B3.out.trans (hb4.mono B3.out.size))
 have K4 := Lib.hid (K3.out.below hb4 K3.out.lt)
 have L4 := Lib.hid (L3.out.below hb4 L3.out.lt)
 clear hb4
 go_wp2_with ((with_reducible refine atDst 12 ?_); refine wpList_ldArr rfl 29 _ rfl w.heap.size rfl 29 _ _ L4.out Tryz.underlying29 rfl (size_rx HC6.out) ?_; (try simp only [Act.put, qA, qB, qC]))
 refine (lStep0_any _ t (Nat.le_refl _) (by have := HN.out; omega) HG.out b cs w4 ((X.out.stay B4.out).mono B4.out.size)).mono ?_
 rintro e w6 ⟨ds, rfl, hd6, hb6⟩
 have D6 := Lib.hid hd6.length
 have D1 := Lib.hid (show ds.all (·.oneCell') = true from List.all_eq_true.2 (RxD.one hd6))
 have B6 := Lib.hid (B4.out.trans (hb6.mono B4.out.size))
 have K6 := Lib.hid (K4.out.below hb6 K4.out.lt)
 have V6 := Lib.hid hd6
 have S6 := Lib.hid B4.out.size
 have HK6 := Lib.hid K4.out.lt
 clear hd6 hb6
 go_wp2_with ((with_reducible refine atStore 29 4 14 ?_); refine wpList_stBlk rfl 29 _ _ rfl w1.heap.size ds rfl rfl 29 _ K6.out (size_rx D6.out) (by rw [HZL.out, D6.out]) D1.out B6.out B1.out.size ?_; intro w7 hk7 hb7 hs7 ho7; have K7 := Lib.hid hk7; have B7 := Lib.hid hb7; have V7 := Lib.hid ((V6.out.stay (w' := w7) fun k hk => ho7 k (by have h1 := hk.1; have h2 := HK6.out; omega)).mono (D' := fun k => w.heap.size ≤ k ∧ k < w7.heap.size) fun k hk => ⟨Nat.le_trans S6.out hk.1, by rw [hs7]; exact hk.2⟩); clear hk7 hb7 hs7 ho7; (try simp only [Act.put, qA, qB, qC]))
 refine bodyPost_ret (results_blk rfl _ _ w1.heap.size 29 _ _ rfl K7.out Tryz.underlying29 rfl (size_rx D6.out)) rfl ?_
 exact ⟨ds, rfl, V7.out, B7.out⟩
end Go.Proofs.YtopnpdobcagcgaaGreat
namespace Go.Proofs.YtopnpdobcagcgaaGreat
open Go.RowKit
set_option linter.unusedSimpArgs false
set_option linter.unusedVariables false
theorem setP_few (ps : List UInt8) (n : Nat) : n ≤ (setP ps n).2 ∧ (n ≤ ps.length → (setP ps n).2 ≤ ps.length) := by
 have hge := fun k => numN_ge ps k
 have hle := fun (k : Nat) (h : k ≤ ps.length) => numN_le h
 have a := hge n
 have b := hge (numN ps n)
 have c := hge (numN ps (numN ps n))
 have d := hge (numN ps (numN ps (numN ps n)))
 unfold setP
 by_cases c0 : numV ps n 8 = 0
 ·rw [if_pos c0]; exact ⟨a, fun h => hle n h⟩
 rw [if_neg c0]
 by_cases c1 : numV ps n 8 = 1
 ·rw [if_pos c1]; exact ⟨by show n ≤ numN ps (numN ps (numN ps n)); omega, fun h => hle _ (hle _ (hle _ h))⟩
 rw [if_neg c1]
 by_cases c2 : numV ps n 8 = 2
 ·rw [if_pos c2]; exact ⟨by show n ≤ numN ps (numN ps n); omega, fun h => hle _ (hle _ h)⟩
 rw [if_neg c2]
 by_cases c3 : numV ps n 8 = 3
 ·rw [if_pos c3]; exact ⟨by show n ≤ numN ps (numN ps (numN ps (numN ps n))); omega, fun h => hle _ (hle _ (hle _ (hle _ h)))⟩
 rw [if_neg c3]
 by_cases c4 : numV ps n 8 = 4
 ·rw [if_pos c4]; exact ⟨a, fun h => hle n h⟩
 rw [if_neg c4]
 exact ⟨by show n ≤ numN ps (numN ps n); omega, fun h => hle _ (hle _ h)⟩
theorem bytes_nodes (s : Nat → Bool) : (bytesT s).nodes = 1 := by
 unfold bytesT
 split <;> rfl
theorem rxP_few (ps : List UInt8) : ∀ N deep n, n ≤ ps.length → (rxP ps N deep n).1.nodes + 4 * n ≤ 4 * (rxP ps N deep n).2 + 1 ∧ n ≤ (rxP ps N deep n).2 ∧ (rxP ps N deep n).2 ≤ ps.length
 | 0, _, n, h => ⟨by show 1 + 4 * n ≤ 4 * n + 1; omega, Nat.le_refl _, h⟩
 | N + 1, deep, n, h => by
  have hn1 := numN_le h
  have hge := numN_ge ps n
  obtain ⟨n1, e1⟩ : ∃ x, x = numN ps n := ⟨_, rfl⟩
  have hstep : ps.length ≤ n1 ∨ n1 = n + 1 := by
   rw [e1]
   unfold numN
   by_cases hx : ps.length ≤ n
   ·rw [if_pos hx]; exact .inl hx
   ·rw [if_neg hx]; exact .inr rfl
  rw [← e1] at hn1 hge
  have ih1 := rxP_few ps N (deep + 1) n1 hn1
  obtain ⟨tx, ex⟩ : ∃ x, x = (rxP ps N (deep + 1) n1).1 := ⟨_, rfl⟩
  obtain ⟨n2, e2⟩ : ∃ x, x = (rxP ps N (deep + 1) n1).2 := ⟨_, rfl⟩
  rw [← ex, ← e2] at ih1
  have ih2 := rxP_few ps N (deep + 1) n2 ih1.2.2
  obtain ⟨ty, ey⟩ : ∃ x, x = (rxP ps N (deep + 1) n2).1 := ⟨_, rfl⟩
  obtain ⟨n3, e3⟩ : ∃ x, x = (rxP ps N (deep + 1) n2).2 := ⟨_, rfl⟩
  rw [← ey, ← e3] at ih2
  have hs := setP_few ps n1
  have hb := bytes_nodes (setP ps n1).1
  have hc := catT_nodes [tx, ty]
  have ha := altT_nodes [tx, ty]
  have hst := star_nodes tx
  have hm1 := numN_ge ps n1
  have hm2 := numN_le hn1
  simp only [nodesL] at hc ha
  simp only [rxP]
  rw [← e1, ← ex, ← e2, ← ey, ← e3]
  by_cases hl : ps.length ≤ n1 ∨ 8 < deep ∨ numV ps n 9 < 3
  ·rw [if_pos hl]
   by_cases hl2 : ps.length ≤ n1 ∨ 0 < numV ps n 9
   ·rw [if_pos hl2]
    exact ⟨by show (bytesT (setP ps n1).1).nodes + 4 * n ≤ 4 * (setP ps n1).2 + 1; omega, by show n ≤ (setP ps n1).2; omega, hs.2 hn1⟩
   ·rw [if_neg hl2]
    split
    ·exact ⟨by show 1 + 4 * n ≤ 4 * numN ps n1 + 1; omega, by show n ≤ numN ps n1; omega, hm2⟩
    ·exact ⟨by show 1 + 4 * n ≤ 4 * numN ps n1 + 1; omega, by show n ≤ numN ps n1; omega, hm2⟩
  ·rw [if_neg hl]
   have hno : ¬ ps.length ≤ n1 := fun hq => hl (.inl hq)
   have hn : n1 = n + 1 := hstep.resolve_left hno
   split
   ·exact ⟨by show (catT [tx, ty]).nodes + 4 * n ≤ 4 * n3 + 1; omega, by show n ≤ n3; omega, ih2.2.2⟩
   ·split
    ·exact ⟨by show (altT [tx, ty]).nodes + 4 * n ≤ 4 * n3 + 1; omega, by show n ≤ n3; omega, ih2.2.2⟩
    ·exact ⟨by show (starT tx).nodes + 4 * n ≤ 4 * n2 + 1; omega, by show n ≤ n2; omega, ih1.2.2⟩
theorem madeT_few (ps : List UInt8) : (madeT ps).nodes ≤ 4 * ps.length + 1 := by
 have h1 := rxP_few ps 10 0 0 (Nat.zero_le _)
 have h3 : (madeT ps).nodes = (rxP ps 10 0 0).1.nodes := rfl
 omega
/-! ### words -/
theorem ownG {w w' : World} {g base : Nat} {e : TypeId} {v : Value} {n : Nat} {xs : List Value} (h : w.ownsRow base e 1 v n xs) (hg : w.grownBy w' (some g)) (hlt : g < base) : w'.ownsRow base e 1 v n xs := by
 refine ⟨h.1, ?_⟩
 rcases h.2 with h0 | ⟨k, cap, cur, rfl, hb2, hk, h3⟩
 ·exact .inl h0
 ·exact .inr ⟨k, cap, cur, rfl, hb2, (hg.block k (Array.getElem?_eq_some_iff.1 hk).1 (fun he => by have := Option.some.inj he; omega)).trans hk, h3⟩
theorem grown_app {w0 w w' : World} {g base : Nat} {row : Option Nat} (h : w0.grownBy w (some g)) (ha : w.grownBy w' row) (hb : w0.heap.size ≤ base) (hr : ∀ k, row = some k → base ≤ k) : w0.grownBy w' (some g) :=
 ⟨ha.os.trans h.os, ha.tape.trans h.tape, ha.output.trans h.output, Nat.le_trans h.size ha.size, fun k hk hne => (ha.block k (by have := h.size; omega) (fun he => by have := hr k he.symm; omega)).trans (h.block k hk hne)⟩
theorem Pk.app {w w' : World} {g base : Nat} {V : Value} {ps : List UInt8} {n : Nat} {row : Option Nat} (h : Pk w g V ps n) (ha : w.grownBy w' row) (hg : g < base) (hr : ∀ k, row = some k → base ≤ k) : Pk w' g V ps n :=
 ⟨(ha.block g h.blk.lt (fun he => by have := hr g he.symm; omega)).trans h.blk, h.row.below ⟨ha.os, ha.tape, ha.output, ha.size, fun k hk => ha.block k (by have := h.blk.lt; omega) (fun he => by have := hr k he.symm; omega)⟩, h.le, h.few⟩
theorem one_byte (w : World) (x : Nat) (hx : x < 256) : Row (w.alloc (.cells #[.int .u8 (x : Int)] 5)) (.slice (some ⟨w.heap.size, 0, none⟩) 1 1) (bvs [UInt8.ofNat x]) :=
 rowB (n := 1) (by
  have := Blk.new w 5 (bvs [UInt8.ofNat x])
  rw [show bvs [UInt8.ofNat x] = [.int .u8 (x : Int)] from congrArg (fun x => [x]) (bv_ofNat hx)] at this ⊢
  exact this) rfl (by omega)
theorem wrap_j {j : Nat} (h : j ≤ 200) : wrap64 (j : Int) = (j : Int) := IntWalk.wrap64_in _ (by omega)
theorem meas_lt {j : Nat} (h : wrap64 (j : Int) = (j : Int)) : (intOf (.int .i64 (wrap64 (j : Int)))).toNat < (intOf (.int .i64 ((j + 1 : Nat) : Int))).toNat := by
 rw [h]
 simp only [intOf]
 omega
theorem few_mul {n : Nat} (h : n ≤ 201) : n * 1 ≤ 140737488355328 := by omega
theorem few_sum {j n x0 most : Nat} {b : UInt8} (h : j + 1 + n = x0) (h1 : x0 ≤ most) (h2 : most ≤ 200) : n + (bvs [b]).length ≤ 201 := by
 rw [bvs_length]
 show n + 1 ≤ 201
 omega
theorem few_len {n : Nat} (h : n ≤ 201) : n ≤ maxLen := by unfold maxLen; omega
theorem add_one_left (j n : Nat) : j + (n + 1) = j + 1 + n := by omega
set_option maxHeartbeats 8000000 in
set_option maxRecDepth 1000000 in
theorem pickWord_any (g : Nat) (V : Value) (ps : List UInt8) (n most : Nat) (hmo : most ≤ 200) (w : World) (h : Pk w g V ps n) :
  Calls Tryz.prog 9 #[.pointer (some ⟨g, 0, none⟩), .int .i64 (most : Int)] w fun e w' => ∃ (v : Value) (W : List UInt8), e = .returned v ∧ Row w' v (bvs W) ∧ W.length ≤ most ∧ w.grownBy w' (some g) := by
 have HPK := Lib.hid h
 have HMO := Lib.hid hmo
 obtain ⟨i1, hi1, hy0, hy1, hy2⟩ := infoP inf_u8
 obtain ⟨x0, hx0⟩ : ∃ x0, x0 = numV ps n (most + 1) := ⟨_, rfl⟩
 have HX0 := Lib.hid (show x0 ≤ most by rw [hx0]; have := numV_lt ps n (m := most + 1) (by omega); omega)
 have HXE := Lib.hid hx0
 have HM0 := Lib.hid (show 0 < most + 1 from Nat.succ_pos most)
 have HM1 := Lib.hid (show most + 1 ≤ 1048576 by omega)
 have m1 : IntKind.i64.wrap ((most : Int) + 1) = ((most + 1 : Nat) : Int) := wrap_one' most (by omega)
 have m2 : wrap64 ((most : Int) + 1) = ((most + 1 : Nat) : Int) := wrap_one most (by omega)
 clear h hx0 hmo
 go_enter Tryz.func9, Tryz.ntmps9
 go_wp2_with fail
 refine (num_any w g V ps n (most + 1) HPK.out HM0.out HM1.out).mono ?_
 rintro e w1 ⟨rfl, hg, hp⟩
 rw [← HXE.out]
 have G1 := Lib.hid hg
 have P1 := Lib.hid hp
 clear hg hp m1 m2
 go_wp2_with fail
 go_loopw [5, 6] (fun v i wl => ∃ (v1 : Value) (k n' : Nat) (W : List UInt8), v1 = v ∧ i = .int .i64 (k : Int) ∧ k + W.length = x0 ∧ wl.ownsRow w1.heap.size 5 1 v1 W.length (bvs W) ∧ Pk wl g V ps n' ∧ w1.grownBy wl (some g)) (fun _ i _ => (intOf i).toNat)
 case atStart => exact ⟨_, x0, _, [], rfl, by simp, by simp, ownN _ _ _, P1.out, World.grownBy.refl _ _⟩
 case round =>
  obtain ⟨v1, k, n', W, rfl, rfl, hk, ho, hp, hg⟩ := hrel
  have HO := Lib.hid ho
  have HP := Lib.hid hp
  have HG := Lib.hid hg
  have HK := Lib.hid hk
  clear ho hp hg hk
  rcases Nat.eq_zero_or_pos k with hk0 | hk0
  ·subst hk0
   have i1' : ¬ ((0 : Int) < 0) := by omega
   go_wp2_with fail
   go_ret
   exact ⟨v1, rfl, W, Row.of_own HO.out, by have := HK.out; have := HX0.out; omega, grownG_trans G1.out HG.out⟩
  ·obtain ⟨j, rfl⟩ : ∃ j, k = j + 1 := ⟨k - 1, by omega⟩
   have HJ := Lib.hid (show j + 1 ≤ x0 by have := HK.out; omega)
   have HG1 := Lib.hid (show g < w1.heap.size from P1.out.blk.lt)
   have j1 : (0 : Int) < ((j + 1 : Nat) : Int) := by omega
   have HJW := Lib.hid (show wrap64 (j : Int) = (j : Int) from wrap_j (by have := HJ.out; have := HX0.out; have := HMO.out; omega))
   go_wp2_with fail
   refine (num_any wr g V ps n' 8 HP.out (by decide) (by decide)).mono ?_
   rintro e w3 ⟨rfl, hg, hp⟩
   have G3 := Lib.hid (grownG_trans HG.out hg)
   have P3 := Lib.hid hp
   have O3 := Lib.hid (ownG HO.out hg HG1.out)
   clear hg hp
   obtain ⟨d, hd⟩ : ∃ d, d = numV ps n' 8 := ⟨_, rfl⟩
   rw [← hd]
   clear hd
   by_cases hd : d = 0
   ·have hd' : (d : Int) = 0 := by omega
    go_wp2_with fail
    refine (num_any w3 g V ps _ 256 P3.out (by decide) (by decide)).mono ?_
    rintro e w4 ⟨rfl, hg, hp⟩
    have G4 := Lib.hid (grownG_trans G3.out hg)
    have P4 := Lib.hid hp
    have O4 := Lib.hid (ownG O3.out hg HG1.out)
    clear hg hp
    obtain ⟨x, hx⟩ : ∃ x, x = numV ps (numN ps n') 256 := ⟨_, rfl⟩
    have HX := Lib.hid (show x < 256 by rw [hx]; exact numV_lt _ _ (by decide))
    rw [← hx]
    clear hx
    have hw8 : IntKind.u8.wrap (x : Int) = (x : Int) := IntWalk.u8_in _ (by have := HX.out; omega)
    have R1 := Lib.hid (one_byte w4 x HX.out)
    have HB4 := Lib.hid ((Below.refl w4.heap.size w4).alloc (Nat.le_refl _) (.cells #[.int .u8 (x : Int)] 5))
    have OA4 := Lib.hid (O4.out.alloc (.cells #[.int .u8 (x : Int)] 5))
    have HA5 := Lib.hid (own_above OA4.out)
    have HS4 := Lib.hid (show w1.heap.size ≤ (w4.alloc (.cells #[.int .u8 (x : Int)] 5)).heap.size from Nat.le_trans G4.out.size HB4.out.size)
    have HN1 := Lib.hid (show W.length + (bvs [UInt8.ofNat x]).length ≤ 201 from few_sum HK.out HX0.out HMO.out)
    have HN2 := Lib.hid (show W.length + (bvs [UInt8.ofNat x]).length ≤ maxLen from few_len HN1.out)
    have HN3 := Lib.hid (show (W.length + (bvs [UInt8.ofNat x]).length) * 1 ≤ 140737488355328 from few_mul HN1.out)
    go_wp2_with ((with_reducible refine atDst 23 ?_); refine wpList_app rfl (.tmp 18) (.tmp 22) 22 rfl w1.heap.size 5 i1 (.int .u8 0) 1 Tryz.underlying22 hi1 hy0 hy1 hy2 rfl _ _ _ rfl OA4.out _ (bvs [UInt8.ofNat x]) rfl R1.out (bvs_one _) HN2.out HN3.out HS4.out ?_; intro v3 w5 ho5 hg5; have O5 := Lib.hid ho5; have P5 := Lib.hid ((P4.out.below HB4.out).app hg5 HG1.out HA5.out); have G5 := Lib.hid (grown_app (grownG_trans G4.out (below_grownG g HB4.out)) hg5 (Nat.le_refl _) HA5.out); clear ho5 hg5; (try simp only [Act.put, qA, qB, qC]))
    refine ⟨⟨_, j, _, W ++ [UInt8.ofNat x], rfl, congrArg (Value.int .i64) HJW.out, by rw [← HK.out, List.length_append]; exact add_one_left j W.length, ?_, P5.out, G5.out⟩, meas_lt HJW.out⟩
    have := O5.out
    simp only [bvs_append, List.length_append]
    exact this
   ·have hd' : ¬ ((d : Int) = 0) := by omega
    go_wp2_with fail
    refine (num_any w3 g V ps _ 4 P3.out (by decide) (by decide)).mono ?_
    rintro e w4 ⟨rfl, hg, hp⟩
    have G4 := Lib.hid (grownG_trans G3.out hg)
    have P4 := Lib.hid hp
    have O4 := Lib.hid (ownG O3.out hg HG1.out)
    clear hg hp
    obtain ⟨y, hy⟩ : ∃ y, y = numV ps (numN ps n') 4 := ⟨_, rfl⟩
    have HY := Lib.hid (show y < 4 by rw [hy]; exact numV_lt _ _ (by decide))
    rw [← hy]
    clear hy
    obtain ⟨x, hx⟩ : ∃ x, x = 97 + y := ⟨_, rfl⟩
    have HX := Lib.hid (show x < 256 by have := HY.out; omega)
    have hxi : (97 + (y : Int)) = ((x : Nat) : Int) := by omega
    have hw64 : IntKind.i64.wrap (97 + (y : Int)) = (x : Int) := by rw [hxi]; exact IntWalk.i64_in _ (by have := HX.out; omega)
    have hw64' : wrap64 (97 + (y : Int)) = (x : Int) := by rw [hxi]; exact IntWalk.wrap64_in _ (by have := HX.out; omega)
    clear hxi
    have hw8 : IntKind.u8.wrap (x : Int) = (x : Int) := IntWalk.u8_in _ (by have := HX.out; omega)
    clear hx
    have R1 := Lib.hid (one_byte w4 x HX.out)
    have HB4 := Lib.hid ((Below.refl w4.heap.size w4).alloc (Nat.le_refl _) (.cells #[.int .u8 (x : Int)] 5))
    have OA4 := Lib.hid (O4.out.alloc (.cells #[.int .u8 (x : Int)] 5))
    have HA5 := Lib.hid (own_above OA4.out)
    have HS4 := Lib.hid (show w1.heap.size ≤ (w4.alloc (.cells #[.int .u8 (x : Int)] 5)).heap.size from Nat.le_trans G4.out.size HB4.out.size)
    have HN1 := Lib.hid (show W.length + (bvs [UInt8.ofNat x]).length ≤ 201 from few_sum HK.out HX0.out HMO.out)
    have HN2 := Lib.hid (show W.length + (bvs [UInt8.ofNat x]).length ≤ maxLen from few_len HN1.out)
    have HN3 := Lib.hid (show (W.length + (bvs [UInt8.ofNat x]).length) * 1 ≤ 140737488355328 from few_mul HN1.out)
    go_wp2_with ((with_reducible refine atDst 30 ?_); refine wpList_app rfl (.tmp 24) (.tmp 29) 22 rfl w1.heap.size 5 i1 (.int .u8 0) 1 Tryz.underlying22 hi1 hy0 hy1 hy2 rfl _ _ _ rfl OA4.out _ (bvs [UInt8.ofNat x]) rfl R1.out (bvs_one _) HN2.out HN3.out HS4.out ?_; intro v3 w5 ho5 hg5; have O5 := Lib.hid ho5; have P5 := Lib.hid ((P4.out.below HB4.out).app hg5 HG1.out HA5.out); have G5 := Lib.hid (grown_app (grownG_trans G4.out (below_grownG g HB4.out)) hg5 (Nat.le_refl _) HA5.out); clear ho5 hg5; (try simp only [Act.put, qA, qB, qC]))
    refine ⟨⟨_, j, _, W ++ [UInt8.ofNat x], rfl, congrArg (Value.int .i64) HJW.out, by rw [← HK.out, List.length_append]; exact add_one_left j W.length, ?_, P5.out, G5.out⟩, meas_lt HJW.out⟩
    have := O5.out
    simp only [bvs_append, List.length_append]
    exact this
end Go.Proofs.YtopnpdobcagcgaaGreat
namespace Go.Proofs.YtopnpdobcagcgaaGreat
open Go.RowKit
set_option linter.unusedSimpArgs false
set_option linter.unusedVariables false
/-! ### May -/
def mayV (t : T) : Int := if 400 < t.nodes then 4 else if 30 < t.depth then 5 else 0
set_option maxHeartbeats 4000000 in
set_option maxRecDepth 1000000 in
theorem refMay_any (t : T) (ht : good t) (hx : t.nodes ≤ 274877906944) (cs : List Value) (w : World) (hv : RxV w.heap.size w cs t) :
  Calls Tryz.prog 10 #[.agg cs.toArray] w fun e w' => e = .returned (.int .i64 (mayV t)) ∧ Below w.heap.size w w' := by
 have V := Lib.hid hv
 have HC6 := Lib.hid hv.length
 have HF := Lib.hid ht
 have HX := Lib.hid hx
 obtain ⟨n, hn⟩ : ∃ n, n = t.nodes := ⟨_, rfl⟩
 obtain ⟨m, hm⟩ : ∃ m, m = t.depth := ⟨_, rfl⟩
 have HN := Lib.hid hn
 have HM := Lib.hid hm
 have HR := Lib.hid (show mayV t = if 400 < n then 4 else if 30 < m then 5 else 0 by rw [hn, hm]; rfl)
 clear hv ht hx hn hm
 by_cases h1 : 400 < n
 ·have n1 : (400 : Int) < (n : Int) := by omega
  have HE := Lib.hid (show mayV t = 4 by rw [HR.out, if_pos h1])
  clear h1
  go_enter Tryz.func10, Tryz.ntmps10
  go_wp2_with (first
   | ((with_reducible refine atDst 1 ?_); refine wpList_box rfl 29 _ rfl cs rfl (Below.refl w.heap.size w) (Nat.le_refl _) ?_; intro w1 hk1 hb1 hs1 _; have K1 := Lib.hid hk1; have B1 := Lib.hid hb1; clear hk1 hb1 hs1; (try simp only [Act.put, qA, qB, qC]))
   | ((with_reducible refine atDst 4 ?_); refine wpList_ldArr rfl 29 _ rfl w.heap.size rfl 29 _ _ K1.out Tryz.underlying29 rfl (size_rx HC6.out) ?_; (try simp only [Act.put, qA, qB, qC])))
  refine (refNodes_any t.nodes t (Nat.le_refl _) (Nat.le_trans HX.out (by decide)) cs w1 ((V.out.stay B1.out).mono B1.out.size)).mono ?_
  rintro e w2 ⟨rfl, hb⟩
  rw [← HN.out]
  have B2 := Lib.hid (B1.out.trans (hb.mono B1.out.size))
  have K2 := Lib.hid (K1.out.below hb K1.out.lt)
  clear hb
  go_wp2_with fail
  go_ret
  exact ⟨congrArg (fun x => Ending.returned (.int .i64 x)) HE.out.symm, B2.out⟩
 have n1 : ¬ ((400 : Int) < (n : Int)) := by omega
 by_cases h2 : 30 < m
 ·have n2 : (30 : Int) < (m : Int) := by omega
  have HE := Lib.hid (show mayV t = 5 by rw [HR.out, if_neg h1, if_pos h2])
  clear h1 h2
  go_enter Tryz.func10, Tryz.ntmps10
  go_wp2_with (first
   | ((with_reducible refine atDst 1 ?_); refine wpList_box rfl 29 _ rfl cs rfl (Below.refl w.heap.size w) (Nat.le_refl _) ?_; intro w1 hk1 hb1 hs1 _; have K1 := Lib.hid hk1; have B1 := Lib.hid hb1; clear hk1 hb1 hs1; (try simp only [Act.put, qA, qB, qC]))
   | ((with_reducible refine atDst 4 ?_); refine wpList_ldArr rfl 29 _ rfl w.heap.size rfl 29 _ _ K1.out Tryz.underlying29 rfl (size_rx HC6.out) ?_; (try simp only [Act.put, qA, qB, qC])))
  refine (refNodes_any t.nodes t (Nat.le_refl _) (Nat.le_trans HX.out (by decide)) cs w1 ((V.out.stay B1.out).mono B1.out.size)).mono ?_
  rintro e w2 ⟨rfl, hb⟩
  rw [← HN.out]
  have B2 := Lib.hid (B1.out.trans (hb.mono B1.out.size))
  have K2 := Lib.hid (K1.out.below hb K1.out.lt)
  clear hb
  go_wp2_with ((with_reducible refine atDst 8 ?_); refine wpList_ldArr rfl 29 _ rfl w.heap.size rfl 29 _ _ K2.out Tryz.underlying29 rfl (size_rx HC6.out) ?_; (try simp only [Act.put, qA, qB, qC]))
  refine (refDepth_any t.nodes t (Nat.le_refl _) (Nat.le_trans HX.out (by decide)) cs w2 ((V.out.stay B2.out).mono B2.out.size)).mono ?_
  rintro e w3 ⟨rfl, hb⟩
  rw [← HM.out]
  have B3 := Lib.hid (B2.out.trans (hb.mono B2.out.size))
  have K3 := Lib.hid (K2.out.below hb K2.out.lt)
  clear hb
  go_wp2_with fail
  go_ret
  exact ⟨congrArg (fun x => Ending.returned (.int .i64 x)) HE.out.symm, B3.out⟩
 ·have n2 : ¬ ((30 : Int) < (m : Int)) := by omega
  have HE := Lib.hid (show mayV t = 0 by rw [HR.out, if_neg h1, if_neg h2])
  clear h1 h2
  go_enter Tryz.func10, Tryz.ntmps10
  go_wp2_with (first
   | ((with_reducible refine atDst 1 ?_); refine wpList_box rfl 29 _ rfl cs rfl (Below.refl w.heap.size w) (Nat.le_refl _) ?_; intro w1 hk1 hb1 hs1 _; have K1 := Lib.hid hk1; have B1 := Lib.hid hb1; clear hk1 hb1 hs1; (try simp only [Act.put, qA, qB, qC]))
   | ((with_reducible refine atDst 4 ?_); refine wpList_ldArr rfl 29 _ rfl w.heap.size rfl 29 _ _ K1.out Tryz.underlying29 rfl (size_rx HC6.out) ?_; (try simp only [Act.put, qA, qB, qC])))
  refine (refNodes_any t.nodes t (Nat.le_refl _) (Nat.le_trans HX.out (by decide)) cs w1 ((V.out.stay B1.out).mono B1.out.size)).mono ?_
  rintro e w2 ⟨rfl, hb⟩
  rw [← HN.out]
  have B2 := Lib.hid (B1.out.trans (hb.mono B1.out.size))
  have K2 := Lib.hid (K1.out.below hb K1.out.lt)
  clear hb
  go_wp2_with ((with_reducible refine atDst 8 ?_); refine wpList_ldArr rfl 29 _ rfl w.heap.size rfl 29 _ _ K2.out Tryz.underlying29 rfl (size_rx HC6.out) ?_; (try simp only [Act.put, qA, qB, qC]))
  refine (refDepth_any t.nodes t (Nat.le_refl _) (Nat.le_trans HX.out (by decide)) cs w2 ((V.out.stay B2.out).mono B2.out.size)).mono ?_
  rintro e w3 ⟨rfl, hb⟩
  rw [← HM.out]
  have B3 := Lib.hid (B2.out.trans (hb.mono B2.out.size))
  have K3 := Lib.hid (K2.out.below hb K2.out.lt)
  clear hb
  go_wp2_with ((with_reducible refine atDst 12 ?_); refine wpList_ldArr rfl 29 _ rfl w.heap.size rfl 29 _ _ K3.out Tryz.underlying29 rfl (size_rx HC6.out) ?_; (try simp only [Act.put, qA, qB, qC]))
  refine (refPlain_any t.nodes t (Nat.le_refl _) HX.out HF.out.1 cs w3 ((V.out.stay B3.out).mono B3.out.size)).mono ?_
  rintro e w4 ⟨rfl, hb⟩
  rw [HF.out.2]
  have B4 := Lib.hid (B3.out.trans (hb.mono B3.out.size))
  clear hb
  go_wp2_with fail
  go_ret
  exact ⟨congrArg (fun x => Ending.returned (.int .i64 x)) HE.out.symm, B4.out⟩
theorem mayV_le {t : T} (h : mayV t = 0) : t.nodes ≤ 400 := by
 unfold mayV at h
 by_cases h1 : 400 < t.nodes
 ·rw [if_pos h1] at h; omega
 ·omega
end Go.Proofs.YtopnpdobcagcgaaGreat
