/-
  Texts of this proof, put together: LwG. No statement is proved here.
-/
import Derived.Test.YtopnpdobcagcgaaGreatMR
namespace Go.Proofs.YtopnpdobcagcgaaGreat
open Go.RowKit
set_option linter.unusedSimpArgs false
set_option linter.unusedVariables false
-- $1 function
-- the answer is stored: $1 slot, $2 the answer's Blk, $3 Below, $4 set
-- the part at place j: $1 function, $2 region, $3 slot of the part, $4 slot of x, $5 slot of s as it is read, $6 slot of x as it is read
set_option maxHeartbeats 8000000 in
set_option maxRecDepth 1000000 in
theorem lFirstCat_any (N : Nat) (ih : ∀ (t : T), t.nodes ≤ N → ∀ (cs : List Value) (w : World), RxV w.heap.size w cs t →
   Calls Tryz.prog 35 #[.agg cs.toArray] w fun e w' => e = .returned (.agg (wds (firstT t)).toArray) ∧ Below w.heap.size w w')
  (k : Int) (hk4 : k = 4) (s : Nat → Bool) (l : List T) (hN : (T.node k s l).nodes ≤ N + 1) (cs : List Value) (w : World) (hv : RxV w.heap.size w cs (.node k s l)) :
  Calls Tryz.prog 57 #[.agg cs.toArray] w fun e w' => e = .returned (.agg (wds (firstT (.node k s l))).toArray) ∧ Below w.heap.size w w' := by
 have IH := qH ih
 clear ih
 have V := qH hv
 have HC6 := qH hv.length
 obtain ⟨A, cap, f, hcs, h1, h2, h0, h3, h4⟩ := hv.opened
 have H3 := qH h3
 have H4 := qH h4
 have HNN := qH (show T.nodes (.node k s l) = 1 + nodesL l by simp only [T.nodes])
 rw [HNN.out] at hN
 have HN := qH hN
 have HCM := qH h2
 have HCL := qH h1
 have HQ := qH (firstT_node k s l)
 have HC0 := qH (show cs[0]? = some (.int .i64 k) by rw [hcs]; rfl)
 have HC5 := qH (show cs[5]? = some (.slice A l.length cap) by rw [hcs]; rfl)
 have HCS := qH hcs
 obtain ⟨r, hr⟩ : ∃ r, r = firstT (.node k s l) := ⟨_, rfl⟩
 obtain ⟨i0, hi0, hz0⟩ := info_set
 obtain ⟨ix, hix, hx0, hx1, hx2⟩ := inf_rx'
 obtain ⟨z, hz⟩ : ∃ z, z = rxc 0 zeroS (.slice none 0 0) := ⟨_, rfl⟩
 have HZL := qH (show z.length = 6 by rw [hz]; rfl)
 have HZ0 := qH (show ix.zero = some (.agg z.toArray) by rw [hz]; exact hx0)
 obtain ⟨zs, hzs⟩ : ∃ z : Nat → Bool, z = zeroS := ⟨_, rfl⟩
 rw [show (fun _ => false) = zs from hzs.symm] at hz0
 have HZS := qH hzs
 rw [← hr] at HQ ⊢
 clear hv h1 h2 h0 h3 h4 hcs hN hr hzs hz hx0
 obtain ⟨q, hq⟩ : ∃ q, q = someT (.node k s l) := ⟨_, rfl⟩
 obtain ⟨al, hal⟩ : ∃ al : Nat → Bool, al = fun _ => true := ⟨_, rfl⟩
 have HOV := qH (show overT al (.node k s l) = q by rw [hal, hq]; exact over_some _)
 have HNT := qH (show (fun b => !(zs b)) = al by rw [hal, HZS.out]; rfl)
 have HSC := qH (show someT (.node k s l) = someC l by rw [someT, if_neg (by omega), if_neg (by omega), if_pos hk4])
 have HR0 := qH (show r = if q = true then firstC l else zs by rw [HQ.out, if_neg (by omega), if_neg (by omega), if_pos hk4, hq, HSC.out, HZS.out])
 have HBS := qH (show Tryz.prog.built 26 [] = some (wds zs).toArray by rw [HZS.out]; exact builtS)
 have HN2 := qH (show (T.node k s l).nodes ≤ 1 + N by rw [HNN.out]; have := HN.out; omega)
 clear HQ hq hal
 subst hk4
 go_enter Tryz.func57, Tryz.ntmps57
 go_wp2_with (first
  | ((with_reducible refine atDst 1 ?_); refine wpList_box rfl 29 _ rfl cs rfl (Below.refl w.heap.size w) (Nat.le_refl _) ?_; intro w1 hk1 hb1 hs1 _; have K1 := qH hk1; have B1 := qH hb1; clear hk1 hb1 hs1; (try simp only [Act.put, qA, qB, qC]))
  | ((with_reducible refine atDst 2 ?_); refine wpList_new rfl 26 rfl i0 _ (wds zs) hi0 hz0 rfl B1.out B1.out.size ?_; intro w3 hk3 hb3 hs3 ho3; have M3 := qH hk3; have B3 := qH hb3; have K3 := qH (show Blk w3 w.heap.size 29 cs from (ho3 _ K1.out.lt).trans K1.out); have c0 := K3.out.cell 0; rw [HC0.out] at c0; have c5 := K3.out.cell 5; rw [HC5.out] at c5; have RS := qH (set_range' HCS.out K3.out); have HNE := qH (show w.heap.size ≠ w1.heap.size from Nat.ne_of_lt K1.out.lt); have HLE := qH (show w.heap.size ≤ w1.heap.size from Nat.le_of_lt K1.out.lt); clear hk3 hb3 hs3 ho3; (try simp only [Act.put, qA, qB, qC]))
  )
 refine sx_startB (B := w3.heap.size) (w0 := w3) (by kernel_rfl) (Below.refl _ _) (fun wd hwd hX => ?_)
 clear hwd
 refine sx_take (i := 0) (oi := ⟨some 5, _, _, _, _, _⟩) (v := .agg cs.toArray) rfl (by kernel_rfl) (by kernel_rfl) (by kernel_rfl) (fun _ _ _ h => h) rfl hX (ld_blk 29 _ rfl w.heap.size rfl 29 _ _ K3.out K3.out.lt Tryz.underlying29 rfl (size_rx HC6.out)) ?_; simp only [Act.put, qA, qB, qC]
 refine sx_take (i := 1) (oi := ⟨some 6, _, _, _, _, _⟩) (v := .agg (wds zs).toArray) rfl (by kernel_rfl) (by kernel_rfl) (by kernel_rfl) (fun _ _ _ h => h) rfl hX (fun W _ => ex_build0 26 rfl HBS.out W) ?_; simp only [Act.put, qA, qB, qC]
 refine sx_actB (i := 2) (o := ⟨some 7, _, _, _, _, _⟩) rfl (by kernel_rfl) rfl hX (fun K hK => ?_)
 go_wp2_with fail
 refine (bsNot_any zs wd).mono ?_
 rintro e w4 ⟨rfl, hb4⟩
 rw [HNT.out]
 go_wp2_with fail
 refine hK _ _ (hb4.mono hX.size) ?_
 clear hK K
 (try simp only [Act.put, qA, qB, qC])
 replace hX := hX.trans (hb4.mono hX.size)
 clear hb4
 refine sx_actB (i := 3) (o := ⟨some 8, _, _, _, _, _⟩) rfl (by kernel_rfl) rfl hX (fun K hK => ?_)
 go_wp2_with fail
 refine (lOver_any al _ (.node 4 s l) (Nat.le_refl _) cs w4 ((V.out.stay (B3.out.trans (hX.mono B3.out.size))).mono (B3.out.trans (hX.mono B3.out.size)).size)).mono ?_
 rintro e w6 ⟨rfl, hb6⟩
 rw [HOV.out]
 go_wp2_with fail
 refine hK _ _ (hb6.mono hX.size) ?_
 clear hK K
 (try simp only [Act.put, qA, qB, qC])
 replace hX := hX.trans (hb6.mono hX.size)
 clear hb6
 refine sx_take (i := 4) (oi := ⟨some 9, _, _, _, _, _⟩) (v := ?_) rfl (by kernel_rfl) (by kernel_rfl) (by kernel_rfl) (fun _ _ _ h => h) rfl hX ?_ ?_; rotate_left; (intro W hW; go_simp; try with_reducible rfl); simp only [Act.put, qA, qB, qC]
 refine wpAnyH_done (by kernel_rfl) ?_ _
 have G4 := qH (below_grownG w1.heap.size hX)
 have M4 := qH (M3.out.below hX M3.out.lt)
 have B4 := qH (B3.out.trans (hX.mono B3.out.size))
 clear hX
 cases q with
 | false =>
  have HR := qH (show r = zs by rw [HR0.out]; simp)
  simp only [Bool.not_false]
  go_wp2_with (first
   | ((with_reducible refine atDst 10 ?_); refine wpList_ldArr rfl 26 _ rfl w1.heap.size rfl 26 _ _ M4.out Tryz.underlying26 rfl (size_set _) ?_; (try simp only [Act.put, qA, qB, qC]))
   | ((with_reducible refine atStore 26 2 10 ?_); refine wpList_stBlk rfl 26 _ _ rfl w1.heap.size (wds zs) rfl rfl 26 _ M4.out (size_set _) rfl (wds_all _) B4.out B1.out.size ?_; intro w11 hk11 hb11 hs11 _; have L11 := qH hk11; have B11 := qH hb11; clear hk11 hb11 hs11; (try simp only [Act.put, qA, qB, qC])))
  refine bodyPost_ret (results_blk rfl _ _ w1.heap.size 26 _ _ rfl L11.out Tryz.underlying26 rfl (size_set _)) rfl ?_
  exact ⟨by rw [HR.out], B11.out⟩
 | true =>
  have HR := qH (show r = firstC l by rw [HR0.out]; simp)
  have K4' := qH (K3.out.grown G4.out (fun e => absurd (Option.some.inj e) HNE.out))
  have k5 := K4'.out.cell 5
  rw [HC5.out] at k5
  clear HR0
  simp only [Bool.not_true]
  go_wp2_with fail
  go_loopw [14] (fun i wl => ∃ j : Nat, j ≤ l.length ∧ i = .int .i64 (j : Int) ∧ (l.take j).all nullT = true ∧ Blk wl w1.heap.size 26 (wds (fstJ l j)) ∧ w3.grownBy wl (some w1.heap.size)) (fun i _ => l.length - (intOf i).toNat)
  case atStart => exact ⟨0, by omega, by simp, by simp, by rw [fstJ_zero, ← HZS.out]; exact M4.out, G4.out⟩
  case round =>
   obtain ⟨j, hj, rfl, hf, hk, hg⟩ := hrel
   have HF := qH hf
   have HK := qH hk
   have HG := qH hg
   have BR := qH (B3.out.trans ((grown_belowG hg M3.out.lt).mono HLE.out))
   clear hf hk hg
   by_cases hjl : j < l.length
   ·have j1 : (j : Int) < (l.length : Int) := Int.ofNat_lt.2 hjl
    obtain ⟨b, off, rfl, hb, hrng⟩ := H3.out (by rintro rfl; simp at hjl)
    obtain ⟨u, hu⟩ : ∃ u, l[j]? = some u := ⟨_, List.getElem?_eq_getElem hjl⟩
    have HV := qH (RxV.part H4.out BR.out BR.out.size hu)
    have HV6 := qH HV.out.length
    have HV1 := qH (show (f j).all (·.oneCell') = true from List.all_eq_true.2 (RxD.one HV.out))
    have HRG := qH (range_below (hrng j hjl) BR.out hb)
    have HU := qH hu
    have HUN := qH (show u.nodes ≤ N by have h1 := nodes_mem (List.mem_of_getElem? hu); have := HN.out; omega)
    have HJ1 := qH hjl
    have HKS := qH (show w1.heap.size < wr.heap.size from HK.out.lt)
    have e3 := wrap_len hjl HCL.out HCM.out
    have e4 := wrap_len' hjl HCL.out HCM.out
    have HNX := qH (fstJ_next hu)
    obtain ⟨acc, hacc⟩ : ∃ acc, acc = fstJ l j := ⟨_, rfl⟩
    rw [← hacc] at HK HNX
    have HACC := qH hacc
    clear hrng hu hb hj hjl hacc
    go_wp2_with (first
     | ((with_reducible refine atDst 17 ?_); refine wpList_load_mid rfl 29 _ rfl b (off + j * 6) rfl (f j) _ HRG.out Tryz.underlying29 rfl (size_rx HV6.out) ?_; (try simp only [Act.put, qA, qB, qC]))
     | ((with_reducible refine atDst 4 ?_); refine wpList_new rfl 29 rfl ix _ z hix HZ0.out rfl (Below.refl wr.heap.size wr) (Nat.le_refl _) ?_; intro w4 hk4 hb4 hs4 _; have K4 := qH hk4; have B4 := qH hb4; clear hk4 hb4 hs4; (try simp only [Act.put, qA, qB, qC]))
     | ((with_reducible refine atStore 29 4 17 ?_); refine wpList_stBlk rfl 29 _ _ rfl wr.heap.size (f j) rfl rfl 29 _ K4.out (size_rx HV6.out) (by rw [HZL.out, HV6.out]) HV1.out B4.out (Nat.le_refl _) ?_; intro w5 hk5 hb5 hs5 _; have K5 := qH hk5; have B5 := qH hb5; have HK5 := qH (HK.out.below hb5 HK.out.lt); clear hk5 hb5 hs5; (try simp only [Act.put, qA, qB, qC])))
    have HXN := qH (show some wr.heap.size ≠ some w1.heap.size from fun e => by have h1 := Option.some.inj e; have h2 := HKS.out; omega)
    refine sg_start (S := fun W => w5.grownBy W (some w1.heap.size)) (by kernel_rfl) (grown_start w5 _) (fun wd hwd => ?_)
    have hX : w5.grownBy wd (some w1.heap.size) := by rw [hwd]; exact grown_start w5 _
    have HKD := qH (show Blk wd w1.heap.size 26 (wds acc) by rw [hwd]; exact HK5.out)
    have HBD := qH (show Below wr.heap.size wr wd by rw [hwd]; exact (B5.out).drew)
    clear hwd
    refine sg_take (i := 1) (oi := ⟨some 19, _, _, _, _, _⟩) (v := .agg (f j).toArray) rfl (by kernel_rfl) (by kernel_rfl) (by kernel_rfl) (fun _ _ _ h => h) rfl hX (fun W hW => ld_keep 29 _ rfl wr.heap.size 0 rfl _ _ (fun i v hv => (K5.out.cell (0 + i)).trans (by rw [Nat.zero_add]; exact hv)) (hW.block _ K5.out.lt HXN.out) Tryz.underlying29 rfl (size_rx HV6.out)) ?_; simp only [Act.put, qA, qB, qC]
    refine sg_two (i := 0) (j := 2) (oi := ⟨some 18, _, _, _, _, _⟩) (oj := ⟨some 20, _, _, _, _, _⟩) rfl rfl (by kernel_rfl) rfl rfl hX (fun K hK => ?_) (fun K hK => ?_)
    ·refine wp_load_row 26 _ rfl w1.heap.size rfl 26 (wds acc).toArray (0, 0) _ HKD.out Tryz.underlying26 rfl (by simpa using size_set acc) ?_
     refine hK _ _ hX ?_
     clear hK K
     (try simp only [Act.put, qA, qB, qC])
     refine sg_actB (i := 2) (o := ⟨some 20, _, _, _, _, _⟩) rfl (by kernel_rfl) rfl hX (fun K hK => ?_)
     go_wp2_with fail
     refine (IH.out u HUN.out (f j) wd (RxV.mono (HV.out.stay HBD.out) HBD.out.size)).mono ?_
     rintro e w7 ⟨rfl, hb7⟩
     go_wp2_with fail
     refine hK _ _ (grown_then hX hb7) ?_
     clear hK K
     (try simp only [Act.put, qA, qB, qC])
     replace hX := grown_then hX hb7
     have HK7 := qH (HKD.out.below hb7 HKD.out.lt)
     have B7 := qH (HBD.out.trans (hb7.mono HBD.out.size))
     clear hb7
     refine sg_actB (i := 3) (o := ⟨some 21, _, _, _, _, _⟩) rfl (by kernel_rfl) rfl hX (fun K hK => ?_)
     go_wp2_with fail
     refine (bsOr_any acc (firstT u) w7).mono ?_
     rintro e w8 ⟨rfl, hb8⟩
     go_wp2_with fail
     refine hK _ _ (grown_then hX hb8) ?_
     clear hK K
     (try simp only [Act.put, qA, qB, qC])
     replace hX := grown_then hX hb8
     have HK8 := qH (HK7.out.below hb8 HK7.out.lt)
     have B8 := qH (B7.out.trans (hb8.mono B7.out.size))
     clear hb8
     refine sg_actB (i := 4) (o := ⟨none, _, _, _, _, _⟩) rfl (by kernel_rfl) rfl hX (fun K hK => ?_)
     refine wp_stBlk 26 _ _ rfl w1.heap.size (wds fun b => acc b || firstT u b) rfl rfl 26 _ HK8.out (size_set _) rfl (wds_all _) (Below.refl w1.heap.size w8) (Nat.le_refl _) ?_
     intro w9 hk9 hb9 hs9 ho9 _
     have hY5 := grown_belowG hX HK5.out.lt
     have hX9 := grown_at hX hY5 (hY5.trans hb9) (by rw [hs9]; exact Nat.le_refl _) ho9
     refine hK _ _ hX9 ?_
     clear hK K
     refine wpAnyH_done (by kernel_rfl) ?_ _
     have M9 := qH hk9
     have G9 := qH (grownG_trans (grownG_trans HG.out (below_grownG w1.heap.size B5.out)) hX9)
     have G0 := qH hX9
     clear hX hX9 hk9 hb9 hs9 ho9 hY5
     have KX := qH (grown_blk G0.out HXN.out K5.out)
     have BZ := qH (B3.out.trans ((grown_belowG G9.out M3.out.lt).mono HLE.out))
     have HVZ := qH (RxV.part H4.out BZ.out BZ.out.size HU.out)
     go_wp2_with ((with_reducible refine atDst 22 ?_); refine wpList_ldArr rfl 29 _ rfl wr.heap.size rfl 29 _ _ KX.out Tryz.underlying29 rfl (size_rx HV6.out) ?_; (try simp only [Act.put, qA, qB, qC]))
     refine (lNull_any u (f j) w9 HVZ.out).mono ?_
     rintro e w10 ⟨rfl, hb10⟩
     have B10 := qH (BZ.out.trans (hb10.mono BZ.out.size))
     have M10 := qH (M9.out.below hb10 M9.out.lt)
     have G10 := qH (grown_then G9.out hb10)
     clear hb10
     obtain ⟨p, hp⟩ : ∃ p, p = nullT u := ⟨_, rfl⟩
     rw [← hp]
     cases p with
     | true =>
      have HP := qH hp
      clear hp
      go_wp2_with fail
      exact ⟨⟨j + 1, HJ1.out, by congr 1, all_next HU.out HF.out HP.out.symm, by rw [HNX.out]; exact M10.out, G10.out⟩, by have := HJ1.out; simp [intOf] <;> omega⟩
     | false =>
      have HP := qH hp
      have HRE := qH (show r = fun b => acc b || firstT u b by rw [HR.out, firstC_stop HU.out HF.out hp.symm, HNX.out])
      clear hp
      have M11 := qH (show Blk w10 w1.heap.size 26 (wds r) by rw [HRE.out]; exact M10.out)
      clear M10
      go_wp2_with (first
       | ((with_reducible refine atDst 26 ?_); refine wpList_ldArr rfl 26 _ rfl w1.heap.size rfl 26 _ _ M11.out Tryz.underlying26 rfl (size_set _) ?_; (try simp only [Act.put, qA, qB, qC]))
       | ((with_reducible refine atStore 26 2 26 ?_); refine wpList_stBlk rfl 26 _ _ rfl w1.heap.size (wds r) rfl rfl 26 _ M11.out (size_set _) rfl (wds_all _) B10.out B1.out.size ?_; intro w11 hk11 hb11 hs11 _; have L11 := qH hk11; have B11 := qH hb11; clear hk11 hb11 hs11; (try simp only [Act.put, qA, qB, qC])))
      refine bodyPost_ret (results_blk rfl _ _ w1.heap.size 26 _ _ rfl L11.out Tryz.underlying26 rfl (size_set _)) rfl ?_
      exact ⟨rfl, B11.out⟩
    ·go_wp2_with fail
     refine (IH.out u HUN.out (f j) wd (RxV.mono (HV.out.stay HBD.out) HBD.out.size)).mono ?_
     rintro e w7 ⟨rfl, hb7⟩
     go_wp2_with fail
     refine hK _ _ (grown_then hX hb7) ?_
     clear hK K
     (try simp only [Act.put, qA, qB, qC])
     replace hX := grown_then hX hb7
     have HK7 := qH (HKD.out.below hb7 HKD.out.lt)
     have B7 := qH (HBD.out.trans (hb7.mono HBD.out.size))
     clear hb7
     refine sg_actB (i := 0) (o := ⟨some 18, _, _, _, _, _⟩) rfl (by kernel_rfl) rfl hX (fun K hK => ?_)
     refine wp_load_row 26 _ rfl w1.heap.size rfl 26 (wds acc).toArray (0, 0) _ HK7.out Tryz.underlying26 rfl (by simpa using size_set acc) ?_
     refine hK _ _ hX ?_
     clear hK K
     (try simp only [Act.put, qA, qB, qC])
     refine sg_actB (i := 3) (o := ⟨some 21, _, _, _, _, _⟩) rfl (by kernel_rfl) rfl hX (fun K hK => ?_)
     go_wp2_with fail
     refine (bsOr_any acc (firstT u) w7).mono ?_
     rintro e w8 ⟨rfl, hb8⟩
     go_wp2_with fail
     refine hK _ _ (grown_then hX hb8) ?_
     clear hK K
     (try simp only [Act.put, qA, qB, qC])
     replace hX := grown_then hX hb8
     have HK8 := qH (HK7.out.below hb8 HK7.out.lt)
     have B8 := qH (B7.out.trans (hb8.mono B7.out.size))
     clear hb8
     refine sg_actB (i := 4) (o := ⟨none, _, _, _, _, _⟩) rfl (by kernel_rfl) rfl hX (fun K hK => ?_)
     refine wp_stBlk 26 _ _ rfl w1.heap.size (wds fun b => acc b || firstT u b) rfl rfl 26 _ HK8.out (size_set _) rfl (wds_all _) (Below.refl w1.heap.size w8) (Nat.le_refl _) ?_
     intro w9 hk9 hb9 hs9 ho9 _
     have hY5 := grown_belowG hX HK5.out.lt
     have hX9 := grown_at hX hY5 (hY5.trans hb9) (by rw [hs9]; exact Nat.le_refl _) ho9
     refine hK _ _ hX9 ?_
     clear hK K
     refine wpAnyH_done (by kernel_rfl) ?_ _
     have M9 := qH hk9
     have G9 := qH (grownG_trans (grownG_trans HG.out (below_grownG w1.heap.size B5.out)) hX9)
     have G0 := qH hX9
     clear hX hX9 hk9 hb9 hs9 ho9 hY5
     have KX := qH (grown_blk G0.out HXN.out K5.out)
     have BZ := qH (B3.out.trans ((grown_belowG G9.out M3.out.lt).mono HLE.out))
     have HVZ := qH (RxV.part H4.out BZ.out BZ.out.size HU.out)
     go_wp2_with ((with_reducible refine atDst 22 ?_); refine wpList_ldArr rfl 29 _ rfl wr.heap.size rfl 29 _ _ KX.out Tryz.underlying29 rfl (size_rx HV6.out) ?_; (try simp only [Act.put, qA, qB, qC]))
     refine (lNull_any u (f j) w9 HVZ.out).mono ?_
     rintro e w10 ⟨rfl, hb10⟩
     have B10 := qH (BZ.out.trans (hb10.mono BZ.out.size))
     have M10 := qH (M9.out.below hb10 M9.out.lt)
     have G10 := qH (grown_then G9.out hb10)
     clear hb10
     obtain ⟨p, hp⟩ : ∃ p, p = nullT u := ⟨_, rfl⟩
     rw [← hp]
     cases p with
     | true =>
      have HP := qH hp
      clear hp
      go_wp2_with fail
      exact ⟨⟨j + 1, HJ1.out, by congr 1, all_next HU.out HF.out HP.out.symm, by rw [HNX.out]; exact M10.out, G10.out⟩, by have := HJ1.out; simp [intOf] <;> omega⟩
     | false =>
      have HP := qH hp
      have HRE := qH (show r = fun b => acc b || firstT u b by rw [HR.out, firstC_stop HU.out HF.out hp.symm, HNX.out])
      clear hp
      have M11 := qH (show Blk w10 w1.heap.size 26 (wds r) by rw [HRE.out]; exact M10.out)
      clear M10
      go_wp2_with (first
       | ((with_reducible refine atDst 26 ?_); refine wpList_ldArr rfl 26 _ rfl w1.heap.size rfl 26 _ _ M11.out Tryz.underlying26 rfl (size_set _) ?_; (try simp only [Act.put, qA, qB, qC]))
       | ((with_reducible refine atStore 26 2 26 ?_); refine wpList_stBlk rfl 26 _ _ rfl w1.heap.size (wds r) rfl rfl 26 _ M11.out (size_set _) rfl (wds_all _) B10.out B1.out.size ?_; intro w11 hk11 hb11 hs11 _; have L11 := qH hk11; have B11 := qH hb11; clear hk11 hb11 hs11; (try simp only [Act.put, qA, qB, qC])))
      refine bodyPost_ret (results_blk rfl _ _ w1.heap.size 26 _ _ rfl L11.out Tryz.underlying26 rfl (size_set _)) rfl ?_
      exact ⟨rfl, B11.out⟩
   ·obtain rfl : j = l.length := by omega
    have j1 : ¬ ((l.length : Int) < (l.length : Int)) := by omega
    have HRE := qH (show r = fstJ l l.length by rw [HR.out, firstC_end (by have := HF.out; rwa [List.take_length] at this)])
    go_wp2_with (first
     | ((with_reducible refine atDst 26 ?_); refine wpList_ldArr rfl 26 _ rfl w1.heap.size rfl 26 _ _ HK.out Tryz.underlying26 rfl (size_set _) ?_; (try simp only [Act.put, qA, qB, qC]))
     | ((with_reducible refine atStore 26 2 26 ?_); refine wpList_stBlk rfl 26 _ _ rfl w1.heap.size (wds (fstJ l l.length)) rfl rfl 26 _ HK.out (size_set _) rfl (wds_all _) BR.out B1.out.size ?_; intro w11 hk11 hb11 hs11 _; have L11 := qH hk11; have B11 := qH hb11; clear hk11 hb11 hs11; (try simp only [Act.put, qA, qB, qC])))
    refine bodyPost_ret (results_blk rfl _ _ w1.heap.size 26 _ _ rfl L11.out Tryz.underlying26 rfl (size_set _)) rfl ?_
    exact ⟨by rw [HRE.out], B11.out⟩
set_option maxHeartbeats 8000000 in
set_option maxRecDepth 1000000 in
theorem lFirst0_any : ∀ (N : Nat) (t : T), t.nodes ≤ N → ∀ (cs : List Value) (w : World), RxV w.heap.size w cs t →
  Calls Tryz.prog 35 #[.agg cs.toArray] w fun e w' => e = .returned (.agg (wds (firstT t)).toArray) ∧ Below w.heap.size w w' := by
 intro N
 induction N with
 | zero => intro t h; have := nodes_pos t; omega
 | succ N ih =>
  rintro ⟨k, s, l⟩ hN cs w hv
  have IH := qH ih
  clear ih
  have HN1 := qH hN
  have V := qH hv
  have HC6 := qH hv.length
  obtain ⟨A, cap, f, hcs, h1, h2, h0, h3, h4⟩ := hv.opened
  have H3 := qH h3
  have H4 := qH h4
  have HNN := qH (show T.nodes (.node k s l) = 1 + nodesL l by simp only [T.nodes])
  rw [HNN.out] at hN
  have HN := qH hN
  have HCM := qH h2
  have HCL := qH h1
  have HQ := qH (firstT_node k s l)
  have HC0 := qH (show cs[0]? = some (.int .i64 k) by rw [hcs]; rfl)
  have HC5 := qH (show cs[5]? = some (.slice A l.length cap) by rw [hcs]; rfl)
  have HCS := qH hcs
  obtain ⟨r, hr⟩ : ∃ r, r = firstT (.node k s l) := ⟨_, rfl⟩
  obtain ⟨i0, hi0, hz0⟩ := info_set
  obtain ⟨ix, hix, hx0, hx1, hx2⟩ := inf_rx'
  obtain ⟨z, hz⟩ : ∃ z, z = rxc 0 zeroS (.slice none 0 0) := ⟨_, rfl⟩
  have HZL := qH (show z.length = 6 by rw [hz]; rfl)
  have HZ0 := qH (show ix.zero = some (.agg z.toArray) by rw [hz]; exact hx0)
  obtain ⟨zs, hzs⟩ : ∃ z : Nat → Bool, z = zeroS := ⟨_, rfl⟩
  rw [show (fun _ => false) = zs from hzs.symm] at hz0
  have HZS := qH hzs
  rw [← hr] at HQ ⊢
  clear hv h1 h2 h0 h3 h4 hcs hN hr hzs hz hx0
  by_cases k3 : k = 3
  ·have hr : r = s := by rw [HQ.out, if_pos k3]
   subst hr
   clear HQ
   subst k3
   go_enter Tryz.func35, Tryz.ntmps35
   go_wp2_with (first
    | ((with_reducible refine atDst 1 ?_); refine wpList_box rfl 29 _ rfl cs rfl (Below.refl w.heap.size w) (Nat.le_refl _) ?_; intro w1 hk1 hb1 hs1 _; have K1 := qH hk1; have B1 := qH hb1; clear hk1 hb1 hs1; (try simp only [Act.put, qA, qB, qC]))
    | ((with_reducible refine atDst 2 ?_); refine wpList_new rfl 26 rfl i0 _ (wds zs) hi0 hz0 rfl B1.out B1.out.size ?_; intro w3 hk3 hb3 hs3 ho3; have M3 := qH hk3; have B3 := qH hb3; have K3 := qH (show Blk w3 w.heap.size 29 cs from (ho3 _ K1.out.lt).trans K1.out); have c0 := K3.out.cell 0; rw [HC0.out] at c0; have c5 := K3.out.cell 5; rw [HC5.out] at c5; have RS := qH (set_range' HCS.out K3.out); have HNE := qH (show w.heap.size ≠ w1.heap.size from Nat.ne_of_lt K1.out.lt); have HLE := qH (show w.heap.size ≤ w1.heap.size from Nat.le_of_lt K1.out.lt); clear hk3 hb3 hs3 ho3; (try simp only [Act.put, qA, qB, qC]))
    | ((with_reducible refine atDst 16 ?_); refine wpList_ldMidG rfl 26 _ rfl w.heap.size 1 rfl (wds r) _ RS.out Tryz.underlying26 rfl (size_set r) ?_; (try simp only [Act.put, qA, qB, qC]))
    | ((with_reducible refine atDst 16 ?_); refine wpList_ldArr rfl 26 _ rfl w1.heap.size rfl 26 _ _ M3.out Tryz.underlying26 rfl (size_set _) ?_; (try simp only [Act.put, qA, qB, qC]))
    | ((with_reducible refine atStore 26 2 16 ?_); refine wpList_stBlk rfl 26 _ _ rfl w1.heap.size (wds r) rfl rfl 26 _ M3.out (size_set _) rfl (wds_all _) B3.out B1.out.size ?_; intro w11 hk11 hb11 hs11 _; have L11 := qH hk11; have B11 := qH hb11; clear hk11 hb11 hs11; (try simp only [Act.put, qA, qB, qC])))
   refine bodyPost_ret (results_blk rfl _ _ w1.heap.size 26 _ _ rfl L11.out Tryz.underlying26 rfl (size_set _)) rfl ?_
   exact ⟨rfl, B11.out⟩
  have z3 : (k == 3) = false := by simpa using k3
  by_cases k4 : k = 4
  ·have HR := qH (show r = firstT (.node k s l) by rw [HQ.out, firstT_node])
   have HK4 := qH k4
   clear HQ k3
   have z4 : (k == 4) = true := by simpa using k4
   clear k4
   go_enter Tryz.func35, Tryz.ntmps35
   go_wp2_with (first
    | ((with_reducible refine atDst 1 ?_); refine wpList_box rfl 29 _ rfl cs rfl (Below.refl w.heap.size w) (Nat.le_refl _) ?_; intro w1 hk1 hb1 hs1 _; have K1 := qH hk1; have B1 := qH hb1; clear hk1 hb1 hs1; (try simp only [Act.put, qA, qB, qC]))
    | ((with_reducible refine atDst 2 ?_); refine wpList_new rfl 26 rfl i0 _ (wds zs) hi0 hz0 rfl B1.out B1.out.size ?_; intro w3 hk3 hb3 hs3 ho3; have M3 := qH hk3; have B3 := qH hb3; have K3 := qH (show Blk w3 w.heap.size 29 cs from (ho3 _ K1.out.lt).trans K1.out); have c0 := K3.out.cell 0; rw [HC0.out] at c0; have c5 := K3.out.cell 5; rw [HC5.out] at c5; have RS := qH (set_range' HCS.out K3.out); have HNE := qH (show w.heap.size ≠ w1.heap.size from Nat.ne_of_lt K1.out.lt); have HLE := qH (show w.heap.size ≤ w1.heap.size from Nat.le_of_lt K1.out.lt); clear hk3 hb3 hs3 ho3; (try simp only [Act.put, qA, qB, qC]))
    | ((with_reducible refine atDst 17 ?_); refine wpList_ldArr rfl 29 _ rfl w.heap.size rfl 29 _ _ K3.out Tryz.underlying29 rfl (size_rx HC6.out) ?_; (try simp only [Act.put, qA, qB, qC])))
   refine (lFirstCat_any N IH.out k HK4.out s l HN1.out cs w3 ((V.out.stay B3.out).mono B3.out.size)).mono ?_
   rintro e w4 ⟨rfl, hb4⟩
   rw [← HR.out]
   have M4 := qH (M3.out.below hb4 M3.out.lt)
   have B4 := qH (B3.out.trans (hb4.mono B3.out.size))
   clear hb4
   go_wp2_with (first
    | ((with_reducible refine atDst 18 ?_); refine wpList_ldArr rfl 26 _ rfl w1.heap.size rfl 26 _ _ M4.out Tryz.underlying26 rfl (size_set _) ?_; (try simp only [Act.put, qA, qB, qC]))
    | ((with_reducible refine atStore 26 2 18 ?_); refine wpList_stBlk rfl 26 _ _ rfl w1.heap.size (wds r) rfl rfl 26 _ M4.out (size_set _) rfl (wds_all _) B4.out B1.out.size ?_; intro w11 hk11 hb11 hs11 _; have L11 := qH hk11; have B11 := qH hb11; clear hk11 hb11 hs11; (try simp only [Act.put, qA, qB, qC])))
   refine bodyPost_ret (results_blk rfl _ _ w1.heap.size 26 _ _ rfl L11.out Tryz.underlying26 rfl (size_set _)) rfl ?_
   exact ⟨rfl, B11.out⟩
  have z4 : (k == 4) = false := by simpa using k4
  by_cases k5 : k = 5
  ·have HR := qH (show r = firstA l by rw [HQ.out, if_neg k3, if_pos (.inl k5)])
   clear HQ k3 k4
   subst k5
   go_enter Tryz.func35, Tryz.ntmps35
   go_wp2_with (first
    | ((with_reducible refine atDst 1 ?_); refine wpList_box rfl 29 _ rfl cs rfl (Below.refl w.heap.size w) (Nat.le_refl _) ?_; intro w1 hk1 hb1 hs1 _; have K1 := qH hk1; have B1 := qH hb1; clear hk1 hb1 hs1; (try simp only [Act.put, qA, qB, qC]))
    | ((with_reducible refine atDst 2 ?_); refine wpList_new rfl 26 rfl i0 _ (wds zs) hi0 hz0 rfl B1.out B1.out.size ?_; intro w3 hk3 hb3 hs3 ho3; have M3 := qH hk3; have B3 := qH hb3; have K3 := qH (show Blk w3 w.heap.size 29 cs from (ho3 _ K1.out.lt).trans K1.out); have c0 := K3.out.cell 0; rw [HC0.out] at c0; have c5 := K3.out.cell 5; rw [HC5.out] at c5; have RS := qH (set_range' HCS.out K3.out); have HNE := qH (show w.heap.size ≠ w1.heap.size from Nat.ne_of_lt K1.out.lt); have HLE := qH (show w.heap.size ≤ w1.heap.size from Nat.le_of_lt K1.out.lt); clear hk3 hb3 hs3 ho3; (try simp only [Act.put, qA, qB, qC]))
    )
   go_loopw [27] (fun i wl => ∃ j : Nat, j ≤ l.length ∧ i = .int .i64 (j : Int) ∧ True ∧ Blk wl w1.heap.size 26 (wds (fstJ l j)) ∧ w3.grownBy wl (some w1.heap.size)) (fun i _ => l.length - (intOf i).toNat)
   case atStart => exact ⟨0, by omega, by simp, trivial, by rw [fstJ_zero, ← HZS.out]; exact M3.out, World.grownBy.refl _ _⟩
   case round =>
    obtain ⟨j, hj, rfl, hf, hk, hg⟩ := hrel
    have HF := qH hf
    have HK := qH hk
    have HG := qH hg
    have BR := qH (B3.out.trans ((grown_belowG hg M3.out.lt).mono HLE.out))
    clear hf hk hg
    by_cases hjl : j < l.length
    ·have j1 : (j : Int) < (l.length : Int) := Int.ofNat_lt.2 hjl
     obtain ⟨b, off, rfl, hb, hrng⟩ := H3.out (by rintro rfl; simp at hjl)
     obtain ⟨u, hu⟩ : ∃ u, l[j]? = some u := ⟨_, List.getElem?_eq_getElem hjl⟩
     have HV := qH (RxV.part H4.out BR.out BR.out.size hu)
     have HV6 := qH HV.out.length
     have HV1 := qH (show (f j).all (·.oneCell') = true from List.all_eq_true.2 (RxD.one HV.out))
     have HRG := qH (range_below (hrng j hjl) BR.out hb)
     have HU := qH hu
     have HUN := qH (show u.nodes ≤ N by have h1 := nodes_mem (List.mem_of_getElem? hu); have := HN.out; omega)
     have HJ1 := qH hjl
     have HKS := qH (show w1.heap.size < wr.heap.size from HK.out.lt)
     have e3 := wrap_len hjl HCL.out HCM.out
     have e4 := wrap_len' hjl HCL.out HCM.out
     have HNX := qH (fstJ_next hu)
     obtain ⟨acc, hacc⟩ : ∃ acc, acc = fstJ l j := ⟨_, rfl⟩
     rw [← hacc] at HK HNX
     have HACC := qH hacc
     clear hrng hu hb hj hjl hacc
     go_wp2_with (first
      | ((with_reducible refine atDst 30 ?_); refine wpList_load_mid rfl 29 _ rfl b (off + j * 6) rfl (f j) _ HRG.out Tryz.underlying29 rfl (size_rx HV6.out) ?_; (try simp only [Act.put, qA, qB, qC]))
      | ((with_reducible refine atDst 4 ?_); refine wpList_new rfl 29 rfl ix _ z hix HZ0.out rfl (Below.refl wr.heap.size wr) (Nat.le_refl _) ?_; intro w4 hk4 hb4 hs4 _; have K4 := qH hk4; have B4 := qH hb4; clear hk4 hb4 hs4; (try simp only [Act.put, qA, qB, qC]))
      | ((with_reducible refine atStore 29 4 30 ?_); refine wpList_stBlk rfl 29 _ _ rfl wr.heap.size (f j) rfl rfl 29 _ K4.out (size_rx HV6.out) (by rw [HZL.out, HV6.out]) HV1.out B4.out (Nat.le_refl _) ?_; intro w5 hk5 hb5 hs5 _; have K5 := qH hk5; have B5 := qH hb5; have HK5 := qH (HK.out.below hb5 HK.out.lt); clear hk5 hb5 hs5; (try simp only [Act.put, qA, qB, qC])))
     have HXN := qH (show some wr.heap.size ≠ some w1.heap.size from fun e => by have h1 := Option.some.inj e; have h2 := HKS.out; omega)
     refine sg_start (S := fun W => w5.grownBy W (some w1.heap.size)) (by kernel_rfl) (grown_start w5 _) (fun wd hwd => ?_)
     have hX : w5.grownBy wd (some w1.heap.size) := by rw [hwd]; exact grown_start w5 _
     have HKD := qH (show Blk wd w1.heap.size 26 (wds acc) by rw [hwd]; exact HK5.out)
     have HBD := qH (show Below wr.heap.size wr wd by rw [hwd]; exact (B5.out).drew)
     clear hwd
     refine sg_take (i := 1) (oi := ⟨some 32, _, _, _, _, _⟩) (v := .agg (f j).toArray) rfl (by kernel_rfl) (by kernel_rfl) (by kernel_rfl) (fun _ _ _ h => h) rfl hX (fun W hW => ld_keep 29 _ rfl wr.heap.size 0 rfl _ _ (fun i v hv => (K5.out.cell (0 + i)).trans (by rw [Nat.zero_add]; exact hv)) (hW.block _ K5.out.lt HXN.out) Tryz.underlying29 rfl (size_rx HV6.out)) ?_; simp only [Act.put, qA, qB, qC]
     refine sg_two (i := 0) (j := 2) (oi := ⟨some 31, _, _, _, _, _⟩) (oj := ⟨some 33, _, _, _, _, _⟩) rfl rfl (by kernel_rfl) rfl rfl hX (fun K hK => ?_) (fun K hK => ?_)
     ·refine wp_load_row 26 _ rfl w1.heap.size rfl 26 (wds acc).toArray (0, 0) _ HKD.out Tryz.underlying26 rfl (by simpa using size_set acc) ?_
      refine hK _ _ hX ?_
      clear hK K
      (try simp only [Act.put, qA, qB, qC])
      refine sg_actB (i := 2) (o := ⟨some 33, _, _, _, _, _⟩) rfl (by kernel_rfl) rfl hX (fun K hK => ?_)
      go_wp2_with fail
      refine (IH.out u HUN.out (f j) wd (RxV.mono (HV.out.stay HBD.out) HBD.out.size)).mono ?_
      rintro e w7 ⟨rfl, hb7⟩
      go_wp2_with fail
      refine hK _ _ (grown_then hX hb7) ?_
      clear hK K
      (try simp only [Act.put, qA, qB, qC])
      replace hX := grown_then hX hb7
      have HK7 := qH (HKD.out.below hb7 HKD.out.lt)
      have B7 := qH (HBD.out.trans (hb7.mono HBD.out.size))
      clear hb7
      refine sg_actB (i := 3) (o := ⟨some 34, _, _, _, _, _⟩) rfl (by kernel_rfl) rfl hX (fun K hK => ?_)
      go_wp2_with fail
      refine (bsOr_any acc (firstT u) w7).mono ?_
      rintro e w8 ⟨rfl, hb8⟩
      go_wp2_with fail
      refine hK _ _ (grown_then hX hb8) ?_
      clear hK K
      (try simp only [Act.put, qA, qB, qC])
      replace hX := grown_then hX hb8
      have HK8 := qH (HK7.out.below hb8 HK7.out.lt)
      have B8 := qH (B7.out.trans (hb8.mono B7.out.size))
      clear hb8
      refine sg_actB (i := 4) (o := ⟨none, _, _, _, _, _⟩) rfl (by kernel_rfl) rfl hX (fun K hK => ?_)
      refine wp_stBlk 26 _ _ rfl w1.heap.size (wds fun b => acc b || firstT u b) rfl rfl 26 _ HK8.out (size_set _) rfl (wds_all _) (Below.refl w1.heap.size w8) (Nat.le_refl _) ?_
      intro w9 hk9 hb9 hs9 ho9 _
      have hY5 := grown_belowG hX HK5.out.lt
      have hX9 := grown_at hX hY5 (hY5.trans hb9) (by rw [hs9]; exact Nat.le_refl _) ho9
      refine hK _ _ hX9 ?_
      clear hK K
      refine wpAnyH_done (by kernel_rfl) ?_ _
      have M9 := qH hk9
      have G9 := qH (grownG_trans (grownG_trans HG.out (below_grownG w1.heap.size B5.out)) hX9)
      have G0 := qH hX9
      clear hX hX9 hk9 hb9 hs9 ho9 hY5
      go_wp2_with fail
      exact ⟨⟨j + 1, HJ1.out, by congr 1, trivial, by rw [HNX.out]; exact M9.out, G9.out⟩, by have := HJ1.out; simp [intOf] <;> omega⟩
     ·go_wp2_with fail
      refine (IH.out u HUN.out (f j) wd (RxV.mono (HV.out.stay HBD.out) HBD.out.size)).mono ?_
      rintro e w7 ⟨rfl, hb7⟩
      go_wp2_with fail
      refine hK _ _ (grown_then hX hb7) ?_
      clear hK K
      (try simp only [Act.put, qA, qB, qC])
      replace hX := grown_then hX hb7
      have HK7 := qH (HKD.out.below hb7 HKD.out.lt)
      have B7 := qH (HBD.out.trans (hb7.mono HBD.out.size))
      clear hb7
      refine sg_actB (i := 0) (o := ⟨some 31, _, _, _, _, _⟩) rfl (by kernel_rfl) rfl hX (fun K hK => ?_)
      refine wp_load_row 26 _ rfl w1.heap.size rfl 26 (wds acc).toArray (0, 0) _ HK7.out Tryz.underlying26 rfl (by simpa using size_set acc) ?_
      refine hK _ _ hX ?_
      clear hK K
      (try simp only [Act.put, qA, qB, qC])
      refine sg_actB (i := 3) (o := ⟨some 34, _, _, _, _, _⟩) rfl (by kernel_rfl) rfl hX (fun K hK => ?_)
      go_wp2_with fail
      refine (bsOr_any acc (firstT u) w7).mono ?_
      rintro e w8 ⟨rfl, hb8⟩
      go_wp2_with fail
      refine hK _ _ (grown_then hX hb8) ?_
      clear hK K
      (try simp only [Act.put, qA, qB, qC])
      replace hX := grown_then hX hb8
      have HK8 := qH (HK7.out.below hb8 HK7.out.lt)
      have B8 := qH (B7.out.trans (hb8.mono B7.out.size))
      clear hb8
      refine sg_actB (i := 4) (o := ⟨none, _, _, _, _, _⟩) rfl (by kernel_rfl) rfl hX (fun K hK => ?_)
      refine wp_stBlk 26 _ _ rfl w1.heap.size (wds fun b => acc b || firstT u b) rfl rfl 26 _ HK8.out (size_set _) rfl (wds_all _) (Below.refl w1.heap.size w8) (Nat.le_refl _) ?_
      intro w9 hk9 hb9 hs9 ho9 _
      have hY5 := grown_belowG hX HK5.out.lt
      have hX9 := grown_at hX hY5 (hY5.trans hb9) (by rw [hs9]; exact Nat.le_refl _) ho9
      refine hK _ _ hX9 ?_
      clear hK K
      refine wpAnyH_done (by kernel_rfl) ?_ _
      have M9 := qH hk9
      have G9 := qH (grownG_trans (grownG_trans HG.out (below_grownG w1.heap.size B5.out)) hX9)
      have G0 := qH hX9
      clear hX hX9 hk9 hb9 hs9 ho9 hY5
      go_wp2_with fail
      exact ⟨⟨j + 1, HJ1.out, by congr 1, trivial, by rw [HNX.out]; exact M9.out, G9.out⟩, by have := HJ1.out; simp [intOf] <;> omega⟩
    ·obtain rfl : j = l.length := by omega
     have j1 : ¬ ((l.length : Int) < (l.length : Int)) := by omega
     have HRE := qH (show r = fstJ l l.length by rw [HR.out, fstJ_all])
     go_wp2_with (first
      | ((with_reducible refine atDst 36 ?_); refine wpList_ldArr rfl 26 _ rfl w1.heap.size rfl 26 _ _ HK.out Tryz.underlying26 rfl (size_set _) ?_; (try simp only [Act.put, qA, qB, qC]))
      | ((with_reducible refine atStore 26 2 36 ?_); refine wpList_stBlk rfl 26 _ _ rfl w1.heap.size (wds (fstJ l l.length)) rfl rfl 26 _ HK.out (size_set _) rfl (wds_all _) BR.out B1.out.size ?_; intro w11 hk11 hb11 hs11 _; have L11 := qH hk11; have B11 := qH hb11; clear hk11 hb11 hs11; (try simp only [Act.put, qA, qB, qC])))
     refine bodyPost_ret (results_blk rfl _ _ w1.heap.size 26 _ _ rfl L11.out Tryz.underlying26 rfl (size_set _)) rfl ?_
     exact ⟨by rw [HRE.out], B11.out⟩
  have z5 : (k == 5) = false := by simpa using k5
  by_cases k6 : k = 6
  ·by_cases hl : l.length = 1
   ·have HR := qH (show r = firstA l by rw [HQ.out, if_neg k3, if_pos (.inr ⟨k6, hl⟩)])
    have zl : ((l.length : Int) != 1) = false := by rw [hl]; rfl
    clear HQ k3 k4 z5 k5 hl
    subst k6
    go_enter Tryz.func35, Tryz.ntmps35
    go_wp2_with (first
     | ((with_reducible refine atDst 1 ?_); refine wpList_box rfl 29 _ rfl cs rfl (Below.refl w.heap.size w) (Nat.le_refl _) ?_; intro w1 hk1 hb1 hs1 _; have K1 := qH hk1; have B1 := qH hb1; clear hk1 hb1 hs1; (try simp only [Act.put, qA, qB, qC]))
     | ((with_reducible refine atDst 2 ?_); refine wpList_new rfl 26 rfl i0 _ (wds zs) hi0 hz0 rfl B1.out B1.out.size ?_; intro w3 hk3 hb3 hs3 ho3; have M3 := qH hk3; have B3 := qH hb3; have K3 := qH (show Blk w3 w.heap.size 29 cs from (ho3 _ K1.out.lt).trans K1.out); have c0 := K3.out.cell 0; rw [HC0.out] at c0; have c5 := K3.out.cell 5; rw [HC5.out] at c5; have RS := qH (set_range' HCS.out K3.out); have HNE := qH (show w.heap.size ≠ w1.heap.size from Nat.ne_of_lt K1.out.lt); have HLE := qH (show w.heap.size ≤ w1.heap.size from Nat.le_of_lt K1.out.lt); clear hk3 hb3 hs3 ho3; (try simp only [Act.put, qA, qB, qC]))
     )
    go_loopw [27] (fun i wl => ∃ j : Nat, j ≤ l.length ∧ i = .int .i64 (j : Int) ∧ True ∧ Blk wl w1.heap.size 26 (wds (fstJ l j)) ∧ w3.grownBy wl (some w1.heap.size)) (fun i _ => l.length - (intOf i).toNat)
    case atStart => exact ⟨0, by omega, by simp, trivial, by rw [fstJ_zero, ← HZS.out]; exact M3.out, World.grownBy.refl _ _⟩
    case round =>
     obtain ⟨j, hj, rfl, hf, hk, hg⟩ := hrel
     have HF := qH hf
     have HK := qH hk
     have HG := qH hg
     have BR := qH (B3.out.trans ((grown_belowG hg M3.out.lt).mono HLE.out))
     clear hf hk hg
     by_cases hjl : j < l.length
     ·have j1 : (j : Int) < (l.length : Int) := Int.ofNat_lt.2 hjl
      obtain ⟨b, off, rfl, hb, hrng⟩ := H3.out (by rintro rfl; simp at hjl)
      obtain ⟨u, hu⟩ : ∃ u, l[j]? = some u := ⟨_, List.getElem?_eq_getElem hjl⟩
      have HV := qH (RxV.part H4.out BR.out BR.out.size hu)
      have HV6 := qH HV.out.length
      have HV1 := qH (show (f j).all (·.oneCell') = true from List.all_eq_true.2 (RxD.one HV.out))
      have HRG := qH (range_below (hrng j hjl) BR.out hb)
      have HU := qH hu
      have HUN := qH (show u.nodes ≤ N by have h1 := nodes_mem (List.mem_of_getElem? hu); have := HN.out; omega)
      have HJ1 := qH hjl
      have HKS := qH (show w1.heap.size < wr.heap.size from HK.out.lt)
      have e3 := wrap_len hjl HCL.out HCM.out
      have e4 := wrap_len' hjl HCL.out HCM.out
      have HNX := qH (fstJ_next hu)
      obtain ⟨acc, hacc⟩ : ∃ acc, acc = fstJ l j := ⟨_, rfl⟩
      rw [← hacc] at HK HNX
      have HACC := qH hacc
      clear hrng hu hb hj hjl hacc
      go_wp2_with (first
       | ((with_reducible refine atDst 30 ?_); refine wpList_load_mid rfl 29 _ rfl b (off + j * 6) rfl (f j) _ HRG.out Tryz.underlying29 rfl (size_rx HV6.out) ?_; (try simp only [Act.put, qA, qB, qC]))
       | ((with_reducible refine atDst 4 ?_); refine wpList_new rfl 29 rfl ix _ z hix HZ0.out rfl (Below.refl wr.heap.size wr) (Nat.le_refl _) ?_; intro w4 hk4 hb4 hs4 _; have K4 := qH hk4; have B4 := qH hb4; clear hk4 hb4 hs4; (try simp only [Act.put, qA, qB, qC]))
       | ((with_reducible refine atStore 29 4 30 ?_); refine wpList_stBlk rfl 29 _ _ rfl wr.heap.size (f j) rfl rfl 29 _ K4.out (size_rx HV6.out) (by rw [HZL.out, HV6.out]) HV1.out B4.out (Nat.le_refl _) ?_; intro w5 hk5 hb5 hs5 _; have K5 := qH hk5; have B5 := qH hb5; have HK5 := qH (HK.out.below hb5 HK.out.lt); clear hk5 hb5 hs5; (try simp only [Act.put, qA, qB, qC])))
      have HXN := qH (show some wr.heap.size ≠ some w1.heap.size from fun e => by have h1 := Option.some.inj e; have h2 := HKS.out; omega)
      refine sg_start (S := fun W => w5.grownBy W (some w1.heap.size)) (by kernel_rfl) (grown_start w5 _) (fun wd hwd => ?_)
      have hX : w5.grownBy wd (some w1.heap.size) := by rw [hwd]; exact grown_start w5 _
      have HKD := qH (show Blk wd w1.heap.size 26 (wds acc) by rw [hwd]; exact HK5.out)
      have HBD := qH (show Below wr.heap.size wr wd by rw [hwd]; exact (B5.out).drew)
      clear hwd
      refine sg_take (i := 1) (oi := ⟨some 32, _, _, _, _, _⟩) (v := .agg (f j).toArray) rfl (by kernel_rfl) (by kernel_rfl) (by kernel_rfl) (fun _ _ _ h => h) rfl hX (fun W hW => ld_keep 29 _ rfl wr.heap.size 0 rfl _ _ (fun i v hv => (K5.out.cell (0 + i)).trans (by rw [Nat.zero_add]; exact hv)) (hW.block _ K5.out.lt HXN.out) Tryz.underlying29 rfl (size_rx HV6.out)) ?_; simp only [Act.put, qA, qB, qC]
      refine sg_two (i := 0) (j := 2) (oi := ⟨some 31, _, _, _, _, _⟩) (oj := ⟨some 33, _, _, _, _, _⟩) rfl rfl (by kernel_rfl) rfl rfl hX (fun K hK => ?_) (fun K hK => ?_)
      ·refine wp_load_row 26 _ rfl w1.heap.size rfl 26 (wds acc).toArray (0, 0) _ HKD.out Tryz.underlying26 rfl (by simpa using size_set acc) ?_
       refine hK _ _ hX ?_
       clear hK K
       (try simp only [Act.put, qA, qB, qC])
       refine sg_actB (i := 2) (o := ⟨some 33, _, _, _, _, _⟩) rfl (by kernel_rfl) rfl hX (fun K hK => ?_)
       go_wp2_with fail
       refine (IH.out u HUN.out (f j) wd (RxV.mono (HV.out.stay HBD.out) HBD.out.size)).mono ?_
       rintro e w7 ⟨rfl, hb7⟩
       go_wp2_with fail
       refine hK _ _ (grown_then hX hb7) ?_
       clear hK K
       (try simp only [Act.put, qA, qB, qC])
       replace hX := grown_then hX hb7
       have HK7 := qH (HKD.out.below hb7 HKD.out.lt)
       have B7 := qH (HBD.out.trans (hb7.mono HBD.out.size))
       clear hb7
       refine sg_actB (i := 3) (o := ⟨some 34, _, _, _, _, _⟩) rfl (by kernel_rfl) rfl hX (fun K hK => ?_)
       go_wp2_with fail
       refine (bsOr_any acc (firstT u) w7).mono ?_
       rintro e w8 ⟨rfl, hb8⟩
       go_wp2_with fail
       refine hK _ _ (grown_then hX hb8) ?_
       clear hK K
       (try simp only [Act.put, qA, qB, qC])
       replace hX := grown_then hX hb8
       have HK8 := qH (HK7.out.below hb8 HK7.out.lt)
       have B8 := qH (B7.out.trans (hb8.mono B7.out.size))
       clear hb8
       refine sg_actB (i := 4) (o := ⟨none, _, _, _, _, _⟩) rfl (by kernel_rfl) rfl hX (fun K hK => ?_)
       refine wp_stBlk 26 _ _ rfl w1.heap.size (wds fun b => acc b || firstT u b) rfl rfl 26 _ HK8.out (size_set _) rfl (wds_all _) (Below.refl w1.heap.size w8) (Nat.le_refl _) ?_
       intro w9 hk9 hb9 hs9 ho9 _
       have hY5 := grown_belowG hX HK5.out.lt
       have hX9 := grown_at hX hY5 (hY5.trans hb9) (by rw [hs9]; exact Nat.le_refl _) ho9
       refine hK _ _ hX9 ?_
       clear hK K
       refine wpAnyH_done (by kernel_rfl) ?_ _
       have M9 := qH hk9
       have G9 := qH (grownG_trans (grownG_trans HG.out (below_grownG w1.heap.size B5.out)) hX9)
       have G0 := qH hX9
       clear hX hX9 hk9 hb9 hs9 ho9 hY5
       go_wp2_with fail
       exact ⟨⟨j + 1, HJ1.out, by congr 1, trivial, by rw [HNX.out]; exact M9.out, G9.out⟩, by have := HJ1.out; simp [intOf] <;> omega⟩
      ·go_wp2_with fail
       refine (IH.out u HUN.out (f j) wd (RxV.mono (HV.out.stay HBD.out) HBD.out.size)).mono ?_
       rintro e w7 ⟨rfl, hb7⟩
       go_wp2_with fail
       refine hK _ _ (grown_then hX hb7) ?_
       clear hK K
       (try simp only [Act.put, qA, qB, qC])
       replace hX := grown_then hX hb7
       have HK7 := qH (HKD.out.below hb7 HKD.out.lt)
       have B7 := qH (HBD.out.trans (hb7.mono HBD.out.size))
       clear hb7
       refine sg_actB (i := 0) (o := ⟨some 31, _, _, _, _, _⟩) rfl (by kernel_rfl) rfl hX (fun K hK => ?_)
       refine wp_load_row 26 _ rfl w1.heap.size rfl 26 (wds acc).toArray (0, 0) _ HK7.out Tryz.underlying26 rfl (by simpa using size_set acc) ?_
       refine hK _ _ hX ?_
       clear hK K
       (try simp only [Act.put, qA, qB, qC])
       refine sg_actB (i := 3) (o := ⟨some 34, _, _, _, _, _⟩) rfl (by kernel_rfl) rfl hX (fun K hK => ?_)
       go_wp2_with fail
       refine (bsOr_any acc (firstT u) w7).mono ?_
       rintro e w8 ⟨rfl, hb8⟩
       go_wp2_with fail
       refine hK _ _ (grown_then hX hb8) ?_
       clear hK K
       (try simp only [Act.put, qA, qB, qC])
       replace hX := grown_then hX hb8
       have HK8 := qH (HK7.out.below hb8 HK7.out.lt)
       have B8 := qH (B7.out.trans (hb8.mono B7.out.size))
       clear hb8
       refine sg_actB (i := 4) (o := ⟨none, _, _, _, _, _⟩) rfl (by kernel_rfl) rfl hX (fun K hK => ?_)
       refine wp_stBlk 26 _ _ rfl w1.heap.size (wds fun b => acc b || firstT u b) rfl rfl 26 _ HK8.out (size_set _) rfl (wds_all _) (Below.refl w1.heap.size w8) (Nat.le_refl _) ?_
       intro w9 hk9 hb9 hs9 ho9 _
       have hY5 := grown_belowG hX HK5.out.lt
       have hX9 := grown_at hX hY5 (hY5.trans hb9) (by rw [hs9]; exact Nat.le_refl _) ho9
       refine hK _ _ hX9 ?_
       clear hK K
       refine wpAnyH_done (by kernel_rfl) ?_ _
       have M9 := qH hk9
       have G9 := qH (grownG_trans (grownG_trans HG.out (below_grownG w1.heap.size B5.out)) hX9)
       have G0 := qH hX9
       clear hX hX9 hk9 hb9 hs9 ho9 hY5
       go_wp2_with fail
       exact ⟨⟨j + 1, HJ1.out, by congr 1, trivial, by rw [HNX.out]; exact M9.out, G9.out⟩, by have := HJ1.out; simp [intOf] <;> omega⟩
     ·obtain rfl : j = l.length := by omega
      have j1 : ¬ ((l.length : Int) < (l.length : Int)) := by omega
      have HRE := qH (show r = fstJ l l.length by rw [HR.out, fstJ_all])
      go_wp2_with (first
       | ((with_reducible refine atDst 36 ?_); refine wpList_ldArr rfl 26 _ rfl w1.heap.size rfl 26 _ _ HK.out Tryz.underlying26 rfl (size_set _) ?_; (try simp only [Act.put, qA, qB, qC]))
       | ((with_reducible refine atStore 26 2 36 ?_); refine wpList_stBlk rfl 26 _ _ rfl w1.heap.size (wds (fstJ l l.length)) rfl rfl 26 _ HK.out (size_set _) rfl (wds_all _) BR.out B1.out.size ?_; intro w11 hk11 hb11 hs11 _; have L11 := qH hk11; have B11 := qH hb11; clear hk11 hb11 hs11; (try simp only [Act.put, qA, qB, qC])))
      refine bodyPost_ret (results_blk rfl _ _ w1.heap.size 26 _ _ rfl L11.out Tryz.underlying26 rfl (size_set _)) rfl ?_
      exact ⟨by rw [HRE.out], B11.out⟩
   ·have HR := qH (show r = zs by rw [HQ.out, if_neg k3, if_neg (by omega), if_neg (by omega), HZS.out])
    have zl : ((l.length : Int) != 1) = true := by rw [bne_iff_ne]; omega
    clear HQ k3 k4 z5 k5 hl
    subst k6
    go_enter Tryz.func35, Tryz.ntmps35
    go_wp2_with (first
     | ((with_reducible refine atDst 1 ?_); refine wpList_box rfl 29 _ rfl cs rfl (Below.refl w.heap.size w) (Nat.le_refl _) ?_; intro w1 hk1 hb1 hs1 _; have K1 := qH hk1; have B1 := qH hb1; clear hk1 hb1 hs1; (try simp only [Act.put, qA, qB, qC]))
     | ((with_reducible refine atDst 2 ?_); refine wpList_new rfl 26 rfl i0 _ (wds zs) hi0 hz0 rfl B1.out B1.out.size ?_; intro w3 hk3 hb3 hs3 ho3; have M3 := qH hk3; have B3 := qH hb3; have K3 := qH (show Blk w3 w.heap.size 29 cs from (ho3 _ K1.out.lt).trans K1.out); have c0 := K3.out.cell 0; rw [HC0.out] at c0; have c5 := K3.out.cell 5; rw [HC5.out] at c5; have RS := qH (set_range' HCS.out K3.out); have HNE := qH (show w.heap.size ≠ w1.heap.size from Nat.ne_of_lt K1.out.lt); have HLE := qH (show w.heap.size ≤ w1.heap.size from Nat.le_of_lt K1.out.lt); clear hk3 hb3 hs3 ho3; (try simp only [Act.put, qA, qB, qC]))
     | ((with_reducible refine atDst 23 ?_); refine wpList_ldArr rfl 26 _ rfl w1.heap.size rfl 26 _ _ M3.out Tryz.underlying26 rfl (size_set _) ?_; (try simp only [Act.put, qA, qB, qC]))
     | ((with_reducible refine atStore 26 2 23 ?_); refine wpList_stBlk rfl 26 _ _ rfl w1.heap.size (wds zs) rfl rfl 26 _ M3.out (size_set _) rfl (wds_all _) B3.out B1.out.size ?_; intro w11 hk11 hb11 hs11 _; have L11 := qH hk11; have B11 := qH hb11; clear hk11 hb11 hs11; (try simp only [Act.put, qA, qB, qC])))
    refine bodyPost_ret (results_blk rfl _ _ w1.heap.size 26 _ _ rfl L11.out Tryz.underlying26 rfl (size_set _)) rfl ?_
    exact ⟨by rw [HR.out], B11.out⟩
  have z6 : (k == 6) = false := by simpa using k6
  have HR := qH (show r = zs by rw [HQ.out, if_neg k3, if_neg (by omega), if_neg k4, HZS.out])
  clear HQ k3 k4 k5 k6
  go_enter Tryz.func35, Tryz.ntmps35
  go_wp2_with (first
   | ((with_reducible refine atDst 1 ?_); refine wpList_box rfl 29 _ rfl cs rfl (Below.refl w.heap.size w) (Nat.le_refl _) ?_; intro w1 hk1 hb1 hs1 _; have K1 := qH hk1; have B1 := qH hb1; clear hk1 hb1 hs1; (try simp only [Act.put, qA, qB, qC]))
   | ((with_reducible refine atDst 2 ?_); refine wpList_new rfl 26 rfl i0 _ (wds zs) hi0 hz0 rfl B1.out B1.out.size ?_; intro w3 hk3 hb3 hs3 ho3; have M3 := qH hk3; have B3 := qH hb3; have K3 := qH (show Blk w3 w.heap.size 29 cs from (ho3 _ K1.out.lt).trans K1.out); have c0 := K3.out.cell 0; rw [HC0.out] at c0; have c5 := K3.out.cell 5; rw [HC5.out] at c5; have RS := qH (set_range' HCS.out K3.out); have HNE := qH (show w.heap.size ≠ w1.heap.size from Nat.ne_of_lt K1.out.lt); have HLE := qH (show w.heap.size ≤ w1.heap.size from Nat.le_of_lt K1.out.lt); clear hk3 hb3 hs3 ho3; (try simp only [Act.put, qA, qB, qC]))
   | ((with_reducible refine atDst 36 ?_); refine wpList_ldArr rfl 26 _ rfl w1.heap.size rfl 26 _ _ M3.out Tryz.underlying26 rfl (size_set _) ?_; (try simp only [Act.put, qA, qB, qC]))
   | ((with_reducible refine atStore 26 2 36 ?_); refine wpList_stBlk rfl 26 _ _ rfl w1.heap.size (wds zs) rfl rfl 26 _ M3.out (size_set _) rfl (wds_all _) B3.out B1.out.size ?_; intro w11 hk11 hb11 hs11 _; have L11 := qH hk11; have B11 := qH hb11; clear hk11 hb11 hs11; (try simp only [Act.put, qA, qB, qC])))
  refine bodyPost_ret (results_blk rfl _ _ w1.heap.size 26 _ _ rfl L11.out Tryz.underlying26 rfl (size_set _)) rfl ?_
  exact ⟨by rw [HR.out], B11.out⟩
set_option maxHeartbeats 1000000 in
set_option maxRecDepth 100000 in
theorem lFirst_any (t : T) (hn : t.nodes ≤ 2000) (cs : List Value) (w : World) (hv : RxV w.heap.size w cs t) :
  Calls Tryz.prog 14 #[.agg cs.toArray] w fun e w' => e = .returned (.agg (wds (firstT t)).toArray) ∧ Below w.heap.size w w' := by
 have V := qH hv
 have HC6 := qH hv.length
 have HLG := qH (show decide (2000 < t.nodes) = false from decide_eq_false (by omega))
 obtain ⟨i0, hi0, hz0⟩ := info_set
 obtain ⟨zs, hzs⟩ : ∃ z : Nat → Bool, z = fun _ => false := ⟨_, rfl⟩
 rw [← hzs] at hz0
 obtain ⟨r, hr⟩ : ∃ r, r = firstT t := ⟨_, rfl⟩
 have HR := qH hr
 rw [← hr]
 clear hv hn hzs hr
 go_enter Tryz.func14, Tryz.ntmps14
 go_wp2_with (first
  | ((with_reducible refine atDst 1 ?_); refine wpList_box rfl 29 _ rfl cs rfl (Below.refl w.heap.size w) (Nat.le_refl _) ?_; intro w1 hk1 hb1 hs1 _; have K1 := qH hk1; have B1 := qH hb1; clear hk1 hb1 hs1; (try simp only [Act.put, qA, qB, qC]))
  | ((with_reducible refine atDst 2 ?_); refine wpList_new rfl 26 rfl i0 _ (wds zs) hi0 hz0 rfl B1.out B1.out.size ?_; intro w3 hk3 hb3 hs3 ho3; have M3 := qH hk3; have B3 := qH hb3; have K3 := qH (show Blk w3 w.heap.size 29 cs from (ho3 _ K1.out.lt).trans K1.out); clear hk3 hb3 hs3 ho3; (try simp only [Act.put, qA, qB, qC]))
  | ((with_reducible refine atDst 3 ?_); refine wpList_ldArr rfl 29 _ rfl w.heap.size rfl 29 _ _ K3.out Tryz.underlying29 rfl (size_rx HC6.out) ?_; (try simp only [Act.put, qA, qB, qC])))
 refine (lLarge_any t cs w3 ((V.out.stay B3.out).mono B3.out.size) false HLG.out).mono ?_
 rintro e w4 ⟨rfl, hb4⟩
 have M4 := qH (M3.out.below hb4 M3.out.lt)
 have K4 := qH (K3.out.below hb4 K3.out.lt)
 have B4 := qH (B3.out.trans (hb4.mono B3.out.size))
 clear hb4
 go_wp2_with ((with_reducible refine atDst 6 ?_); refine wpList_ldArr rfl 29 _ rfl w.heap.size rfl 29 _ _ K4.out Tryz.underlying29 rfl (size_rx HC6.out) ?_; (try simp only [Act.put, qA, qB, qC]))
 refine (lFirst0_any _ t (Nat.le_refl _) cs w4 ((V.out.stay B4.out).mono B4.out.size)).mono ?_
 rintro e w5 ⟨rfl, hb5⟩
 rw [← HR.out]
 have M5 := qH (M4.out.below hb5 M4.out.lt)
 have B5 := qH (B4.out.trans (hb5.mono B4.out.size))
 clear hb5
 go_wp2_with ((with_reducible refine atStore 26 2 7 ?_); refine wpList_stBlk rfl 26 _ _ rfl w1.heap.size (wds r) rfl rfl 26 _ M5.out (size_set _) rfl (wds_all _) B5.out B1.out.size ?_; intro w11 hk11 hb11 hs11 _; have L11 := qH hk11; have B11 := qH hb11; clear hk11 hb11 hs11; (try simp only [Act.put, qA, qB, qC]))
 refine bodyPost_ret (results_blk rfl _ _ w1.heap.size 26 _ _ rfl L11.out Tryz.underlying26 rfl (size_set _)) rfl ?_
 exact ⟨rfl, B11.out⟩
end Go.Proofs.YtopnpdobcagcgaaGreat
