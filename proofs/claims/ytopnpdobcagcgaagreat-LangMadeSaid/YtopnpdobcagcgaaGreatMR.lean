/-
  Texts of this proof, put together: LwF. No statement is proved here.
-/
import Derived.Test.YtopnpdobcagcgaaGreatMP
import Derived.Test.YtopnpdobcagcgaaGreatMQ
namespace Go.Proofs.YtopnpdobcagcgaaGreat
open Go.RowKit
set_option linter.unusedSimpArgs false
set_option linter.unusedVariables false
theorem firstA_any : ∀ (l : List T) (b : Nat), firstA l b = l.any fun u => firstT u b
 | [], b => rfl
 | t :: r, b => by rw [firstA, firstA_any r, List.any_cons]
def fstJ (l : List T) (j : Nat) (b : Nat) : Bool := (l.take j).any fun u => firstT u b
theorem fstJ_zero (l : List T) : fstJ l 0 = zeroS := by funext b; simp [fstJ, zeroS]
theorem fstJ_next {l : List T} {j : Nat} {u : T} (h : l[j]? = some u) : fstJ l (j + 1) = fun b => fstJ l j b || firstT u b := by
 obtain ⟨hi, rfl⟩ := List.getElem?_eq_some_iff.1 h
 funext b
 unfold fstJ
 rw [List.take_succ_eq_append_getElem hi, List.any_append]
 simp
theorem fstJ_all (l : List T) : fstJ l l.length = firstA l := by funext b; unfold fstJ; rw [List.take_length, firstA_any]
theorem firstC_at (b : Nat) : ∀ (l : List T) (j : Nat), (l.take j).all nullT = true → firstC l b = (fstJ l j b || firstC (l.drop j) b)
 | l, 0, _ => by simp [fstJ]
 | [], j + 1, _ => by simp [fstJ, firstC]
 | t :: r, j + 1, h => by
  rw [List.take_succ_cons, List.all_cons, Bool.and_eq_true] at h
  have ih := firstC_at b r j h.2
  unfold fstJ at ih ⊢
  rw [firstC, h.1, Bool.true_and, ih, List.take_succ_cons, List.any_cons, List.drop_succ_cons, Bool.or_assoc]
theorem firstC_stop {l : List T} {j : Nat} {u : T} (h : l[j]? = some u) (ha : (l.take j).all nullT = true) (hu : nullT u = false) : firstC l = fstJ l (j + 1) := by
 funext b
 obtain ⟨hi, rfl⟩ := List.getElem?_eq_some_iff.1 h
 rw [firstC_at b l j ha, fstJ_next h, List.drop_eq_getElem_cons hi, firstC, hu]
 simp
theorem firstC_end {l : List T} (ha : l.all nullT = true) : firstC l = fstJ l l.length := by
 funext b
 rw [firstC_at b l l.length (by rwa [List.take_length]), List.drop_length, firstC, Bool.or_false]
theorem firstT_node (k : Int) (s : Nat → Bool) (l : List T) : firstT (.node k s l) = if k = 3 then s else if k = 5 ∨ k = 6 ∧ l.length = 1 then firstA l else if k = 4 then (if someC l = true then firstC l else zeroS) else zeroS := by
 funext b
 rw [firstT]
 split
 ·rfl
 ·split
  ·rfl
  ·split
   ·cases someC l <;> simp [zeroS]
   ·rfl
-- what follows a set that is stored as the answer: $1 the world's Blk of t2, $2 Below, $3 slot, $4 set
-- the part at place j
set_option maxHeartbeats 8000000 in
set_option maxRecDepth 1000000 in
theorem refFirst_any : ∀ (N : Nat) (t : T), t.nodes ≤ N → t.nodes ≤ 1099511627776 → ∀ (cs : List Value) (w : World), RxV w.heap.size w cs t →
  Calls Tryz.prog 15 #[.agg cs.toArray] w fun e w' => e = .returned (.agg (wds (firstT t)).toArray) ∧ Below w.heap.size w w' := by
 intro N
 induction N with
 | zero => intro t h; have := nodes_pos t; omega
 | succ N ih =>
  rintro ⟨k, s, l⟩ hN hM cs w hv
  have IH := qH ih
  clear ih
  have V := qH hv
  have HC6 := qH hv.length
  obtain ⟨A, cap, f, hcs, h1, h2, h0, h3, h4⟩ := hv.opened
  have H3 := qH h3
  have H4 := qH h4
  have HNN := qH (show T.nodes (.node k s l) = 1 + nodesL l by simp only [T.nodes])
  have HTM := qH hM
  rw [HNN.out] at hN hM
  have HN := qH hN
  have HM := qH hM
  have HCM := qH h2
  have HCL := qH h1
  have HQ := qH (firstT_node k s l)
  have HC0 := qH (show cs[0]? = some (.int .i64 k) by rw [hcs]; rfl)
  have HC5 := qH (show cs[5]? = some (.slice A l.length cap) by rw [hcs]; rfl)
  have HCS := qH hcs
  obtain ⟨r, hr⟩ : ∃ r, r = firstT (.node k s l) := ⟨_, rfl⟩
  obtain ⟨i0, hi0, hz0⟩ := info_set
  obtain ⟨zs, hzs⟩ : ∃ z : Nat → Bool, z = zeroS := ⟨_, rfl⟩
  rw [show (fun _ => false) = zs from hzs.symm] at hz0
  have HZS := qH hzs
  rw [← hr] at HQ ⊢
  clear hv h1 h2 h0 h3 h4 hcs hN hM hr hzs
  by_cases k3 : k = 3
  ·have hr : r = s := by rw [HQ.out, if_pos k3]
   subst hr
   clear HQ
   subst k3
   go_enter Tryz.func15, Tryz.ntmps15
   go_wp2_with (first
    | ((with_reducible refine atDst 1 ?_); refine wpList_box rfl 29 _ rfl cs rfl (Below.refl w.heap.size w) (Nat.le_refl _) ?_; intro w1 hk1 hb1 hs1 _; have K1 := qH hk1; have B1 := qH hb1; have c0 := hk1.cell 0; rw [HC0.out] at c0; clear hk1 hb1 hs1; (try simp only [Act.put, qA, qB, qC]))
    | ((with_reducible refine atDst 2 ?_); refine wpList_new rfl 26 rfl i0 _ (wds zs) hi0 hz0 rfl B1.out B1.out.size ?_; intro w2 hk2 hb2 hs2 ho2; have L2 := qH hk2; have B2 := qH hb2; have K2 := qH (show Blk w2 w.heap.size 29 cs from (ho2 _ K1.out.lt).trans K1.out); clear hk2 hb2 hs2 ho2; (try simp only [Act.put, qA, qB, qC]))
    | ((with_reducible refine atDst 3 ?_); refine wpList_new rfl 26 rfl i0 _ (wds zs) hi0 hz0 rfl B2.out B2.out.size ?_; intro w3 hk3 hb3 hs3 ho3; have M3 := qH hk3; have B3 := qH hb3; have K3 := qH (show Blk w3 w.heap.size 29 cs from (ho3 _ K2.out.lt).trans K2.out); have L3 := qH (show Blk w3 w1.heap.size 26 (wds zs) from (ho3 _ L2.out.lt).trans L2.out); have c0 := K3.out.cell 0; rw [HC0.out] at c0; have c5 := K3.out.cell 5; rw [HC5.out] at c5; have RS := qH (set_range' HCS.out K3.out); clear hk3 hb3 hs3 ho3; (try simp only [Act.put, qA, qB, qC]))
    | ((with_reducible refine atDst 11 ?_); refine wpList_ldMidG rfl 26 _ rfl w.heap.size 1 rfl (wds r) _ RS.out Tryz.underlying26 rfl (size_set r) ?_; (try simp only [Act.put, qA, qB, qC]))
    | ((with_reducible refine atStore 26 2 11 ?_); refine wpList_stBlk rfl 26 _ _ rfl w1.heap.size (wds r) rfl rfl 26 _ L3.out (size_set _) rfl (wds_all _) B3.out B1.out.size ?_; intro w11 hk11 hb11 hs11 _; have L11 := qH hk11; have B11 := qH hb11; clear hk11 hb11 hs11; (try simp only [Act.put, qA, qB, qC])))
   refine bodyPost_ret (results_blk rfl _ _ w1.heap.size 26 _ _ rfl L11.out Tryz.underlying26 rfl (size_set _)) rfl ?_
   exact ⟨rfl, B11.out⟩
  have z3 : (k == 3) = false := by simpa using k3
  have HNE0 := qH (fun (w1 : World) (K2 : Blk w1 w.heap.size 29 cs) => Nat.ne_of_lt K2.lt)
  clear HNE0
  by_cases k5 : k = 5
  ·have HR := qH (show r = firstA l by rw [HQ.out, if_neg k3, if_pos (.inl k5)])
   clear HQ k3
   subst k5
   go_enter Tryz.func15, Tryz.ntmps15
   go_wp2_with (first
    | ((with_reducible refine atDst 1 ?_); refine wpList_box rfl 29 _ rfl cs rfl (Below.refl w.heap.size w) (Nat.le_refl _) ?_; intro w1 hk1 hb1 hs1 _; have K1 := qH hk1; have B1 := qH hb1; have c0 := hk1.cell 0; rw [HC0.out] at c0; clear hk1 hb1 hs1; (try simp only [Act.put, qA, qB, qC]))
    | ((with_reducible refine atDst 2 ?_); refine wpList_new rfl 26 rfl i0 _ (wds zs) hi0 hz0 rfl B1.out B1.out.size ?_; intro w2 hk2 hb2 hs2 ho2; have L2 := qH hk2; have B2 := qH hb2; have K2 := qH (show Blk w2 w.heap.size 29 cs from (ho2 _ K1.out.lt).trans K1.out); clear hk2 hb2 hs2 ho2; (try simp only [Act.put, qA, qB, qC]))
    | ((with_reducible refine atDst 3 ?_); refine wpList_new rfl 26 rfl i0 _ (wds zs) hi0 hz0 rfl B2.out B2.out.size ?_; intro w3 hk3 hb3 hs3 ho3; have M3 := qH hk3; have B3 := qH hb3; have K3 := qH (show Blk w3 w.heap.size 29 cs from (ho3 _ K2.out.lt).trans K2.out); have L3 := qH (show Blk w3 w1.heap.size 26 (wds zs) from (ho3 _ L2.out.lt).trans L2.out); have c0 := K3.out.cell 0; rw [HC0.out] at c0; have c5 := K3.out.cell 5; rw [HC5.out] at c5; have RS := qH (set_range' HCS.out K3.out); clear hk3 hb3 hs3 ho3; (try simp only [Act.put, qA, qB, qC])))
   have HNE := qH (show w.heap.size ≠ w2.heap.size from Nat.ne_of_lt K2.out.lt)
   have HNE2 := qH (show w1.heap.size ≠ w2.heap.size from Nat.ne_of_lt L2.out.lt)
   have HLE := qH (show w.heap.size ≤ w2.heap.size from Nat.le_of_lt K2.out.lt)
   go_loopw [4] (fun i wl => ∃ j : Nat, j ≤ l.length ∧ i = .int .i64 (j : Int) ∧ True ∧ Blk wl w2.heap.size 26 (wds (fstJ l j)) ∧ w3.grownBy wl (some w2.heap.size)) (fun i _ => l.length - (intOf i).toNat)
   case atStart => exact ⟨0, by omega, by simp, trivial, by rw [fstJ_zero, ← HZS.out]; exact M3.out, World.grownBy.refl _ _⟩
   case round =>
    obtain ⟨j, hj, rfl, hf, hk, hg⟩ := hrel
    have HF := qH hf
    have HK := qH hk
    have HG := qH hg
    have KR := qH (grown_blk hg (fun e => absurd (Option.some.inj e) HNE.out) K3.out)
    have LR := qH (grown_blk hg (fun e => absurd (Option.some.inj e) HNE2.out) L3.out)
    have BR := qH (B3.out.trans ((grown_belowG hg M3.out.lt).mono HLE.out))
    have hc5 := KR.out.cell 5
    rw [HC5.out] at hc5
    have hc0 := KR.out.cell 0
    rw [HC0.out] at hc0
    clear hf hk hg
    by_cases hjl : j < l.length
    ·have j1 : (j : Int) < (l.length : Int) := Int.ofNat_lt.2 hjl
     obtain ⟨b, off, rfl, hb, hrng⟩ := H3.out (by rintro rfl; simp at hjl)
     obtain ⟨u, hu⟩ : ∃ u, l[j]? = some u := ⟨_, List.getElem?_eq_getElem hjl⟩
     have HV := qH (RxV.part H4.out BR.out BR.out.size hu)
     have HV6 := qH HV.out.length
     have HRG := qH (range_below (hrng j hjl) BR.out hb)
     have HBB := qH (show b < wr.heap.size from Nat.lt_of_lt_of_le hb BR.out.size)
     have HBN := qH (show some b ≠ some w2.heap.size from fun e => by have h1 := Option.some.inj e; have h2 := HLE.out; omega)
     have HU := qH hu
     have HUN := qH (show u.nodes ≤ N by have h1 := nodes_mem (List.mem_of_getElem? hu); have := HN.out; omega)
     have HUM := qH (show u.nodes ≤ 1099511627776 by have h1 := nodes_mem (List.mem_of_getElem? hu); have := HM.out; omega)
     have HJ1 := qH hjl
     have HKR := qH (show w.heap.size < wr.heap.size from KR.out.lt)
     have HKS := qH (show w2.heap.size < wr.heap.size from HK.out.lt)
     have e3 := wrap_len hjl HCL.out HCM.out
     have e4 := wrap_len' hjl HCL.out HCM.out
     have HNX := qH (fstJ_next hu)
     obtain ⟨acc, hacc⟩ : ∃ acc, acc = fstJ l j := ⟨_, rfl⟩
     rw [← hacc] at HK HNX
     have HACC := qH hacc
     clear hrng hu hb hj hjl hacc
     go_wp2_with fail
     refine sg_start (S := fun W => wr.grownBy W (some w2.heap.size)) (by kernel_rfl) (grown_start wr _) (fun wd hwd => ?_)
     have hX : wr.grownBy wd (some w2.heap.size) := by rw [hwd]; exact grown_start wr _
     have HKD := qH (show Blk wd w2.heap.size 26 (wds acc) by rw [hwd]; exact HK.out)
     have HBD := qH (show Below wr.heap.size wr wd by rw [hwd]; exact (Below.refl wr.heap.size wr).drew)
     clear hwd
     refine sg_take (i := 1) (oi := ⟨some 34, _, _, _, _, _⟩) (v := ?_) rfl (by kernel_rfl) (by kernel_rfl) (by kernel_rfl) (fun _ _ _ h => h) rfl hX ?_ ?_; rotate_left; (intro W hW; go_simp; try with_reducible rfl); simp only [Act.put, qA, qB, qC]
     refine sg_take (i := 2) (oi := ⟨some 35, _, _, _, _, _⟩) (v := .slice (some ⟨b, off, none⟩) l.length cap) rfl (by kernel_rfl) (by kernel_rfl) (by kernel_rfl) (fun _ _ _ h => h) rfl hX (fun W hW => ld_rxs (.tmp 34) rfl rfl (grown_cell hW HKR.out (fun e => absurd (Option.some.inj e) HNE.out) hc5)) ?_; simp only [Act.put, qA, qB, qC]
     refine sg_take (i := 3) (oi := ⟨some 36, _, _, _, _, _⟩) (v := ?_) rfl (by kernel_rfl) (by kernel_rfl) (by kernel_rfl) (fun _ _ _ h => h) rfl hX ?_ ?_; rotate_left; (intro W hW; go_simp; try with_reducible rfl); simp only [Act.put, qA, qB, qC]
     refine sg_take (i := 4) (oi := ⟨some 37, _, _, _, _, _⟩) (v := ?_) rfl (by kernel_rfl) (by kernel_rfl) (by kernel_rfl) (fun _ _ _ h => h) rfl hX ?_ ?_; rotate_left; (intro W hW; go_simp; try with_reducible rfl); simp only [Act.put, qA, qB, qC]
     refine sg_take (i := 5) (oi := ⟨some 38, _, _, _, _, _⟩) (v := .agg (f j).toArray) rfl (by kernel_rfl) (by kernel_rfl) (by kernel_rfl) (fun _ _ _ h => h) rfl hX (fun W hW => ld_keep 29 _ rfl b (off + j * 6) rfl _ _ HRG.out (hW.block b HBB.out HBN.out) Tryz.underlying29 rfl (size_rx HV6.out)) ?_; simp only [Act.put, qA, qB, qC]
     refine sg_two (i := 0) (j := 6) (oi := ⟨some 33, _, _, _, _, _⟩) (oj := ⟨some 39, _, _, _, _, _⟩) rfl rfl (by kernel_rfl) rfl rfl hX (fun K hK => ?_) (fun K hK => ?_)
     ·refine wp_load_row 26 _ rfl w2.heap.size rfl 26 (wds acc).toArray (0, 0) _ HKD.out Tryz.underlying26 rfl (by simpa using size_set acc) ?_
      refine hK _ _ hX ?_
      clear hK K
      (try simp only [Act.put, qA, qB, qC])
      refine sg_actB (i := 6) (o := ⟨some 39, _, _, _, _, _⟩) rfl (by kernel_rfl) rfl hX (fun K hK => ?_)
      go_wp2_with fail
      refine (IH.out u HUN.out HUM.out (f j) wd (RxV.mono (HV.out.stay HBD.out) HBD.out.size)).mono ?_
      rintro e w7 ⟨rfl, hb7⟩
      go_wp2_with fail
      refine hK _ _ (grown_then hX hb7) ?_
      clear hK K
      (try simp only [Act.put, qA, qB, qC])
      replace hX := grown_then hX hb7
      have HK7 := qH (HKD.out.below hb7 HKD.out.lt)
      have B7 := qH (HBD.out.trans (hb7.mono HBD.out.size))
      clear hb7
      refine sg_actB (i := 7) (o := ⟨some 40, _, _, _, _, _⟩) rfl (by kernel_rfl) rfl hX (fun K hK => ?_)
      go_wp2_with fail
      refine (refOr_any acc (firstT u) w7).mono ?_
      rintro e w8 ⟨rfl, hb8⟩
      go_wp2_with fail
      refine hK _ _ (grown_then hX hb8) ?_
      clear hK K
      (try simp only [Act.put, qA, qB, qC])
      replace hX := grown_then hX hb8
      have HK8 := qH (HK7.out.below hb8 HK7.out.lt)
      have B8 := qH (B7.out.trans (hb8.mono B7.out.size))
      clear hb8
      refine sg_actB (i := 8) (o := ⟨none, _, _, _, _, _⟩) rfl (by kernel_rfl) rfl hX (fun K hK => ?_)
      refine wp_stBlk 26 _ _ rfl w2.heap.size (wds fun b => acc b || firstT u b) rfl rfl 26 _ HK8.out (size_set _) rfl (wds_all _) (Below.refl w2.heap.size w8) (Nat.le_refl _) ?_
      intro w9 hk9 hb9 hs9 ho9 _
      have hX9 := grown_at hX ((grown_belowG hX HKS.out)) (((grown_belowG hX HKS.out)).trans hb9) (by rw [hs9]; exact Nat.le_refl _) ho9
      refine hK _ _ hX9 ?_
      clear hK K
      refine wpAnyH_done (by kernel_rfl) ?_ _
      have M9 := qH hk9
      have G9 := qH (grownG_trans HG.out hX9)
      have G0 := qH hX9
      clear hX hX9 hk9 hb9 hs9 ho9
      go_wp2_with fail
      exact ⟨⟨j + 1, HJ1.out, by congr 1, trivial, by rw [HNX.out]; exact M9.out, G9.out⟩, by have := HJ1.out; simp [intOf] <;> omega⟩
     ·go_wp2_with fail
      refine (IH.out u HUN.out HUM.out (f j) wd (RxV.mono (HV.out.stay HBD.out) HBD.out.size)).mono ?_
      rintro e w7 ⟨rfl, hb7⟩
      go_wp2_with fail
      refine hK _ _ (grown_then hX hb7) ?_
      clear hK K
      (try simp only [Act.put, qA, qB, qC])
      replace hX := grown_then hX hb7
      have HK7 := qH (HKD.out.below hb7 HKD.out.lt)
      have B7 := qH (HBD.out.trans (hb7.mono HBD.out.size))
      clear hb7
      refine sg_actB (i := 0) (o := ⟨some 33, _, _, _, _, _⟩) rfl (by kernel_rfl) rfl hX (fun K hK => ?_)
      refine wp_load_row 26 _ rfl w2.heap.size rfl 26 (wds acc).toArray (0, 0) _ HK7.out Tryz.underlying26 rfl (by simpa using size_set acc) ?_
      refine hK _ _ hX ?_
      clear hK K
      (try simp only [Act.put, qA, qB, qC])
      refine sg_actB (i := 7) (o := ⟨some 40, _, _, _, _, _⟩) rfl (by kernel_rfl) rfl hX (fun K hK => ?_)
      go_wp2_with fail
      refine (refOr_any acc (firstT u) w7).mono ?_
      rintro e w8 ⟨rfl, hb8⟩
      go_wp2_with fail
      refine hK _ _ (grown_then hX hb8) ?_
      clear hK K
      (try simp only [Act.put, qA, qB, qC])
      replace hX := grown_then hX hb8
      have HK8 := qH (HK7.out.below hb8 HK7.out.lt)
      have B8 := qH (B7.out.trans (hb8.mono B7.out.size))
      clear hb8
      refine sg_actB (i := 8) (o := ⟨none, _, _, _, _, _⟩) rfl (by kernel_rfl) rfl hX (fun K hK => ?_)
      refine wp_stBlk 26 _ _ rfl w2.heap.size (wds fun b => acc b || firstT u b) rfl rfl 26 _ HK8.out (size_set _) rfl (wds_all _) (Below.refl w2.heap.size w8) (Nat.le_refl _) ?_
      intro w9 hk9 hb9 hs9 ho9 _
      have hX9 := grown_at hX ((grown_belowG hX HKS.out)) (((grown_belowG hX HKS.out)).trans hb9) (by rw [hs9]; exact Nat.le_refl _) ho9
      refine hK _ _ hX9 ?_
      clear hK K
      refine wpAnyH_done (by kernel_rfl) ?_ _
      have M9 := qH hk9
      have G9 := qH (grownG_trans HG.out hX9)
      have G0 := qH hX9
      clear hX hX9 hk9 hb9 hs9 ho9
      go_wp2_with fail
      exact ⟨⟨j + 1, HJ1.out, by congr 1, trivial, by rw [HNX.out]; exact M9.out, G9.out⟩, by have := HJ1.out; simp [intOf] <;> omega⟩
    ·obtain rfl : j = l.length := by omega
     have j1 : ¬ ((l.length : Int) < (l.length : Int)) := by omega
     have HRE := qH (show r = fstJ l l.length by rw [HR.out, fstJ_all])
     go_wp2_with (first
      | ((with_reducible refine atDst 70 ?_); refine wpList_ldArr rfl 26 _ rfl w2.heap.size rfl 26 _ _ HK.out Tryz.underlying26 rfl (size_set _) ?_; (try simp only [Act.put, qA, qB, qC]))
      | ((with_reducible refine atStore 26 2 70 ?_); refine wpList_stBlk rfl 26 _ _ rfl w1.heap.size (wds (fstJ l l.length)) rfl rfl 26 _ LR.out (size_set _) rfl (wds_all _) BR.out B1.out.size ?_; intro w11 hk11 hb11 hs11 _; have L11 := qH hk11; have B11 := qH hb11; clear hk11 hb11 hs11; (try simp only [Act.put, qA, qB, qC])))
     refine bodyPost_ret (results_blk rfl _ _ w1.heap.size 26 _ _ rfl L11.out Tryz.underlying26 rfl (size_set _)) rfl ?_
     exact ⟨by rw [HRE.out], B11.out⟩
  have z5 : (k == 5) = false := by simpa using k5
  by_cases k6 : k = 6
  ·by_cases hl : l.length = 1
   ·have HR := qH (show r = firstA l by rw [HQ.out, if_neg k3, if_pos (.inr ⟨k6, hl⟩)])
    have zl : ((l.length : Int) == 1) = true := by rw [hl]; rfl
    clear HQ k3 z5 k5 hl
    subst k6
    go_enter Tryz.func15, Tryz.ntmps15
    go_wp2_with (first
     | ((with_reducible refine atDst 1 ?_); refine wpList_box rfl 29 _ rfl cs rfl (Below.refl w.heap.size w) (Nat.le_refl _) ?_; intro w1 hk1 hb1 hs1 _; have K1 := qH hk1; have B1 := qH hb1; have c0 := hk1.cell 0; rw [HC0.out] at c0; clear hk1 hb1 hs1; (try simp only [Act.put, qA, qB, qC]))
     | ((with_reducible refine atDst 2 ?_); refine wpList_new rfl 26 rfl i0 _ (wds zs) hi0 hz0 rfl B1.out B1.out.size ?_; intro w2 hk2 hb2 hs2 ho2; have L2 := qH hk2; have B2 := qH hb2; have K2 := qH (show Blk w2 w.heap.size 29 cs from (ho2 _ K1.out.lt).trans K1.out); clear hk2 hb2 hs2 ho2; (try simp only [Act.put, qA, qB, qC]))
     | ((with_reducible refine atDst 3 ?_); refine wpList_new rfl 26 rfl i0 _ (wds zs) hi0 hz0 rfl B2.out B2.out.size ?_; intro w3 hk3 hb3 hs3 ho3; have M3 := qH hk3; have B3 := qH hb3; have K3 := qH (show Blk w3 w.heap.size 29 cs from (ho3 _ K2.out.lt).trans K2.out); have L3 := qH (show Blk w3 w1.heap.size 26 (wds zs) from (ho3 _ L2.out.lt).trans L2.out); have c0 := K3.out.cell 0; rw [HC0.out] at c0; have c5 := K3.out.cell 5; rw [HC5.out] at c5; have RS := qH (set_range' HCS.out K3.out); clear hk3 hb3 hs3 ho3; (try simp only [Act.put, qA, qB, qC])))
    have HNE := qH (show w.heap.size ≠ w2.heap.size from Nat.ne_of_lt K2.out.lt)
    have HNE2 := qH (show w1.heap.size ≠ w2.heap.size from Nat.ne_of_lt L2.out.lt)
    have HLE := qH (show w.heap.size ≤ w2.heap.size from Nat.le_of_lt K2.out.lt)
    go_loopw [4] (fun i wl => ∃ j : Nat, j ≤ l.length ∧ i = .int .i64 (j : Int) ∧ True ∧ Blk wl w2.heap.size 26 (wds (fstJ l j)) ∧ w3.grownBy wl (some w2.heap.size)) (fun i _ => l.length - (intOf i).toNat)
    case atStart => exact ⟨0, by omega, by simp, trivial, by rw [fstJ_zero, ← HZS.out]; exact M3.out, World.grownBy.refl _ _⟩
    case round =>
     obtain ⟨j, hj, rfl, hf, hk, hg⟩ := hrel
     have HF := qH hf
     have HK := qH hk
     have HG := qH hg
     have KR := qH (grown_blk hg (fun e => absurd (Option.some.inj e) HNE.out) K3.out)
     have LR := qH (grown_blk hg (fun e => absurd (Option.some.inj e) HNE2.out) L3.out)
     have BR := qH (B3.out.trans ((grown_belowG hg M3.out.lt).mono HLE.out))
     have hc5 := KR.out.cell 5
     rw [HC5.out] at hc5
     have hc0 := KR.out.cell 0
     rw [HC0.out] at hc0
     clear hf hk hg
     by_cases hjl : j < l.length
     ·have j1 : (j : Int) < (l.length : Int) := Int.ofNat_lt.2 hjl
      obtain ⟨b, off, rfl, hb, hrng⟩ := H3.out (by rintro rfl; simp at hjl)
      obtain ⟨u, hu⟩ : ∃ u, l[j]? = some u := ⟨_, List.getElem?_eq_getElem hjl⟩
      have HV := qH (RxV.part H4.out BR.out BR.out.size hu)
      have HV6 := qH HV.out.length
      have HRG := qH (range_below (hrng j hjl) BR.out hb)
      have HBB := qH (show b < wr.heap.size from Nat.lt_of_lt_of_le hb BR.out.size)
      have HBN := qH (show some b ≠ some w2.heap.size from fun e => by have h1 := Option.some.inj e; have h2 := HLE.out; omega)
      have HU := qH hu
      have HUN := qH (show u.nodes ≤ N by have h1 := nodes_mem (List.mem_of_getElem? hu); have := HN.out; omega)
      have HUM := qH (show u.nodes ≤ 1099511627776 by have h1 := nodes_mem (List.mem_of_getElem? hu); have := HM.out; omega)
      have HJ1 := qH hjl
      have HKR := qH (show w.heap.size < wr.heap.size from KR.out.lt)
      have HKS := qH (show w2.heap.size < wr.heap.size from HK.out.lt)
      have e3 := wrap_len hjl HCL.out HCM.out
      have e4 := wrap_len' hjl HCL.out HCM.out
      have HNX := qH (fstJ_next hu)
      obtain ⟨acc, hacc⟩ : ∃ acc, acc = fstJ l j := ⟨_, rfl⟩
      rw [← hacc] at HK HNX
      have HACC := qH hacc
      clear hrng hu hb hj hjl hacc
      go_wp2_with fail
      refine sg_start (S := fun W => wr.grownBy W (some w2.heap.size)) (by kernel_rfl) (grown_start wr _) (fun wd hwd => ?_)
      have hX : wr.grownBy wd (some w2.heap.size) := by rw [hwd]; exact grown_start wr _
      have HKD := qH (show Blk wd w2.heap.size 26 (wds acc) by rw [hwd]; exact HK.out)
      have HBD := qH (show Below wr.heap.size wr wd by rw [hwd]; exact (Below.refl wr.heap.size wr).drew)
      clear hwd
      refine sg_take (i := 1) (oi := ⟨some 34, _, _, _, _, _⟩) (v := ?_) rfl (by kernel_rfl) (by kernel_rfl) (by kernel_rfl) (fun _ _ _ h => h) rfl hX ?_ ?_; rotate_left; (intro W hW; go_simp; try with_reducible rfl); simp only [Act.put, qA, qB, qC]
      refine sg_take (i := 2) (oi := ⟨some 35, _, _, _, _, _⟩) (v := .slice (some ⟨b, off, none⟩) l.length cap) rfl (by kernel_rfl) (by kernel_rfl) (by kernel_rfl) (fun _ _ _ h => h) rfl hX (fun W hW => ld_rxs (.tmp 34) rfl rfl (grown_cell hW HKR.out (fun e => absurd (Option.some.inj e) HNE.out) hc5)) ?_; simp only [Act.put, qA, qB, qC]
      refine sg_take (i := 3) (oi := ⟨some 36, _, _, _, _, _⟩) (v := ?_) rfl (by kernel_rfl) (by kernel_rfl) (by kernel_rfl) (fun _ _ _ h => h) rfl hX ?_ ?_; rotate_left; (intro W hW; go_simp; try with_reducible rfl); simp only [Act.put, qA, qB, qC]
      refine sg_take (i := 4) (oi := ⟨some 37, _, _, _, _, _⟩) (v := ?_) rfl (by kernel_rfl) (by kernel_rfl) (by kernel_rfl) (fun _ _ _ h => h) rfl hX ?_ ?_; rotate_left; (intro W hW; go_simp; try with_reducible rfl); simp only [Act.put, qA, qB, qC]
      refine sg_take (i := 5) (oi := ⟨some 38, _, _, _, _, _⟩) (v := .agg (f j).toArray) rfl (by kernel_rfl) (by kernel_rfl) (by kernel_rfl) (fun _ _ _ h => h) rfl hX (fun W hW => ld_keep 29 _ rfl b (off + j * 6) rfl _ _ HRG.out (hW.block b HBB.out HBN.out) Tryz.underlying29 rfl (size_rx HV6.out)) ?_; simp only [Act.put, qA, qB, qC]
      refine sg_two (i := 0) (j := 6) (oi := ⟨some 33, _, _, _, _, _⟩) (oj := ⟨some 39, _, _, _, _, _⟩) rfl rfl (by kernel_rfl) rfl rfl hX (fun K hK => ?_) (fun K hK => ?_)
      ·refine wp_load_row 26 _ rfl w2.heap.size rfl 26 (wds acc).toArray (0, 0) _ HKD.out Tryz.underlying26 rfl (by simpa using size_set acc) ?_
       refine hK _ _ hX ?_
       clear hK K
       (try simp only [Act.put, qA, qB, qC])
       refine sg_actB (i := 6) (o := ⟨some 39, _, _, _, _, _⟩) rfl (by kernel_rfl) rfl hX (fun K hK => ?_)
       go_wp2_with fail
       refine (IH.out u HUN.out HUM.out (f j) wd (RxV.mono (HV.out.stay HBD.out) HBD.out.size)).mono ?_
       rintro e w7 ⟨rfl, hb7⟩
       go_wp2_with fail
       refine hK _ _ (grown_then hX hb7) ?_
       clear hK K
       (try simp only [Act.put, qA, qB, qC])
       replace hX := grown_then hX hb7
       have HK7 := qH (HKD.out.below hb7 HKD.out.lt)
       have B7 := qH (HBD.out.trans (hb7.mono HBD.out.size))
       clear hb7
       refine sg_actB (i := 7) (o := ⟨some 40, _, _, _, _, _⟩) rfl (by kernel_rfl) rfl hX (fun K hK => ?_)
       go_wp2_with fail
       refine (refOr_any acc (firstT u) w7).mono ?_
       rintro e w8 ⟨rfl, hb8⟩
       go_wp2_with fail
       refine hK _ _ (grown_then hX hb8) ?_
       clear hK K
       (try simp only [Act.put, qA, qB, qC])
       replace hX := grown_then hX hb8
       have HK8 := qH (HK7.out.below hb8 HK7.out.lt)
       have B8 := qH (B7.out.trans (hb8.mono B7.out.size))
       clear hb8
       refine sg_actB (i := 8) (o := ⟨none, _, _, _, _, _⟩) rfl (by kernel_rfl) rfl hX (fun K hK => ?_)
       refine wp_stBlk 26 _ _ rfl w2.heap.size (wds fun b => acc b || firstT u b) rfl rfl 26 _ HK8.out (size_set _) rfl (wds_all _) (Below.refl w2.heap.size w8) (Nat.le_refl _) ?_
       intro w9 hk9 hb9 hs9 ho9 _
       have hX9 := grown_at hX ((grown_belowG hX HKS.out)) (((grown_belowG hX HKS.out)).trans hb9) (by rw [hs9]; exact Nat.le_refl _) ho9
       refine hK _ _ hX9 ?_
       clear hK K
       refine wpAnyH_done (by kernel_rfl) ?_ _
       have M9 := qH hk9
       have G9 := qH (grownG_trans HG.out hX9)
       have G0 := qH hX9
       clear hX hX9 hk9 hb9 hs9 ho9
       go_wp2_with fail
       exact ⟨⟨j + 1, HJ1.out, by congr 1, trivial, by rw [HNX.out]; exact M9.out, G9.out⟩, by have := HJ1.out; simp [intOf] <;> omega⟩
      ·go_wp2_with fail
       refine (IH.out u HUN.out HUM.out (f j) wd (RxV.mono (HV.out.stay HBD.out) HBD.out.size)).mono ?_
       rintro e w7 ⟨rfl, hb7⟩
       go_wp2_with fail
       refine hK _ _ (grown_then hX hb7) ?_
       clear hK K
       (try simp only [Act.put, qA, qB, qC])
       replace hX := grown_then hX hb7
       have HK7 := qH (HKD.out.below hb7 HKD.out.lt)
       have B7 := qH (HBD.out.trans (hb7.mono HBD.out.size))
       clear hb7
       refine sg_actB (i := 0) (o := ⟨some 33, _, _, _, _, _⟩) rfl (by kernel_rfl) rfl hX (fun K hK => ?_)
       refine wp_load_row 26 _ rfl w2.heap.size rfl 26 (wds acc).toArray (0, 0) _ HK7.out Tryz.underlying26 rfl (by simpa using size_set acc) ?_
       refine hK _ _ hX ?_
       clear hK K
       (try simp only [Act.put, qA, qB, qC])
       refine sg_actB (i := 7) (o := ⟨some 40, _, _, _, _, _⟩) rfl (by kernel_rfl) rfl hX (fun K hK => ?_)
       go_wp2_with fail
       refine (refOr_any acc (firstT u) w7).mono ?_
       rintro e w8 ⟨rfl, hb8⟩
       go_wp2_with fail
       refine hK _ _ (grown_then hX hb8) ?_
       clear hK K
       (try simp only [Act.put, qA, qB, qC])
       replace hX := grown_then hX hb8
       have HK8 := qH (HK7.out.below hb8 HK7.out.lt)
       have B8 := qH (B7.out.trans (hb8.mono B7.out.size))
       clear hb8
       refine sg_actB (i := 8) (o := ⟨none, _, _, _, _, _⟩) rfl (by kernel_rfl) rfl hX (fun K hK => ?_)
       refine wp_stBlk 26 _ _ rfl w2.heap.size (wds fun b => acc b || firstT u b) rfl rfl 26 _ HK8.out (size_set _) rfl (wds_all _) (Below.refl w2.heap.size w8) (Nat.le_refl _) ?_
       intro w9 hk9 hb9 hs9 ho9 _
       have hX9 := grown_at hX ((grown_belowG hX HKS.out)) (((grown_belowG hX HKS.out)).trans hb9) (by rw [hs9]; exact Nat.le_refl _) ho9
       refine hK _ _ hX9 ?_
       clear hK K
       refine wpAnyH_done (by kernel_rfl) ?_ _
       have M9 := qH hk9
       have G9 := qH (grownG_trans HG.out hX9)
       have G0 := qH hX9
       clear hX hX9 hk9 hb9 hs9 ho9
       go_wp2_with fail
       exact ⟨⟨j + 1, HJ1.out, by congr 1, trivial, by rw [HNX.out]; exact M9.out, G9.out⟩, by have := HJ1.out; simp [intOf] <;> omega⟩
     ·obtain rfl : j = l.length := by omega
      have j1 : ¬ ((l.length : Int) < (l.length : Int)) := by omega
      have HRE := qH (show r = fstJ l l.length by rw [HR.out, fstJ_all])
      go_wp2_with (first
       | ((with_reducible refine atDst 70 ?_); refine wpList_ldArr rfl 26 _ rfl w2.heap.size rfl 26 _ _ HK.out Tryz.underlying26 rfl (size_set _) ?_; (try simp only [Act.put, qA, qB, qC]))
       | ((with_reducible refine atStore 26 2 70 ?_); refine wpList_stBlk rfl 26 _ _ rfl w1.heap.size (wds (fstJ l l.length)) rfl rfl 26 _ LR.out (size_set _) rfl (wds_all _) BR.out B1.out.size ?_; intro w11 hk11 hb11 hs11 _; have L11 := qH hk11; have B11 := qH hb11; clear hk11 hb11 hs11; (try simp only [Act.put, qA, qB, qC])))
      refine bodyPost_ret (results_blk rfl _ _ w1.heap.size 26 _ _ rfl L11.out Tryz.underlying26 rfl (size_set _)) rfl ?_
      exact ⟨by rw [HRE.out], B11.out⟩
   ·have HR := qH (show r = zs by rw [HQ.out, if_neg k3, if_neg (by omega), if_neg (by omega), HZS.out])
    have zl : ((l.length : Int) == 1) = false := by rw [beq_eq_false_iff_ne]; omega
    clear HQ k3 z5 k5 hl
    subst k6
    by_cases hl0 : 0 < l.length
    ·have j1 : (0 : Int) < (l.length : Int) := by omega
     clear hl0
     go_enter Tryz.func15, Tryz.ntmps15
     go_wp2_with (first
      | ((with_reducible refine atDst 1 ?_); refine wpList_box rfl 29 _ rfl cs rfl (Below.refl w.heap.size w) (Nat.le_refl _) ?_; intro w1 hk1 hb1 hs1 _; have K1 := qH hk1; have B1 := qH hb1; have c0 := hk1.cell 0; rw [HC0.out] at c0; clear hk1 hb1 hs1; (try simp only [Act.put, qA, qB, qC]))
      | ((with_reducible refine atDst 2 ?_); refine wpList_new rfl 26 rfl i0 _ (wds zs) hi0 hz0 rfl B1.out B1.out.size ?_; intro w2 hk2 hb2 hs2 ho2; have L2 := qH hk2; have B2 := qH hb2; have K2 := qH (show Blk w2 w.heap.size 29 cs from (ho2 _ K1.out.lt).trans K1.out); clear hk2 hb2 hs2 ho2; (try simp only [Act.put, qA, qB, qC]))
      | ((with_reducible refine atDst 3 ?_); refine wpList_new rfl 26 rfl i0 _ (wds zs) hi0 hz0 rfl B2.out B2.out.size ?_; intro w3 hk3 hb3 hs3 ho3; have M3 := qH hk3; have B3 := qH hb3; have K3 := qH (show Blk w3 w.heap.size 29 cs from (ho3 _ K2.out.lt).trans K2.out); have L3 := qH (show Blk w3 w1.heap.size 26 (wds zs) from (ho3 _ L2.out.lt).trans L2.out); have c0 := K3.out.cell 0; rw [HC0.out] at c0; have c5 := K3.out.cell 5; rw [HC5.out] at c5; have RS := qH (set_range' HCS.out K3.out); clear hk3 hb3 hs3 ho3; (try simp only [Act.put, qA, qB, qC])))
     go_loopw [4] (fun i wl => i = .int .i64 0 ∧ wl = w3) (fun i _ => 1)
     case atStart => exact ⟨by simp, rfl⟩
     case round =>
      obtain ⟨rfl, hwl⟩ := hrel
      have MR := qH (show Blk wr w2.heap.size 26 (wds zs) by rw [hwl]; exact M3.out)
      have LR := qH (show Blk wr w1.heap.size 26 (wds zs) by rw [hwl]; exact L3.out)
      have BR := qH (show Below w.heap.size w wr by rw [hwl]; exact B3.out)
      have hc0 : wr.cell? ⟨w.heap.size, 0, none⟩ = some (.int .i64 6) := by rw [hwl]; exact c0
      have hc5 : wr.cell? ⟨w.heap.size, 5, none⟩ = some (.slice A l.length cap) := by rw [hwl]; exact c5
      clear hwl
      go_wp2_with (first
       | ((with_reducible refine atDst 70 ?_); refine wpList_ldArr rfl 26 _ rfl w2.heap.size rfl 26 _ _ MR.out Tryz.underlying26 rfl (size_set _) ?_; (try simp only [Act.put, qA, qB, qC]))
       | ((with_reducible refine atStore 26 2 70 ?_); refine wpList_stBlk rfl 26 _ _ rfl w1.heap.size (wds zs) rfl rfl 26 _ LR.out (size_set _) rfl (wds_all _) BR.out B1.out.size ?_; intro w11 hk11 hb11 hs11 _; have L11 := qH hk11; have B11 := qH hb11; clear hk11 hb11 hs11; (try simp only [Act.put, qA, qB, qC])))
      refine bodyPost_ret (results_blk rfl _ _ w1.heap.size 26 _ _ rfl L11.out Tryz.underlying26 rfl (size_set _)) rfl ?_
      exact ⟨by rw [HR.out], B11.out⟩
    ·have j1 : ¬ ((0 : Int) < (l.length : Int)) := by omega
     clear hl0
     go_enter Tryz.func15, Tryz.ntmps15
     go_wp2_with (first
      | ((with_reducible refine atDst 1 ?_); refine wpList_box rfl 29 _ rfl cs rfl (Below.refl w.heap.size w) (Nat.le_refl _) ?_; intro w1 hk1 hb1 hs1 _; have K1 := qH hk1; have B1 := qH hb1; have c0 := hk1.cell 0; rw [HC0.out] at c0; clear hk1 hb1 hs1; (try simp only [Act.put, qA, qB, qC]))
      | ((with_reducible refine atDst 2 ?_); refine wpList_new rfl 26 rfl i0 _ (wds zs) hi0 hz0 rfl B1.out B1.out.size ?_; intro w2 hk2 hb2 hs2 ho2; have L2 := qH hk2; have B2 := qH hb2; have K2 := qH (show Blk w2 w.heap.size 29 cs from (ho2 _ K1.out.lt).trans K1.out); clear hk2 hb2 hs2 ho2; (try simp only [Act.put, qA, qB, qC]))
      | ((with_reducible refine atDst 3 ?_); refine wpList_new rfl 26 rfl i0 _ (wds zs) hi0 hz0 rfl B2.out B2.out.size ?_; intro w3 hk3 hb3 hs3 ho3; have M3 := qH hk3; have B3 := qH hb3; have K3 := qH (show Blk w3 w.heap.size 29 cs from (ho3 _ K2.out.lt).trans K2.out); have L3 := qH (show Blk w3 w1.heap.size 26 (wds zs) from (ho3 _ L2.out.lt).trans L2.out); have c0 := K3.out.cell 0; rw [HC0.out] at c0; have c5 := K3.out.cell 5; rw [HC5.out] at c5; have RS := qH (set_range' HCS.out K3.out); clear hk3 hb3 hs3 ho3; (try simp only [Act.put, qA, qB, qC])))
     go_loopw [4] (fun i wl => i = .int .i64 0 ∧ wl = w3) (fun i _ => 1)
     case atStart => exact ⟨by simp, rfl⟩
     case round =>
      obtain ⟨rfl, hwl⟩ := hrel
      have MR := qH (show Blk wr w2.heap.size 26 (wds zs) by rw [hwl]; exact M3.out)
      have LR := qH (show Blk wr w1.heap.size 26 (wds zs) by rw [hwl]; exact L3.out)
      have BR := qH (show Below w.heap.size w wr by rw [hwl]; exact B3.out)
      have hc0 : wr.cell? ⟨w.heap.size, 0, none⟩ = some (.int .i64 6) := by rw [hwl]; exact c0
      have hc5 : wr.cell? ⟨w.heap.size, 5, none⟩ = some (.slice A l.length cap) := by rw [hwl]; exact c5
      clear hwl
      go_wp2_with (first
       | ((with_reducible refine atDst 70 ?_); refine wpList_ldArr rfl 26 _ rfl w2.heap.size rfl 26 _ _ MR.out Tryz.underlying26 rfl (size_set _) ?_; (try simp only [Act.put, qA, qB, qC]))
       | ((with_reducible refine atStore 26 2 70 ?_); refine wpList_stBlk rfl 26 _ _ rfl w1.heap.size (wds zs) rfl rfl 26 _ LR.out (size_set _) rfl (wds_all _) BR.out B1.out.size ?_; intro w11 hk11 hb11 hs11 _; have L11 := qH hk11; have B11 := qH hb11; clear hk11 hb11 hs11; (try simp only [Act.put, qA, qB, qC])))
      refine bodyPost_ret (results_blk rfl _ _ w1.heap.size 26 _ _ rfl L11.out Tryz.underlying26 rfl (size_set _)) rfl ?_
      exact ⟨by rw [HR.out], B11.out⟩
  have z6 : (k == 6) = false := by simpa using k6
  by_cases k4 : k = 4
  ·clear z3 z5 z6
   obtain ⟨q, hq⟩ : ∃ q, q = someT (.node k s l) := ⟨_, rfl⟩
   have HSM := qH hq
   have HSC := qH (show someT (.node k s l) = someC l by rw [someT, if_neg (by omega), if_neg k3, if_pos k4])
   have HR0 := qH (show r = if q = true then firstC l else zs by rw [HQ.out, if_neg k3, if_neg (by omega), if_pos k4, hq, HSC.out, HZS.out])
   clear HQ k3 k5 k6 hq
   subst k4
   go_enter Tryz.func15, Tryz.ntmps15
   go_wp2_with (first
    | ((with_reducible refine atDst 1 ?_); refine wpList_box rfl 29 _ rfl cs rfl (Below.refl w.heap.size w) (Nat.le_refl _) ?_; intro w1 hk1 hb1 hs1 _; have K1 := qH hk1; have B1 := qH hb1; have c0 := hk1.cell 0; rw [HC0.out] at c0; clear hk1 hb1 hs1; (try simp only [Act.put, qA, qB, qC]))
    | ((with_reducible refine atDst 2 ?_); refine wpList_new rfl 26 rfl i0 _ (wds zs) hi0 hz0 rfl B1.out B1.out.size ?_; intro w2 hk2 hb2 hs2 ho2; have L2 := qH hk2; have B2 := qH hb2; have K2 := qH (show Blk w2 w.heap.size 29 cs from (ho2 _ K1.out.lt).trans K1.out); clear hk2 hb2 hs2 ho2; (try simp only [Act.put, qA, qB, qC]))
    | ((with_reducible refine atDst 3 ?_); refine wpList_new rfl 26 rfl i0 _ (wds zs) hi0 hz0 rfl B2.out B2.out.size ?_; intro w3 hk3 hb3 hs3 ho3; have M3 := qH hk3; have B3 := qH hb3; have K3 := qH (show Blk w3 w.heap.size 29 cs from (ho3 _ K2.out.lt).trans K2.out); have L3 := qH (show Blk w3 w1.heap.size 26 (wds zs) from (ho3 _ L2.out.lt).trans L2.out); have c0 := K3.out.cell 0; rw [HC0.out] at c0; have c5 := K3.out.cell 5; rw [HC5.out] at c5; have RS := qH (set_range' HCS.out K3.out); clear hk3 hb3 hs3 ho3; (try simp only [Act.put, qA, qB, qC]))
    | ((with_reducible refine atDst 43 ?_); refine wpList_ldArr rfl 29 _ rfl w.heap.size rfl 29 _ _ K3.out Tryz.underlying29 rfl (size_rx HC6.out) ?_; (try simp only [Act.put, qA, qB, qC])))
   refine (refSome_any _ (.node 4 s l) (Nat.le_refl _) HTM.out cs w3 ((V.out.stay B3.out).mono B3.out.size)).mono ?_
   rintro e w4 ⟨rfl, hb4⟩
   rw [← HSM.out]
   have HNE := qH (show w.heap.size ≠ w2.heap.size from Nat.ne_of_lt K2.out.lt)
   have HNE2 := qH (show w1.heap.size ≠ w2.heap.size from Nat.ne_of_lt L2.out.lt)
   have HLE := qH (show w.heap.size ≤ w2.heap.size from Nat.le_of_lt K2.out.lt)
   have G4 := qH (below_grownG w2.heap.size hb4)
   have M4 := qH (M3.out.below hb4 M3.out.lt)
   have L4 := qH (L3.out.below hb4 L3.out.lt)
   have B4 := qH (B3.out.trans (hb4.mono B3.out.size))
   clear hb4
   cases q with
   | false =>
    have HR := qH (show r = zs by rw [HR0.out]; simp)
    go_wp2_with (first
     | ((with_reducible refine atDst 46 ?_); refine wpList_ldArr rfl 26 _ rfl w2.heap.size rfl 26 _ _ M4.out Tryz.underlying26 rfl (size_set _) ?_; (try simp only [Act.put, qA, qB, qC]))
     | ((with_reducible refine atStore 26 2 46 ?_); refine wpList_stBlk rfl 26 _ _ rfl w1.heap.size (wds zs) rfl rfl 26 _ L4.out (size_set _) rfl (wds_all _) B4.out B1.out.size ?_; intro w11 hk11 hb11 hs11 _; have L11 := qH hk11; have B11 := qH hb11; clear hk11 hb11 hs11; (try simp only [Act.put, qA, qB, qC])))
    refine bodyPost_ret (results_blk rfl _ _ w1.heap.size 26 _ _ rfl L11.out Tryz.underlying26 rfl (size_set _)) rfl ?_
    exact ⟨by rw [HR.out], B11.out⟩
   | true =>
    have HR := qH (show r = firstC l by rw [HR0.out]; simp)
    clear HR0
    go_wp2_with fail
    go_loopw [5] (fun i wl => ∃ j : Nat, j ≤ l.length ∧ i = .int .i64 (j : Int) ∧ (l.take j).all nullT = true ∧ Blk wl w2.heap.size 26 (wds (fstJ l j)) ∧ w3.grownBy wl (some w2.heap.size)) (fun i _ => l.length - (intOf i).toNat)
    case atStart => exact ⟨0, by omega, by simp, by simp, by rw [fstJ_zero, ← HZS.out]; exact M4.out, G4.out⟩
    case round =>
     obtain ⟨j, hj, rfl, hf, hk, hg⟩ := hrel
     have HF := qH hf
     have HK := qH hk
     have HG := qH hg
     have KR := qH (grown_blk hg (fun e => absurd (Option.some.inj e) HNE.out) K3.out)
     have LR := qH (grown_blk hg (fun e => absurd (Option.some.inj e) HNE2.out) L3.out)
     have BR := qH (B3.out.trans ((grown_belowG hg M3.out.lt).mono HLE.out))
     have hc5 := KR.out.cell 5
     rw [HC5.out] at hc5
     have hc0 := KR.out.cell 0
     rw [HC0.out] at hc0
     clear hf hk hg
     by_cases hjl : j < l.length
     ·have j1 : (j : Int) < (l.length : Int) := Int.ofNat_lt.2 hjl
      obtain ⟨b, off, rfl, hb, hrng⟩ := H3.out (by rintro rfl; simp at hjl)
      obtain ⟨u, hu⟩ : ∃ u, l[j]? = some u := ⟨_, List.getElem?_eq_getElem hjl⟩
      have HV := qH (RxV.part H4.out BR.out BR.out.size hu)
      have HV6 := qH HV.out.length
      have HRG := qH (range_below (hrng j hjl) BR.out hb)
      have HBB := qH (show b < wr.heap.size from Nat.lt_of_lt_of_le hb BR.out.size)
      have HBN := qH (show some b ≠ some w2.heap.size from fun e => by have h1 := Option.some.inj e; have h2 := HLE.out; omega)
      have HU := qH hu
      have HUN := qH (show u.nodes ≤ N by have h1 := nodes_mem (List.mem_of_getElem? hu); have := HN.out; omega)
      have HUM := qH (show u.nodes ≤ 1099511627776 by have h1 := nodes_mem (List.mem_of_getElem? hu); have := HM.out; omega)
      have HJ1 := qH hjl
      have HKR := qH (show w.heap.size < wr.heap.size from KR.out.lt)
      have HKS := qH (show w2.heap.size < wr.heap.size from HK.out.lt)
      have e3 := wrap_len hjl HCL.out HCM.out
      have e4 := wrap_len' hjl HCL.out HCM.out
      have HNX := qH (fstJ_next hu)
      obtain ⟨acc, hacc⟩ : ∃ acc, acc = fstJ l j := ⟨_, rfl⟩
      rw [← hacc] at HK HNX
      have HACC := qH hacc
      clear hrng hu hb hj hjl hacc
      go_wp2_with fail
      refine sg_start (S := fun W => wr.grownBy W (some w2.heap.size)) (by kernel_rfl) (grown_start wr _) (fun wd hwd => ?_)
      have hX : wr.grownBy wd (some w2.heap.size) := by rw [hwd]; exact grown_start wr _
      have HKD := qH (show Blk wd w2.heap.size 26 (wds acc) by rw [hwd]; exact HK.out)
      have HBD := qH (show Below wr.heap.size wr wd by rw [hwd]; exact (Below.refl wr.heap.size wr).drew)
      clear hwd
      refine sg_take (i := 1) (oi := ⟨some 55, _, _, _, _, _⟩) (v := ?_) rfl (by kernel_rfl) (by kernel_rfl) (by kernel_rfl) (fun _ _ _ h => h) rfl hX ?_ ?_; rotate_left; (intro W hW; go_simp; try with_reducible rfl); simp only [Act.put, qA, qB, qC]
      refine sg_take (i := 2) (oi := ⟨some 56, _, _, _, _, _⟩) (v := .slice (some ⟨b, off, none⟩) l.length cap) rfl (by kernel_rfl) (by kernel_rfl) (by kernel_rfl) (fun _ _ _ h => h) rfl hX (fun W hW => ld_rxs (.tmp 55) rfl rfl (grown_cell hW HKR.out (fun e => absurd (Option.some.inj e) HNE.out) hc5)) ?_; simp only [Act.put, qA, qB, qC]
      refine sg_take (i := 3) (oi := ⟨some 57, _, _, _, _, _⟩) (v := ?_) rfl (by kernel_rfl) (by kernel_rfl) (by kernel_rfl) (fun _ _ _ h => h) rfl hX ?_ ?_; rotate_left; (intro W hW; go_simp; try with_reducible rfl); simp only [Act.put, qA, qB, qC]
      refine sg_take (i := 4) (oi := ⟨some 58, _, _, _, _, _⟩) (v := ?_) rfl (by kernel_rfl) (by kernel_rfl) (by kernel_rfl) (fun _ _ _ h => h) rfl hX ?_ ?_; rotate_left; (intro W hW; go_simp; try with_reducible rfl); simp only [Act.put, qA, qB, qC]
      refine sg_take (i := 5) (oi := ⟨some 59, _, _, _, _, _⟩) (v := .agg (f j).toArray) rfl (by kernel_rfl) (by kernel_rfl) (by kernel_rfl) (fun _ _ _ h => h) rfl hX (fun W hW => ld_keep 29 _ rfl b (off + j * 6) rfl _ _ HRG.out (hW.block b HBB.out HBN.out) Tryz.underlying29 rfl (size_rx HV6.out)) ?_; simp only [Act.put, qA, qB, qC]
      refine sg_two (i := 0) (j := 6) (oi := ⟨some 54, _, _, _, _, _⟩) (oj := ⟨some 60, _, _, _, _, _⟩) rfl rfl (by kernel_rfl) rfl rfl hX (fun K hK => ?_) (fun K hK => ?_)
      ·refine wp_load_row 26 _ rfl w2.heap.size rfl 26 (wds acc).toArray (0, 0) _ HKD.out Tryz.underlying26 rfl (by simpa using size_set acc) ?_
       refine hK _ _ hX ?_
       clear hK K
       (try simp only [Act.put, qA, qB, qC])
       refine sg_actB (i := 6) (o := ⟨some 60, _, _, _, _, _⟩) rfl (by kernel_rfl) rfl hX (fun K hK => ?_)
       go_wp2_with fail
       refine (IH.out u HUN.out HUM.out (f j) wd (RxV.mono (HV.out.stay HBD.out) HBD.out.size)).mono ?_
       rintro e w7 ⟨rfl, hb7⟩
       go_wp2_with fail
       refine hK _ _ (grown_then hX hb7) ?_
       clear hK K
       (try simp only [Act.put, qA, qB, qC])
       replace hX := grown_then hX hb7
       have HK7 := qH (HKD.out.below hb7 HKD.out.lt)
       have B7 := qH (HBD.out.trans (hb7.mono HBD.out.size))
       clear hb7
       refine sg_actB (i := 7) (o := ⟨some 61, _, _, _, _, _⟩) rfl (by kernel_rfl) rfl hX (fun K hK => ?_)
       go_wp2_with fail
       refine (refOr_any acc (firstT u) w7).mono ?_
       rintro e w8 ⟨rfl, hb8⟩
       go_wp2_with fail
       refine hK _ _ (grown_then hX hb8) ?_
       clear hK K
       (try simp only [Act.put, qA, qB, qC])
       replace hX := grown_then hX hb8
       have HK8 := qH (HK7.out.below hb8 HK7.out.lt)
       have B8 := qH (B7.out.trans (hb8.mono B7.out.size))
       clear hb8
       refine sg_actB (i := 8) (o := ⟨none, _, _, _, _, _⟩) rfl (by kernel_rfl) rfl hX (fun K hK => ?_)
       refine wp_stBlk 26 _ _ rfl w2.heap.size (wds fun b => acc b || firstT u b) rfl rfl 26 _ HK8.out (size_set _) rfl (wds_all _) (Below.refl w2.heap.size w8) (Nat.le_refl _) ?_
       intro w9 hk9 hb9 hs9 ho9 _
       have hX9 := grown_at hX ((grown_belowG hX HKS.out)) (((grown_belowG hX HKS.out)).trans hb9) (by rw [hs9]; exact Nat.le_refl _) ho9
       refine hK _ _ hX9 ?_
       clear hK K
       refine wpAnyH_done (by kernel_rfl) ?_ _
       have M9 := qH hk9
       have G9 := qH (grownG_trans HG.out hX9)
       have G0 := qH hX9
       clear hX hX9 hk9 hb9 hs9 ho9
       have KZ := qH (grown_blk G0.out (fun e => absurd (Option.some.inj e) HNE.out) KR.out)
       have LZ := qH (grown_blk G0.out (fun e => absurd (Option.some.inj e) HNE2.out) LR.out)
       have BZ := qH (B3.out.trans ((grown_belowG G9.out M3.out.lt).mono HLE.out))
       have HVZ := qH (RxV.part H4.out BZ.out BZ.out.size HU.out)
       have HRZ := qH (grown_range G0.out HBB.out HBN.out HRG.out)
       have z5 := KZ.out.cell 5
       rw [HC5.out] at z5
       go_wp2_with ((with_reducible refine atDst 66 ?_); refine wpList_load_mid rfl 29 _ rfl b (off + j * 6) rfl (f j) _ HRZ.out Tryz.underlying29 rfl (size_rx HV6.out) ?_; (try simp only [Act.put, qA, qB, qC]))
       refine (refNull_any _ u (Nat.le_refl _) HUM.out (f j) w9 HVZ.out).mono ?_
       rintro e w10 ⟨rfl, hb10⟩
       have B10 := qH (BZ.out.trans (hb10.mono BZ.out.size))
       have M10 := qH (M9.out.below hb10 M9.out.lt)
       have L10 := qH (LZ.out.below hb10 LZ.out.lt)
       have G10 := qH (grown_then G9.out hb10)
       clear hb10
       obtain ⟨p, hp⟩ : ∃ p, p = nullT u := ⟨_, rfl⟩
       rw [← hp]
       cases p with
       | true =>
        have HP := qH hp
        clear hp
        go_wp2_with fail
        exact ⟨⟨j + 1, HJ1.out, by congr 1, all_next HU.out HF.out HP.out.symm, by rw [HNX.out]; exact M10.out, G10.out⟩, by have := HJ1.out; simp [intOf] <;> omega⟩
       | false =>
        have HP := qH hp
        have HRE := qH (show r = fun b => acc b || firstT u b by rw [HR.out, firstC_stop HU.out HF.out hp.symm, HNX.out])
        clear hp
        go_wp2_with (first
         | ((with_reducible refine atDst 69 ?_); refine wpList_ldArr rfl 26 _ rfl w2.heap.size rfl 26 _ _ M10.out Tryz.underlying26 rfl (size_set _) ?_; (try simp only [Act.put, qA, qB, qC]))
         | ((with_reducible refine atStore 26 2 69 ?_); refine wpList_stBlk rfl 26 _ _ rfl w1.heap.size (wds fun b => acc b || firstT u b) rfl rfl 26 _ L10.out (size_set _) rfl (wds_all _) B10.out B1.out.size ?_; intro w11 hk11 hb11 hs11 _; have L11 := qH hk11; have B11 := qH hb11; clear hk11 hb11 hs11; (try simp only [Act.put, qA, qB, qC])))
        refine bodyPost_ret (results_blk rfl _ _ w1.heap.size 26 _ _ rfl L11.out Tryz.underlying26 rfl (size_set _)) rfl ?_
        exact ⟨by rw [HRE.out], B11.out⟩
      ·go_wp2_with fail
       refine (IH.out u HUN.out HUM.out (f j) wd (RxV.mono (HV.out.stay HBD.out) HBD.out.size)).mono ?_
       rintro e w7 ⟨rfl, hb7⟩
       go_wp2_with fail
       refine hK _ _ (grown_then hX hb7) ?_
       clear hK K
       (try simp only [Act.put, qA, qB, qC])
       replace hX := grown_then hX hb7
       have HK7 := qH (HKD.out.below hb7 HKD.out.lt)
       have B7 := qH (HBD.out.trans (hb7.mono HBD.out.size))
       clear hb7
       refine sg_actB (i := 0) (o := ⟨some 54, _, _, _, _, _⟩) rfl (by kernel_rfl) rfl hX (fun K hK => ?_)
       refine wp_load_row 26 _ rfl w2.heap.size rfl 26 (wds acc).toArray (0, 0) _ HK7.out Tryz.underlying26 rfl (by simpa using size_set acc) ?_
       refine hK _ _ hX ?_
       clear hK K
       (try simp only [Act.put, qA, qB, qC])
       refine sg_actB (i := 7) (o := ⟨some 61, _, _, _, _, _⟩) rfl (by kernel_rfl) rfl hX (fun K hK => ?_)
       go_wp2_with fail
       refine (refOr_any acc (firstT u) w7).mono ?_
       rintro e w8 ⟨rfl, hb8⟩
       go_wp2_with fail
       refine hK _ _ (grown_then hX hb8) ?_
       clear hK K
       (try simp only [Act.put, qA, qB, qC])
       replace hX := grown_then hX hb8
       have HK8 := qH (HK7.out.below hb8 HK7.out.lt)
       have B8 := qH (B7.out.trans (hb8.mono B7.out.size))
       clear hb8
       refine sg_actB (i := 8) (o := ⟨none, _, _, _, _, _⟩) rfl (by kernel_rfl) rfl hX (fun K hK => ?_)
       refine wp_stBlk 26 _ _ rfl w2.heap.size (wds fun b => acc b || firstT u b) rfl rfl 26 _ HK8.out (size_set _) rfl (wds_all _) (Below.refl w2.heap.size w8) (Nat.le_refl _) ?_
       intro w9 hk9 hb9 hs9 ho9 _
       have hX9 := grown_at hX ((grown_belowG hX HKS.out)) (((grown_belowG hX HKS.out)).trans hb9) (by rw [hs9]; exact Nat.le_refl _) ho9
       refine hK _ _ hX9 ?_
       clear hK K
       refine wpAnyH_done (by kernel_rfl) ?_ _
       have M9 := qH hk9
       have G9 := qH (grownG_trans HG.out hX9)
       have G0 := qH hX9
       clear hX hX9 hk9 hb9 hs9 ho9
       have KZ := qH (grown_blk G0.out (fun e => absurd (Option.some.inj e) HNE.out) KR.out)
       have LZ := qH (grown_blk G0.out (fun e => absurd (Option.some.inj e) HNE2.out) LR.out)
       have BZ := qH (B3.out.trans ((grown_belowG G9.out M3.out.lt).mono HLE.out))
       have HVZ := qH (RxV.part H4.out BZ.out BZ.out.size HU.out)
       have HRZ := qH (grown_range G0.out HBB.out HBN.out HRG.out)
       have z5 := KZ.out.cell 5
       rw [HC5.out] at z5
       go_wp2_with ((with_reducible refine atDst 66 ?_); refine wpList_load_mid rfl 29 _ rfl b (off + j * 6) rfl (f j) _ HRZ.out Tryz.underlying29 rfl (size_rx HV6.out) ?_; (try simp only [Act.put, qA, qB, qC]))
       refine (refNull_any _ u (Nat.le_refl _) HUM.out (f j) w9 HVZ.out).mono ?_
       rintro e w10 ⟨rfl, hb10⟩
       have B10 := qH (BZ.out.trans (hb10.mono BZ.out.size))
       have M10 := qH (M9.out.below hb10 M9.out.lt)
       have L10 := qH (LZ.out.below hb10 LZ.out.lt)
       have G10 := qH (grown_then G9.out hb10)
       clear hb10
       obtain ⟨p, hp⟩ : ∃ p, p = nullT u := ⟨_, rfl⟩
       rw [← hp]
       cases p with
       | true =>
        have HP := qH hp
        clear hp
        go_wp2_with fail
        exact ⟨⟨j + 1, HJ1.out, by congr 1, all_next HU.out HF.out HP.out.symm, by rw [HNX.out]; exact M10.out, G10.out⟩, by have := HJ1.out; simp [intOf] <;> omega⟩
       | false =>
        have HP := qH hp
        have HRE := qH (show r = fun b => acc b || firstT u b by rw [HR.out, firstC_stop HU.out HF.out hp.symm, HNX.out])
        clear hp
        go_wp2_with (first
         | ((with_reducible refine atDst 69 ?_); refine wpList_ldArr rfl 26 _ rfl w2.heap.size rfl 26 _ _ M10.out Tryz.underlying26 rfl (size_set _) ?_; (try simp only [Act.put, qA, qB, qC]))
         | ((with_reducible refine atStore 26 2 69 ?_); refine wpList_stBlk rfl 26 _ _ rfl w1.heap.size (wds fun b => acc b || firstT u b) rfl rfl 26 _ L10.out (size_set _) rfl (wds_all _) B10.out B1.out.size ?_; intro w11 hk11 hb11 hs11 _; have L11 := qH hk11; have B11 := qH hb11; clear hk11 hb11 hs11; (try simp only [Act.put, qA, qB, qC])))
        refine bodyPost_ret (results_blk rfl _ _ w1.heap.size 26 _ _ rfl L11.out Tryz.underlying26 rfl (size_set _)) rfl ?_
        exact ⟨by rw [HRE.out], B11.out⟩
     ·obtain rfl : j = l.length := by omega
      have j1 : ¬ ((l.length : Int) < (l.length : Int)) := by omega
      have HRE := qH (show r = fstJ l l.length by rw [HR.out, firstC_end (by have := HF.out; rwa [List.take_length] at this)])
      go_wp2_with (first
       | ((with_reducible refine atDst 70 ?_); refine wpList_ldArr rfl 26 _ rfl w2.heap.size rfl 26 _ _ HK.out Tryz.underlying26 rfl (size_set _) ?_; (try simp only [Act.put, qA, qB, qC]))
       | ((with_reducible refine atStore 26 2 70 ?_); refine wpList_stBlk rfl 26 _ _ rfl w1.heap.size (wds (fstJ l l.length)) rfl rfl 26 _ LR.out (size_set _) rfl (wds_all _) BR.out B1.out.size ?_; intro w11 hk11 hb11 hs11 _; have L11 := qH hk11; have B11 := qH hb11; clear hk11 hb11 hs11; (try simp only [Act.put, qA, qB, qC])))
      refine bodyPost_ret (results_blk rfl _ _ w1.heap.size 26 _ _ rfl L11.out Tryz.underlying26 rfl (size_set _)) rfl ?_
      exact ⟨by rw [HRE.out], B11.out⟩
  have z4 : (k == 4) = false := by simpa using k4
  have HR := qH (show r = zs by rw [HQ.out, if_neg k3, if_neg (by omega), if_neg k4, HZS.out])
  clear HQ k3 k4 k5 k6
  go_enter Tryz.func15, Tryz.ntmps15
  go_wp2_with (first
   | ((with_reducible refine atDst 1 ?_); refine wpList_box rfl 29 _ rfl cs rfl (Below.refl w.heap.size w) (Nat.le_refl _) ?_; intro w1 hk1 hb1 hs1 _; have K1 := qH hk1; have B1 := qH hb1; have c0 := hk1.cell 0; rw [HC0.out] at c0; clear hk1 hb1 hs1; (try simp only [Act.put, qA, qB, qC]))
   | ((with_reducible refine atDst 2 ?_); refine wpList_new rfl 26 rfl i0 _ (wds zs) hi0 hz0 rfl B1.out B1.out.size ?_; intro w2 hk2 hb2 hs2 ho2; have L2 := qH hk2; have B2 := qH hb2; have K2 := qH (show Blk w2 w.heap.size 29 cs from (ho2 _ K1.out.lt).trans K1.out); clear hk2 hb2 hs2 ho2; (try simp only [Act.put, qA, qB, qC]))
   | ((with_reducible refine atDst 3 ?_); refine wpList_new rfl 26 rfl i0 _ (wds zs) hi0 hz0 rfl B2.out B2.out.size ?_; intro w3 hk3 hb3 hs3 ho3; have M3 := qH hk3; have B3 := qH hb3; have K3 := qH (show Blk w3 w.heap.size 29 cs from (ho3 _ K2.out.lt).trans K2.out); have L3 := qH (show Blk w3 w1.heap.size 26 (wds zs) from (ho3 _ L2.out.lt).trans L2.out); have c0 := K3.out.cell 0; rw [HC0.out] at c0; have c5 := K3.out.cell 5; rw [HC5.out] at c5; have RS := qH (set_range' HCS.out K3.out); clear hk3 hb3 hs3 ho3; (try simp only [Act.put, qA, qB, qC]))
   | ((with_reducible refine atDst 70 ?_); refine wpList_ldArr rfl 26 _ rfl w2.heap.size rfl 26 _ _ M3.out Tryz.underlying26 rfl (size_set _) ?_; (try simp only [Act.put, qA, qB, qC]))
   | ((with_reducible refine atStore 26 2 70 ?_); refine wpList_stBlk rfl 26 _ _ rfl w1.heap.size (wds zs) rfl rfl 26 _ L3.out (size_set _) rfl (wds_all _) B3.out B1.out.size ?_; intro w11 hk11 hb11 hs11 _; have L11 := qH hk11; have B11 := qH hb11; clear hk11 hb11 hs11; (try simp only [Act.put, qA, qB, qC])))
  refine bodyPost_ret (results_blk rfl _ _ w1.heap.size 26 _ _ rfl L11.out Tryz.underlying26 rfl (size_set _)) rfl ?_
  exact ⟨by rw [HR.out], B11.out⟩
end Go.Proofs.YtopnpdobcagcgaaGreat
