/-
  Texts of this proof, put together: LxD. No statement is proved here.
-/
import Derived.Test.YtopnpdobcagcgaaGreatMBF
import Derived.Test.YtopnpdobcagcgaaGreatMBI
import Derived.Test.YtopnpdobcagcgaaGreatMBM
import Derived.Test.YtopnpdobcagcgaaGreatMBO
import Derived.Test.YtopnpdobcagcgaaGreatMBG
namespace Go.Proofs.YtopnpdobcagcgaaGreat
open Go.RowKit
set_option linter.unusedSimpArgs false
set_option linter.unusedVariables false
set_option maxHeartbeats 8000000 in
set_option maxRecDepth 1000000 in
theorem langMade_walk (V V2 : Value) (ps qs : List UInt8) (b : UInt8) (w : World) (hr : Row w V (bvs ps)) (hr2 : Row w V2 (bvs qs)) :
  Calls Tryz.prog 3 #[V, V2, bv b] w fun e w' => e = .returned (.bool true) ∧ Below w.heap.size w w' := by
 have R := qH hr
 have R2 := qH hr2
 obtain ⟨A, cap, rfl, _⟩ := hr
 obtain ⟨A2, cap2, rfl, _⟩ := hr2
 have hbl : (bvs ps).length = ps.length := bvs_length ps
 have hbl2 : (bvs qs).length = qs.length := bvs_length qs
 rw [hbl] at R ⊢
 rw [hbl2] at R2 ⊢
 clear hbl hbl2
 obtain ⟨v, hv⟩ : ∃ v, v = bv b := ⟨_, rfl⟩
 have HV := qH hv
 rw [← hv]
 clear hv
 by_cases h60 : 60 < ps.length
 ·have i1 : (60 : Int) < (ps.length : Int) := by omega
  have d1 : decide ((60 : Int) < (ps.length : Int)) = true := decide_eq_true i1
  clear h60
  go_enter Tryz.func3, Tryz.ntmps3
  go_wp2_with fail
  refine (begun_any w).mono ?_
  rintro e w1 ⟨rfl, hb⟩
  have B1 := qH hb
  clear hb
  go_wp2_with fail
  go_ret
  exact ⟨rfl, B1.out⟩
 have i1 : ¬ ((60 : Int) < (ps.length : Int)) := by omega
 have d1 : decide ((60 : Int) < (ps.length : Int)) = false := decide_eq_false i1
 by_cases h30 : 30 < qs.length
 ·have i2 : (30 : Int) < (qs.length : Int) := by omega
  have d2 : decide ((30 : Int) < (qs.length : Int)) = true := decide_eq_true i2
  clear h60 h30
  go_enter Tryz.func3, Tryz.ntmps3
  go_wp2_with fail
  refine (begun_any w).mono ?_
  rintro e w1 ⟨rfl, hb⟩
  have B1 := qH hb
  clear hb
  go_wp2_with fail
  go_ret
  exact ⟨rfl, B1.out⟩
 have i2 : ¬ ((30 : Int) < (qs.length : Int)) := by omega
 have d2 : decide ((30 : Int) < (qs.length : Int)) = false := decide_eq_false i2
 have HL := qH (show ps.length ≤ 60 by omega)
 have HL2 := qH (show qs.length ≤ 30 by omega)
 obtain ⟨t, ht⟩ : ∃ t, t = madeT ps := ⟨_, rfl⟩
 have HT := qH ht
 have HG := qH (show good t by rw [ht]; exact madeT_good ps)
 have HM0 := qH (show t.nodes ≤ 400 by rw [ht]; have := madeT_few ps; omega)
 have HM2 := qH (Nat.le_trans HM0.out (show 400 ≤ 2000 by decide))
 have HM3 := qH (Nat.le_trans HM0.out (show 400 ≤ 274877906944 by decide))
 have HM4 := qH (Nat.le_trans HM0.out (show 400 ≤ 1099511627776 by decide))
 obtain ⟨mv, hmv⟩ : ∃ mv, mv = mayV t := ⟨_, rfl⟩
 have HMV := qH hmv
 obtain ⟨i0, hi0, hz0, hz1, hz2⟩ := inf_rx'
 obtain ⟨z, hz⟩ : ∃ z, z = rxc 0 zeroS (.slice none 0 0) := ⟨_, rfl⟩
 have HZL := qH (show z.length = 6 by rw [hz]; rfl)
 have HZ0 := qH (show i0.zero = some (.agg z.toArray) by rw [hz]; exact hz0)
 obtain ⟨u, hu⟩ : ∃ u, u = stepT t b.toNat := ⟨_, rfl⟩
 have HU := qH hu
 have HUN := qH (show u.nodes ≤ 1099511627776 by rw [hu]; exact Nat.le_trans (step_few HG.out b HM2.out) (by decide))
 clear hz hz0 h60 h30 ht hmv hu
 by_cases hmz : mv = 0
 ·have r1 : (mv == 0) = true := by simpa using hmz
  have r2 : (mv != 0) = false := by simpa using hmz
  subst hmz
  go_enter Tryz.func3, Tryz.ntmps3
  go_wp2_with fail
  refine (begun_any w).mono ?_
  rintro e w1 ⟨rfl, hb⟩
  have B1 := qH hb
  clear hb
  go_wp2_with fail
  refine (made_any _ ps w1 (R.out.below B1.out) (by have := HL.out; omega)).mono ?_
  rintro e w2 ⟨rfl, hb, hp⟩
  have P2 := qH hp
  have B2 := qH (B1.out.trans (hb.mono B1.out.size))
  have S1w := qH B1.out.size
  clear hb hp
  go_wp2_with fail
  refine (pickRx_any w1.heap.size _ ps w2 P2.out).mono ?_
  rintro e w3 ⟨cs, rfl, hcs, hg⟩
  have B3 := qH (B2.out.trans ((grown_belowG hg P2.out.blk.lt).mono S1w.out))
  rw [← HT.out] at hcs
  have V3 := qH (show RxV w3.heap.size w3 cs t from RxD.mono hcs fun k hk => hk.2)
  have C6 := qH hcs.length
  have C1 := qH (show cs.all (·.oneCell') = true from List.all_eq_true.2 (RxD.one hcs))
  clear hcs hg
  go_wp2_with fail
  refine (made_any _ qs w3 (R2.out.below B3.out) (by have := HL2.out; omega)).mono ?_
  rintro e w4 ⟨rfl, hb, hp⟩
  have P4 := qH hp
  have B4 := qH hb
  clear hb hp
  go_wp2_with fail
  refine (pickWord_any w3.heap.size _ qs 0 12 (by decide) w4 P4.out).mono ?_
  rintro e w5 ⟨v6, W, rfl, hr6, hw6, hg⟩
  have G5 := qH (B4.out.trans (grown_belowG hg P4.out.blk.lt))
  have B5 := qH (B3.out.trans (G5.out.mono B3.out.size))
  have V5 := qH (RxV.mono (V3.out.stay G5.out) G5.out.size)
  have R5 := qH hr6
  have HW := qH (show W.length ≤ 200 by omega)
  clear hr6 hw6 hg P4 B4 G5 V3
  go_wp2_with (first
   | ((with_reducible refine atDst 7 ?_); refine wpList_new rfl 29 rfl i0 _ z hi0 HZ0.out rfl (Below.refl w5.heap.size w5) (Nat.le_refl _) ?_; intro w6 hk hb hs ho; have L6 := qH hk; have B6 := qH hb; clear hk hb hs ho; (try simp only [Act.put, qA, qB, qC]))
   | ((with_reducible refine atStore 29 7 22 ?_); refine wpList_stBlk rfl 29 _ _ rfl w5.heap.size cs rfl rfl 29 _ L6.out (size_rx C6.out) (by rw [HZL.out, C6.out]) C1.out B6.out (Nat.le_refl _) ?_; intro w7 hk hb hs ho; have L7 := qH hk; have B57 := qH hb; have B7 := qH (B5.out.trans (hb.mono B5.out.size)); clear hk hb hs ho; (try simp only [Act.put, qA, qB, qC]))
   | ((with_reducible refine atDst 26 ?_); refine wpList_ldArr rfl 29 _ rfl w5.heap.size rfl 29 _ _ L7.out Tryz.underlying29 rfl (size_rx C6.out) ?_; (try simp only [Act.put, qA, qB, qC])))
  have V7 := qH ((V5.out.stay B57.out).mono B57.out.size)
  have R7 := qH (R5.out.below B57.out)
  refine (refMay_any t HG.out HM3.out cs w7 V7.out).mono ?_
  rintro e w8 ⟨rfl, hb⟩
  rw [← HMV.out]
  have B8 := qH (B7.out.trans (hb.mono B7.out.size))
  have L8 := qH (L7.out.below hb L7.out.lt)
  have V8 := qH ((V7.out.stay hb).mono hb.size)
  have R8 := qH (R7.out.below hb)
  clear hb
  go_wp2_with ((with_reducible refine atDst 29 ?_); refine wpList_ldArr rfl 29 _ rfl w5.heap.size rfl 29 _ _ L8.out Tryz.underlying29 rfl (size_rx C6.out) ?_; (try simp only [Act.put, qA, qB, qC]))
  refine (refCopy_any _ t (Nat.le_refl _) HM4.out cs w8 V8.out).mono ?_
  rintro e w9 ⟨es, rfl, hes, hb⟩
  have B9 := qH (B8.out.trans (hb.mono B8.out.size))
  have L9 := qH (L8.out.below hb L8.out.lt)
  have V9 := qH ((V8.out.stay hb).mono hb.size)
  have R9 := qH (R8.out.below hb)
  have E9 := qH (show RxV w9.heap.size w9 es t from RxD.mono hes fun k hk => hk.2)
  have E6 := qH hes.length
  have E1 := qH (show es.all (·.oneCell') = true from List.all_eq_true.2 (RxD.one hes))
  clear hb hes
  go_wp2_with (first
   | ((with_reducible refine atDst 9 ?_); refine wpList_new rfl 29 rfl i0 _ z hi0 HZ0.out rfl (Below.refl w9.heap.size w9) (Nat.le_refl _) ?_; intro wa hk hb hs ho; have Ka := qH hk; have Ba := qH hb; clear hk hb hs ho; (try simp only [Act.put, qA, qB, qC]))
   | ((with_reducible refine atStore 29 9 30 ?_); refine wpList_stBlk rfl 29 _ _ rfl w9.heap.size es rfl rfl 29 _ Ka.out (size_rx E6.out) (by rw [HZL.out, E6.out]) E1.out Ba.out (Nat.le_refl _) ?_; intro wb hk hb hs ho; have KB := qH hk; have BB9 := qH hb; clear hk hb hs ho; (try simp only [Act.put, qA, qB, qC])))
  have BB := qH (B9.out.trans (BB9.out.mono B9.out.size))
  have LB := qH (L9.out.below BB9.out L9.out.lt)
  have VB := qH ((V9.out.stay BB9.out).mono BB9.out.size)
  have EB := qH ((E9.out.stay BB9.out).mono BB9.out.size)
  have RB := qH (R9.out.below BB9.out)
  obtain ⟨x, hx⟩ : ∃ x, x = lgB t W := ⟨_, rfl⟩
  obtain ⟨q, hq⟩ : ∃ x, x = firstT t := ⟨_, rfl⟩
  have HX := qH hx
  have HQ := qH hq
  clear hx hq
  have hx2 : (x == x) = true := by simp
  refine sg_start (S := fun V => wb.grownBy V none) (by kernel_rfl) (grown_start _ _) (fun wd hwd => ?_)
  have hX : wb.grownBy wd none := by rw [hwd]; exact grown_start _ _
  have hwb : Below wb.heap.size wb wd := by rw [hwd]; exact (Below.refl _ _).drew
  clear hwd
  have HRC := qH (show wb.rangeAt w5.heap.size 0 cs from fun i v hv => (LB.out.cell (0 + i)).trans (by rw [Nat.zero_add]; exact hv))
  have HRE := qH (show wb.rangeAt w9.heap.size 0 es from fun i v hv => (KB.out.cell (0 + i)).trans (by rw [Nat.zero_add]; exact hv))
  refine sg_take (i := 0) (oi := ⟨some 31, _, _, _, _, _⟩) (v := .agg cs.toArray) rfl (by kernel_rfl) (by kernel_rfl) (by kernel_rfl) (fun _ _ _ h => h) rfl hX (fun W hW => ld_keep 29 _ rfl w5.heap.size 0 rfl _ _ HRC.out (hW.block _ LB.out.lt (by simp)) Tryz.underlying29 rfl (size_rx C6.out)) ?_; simp only [Act.put, qA, qB, qC]
  refine sg_take (i := 1) (oi := ⟨some 32, _, _, _, _, _⟩) (v := ?_) rfl (by kernel_rfl) (by kernel_rfl) (by kernel_rfl) (fun _ _ _ h => h) rfl hX ?_ ?_; rotate_left; (intro W hW; go_simp; try with_reducible rfl); simp only [Act.put, qA, qB, qC]
  refine sg_take (i := 3) (oi := ⟨some 34, _, _, _, _, _⟩) (v := .agg cs.toArray) rfl (by kernel_rfl) (by kernel_rfl) (by kernel_rfl) (fun _ _ _ h => h) rfl hX (fun W hW => ld_keep 29 _ rfl w5.heap.size 0 rfl _ _ HRC.out (hW.block _ LB.out.lt (by simp)) Tryz.underlying29 rfl (size_rx C6.out)) ?_; simp only [Act.put, qA, qB, qC]
  refine sg_take (i := 4) (oi := ⟨some 35, _, _, _, _, _⟩) (v := ?_) rfl (by kernel_rfl) (by kernel_rfl) (by kernel_rfl) (fun _ _ _ h => h) rfl hX ?_ ?_; rotate_left; (intro W hW; go_simp; try with_reducible rfl); simp only [Act.put, qA, qB, qC]
  refine sg_actB (i := 2) (o := ⟨some 33, _, _, _, _, _⟩) rfl (by kernel_rfl) rfl hX (fun K hK => ?_)
  go_wp2_with fail
  refine (lIn_any t HM2.out W HW.out _ cs wd (RB.out.below hwb) ((VB.out.stay hwb).mono hwb.size)).mono ?_
  rintro e wx ⟨rfl, hb⟩
  rw [← HX.out]
  go_wp2_with fail
  refine hK _ _ (grown_then hX hb) ?_
  clear hK K
  (try simp only [Act.put, qA, qB, qC])
  replace hX := grown_then hX hb
  replace hwb := hwb.trans (hb.mono hwb.size)
  clear hb
  refine sg_actB (i := 5) (o := ⟨some 36, _, _, _, _, _⟩) rfl (by kernel_rfl) rfl hX (fun K hK => ?_)
  go_wp2_with fail
  refine (refIn_any t HM4.out W HW.out _ cs wx (RB.out.below hwb) ((VB.out.stay hwb).mono hwb.size)).mono ?_
  rintro e wy ⟨rfl, hb⟩
  rw [← HX.out]
  go_wp2_with fail
  refine hK _ _ (grown_then hX hb) ?_
  clear hK K
  (try simp only [Act.put, qA, qB, qC])
  replace hX := grown_then hX hb
  replace hwb := hwb.trans (hb.mono hwb.size)
  clear hb
  refine sg_take (i := 6) (oi := ⟨some 37, _, _, _, _, _⟩) (v := ?_) rfl (by kernel_rfl) (by kernel_rfl) (by kernel_rfl) (fun _ _ _ h => h) rfl hX ?_ ?_; rotate_left; (intro W hW; go_simp; try with_reducible rfl); simp only [Act.put, qA, qB, qC]
  refine sg_take (i := 7) (oi := ⟨some 38, _, _, _, _, _⟩) (v := ?_) rfl (by kernel_rfl) (by kernel_rfl) (by kernel_rfl) (fun _ _ _ h => h) rfl hX ?_ ?_; rotate_left; (intro W hW; go_simp; try with_reducible rfl); simp only [Act.put, qA, qB, qC]
  refine sg_take (i := 8) (oi := ⟨some 39, _, _, _, _, _⟩) (v := .agg cs.toArray) rfl (by kernel_rfl) (by kernel_rfl) (by kernel_rfl) (fun _ _ _ h => h) rfl hX (fun W hW => ld_keep 29 _ rfl w5.heap.size 0 rfl _ _ HRC.out (hW.block _ LB.out.lt (by simp)) Tryz.underlying29 rfl (size_rx C6.out)) ?_; simp only [Act.put, qA, qB, qC]
  refine sg_take (i := 10) (oi := ⟨some 41, _, _, _, _, _⟩) (v := .agg cs.toArray) rfl (by kernel_rfl) (by kernel_rfl) (by kernel_rfl) (fun _ _ _ h => h) rfl hX (fun W hW => ld_keep 29 _ rfl w5.heap.size 0 rfl _ _ HRC.out (hW.block _ LB.out.lt (by simp)) Tryz.underlying29 rfl (size_rx C6.out)) ?_; simp only [Act.put, qA, qB, qC]
  refine sg_actB (i := 9) (o := ⟨some 40, _, _, _, _, _⟩) rfl (by kernel_rfl) rfl hX (fun K hK => ?_)
  go_wp2_with fail
  refine (lFirst_any t HM2.out cs wy ((VB.out.stay hwb).mono hwb.size)).mono ?_
  rintro e wz ⟨rfl, hb⟩
  rw [← HQ.out]
  go_wp2_with fail
  refine hK _ _ (grown_then hX hb) ?_
  clear hK K
  (try simp only [Act.put, qA, qB, qC])
  replace hX := grown_then hX hb
  replace hwb := hwb.trans (hb.mono hwb.size)
  clear hb
  refine sg_actB (i := 11) (o := ⟨some 42, _, _, _, _, _⟩) rfl (by kernel_rfl) rfl hX (fun K hK => ?_)
  go_wp2_with fail
  refine (refFirst_any _ t (Nat.le_refl _) HM4.out cs wz ((VB.out.stay hwb).mono hwb.size)).mono ?_
  rintro e we ⟨rfl, hb⟩
  rw [← HQ.out]
  go_wp2_with fail
  refine hK _ _ (grown_then hX hb) ?_
  clear hK K
  (try simp only [Act.put, qA, qB, qC])
  replace hX := grown_then hX hb
  replace hwb := hwb.trans (hb.mono hwb.size)
  clear hb
  refine sg_take (i := 12) (oi := ⟨some 43, _, _, _, _, _⟩) (v := .bool true) rfl (by kernel_rfl) (by kernel_rfl) (by kernel_rfl) (fun _ _ _ h => h) rfl hX (eq_is (eqS_self _) 26 24 (.tmp 40) (.tmp 42) 26 rfl guard_setB Tryz.underlying26 Tryz.underlying24 size_u64B rfl rfl) ?_; simp only [Act.put, qA, qB, qC]
  refine sg_take (i := 13) (oi := ⟨some 44, _, _, _, _, _⟩) (v := ?_) rfl (by kernel_rfl) (by kernel_rfl) (by kernel_rfl) (fun _ _ _ h => h) rfl hX ?_ ?_; rotate_left; (intro W hW; go_simp; try with_reducible rfl); simp only [Act.put, qA, qB, qC]
  refine sg_take (i := 14) (oi := ⟨some 45, _, _, _, _, _⟩) (v := ?_) rfl (by kernel_rfl) (by kernel_rfl) (by kernel_rfl) (fun _ _ _ h => h) rfl hX ?_ ?_; rotate_left; (intro W hW; go_simp; try with_reducible rfl); simp only [Act.put, qA, qB, qC]
  refine sg_take (i := 15) (oi := ⟨some 46, _, _, _, _, _⟩) (v := .agg cs.toArray) rfl (by kernel_rfl) (by kernel_rfl) (by kernel_rfl) (fun _ _ _ h => h) rfl hX (fun W hW => ld_keep 29 _ rfl w5.heap.size 0 rfl _ _ HRC.out (hW.block _ LB.out.lt (by simp)) Tryz.underlying29 rfl (size_rx C6.out)) ?_; simp only [Act.put, qA, qB, qC]
  refine sg_take (i := 16) (oi := ⟨some 47, _, _, _, _, _⟩) (v := ?_) rfl (by kernel_rfl) (by kernel_rfl) (by kernel_rfl) (fun _ _ _ h => h) rfl hX ?_ ?_; rotate_left; (intro W hW; go_simp; try with_reducible rfl); simp only [Act.put, qA, qB, qC]
  refine sg_take (i := 18) (oi := ⟨some 49, _, _, _, _, _⟩) (v := .agg es.toArray) rfl (by kernel_rfl) (by kernel_rfl) (by kernel_rfl) (fun _ _ _ h => h) rfl hX (fun W hW => ld_keep 29 _ rfl w9.heap.size 0 rfl _ _ HRE.out (hW.block _ KB.out.lt (by simp)) Tryz.underlying29 rfl (size_rx E6.out)) ?_; simp only [Act.put, qA, qB, qC]
  refine sg_take (i := 19) (oi := ⟨some 50, _, _, _, _, _⟩) (v := ?_) rfl (by kernel_rfl) (by kernel_rfl) (by kernel_rfl) (fun _ _ _ h => h) rfl hX ?_ ?_; rotate_left; (intro W hW; go_simp; try with_reducible rfl); simp only [Act.put, qA, qB, qC]
  refine sg_actB (i := 17) (o := ⟨some 48, _, _, _, _, _⟩) rfl (by kernel_rfl) rfl hX (fun K hK => ?_)
  go_wp2_with fail
  have hst := lStep_any t HM0.out HG.out b cs we ((VB.out.stay hwb).mono hwb.size)
  rw [← HV.out, ← HU.out] at hst
  refine hst.mono ?_
  clear hst
  rintro e wf ⟨ds, rfl, hds, hb⟩
  have D1 := qH (show RxV wf.heap.size wf ds u from RxD.mono hds fun k hk => hk.2)
  clear hds
  go_wp2_with fail
  refine hK _ _ (grown_then hX hb) ?_
  clear hK K
  (try simp only [Act.put, qA, qB, qC])
  replace hX := grown_then hX hb
  replace hwb := hwb.trans (hb.mono hwb.size)
  clear hb
  refine sg_actB (i := 20) (o := ⟨some 51, _, _, _, _, _⟩) rfl (by kernel_rfl) rfl hX (fun K hK => ?_)
  go_wp2_with fail
  have hst := refStep_any _ t (Nat.le_refl _) HM2.out HG.out b es wf ((EB.out.stay hwb).mono hwb.size)
  rw [← HV.out, ← HU.out] at hst
  refine hst.mono ?_
  clear hst
  rintro e wg ⟨fs, rfl, hfs, hb⟩
  have F1 := qH (show RxV wg.heap.size wg fs u from RxD.mono hfs fun k hk => hk.2)
  have D2 := qH ((D1.out.stay hb).mono hb.size)
  clear hfs
  go_wp2_with fail
  refine hK _ _ (grown_then hX hb) ?_
  clear hK K
  (try simp only [Act.put, qA, qB, qC])
  replace hX := grown_then hX hb
  replace hwb := hwb.trans (hb.mono hwb.size)
  clear hb
  refine sg_actB (i := 21) (o := ⟨some 52, _, _, _, _, _⟩) rfl (by kernel_rfl) rfl hX (fun K hK => ?_)
  go_wp2_with fail
  refine (refSame_any _ u u (Nat.le_refl _) HUN.out ds fs wg D2.out F1.out).mono ?_
  rintro e wh ⟨rfl, hb⟩
  rw [sameT_self]
  go_wp2_with fail
  refine hK _ _ (grown_then hX hb) ?_
  clear hK K
  (try simp only [Act.put, qA, qB, qC])
  replace hX := grown_then hX hb
  replace hwb := hwb.trans (hb.mono hwb.size)
  clear hb
  refine sg_take (i := 22) (oi := ⟨some 53, _, _, _, _, _⟩) (v := ?_) rfl (by kernel_rfl) (by kernel_rfl) (by kernel_rfl) (fun _ _ _ h => h) rfl hX ?_ ?_; rotate_left; (intro W hW; go_simp; try with_reducible rfl); simp only [Act.put, qA, qB, qC]
  refine sg_take (i := 23) (oi := ⟨some 54, _, _, _, _, _⟩) (v := ?_) rfl (by kernel_rfl) (by kernel_rfl) (by kernel_rfl) (fun _ _ _ h => h) rfl hX ?_ ?_; rotate_left; (intro W hW; go_simp; try with_reducible rfl); simp only [Act.put, qA, qB, qC]
  refine sg_take (i := 24) (oi := ⟨some 55, _, _, _, _, _⟩) (v := .agg cs.toArray) rfl (by kernel_rfl) (by kernel_rfl) (by kernel_rfl) (fun _ _ _ h => h) rfl hX (fun W hW => ld_keep 29 _ rfl w5.heap.size 0 rfl _ _ HRC.out (hW.block _ LB.out.lt (by simp)) Tryz.underlying29 rfl (size_rx C6.out)) ?_; simp only [Act.put, qA, qB, qC]
  refine sg_take (i := 25) (oi := ⟨some 56, _, _, _, _, _⟩) (v := .agg es.toArray) rfl (by kernel_rfl) (by kernel_rfl) (by kernel_rfl) (fun _ _ _ h => h) rfl hX (fun W hW => ld_keep 29 _ rfl w9.heap.size 0 rfl _ _ HRE.out (hW.block _ KB.out.lt (by simp)) Tryz.underlying29 rfl (size_rx E6.out)) ?_; simp only [Act.put, qA, qB, qC]
  refine sg_actB (i := 26) (o := ⟨some 57, _, _, _, _, _⟩) rfl (by kernel_rfl) rfl hX (fun K hK => ?_)
  go_wp2_with fail
  refine (refSame_any _ t t (Nat.le_refl _) HM4.out cs es wh ((VB.out.stay hwb).mono hwb.size) ((EB.out.stay hwb).mono hwb.size)).mono ?_
  rintro e wi ⟨rfl, hb⟩
  rw [sameT_self]
  go_wp2_with fail
  refine hK _ _ (grown_then hX hb) ?_
  clear hK K
  (try simp only [Act.put, qA, qB, qC])
  replace hX := grown_then hX hb
  replace hwb := hwb.trans (hb.mono hwb.size)
  clear hb
  refine sg_take (i := 27) (oi := ⟨some 58, _, _, _, _, _⟩) (v := ?_) rfl (by kernel_rfl) (by kernel_rfl) (by kernel_rfl) (fun _ _ _ h => h) rfl hX ?_ ?_; rotate_left; (intro W hW; go_simp; try with_reducible rfl); simp only [Act.put, qA, qB, qC]
  refine sg_take (i := 28) (oi := ⟨some 6, _, _, _, _, _⟩) (v := ?_) rfl (by kernel_rfl) (by kernel_rfl) (by kernel_rfl) (fun _ _ _ h => h) rfl hX ?_ ?_; rotate_left; (intro W hW; go_simp; try with_reducible rfl); simp only [Act.put, qA, qB, qC]
  refine wpAnyH_done (by kernel_rfl) ?_ _
  have BZ := qH (BB.out.trans (hwb.mono BB.out.size))
  clear hX hwb
  go_wp2_with fail
  go_ret
  exact ⟨rfl, BZ.out⟩
 ·have r1 : (mv == 0) = false := by simpa using hmz
  have r2 : (mv != 0) = true := by simpa using hmz
  clear hmz
  go_enter Tryz.func3, Tryz.ntmps3
  go_wp2_with fail
  refine (begun_any w).mono ?_
  rintro e w1 ⟨rfl, hb⟩
  have B1 := qH hb
  clear hb
  go_wp2_with fail
  refine (made_any _ ps w1 (R.out.below B1.out) (by have := HL.out; omega)).mono ?_
  rintro e w2 ⟨rfl, hb, hp⟩
  have P2 := qH hp
  have B2 := qH (B1.out.trans (hb.mono B1.out.size))
  have S1w := qH B1.out.size
  clear hb hp
  go_wp2_with fail
  refine (pickRx_any w1.heap.size _ ps w2 P2.out).mono ?_
  rintro e w3 ⟨cs, rfl, hcs, hg⟩
  have B3 := qH (B2.out.trans ((grown_belowG hg P2.out.blk.lt).mono S1w.out))
  rw [← HT.out] at hcs
  have V3 := qH (show RxV w3.heap.size w3 cs t from RxD.mono hcs fun k hk => hk.2)
  have C6 := qH hcs.length
  have C1 := qH (show cs.all (·.oneCell') = true from List.all_eq_true.2 (RxD.one hcs))
  clear hcs hg
  go_wp2_with fail
  refine (made_any _ qs w3 (R2.out.below B3.out) (by have := HL2.out; omega)).mono ?_
  rintro e w4 ⟨rfl, hb, hp⟩
  have P4 := qH hp
  have B4 := qH hb
  clear hb hp
  go_wp2_with fail
  refine (pickWord_any w3.heap.size _ qs 0 12 (by decide) w4 P4.out).mono ?_
  rintro e w5 ⟨v6, W, rfl, hr6, hw6, hg⟩
  have G5 := qH (B4.out.trans (grown_belowG hg P4.out.blk.lt))
  have B5 := qH (B3.out.trans (G5.out.mono B3.out.size))
  have V5 := qH (RxV.mono (V3.out.stay G5.out) G5.out.size)
  have R5 := qH hr6
  have HW := qH (show W.length ≤ 200 by omega)
  clear hr6 hw6 hg P4 B4 G5 V3
  go_wp2_with (first
   | ((with_reducible refine atDst 7 ?_); refine wpList_new rfl 29 rfl i0 _ z hi0 HZ0.out rfl (Below.refl w5.heap.size w5) (Nat.le_refl _) ?_; intro w6 hk hb hs ho; have L6 := qH hk; have B6 := qH hb; clear hk hb hs ho; (try simp only [Act.put, qA, qB, qC]))
   | ((with_reducible refine atStore 29 7 22 ?_); refine wpList_stBlk rfl 29 _ _ rfl w5.heap.size cs rfl rfl 29 _ L6.out (size_rx C6.out) (by rw [HZL.out, C6.out]) C1.out B6.out (Nat.le_refl _) ?_; intro w7 hk hb hs ho; have L7 := qH hk; have B57 := qH hb; have B7 := qH (B5.out.trans (hb.mono B5.out.size)); clear hk hb hs ho; (try simp only [Act.put, qA, qB, qC]))
   | ((with_reducible refine atDst 26 ?_); refine wpList_ldArr rfl 29 _ rfl w5.heap.size rfl 29 _ _ L7.out Tryz.underlying29 rfl (size_rx C6.out) ?_; (try simp only [Act.put, qA, qB, qC])))
  have V7 := qH ((V5.out.stay B57.out).mono B57.out.size)
  have R7 := qH (R5.out.below B57.out)
  refine (refMay_any t HG.out HM3.out cs w7 V7.out).mono ?_
  rintro e w8 ⟨rfl, hb⟩
  rw [← HMV.out]
  have B8 := qH (B7.out.trans (hb.mono B7.out.size))
  have L8 := qH (L7.out.below hb L7.out.lt)
  have V8 := qH ((V7.out.stay hb).mono hb.size)
  have R8 := qH (R7.out.below hb)
  clear hb
  go_wp2_with fail
  go_ret
  exact ⟨rfl, B8.out⟩
end Go.Proofs.YtopnpdobcagcgaaGreat
