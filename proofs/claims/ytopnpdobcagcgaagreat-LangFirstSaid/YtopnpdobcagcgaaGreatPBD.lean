/-
  Texts of this proof, put together: (LwQ) The walk of LangFirst: an expression's Step by a byte is None exactly where no word of it begins with that byte. The given row lies in a text of its own. (LwR) The walk of LangSteps: a word is in an expression just where what its bytes lead to, one behind the other, has the empty word. The given row lies in a text of its own. (Open) How an argument of type []byte reads, in the words of this seat's walks. No conditions.
-/
import Derived.Test.YtopnpdobcagcgaaGreatPBC
import Derived.Test.YtopnpdobcagcgaaGreatPBB
import Derived.Test.YtopnpdobcagcgaaGreatRows
import Derived.Test.YtopnpdobcagcgaaGreatPA
import Derived.ProofKit
import Derived.OpenShut
import Derived.ShutString
import Derived.ChangeOld
namespace Go.Proofs.YtopnpdobcagcgaaGreat
open Go.RowKit
set_option linter.unusedSimpArgs false
set_option linter.unusedVariables false
theorem step_first {t : T} (hg : good t) (b : UInt8) : ((stepT t b.toNat).kind != 1) = firstT t b.toNat := by
 have hs := stepT_lg hg b
 rw [Bool.eq_iff_iff, first_iff]
 constructor
 ·intro h
  have h1 : ¬ (stepT t b.toNat).kind = 1 := by simpa using h
  rcases good_some _ _ (Nat.le_refl _) hs.1 with ⟨u, hu⟩ | h2
  ·exact ⟨u, (hs.2 u).1 hu⟩
  ·exact absurd h2 h1
 ·rintro ⟨u, hu⟩
  have h2 := (hs.2 u).2 hu
  by_cases h1 : (stepT t b.toNat).kind = 1
  ·exfalso
   revert h2 h1
   generalize stepT t b.toNat = r
   obtain ⟨k, s, l⟩ := r
   intro h2 h1
   have h3 : k = 1 := h1
   subst h3
   rw [Lg] at h2
   simp at h2
  ·simpa using h1
set_option maxHeartbeats 8000000 in
set_option maxRecDepth 1000000 in
theorem langFirst_walk (V : Value) (ps : List UInt8) (b : UInt8) (w : World) (hr : Row w V (bvs ps)) :
  Calls Tryz.prog 5 #[V, bv b] w fun e w' => e = .returned (.bool true) ∧ Below w.heap.size w w' := by
 have R := Lib.hid hr
 obtain ⟨A, cap, rfl, _⟩ := hr
 have hbl : (bvs ps).length = ps.length := bvs_length ps
 rw [hbl] at R ⊢
 clear hbl
 by_cases h40 : 40 < ps.length
 ·have i1 : (40 : Int) < (ps.length : Int) := by omega
  clear h40
  go_enter Tryz.func5, Tryz.ntmps5
  go_wp2_with fail
  refine (begun_any w).mono ?_
  rintro e w1 ⟨rfl, hb⟩
  have B1 := Lib.hid hb
  clear hb
  go_wp2_with fail
  go_ret
  exact ⟨rfl, B1.out⟩
 have i1 : ¬ ((40 : Int) < (ps.length : Int)) := by omega
 have HL := Lib.hid (show ps.length ≤ 40 by omega)
 obtain ⟨t, ht⟩ : ∃ t, t = madeT ps := ⟨_, rfl⟩
 have HT := Lib.hid ht
 have HG := Lib.hid (show good t by rw [ht]; exact madeT_good ps)
 have HM0 := Lib.hid (show t.nodes ≤ 400 by rw [ht]; have := madeT_few ps; omega)
 have HM := Lib.hid (show t.nodes ≤ 274877906944 from Nat.le_trans HM0.out (by decide))
 have HM2 := Lib.hid (show t.nodes ≤ 2000 from Nat.le_trans HM0.out (by decide))
 obtain ⟨mv, hmv⟩ : ∃ mv, mv = mayV t := ⟨_, rfl⟩
 have HMV := Lib.hid hmv
 obtain ⟨i0, hi0, hz0, hz1, hz2⟩ := inf_rx'
 obtain ⟨z, hz⟩ : ∃ z, z = rxc 0 zeroS (.slice none 0 0) := ⟨_, rfl⟩
 have HZL := Lib.hid (show z.length = 6 by rw [hz]; rfl)
 have HZ0 := Lib.hid (show i0.zero = some (.agg z.toArray) by rw [hz]; exact hz0)
 have HF := Lib.hid (step_first HG.out b)
 have HBN := Lib.hid (show b.toNat < 256 from b.toNat_lt)
 obtain ⟨x, hx⟩ : ∃ x, x = stepT t b.toNat := ⟨_, rfl⟩
 have HX := Lib.hid hx
 obtain ⟨fb, hfb⟩ : ∃ fb, fb = firstT t b.toNat := ⟨_, rfl⟩
 obtain ⟨q, hq⟩ : ∃ q, q = firstT t := ⟨_, rfl⟩
 have HQ := Lib.hid hq
 have HQB := Lib.hid (show q b.toNat = fb by rw [hq, hfb])
 rw [← hx, ← hfb] at HF
 obtain ⟨v, hv⟩ : ∃ v, v = bv b := ⟨_, rfl⟩
 have HV := Lib.hid hv
 have HVN := Lib.hid (show v = .int .u8 ((b.toNat : Nat) : Int) from hv)
 rw [← hv]
 clear hz hz0 h40 ht hmv hx hfb hq hv
 by_cases hmz : mv = 0
 ·have r1 : (mv == 0) = true := by simpa using hmz
  have r2 : (mv != 0) = false := by simpa using hmz
  subst hmz
  go_enter Tryz.func5, Tryz.ntmps5
  go_wp2_with fail
  refine (begun_any w).mono ?_
  rintro e w1 ⟨rfl, hb⟩
  have B1 := Lib.hid hb
  clear hb
  go_wp2_with fail
  refine (made_any _ ps w1 (R.out.below B1.out) (by have := HL.out; omega)).mono ?_
  rintro e w2 ⟨rfl, hb, hp⟩
  have P2 := Lib.hid hp
  have B2 := Lib.hid (B1.out.trans (hb.mono B1.out.size))
  have S1w := Lib.hid B1.out.size
  clear hb hp
  go_wp2_with fail
  refine (pickRx_any w1.heap.size _ ps w2 P2.out).mono ?_
  rintro e w3 ⟨cs, rfl, hcs, hg⟩
  have B3 := Lib.hid (B2.out.trans ((grown_belowG hg P2.out.blk.lt).mono S1w.out))
  rw [← HT.out] at hcs
  have V3 := Lib.hid (show RxV w3.heap.size w3 cs t from RxD.mono hcs fun k hk => hk.2)
  have C6 := Lib.hid hcs.length
  have C1 := Lib.hid (show cs.all (·.oneCell') = true from List.all_eq_true.2 (RxD.one hcs))
  clear hcs hg
  go_wp2_with (first
   | ((with_reducible refine atDst 5 ?_); refine wpList_new rfl 29 rfl i0 _ z hi0 HZ0.out rfl (Below.refl w3.heap.size w3) (Nat.le_refl _) ?_; intro w4 hk hb hs ho; have L4 := Lib.hid hk; have B4 := Lib.hid hb; clear hk hb hs ho; (try simp only [Act.put, qA, qB, qC]))
   | ((with_reducible refine atStore 29 5 14 ?_); refine wpList_stBlk rfl 29 _ _ rfl w3.heap.size cs rfl rfl 29 _ L4.out (size_rx C6.out) (by rw [HZL.out, C6.out]) C1.out B4.out (Nat.le_refl _) ?_; intro w5 hk hb hs ho; have L5 := Lib.hid hk; have B35 := Lib.hid hb; have B5 := Lib.hid (B3.out.trans (hb.mono B3.out.size)); clear hk hb hs ho; (try simp only [Act.put, qA, qB, qC]))
   | ((with_reducible refine atDst 15 ?_); refine wpList_ldArr rfl 29 _ rfl w3.heap.size rfl 29 _ _ L5.out Tryz.underlying29 rfl (size_rx C6.out) ?_; (try simp only [Act.put, qA, qB, qC])))
  have V5 := Lib.hid ((V3.out.stay B35.out).mono B35.out.size)
  refine (refMay_any t HG.out HM.out cs w5 V5.out).mono ?_
  rintro e w6 ⟨rfl, hb⟩
  rw [← HMV.out]
  have B6 := Lib.hid (B5.out.trans (hb.mono B5.out.size))
  have L6 := Lib.hid (L5.out.below hb L5.out.lt)
  have V6 := Lib.hid ((V5.out.stay hb).mono hb.size)
  clear hb
  go_wp2_with ((with_reducible refine atDst 18 ?_); refine wpList_ldArr rfl 29 _ rfl w3.heap.size rfl 29 _ _ L6.out Tryz.underlying29 rfl (size_rx C6.out) ?_; (try simp only [Act.put, qA, qB, qC]))
  have hst := lStep_any t HM0.out HG.out b cs w6 V6.out
  rw [← HV.out, ← HX.out] at hst
  refine hst.mono ?_
  clear hst
  rintro e w7 ⟨ds, rfl, hds, hb⟩
  have B7 := Lib.hid (B6.out.trans (hb.mono B6.out.size))
  have L7 := Lib.hid (L6.out.below hb L6.out.lt)
  have V7 := Lib.hid ((V6.out.stay hb).mono hb.size)
  have D6 := Lib.hid hds.length
  have D1 := Lib.hid (show ds.all (·.oneCell') = true from List.all_eq_true.2 (RxD.one hds))
  have D0 := Lib.hid (show ds[0]? = some (.int .i64 x.kind) by obtain ⟨k, s, l⟩ := x; obtain ⟨v9, rfl, _⟩ := hds.row; rfl)
  clear hds hb
  go_wp2_with (first
   | ((with_reducible refine atDst 6 ?_); refine wpList_new rfl 29 rfl i0 _ z hi0 HZ0.out rfl (Below.refl w7.heap.size w7) (Nat.le_refl _) ?_; intro w8 hk hb hs ho; have K8 := Lib.hid hk; have B8 := Lib.hid hb; clear hk hb hs ho; (try simp only [Act.put, qA, qB, qC]))
   | ((with_reducible refine atStore 29 6 20 ?_); refine wpList_stBlk rfl 29 _ _ rfl w7.heap.size ds rfl rfl 29 _ K8.out (size_rx D6.out) (by rw [HZL.out, D6.out]) D1.out B8.out (Nat.le_refl _) ?_; intro w9 hk hb hs ho; have K9 := Lib.hid hk; have B9 := Lib.hid (B7.out.trans (hb.mono B7.out.size)); have L9 := Lib.hid (L7.out.below hb L7.out.lt); have V9 := Lib.hid ((V7.out.stay hb).mono hb.size); clear hk hb hs ho; (try simp only [Act.put, qA, qB, qC])))
  have r3 := HF.out
  refine sg_start (S := fun V => w9.grownBy V none) (by kernel_rfl) (grown_start _ _) (fun wd hwd => ?_)
  have hX : w9.grownBy wd none := by rw [hwd]; exact grown_start _ _
  clear hwd
  have HRC := Lib.hid (show w9.rangeAt w3.heap.size 0 cs from fun i v hv => (L9.out.cell (0 + i)).trans (by rw [Nat.zero_add]; exact hv))
  have HK0 := Lib.hid (show w9.cell? ⟨w7.heap.size, 0, none⟩ = some (.int .i64 x.kind) from (K9.out.cell 0).trans D0.out)
  have HVD := Lib.hid (show RxV wd.heap.size wd cs t from RxD.mono (RxD.stay V9.out fun k hk => hX.block k hk (by simp)) fun k hk => Nat.lt_of_lt_of_le hk hX.size)
  refine sg_take (i := 0) (oi := ⟨some 21, _, _, _, _, _⟩) (v := ?_) rfl (by kernel_rfl) (by kernel_rfl) (by kernel_rfl) (fun _ _ _ h => h) rfl hX ?_ ?_; rotate_left; (intro W hW; go_simp; try with_reducible rfl); simp only [Act.put, qA, qB, qC]
  refine sg_take (i := 1) (oi := ⟨some 22, _, _, _, _, _⟩) (v := .int .i64 x.kind) rfl (by kernel_rfl) (by kernel_rfl) (by kernel_rfl) (fun _ _ _ h => h) rfl hX (fun W hW => ld_i _ rfl rfl (grown_cell hW K9.out.lt (by simp) HK0.out)) ?_; simp only [Act.put, qA, qB, qC]
  refine sg_take (i := 2) (oi := ⟨some 23, _, _, _, _, _⟩) (v := ?_) rfl (by kernel_rfl) (by kernel_rfl) (by kernel_rfl) (fun _ _ _ h => h) rfl hX ?_ ?_; rotate_left; (intro W hW; go_simp; try with_reducible rfl); simp only [Act.put, qA, qB, qC]
  refine sg_take (i := 3) (oi := ⟨some 24, _, _, _, _, _⟩) (v := .agg cs.toArray) rfl (by kernel_rfl) (by kernel_rfl) (by kernel_rfl) (fun _ _ _ h => h) rfl hX (fun W hW => ld_keep 29 _ rfl w3.heap.size 0 rfl _ _ HRC.out (hW.block _ L9.out.lt (by simp)) Tryz.underlying29 rfl (size_rx C6.out)) ?_; simp only [Act.put, qA, qB, qC]
  refine sg_take (i := 5) (oi := ⟨some 26, _, _, _, _, _⟩) (v := ?_) rfl (by kernel_rfl) (by kernel_rfl) (by kernel_rfl) (fun _ _ _ h => h) rfl hX ?_ ?_; rotate_left; (intro W hW; go_simp; try with_reducible rfl); simp only [Act.put, qA, qB, qC]
  refine sg_actB (i := 4) (o := ⟨some 25, _, _, _, _, _⟩) rfl (by kernel_rfl) rfl hX (fun K hK => ?_)
  go_wp2_with fail
  refine (lFirst_any t HM2.out cs wd HVD.out).mono ?_
  rintro e wE ⟨rfl, hb⟩
  rw [← HQ.out]
  go_wp2_with fail
  refine hK _ _ (grown_then hX hb) ?_
  clear hK K
  (try simp only [Act.put, qA, qB, qC])
  replace hX := grown_then hX hb
  clear hb
  refine sg_actB (i := 6) (o := ⟨some 27, _, _, _, _, _⟩) rfl (by kernel_rfl) rfl hX (fun K hK => ?_)
  go_wp2_with fail
  have hh := refHas_any q b.toNat HBN.out wE
  rw [← HVN.out, HQB.out] at hh
  refine hh.mono ?_
  clear hh
  rintro e wF ⟨rfl, hb⟩
  go_wp2_with fail
  refine hK _ _ (grown_then hX hb) ?_
  clear hK K
  (try simp only [Act.put, qA, qB, qC])
  replace hX := grown_then hX hb
  clear hb
  refine sg_take (i := 7) (oi := ⟨some 28, _, _, _, _, _⟩) (v := ?_) rfl (by kernel_rfl) (by kernel_rfl) (by kernel_rfl) (fun _ _ _ h => h) rfl hX ?_ ?_; rotate_left; (intro W hW; go_simp; try with_reducible rfl); simp only [Act.put, qA, qB, qC]
  refine sg_take (i := 8) (oi := ⟨some 4, _, _, _, _, _⟩) (v := ?_) rfl (by kernel_rfl) (by kernel_rfl) (by kernel_rfl) (fun _ _ _ h => h) rfl hX ?_ ?_; rotate_left; (intro W hW; go_simp; try with_reducible rfl); simp only [Act.put, qA, qB, qC]
  refine wpAnyH_done (by kernel_rfl) ?_ _
  have BZ := Lib.hid (B9.out.trans (Below.mono (show Below w9.heap.size w9 wF from ⟨hX.os, hX.tape, hX.output, hX.size, fun k hk => hX.block k hk (by simp)⟩) B9.out.size))
  clear hX
  go_wp2_with fail
  go_ret
  exact ⟨rfl, BZ.out⟩
 ·have r1 : (mv == 0) = false := by simpa using hmz
  have r2 : (mv != 0) = true := by simpa using hmz
  clear hmz
  go_enter Tryz.func5, Tryz.ntmps5
  go_wp2_with fail
  refine (begun_any w).mono ?_
  rintro e w1 ⟨rfl, hb⟩
  have B1 := Lib.hid hb
  clear hb
  go_wp2_with fail
  refine (made_any _ ps w1 (R.out.below B1.out) (by have := HL.out; omega)).mono ?_
  rintro e w2 ⟨rfl, hb, hp⟩
  have P2 := Lib.hid hp
  have B2 := Lib.hid (B1.out.trans (hb.mono B1.out.size))
  have S1w := Lib.hid B1.out.size
  clear hb hp
  go_wp2_with fail
  refine (pickRx_any w1.heap.size _ ps w2 P2.out).mono ?_
  rintro e w3 ⟨cs, rfl, hcs, hg⟩
  have B3 := Lib.hid (B2.out.trans ((grown_belowG hg P2.out.blk.lt).mono S1w.out))
  rw [← HT.out] at hcs
  have V3 := Lib.hid (show RxV w3.heap.size w3 cs t from RxD.mono hcs fun k hk => hk.2)
  have C6 := Lib.hid hcs.length
  have C1 := Lib.hid (show cs.all (·.oneCell') = true from List.all_eq_true.2 (RxD.one hcs))
  clear hcs hg
  go_wp2_with (first
   | ((with_reducible refine atDst 5 ?_); refine wpList_new rfl 29 rfl i0 _ z hi0 HZ0.out rfl (Below.refl w3.heap.size w3) (Nat.le_refl _) ?_; intro w4 hk hb hs ho; have L4 := Lib.hid hk; have B4 := Lib.hid hb; clear hk hb hs ho; (try simp only [Act.put, qA, qB, qC]))
   | ((with_reducible refine atStore 29 5 14 ?_); refine wpList_stBlk rfl 29 _ _ rfl w3.heap.size cs rfl rfl 29 _ L4.out (size_rx C6.out) (by rw [HZL.out, C6.out]) C1.out B4.out (Nat.le_refl _) ?_; intro w5 hk hb hs ho; have L5 := Lib.hid hk; have B35 := Lib.hid hb; have B5 := Lib.hid (B3.out.trans (hb.mono B3.out.size)); clear hk hb hs ho; (try simp only [Act.put, qA, qB, qC]))
   | ((with_reducible refine atDst 15 ?_); refine wpList_ldArr rfl 29 _ rfl w3.heap.size rfl 29 _ _ L5.out Tryz.underlying29 rfl (size_rx C6.out) ?_; (try simp only [Act.put, qA, qB, qC])))
  have V5 := Lib.hid ((V3.out.stay B35.out).mono B35.out.size)
  refine (refMay_any t HG.out HM.out cs w5 V5.out).mono ?_
  rintro e w6 ⟨rfl, hb⟩
  rw [← HMV.out]
  have B6 := Lib.hid (B5.out.trans (hb.mono B5.out.size))
  have L6 := Lib.hid (L5.out.below hb L5.out.lt)
  have V6 := Lib.hid ((V5.out.stay hb).mono hb.size)
  clear hb
  go_wp2_with fail
  go_ret
  exact ⟨rfl, B6.out⟩
end Go.Proofs.YtopnpdobcagcgaaGreat
namespace Go.Proofs.YtopnpdobcagcgaaGreat
open Go.RowKit
set_option linter.unusedSimpArgs false
set_option linter.unusedVariables false
theorem lgB_next {x : T} (hg : good x) {W : List UInt8} {j : Nat} {res : Bool} (hj : j < W.length) (h : lgB x (W.drop j) = res) : lgB (stepT x W[j].toNat) (W.drop (j + 1)) = res := by
 rw [← h, Bool.eq_iff_iff, lgB_iff, lgB_iff, (stepT_lg hg W[j]).2, ← List.drop_eq_getElem_cons hj]
set_option maxHeartbeats 8000000 in
set_option maxRecDepth 1000000 in
theorem langSteps_walk (V V2 : Value) (ps qs : List UInt8) (w : World) (hr : Row w V (bvs ps)) (hr2 : Row w V2 (bvs qs)) :
  Calls Tryz.prog 4 #[V, V2] w fun e w' => e = .returned (.bool true) ∧ Below w.heap.size w w' := by
 have R := Lib.hid hr
 have R2 := Lib.hid hr2
 obtain ⟨A, cap, rfl, _⟩ := hr
 obtain ⟨A2, cap2, rfl, _⟩ := hr2
 have hbl : (bvs ps).length = ps.length := bvs_length ps
 have hbl2 : (bvs qs).length = qs.length := bvs_length qs
 rw [hbl] at R ⊢
 rw [hbl2] at R2 ⊢
 clear hbl hbl2
 by_cases h40 : 40 < ps.length
 ·have i1 : (40 : Int) < (ps.length : Int) := by omega
  have d1 : decide ((40 : Int) < (ps.length : Int)) = true := decide_eq_true i1
  clear h40
  go_enter Tryz.func4, Tryz.ntmps4
  go_wp2_with fail
  refine (begun_any w).mono ?_
  rintro e w1 ⟨rfl, hb⟩
  have B1 := Lib.hid hb
  clear hb
  go_wp2_with fail
  go_ret
  exact ⟨rfl, B1.out⟩
 have i1 : ¬ ((40 : Int) < (ps.length : Int)) := by omega
 have d1 : decide ((40 : Int) < (ps.length : Int)) = false := decide_eq_false i1
 by_cases h20 : 20 < qs.length
 ·have i2 : (20 : Int) < (qs.length : Int) := by omega
  have d2 : decide ((20 : Int) < (qs.length : Int)) = true := decide_eq_true i2
  clear h20 h40
  go_enter Tryz.func4, Tryz.ntmps4
  go_wp2_with fail
  refine (begun_any w).mono ?_
  rintro e w1 ⟨rfl, hb⟩
  have B1 := Lib.hid hb
  clear hb
  go_wp2_with fail
  go_ret
  exact ⟨rfl, B1.out⟩
 have i2 : ¬ ((20 : Int) < (qs.length : Int)) := by omega
 have d2 : decide ((20 : Int) < (qs.length : Int)) = false := decide_eq_false i2
 have HL := Lib.hid (show ps.length ≤ 40 by omega)
 have HL2 := Lib.hid (show qs.length ≤ 20 by omega)
 obtain ⟨t, ht⟩ : ∃ t, t = madeT ps := ⟨_, rfl⟩
 have HT := Lib.hid ht
 have HG := Lib.hid (show good t by rw [ht]; exact madeT_good ps)
 have HM0 := Lib.hid (show t.nodes ≤ 400 by rw [ht]; have := madeT_few ps; omega)
 have HM2 := Lib.hid (show t.nodes ≤ 2000 from Nat.le_trans HM0.out (by decide))
 obtain ⟨i0, hi0, hz0, hz1, hz2⟩ := inf_rx'
 obtain ⟨z, hz⟩ : ∃ z, z = rxc 0 zeroS (.slice none 0 0) := ⟨_, rfl⟩
 have HZL := Lib.hid (show z.length = 6 by rw [hz]; rfl)
 have HZ0 := Lib.hid (show i0.zero = some (.agg z.toArray) by rw [hz]; exact hz0)
 clear hz hz0 h40 h20 ht
 go_enter Tryz.func4, Tryz.ntmps4
 go_wp2_with fail
 refine (begun_any w).mono ?_
 rintro e w1 ⟨rfl, hb⟩
 have B1 := Lib.hid hb
 clear hb
 go_wp2_with fail
 refine (made_any _ ps w1 (R.out.below B1.out) (by have := HL.out; omega)).mono ?_
 rintro e w2 ⟨rfl, hb, hp⟩
 have P2 := Lib.hid hp
 have B2 := Lib.hid (B1.out.trans (hb.mono B1.out.size))
 have S1w := Lib.hid B1.out.size
 clear hb hp
 go_wp2_with fail
 refine (pickRx_any w1.heap.size _ ps w2 P2.out).mono ?_
 rintro e w3 ⟨cs, rfl, hcs, hg⟩
 have B3 := Lib.hid (B2.out.trans ((grown_belowG hg P2.out.blk.lt).mono S1w.out))
 rw [← HT.out] at hcs
 have V3 := Lib.hid (show RxV w3.heap.size w3 cs t from RxD.mono hcs fun k hk => hk.2)
 have C6 := Lib.hid hcs.length
 have C1 := Lib.hid (show cs.all (·.oneCell') = true from List.all_eq_true.2 (RxD.one hcs))
 clear hcs hg
 go_wp2_with fail
 refine (made_any _ qs w3 (R2.out.below B3.out) (by have := HL2.out; omega)).mono ?_
 rintro e w4 ⟨rfl, hb, hp⟩
 have P4 := Lib.hid hp
 have B4 := Lib.hid (B3.out.trans (hb.mono B3.out.size))
 have V4 := Lib.hid (show RxV w3.heap.size w4 cs t from V3.out.stay hb)
 have S3w := Lib.hid B3.out.size
 clear hb hp
 go_wp2_with fail
 refine (pickWord_any w3.heap.size _ qs 0 8 (by decide) w4 P4.out).mono ?_
 rintro e w5 ⟨v6, W, rfl, hr6, hw6, hg⟩
 have B5 := Lib.hid (B4.out.trans ((grown_belowG hg P4.out.blk.lt).mono S3w.out))
 have V5 := Lib.hid (show RxV w5.heap.size w5 cs t from RxV.mono (RxD.stay V4.out fun k hk => hg.block k (Nat.lt_of_lt_of_le hk (Nat.le_of_lt P4.out.blk.lt)) (fun e => by have := Option.some.inj e; omega)) (Nat.le_trans (Nat.le_of_lt P4.out.blk.lt) hg.size))
 have R6 := Lib.hid hr6
 have HW := Lib.hid hw6
 clear hr6 hw6 hg
 go_wp2_with (first
  | ((with_reducible refine atDst 5 ?_); refine wpList_new rfl 29 rfl i0 _ z hi0 HZ0.out rfl (Below.refl w5.heap.size w5) (Nat.le_refl _) ?_; intro w6 hk hb hs ho; have L6 := Lib.hid hk; have B6 := Lib.hid hb; clear hk hb hs ho; (try simp only [Act.put, qA, qB, qC]))
  | ((with_reducible refine atStore 29 5 21 ?_); refine wpList_stBlk rfl 29 _ _ rfl w5.heap.size cs rfl rfl 29 _ L6.out (size_rx C6.out) (by rw [HZL.out, C6.out]) C1.out B6.out (Nat.le_refl _) ?_; intro w7 hk hb hs ho; have L7 := Lib.hid hk; have B57 := Lib.hid hb; have B7 := Lib.hid (B5.out.trans (hb.mono B5.out.size)); clear hk hb hs ho; (try simp only [Act.put, qA, qB, qC]))
  | ((with_reducible refine atDst 25 ?_); refine wpList_ldArr rfl 29 _ rfl w5.heap.size rfl 29 _ _ L7.out Tryz.underlying29 rfl (size_rx C6.out) ?_; (try simp only [Act.put, qA, qB, qC])))
 refine (lIn_any t HM2.out W (by have := HW.out; omega) v6 cs w7 (R6.out.below B57.out) (RxV.mono (V5.out.stay B57.out) B57.out.size)).mono ?_
 rintro e w8 ⟨rfl, hb⟩
 obtain ⟨res, hres⟩ : ∃ r, r = lgB t W := ⟨_, rfl⟩
 rw [← hres]
 have HRES := Lib.hid hres
 have B8 := Lib.hid (B7.out.trans (hb.mono B7.out.size))
 have B58 := Lib.hid (B57.out.trans (hb.mono B57.out.size))
 have L8 := Lib.hid (L7.out.below hb L7.out.lt)
 have V8 := Lib.hid (show RxD (fun k => k < w8.heap.size ∧ k ≠ w5.heap.size) w8 cs t from RxD.mono (RxV.stay V5.out B58.out) fun k hk => ⟨Nat.lt_of_lt_of_le hk B58.out.size, by omega⟩)
 have HS8 := Lib.hid (show w5.heap.size < w8.heap.size from L8.out.lt)
 clear hb hres
 obtain ⟨A6, cap6, rfl, e1, e2, e0, e3⟩ := R6.out
 have hbw : (bvs W).length = W.length := bvs_length W
 rw [hbw] at R6 e1 ⊢
 clear e1 e2 e0 e3 hbw
 go_wp2_with fail
 go_loopw [8] (fun i wl => ∃ (j : Nat) (x : T) (ds : List Value), j ≤ W.length ∧ i = .int .i64 (j : Int) ∧ good x ∧ x.nodes ≤ 274877906944 ∧ lgB x (W.drop j) = res ∧ Blk wl w5.heap.size 29 ds ∧ RxD (fun k => k < wl.heap.size ∧ k ≠ w5.heap.size) wl ds x ∧ Below w5.heap.size w5 wl) (fun i _ => W.length - (intOf i).toNat)
 case atStart => exact ⟨0, t, cs, Nat.zero_le _, by simp, HG.out, Nat.le_trans HM0.out (by decide), HRES.out.symm, L8.out, V8.out, B58.out⟩
 case round =>
  obtain ⟨j, x, ds, hj, rfl, hg, hn, hres, hk, hd, hb⟩ := hrel
  have HXG := Lib.hid hg
  have HXN := Lib.hid hn
  have HXR := Lib.hid hres
  have KX := Lib.hid hk
  have VX := Lib.hid hd
  have BX := Lib.hid hb
  have D6 := Lib.hid hd.length
  have VW := Lib.hid (show RxV wr.heap.size wr ds x from RxD.mono hd fun k hk => hk.1)
  have BXW := Lib.hid (B5.out.trans (hb.mono B5.out.size))
  clear hg hn hres hk hd hb
  by_cases hjl : j < W.length
  ·have j1 : (j : Int) < (W.length : Int) := Int.ofNat_lt.2 hjl
   obtain ⟨mv, hmv⟩ : ∃ mv, mv = mayV x := ⟨_, rfl⟩
   have HMV := Lib.hid hmv
   have HML := Lib.hid (fun h : mv = 0 => mayV_le (t := x) (by rw [← hmv]; exact h))
   have HJL := Lib.hid hjl
   clear hmv
   by_cases hmz : mv = 0
   ·have r1 : (mv == 0) = true := by simpa using hmz
    have r2 : (mv != 0) = false := by simpa using hmz
    have HX4 := Lib.hid (HML.out hmz)
    subst hmz
    go_wp2_with ((with_reducible refine atDst 34 ?_); refine wpList_ldArr rfl 29 _ rfl w5.heap.size rfl 29 _ _ KX.out Tryz.underlying29 rfl (size_rx D6.out) ?_; (try simp only [Act.put, qA, qB, qC]))
    refine (refMay_any x HXG.out HXN.out ds wr VW.out).mono ?_
    rintro e w9 ⟨rfl, hb⟩
    rw [← HMV.out]
    have BY := Lib.hid (BX.out.trans (hb.mono BX.out.size))
    have BYW := Lib.hid (BXW.out.trans (hb.mono BXW.out.size))
    have KY := Lib.hid (KX.out.below hb KX.out.lt)
    have VY := Lib.hid (show RxD (fun k => k < w9.heap.size ∧ k ≠ w5.heap.size) w9 ds x from RxD.mono (RxD.stay VX.out fun k hk => hb.block k hk.1) fun k hk => ⟨Nat.lt_of_lt_of_le hk.1 hb.size, hk.2⟩)
    have RY := Lib.hid (R6.out.below BY.out)
    obtain ⟨b6, o6, rfl, hdrop⟩ := Row.drop (w := w9) (A := A6) (cap := cap6) (xs := bvs W) (by rw [bvs_length]; exact RY.out) j (by rw [bvs_length]; exact hjl)
    have hdr : (bvs W).drop j = bvs (W.drop j) := by unfold bvs; rw [List.map_drop]
    rw [bvs_length, hdr] at hdrop
    have RD := Lib.hid hdrop
    have hlc := RY.out.len
    rw [bvs_length] at hlc
    have f2 : (W.length : Int) ≤ (cap6 : Int) := by have := hlc.2.1; omega
    have f1 : (j : Int) ≤ (W.length : Int) := by omega
    have f0 : (0 : Int) ≤ (j : Int) := by omega
    obtain ⟨bb, ob, hbo, hbl6, hcell⟩ := RY.out.at_ (by rw [bvs_length]; omega)
    obtain ⟨rfl, rfl⟩ : b6 = bb ∧ o6 = ob := by injection hbo with h; injection h with h1 h2; exact ⟨h1, h2⟩
    have HCJ := Lib.hid (hcell j _ (bvs_get W j W[j] (List.getElem?_eq_getElem hjl)))
    have HBL := Lib.hid hbl6
    clear hdrop hdr hlc hcell hbo hb hbl6
    have HRC := Lib.hid (show w9.rangeAt w5.heap.size 0 ds from fun i v hv => (KY.out.cell (0 + i)).trans (by rw [Nat.zero_add]; exact hv))
    go_wp2_with fail
    refine sg_start (S := fun V => w9.grownBy V none) (by kernel_rfl) (grown_start _ _) (fun wd hwd => ?_)
    have hX : w9.grownBy wd none := by rw [hwd]; exact grown_start _ _
    have hwb : Below w9.heap.size w9 wd := by rw [hwd]; exact (Below.refl _ _).drew
    clear hwd
    refine sg_take (i := 0) (oi := ⟨some 37, _, _, _, _, _⟩) (v := .agg ds.toArray) rfl (by kernel_rfl) (by kernel_rfl) (by kernel_rfl) (fun _ _ _ h => h) rfl hX (fun W hW => ld_keep 29 _ rfl w5.heap.size 0 rfl _ _ HRC.out (hW.block _ KY.out.lt (by simp)) Tryz.underlying29 rfl (size_rx D6.out)) ?_; simp only [Act.put, qA, qB, qC]
    refine sg_take (i := 1) (oi := ⟨some 38, _, _, _, _, _⟩) (v := ?_) rfl (by kernel_rfl) (by kernel_rfl) (by kernel_rfl) (fun _ _ _ h => h) rfl hX ?_ ?_; rotate_left; (intro W hW; go_simp; try with_reducible rfl); simp only [Act.put, qA, qB, qC]
    refine sg_take (i := 2) (oi := ⟨some 39, _, _, _, _, _⟩) (v := ?_) rfl (by kernel_rfl) (by kernel_rfl) (by kernel_rfl) (fun _ _ _ h => h) rfl hX ?_ ?_; rotate_left; (intro W hW; go_simp; try with_reducible rfl); simp only [Act.put, qA, qB, qC]
    refine sg_take (i := 3) (oi := ⟨some 40, _, _, _, _, _⟩) (v := ?_) rfl (by kernel_rfl) (by kernel_rfl) (by kernel_rfl) (fun _ _ _ h => h) rfl hX ?_ ?_; rotate_left; (intro W hW; go_simp; try with_reducible rfl); simp only [Act.put, qA, qB, qC]
    refine sg_take (i := 5) (oi := ⟨some 42, _, _, _, _, _⟩) (v := ?_) rfl (by kernel_rfl) (by kernel_rfl) (by kernel_rfl) (fun _ _ _ h => h) rfl hX ?_ ?_; rotate_left; (intro W hW; go_simp; try with_reducible rfl); simp only [Act.put, qA, qB, qC]
    refine sg_actB (i := 4) (o := ⟨some 41, _, _, _, _, _⟩) rfl (by kernel_rfl) rfl hX (fun K hK => ?_)
    go_wp2_with fail
    refine (lIn_any x (Nat.le_trans HX4.out (by decide)) (W.drop j) (by rw [List.length_drop]; have := HW.out; omega) _ ds wd (RD.out.below hwb) (RxD.mono (RxD.stay VY.out fun k hk => hwb.block k hk.1) fun k hk => Nat.lt_of_lt_of_le hk.1 hwb.size)).mono ?_
    rintro e wA ⟨rfl, hb⟩
    rw [HXR.out]
    go_wp2_with fail
    refine hK _ _ (grown_then hX hb) ?_
    clear hK K
    (try simp only [Act.put, qA, qB, qC])
    replace hX := grown_then hX hb
    clear hb
    refine sg_take (i := 6) (oi := ⟨some 43, _, _, _, _, _⟩) (v := ?_) rfl (by kernel_rfl) (by kernel_rfl) (by kernel_rfl) (fun _ _ _ h => h) rfl hX ?_ ?_; rotate_left; (intro W hW; go_simp; try with_reducible rfl); simp only [Act.put, qA, qB, qC]
    refine wpAnyH_done (by kernel_rfl) ?_ _
    have r3 : (res != res) = false := by simp
    have BA := Lib.hid (show Below w9.heap.size w9 wA from ⟨hX.os, hX.tape, hX.output, hX.size, fun k hk => hX.block k hk (by simp)⟩)
    clear hX hwb
    have KA := Lib.hid (KY.out.below BA.out KY.out.lt)
    have VA := Lib.hid (show RxD (fun k => k < wA.heap.size ∧ k ≠ w5.heap.size) wA ds x from RxD.mono (RxD.stay VY.out fun k hk => BA.out.block k hk.1) fun k hk => ⟨Nat.lt_of_lt_of_le hk.1 BA.out.size, hk.2⟩)
    have BZ := Lib.hid (BY.out.trans (BA.out.mono BY.out.size))
    have HCA := Lib.hid (show wA.cell? ⟨b6, o6 + j, none⟩ = some (bv W[j]) from (BA.out.cell (p := ⟨b6, o6 + j, none⟩) HBL.out).trans HCJ.out)
    go_wp2_with fail
    refine sg_start (S := fun V => wA.grownBy V (some w5.heap.size)) (by kernel_rfl) (grown_start _ _) (fun wd hwd => ?_)
    have hX : wA.grownBy wd (some w5.heap.size) := by rw [hwd]; exact grown_start _ _
    have hwb : Below wA.heap.size wA wd := by rw [hwd]; exact (Below.refl _ _).drew
    clear hwd
    have HB6 := Lib.hid (show b6 < w5.heap.size by
     obtain ⟨b7, o7, h7, hb7, _⟩ := R6.out.at_ (by rw [bvs_length]; have := HJL.out; omega)
     injection h7 with h
     injection h with h1 h2
     rw [h1]
     exact hb7)
    have HNB := Lib.hid (show some b6 ≠ some w5.heap.size from fun e => by have h1 := Option.some.inj e; have h2 := HB6.out; omega)
    have HB6A := Lib.hid (show b6 < wA.heap.size from Nat.lt_of_lt_of_le HB6.out BZ.out.size)
    have HRD := Lib.hid (show wd.rangeAt w5.heap.size 0 ds from fun i v hv => (Blk.cell (KA.out.below hwb KA.out.lt) (0 + i)).trans (by rw [Nat.zero_add]; exact hv))
    have VD := Lib.hid (show RxV wd.heap.size wd ds x from RxD.mono (RxD.stay VA.out fun k hk => hwb.block k hk.1) fun k hk => Nat.lt_of_lt_of_le hk.1 hwb.size)
    have KD := Lib.hid (KA.out.below hwb KA.out.lt)
    refine sg_take (i := 1) (oi := ⟨some 45, _, _, _, _, _⟩) (v := ?_) rfl (by kernel_rfl) (by kernel_rfl) (by kernel_rfl) (fun _ _ _ h => h) rfl hX ?_ ?_; rotate_left; (intro W hW; go_simp; try with_reducible rfl); simp only [Act.put, qA, qB, qC]
    refine sg_take (i := 2) (oi := ⟨some 46, _, _, _, _, _⟩) (v := ?_) rfl (by kernel_rfl) (by kernel_rfl) (by kernel_rfl) (fun _ _ _ h => h) rfl hX ?_ ?_; rotate_left; (intro W hW; go_simp; try with_reducible rfl); simp only [Act.put, qA, qB, qC]
    refine sg_take (i := 3) (oi := ⟨some 47, _, _, _, _, _⟩) (v := ?_) rfl (by kernel_rfl) (by kernel_rfl) (by kernel_rfl) (fun _ _ _ h => h) rfl hX ?_ ?_; rotate_left; (intro W hW; go_simp; try with_reducible rfl); simp only [Act.put, qA, qB, qC]
    refine sg_take (i := 4) (oi := ⟨some 48, _, _, _, _, _⟩) (v := bv W[j]) rfl (by kernel_rfl) (by kernel_rfl) (by kernel_rfl) (fun _ _ _ h => h) rfl hX (fun W' hW' => ld_bv _ rfl rfl (grown_cell hW' HB6A.out HNB.out HCA.out)) ?_; simp only [Act.put, qA, qB, qC]
    refine sg_actB (i := 0) (o := ⟨some 44, _, _, _, _, _⟩) rfl (by kernel_rfl) rfl hX (fun K hK => ?_)
    refine wp_load_mid 29 _ rfl w5.heap.size 0 rfl ds _ HRD.out Tryz.underlying29 rfl (size_rx D6.out) ?_
    refine hK _ _ hX ?_
    clear hK K
    (try simp only [Act.put, qA, qB, qC])
    refine sg_actB (i := 5) (o := ⟨some 49, _, _, _, _, _⟩) rfl (by kernel_rfl) rfl hX (fun K hK => ?_)
    go_wp2_with fail
    refine (lStep_any x HX4.out HXG.out W[j] ds wd VD.out).mono ?_
    rintro e wE ⟨es, rfl, hes, hb⟩
    go_wp2_with fail
    refine hK _ _ (grown_then hX hb) ?_
    clear hK K
    (try simp only [Act.put, qA, qB, qC])
    replace hX := grown_then hX hb
    have KE := Lib.hid (KD.out.below hb KD.out.lt)
    have E6 := Lib.hid hes.length
    have E1 := Lib.hid (show es.all (·.oneCell') = true from List.all_eq_true.2 (RxD.one hes))
    have HES := Lib.hid hes
    have BE := Lib.hid (BZ.out.trans ((hwb.trans (hb.mono hwb.size)).mono BZ.out.size))
    have HSD := Lib.hid (show w5.heap.size < wd.heap.size from KD.out.lt)
    clear hes hb hwb
    refine sg_actB (i := 6) (o := ⟨none, _, _, _, _, _⟩) rfl (by kernel_rfl) rfl hX (fun K hK => ?_)
    refine wp_stBlk 29 _ _ rfl w5.heap.size es rfl rfl 29 _ KE.out (size_rx E6.out) (by rw [D6.out, E6.out]) E1.out BE.out (Nat.le_refl _) ?_
    intro wF hkF hbF hsF hoF _
    have hXF : wA.grownBy wF (some w5.heap.size) := ⟨hbF.os.trans (BE.out.os.symm.trans hX.os), hbF.tape.trans (BE.out.tape.symm.trans hX.tape), hbF.output.trans (BE.out.output.symm.trans hX.output), by rw [hsF]; exact hX.size, fun k hk hne => (hoF k (fun e => hne (by rw [e]))).trans (hX.block k hk hne)⟩
    refine hK _ _ hXF ?_
    clear hK K
    refine wpAnyH_done (by kernel_rfl) ?_ _
    have KF := Lib.hid hkF
    have BF := Lib.hid hbF
    have VF := Lib.hid (show RxD (fun k => k < wF.heap.size ∧ k ≠ w5.heap.size) wF es (stepT x W[j].toNat) from RxD.mono (RxD.stay HES.out fun k hk => hoF k (fun e => by have h1 := hk.1; have h2 := HSD.out; omega)) fun k hk => ⟨by rw [hsF]; exact hk.2, fun e => by have h1 := hk.1; have h2 := HSD.out; omega⟩)
    have HNX := Lib.hid (lgB_next HXG.out hjl HXR.out)
    have HNF := Lib.hid (Nat.le_trans (step_few HXG.out W[j] (Nat.le_trans HX4.out (by decide))) (show 8016008000 ≤ 274877906944 by decide))
    have HJ1 := Lib.hid (sub_next hjl)
    have hj62 : j ≤ 4611686018427387904 := by have := HW.out; omega
    have e3 := wrap_one j hj62
    have e4 := wrap_one' j hj62
    clear hX hXF hkF hbF hsF hoF hj62
    go_wp2_with fail
    exact ⟨⟨j + 1, _, es, HJL.out, by congr 1, (stepT_lg HXG.out W[j]).1, HNF.out, HNX.out, KF.out, VF.out, BF.out⟩, by simpa [intOf] using HJ1.out⟩
   ·have r1 : (mv == 0) = false := by simpa using hmz
    have r2 : (mv != 0) = true := by simpa using hmz
    clear hmz
    go_wp2_with ((with_reducible refine atDst 34 ?_); refine wpList_ldArr rfl 29 _ rfl w5.heap.size rfl 29 _ _ KX.out Tryz.underlying29 rfl (size_rx D6.out) ?_; (try simp only [Act.put, qA, qB, qC]))
    refine (refMay_any x HXG.out HXN.out ds wr VW.out).mono ?_
    rintro e w9 ⟨rfl, hb⟩
    rw [← HMV.out]
    have B9 := Lib.hid (BXW.out.trans (hb.mono BXW.out.size))
    clear hb
    go_wp2_with fail
    go_ret
    exact ⟨rfl, B9.out⟩
  ·obtain rfl : j = W.length := by omega
   have j1 : ¬ ((W.length : Int) < (W.length : Int)) := by omega
   have HNU := Lib.hid (show nullT x = res by rw [← HXR.out, List.drop_length, Bool.eq_iff_iff, null_iff, lgB_iff])
   go_wp2_with ((with_reducible refine atDst 50 ?_); refine wpList_ldArr rfl 29 _ rfl w5.heap.size rfl 29 _ _ KX.out Tryz.underlying29 rfl (size_rx D6.out) ?_; (try simp only [Act.put, qA, qB, qC]))
   refine (lNull_any x ds wr VW.out).mono ?_
   rintro e w9 ⟨rfl, hb⟩
   rw [HNU.out]
   have B9 := Lib.hid (BXW.out.trans (hb.mono BXW.out.size))
   clear hb
   go_wp2_with fail
   go_ret
   exact ⟨by simp, B9.out⟩
end Go.Proofs.YtopnpdobcagcgaaGreat
namespace Go.Proofs.YtopnpdobcagcgaaGreat
open Go.ChangeShapes Go.WideShapes Go.ChangeAt Go.RowKit
set_option linter.unusedVariables false
theorem own : ownKnob Tryz.prog.godebug = none := by kernel_rfl
theorem laidOut : laidOutB Tryz.prog = true := by kernel_rfl
theorem u8_of_wf {x : Int} (h : (Lit.int .u8 x).wf = true) : 0 ≤ x ∧ x < 256 := by
 have h1 : IntKind.u8.min = 0 := rfl
 have h2 : IntKind.u8.max = 255 := rfl
 simp only [Lit.wf, Bool.and_eq_true, decide_eq_true_eq] at h
 omega
theorem u8_nat {n : Nat} (h : n < 256) : (UInt8.ofNat n).toNat = n := by
 rw [UInt8.toNat_ofNat']
 exact Nat.mod_eq_of_lt h
theorem open_bytes {H : Type} {enc : TypeId × Value → H} {P : Program} {t e : TypeId} (ht : P.underlying t = some (.slice e)) (he : P.underlying e = some (.int .u8)) (hc : P.cellsOf e = 1) {W : World} {a : Option Addr} {len cap : Nat} {d : DataW H} {p : List MemPlace}
  (h : DataW.Trod enc P W 0 (fun _ => true) true t (.slice a len cap) d p) : ∃ l : List UInt8, Row W (.slice a len cap) (bvs l) := by
 obtain ⟨fuel, hf⟩ := h
 rcases open_ints ht he hc hf with ⟨hcs, _⟩ | ⟨x, l, c, zs, hcs, _, hl, hm, hz, _, hcell, hwz⟩
 ·simp [Value.cells] at hcs
  obtain ⟨rfl, rfl, rfl⟩ := hcs
  exact ⟨[], Row.nil W⟩
 ·simp [Value.cells] at hcs
  obtain ⟨rfl, rfl, rfl⟩ := hcs
  have hz' : zs.length = cap := by simpa using hz
  have hlen : (bvs ((zs.take len).map fun n => UInt8.ofNat n.toNat)).length = len := by simp [bvs]; omega
  refine ⟨(zs.take len).map fun n => UInt8.ofNat n.toNat, some x, cap, by rw [hlen], by omega, hm, (fun h => by cases h), fun hne => ?_⟩
  have hpos : 0 < len := by
   rcases Nat.eq_zero_or_pos len with h0 | h0
   ·subst h0; exact absurd rfl hne
   ·exact h0
  obtain ⟨b, off, spot⟩ := x
  have hc0 := hcell 0 (by omega)
  have hspot : spot = none := by simpa [Addr.add] using World.cell?_spot hc0
  subst hspot
  refine ⟨b, off, rfl, by have := World.block_lt_of_cell? _ _ hc0; rwa [Addr.add_lit] at this, fun i u hu => ?_⟩
  have hi : i < len := by
   have := (List.getElem?_eq_some_iff.1 hu).1
   rwa [hlen] at this
  have := hcell i (by omega)
  rw [Addr.add_lit] at this
  rw [this, ← hu]
  have hiz : i < zs.length := by omega
  have hw := u8_of_wf (hwz zs[i] (List.getElem_mem hiz))
  simp only [bvs, List.map_map, List.getElem?_map, List.getElem?_take, hi, if_true, List.getElem?_eq_getElem hiz, Option.map_some, List.getD, Option.getD_some, Function.comp, bv, Option.some.injEq, Value.int.injEq, true_and]
  have : (UInt8.ofNat (zs[i]).toNat).toNat = (zs[i]).toNat := by
   rw [UInt8.toNat_ofNat']
   exact Nat.mod_eq_of_lt (by omega)
  rw [this]
  omega
end Go.Proofs.YtopnpdobcagcgaaGreat
