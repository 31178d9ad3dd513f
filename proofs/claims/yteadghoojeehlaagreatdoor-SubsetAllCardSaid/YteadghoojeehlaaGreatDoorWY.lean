/-
  Texts of this proof, put together: RmB, RmC. No statement is proved here.
-/
import Derived.Test.YteadghoojeehlaaGreatDoorWX
namespace Go.Proofs.YteadghoojeehlaaGreatDoor
open Go.RowKit
set_option linter.unusedSimpArgs false
set_option linter.unusedVariables false
set_option maxHeartbeats 4000000 in
set_option maxRecDepth 1000000 in
theorem rxCounted_any (k : Int) (s : Nat → Bool) (A : Option Addr) (n cap : Nat) (cs : List Value) (hcs : cs = .int .i64 k :: (wds s ++ [.slice A n cap])) (w : World) :
  Calls Tryz.prog 77 #[.agg cs.toArray] w fun e w' => e = .returned (.bool (countT k s n)) ∧ Below w.heap.size w w' := by
 obtain ⟨q, hq⟩ : ∃ q, countT k s n = q := ⟨_, rfl⟩
 have HQ := qH hq
 have HCS := qH hcs
 have HC0 := qH (show cs[0]? = some (.int .i64 k) by rw [hcs]; rfl)
 have HC5 := qH (show cs[5]? = some (.slice A n cap) by rw [hcs]; rfl)
 have HBS := qH builtS
 obtain ⟨zs, hzs⟩ : ∃ zs, zs = zeroS := ⟨_, rfl⟩
 have HZS := qH hzs
 rw [← hzs] at HBS
 obtain ⟨b, hb⟩ : ∃ b, eqS s zs = b := ⟨_, rfl⟩
 have HEQ := qH hb
 have HEZ := qH (show eqS s zeroS = b by rw [← hzs]; exact hb)
 rw [hq]
 clear hq hcs hzs hb
 go_enter Tryz.func77, Tryz.ntmps77
 by_cases h3 : k = 3
 ·subst h3
  cases b with
  | true =>
   have HR := qH (show q = false by rw [← HQ.out]; unfold countT; rw [if_pos rfl, HEZ.out]; rfl)
   go_wp2_with (first
    | ((with_reducible refine atDst 1 ?_); refine wpList_box rfl 46 _ rfl cs rfl (Below.refl w.heap.size w) (Nat.le_refl _) ?_; intro w1 hk1 hb1 hs1 _; have K1 := qH hk1; have B1 := qH hb1; have k0 := hk1.cell 0; rw [HC0.out] at k0; have k5 := hk1.cell 5; rw [HC5.out] at k5; have RS := qH (set_range' HCS.out hk1); clear hk1 hb1 hs1; (try simp only [Act.put, qA, qB, qC]))
    | ((with_reducible refine atDst 16 ?_); refine wpList_ldMidG rfl 43 _ rfl w.heap.size 1 rfl (wds s) _ RS.out Tryz.underlying43 rfl (size_set s) ?_; (try simp only [Act.put, qA, qB, qC]))
    | ((with_reducible refine atDst 17 ?_); refine wpList_bld rfl 43 _ rfl (wds zs) HBS.out ?_; (try simp only [Act.put, qA, qB, qC]))
    | ((with_reducible refine atDst 18 ?_); refine wpList_eqSet_is rfl HEQ.out 43 41 (.tmp 16) (.tmp 17) 43 rfl guardSet Tryz.underlying43 Tryz.underlying41 sizeU64 rfl rfl ?_; (try simp only [Act.put, qA, qB, qC])))
   go_ret
   rw [HR.out]
   exact ⟨rfl, B1.out⟩
  | false =>
   by_cases hn : n = 0
   ·have HR := qH (show q = true by rw [← HQ.out]; (unfold countT; rw [if_pos rfl, HEZ.out]; simp [hn]))
    have n1 : ((n : Int) == 0) = true := by rw [beq_iff_eq]; omega
    go_wp2_with (first
     | ((with_reducible refine atDst 1 ?_); refine wpList_box rfl 46 _ rfl cs rfl (Below.refl w.heap.size w) (Nat.le_refl _) ?_; intro w1 hk1 hb1 hs1 _; have K1 := qH hk1; have B1 := qH hb1; have k0 := hk1.cell 0; rw [HC0.out] at k0; have k5 := hk1.cell 5; rw [HC5.out] at k5; have RS := qH (set_range' HCS.out hk1); clear hk1 hb1 hs1; (try simp only [Act.put, qA, qB, qC]))
     | ((with_reducible refine atDst 16 ?_); refine wpList_ldMidG rfl 43 _ rfl w.heap.size 1 rfl (wds s) _ RS.out Tryz.underlying43 rfl (size_set s) ?_; (try simp only [Act.put, qA, qB, qC]))
     | ((with_reducible refine atDst 17 ?_); refine wpList_bld rfl 43 _ rfl (wds zs) HBS.out ?_; (try simp only [Act.put, qA, qB, qC]))
     | ((with_reducible refine atDst 18 ?_); refine wpList_eqSet_is rfl HEQ.out 43 41 (.tmp 16) (.tmp 17) 43 rfl guardSet Tryz.underlying43 Tryz.underlying41 sizeU64 rfl rfl ?_; (try simp only [Act.put, qA, qB, qC])))
    go_ret
    rw [HR.out]
    exact ⟨rfl, B1.out⟩
   ·have HR := qH (show q = false by rw [← HQ.out]; (unfold countT; rw [if_pos rfl, HEZ.out]; simp [hn]))
    have n1 : ((n : Int) == 0) = false := by rw [beq_eq_false_iff_ne]; omega
    go_wp2_with (first
     | ((with_reducible refine atDst 1 ?_); refine wpList_box rfl 46 _ rfl cs rfl (Below.refl w.heap.size w) (Nat.le_refl _) ?_; intro w1 hk1 hb1 hs1 _; have K1 := qH hk1; have B1 := qH hb1; have k0 := hk1.cell 0; rw [HC0.out] at k0; have k5 := hk1.cell 5; rw [HC5.out] at k5; have RS := qH (set_range' HCS.out hk1); clear hk1 hb1 hs1; (try simp only [Act.put, qA, qB, qC]))
     | ((with_reducible refine atDst 16 ?_); refine wpList_ldMidG rfl 43 _ rfl w.heap.size 1 rfl (wds s) _ RS.out Tryz.underlying43 rfl (size_set s) ?_; (try simp only [Act.put, qA, qB, qC]))
     | ((with_reducible refine atDst 17 ?_); refine wpList_bld rfl 43 _ rfl (wds zs) HBS.out ?_; (try simp only [Act.put, qA, qB, qC]))
     | ((with_reducible refine atDst 18 ?_); refine wpList_eqSet_is rfl HEQ.out 43 41 (.tmp 16) (.tmp 17) 43 rfl guardSet Tryz.underlying43 Tryz.underlying41 sizeU64 rfl rfl ?_; (try simp only [Act.put, qA, qB, qC])))
    go_ret
    rw [HR.out]
    exact ⟨rfl, B1.out⟩
 by_cases h1 : k = 1
 ·subst h1
  by_cases hn : n = 0
  ·have HR := qH (show q = true by rw [← HQ.out]; (unfold countT; simp [hn]))
   have n1 : ((n : Int) == 0) = true := by rw [beq_iff_eq]; omega
   go_wp2_with (first
    | ((with_reducible refine atDst 1 ?_); refine wpList_box rfl 46 _ rfl cs rfl (Below.refl w.heap.size w) (Nat.le_refl _) ?_; intro w1 hk1 hb1 hs1 _; have K1 := qH hk1; have B1 := qH hb1; have k0 := hk1.cell 0; rw [HC0.out] at k0; have k5 := hk1.cell 5; rw [HC5.out] at k5; have RS := qH (set_range' HCS.out hk1); clear hk1 hb1 hs1; (try simp only [Act.put, qA, qB, qC]))
    | ((with_reducible refine atDst 16 ?_); refine wpList_ldMidG rfl 43 _ rfl w.heap.size 1 rfl (wds s) _ RS.out Tryz.underlying43 rfl (size_set s) ?_; (try simp only [Act.put, qA, qB, qC]))
    | ((with_reducible refine atDst 17 ?_); refine wpList_bld rfl 43 _ rfl (wds zs) HBS.out ?_; (try simp only [Act.put, qA, qB, qC]))
    | ((with_reducible refine atDst 18 ?_); refine wpList_eqSet_is rfl HEQ.out 43 41 (.tmp 16) (.tmp 17) 43 rfl guardSet Tryz.underlying43 Tryz.underlying41 sizeU64 rfl rfl ?_; (try simp only [Act.put, qA, qB, qC])))
   go_ret
   rw [HR.out]
   exact ⟨rfl, B1.out⟩
  ·have HR := qH (show q = false by rw [← HQ.out]; (unfold countT; simp [hn]))
   have n1 : ((n : Int) == 0) = false := by rw [beq_eq_false_iff_ne]; omega
   go_wp2_with (first
    | ((with_reducible refine atDst 1 ?_); refine wpList_box rfl 46 _ rfl cs rfl (Below.refl w.heap.size w) (Nat.le_refl _) ?_; intro w1 hk1 hb1 hs1 _; have K1 := qH hk1; have B1 := qH hb1; have k0 := hk1.cell 0; rw [HC0.out] at k0; have k5 := hk1.cell 5; rw [HC5.out] at k5; have RS := qH (set_range' HCS.out hk1); clear hk1 hb1 hs1; (try simp only [Act.put, qA, qB, qC]))
    | ((with_reducible refine atDst 16 ?_); refine wpList_ldMidG rfl 43 _ rfl w.heap.size 1 rfl (wds s) _ RS.out Tryz.underlying43 rfl (size_set s) ?_; (try simp only [Act.put, qA, qB, qC]))
    | ((with_reducible refine atDst 17 ?_); refine wpList_bld rfl 43 _ rfl (wds zs) HBS.out ?_; (try simp only [Act.put, qA, qB, qC]))
    | ((with_reducible refine atDst 18 ?_); refine wpList_eqSet_is rfl HEQ.out 43 41 (.tmp 16) (.tmp 17) 43 rfl guardSet Tryz.underlying43 Tryz.underlying41 sizeU64 rfl rfl ?_; (try simp only [Act.put, qA, qB, qC])))
   go_ret
   rw [HR.out]
   exact ⟨rfl, B1.out⟩
 by_cases h2 : k = 2
 ·subst h2
  by_cases hn : n = 0
  ·have HR := qH (show q = true by rw [← HQ.out]; (unfold countT; simp [hn]))
   have n1 : ((n : Int) == 0) = true := by rw [beq_iff_eq]; omega
   go_wp2_with (first
    | ((with_reducible refine atDst 1 ?_); refine wpList_box rfl 46 _ rfl cs rfl (Below.refl w.heap.size w) (Nat.le_refl _) ?_; intro w1 hk1 hb1 hs1 _; have K1 := qH hk1; have B1 := qH hb1; have k0 := hk1.cell 0; rw [HC0.out] at k0; have k5 := hk1.cell 5; rw [HC5.out] at k5; have RS := qH (set_range' HCS.out hk1); clear hk1 hb1 hs1; (try simp only [Act.put, qA, qB, qC]))
    | ((with_reducible refine atDst 16 ?_); refine wpList_ldMidG rfl 43 _ rfl w.heap.size 1 rfl (wds s) _ RS.out Tryz.underlying43 rfl (size_set s) ?_; (try simp only [Act.put, qA, qB, qC]))
    | ((with_reducible refine atDst 17 ?_); refine wpList_bld rfl 43 _ rfl (wds zs) HBS.out ?_; (try simp only [Act.put, qA, qB, qC]))
    | ((with_reducible refine atDst 18 ?_); refine wpList_eqSet_is rfl HEQ.out 43 41 (.tmp 16) (.tmp 17) 43 rfl guardSet Tryz.underlying43 Tryz.underlying41 sizeU64 rfl rfl ?_; (try simp only [Act.put, qA, qB, qC])))
   go_ret
   rw [HR.out]
   exact ⟨rfl, B1.out⟩
  ·have HR := qH (show q = false by rw [← HQ.out]; (unfold countT; simp [hn]))
   have n1 : ((n : Int) == 0) = false := by rw [beq_eq_false_iff_ne]; omega
   go_wp2_with (first
    | ((with_reducible refine atDst 1 ?_); refine wpList_box rfl 46 _ rfl cs rfl (Below.refl w.heap.size w) (Nat.le_refl _) ?_; intro w1 hk1 hb1 hs1 _; have K1 := qH hk1; have B1 := qH hb1; have k0 := hk1.cell 0; rw [HC0.out] at k0; have k5 := hk1.cell 5; rw [HC5.out] at k5; have RS := qH (set_range' HCS.out hk1); clear hk1 hb1 hs1; (try simp only [Act.put, qA, qB, qC]))
    | ((with_reducible refine atDst 16 ?_); refine wpList_ldMidG rfl 43 _ rfl w.heap.size 1 rfl (wds s) _ RS.out Tryz.underlying43 rfl (size_set s) ?_; (try simp only [Act.put, qA, qB, qC]))
    | ((with_reducible refine atDst 17 ?_); refine wpList_bld rfl 43 _ rfl (wds zs) HBS.out ?_; (try simp only [Act.put, qA, qB, qC]))
    | ((with_reducible refine atDst 18 ?_); refine wpList_eqSet_is rfl HEQ.out 43 41 (.tmp 16) (.tmp 17) 43 rfl guardSet Tryz.underlying43 Tryz.underlying41 sizeU64 rfl rfl ?_; (try simp only [Act.put, qA, qB, qC])))
   go_ret
   rw [HR.out]
   exact ⟨rfl, B1.out⟩
 by_cases h4 : k = 4
 ·subst h4
  by_cases hn : 2 ≤ n
  ·have HR := qH (show q = true by rw [← HQ.out]; unfold countT; simp [hn])
   have n1 : (n : Int) ≥ 2 := by omega
   go_wp2_with (first
    | ((with_reducible refine atDst 1 ?_); refine wpList_box rfl 46 _ rfl cs rfl (Below.refl w.heap.size w) (Nat.le_refl _) ?_; intro w1 hk1 hb1 hs1 _; have K1 := qH hk1; have B1 := qH hb1; have k0 := hk1.cell 0; rw [HC0.out] at k0; have k5 := hk1.cell 5; rw [HC5.out] at k5; have RS := qH (set_range' HCS.out hk1); clear hk1 hb1 hs1; (try simp only [Act.put, qA, qB, qC]))
    | ((with_reducible refine atDst 16 ?_); refine wpList_ldMidG rfl 43 _ rfl w.heap.size 1 rfl (wds s) _ RS.out Tryz.underlying43 rfl (size_set s) ?_; (try simp only [Act.put, qA, qB, qC]))
    | ((with_reducible refine atDst 17 ?_); refine wpList_bld rfl 43 _ rfl (wds zs) HBS.out ?_; (try simp only [Act.put, qA, qB, qC]))
    | ((with_reducible refine atDst 18 ?_); refine wpList_eqSet_is rfl HEQ.out 43 41 (.tmp 16) (.tmp 17) 43 rfl guardSet Tryz.underlying43 Tryz.underlying41 sizeU64 rfl rfl ?_; (try simp only [Act.put, qA, qB, qC])))
   go_ret
   rw [HR.out]
   exact ⟨rfl, B1.out⟩
  ·have HR := qH (show q = false by rw [← HQ.out]; unfold countT; simp; omega)
   have n1 : ¬ ((n : Int) ≥ 2) := by omega
   go_wp2_with (first
    | ((with_reducible refine atDst 1 ?_); refine wpList_box rfl 46 _ rfl cs rfl (Below.refl w.heap.size w) (Nat.le_refl _) ?_; intro w1 hk1 hb1 hs1 _; have K1 := qH hk1; have B1 := qH hb1; have k0 := hk1.cell 0; rw [HC0.out] at k0; have k5 := hk1.cell 5; rw [HC5.out] at k5; have RS := qH (set_range' HCS.out hk1); clear hk1 hb1 hs1; (try simp only [Act.put, qA, qB, qC]))
    | ((with_reducible refine atDst 16 ?_); refine wpList_ldMidG rfl 43 _ rfl w.heap.size 1 rfl (wds s) _ RS.out Tryz.underlying43 rfl (size_set s) ?_; (try simp only [Act.put, qA, qB, qC]))
    | ((with_reducible refine atDst 17 ?_); refine wpList_bld rfl 43 _ rfl (wds zs) HBS.out ?_; (try simp only [Act.put, qA, qB, qC]))
    | ((with_reducible refine atDst 18 ?_); refine wpList_eqSet_is rfl HEQ.out 43 41 (.tmp 16) (.tmp 17) 43 rfl guardSet Tryz.underlying43 Tryz.underlying41 sizeU64 rfl rfl ?_; (try simp only [Act.put, qA, qB, qC])))
   go_ret
   rw [HR.out]
   exact ⟨rfl, B1.out⟩
 by_cases h5 : k = 5
 ·subst h5
  by_cases hn : 2 ≤ n
  ·have HR := qH (show q = true by rw [← HQ.out]; unfold countT; simp [hn])
   have n1 : (n : Int) ≥ 2 := by omega
   go_wp2_with (first
    | ((with_reducible refine atDst 1 ?_); refine wpList_box rfl 46 _ rfl cs rfl (Below.refl w.heap.size w) (Nat.le_refl _) ?_; intro w1 hk1 hb1 hs1 _; have K1 := qH hk1; have B1 := qH hb1; have k0 := hk1.cell 0; rw [HC0.out] at k0; have k5 := hk1.cell 5; rw [HC5.out] at k5; have RS := qH (set_range' HCS.out hk1); clear hk1 hb1 hs1; (try simp only [Act.put, qA, qB, qC]))
    | ((with_reducible refine atDst 16 ?_); refine wpList_ldMidG rfl 43 _ rfl w.heap.size 1 rfl (wds s) _ RS.out Tryz.underlying43 rfl (size_set s) ?_; (try simp only [Act.put, qA, qB, qC]))
    | ((with_reducible refine atDst 17 ?_); refine wpList_bld rfl 43 _ rfl (wds zs) HBS.out ?_; (try simp only [Act.put, qA, qB, qC]))
    | ((with_reducible refine atDst 18 ?_); refine wpList_eqSet_is rfl HEQ.out 43 41 (.tmp 16) (.tmp 17) 43 rfl guardSet Tryz.underlying43 Tryz.underlying41 sizeU64 rfl rfl ?_; (try simp only [Act.put, qA, qB, qC])))
   go_ret
   rw [HR.out]
   exact ⟨rfl, B1.out⟩
  ·have HR := qH (show q = false by rw [← HQ.out]; unfold countT; simp; omega)
   have n1 : ¬ ((n : Int) ≥ 2) := by omega
   go_wp2_with (first
    | ((with_reducible refine atDst 1 ?_); refine wpList_box rfl 46 _ rfl cs rfl (Below.refl w.heap.size w) (Nat.le_refl _) ?_; intro w1 hk1 hb1 hs1 _; have K1 := qH hk1; have B1 := qH hb1; have k0 := hk1.cell 0; rw [HC0.out] at k0; have k5 := hk1.cell 5; rw [HC5.out] at k5; have RS := qH (set_range' HCS.out hk1); clear hk1 hb1 hs1; (try simp only [Act.put, qA, qB, qC]))
    | ((with_reducible refine atDst 16 ?_); refine wpList_ldMidG rfl 43 _ rfl w.heap.size 1 rfl (wds s) _ RS.out Tryz.underlying43 rfl (size_set s) ?_; (try simp only [Act.put, qA, qB, qC]))
    | ((with_reducible refine atDst 17 ?_); refine wpList_bld rfl 43 _ rfl (wds zs) HBS.out ?_; (try simp only [Act.put, qA, qB, qC]))
    | ((with_reducible refine atDst 18 ?_); refine wpList_eqSet_is rfl HEQ.out 43 41 (.tmp 16) (.tmp 17) 43 rfl guardSet Tryz.underlying43 Tryz.underlying41 sizeU64 rfl rfl ?_; (try simp only [Act.put, qA, qB, qC])))
   go_ret
   rw [HR.out]
   exact ⟨rfl, B1.out⟩
 by_cases h6 : k = 6
 ·subst h6
  by_cases hn : n = 1
  ·have HR := qH (show q = true by rw [← HQ.out]; (unfold countT; simp [hn]))
   have n1 : ((n : Int) == 1) = true := by rw [beq_iff_eq]; omega
   go_wp2_with (first
    | ((with_reducible refine atDst 1 ?_); refine wpList_box rfl 46 _ rfl cs rfl (Below.refl w.heap.size w) (Nat.le_refl _) ?_; intro w1 hk1 hb1 hs1 _; have K1 := qH hk1; have B1 := qH hb1; have k0 := hk1.cell 0; rw [HC0.out] at k0; have k5 := hk1.cell 5; rw [HC5.out] at k5; have RS := qH (set_range' HCS.out hk1); clear hk1 hb1 hs1; (try simp only [Act.put, qA, qB, qC]))
    | ((with_reducible refine atDst 16 ?_); refine wpList_ldMidG rfl 43 _ rfl w.heap.size 1 rfl (wds s) _ RS.out Tryz.underlying43 rfl (size_set s) ?_; (try simp only [Act.put, qA, qB, qC]))
    | ((with_reducible refine atDst 17 ?_); refine wpList_bld rfl 43 _ rfl (wds zs) HBS.out ?_; (try simp only [Act.put, qA, qB, qC]))
    | ((with_reducible refine atDst 18 ?_); refine wpList_eqSet_is rfl HEQ.out 43 41 (.tmp 16) (.tmp 17) 43 rfl guardSet Tryz.underlying43 Tryz.underlying41 sizeU64 rfl rfl ?_; (try simp only [Act.put, qA, qB, qC])))
   go_ret
   rw [HR.out]
   exact ⟨rfl, B1.out⟩
  ·have HR := qH (show q = false by rw [← HQ.out]; (unfold countT; simp [hn]))
   have n1 : ((n : Int) == 1) = false := by rw [beq_eq_false_iff_ne]; omega
   go_wp2_with (first
    | ((with_reducible refine atDst 1 ?_); refine wpList_box rfl 46 _ rfl cs rfl (Below.refl w.heap.size w) (Nat.le_refl _) ?_; intro w1 hk1 hb1 hs1 _; have K1 := qH hk1; have B1 := qH hb1; have k0 := hk1.cell 0; rw [HC0.out] at k0; have k5 := hk1.cell 5; rw [HC5.out] at k5; have RS := qH (set_range' HCS.out hk1); clear hk1 hb1 hs1; (try simp only [Act.put, qA, qB, qC]))
    | ((with_reducible refine atDst 16 ?_); refine wpList_ldMidG rfl 43 _ rfl w.heap.size 1 rfl (wds s) _ RS.out Tryz.underlying43 rfl (size_set s) ?_; (try simp only [Act.put, qA, qB, qC]))
    | ((with_reducible refine atDst 17 ?_); refine wpList_bld rfl 43 _ rfl (wds zs) HBS.out ?_; (try simp only [Act.put, qA, qB, qC]))
    | ((with_reducible refine atDst 18 ?_); refine wpList_eqSet_is rfl HEQ.out 43 41 (.tmp 16) (.tmp 17) 43 rfl guardSet Tryz.underlying43 Tryz.underlying41 sizeU64 rfl rfl ?_; (try simp only [Act.put, qA, qB, qC])))
   go_ret
   rw [HR.out]
   exact ⟨rfl, B1.out⟩
 ·have HR := qH (show q = false by rw [← HQ.out]; unfold countT; simp [h1, h2, h3, h4, h5, h6])
  go_wp2_with (first
   | ((with_reducible refine atDst 1 ?_); refine wpList_box rfl 46 _ rfl cs rfl (Below.refl w.heap.size w) (Nat.le_refl _) ?_; intro w1 hk1 hb1 hs1 _; have K1 := qH hk1; have B1 := qH hb1; have k0 := hk1.cell 0; rw [HC0.out] at k0; have k5 := hk1.cell 5; rw [HC5.out] at k5; have RS := qH (set_range' HCS.out hk1); clear hk1 hb1 hs1; (try simp only [Act.put, qA, qB, qC]))
   | ((with_reducible refine atDst 16 ?_); refine wpList_ldMidG rfl 43 _ rfl w.heap.size 1 rfl (wds s) _ RS.out Tryz.underlying43 rfl (size_set s) ?_; (try simp only [Act.put, qA, qB, qC]))
   | ((with_reducible refine atDst 17 ?_); refine wpList_bld rfl 43 _ rfl (wds zs) HBS.out ?_; (try simp only [Act.put, qA, qB, qC]))
   | ((with_reducible refine atDst 18 ?_); refine wpList_eqSet_is rfl HEQ.out 43 41 (.tmp 16) (.tmp 17) 43 rfl guardSet Tryz.underlying43 Tryz.underlying41 sizeU64 rfl rfl ?_; (try simp only [Act.put, qA, qB, qC])))
  go_ret
  rw [HR.out]
  exact ⟨rfl, B1.out⟩
theorem rx_kind {B : Nat} {w : World} {cs : List Value} {t : T} (h : RxV B w cs t) : cs[0]? = some (.int .i64 t.kind) := by
 cases t with
 | node k s l =>
  obtain ⟨A, cap, f, rfl, _⟩ := h.opened
  rfl
set_option maxHeartbeats 4000000 in
set_option maxRecDepth 1000000 in
theorem rxFollows_any (a b : T) (hM : b.nodes ≤ 1099511627776) (cs ds : List Value) (w : World) (ha : RxV w.heap.size w cs a) (hb : RxV w.heap.size w ds b) :
  Calls Tryz.prog 79 #[.agg cs.toArray, .agg ds.toArray] w fun e w' => e = .returned (.bool (folT a b)) ∧ Below w.heap.size w w' := by
 obtain ⟨q, hq⟩ : ∃ q, folT a b = q := ⟨_, rfl⟩
 have HQ := qH hq
 have VA := qH ha
 have VB := qH hb
 have HC6 := qH ha.length
 have HD6 := qH hb.length
 have HC0 := qH (rx_kind ha)
 have HD0 := qH (rx_kind hb)
 have HM := qH hM
 rw [hq]
 clear hq ha hb hM
 go_enter Tryz.func79, Tryz.ntmps79
 go_wp2_with (first
  | ((with_reducible refine atDst 2 ?_); refine wpList_box rfl 46 _ rfl cs rfl (Below.refl w.heap.size w) (Nat.le_refl _) ?_; intro w1 hk1 hb1 hs1 _; have K1 := qH hk1; have B1 := qH hb1; clear hk1 hb1 hs1; (try simp only [Act.put, qA, qB, qC]))
  | ((with_reducible refine atDst 3 ?_); refine wpList_box rfl 46 _ rfl ds rfl (Below.refl w1.heap.size w1) (Nat.le_refl _) ?_; intro w2 hk2 hb2 hs2 _; have K2 := qH hk2; have B2 := qH hb2; have K12 := qH (K1.out.below hb2 K1.out.lt); have BW2 := qH (B1.out.trans (hb2.mono B1.out.size)); clear hk2 hb2 hs2; (try simp only [Act.put, qA, qB, qC]))
  | ((with_reducible refine atDst 5 ?_); refine wpList_ldBlk rfl 46 _ rfl w1.heap.size rfl 46 _ _ K2.out Tryz.underlying46 rfl (size_rx HD6.out) ?_; (try simp only [Act.put, qA, qB, qC]))
  | ((with_reducible refine atDst 6 ?_); refine wpList_ldBlk rfl 46 _ rfl w.heap.size rfl 46 _ _ K12.out Tryz.underlying46 rfl (size_rx HC6.out) ?_; (try simp only [Act.put, qA, qB, qC])))
 refine (rxCompare_gr _ b a (Nat.le_refl _) HM.out ds cs w2 ((VB.out.stay BW2.out).mono BW2.out.size) ((VA.out.stay BW2.out).mono BW2.out.size)).mono ?_
 rintro e w3 ⟨rfl, hg3⟩
 have B3 := qH (BW2.out.trans (hg3.below.mono BW2.out.size))
 have c0 := (K12.out.below hg3.below K12.out.lt).cell 0
 rw [HC0.out] at c0
 have d0 := (K2.out.below hg3.below K2.out.lt).cell 0
 rw [HD0.out] at d0
 clear hg3
 obtain ⟨x, hx⟩ : ∃ x, cmpT b a = x := ⟨_, rfl⟩
 obtain ⟨ka, hka⟩ : ∃ x, a.kind = x := ⟨_, rfl⟩
 obtain ⟨kb, hkb⟩ : ∃ x, b.kind = x := ⟨_, rfl⟩
 rw [hx]
 rw [hka] at c0
 rw [hkb] at d0
 have HF := qH (show (decide (x < 0) && !(decide (ka = 3) && decide (kb = 3))) = q by rw [← HQ.out]; unfold folT; rw [hx, hka, hkb])
 clear hx hka hkb
 by_cases h1 : x < 0
 ·by_cases h2 : ka = 3
  ·by_cases h3 : kb = 3
   ·have HR := qH (show q = false by rw [← HF.out]; simp [h1, h2, h3])
    have n1 : (ka == 3) = true := by rw [beq_iff_eq]; exact h2
    have n2 : (kb == 3) = true := by rw [beq_iff_eq]; exact h3
    clear h2 h3
    go_wp2_with fail
    go_ret
    rw [HR.out]
    exact ⟨rfl, B3.out⟩
   ·have HR := qH (show q = true by rw [← HF.out]; simp [h1, h2, h3])
    have n1 : (ka == 3) = true := by rw [beq_iff_eq]; exact h2
    have n2 : (kb == 3) = false := by rw [beq_eq_false_iff_ne]; exact h3
    clear h2 h3
    go_wp2_with fail
    go_ret
    rw [HR.out]
    exact ⟨rfl, B3.out⟩
  ·have HR := qH (show q = true by rw [← HF.out]; simp [h1, h2])
   have n1 : (ka == 3) = false := by rw [beq_eq_false_iff_ne]; exact h2
   clear h2
   go_wp2_with fail
   go_ret
   rw [HR.out]
   exact ⟨rfl, B3.out⟩
 ·have HR := qH (show q = false by rw [← HF.out]; simp [h1])
  go_wp2_with fail
  go_ret
  rw [HR.out]
  exact ⟨rfl, B3.out⟩
end Go.Proofs.YteadghoojeehlaaGreatDoor
