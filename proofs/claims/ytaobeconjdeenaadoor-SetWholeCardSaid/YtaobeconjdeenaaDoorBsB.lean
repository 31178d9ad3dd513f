/-
  What package byteset (Or, And, Not, below, Range) answers and leaves. No statement is proved here.
-/
import Derived.Test.YtaobeconjdeenaaDoorBsA
namespace Go.Proofs.YtaobeconjdeenaaDoor
open Go.RowKit
set_option linter.unusedSimpArgs false
set_option linter.unusedVariables false

/-- What a set has below its word j. -/
def cutW (r : Nat → Bool) (j : Nat) : Nat → Bool := fun b => decide (b < 64 * j) && r b
theorem cutW_zero (r : Nat → Bool) : cutW r 0 = fun _ => false := by
  funext b
  simp [cutW]
theorem cutW_four (r : Nat → Bool) : wds (cutW r 4) = wds r := wds_congr fun b hb => by simp [cutW]; omega
theorem cutW_same (r : Nat → Bool) {i j : Nat} (h : i ≠ j) : word (cutW r j) i = word (cutW r (j + 1)) i := wd_congr fun k hk => by
  have : decide (64 * i + k < 64 * j) = decide (64 * i + k < 64 * (j + 1)) := decide_eq_decide.2 (by omega)
  simp only [cutW, this]
theorem cutW_here (r : Nat → Bool) (j : Nat) : word (cutW r (j + 1)) j = word r j := wd_congr fun k hk => by
  have : decide (64 * j + k < 64 * (j + 1)) = true := decide_eq_true (by omega)
  simp only [cutW, this, Bool.true_and]
theorem cutW_next (r : Nat → Bool) (j : Nat) (hj : j < 4) : (wds (cutW r j)).set j (.int .u64 (word r j : Int)) = wds (cutW r (j + 1)) := by
  rw [← cutW_here r j]
  match j, hj with
  | 0, _ => simp only [wds, List.set_cons_zero]; rw [cutW_same r (i := 1) (j := 0) (by omega), cutW_same r (i := 2) (j := 0) (by omega), cutW_same r (i := 3) (j := 0) (by omega)]
  | 1, _ => simp only [wds, List.set_cons_zero, List.set_cons_succ]; rw [cutW_same r (i := 0) (j := 1) (by omega), cutW_same r (i := 2) (j := 1) (by omega), cutW_same r (i := 3) (j := 1) (by omega)]
  | 2, _ => simp only [wds, List.set_cons_zero, List.set_cons_succ]; rw [cutW_same r (i := 0) (j := 2) (by omega), cutW_same r (i := 1) (j := 2) (by omega), cutW_same r (i := 3) (j := 2) (by omega)]
  | 3, _ => simp only [wds, List.set_cons_zero, List.set_cons_succ]; rw [cutW_same r (i := 0) (j := 3) (by omega), cutW_same r (i := 1) (j := 3) (by omega), cutW_same r (i := 2) (j := 3) (by omega)]
theorem word_not (p : Nat → Bool) (i : Nat) : (18446744073709551615 : Nat) ^^^ word p i = word (fun b => !p b) i := by
  rw [show (18446744073709551615 : Nat) = 2 ^ 64 - 1 from rfl]
  apply Nat.eq_of_testBit_eq
  intro j
  rw [Nat.testBit_xor, Nat.testBit_two_pow_sub_one]
  simp only [word, wd_bit]
  cases decide (j < 64) <;> simp
theorem word_low (n i : Nat) (k : Nat) (hk : k = min (n - 64 * i) 64) : 2 ^ k - 1 = word (fun b => decide (b < n)) i := by
  apply Nat.eq_of_testBit_eq
  intro j
  rw [Nat.testBit_two_pow_sub_one]
  simp only [word, wd_bit]
  rw [← Bool.decide_and, decide_eq_decide]
  omega

theorem low_val (n j k : Nat) (hk : k = min (n - 64 * j) 64) (hn : n ≤ 256) (hj : j < 4) :
    IntKind.u64.wrap (IntKind.u64.wrap (2 ^ (if 64 < if (n : Int) - (j : Int) * 64 < 0 then 0 else (n : Int) - (j : Int) * 64 then (64 : Int) else if (n : Int) - (j : Int) * 64 < 0 then 0 else (n : Int) - (j : Int) * 64).toNat) - 1) = ((2 ^ k - 1 : Nat) : Int) := by
  have e : (if 64 < if (n : Int) - (j : Int) * 64 < 0 then 0 else (n : Int) - (j : Int) * 64 then (64 : Int) else if (n : Int) - (j : Int) * 64 < 0 then 0 else (n : Int) - (j : Int) * 64).toNat = k := by
    rw [hk]
    split <;> split at * <;> omega
  rw [e]
  have e2 : (2 ^ k : Int) = ((2 ^ k : Nat) : Int) := by rw [Int.natCast_pow]; rfl
  rw [e2]
  by_cases h64 : k = 64
  · rw [h64]
    decide
  · have h : 2 ^ k < 2 ^ 64 := Nat.pow_lt_pow_right (by omega) (by omega)
    have h0 : 0 < 2 ^ k := Nat.pow_pos (by omega)
    generalize 2 ^ k = y at h h0
    rw [IntWalk.u64_in (y : Int) (by omega), IntWalk.u64_in _ (by omega)]
    omega

set_option maxHeartbeats 2000000 in
set_option maxRecDepth 100000 in
theorem bsOr_any (p q : Nat → Bool) (w : World) :
    Calls Tryd.prog 15 #[.agg (wds p).toArray, .agg (wds q).toArray] w fun e w' => e = .returned (.agg (wds fun b => Bool.or (p b) (q b)).toArray) ∧ Below w.heap.size w w' := by
  obtain ⟨r, hr⟩ : ∃ r : Nat → Bool, r = fun b => Bool.or (p b) (q b) := ⟨_, rfl⟩
  have HOP := Lib.hid (show ∀ i, HOr.hOr (word p i) (word q i) = word r i from fun i => by rw [hr]; exact word_or p q i)
  rw [← hr]
  clear hr
  obtain ⟨i0, hi0, hz0⟩ := info_set
  obtain ⟨z, hz⟩ : ∃ z : Nat → Bool, z = fun _ => false := ⟨_, rfl⟩
  rw [← hz] at hz0
  have HZ := Lib.hid hz
  clear hz
  go_enter Tryd.func15, Tryd.ntmps15
  go_wp2_with (first
    | ((with_reducible refine atDst 2 ?_); refine wpList_box rfl 24 _ rfl (wds p) rfl (Below.refl w.heap.size w) (Nat.le_refl _) ?_; intro w1 hk1 hb1 hs1 _; have K1 := Lib.hid hk1; have B1 := Lib.hid hb1; clear hk1 hb1 hs1)
    | ((with_reducible refine atDst 3 ?_); refine wpList_box rfl 24 _ rfl (wds q) rfl B1.out B1.out.size ?_; intro w2 hk2 hb2 hs2 ho2; have L2 := Lib.hid hk2; have B2 := Lib.hid hb2; have K2 := Lib.hid (show Blk w2 w.heap.size 24 (wds p) from (ho2 _ K1.out.lt).trans K1.out); clear hk2 hb2 hs2 ho2)
    | ((with_reducible refine atDst 4 ?_); refine wpList_new rfl 24 rfl i0 _ (wds z) hi0 hz0 rfl B2.out B2.out.size ?_; intro w3 hk3 hb3 hs3 ho3; have M3 := Lib.hid hk3; have B3 := Lib.hid hb3; have K3 := Lib.hid (show Blk w3 w.heap.size 24 (wds p) from (ho3 _ K2.out.lt).trans K2.out); have L3 := Lib.hid (show Blk w3 w1.heap.size 24 (wds q) from (ho3 _ L2.out.lt).trans L2.out); clear hk3 hb3 hs3 ho3))
  go_loopw [6] (fun i wl => ∃ j : Nat, j ≤ 4 ∧ i = .int .i64 (j : Int) ∧ Blk wl w2.heap.size 24 (wds (cutW r j)) ∧ Below w2.heap.size w3 wl) (fun i _ => 4 - (intOf i).toNat)
  case atStart => exact ⟨0, by omega, by simp, by rw [cutW_zero, ← HZ.out]; exact M3.out, Below.refl _ _⟩
  case round =>
    obtain ⟨j, hj, rfl, hk, hb⟩ := hrel
    have KR := Lib.hid hk
    have BR := Lib.hid hb
    clear hk hb
    by_cases hjl : j < 4
    · have j1 : (j : Int) < 4 := by omega
      have hcp := (K3.out.below BR.out K2.out.lt).cell j
      rw [wds_get p j hjl] at hcp
      have hcq := (L3.out.below BR.out L2.out.lt).cell j
      rw [wds_get q j hjl] at hcq
      have hfz := KR.out.frozen j
      have hcr := KR.out.cell j
      rw [wds_get _ j hjl] at hcr
      obtain ⟨x, hx⟩ : ∃ x, x = word p j := ⟨_, rfl⟩
      obtain ⟨y, hy⟩ : ∃ y, y = word q j := ⟨_, rfl⟩
      obtain ⟨z2, hz2⟩ : ∃ y, y = word (cutW r j) j := ⟨_, rfl⟩
      rw [← hx] at hcp
      rw [← hy] at hcq
      rw [← hz2] at hcr
      have hlx : x < 18446744073709551616 := by rw [hx]; exact word_lt _ _
      have hly : y < 18446744073709551616 := by rw [hy]; exact word_lt _ _
      have HXY := Lib.hid (show HOr.hOr x y = word r j by rw [hx, hy]; exact HOP.out j)
      clear hx hy hz2
      go_wp2_with fail
      go_still_tail 9, (by kernel_rfl)
      change wpList _ _ _ _ _ wr.drew
      go_wp2_with fail
      refine ⟨⟨j + 1, by omega, by congr 1, ?_, (BR.out.setCell (p := ⟨w2.heap.size, j, none⟩) (Nat.le_refl _) _).drew⟩, by simp [intOf] <;> omega⟩
      have hk := KR.out.set j (.int .u64 ((HOr.hOr x y : Nat) : Int))
      rw [HXY.out, cutW_next r j hjl] at hk
      rw [u64_or_nat x y hlx hly, HXY.out]
      exact hk.drew
    · obtain rfl : j = 4 := by omega
      have k9 := KR.out
      rw [cutW_four] at k9
      have K9 := Lib.hid k9
      have B9 := Lib.hid (B3.out.trans (BR.out.mono B2.out.size))
      clear k9 KR
      go_wp2_with (first
        | ((with_reducible refine atDst 19 ?_); refine wpList_ldArr rfl 24 _ rfl w2.heap.size rfl 24 _ _ K9.out Tryd.underlying24 rfl (size_set r) ?_)
        | ((with_reducible refine atStore 24 4 19 ?_); refine wpList_stBlk rfl 24 _ _ rfl w2.heap.size (wds r) rfl rfl 24 _ K9.out (size_set r) rfl (wds_all _) B9.out B2.out.size ?_; intro w4 hk4 hb4 hs4 _; have K4 := Lib.hid hk4; have B4 := Lib.hid hb4; clear hk4 hb4))
      refine bodyPost_ret (results_blk rfl _ _ w2.heap.size 24 _ _ rfl K4.out Tryd.underlying24 rfl (size_set r)) rfl ?_
      exact ⟨rfl, B4.out⟩
set_option maxHeartbeats 2000000 in
set_option maxRecDepth 100000 in
theorem bsAnd_any (p q : Nat → Bool) (w : World) :
    Calls Tryd.prog 17 #[.agg (wds p).toArray, .agg (wds q).toArray] w fun e w' => e = .returned (.agg (wds fun b => Bool.and (p b) (q b)).toArray) ∧ Below w.heap.size w w' := by
  obtain ⟨r, hr⟩ : ∃ r : Nat → Bool, r = fun b => Bool.and (p b) (q b) := ⟨_, rfl⟩
  have HOP := Lib.hid (show ∀ i, HAnd.hAnd (word p i) (word q i) = word r i from fun i => by rw [hr]; exact word_and p q i)
  rw [← hr]
  clear hr
  obtain ⟨i0, hi0, hz0⟩ := info_set
  obtain ⟨z, hz⟩ : ∃ z : Nat → Bool, z = fun _ => false := ⟨_, rfl⟩
  rw [← hz] at hz0
  have HZ := Lib.hid hz
  clear hz
  go_enter Tryd.func17, Tryd.ntmps17
  go_wp2_with (first
    | ((with_reducible refine atDst 2 ?_); refine wpList_box rfl 24 _ rfl (wds p) rfl (Below.refl w.heap.size w) (Nat.le_refl _) ?_; intro w1 hk1 hb1 hs1 _; have K1 := Lib.hid hk1; have B1 := Lib.hid hb1; clear hk1 hb1 hs1)
    | ((with_reducible refine atDst 3 ?_); refine wpList_box rfl 24 _ rfl (wds q) rfl B1.out B1.out.size ?_; intro w2 hk2 hb2 hs2 ho2; have L2 := Lib.hid hk2; have B2 := Lib.hid hb2; have K2 := Lib.hid (show Blk w2 w.heap.size 24 (wds p) from (ho2 _ K1.out.lt).trans K1.out); clear hk2 hb2 hs2 ho2)
    | ((with_reducible refine atDst 4 ?_); refine wpList_new rfl 24 rfl i0 _ (wds z) hi0 hz0 rfl B2.out B2.out.size ?_; intro w3 hk3 hb3 hs3 ho3; have M3 := Lib.hid hk3; have B3 := Lib.hid hb3; have K3 := Lib.hid (show Blk w3 w.heap.size 24 (wds p) from (ho3 _ K2.out.lt).trans K2.out); have L3 := Lib.hid (show Blk w3 w1.heap.size 24 (wds q) from (ho3 _ L2.out.lt).trans L2.out); clear hk3 hb3 hs3 ho3))
  go_loopw [6] (fun i wl => ∃ j : Nat, j ≤ 4 ∧ i = .int .i64 (j : Int) ∧ Blk wl w2.heap.size 24 (wds (cutW r j)) ∧ Below w2.heap.size w3 wl) (fun i _ => 4 - (intOf i).toNat)
  case atStart => exact ⟨0, by omega, by simp, by rw [cutW_zero, ← HZ.out]; exact M3.out, Below.refl _ _⟩
  case round =>
    obtain ⟨j, hj, rfl, hk, hb⟩ := hrel
    have KR := Lib.hid hk
    have BR := Lib.hid hb
    clear hk hb
    by_cases hjl : j < 4
    · have j1 : (j : Int) < 4 := by omega
      have hcp := (K3.out.below BR.out K2.out.lt).cell j
      rw [wds_get p j hjl] at hcp
      have hcq := (L3.out.below BR.out L2.out.lt).cell j
      rw [wds_get q j hjl] at hcq
      have hfz := KR.out.frozen j
      have hcr := KR.out.cell j
      rw [wds_get _ j hjl] at hcr
      obtain ⟨x, hx⟩ : ∃ x, x = word p j := ⟨_, rfl⟩
      obtain ⟨y, hy⟩ : ∃ y, y = word q j := ⟨_, rfl⟩
      obtain ⟨z2, hz2⟩ : ∃ y, y = word (cutW r j) j := ⟨_, rfl⟩
      rw [← hx] at hcp
      rw [← hy] at hcq
      rw [← hz2] at hcr
      have hlx : x < 18446744073709551616 := by rw [hx]; exact word_lt _ _
      have hly : y < 18446744073709551616 := by rw [hy]; exact word_lt _ _
      have HXY := Lib.hid (show HAnd.hAnd x y = word r j by rw [hx, hy]; exact HOP.out j)
      clear hx hy hz2
      go_wp2_with fail
      go_still_tail 9, (by kernel_rfl)
      change wpList _ _ _ _ _ wr.drew
      go_wp2_with fail
      refine ⟨⟨j + 1, by omega, by congr 1, ?_, (BR.out.setCell (p := ⟨w2.heap.size, j, none⟩) (Nat.le_refl _) _).drew⟩, by simp [intOf] <;> omega⟩
      have hk := KR.out.set j (.int .u64 ((HAnd.hAnd x y : Nat) : Int))
      rw [HXY.out, cutW_next r j hjl] at hk
      rw [u64_and_nat x y hlx hly, HXY.out]
      exact hk.drew
    · obtain rfl : j = 4 := by omega
      have k9 := KR.out
      rw [cutW_four] at k9
      have K9 := Lib.hid k9
      have B9 := Lib.hid (B3.out.trans (BR.out.mono B2.out.size))
      clear k9 KR
      go_wp2_with (first
        | ((with_reducible refine atDst 19 ?_); refine wpList_ldArr rfl 24 _ rfl w2.heap.size rfl 24 _ _ K9.out Tryd.underlying24 rfl (size_set r) ?_)
        | ((with_reducible refine atStore 24 4 19 ?_); refine wpList_stBlk rfl 24 _ _ rfl w2.heap.size (wds r) rfl rfl 24 _ K9.out (size_set r) rfl (wds_all _) B9.out B2.out.size ?_; intro w4 hk4 hb4 hs4 _; have K4 := Lib.hid hk4; have B4 := Lib.hid hb4; clear hk4 hb4))
      refine bodyPost_ret (results_blk rfl _ _ w2.heap.size 24 _ _ rfl K4.out Tryd.underlying24 rfl (size_set r)) rfl ?_
      exact ⟨rfl, B4.out⟩

set_option maxHeartbeats 2000000 in
set_option maxRecDepth 100000 in
theorem bsNot_any (p : Nat → Bool) (w : World) :
    Calls Tryd.prog 19 #[.agg (wds p).toArray] w fun e w' => e = .returned (.agg (wds fun b => !p b).toArray) ∧ Below w.heap.size w w' := by
  obtain ⟨r, hr⟩ : ∃ r : Nat → Bool, r = fun b => !p b := ⟨_, rfl⟩
  have HOP := Lib.hid (show ∀ i, (18446744073709551615 : Nat) ^^^ word p i = word r i from fun i => by rw [hr]; exact word_not p i)
  rw [← hr]
  clear hr
  obtain ⟨i0, hi0, hz0⟩ := info_set
  obtain ⟨z, hz⟩ : ∃ z : Nat → Bool, z = fun _ => false := ⟨_, rfl⟩
  rw [← hz] at hz0
  have HZ := Lib.hid hz
  clear hz
  go_enter Tryd.func19, Tryd.ntmps19
  go_wp2_with (first
    | ((with_reducible refine atDst 1 ?_); refine wpList_box rfl 24 _ rfl (wds p) rfl (Below.refl w.heap.size w) (Nat.le_refl _) ?_; intro w1 hk1 hb1 hs1 _; have K1 := Lib.hid hk1; have B1 := Lib.hid hb1; clear hk1 hb1 hs1)
    | ((with_reducible refine atDst 2 ?_); refine wpList_new rfl 24 rfl i0 _ (wds z) hi0 hz0 rfl B1.out B1.out.size ?_; intro w2 hk2 hb2 hs2 ho2; have M2 := Lib.hid hk2; have B2 := Lib.hid hb2; have K2 := Lib.hid (show Blk w2 w.heap.size 24 (wds p) from (ho2 _ K1.out.lt).trans K1.out); clear hk2 hb2 hs2 ho2))
  go_loopw [4] (fun i wl => ∃ j : Nat, j ≤ 4 ∧ i = .int .i64 (j : Int) ∧ Blk wl w1.heap.size 24 (wds (cutW r j)) ∧ Below w1.heap.size w2 wl) (fun i _ => 4 - (intOf i).toNat)
  case atStart => exact ⟨0, by omega, by simp, by rw [cutW_zero, ← HZ.out]; exact M2.out, Below.refl _ _⟩
  case round =>
    obtain ⟨j, hj, rfl, hk, hb⟩ := hrel
    have KR := Lib.hid hk
    have BR := Lib.hid hb
    clear hk hb
    by_cases hjl : j < 4
    · have j1 : (j : Int) < 4 := by omega
      have hcp := (K2.out.below BR.out K1.out.lt).cell j
      rw [wds_get p j hjl] at hcp
      have hfz := KR.out.frozen j
      have hcr := KR.out.cell j
      rw [wds_get _ j hjl] at hcr
      obtain ⟨x, hx⟩ : ∃ x, x = word p j := ⟨_, rfl⟩
      obtain ⟨z2, hz2⟩ : ∃ y, y = word (cutW r j) j := ⟨_, rfl⟩
      rw [← hx] at hcp
      rw [← hz2] at hcr
      have hlx : x < 18446744073709551616 := by rw [hx]; exact word_lt _ _
      have HXY := Lib.hid (show (18446744073709551615 : Nat) ^^^ x = word r j by rw [hx]; exact HOP.out j)
      clear hx hz2
      go_wp2_with fail
      refine ⟨⟨j + 1, by omega, by congr 1, ?_, (BR.out.setCell (p := ⟨w1.heap.size, j, none⟩) (Nat.le_refl _) _)⟩, by simp [intOf] <;> omega⟩
      have hk := KR.out.set j (.int .u64 ((18446744073709551615 ^^^ x : Nat) : Int))
      rw [HXY.out, cutW_next r j hjl] at hk
      have e0 : (if IntKind.u64.signed = true then (-1 : Int) else IntKind.u64.max) = ((18446744073709551615 : Nat) : Int) := by decide
      rw [e0, u64_xor_nat 18446744073709551615 x (by omega) hlx, HXY.out]
      exact hk
    · obtain rfl : j = 4 := by omega
      have k9 := KR.out
      rw [cutW_four] at k9
      have K9 := Lib.hid k9
      have B9 := Lib.hid (B2.out.trans (BR.out.mono B1.out.size))
      clear k9 KR
      go_wp2_with (first
        | ((with_reducible refine atDst 14 ?_); refine wpList_ldArr rfl 24 _ rfl w1.heap.size rfl 24 _ _ K9.out Tryd.underlying24 rfl (size_set r) ?_)
        | ((with_reducible refine atStore 24 2 14 ?_); refine wpList_stBlk rfl 24 _ _ rfl w1.heap.size (wds r) rfl rfl 24 _ K9.out (size_set r) rfl (wds_all _) B9.out B1.out.size ?_; intro w4 hk4 hb4 hs4 _; have K4 := Lib.hid hk4; have B4 := Lib.hid hb4; clear hk4 hb4))
      refine bodyPost_ret (results_blk rfl _ _ w1.heap.size 24 _ _ rfl K4.out Tryd.underlying24 rfl (size_set r)) rfl ?_
      exact ⟨rfl, B4.out⟩
set_option maxHeartbeats 2000000 in
set_option maxRecDepth 100000 in
theorem bsBelow_any (n : Nat) (w : World) (hn : n ≤ 256) :
    Calls Tryd.prog 30 #[.int .i64 (n : Int)] w fun e w' => e = .returned (.agg (wds fun b => decide (b < n)).toArray) ∧ Below w.heap.size w w' := by
  obtain ⟨r, hr⟩ : ∃ r : Nat → Bool, r = fun b => decide (b < n) := ⟨_, rfl⟩
  have HOP := Lib.hid (show ∀ i, (2 : Nat) ^ min (n - 64 * i) 64 - 1 = word r i from fun i => by rw [hr]; exact word_low n i _ rfl)
  rw [← hr]
  clear hr
  obtain ⟨i0, hi0, hz0⟩ := info_set
  obtain ⟨z, hz⟩ : ∃ z : Nat → Bool, z = fun _ => false := ⟨_, rfl⟩
  rw [← hz] at hz0
  have HZ := Lib.hid hz
  clear hz
  go_enter Tryd.func30, Tryd.ntmps30
  go_wp2_with ((with_reducible refine atDst 2 ?_); refine wpList_new rfl 24 rfl i0 _ (wds z) hi0 hz0 rfl (Below.refl w.heap.size w) (Nat.le_refl _) ?_; intro w2 hk2 hb2 hs2 ho2; have M2 := Lib.hid hk2; have B2 := Lib.hid hb2; clear hk2 hb2 hs2 ho2)
  go_loopw [4] (fun i wl => ∃ j : Nat, j ≤ 4 ∧ i = .int .i64 (j : Int) ∧ Blk wl w.heap.size 24 (wds (cutW r j)) ∧ Below w.heap.size w wl) (fun i _ => 4 - (intOf i).toNat)
  case atStart => exact ⟨0, by omega, by simp, by rw [cutW_zero, ← HZ.out]; exact M2.out, B2.out⟩
  case round =>
    obtain ⟨j, hj, rfl, hk, hb⟩ := hrel
    have KR := Lib.hid hk
    have BR := Lib.hid hb
    clear hk hb
    by_cases hjl : j < 4
    · have j1 : (j : Int) < 4 := by omega
      have hfz := KR.out.frozen j
      have hcr := KR.out.cell j
      rw [wds_get _ j hjl] at hcr
      obtain ⟨z2, hz2⟩ : ∃ y, y = word (cutW r j) j := ⟨_, rfl⟩
      rw [← hz2] at hcr
      obtain ⟨k, hk⟩ : ∃ k, k = min (n - 64 * j) 64 := ⟨_, rfl⟩
      have HXY := Lib.hid (show (2 : Nat) ^ k - 1 = word r j by rw [hk]; exact HOP.out j)
      have HN := Lib.hid hn
      have hw1 : IntKind.i64.wrap ((j : Int) * 64) = (j : Int) * 64 := IntWalk.i64_in _ (by omega)
      have hw2 : IntKind.i64.wrap ((n : Int) - (j : Int) * 64) = (n : Int) - (j : Int) * 64 := IntWalk.i64_in _ (by omega)
      have HKK := Lib.hid hk
      clear hz2 hk hn
      go_wp2_with fail
      refine ⟨⟨j + 1, by omega, by congr 1, ?_, (BR.out.setCell (p := ⟨w.heap.size, j, none⟩) (Nat.le_refl _) _)⟩, by simp [intOf] <;> omega⟩
      have hk := KR.out.set j (.int .u64 ((2 ^ k - 1 : Nat) : Int))
      rw [HXY.out, cutW_next r j hjl] at hk
      rw [low_val n j k HKK.out HN.out hjl, HXY.out]
      exact hk
    · obtain rfl : j = 4 := by omega
      have k9 := KR.out
      rw [cutW_four] at k9
      have K9 := Lib.hid k9
      clear k9 KR
      go_wp2_with (first
        | ((with_reducible refine atDst 18 ?_); refine wpList_ldArr rfl 24 _ rfl w.heap.size rfl 24 _ _ K9.out Tryd.underlying24 rfl (size_set r) ?_)
        | ((with_reducible refine atStore 24 2 18 ?_); refine wpList_stBlk rfl 24 _ _ rfl w.heap.size (wds r) rfl rfl 24 _ K9.out (size_set r) rfl (wds_all _) BR.out (Nat.le_refl _) ?_; intro w4 hk4 hb4 hs4 _; have K4 := Lib.hid hk4; have B4 := Lib.hid hb4; clear hk4 hb4))
      refine bodyPost_ret (results_blk rfl _ _ w.heap.size 24 _ _ rfl K4.out Tryd.underlying24 rfl (size_set r)) rfl ?_
      exact ⟨rfl, B4.out⟩

end Go.Proofs.YtaobeconjdeenaaDoor
