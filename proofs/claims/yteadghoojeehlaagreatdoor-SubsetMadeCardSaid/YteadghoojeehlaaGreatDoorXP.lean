/-
  Texts of this proof, put together: ThH, BsAh, BsA, BsO, BsB, SetCA, SetD, SetE, SetK. No statement is proved here.
-/
import Derived.Test.YteadghoojeehlaaGreatDoorXO
import Derived.Test.YteadghoojeehlaaGreatDoorXB
import Derived.Test.YteadghoojeehlaaGreatDoorXC
import Derived.Test.YteadghoojeehlaaGreatDoorXM
namespace Go.Proofs.YteadghoojeehlaaGreatDoor
open Go.RowKit
set_option linter.unusedSimpArgs false
set_option linter.unusedVariables false
theorem ld_u9 {ev : Operand → Value} {o : Oper} (x : Operand) (ho : o.op = .load 5 x) {p : Addr} (hx : ev x = .pointer (some p)) {k : Int} {W : World} (hc : W.cell? p = some (.int .u8 k)) : (execOp ev o).run Tryz.prog W = .ok (.value (.int .u8 k)) W := by
 simp only [execOp, ho, hx]
 go_simp
theorem has_bit2 (x k : Nat) (hx : x < 18446744073709551616) : (bits .and .u64 ((x : Int) / 2 ^ k) 1 == 1) = decide (x / 2 ^ k % 2 = 1) := by
 have e : (2 ^ k : Int) = ((2 ^ k : Nat) : Int) := by rw [Int.natCast_pow]; rfl
 have hlt : x / 2 ^ k < 18446744073709551616 := Nat.lt_of_le_of_lt (Nat.div_le_self _ _) hx
 rw [e, ← Int.natCast_ediv]
 generalize x / 2 ^ k = y at hlt
 rw [show (1 : Int) = ((1 : Nat) : Int) from rfl, u64_and_nat y 1 hlt (by omega), Nat.and_one_is_mod, Bool.eq_iff_iff, beq_iff_eq, decide_eq_true_iff]
 omega
set_option maxHeartbeats 2000000 in
set_option maxRecDepth 100000 in
theorem bsOf_any (v : Value) (l : List UInt8) (w : World) (hr : Row w v (bvs l)) (hl : l.length ≤ 1048576) :
  Calls Tryz.prog 68 #[v] w fun e w' => e = .returned (.agg (wds fun b => decide (UInt8.ofNat b ∈ l)).toArray) ∧ Below w.heap.size w w' := by
 have R0 := qH hr
 obtain ⟨A, cap, rfl, a1, a2, a0, a3⟩ := hr
 rw [bvs_length] at a1 R0 ⊢
 clear a3 a0 a2
 obtain ⟨i0, hi0, hz0⟩ := info_set
 obtain ⟨z, hz⟩ : ∃ z : Nat → Bool, z = fun _ => false := ⟨_, rfl⟩
 rw [← hz] at hz0
 have HZ := qH hz
 clear hz
 go_enter Tryz.func68, Tryz.ntmps68
 go_wp2_with ((with_reducible refine atDst 2 ?_); refine wpList_new rfl 43 rfl i0 _ (wds z) hi0 hz0 rfl (Below.refl w.heap.size w) (Nat.le_refl _) ?_; intro w1 hk1 hb1 hs1 _; have K1 := qH hk1; have B1 := qH hb1; clear hk1 hb1 hs1)
 go_loopw [7] (fun i wl => ∃ j : Nat, j ≤ l.length ∧ i = .int .i64 (j : Int) ∧ Blk wl w.heap.size 43 (wds fun b => decide (UInt8.ofNat b ∈ l.take j)) ∧ Below w.heap.size w wl) (fun i _ => l.length - (intOf i).toNat)
 case atStart => exact ⟨0, by omega, by simp, by simpa [HZ.out] using K1.out, B1.out⟩
 case round =>
  obtain ⟨j, hj, rfl, hk, hb⟩ := hrel
  have KR := qH hk
  have BR := qH hb
  clear hk hb
  by_cases hjl : j < l.length
  ·have i1 : (j : Int) < (l.length : Int) := by omega
   obtain ⟨b0, off, rfl, hb0, hcell⟩ := (R0.out.below BR.out).at_ (by rw [bvs_length]; omega)
   have hcj := hcell j _ (bvs_get l j l[j] (List.getElem?_eq_getElem hjl))
   obtain ⟨c, hc⟩ : ∃ c : UInt8, c = l[j] := ⟨_, rfl⟩
   rw [← hc] at hcj
   have HC := qH hc
   have hlt := c.toNat_lt
   obtain ⟨n, hn⟩ : ∃ n, n = c.toNat := ⟨_, rfl⟩
   have hcj' : wr.cell? ⟨b0, off + j, none⟩ = some (.int .u8 (n : Int)) := by rw [hn]; exact hcj
   rw [← hn] at hlt
   have HN := qH hn
   have hgc := KR.out.cell (n / 64)
   rw [wds_get _ (n / 64) (by omega)] at hgc
   obtain ⟨x, hx⟩ : ∃ x, x = word (fun b => decide (UInt8.ofNat b ∈ l.take j)) (n / 64) := ⟨_, rfl⟩
   rw [← hx] at hgc
   have hfz := KR.out.frozen (n / 64)
   have HX := qH hx
   have hlx : x < 18446744073709551616 := by rw [hx]; exact word_lt _ _
   have hsh := shl_bit (n % 64) (Nat.mod_lt _ (by omega))
   clear hcell hc hcj hn hx
   have hq1 : IntKind.u8.wrap ((n : Int) / 64) = ((n / 64 : Nat) : Int) := IntWalk.u8_in _ (by omega)
   have hq2 : ((n : Int).tmod 64) = ((n % 64 : Nat) : Int) := by rw [Int.tmod_eq_emod_of_nonneg (by omega)]; rfl
   have hq3 : (n : Int) / 64 < 4 := by omega
   have hq4 : 0 ≤ (n : Int) / 64 := by omega
   have hq5 : ((n : Int) / 64).toNat = n / 64 := by omega
   go_wp2_with fail
   refine ⟨⟨j + 1, by omega, by congr 1, ?_, (BR.out.setCell (p := ⟨w.heap.size, n / 64, none⟩) (Nat.le_refl _) _)⟩, by simp [intOf] <;> omega⟩
   rw [of_bits hlx (Nat.mod_lt n (by omega))]
   have hk := KR.out.set (n / 64) (.int .u64 ((x ||| 2 ^ (n % 64) : Nat) : Int))
   rw [HX.out, wds_put _ n (by omega)] at hk
   rw [HX.out]
   rw [wds_congr (q := fun b => decide (UInt8.ofNat b ∈ l.take j) || decide (b = n)) (fun b hb => ?_)]
   ·exact hk
   ·rw [List.take_succ_eq_append_getElem hjl, ← HC.out]
    exact mem_next b c n hb HN.out _
  ·obtain rfl : j = l.length := by omega
   have i1 : ¬ ((l.length : Int) < (l.length : Int)) := by omega
   have k9 := KR.out
   rw [List.take_length] at k9
   obtain ⟨q, hq⟩ : ∃ q : Nat → Bool, q = fun b => decide (UInt8.ofNat b ∈ l) := ⟨_, rfl⟩
   rw [← hq] at k9
   have K9 := qH k9
   have HQ := qH hq
   clear k9 hq KR
   go_wp2_with (first
    | ((with_reducible refine atDst 21 ?_); refine wpList_ldArr rfl 43 _ rfl w.heap.size rfl 43 _ _ K9.out Tryz.underlying43 rfl (size_set q) ?_)
    | ((with_reducible refine atStore 43 2 21 ?_); refine wpList_stBlk rfl 43 _ _ rfl w.heap.size (wds q) rfl rfl 43 _ K9.out (size_set q) rfl (wds_all _) BR.out (Nat.le_refl _) ?_; intro w3 hk3 hb3 hs3 _; have K3 := qH hk3; have B3 := qH hb3; clear hk3 hb3))
   refine bodyPost_ret (results_blk rfl _ _ w.heap.size 43 _ _ rfl K3.out Tryz.underlying43 rfl (size_set q)) rfl ?_
   exact ⟨by rw [HQ.out], B3.out⟩
def cutW (r : Nat → Bool) (j : Nat) : Nat → Bool := fun b => decide (b < 64 * j) && r b
theorem cutW_zero (r : Nat → Bool) : cutW r 0 = fun _ => false := by
 funext b
 simp [cutW]
theorem cutW_four (r : Nat → Bool) : wds (cutW r 4) = wds r := wds_congr fun b hb => by simp [cutW]; omega
theorem cutW_same (r : Nat → Bool) {i j : Nat} (h : i ≠ j) : word (cutW r j) i = word (cutW r (j + 1)) i := wd_congr fun k hk => by
 have : decide (64 * i + k < 64 * j) = decide (64 * i + k < 64 * (j + 1)) := decide_eq_decide.2 (by omega)
 simp only [cutW, this]
theorem cutW_here (r : Nat → Bool) (j : Nat) : word (cutW r (j + 1)) j = word r j := wd_congr fun k hk => by
 have : decide (64 * j + k < 64 * (j + 1)) = true := decide_eq_true (by omega)
 simp only [cutW, this, Bool.true_and]
theorem cutW_next (r : Nat → Bool) (j : Nat) (hj : j < 4) : (wds (cutW r j)).set j (.int .u64 (word r j : Int)) = wds (cutW r (j + 1)) := by
 rw [← cutW_here r j]
 match j, hj with
 | 0, _ => simp only [wds, List.set_cons_zero]; rw [cutW_same r (i := 1) (j := 0) (by omega), cutW_same r (i := 2) (j := 0) (by omega), cutW_same r (i := 3) (j := 0) (by omega)]
 | 1, _ => simp only [wds, List.set_cons_zero, List.set_cons_succ]; rw [cutW_same r (i := 0) (j := 1) (by omega), cutW_same r (i := 2) (j := 1) (by omega), cutW_same r (i := 3) (j := 1) (by omega)]
 | 2, _ => simp only [wds, List.set_cons_zero, List.set_cons_succ]; rw [cutW_same r (i := 0) (j := 2) (by omega), cutW_same r (i := 1) (j := 2) (by omega), cutW_same r (i := 3) (j := 2) (by omega)]
 | 3, _ => simp only [wds, List.set_cons_zero, List.set_cons_succ]; rw [cutW_same r (i := 0) (j := 3) (by omega), cutW_same r (i := 1) (j := 3) (by omega), cutW_same r (i := 2) (j := 3) (by omega)]
theorem word_not (p : Nat → Bool) (i : Nat) : (18446744073709551615 : Nat) ^^^ word p i = word (fun b => !p b) i := by
 rw [show (18446744073709551615 : Nat) = 2 ^ 64 - 1 from rfl]
 apply Nat.eq_of_testBit_eq
 intro j
 rw [Nat.testBit_xor, Nat.testBit_two_pow_sub_one]
 simp only [word, wd_bit]
 cases decide (j < 64) <;> simp
set_option maxHeartbeats 2000000 in
set_option maxRecDepth 100000 in
theorem bsAnd_any (p q : Nat → Bool) (w : World) :
  Calls Tryz.prog 39 #[.agg (wds p).toArray, .agg (wds q).toArray] w fun e w' => e = .returned (.agg (wds fun b => Bool.and (p b) (q b)).toArray) ∧ Below w.heap.size w w' := by
 obtain ⟨r, hr⟩ : ∃ r : Nat → Bool, r = fun b => Bool.and (p b) (q b) := ⟨_, rfl⟩
 have HOP := qH (show ∀ i, HAnd.hAnd (word p i) (word q i) = word r i from fun i => by rw [hr]; exact word_and p q i)
 rw [← hr]
 clear hr
 obtain ⟨i0, hi0, hz0⟩ := info_set
 obtain ⟨z, hz⟩ : ∃ z : Nat → Bool, z = fun _ => false := ⟨_, rfl⟩
 rw [← hz] at hz0
 have HZ := qH hz
 clear hz
 go_enter Tryz.func39, Tryz.ntmps39
 go_wp2_with (first
  | ((with_reducible refine atDst 2 ?_); refine wpList_box rfl 43 _ rfl (wds p) rfl (Below.refl w.heap.size w) (Nat.le_refl _) ?_; intro w1 hk1 hb1 hs1 _; have K1 := qH hk1; have B1 := qH hb1; clear hk1 hb1 hs1)
  | ((with_reducible refine atDst 3 ?_); refine wpList_box rfl 43 _ rfl (wds q) rfl B1.out B1.out.size ?_; intro w2 hk2 hb2 hs2 ho2; have L2 := qH hk2; have B2 := qH hb2; have K2 := qH (show Blk w2 w.heap.size 43 (wds p) from (ho2 _ K1.out.lt).trans K1.out); clear hk2 hb2 hs2 ho2)
  | ((with_reducible refine atDst 4 ?_); refine wpList_new rfl 43 rfl i0 _ (wds z) hi0 hz0 rfl B2.out B2.out.size ?_; intro w3 hk3 hb3 hs3 ho3; have M3 := qH hk3; have B3 := qH hb3; have K3 := qH (show Blk w3 w.heap.size 43 (wds p) from (ho3 _ K2.out.lt).trans K2.out); have L3 := qH (show Blk w3 w1.heap.size 43 (wds q) from (ho3 _ L2.out.lt).trans L2.out); clear hk3 hb3 hs3 ho3))
 go_loopw [6] (fun i wl => ∃ j : Nat, j ≤ 4 ∧ i = .int .i64 (j : Int) ∧ Blk wl w2.heap.size 43 (wds (cutW r j)) ∧ Below w2.heap.size w3 wl) (fun i _ => 4 - (intOf i).toNat)
 case atStart => exact ⟨0, by omega, by simp, by rw [cutW_zero, ← HZ.out]; exact M3.out, Below.refl _ _⟩
 case round =>
  obtain ⟨j, hj, rfl, hk, hb⟩ := hrel
  have KR := qH hk
  have BR := qH hb
  clear hk hb
  by_cases hjl : j < 4
  ·have j1 : (j : Int) < 4 := by omega
   have hcp := (K3.out.below BR.out K2.out.lt).cell j
   rw [wds_get p j hjl] at hcp
   have hcq := (L3.out.below BR.out L2.out.lt).cell j
   rw [wds_get q j hjl] at hcq
   have hfz := KR.out.frozen j
   have hcr := KR.out.cell j
   rw [wds_get _ j hjl] at hcr
   obtain ⟨x, hx⟩ : ∃ x, x = word p j := ⟨_, rfl⟩
   obtain ⟨y, hy⟩ : ∃ y, y = word q j := ⟨_, rfl⟩
   obtain ⟨z2, hz2⟩ : ∃ y, y = word (cutW r j) j := ⟨_, rfl⟩
   rw [← hx] at hcp
   rw [← hy] at hcq
   rw [← hz2] at hcr
   have hlx : x < 18446744073709551616 := by rw [hx]; exact word_lt _ _
   have hly : y < 18446744073709551616 := by rw [hy]; exact word_lt _ _
   have HXY := qH (show HAnd.hAnd x y = word r j by rw [hx, hy]; exact HOP.out j)
   clear hx hy hz2
   go_wp2_with fail
   go_still_tail 9, (by kernel_rfl)
   change wpList _ _ _ _ _ wr.drew
   go_wp2_with fail
   refine ⟨⟨j + 1, by omega, by congr 1, ?_, (BR.out.setCell (p := ⟨w2.heap.size, j, none⟩) (Nat.le_refl _) _).drew⟩, by simp [intOf] <;> omega⟩
   have hk := KR.out.set j (.int .u64 ((HAnd.hAnd x y : Nat) : Int))
   rw [HXY.out, cutW_next r j hjl] at hk
   rw [u64_and_nat x y hlx hly, HXY.out]
   exact hk.drew
  ·obtain rfl : j = 4 := by omega
   have k9 := KR.out
   rw [cutW_four] at k9
   have K9 := qH k9
   have B9 := qH (B3.out.trans (BR.out.mono B2.out.size))
   clear k9 KR
   go_wp2_with (first
    | ((with_reducible refine atDst 19 ?_); refine wpList_ldArr rfl 43 _ rfl w2.heap.size rfl 43 _ _ K9.out Tryz.underlying43 rfl (size_set r) ?_)
    | ((with_reducible refine atStore 43 4 19 ?_); refine wpList_stBlk rfl 43 _ _ rfl w2.heap.size (wds r) rfl rfl 43 _ K9.out (size_set r) rfl (wds_all _) B9.out B2.out.size ?_; intro w4 hk4 hb4 hs4 _; have K4 := qH hk4; have B4 := qH hb4; clear hk4 hb4))
   refine bodyPost_ret (results_blk rfl _ _ w2.heap.size 43 _ _ rfl K4.out Tryz.underlying43 rfl (size_set r)) rfl ?_
   exact ⟨rfl, B4.out⟩
set_option maxHeartbeats 2000000 in
set_option maxRecDepth 100000 in
theorem bsNot_any (p : Nat → Bool) (w : World) :
  Calls Tryz.prog 47 #[.agg (wds p).toArray] w fun e w' => e = .returned (.agg (wds fun b => !p b).toArray) ∧ Below w.heap.size w w' := by
 obtain ⟨r, hr⟩ : ∃ r : Nat → Bool, r = fun b => !p b := ⟨_, rfl⟩
 have HOP := qH (show ∀ i, (18446744073709551615 : Nat) ^^^ word p i = word r i from fun i => by rw [hr]; exact word_not p i)
 rw [← hr]
 clear hr
 obtain ⟨i0, hi0, hz0⟩ := info_set
 obtain ⟨z, hz⟩ : ∃ z : Nat → Bool, z = fun _ => false := ⟨_, rfl⟩
 rw [← hz] at hz0
 have HZ := qH hz
 clear hz
 go_enter Tryz.func47, Tryz.ntmps47
 go_wp2_with (first
  | ((with_reducible refine atDst 1 ?_); refine wpList_box rfl 43 _ rfl (wds p) rfl (Below.refl w.heap.size w) (Nat.le_refl _) ?_; intro w1 hk1 hb1 hs1 _; have K1 := qH hk1; have B1 := qH hb1; clear hk1 hb1 hs1)
  | ((with_reducible refine atDst 2 ?_); refine wpList_new rfl 43 rfl i0 _ (wds z) hi0 hz0 rfl B1.out B1.out.size ?_; intro w2 hk2 hb2 hs2 ho2; have M2 := qH hk2; have B2 := qH hb2; have K2 := qH (show Blk w2 w.heap.size 43 (wds p) from (ho2 _ K1.out.lt).trans K1.out); clear hk2 hb2 hs2 ho2))
 go_loopw [4] (fun i wl => ∃ j : Nat, j ≤ 4 ∧ i = .int .i64 (j : Int) ∧ Blk wl w1.heap.size 43 (wds (cutW r j)) ∧ Below w1.heap.size w2 wl) (fun i _ => 4 - (intOf i).toNat)
 case atStart => exact ⟨0, by omega, by simp, by rw [cutW_zero, ← HZ.out]; exact M2.out, Below.refl _ _⟩
 case round =>
  obtain ⟨j, hj, rfl, hk, hb⟩ := hrel
  have KR := qH hk
  have BR := qH hb
  clear hk hb
  by_cases hjl : j < 4
  ·have j1 : (j : Int) < 4 := by omega
   have hcp := (K2.out.below BR.out K1.out.lt).cell j
   rw [wds_get p j hjl] at hcp
   have hfz := KR.out.frozen j
   have hcr := KR.out.cell j
   rw [wds_get _ j hjl] at hcr
   obtain ⟨x, hx⟩ : ∃ x, x = word p j := ⟨_, rfl⟩
   obtain ⟨z2, hz2⟩ : ∃ y, y = word (cutW r j) j := ⟨_, rfl⟩
   rw [← hx] at hcp
   rw [← hz2] at hcr
   have hlx : x < 18446744073709551616 := by rw [hx]; exact word_lt _ _
   have HXY := qH (show (18446744073709551615 : Nat) ^^^ x = word r j by rw [hx]; exact HOP.out j)
   clear hx hz2
   go_wp2_with fail
   refine ⟨⟨j + 1, by omega, by congr 1, ?_, (BR.out.setCell (p := ⟨w1.heap.size, j, none⟩) (Nat.le_refl _) _)⟩, by simp [intOf] <;> omega⟩
   have hk := KR.out.set j (.int .u64 ((18446744073709551615 ^^^ x : Nat) : Int))
   rw [HXY.out, cutW_next r j hjl] at hk
   have e0 : (if IntKind.u64.signed = true then (-1 : Int) else IntKind.u64.max) = ((18446744073709551615 : Nat) : Int) := by decide
   rw [e0, u64_xor_nat 18446744073709551615 x (by omega) hlx, HXY.out]
   exact hk
  ·obtain rfl : j = 4 := by omega
   have k9 := KR.out
   rw [cutW_four] at k9
   have K9 := qH k9
   have B9 := qH (B2.out.trans (BR.out.mono B1.out.size))
   clear k9 KR
   go_wp2_with (first
    | ((with_reducible refine atDst 14 ?_); refine wpList_ldArr rfl 43 _ rfl w1.heap.size rfl 43 _ _ K9.out Tryz.underlying43 rfl (size_set r) ?_)
    | ((with_reducible refine atStore 43 2 14 ?_); refine wpList_stBlk rfl 43 _ _ rfl w1.heap.size (wds r) rfl rfl 43 _ K9.out (size_set r) rfl (wds_all _) B9.out B1.out.size ?_; intro w4 hk4 hb4 hs4 _; have K4 := qH hk4; have B4 := qH hb4; clear hk4 hb4))
   refine bodyPost_ret (results_blk rfl _ _ w1.heap.size 43 _ _ rfl K4.out Tryz.underlying43 rfl (size_set r)) rfl ?_
   exact ⟨rfl, B4.out⟩
/-! ### alike -/
def alikeS (ps : List (Nat → Bool)) (a b : Nat) : Bool := ps.all fun p => p a == p b
set_option maxHeartbeats 2000000 in
set_option maxRecDepth 100000 in
theorem refAlike_any (v : Value) (ps : List (Nat → Bool)) (a b : Nat) (ha : a < 256) (hb : b < 256) (w : World) (hr : RowS w v ps) (hl : ps.length ≤ 1048576) :
  Calls Tryz.prog 53 #[v, .int .u8 (a : Int), .int .u8 (b : Int)] w fun e w' => e = .returned (.bool (alikeS ps a b)) ∧ Below w.heap.size w w' := by
 have R0 := qH hr
 obtain ⟨A, cap, rfl, a1, a2, a0, a3⟩ := hr
 clear a3 a0 a2
 go_enter Tryz.func53, Tryz.ntmps53
 go_wp2_with fail
 go_loopw [7] (fun i wl => ∃ j : Nat, j ≤ ps.length ∧ i = .int .i64 (j : Int) ∧ (ps.take j).all (fun p => p a == p b) = true ∧ Below w.heap.size w wl) (fun i _ => ps.length - (intOf i).toNat)
 case atStart => exact ⟨0, by omega, by simp, by simp, Below.refl _ _⟩
 case round =>
  obtain ⟨j, hj, rfl, hall, hbr⟩ := hrel
  have HA := qH hall
  have HB := qH hbr
  clear hall hbr
  by_cases hjl : j < ps.length
  ·have j1 : (j : Int) < (ps.length : Int) := by omega
   obtain ⟨b0, off, rfl, hb0, hcell⟩ := (R0.out).at_ (by omega)
   have HRG := qH (range_below (hcell j ps[j] (List.getElem?_eq_getElem hjl)) HB.out hb0)
   obtain ⟨p, hp⟩ : ∃ p, p = ps[j] := ⟨_, rfl⟩
   rw [← hp] at HRG
   have HP := qH hp
   have SR := qH HB.out.size
   clear hcell hp
   go_wp2_with fail
   refine sx_startB (B := w.heap.size) (w0 := wr) (by kernel_rfl) (Below.refl _ _) (fun wd hwd hX => ?_)
   have SD := qH (Nat.le_trans SR.out hX.size)
   clear hwd
   refine sx_take (i := 0) (oi := ⟨some 14, _, _, _, _, _⟩) (v := ?_) rfl (by kernel_rfl) (by kernel_rfl) (by kernel_rfl) (fun _ _ _ h => h) rfl hX ?_ ?_; rotate_left; (intro W hW; go_simp; try with_reducible rfl); simp only [Act.put, qA, qB, qC]
   refine sx_take (i := 1) (oi := ⟨some 15, _, _, _, _, _⟩) (v := ?_) rfl (by kernel_rfl) (by kernel_rfl) (by kernel_rfl) (fun _ _ _ h => h) rfl hX ?_ ?_; rotate_left; (intro W hW; go_simp; try with_reducible rfl); simp only [Act.put, qA, qB, qC]
   refine sx_take (i := 2) (oi := ⟨some 16, _, _, _, _, _⟩) (v := ?_) rfl (by kernel_rfl) (by kernel_rfl) (by kernel_rfl) (fun _ _ _ h => h) rfl hX ?_ ?_; rotate_left; (intro W hW; go_simp; try with_reducible rfl); simp only [Act.put, qA, qB, qC]
   refine sx_take (i := 3) (oi := ⟨some 17, _, _, _, _, _⟩) (v := .agg (wds p).toArray) rfl (by kernel_rfl) (by kernel_rfl) (by kernel_rfl) (fun _ _ _ h => h) rfl hX (ld_mid 43 _ rfl b0 (off + j * 4) rfl _ _ HRG.out hb0 Tryz.underlying43 rfl (size_set p)) ?_
   simp only [Act.put, qA, qB, qC]
   refine sx_take (i := 4) (oi := ⟨some 18, _, _, _, _, _⟩) (v := ?_) rfl (by kernel_rfl) (by kernel_rfl) (by kernel_rfl) (fun _ _ _ h => h) rfl hX ?_ ?_; rotate_left; (intro W hW; go_simp; try with_reducible rfl); simp only [Act.put, qA, qB, qC]
   refine sx_take (i := 6) (oi := ⟨some 20, _, _, _, _, _⟩) (v := ?_) rfl (by kernel_rfl) (by kernel_rfl) (by kernel_rfl) (fun _ _ _ h => h) rfl hX ?_ ?_; rotate_left; (intro W hW; go_simp; try with_reducible rfl); simp only [Act.put, qA, qB, qC]
   refine sx_take (i := 7) (oi := ⟨some 21, _, _, _, _, _⟩) (v := ?_) rfl (by kernel_rfl) (by kernel_rfl) (by kernel_rfl) (fun _ _ _ h => h) rfl hX ?_ ?_; rotate_left; (intro W hW; go_simp; try with_reducible rfl); simp only [Act.put, qA, qB, qC]
   refine sx_take (i := 8) (oi := ⟨some 22, _, _, _, _, _⟩) (v := ?_) rfl (by kernel_rfl) (by kernel_rfl) (by kernel_rfl) (fun _ _ _ h => h) rfl hX ?_ ?_; rotate_left; (intro W hW; go_simp; try with_reducible rfl); simp only [Act.put, qA, qB, qC]
   refine sx_take (i := 9) (oi := ⟨some 23, _, _, _, _, _⟩) (v := .agg (wds p).toArray) rfl (by kernel_rfl) (by kernel_rfl) (by kernel_rfl) (fun _ _ _ h => h) rfl hX (ld_mid 43 _ rfl b0 (off + j * 4) rfl _ _ HRG.out hb0 Tryz.underlying43 rfl (size_set p)) ?_
   simp only [Act.put, qA, qB, qC]
   refine sx_take (i := 10) (oi := ⟨some 24, _, _, _, _, _⟩) (v := ?_) rfl (by kernel_rfl) (by kernel_rfl) (by kernel_rfl) (fun _ _ _ h => h) rfl hX ?_ ?_; rotate_left; (intro W hW; go_simp; try with_reducible rfl); simp only [Act.put, qA, qB, qC]
   refine sx_actB (i := 5) (o := ⟨some 19, _, _, _, _, _⟩) rfl (by kernel_rfl) rfl hX (fun K hK => ?_)
   go_wp2_with fail
   refine (refHas_any p a ha wd).mono ?_
   rintro e w5 ⟨rfl, hb5⟩
   refine hK _ _ (hb5.mono SD.out) ?_
   clear hK K
   replace hX := hX.trans (hb5.mono SD.out)
   have S5 := qH (Nat.le_trans SD.out hb5.size)
   clear hb5
   refine sx_actB (i := 11) (o := ⟨some 25, _, _, _, _, _⟩) rfl (by kernel_rfl) rfl hX (fun K hK => ?_)
   go_wp2_with fail
   refine (refHas_any p b hb w5).mono ?_
   rintro e w6 ⟨rfl, hb6⟩
   refine hK _ _ (hb6.mono S5.out) ?_
   clear hK K
   replace hX := hX.trans (hb6.mono S5.out)
   have B6 := qH (HB.out.trans hX)
   clear hb6
   obtain ⟨x, hx⟩ : ∃ x, x = p a := ⟨_, rfl⟩
   obtain ⟨y, hy⟩ : ∃ y, y = p b := ⟨_, rfl⟩
   rw [← hx, ← hy]
   have HXX := qH hx
   have HYY := qH hy
   clear hx hy
   by_cases hxy : x = y
   ·have hne : (x == y) = true := by simp [hxy]
    have HE := qH hne
    clear hxy
    refine sx_take (i := 12) (oi := ⟨some 26, _, _, _, _, _⟩) (v := ?_) rfl (by kernel_rfl) (by kernel_rfl) (by kernel_rfl) (fun _ _ _ h => h) rfl hX ?_ ?_; rotate_left; (intro W hW; go_simp; try with_reducible rfl); simp only [Act.put, qA, qB, qC]
    refine wpAnyH_done (by kernel_rfl) ?_ _
    go_wp2_with fail
    refine ⟨⟨j + 1, by omega, by congr 1, ?_, B6.out⟩, by simp [intOf] <;> omega⟩
    rw [List.take_succ_eq_append_getElem hjl, List.all_append, HA.out, ← HP.out, Bool.true_and]
    simp only [List.all_cons, List.all_nil, Bool.and_true]
    rw [← HXX.out, ← HYY.out, HE.out]
   ·have hne : (x == y) = false := by simpa using hxy
    have HL := qH (show alikeS ps a b = false by
     unfold alikeS
     rw [List.all_eq_false]
     exact ⟨ps[j], List.getElem_mem hjl, by rw [← HP.out, ← HXX.out, ← HYY.out, hne]; decide⟩)
    clear hxy
    refine sx_take (i := 12) (oi := ⟨some 26, _, _, _, _, _⟩) (v := ?_) rfl (by kernel_rfl) (by kernel_rfl) (by kernel_rfl) (fun _ _ _ h => h) rfl hX ?_ ?_; rotate_left; (intro W hW; go_simp; try with_reducible rfl); simp only [Act.put, qA, qB, qC]
    refine wpAnyH_done (by kernel_rfl) ?_ _
    go_wp2_with fail
    go_ret
    rw [HL.out]
    exact ⟨rfl, B6.out⟩
  ·obtain rfl : j = ps.length := by omega
   have j1 : ¬ ((ps.length : Int) < (ps.length : Int)) := by omega
   have hall := HA.out
   rw [List.take_length] at hall
   have HL := qH (show alikeS ps a b = true from hall)
   clear hall
   go_wp2_with fail
   go_ret
   rw [HL.out]
   exact ⟨rfl, HB.out⟩
def firstJ (ps : List (Nat → Bool)) : Nat → List Nat
 | 0 => []
 | j + 1 => if (firstJ ps j).any (fun f => alikeS ps j f) then firstJ ps j else firstJ ps j ++ [j]
def clsOf (ps : List (Nat → Bool)) (j : Nat) : Nat := (firstJ ps j).findIdx fun f => alikeS ps j f
theorem firstJ_len (ps : List (Nat → Bool)) : ∀ j, (firstJ ps j).length ≤ j
 | 0 => Nat.le_refl _
 | j + 1 => by
  have := firstJ_len ps j
  simp only [firstJ]
  split
  ·omega
  ·rw [List.length_append]; simp; omega
theorem firstJ_lt (ps : List (Nat → Bool)) : ∀ (j f : Nat), f ∈ firstJ ps j → f < j
 | 0, _, h => by simp [firstJ] at h
 | j + 1, f, h => by
  simp only [firstJ] at h
  split at h
  ·exact Nat.lt_succ_of_lt (firstJ_lt ps j f h)
  ·rcases List.mem_append.1 h with h | h
   ·exact Nat.lt_succ_of_lt (firstJ_lt ps j f h)
   ·have : f = j := by simpa using h
    omega
theorem clsOf_le (ps : List (Nat → Bool)) (j : Nat) : clsOf ps j ≤ (firstJ ps j).length := List.findIdx_le_length
theorem firstJ_hit {ps : List (Nat → Bool)} {j : Nat} (h : clsOf ps j < (firstJ ps j).length) : firstJ ps (j + 1) = firstJ ps j := by
 have : (firstJ ps j).any (fun f => alikeS ps j f) = true := by
  rw [List.any_eq_true]
  exact ⟨(firstJ ps j)[clsOf ps j], List.getElem_mem h, List.findIdx_getElem (w := h)⟩
 simp only [firstJ]
 rw [if_pos this]
theorem firstJ_new {ps : List (Nat → Bool)} {j : Nat} (h : clsOf ps j = (firstJ ps j).length) : firstJ ps (j + 1) = firstJ ps j ++ [j] := by
 have : ¬ (firstJ ps j).any (fun f => alikeS ps j f) = true := by
  rw [List.any_eq_true]
  rintro ⟨f, hf, ha⟩
  have := List.findIdx_lt_length_of_exists (p := fun f => alikeS ps j f) ⟨f, hf, ha⟩
  unfold clsOf at h
  omega
 simp only [firstJ]
 rw [if_neg this]
theorem clsOf_next {ps : List (Nat → Bool)} {j k : Nat} (hk : k ≤ clsOf ps j) (hl : k < (firstJ ps j).length) (h : alikeS ps j (firstJ ps j)[k] = false) : k + 1 ≤ clsOf ps j := by
 rcases Nat.lt_or_ge k (clsOf ps j) with h1 | h1
 ·exact h1
 ·have e : k = clsOf ps j := by omega
  subst e
  have := List.findIdx_getElem (p := fun f => alikeS ps j f) (w := hl)
  exact absurd (this.symm.trans h) (by simp)
theorem clsOf_stop {ps : List (Nat → Bool)} {j k : Nat} (hk : k ≤ clsOf ps j) (hl : k < (firstJ ps j).length) (h : alikeS ps j (firstJ ps j)[k] = true) : clsOf ps j = k := by
 refine Nat.le_antisymm ?_ hk
 exact Nat.le_of_not_lt fun hlt => by
  have := List.not_of_lt_findIdx (p := fun f => alikeS ps j f) (xs := firstJ ps j) hlt
  rw [h] at this
  cases this
def ctab (ps : List (Nat → Bool)) (j : Nat) : List UInt8 := (List.range 256).map fun b => if b < j then UInt8.ofNat (clsOf ps b) else 0
theorem ctab_length (ps : List (Nat → Bool)) (j : Nat) : (ctab ps j).length = 256 := by simp [ctab]
theorem ctab_next (ps : List (Nat → Bool)) (j : Nat) (hj : j < 256) : (ctab ps j).set j (UInt8.ofNat (clsOf ps j)) = ctab ps (j + 1) := by
 apply List.ext_getElem
 ·simp [ctab]
 ·intro i h1 h2
  simp only [ctab, List.getElem_set, List.getElem_map, List.getElem_range]
  by_cases h : j = i
  ·subst h
   simp
  ·rw [if_neg h]
   by_cases hi : i < j
   ·rw [if_pos hi, if_pos (by omega)]
   ·rw [if_neg hi, if_neg (by omega)]
theorem ctab_zero : ∃ i : TypeInfo, Tryz.prog.info? 27 = some i ∧ i.zero = some (.agg (bvs (ctab [] 0)).toArray) := by
 have h : ((Tryz.prog.info? 27).map (·.zero)) = some (some (.agg (bvs (ctab [] 0)).toArray)) := by kernel_rfl
 cases hi : Tryz.prog.info? 27 with
 | none => rw [hi] at h; cases h
 | some i =>
  rw [hi] at h
  exact ⟨i, rfl, by simpa using h⟩
theorem ctab_null (ps qs : List (Nat → Bool)) : ctab ps 0 = ctab qs 0 := by
 unfold ctab
 refine List.map_congr_left fun b _ => ?_
 rw [if_neg (by omega), if_neg (by omega)]
theorem size_ctab {l : List UInt8} (h : l.length = 256) : (Tryz.prog.info? 27).map (·.size) = some (bvs l).length := by
 rw [bvs_length, h]
 kernel_rfl
abbrev fcs (ps : List (Nat → Bool)) (j : Nat) : List Value := nums .i64 ((firstJ ps j).map fun (n : Nat) => (n : Int))
theorem fcs_length (ps : List (Nat → Bool)) (j : Nat) : (fcs ps j).length = (firstJ ps j).length := by simp [fcs, nums]
theorem bvs_all' (l : List UInt8) : (bvs l).all (·.oneCell') = true := by
 rw [List.all_eq_true]
 exact bvs_one l
theorem own_far {w : World} {base g i : Nat} {e : TypeId} {v : Value} {n : Nat} {xs : List Value} (h : w.ownsRow base e 1 v n xs) (hg : g < base) (u : Value) : (w.setCell ⟨g, i, none⟩ u).ownsRow base e 1 v n xs := by
 refine ⟨h.1, ?_⟩
 rcases h.2 with h0 | ⟨g2, cap, cur, rfl, hb, hg2, h3⟩
 ·exact .inl h0
 ·exact .inr ⟨g2, cap, cur, rfl, hb, (Below.heap_setCell w ⟨g, i, none⟩ u g2 (by simp; omega)).trans hg2, h3⟩
theorem ctab_put {w : World} {g j : Nat} {t : TypeId} {ps : List (Nat → Bool)} (h : Blk w g t (bvs (ctab ps j))) (hj : j < 256) (hc : clsOf ps j < 256) :
  Blk (w.setCell ⟨g, j, none⟩ (.int .u8 (clsOf ps j : Int))) g t (bvs (ctab ps (j + 1))) := by
 have := h.set j (bv (UInt8.ofNat (clsOf ps j)))
 rw [show (bvs (ctab ps j)).set j (bv (UInt8.ofNat (clsOf ps j))) = bvs ((ctab ps j).set j (UInt8.ofNat (clsOf ps j))) from by unfold bvs; rw [List.map_set], ctab_next ps j hj, bv_ofNat hc] at this
 exact this
set_option maxHeartbeats 4000000 in
set_option maxRecDepth 100000 in
theorem refClasses_any (v : Value) (ps : List (Nat → Bool)) (w : World) (hr : RowS w v ps) (hl : ps.length ≤ 1048576) :
  Calls Tryz.prog 32 #[v] w fun e w' => e = .returned (.tuple #[.agg (bvs (ctab ps 256)).toArray, .int .i64 ((firstJ ps 256).length : Int)]) ∧ Below w.heap.size w w' := by
 have R0 := qH hr
 obtain ⟨i0, hi0, hz0⟩ := ctab_zero
 rw [ctab_null [] ps] at hz0
 obtain ⟨z, hz⟩ : ∃ z, z = ctab ps 0 := ⟨_, rfl⟩
 rw [← hz] at hz0
 have HZ := qH hz
 have HZL := qH (show z.length = 256 by rw [hz]; exact ctab_length _ _)
 obtain ⟨i1, hi1, hy0, hy1, hy2⟩ := infoP inf_int
 clear hz hr
 go_enter Tryz.func32, Tryz.ntmps32
 go_wp2_with (first
  | ((with_reducible refine atDst 2 ?_); refine wpList_new rfl 27 rfl i0 _ (bvs z) hi0 hz0 rfl (Below.refl w.heap.size w) (Nat.le_refl _) ?_; intro w1 hk1 hb1 hs1 _; have K1 := qH hk1; have B1 := qH hb1; clear hk1 hb1 hs1)
  | ((with_reducible refine atDst 4 ?_); refine wpList_new rfl 27 rfl i0 _ (bvs z) hi0 hz0 rfl (Below.refl w1.heap.size w1) (Nat.le_refl _) ?_; intro w2 hk2 hb2 hs2 ho2; have K2 := qH hk2; have B2 := qH hb2; clear hk2 hb2 hs2 ho2))
 have R2 := qH (R0.out.below (B1.out.trans (B2.out.mono B1.out.size)))
 go_loopw [5, 6] (fun f i wl => ∃ j : Nat, j ≤ 256 ∧ i = .int .i64 (j : Int) ∧ wl.ownsRow w2.heap.size 3 1 f (firstJ ps j).length (fcs ps j) ∧ Blk wl w1.heap.size 27 (bvs (ctab ps j)) ∧ Below w1.heap.size w1 wl ∧ w2.heap.size ≤ wl.heap.size) (fun _ i _ => 256 - (intOf i).toNat)
 case atStart => exact ⟨0, by omega, by simp, ownN _ _ _, by rw [← HZ.out]; exact K2.out, B2.out, Nat.le_refl _⟩
 case round =>
  obtain ⟨j, hj, rfl, ho, hk, hb, hs⟩ := hrel
  have HO := qH ho
  have HK := qH hk
  have HB := qH hb
  have HSZ := qH hs
  clear ho hk hb hs
  obtain ⟨wo, hwo⟩ : ∃ wo : World, wo = wr := ⟨_, rfl⟩
  subst hwo
  by_cases hjl : j < 256
  ·have j1 : (j : Int) < 256 := by omega
   have hw8 : IntKind.u8.wrap (j : Int) = (j : Int) := IntWalk.u8_in _ (by omega)
   have HFL := qH (firstJ_len ps j)
   obtain ⟨n, hn⟩ : ∃ n, n = (firstJ ps j).length := ⟨_, rfl⟩
   rw [← hn] at HO HFL
   have HN := qH hn
   clear hn
   have HCL := qH (clsOf_le ps j)
   obtain ⟨A, cap, hu5, _, _, _, _⟩ := Row.of_own HO.out
   rw [fcs_length, ← HN.out] at hu5
   subst hu5
   go_wp2_with fail
   go_loopw [7] (fun kk wl => ∃ k : Nat, k ≤ clsOf ps j ∧ kk = .int .i64 (k : Int) ∧ Below wo.heap.size wo wl) (fun kk _ => n - (intOf kk).toNat)
   case atStart => exact ⟨0, by omega, by simp, Below.refl _ _⟩
   case round =>
    obtain ⟨k, hk, rfl, hbi⟩ := hrel
    have HBI := qH hbi
    have HKC := qH hk
    clear hbi hk
    have HKR := qH (HK.out.below HBI.out HK.out.lt)
    have HOR := qH (ownBelow HO.out HBI.out (Nat.le_refl _))
    have BR := qH (HB.out.trans (HBI.out.mono HB.out.size))
    have SR := qH (Nat.le_trans HSZ.out HBI.out.size)
    by_cases hkn : k < n
    ·have k1 : (k : Int) < (n : Int) := by omega
     have k256 : k < 256 := by have := HFL.out; omega
     obtain ⟨b0, off, rfl, hb0, hcell⟩ := (show Row wr (.slice A (fcs ps j).length cap) (fcs ps j) by rw [fcs_length, ← HN.out]; exact Row.of_own HOR.out).at_ (by rw [fcs_length, ← HN.out]; omega)
     have hkl : k < (firstJ ps j).length := by rw [← HN.out]; exact hkn
     obtain ⟨f, hf⟩ : ∃ f, f = (firstJ ps j)[k] := ⟨_, rfl⟩
     have hck := hcell k (.int .i64 (f : Int)) (by rw [hf]; simp [fcs, nums, hkl])
     have hf256 : f < 256 := by have := firstJ_lt ps j f (by rw [hf]; exact List.getElem_mem hkl); omega
     have hwf : IntKind.u8.wrap (f : Int) = (f : Int) := IntWalk.u8_in _ (by omega)
     have HF := qH hf
     clear hcell hf
     go_wp2_with fail
     refine (refAlike_any v ps j f hjl hf256 wr (R0.out.below (B1.out.trans (BR.out.mono B1.out.size))) hl).mono ?_
     rintro e w4 ⟨rfl, hb4⟩
     have BI4 := qH (HBI.out.trans (hb4.mono HBI.out.size))
     have K4 := qH (HKR.out.below hb4 HKR.out.lt)
     have O4 := qH (ownBelow HOR.out hb4 (Nat.le_refl _))
     have B4 := qH (BR.out.trans (hb4.mono BR.out.size))
     have S4 := qH (Nat.le_trans SR.out hb4.size)
     clear hb4
     cases hx : alikeS ps j f with
     | false =>
      have HNX := qH (clsOf_next HKC.out hkl (by rw [← HF.out]; exact hx))
      clear hx
      go_wp2_with fail
      refine ⟨⟨k + 1, HNX.out, by congr 1, BI4.out⟩, by simp [intOf] <;> omega⟩
     | true =>
      have HST := qH (clsOf_stop HKC.out hkl (by rw [← HF.out]; exact hx))
      have HFN := qH (firstJ_hit (ps := ps) (j := j) (by rw [HST.out]; exact hkl))
      have hkb : ((k : Int) == (n : Int)) = false := by rw [beq_eq_false_iff_ne]; omega
      have hwk : IntKind.u8.wrap (k : Int) = (k : Int) := IntWalk.u8_in _ (by have := HFL.out; omega)
      clear hx
      have hgc := K4.out.cell j
      obtain ⟨u, hu⟩ : ∃ u, (ctab ps j)[j]? = some u := ⟨_, List.getElem?_eq_getElem (by rw [ctab_length]; omega)⟩
      rw [bvs_get _ _ _ hu] at hgc
      have hfz := K4.out.frozen j
      clear hu
      go_wp2_with fail
      refine ⟨⟨j + 1, by omega, by congr 1, ?_, ?_, B4.out.setCell (p := ⟨w1.heap.size, j, none⟩) (Nat.le_refl _) _, by simpa using S4.out⟩, by simp [intOf] <;> omega⟩
      ·rw [show fcs ps (j + 1) = fcs ps j by unfold fcs; rw [HFN.out], HFN.out, ← HN.out]
       exact own_far O4.out (by have := K2.out.lt; exact this) _
      ·rw [← HST.out]
       exact ctab_put K4.out hjl (by have := HCL.out; rw [← HN.out] at this; have := HFL.out; omega)
    ·obtain rfl : k = n := by have := HKC.out; have := HCL.out; have := HN.out; omega
     have k1 : ¬ ((k : Int) < (k : Int)) := by omega
     have hkb : ((k : Int) == (k : Int)) = true := by simp
     have k256 : k < 256 := by have := HFL.out; omega
     have hwk : IntKind.u8.wrap (k : Int) = (k : Int) := IntWalk.u8_in _ (by omega)
     have HST := qH (show clsOf ps j = k by have := HKC.out; have := HCL.out; have := HN.out; omega)
     have HFN := qH (firstJ_new (ps := ps) (j := j) (by rw [HST.out, HN.out]))
     have R1 := qH (rowB (n := 1) (show Blk (wr.alloc (.cells #[.int .i64 (j : Int)] 3)) wr.heap.size 3 [.int .i64 (j : Int)] from Blk.new wr 3 [.int .i64 (j : Int)]) rfl (by omega))
     obtain ⟨u, hu⟩ : ∃ u, (ctab ps j)[j]? = some u := ⟨_, List.getElem?_eq_getElem (by rw [ctab_length]; omega)⟩
     have HU := qH hu
     clear hu
     go_wp2_with ((with_reducible refine atDst 37 ?_); refine wpList_appG (base := w2.heap.size) rfl (.tmp 34) (.tmp 36) 53 rfl 3 i1 (.int .i64 0) 8 Tryz.underlying53 hi1 hy0 hy1 hy2 rfl _ _ _ rfl (HOR.out.alloc _) _ [.int .i64 (j : Int)] rfl R1.out (by simp [Value.oneCell']) (by simp; omega) (by omega) (by have := SR.out; simp; omega) ?_; intro v3 w3 ho3 hg3; have O3 := qH ho3; have B3 := qH ((BR.out.alloc BR.out.size _).grown hg3 (by have := BR.out.size; simp; omega) (fun q hq => by have := own_above HOR.out q hq; have := K2.out.lt; omega)); have K3 := qH ((HKR.out.alloc (.cells #[.int .i64 (j : Int)] 3)).grown hg3 (fun h => by have := own_above HOR.out _ h.symm; have := K2.out.lt; omega)); have S3 := qH (hg3.size); have c3 := K3.out.cell j; rw [bvs_get _ _ _ HU.out] at c3; have f3 := K3.out.frozen j; clear ho3 hg3)
     refine ⟨⟨j + 1, by omega, by congr 1, ?_, ?_, B3.out.setCell (p := ⟨w1.heap.size, j, none⟩) (Nat.le_refl _) _, by have q1 := S3.out; have q2 := SR.out; simp at q1 ⊢; omega⟩, by simp [intOf] <;> omega⟩
     ·rw [show fcs ps (j + 1) = fcs ps j ++ [.int .i64 (j : Int)] by unfold fcs; rw [HFN.out, List.map_append, nums_append]; rfl, HFN.out, List.length_append, ← HN.out]
      exact own_far O3.out (by have := K2.out.lt; exact this) _
     ·rw [← HST.out]
      exact ctab_put K3.out hjl (by rw [HST.out]; exact k256)
  ·obtain rfl : j = 256 := by omega
   have j1 : ¬ ((256 : Int) < 256) := by omega
   obtain ⟨c, hc⟩ : ∃ c, c = ctab ps 256 := ⟨_, rfl⟩
   have HCT := qH hc
   have HCL := qH (show c.length = 256 by rw [hc]; exact ctab_length _ _)
   have KC := qH (show Blk wo w1.heap.size 27 (bvs c) by rw [hc]; exact HK.out)
   have KA := qH (K1.out.below HB.out K1.out.lt)
   have B9 := qH (B1.out.trans (HB.out.mono B1.out.size))
   obtain ⟨n, hn⟩ : ∃ n, n = (firstJ ps 256).length := ⟨_, rfl⟩
   rw [← hn] at HO
   obtain ⟨A, cap, hu5, _, _, _, _⟩ := Row.of_own HO.out
   rw [fcs_length, ← hn] at hu5
   subst hu5
   have HN := qH hn
   clear hc HK HO hn
   go_wp2_with (first
    | ((with_reducible refine atDst 42 ?_); refine wpList_ldArr rfl 27 _ rfl w1.heap.size rfl 27 _ _ KC.out Tryz.underlying27 rfl (size_ctab HCL.out) ?_)
    | ((with_reducible refine atStore 27 2 42 ?_); refine wpList_stBlk rfl 27 _ _ rfl w.heap.size (bvs c) rfl rfl 27 _ KA.out (size_ctab HCL.out) (by rw [bvs_length, bvs_length, HZL.out, HCL.out]) (bvs_all' _) B9.out (Nat.le_refl _) ?_; intro w3 hk3 hb3 hs3 _; have K3 := qH hk3; have B3 := qH hb3; clear hk3 hb3))
   refine bodyPost_ret (results_blk2 rfl _ _ w.heap.size 27 _ _ _ rfl rfl K3.out Tryz.underlying27 rfl (size_ctab HCL.out)) rfl ?_
   exact ⟨by rw [HCT.out, ← HN.out]; rfl, B3.out⟩
theorem firstJ_mono (ps : List (Nat → Bool)) (j : Nat) : ∀ d, (firstJ ps j).length ≤ (firstJ ps (j + d)).length
 | 0 => Nat.le_refl _
 | d + 1 => by
  refine Nat.le_trans (firstJ_mono ps j d) ?_
  rw [show j + (d + 1) = (j + d) + 1 from rfl]
  simp only [firstJ]
  split
  ·exact Nat.le_refl _
  ·rw [List.length_append]; omega
theorem clsOf_lt (ps : List (Nat → Bool)) {j : Nat} (hj : j < 256) : clsOf ps j < (firstJ ps 256).length := by
 have h1 := firstJ_mono ps (j + 1) (256 - (j + 1))
 rw [show j + 1 + (256 - (j + 1)) = 256 from by omega] at h1
 have h2 := clsOf_le ps j
 rcases Nat.lt_or_ge (clsOf ps j) (firstJ ps j).length with h | h
 ·rw [firstJ_hit h] at h1
  omega
 ·rw [firstJ_new (by omega), List.length_append] at h1
  simp at h1
  omega
def outs (ps : List (Nat → Bool)) (n j : Nat) : List (Nat → Bool) := (List.range n).map fun k b => decide (b < j) && decide (clsOf ps b = k)
theorem outs_length (ps : List (Nat → Bool)) (n j : Nat) : (outs ps n j).length = n := by simp [outs]
theorem outs_at (ps : List (Nat → Bool)) (n j i : Nat) (h : i < (outs ps n j).length) : (outs ps n j)[i] = fun b => decide (b < j) && decide (clsOf ps b = i) := by
 simp only [outs, List.getElem_map, List.getElem_range]
theorem outs_get {ps : List (Nat → Bool)} {n j k : Nat} (hk : k < n) : (outs ps n j)[k]? = some fun b => decide (b < j) && decide (clsOf ps b = k) := by simp [outs, hk]
theorem inf_set : (Tryz.prog.info? 43).map (fun i => (i.zero, i.size, i.bytes)) = some (some (.agg (wds fun _ => false).toArray), 4, 32) := by kernel_rfl
def parts (ps : List (Nat → Bool)) : List (Nat → Bool) := outs ps (firstJ ps 256).length 256
theorem guard_set : Tryz.prog.eqGuardType Tryz.prog.depth 43 = false := by kernel_rfl
theorem size_u64 : ∀ w, (sizeOf 41).run Tryz.prog w = .ok 1 w := by
 intro w
 have h : (Tryz.prog.info? 41).map (·.size) = some 1 := by kernel_rfl
 cases hi : Tryz.prog.info? 41 with
 | none => rw [hi] at h; cases h
 | some i =>
  rw [hi] at h
  have h' : i.size = 1 := by simpa using h
  simp [sizeOf, typeInfo, hi, h']
section
variable {P : Program} {w : World} {ops : Array Oper} {rest : List Oper} {o : Oper} {a : Act} {Q : Exit → Act → World → Prop} {K : Act → World → Prop}
theorem run_bldSet1 (t e : TypeId) (i : TypeInfo) (ht : P.underlying t = some (.slice e)) (hi : P.info? e = some i) (hz : i.zero = some (.agg (wds fun _ => false).toArray)) (hs : i.size = 4) (q : Nat → Bool) :
  (Instr.buildSlice t 1 #[(0, .agg (wds q).toArray)]).run P w = .ok (.slice (some ⟨w.heap.size, 0, none⟩) 1 1) (w.alloc (.cells (sets [q]).toArray e)) := by
 have hzv : (zeroValue e).run P w = .ok (.agg (wds fun _ => false).toArray) w := by simp [zeroValue, typeInfo, hi, hz]
 simp [Instr.buildSlice, run_underlying ht, sizeOf, typeInfo, hi, hs, hzv, Value.cells, Instr.fill, wds, Array.range_succ, Array.range_zero', newRow, sets]
theorem wp_bldSet1 (t e : TypeId) (x : Operand) (ho : o.op = .buildSlice t 1 #[(0, x)]) (i : TypeInfo) (ht : P.underlying t = some (.slice e)) (hi : P.info? e = some i) (hz : i.zero = some (.agg (wds fun _ => false).toArray)) (hs : i.size = 4) (q : Nat → Bool)
  (hx : a.eval x = .agg (wds q).toArray) (h : K (a.put o.dst (.slice (some ⟨w.heap.size, 0, none⟩) 1 1)) (w.alloc (.cells (sets [q]).toArray e))) : o.wp P a w K Q := by
 have hrun := run_bldSet1 (P := P) (w := w) t e i ht hi hz hs q
 unfold Oper.wp
 simp only [execOp, ho, List.map_toArray, List.map_cons, List.map_nil, hx, hrun, Sem.run_bind, Result.andThen_ok, Sem.run_pure]
 exact h
theorem wpList_bldSet1 (hg : o.guard = none) (t e : TypeId) (x : Operand) (ho : o.op = .buildSlice t 1 #[(0, x)]) (i : TypeInfo) (ht : P.underlying t = some (.slice e)) (hi : P.info? e = some i) (hz : i.zero = some (.agg (wds fun _ => false).toArray)) (hs : i.size = 4) (q : Nat → Bool)
  (hx : a.eval x = .agg (wds q).toArray)
  (h : ∀ w', Blk w' w.heap.size e (sets [q]) → Below w.heap.size w w' → wpList P ops Q rest (a.put o.dst (.slice (some ⟨w.heap.size, 0, none⟩) 1 1)) w') : wpList P ops Q (o :: rest) a w :=
 wpList_plain hg fun _ hK => wp_bldSet1 t e x ho i ht hi hz hs q hx (hK _ _ (h _ (Blk.new w e _) ((Below.refl _ _).alloc (Nat.le_refl _) _)))
end
/-! ### begun -/
end Go.Proofs.YteadghoojeehlaaGreatDoor
