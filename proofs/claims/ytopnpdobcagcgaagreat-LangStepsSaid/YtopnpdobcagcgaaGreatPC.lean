/-
  Texts of this proof, put together: (BsLs) What package byteset (Less) answers and leaves: draws and blocks of its own alone. No statement is proved here. (BsO) What package byteset (Or) answers and leaves; facts of words. No statement is proved here. (BsA) What package byteset (Has, Of, Or, And, Not, below, Range) answers and leaves. No statement is proved here. (BsB) What package byteset (Or, And, Not, below, Range) answers and leaves. No statement is proved here. (BsR) What package byteset (Range) answers and leaves. No statement is proved here. (RxT) Expressions as trees: how they lie, how great they are, how two compare. No statement is proved here. (RxN) What the document's answer to rx (Nodes, Depth) answers and leaves. No statement is proved here.
-/
import Derived.Test.YtopnpdobcagcgaaGreatPB
import Derived.Shelf.Spec.TrailingZeros
import Derived.Test.YtopnpdobcagcgaaGreatProg
namespace Go.Proofs.YtopnpdobcagcgaaGreat
open Go.RowKit
set_option linter.unusedSimpArgs false
set_option linter.unusedVariables false
theorem low_word (q : Nat → Bool) (y k : Nat) (hy : y = wd q 64) (h0 : y ≠ 0) (hk : k = Lib.ctz 64 y) :
  k < 64 ∧ q k = true ∧ (∀ j, j < k → q j = false) ∧ y &&& (y - 1) = wd (fun j => q j && decide (k + 1 ≤ j)) 64 ∧ y &&& (y - 1) < y := by
 have hlt : y < 2 ^ 64 := by rw [hy]; exact wd_lt q 64
 obtain ⟨m, hm, hk2⟩ := Lib.ctzFrom_spec 64 y (by omega) hlt
 have ek : Lib.ctz 64 y = Lib.ctzFrom 64 y := by simp [Lib.ctz, h0]
 rw [← ek, ← hk] at hm hk2
 have T : ∀ j, y.testBit j = (decide (j < 64) && q j) := fun j => by rw [hy]; exact wd_bit q 64 j
 have T2 : ∀ j, y.testBit j = (decide (j ≥ k) && (2 * m + 1).testBit (j - k)) := fun j => by rw [hm]; exact Nat.testBit_two_pow_mul
 have hp : 0 < 2 ^ k := Nat.pow_pos (by omega)
 have e1 : y - 1 = 2 ^ k * (2 * m) + (2 ^ k - 1) := by rw [hm, Nat.mul_add, Nat.mul_one]; omega
 have T3 : ∀ j, (y - 1).testBit j = if j < k then (2 ^ k - 1).testBit j else (2 * m).testBit (j - k) := fun j => by rw [e1]; exact Nat.testBit_two_pow_mul_add _ (by omega) j
 refine ⟨hk2, ?_, ?_, ?_, Nat.lt_of_le_of_lt Nat.and_le_right (by omega)⟩
 ·have h1 := T k
  rw [T2 k] at h1
  simpa [hk2, Nat.testBit_zero] using h1.symm
 ·intro j hj
  have h1 := T j
  rw [T2 j] at h1
  have : ¬ (j ≥ k) := by omega
  simpa [this, show j < 64 by omega] using h1.symm
 ·apply Nat.eq_of_testBit_eq
  intro j
  rw [Nat.testBit_and, wd_bit, T3, T]
  by_cases h1 : j < k
  ·have h2 := T j
   rw [T2 j] at h2
   have h3 : ¬ (j ≥ k) := by omega
   have h4 : ¬ (k + 1 ≤ j) := by omega
   have h5 : (decide (j < 64) && q j) = false := by rw [← h2]; simp [h3]
   simp [h4, h5]
  ·rw [if_neg h1]
   by_cases h2 : j = k
   ·subst h2
    simp [Nat.testBit_zero]
   ·obtain ⟨d, rfl⟩ : ∃ d, j = k + (d + 1) := ⟨j - k - 1, by omega⟩
    have h3 : k + (d + 1) - k = d + 1 := by omega
    have h4 := T (k + (d + 1))
    rw [T2 (k + (d + 1)), h3, Nat.testBit_succ, show (2 * m + 1) / 2 = m by omega] at h4
    rw [h3, Nat.testBit_succ, show 2 * m / 2 = m by omega]
    have h5 : k + 1 ≤ k + (d + 1) := by omega
    have h6 : k + (d + 1) ≥ k := by omega
    simp only [h6, decide_true, Bool.true_and] at h4
    simp only [h5, decide_true, Bool.and_true]
    rw [← h4]
    cases m.testBit d <;> simp
/-! ### one word of two sets -/
theorem word_xor (p q : Nat → Bool) (i : Nat) : word p i ^^^ word q i = wd (fun j => p (64 * i + j) != q (64 * i + j)) 64 := by
 apply Nat.eq_of_testBit_eq
 intro j
 rw [Nat.testBit_xor]
 simp only [word, wd_bit]
 cases decide (j < 64) <;> simp
theorem neg_wrap (d : Nat) (h0 : d ≠ 0) (h : d < 18446744073709551616) : IntKind.u64.wrap (-(d : Int)) = ((18446744073709551616 - d : Nat) : Int) := by
 rw [IntKind.wrap_u64]
 omega
theorem and_pow (x k : Nat) : x &&& 2 ^ k = if x.testBit k then 2 ^ k else 0 := by
 apply Nat.eq_of_testBit_eq
 intro j
 rw [Nat.testBit_and, Nat.testBit_two_pow]
 by_cases hj : k = j
 ·subst hj
  cases h : x.testBit k <;> simp [h]
 ·cases h : x.testBit k <;> simp [hj, Nat.testBit_two_pow]
theorem less_word (p q : Nat → Bool) (i d : Nat) (hi : i < 4) (hd : d = word p i ^^^ word q i) (h0 : d ≠ 0) (hb : ∀ b, b < 64 * i → p b = q b) :
  ((((word p i) &&& (d &&& (18446744073709551616 - d)) : Nat) : Int) != 0) = lessS p q := by
 have hlt : d < 2 ^ 64 := by rw [hd]; exact Nat.xor_lt_two_pow (word_lt p i) (word_lt q i)
 obtain ⟨hlow, hk64⟩ := Lib.lowest_bit 64 d h0 hlt
 obtain ⟨k, hk⟩ : ∃ k, k = Lib.ctz 64 d := ⟨_, rfl⟩
 obtain ⟨h1, h2, h3, _, _⟩ := low_word _ d k (by rw [hd, word_xor]) h0 hk
 rw [show (18446744073709551616 : Nat) = 2 ^ 64 from rfl, hlow, ← hk]
 have hle := lessS_at (p := p) (q := q) (j := 64 * i + k) (by omega) (fun b hb2 => by
  by_cases hb3 : b < 64 * i
  ·exact hb b hb3
  ·have := h3 (b - 64 * i) (by omega)
   rw [show 64 * i + (b - 64 * i) = b by omega] at this
   simpa using this) (by simpa using h2)
 rw [hle]
 have hbit := wd_bit (fun j => p (64 * i + j)) 64 k
 rw [decide_eq_true h1, Bool.true_and] at hbit
 have hw : (word p i).testBit k = p (64 * i + k) := hbit
 rw [and_pow, hw]
 have hp : 0 < 2 ^ k := Nat.pow_pos (by omega)
 cases p (64 * i + k)
 ·rfl
 ·simp only [if_true, bne_iff_ne, ne_eq]
  omega
theorem less_same (p q : Nat → Bool) (i : Nat) (h0 : word p i ^^^ word q i = 0) (hb : ∀ b, b < 64 * i → p b = q b) : ∀ b, b < 64 * (i + 1) → p b = q b := by
 intro b hb2
 by_cases hb3 : b < 64 * i
 ·exact hb b hb3
 ·rw [word_xor] at h0
  have := wd_zero h0 (b - 64 * i) (by omega)
  rw [show 64 * i + (b - 64 * i) = b by omega] at this
  simpa using this
set_option maxHeartbeats 4000000 in
set_option maxRecDepth 100000 in
theorem bsLess_gr (p q : Nat → Bool) (w : World) :
  Calls Tryz.prog 97 #[.agg (wds p).toArray, .agg (wds q).toArray] w fun e w' => e = .returned (.bool (lessS p q)) ∧ Gr w w' := by
 go_enter Tryz.func97, Tryz.ntmps97
 go_wp2_with (first
  | ((with_reducible refine atDst 2 ?_); refine wpList_boxE rfl 26 _ rfl (wds p) rfl ?_; intro w1 hk1 hb1 hs1 _; have K1 := Lib.hid hk1; have G1 := Lib.hid hb1; clear hk1 hb1 hs1)
  | ((with_reducible refine atDst 3 ?_); refine wpList_boxE rfl 26 _ rfl (wds q) rfl ?_; intro w2 hk2 hb2 hs2 ho2; have L2 := Lib.hid hk2; have G2 := Lib.hid (G1.out.trans hb2); have K2 := Lib.hid (show Blk w2 w.heap.size 26 (wds p) from (ho2 _ K1.out.lt).trans K1.out); clear hk2 hb2 hs2 ho2))
 go_loopw [7] (fun i wl => ∃ j n : Nat, j ≤ 4 ∧ i = .int .i64 (j : Int) ∧ wl = w2.drewN n ∧ ∀ b, b < 64 * j → p b = q b) (fun i _ => 4 - (intOf i).toNat)
 case atStart => exact ⟨0, 0, by omega, by simp, rfl, fun b hb => by omega⟩
 case round =>
  obtain ⟨j, n, hj, rfl, hwl, hb⟩ := hrel
  have HW := Lib.hid hwl
  have HB := Lib.hid hb
  have KR := Lib.hid (show Blk wr w.heap.size 26 (wds p) by rw [hwl]; exact K2.out)
  have LR := Lib.hid (show Blk wr w1.heap.size 26 (wds q) by rw [hwl]; exact L2.out)
  clear hwl hb
  by_cases hjl : j < 4
  ·have j1 : (j : Int) < 4 := by omega
   have hcp := KR.out.cell j
   rw [wds_get p j hjl] at hcp
   have hcq := LR.out.cell j
   rw [wds_get q j hjl] at hcq
   have HLP := Lib.hid (word_lt p j)
   have HLQ := Lib.hid (word_lt q j)
   have HLW := Lib.hid (fun d hd h0 => less_word p q j d hjl hd h0 HB.out)
   have HSM := Lib.hid (less_same p q j)
   obtain ⟨x, hx⟩ : ∃ x, x = word p j := ⟨_, rfl⟩
   obtain ⟨y, hy⟩ : ∃ y, y = word q j := ⟨_, rfl⟩
   rw [← hx] at hcp HLP HLW HSM
   rw [← hy] at hcq HLQ HLW HSM
   clear hx hy
   obtain ⟨d, hd⟩ : ∃ d, d = x ^^^ y := ⟨_, rfl⟩
   have HD := Lib.hid hd
   have hxy : bits .xor .u64 (x : Int) (y : Int) = (d : Int) := by rw [u64_xor_nat x y HLP.out HLQ.out, hd]
   have HLD := Lib.hid (show d < 18446744073709551616 by rw [hd]; exact Nat.xor_lt_two_pow (n := 64) HLP.out HLQ.out)
   clear hd
   by_cases h0 : d = 0
   ·have hdb : ((d : Int) != 0) = false := by rw [h0]; rfl
    have HN := Lib.hid (HSM.out (by rw [← HD.out]; exact h0) HB.out)
    clear h0
    go_wp2_with fail
    go_quiet (fail)
    go_wp2_with fail
    exact ⟨⟨j + 1, n + nq, by omega, by congr 1, by rw [HW.out, World.drewN_drewN], HN.out⟩, by simp [intOf] <;> omega⟩
   ·have hdb : ((d : Int) != 0) = true := by simpa using h0
    have HA := Lib.hid (HLW.out d HD.out h0)
    have hng := neg_wrap d h0 HLD.out
    obtain ⟨e, he⟩ : ∃ e, e = 18446744073709551616 - d := ⟨_, rfl⟩
    have HLE := Lib.hid (show e < 18446744073709551616 by have := HLD.out; omega)
    rw [← he] at hng HA
    obtain ⟨f, hf⟩ : ∃ f, f = d &&& e := ⟨_, rfl⟩
    have hde : bits .and .u64 (d : Int) (e : Int) = (f : Int) := by rw [u64_and_nat d e HLD.out HLE.out, hf]
    rw [← hf] at HA
    have HLF := Lib.hid (show f < 18446744073709551616 by rw [hf]; exact Nat.lt_of_le_of_lt Nat.and_le_left HLD.out)
    have hxf : bits .and .u64 (x : Int) (f : Int) = ((x &&& f : Nat) : Int) := u64_and_nat x f HLP.out HLF.out
    obtain ⟨g, hg⟩ : ∃ g, g = x &&& f := ⟨_, rfl⟩
    rw [← hg] at HA hxf
    clear he hf hg h0
    go_wp2_with fail
    go_quiet (fail)
    go_wp2_with fail
    go_ret
    rw [HA.out, HW.out]
    exact ⟨rfl, (G2.out.drewN _).drewN _⟩
  ·obtain rfl : j = 4 := by omega
   have j1 : ¬ ((4 : Int) < 4) := by omega
   have HL := Lib.hid (lessS_none HB.out)
   go_wp2_with fail
   go_ret
   rw [HL.out, HW.out]
   exact ⟨rfl, G2.out.drewN _⟩
end Go.Proofs.YtopnpdobcagcgaaGreat
namespace Go.Proofs.YtopnpdobcagcgaaGreat
open Go.RowKit
set_option linter.unusedSimpArgs false
set_option linter.unusedVariables false
def cutW (r : Nat → Bool) (j : Nat) : Nat → Bool := fun b => decide (b < 64 * j) && r b
theorem cutW_zero (r : Nat → Bool) : cutW r 0 = fun _ => false := by
 funext b
 simp [cutW]
theorem cutW_four (r : Nat → Bool) : wds (cutW r 4) = wds r := wds_congr fun b hb => by simp [cutW]; omega
theorem cutW_same (r : Nat → Bool) {i j : Nat} (h : i ≠ j) : word (cutW r j) i = word (cutW r (j + 1)) i := wd_congr fun k hk => by
 have : decide (64 * i + k < 64 * j) = decide (64 * i + k < 64 * (j + 1)) := decide_eq_decide.2 (by omega)
 simp only [cutW, this]
theorem cutW_here (r : Nat → Bool) (j : Nat) : word (cutW r (j + 1)) j = word r j := wd_congr fun k hk => by
 have : decide (64 * j + k < 64 * (j + 1)) = true := decide_eq_true (by omega)
 simp only [cutW, this, Bool.true_and]
theorem cutW_next (r : Nat → Bool) (j : Nat) (hj : j < 4) : (wds (cutW r j)).set j (.int .u64 (word r j : Int)) = wds (cutW r (j + 1)) := by
 rw [← cutW_here r j]
 match j, hj with
 | 0, _ => simp only [wds, List.set_cons_zero]; rw [cutW_same r (i := 1) (j := 0) (by omega), cutW_same r (i := 2) (j := 0) (by omega), cutW_same r (i := 3) (j := 0) (by omega)]
 | 1, _ => simp only [wds, List.set_cons_zero, List.set_cons_succ]; rw [cutW_same r (i := 0) (j := 1) (by omega), cutW_same r (i := 2) (j := 1) (by omega), cutW_same r (i := 3) (j := 1) (by omega)]
 | 2, _ => simp only [wds, List.set_cons_zero, List.set_cons_succ]; rw [cutW_same r (i := 0) (j := 2) (by omega), cutW_same r (i := 1) (j := 2) (by omega), cutW_same r (i := 3) (j := 2) (by omega)]
 | 3, _ => simp only [wds, List.set_cons_zero, List.set_cons_succ]; rw [cutW_same r (i := 0) (j := 3) (by omega), cutW_same r (i := 1) (j := 3) (by omega), cutW_same r (i := 2) (j := 3) (by omega)]
theorem word_not (p : Nat → Bool) (i : Nat) : (18446744073709551615 : Nat) ^^^ word p i = word (fun b => !p b) i := by
 rw [show (18446744073709551615 : Nat) = 2 ^ 64 - 1 from rfl]
 apply Nat.eq_of_testBit_eq
 intro j
 rw [Nat.testBit_xor, Nat.testBit_two_pow_sub_one]
 simp only [word, wd_bit]
 cases decide (j < 64) <;> simp
theorem word_low (n i : Nat) (k : Nat) (hk : k = min (n - 64 * i) 64) : 2 ^ k - 1 = word (fun b => decide (b < n)) i := by
 apply Nat.eq_of_testBit_eq
 intro j
 rw [Nat.testBit_two_pow_sub_one]
 simp only [word, wd_bit]
 rw [← Bool.decide_and, decide_eq_decide]
 omega
theorem low_val (n j k : Nat) (hk : k = min (n - 64 * j) 64) (hn : n ≤ 256) (hj : j < 4) :
  IntKind.u64.wrap (IntKind.u64.wrap (2 ^ (if 64 < if (n : Int) - (j : Int) * 64 < 0 then 0 else (n : Int) - (j : Int) * 64 then (64 : Int) else if (n : Int) - (j : Int) * 64 < 0 then 0 else (n : Int) - (j : Int) * 64).toNat) - 1) = ((2 ^ k - 1 : Nat) : Int) := by
 have e : (if 64 < if (n : Int) - (j : Int) * 64 < 0 then 0 else (n : Int) - (j : Int) * 64 then (64 : Int) else if (n : Int) - (j : Int) * 64 < 0 then 0 else (n : Int) - (j : Int) * 64).toNat = k := by
  rw [hk]
  split <;> split at * <;> omega
 rw [e]
 have e2 : (2 ^ k : Int) = ((2 ^ k : Nat) : Int) := by rw [Int.natCast_pow]; rfl
 rw [e2]
 by_cases h64 : k = 64
 ·rw [h64]
  decide
 ·have h : 2 ^ k < 2 ^ 64 := Nat.pow_lt_pow_right (by omega) (by omega)
  have h0 : 0 < 2 ^ k := Nat.pow_pos (by omega)
  generalize 2 ^ k = y at h h0
  rw [IntWalk.u64_in (y : Int) (by omega), IntWalk.u64_in _ (by omega)]
  omega
set_option maxHeartbeats 2000000 in
set_option maxRecDepth 100000 in
theorem bsOr_any (p q : Nat → Bool) (w : World) :
  Calls Tryz.prog 52 #[.agg (wds p).toArray, .agg (wds q).toArray] w fun e w' => e = .returned (.agg (wds fun b => Bool.or (p b) (q b)).toArray) ∧ Below w.heap.size w w' := by
 obtain ⟨r, hr⟩ : ∃ r : Nat → Bool, r = fun b => Bool.or (p b) (q b) := ⟨_, rfl⟩
 have HOP := Lib.hid (show ∀ i, HOr.hOr (word p i) (word q i) = word r i from fun i => by rw [hr]; exact word_or p q i)
 rw [← hr]
 clear hr
 obtain ⟨i0, hi0, hz0⟩ := info_set
 obtain ⟨z, hz⟩ : ∃ z : Nat → Bool, z = fun _ => false := ⟨_, rfl⟩
 rw [← hz] at hz0
 have HZ := Lib.hid hz
 clear hz
 go_enter Tryz.func52, Tryz.ntmps52
 go_wp2_with (first
  | ((with_reducible refine atDst 2 ?_); refine wpList_box rfl 26 _ rfl (wds p) rfl (Below.refl w.heap.size w) (Nat.le_refl _) ?_; intro w1 hk1 hb1 hs1 _; have K1 := Lib.hid hk1; have B1 := Lib.hid hb1; clear hk1 hb1 hs1)
  | ((with_reducible refine atDst 3 ?_); refine wpList_box rfl 26 _ rfl (wds q) rfl B1.out B1.out.size ?_; intro w2 hk2 hb2 hs2 ho2; have L2 := Lib.hid hk2; have B2 := Lib.hid hb2; have K2 := Lib.hid (show Blk w2 w.heap.size 26 (wds p) from (ho2 _ K1.out.lt).trans K1.out); clear hk2 hb2 hs2 ho2)
  | ((with_reducible refine atDst 4 ?_); refine wpList_new rfl 26 rfl i0 _ (wds z) hi0 hz0 rfl B2.out B2.out.size ?_; intro w3 hk3 hb3 hs3 ho3; have M3 := Lib.hid hk3; have B3 := Lib.hid hb3; have K3 := Lib.hid (show Blk w3 w.heap.size 26 (wds p) from (ho3 _ K2.out.lt).trans K2.out); have L3 := Lib.hid (show Blk w3 w1.heap.size 26 (wds q) from (ho3 _ L2.out.lt).trans L2.out); clear hk3 hb3 hs3 ho3))
 go_loopw [6] (fun i wl => ∃ j : Nat, j ≤ 4 ∧ i = .int .i64 (j : Int) ∧ Blk wl w2.heap.size 26 (wds (cutW r j)) ∧ Below w2.heap.size w3 wl) (fun i _ => 4 - (intOf i).toNat)
 case atStart => exact ⟨0, by omega, by simp, by rw [cutW_zero, ← HZ.out]; exact M3.out, Below.refl _ _⟩
 case round =>
  obtain ⟨j, hj, rfl, hk, hb⟩ := hrel
  have KR := Lib.hid hk
  have BR := Lib.hid hb
  clear hk hb
  by_cases hjl : j < 4
  ·have j1 : (j : Int) < 4 := by omega
   have hcp := (K3.out.below BR.out K2.out.lt).cell j
   rw [wds_get p j hjl] at hcp
   have hcq := (L3.out.below BR.out L2.out.lt).cell j
   rw [wds_get q j hjl] at hcq
   have hfz := KR.out.frozen j
   have hcr := KR.out.cell j
   rw [wds_get _ j hjl] at hcr
   obtain ⟨x, hx⟩ : ∃ x, x = word p j := ⟨_, rfl⟩
   obtain ⟨y, hy⟩ : ∃ y, y = word q j := ⟨_, rfl⟩
   obtain ⟨z2, hz2⟩ : ∃ y, y = word (cutW r j) j := ⟨_, rfl⟩
   rw [← hx] at hcp
   rw [← hy] at hcq
   rw [← hz2] at hcr
   have hlx : x < 18446744073709551616 := by rw [hx]; exact word_lt _ _
   have hly : y < 18446744073709551616 := by rw [hy]; exact word_lt _ _
   have HXY := Lib.hid (show HOr.hOr x y = word r j by rw [hx, hy]; exact HOP.out j)
   clear hx hy hz2
   go_wp2_with fail
   go_still_tail 9, (by kernel_rfl)
   change wpList _ _ _ _ _ wr.drew
   go_wp2_with fail
   refine ⟨⟨j + 1, by omega, by congr 1, ?_, (BR.out.setCell (p := ⟨w2.heap.size, j, none⟩) (Nat.le_refl _) _).drew⟩, by simp [intOf] <;> omega⟩
   have hk := KR.out.set j (.int .u64 ((HOr.hOr x y : Nat) : Int))
   rw [HXY.out, cutW_next r j hjl] at hk
   rw [u64_or_nat x y hlx hly, HXY.out]
   exact hk.drew
  ·obtain rfl : j = 4 := by omega
   have k9 := KR.out
   rw [cutW_four] at k9
   have K9 := Lib.hid k9
   have B9 := Lib.hid (B3.out.trans (BR.out.mono B2.out.size))
   clear k9 KR
   go_wp2_with (first
    | ((with_reducible refine atDst 19 ?_); refine wpList_ldArr rfl 26 _ rfl w2.heap.size rfl 26 _ _ K9.out Tryz.underlying26 rfl (size_set r) ?_)
    | ((with_reducible refine atStore 26 4 19 ?_); refine wpList_stBlk rfl 26 _ _ rfl w2.heap.size (wds r) rfl rfl 26 _ K9.out (size_set r) rfl (wds_all _) B9.out B2.out.size ?_; intro w4 hk4 hb4 hs4 _; have K4 := Lib.hid hk4; have B4 := Lib.hid hb4; clear hk4 hb4))
   refine bodyPost_ret (results_blk rfl _ _ w2.heap.size 26 _ _ rfl K4.out Tryz.underlying26 rfl (size_set r)) rfl ?_
   exact ⟨rfl, B4.out⟩
end Go.Proofs.YtopnpdobcagcgaaGreat
namespace Go.Proofs.YtopnpdobcagcgaaGreat
open Go.RowKit
set_option linter.unusedSimpArgs false
set_option linter.unusedVariables false
theorem has_bit2 (x k : Nat) (hx : x < 18446744073709551616) : (bits .and .u64 ((x : Int) / 2 ^ k) 1 == 1) = decide (x / 2 ^ k % 2 = 1) := by
 have e : (2 ^ k : Int) = ((2 ^ k : Nat) : Int) := by rw [Int.natCast_pow]; rfl
 have hlt : x / 2 ^ k < 18446744073709551616 := Nat.lt_of_le_of_lt (Nat.div_le_self _ _) hx
 rw [e, ← Int.natCast_ediv]
 generalize x / 2 ^ k = y at hlt
 rw [show (1 : Int) = ((1 : Nat) : Int) from rfl, u64_and_nat y 1 hlt (by omega), Nat.and_one_is_mod, Bool.eq_iff_iff, beq_iff_eq, decide_eq_true_iff]
 omega
set_option maxHeartbeats 1000000 in
theorem bsHas_any (p : Nat → Bool) (b : Nat) (w : World) (hb : b < 256) :
  Calls Tryz.prog 30 #[.agg (wds p).toArray, .int .u8 (b : Int)] w fun e w' => e = .returned (.bool (p b)) ∧ Below w.heap.size w w' := by
 obtain ⟨x, hx⟩ : ∃ x, x = word p (b / 64) := ⟨_, rfl⟩
 have hlt := word_lt p (b / 64)
 have hsh := word_shift p b
 rw [← hx] at hlt hsh
 have HX := Lib.hid hx
 have HSH := Lib.hid hsh
 clear hx hsh
 go_enter Tryz.func30, Tryz.ntmps30
 go_wp2_with ((with_reducible refine atDst 2 ?_); refine wpList_box rfl 26 _ rfl (wds p) rfl (Below.refl w.heap.size w) (Nat.le_refl _) ?_; intro w1 hk1 hb1 hs1 _; have c1 := hk1.cell (b / 64); rw [wds_get p (b / 64) (by omega), ← HX.out] at c1; have B1 := Lib.hid hb1; clear hk1 hb1 hs1)
 go_ret
 refine ⟨?_, B1.out⟩
 rw [← HSH.out]
 refine congrArg (fun b => Ending.returned (.bool b)) ?_
 exact has_bit2 x _ hlt
set_option maxHeartbeats 2000000 in
set_option maxRecDepth 100000 in
theorem bsOf_any (v : Value) (l : List UInt8) (w : World) (hr : Row w v (bvs l)) (hl : l.length ≤ 1048576) :
  Calls Tryz.prog 70 #[v] w fun e w' => e = .returned (.agg (wds fun b => decide (UInt8.ofNat b ∈ l)).toArray) ∧ Below w.heap.size w w' := by
 have R0 := Lib.hid hr
 obtain ⟨A, cap, rfl, a1, a2, a0, a3⟩ := hr
 rw [bvs_length] at a1 R0 ⊢
 clear a3 a0 a2
 obtain ⟨i0, hi0, hz0⟩ := info_set
 obtain ⟨z, hz⟩ : ∃ z : Nat → Bool, z = fun _ => false := ⟨_, rfl⟩
 rw [← hz] at hz0
 have HZ := Lib.hid hz
 clear hz
 go_enter Tryz.func70, Tryz.ntmps70
 go_wp2_with ((with_reducible refine atDst 2 ?_); refine wpList_new rfl 26 rfl i0 _ (wds z) hi0 hz0 rfl (Below.refl w.heap.size w) (Nat.le_refl _) ?_; intro w1 hk1 hb1 hs1 _; have K1 := Lib.hid hk1; have B1 := Lib.hid hb1; clear hk1 hb1 hs1)
 go_loopw [7] (fun i wl => ∃ j : Nat, j ≤ l.length ∧ i = .int .i64 (j : Int) ∧ Blk wl w.heap.size 26 (wds fun b => decide (UInt8.ofNat b ∈ l.take j)) ∧ Below w.heap.size w wl) (fun i _ => l.length - (intOf i).toNat)
 case atStart => exact ⟨0, by omega, by simp, by simpa [HZ.out] using K1.out, B1.out⟩
 case round =>
  obtain ⟨j, hj, rfl, hk, hb⟩ := hrel
  have KR := Lib.hid hk
  have BR := Lib.hid hb
  clear hk hb
  by_cases hjl : j < l.length
  ·have i1 : (j : Int) < (l.length : Int) := by omega
   obtain ⟨b0, off, rfl, hb0, hcell⟩ := (R0.out.below BR.out).at_ (by rw [bvs_length]; omega)
   have hcj := hcell j _ (bvs_get l j l[j] (List.getElem?_eq_getElem hjl))
   obtain ⟨c, hc⟩ : ∃ c : UInt8, c = l[j] := ⟨_, rfl⟩
   rw [← hc] at hcj
   have HC := Lib.hid hc
   have hlt := c.toNat_lt
   obtain ⟨n, hn⟩ : ∃ n, n = c.toNat := ⟨_, rfl⟩
   have hcj' : wr.cell? ⟨b0, off + j, none⟩ = some (.int .u8 (n : Int)) := by rw [hn]; exact hcj
   rw [← hn] at hlt
   have HN := Lib.hid hn
   have hgc := KR.out.cell (n / 64)
   rw [wds_get _ (n / 64) (by omega)] at hgc
   obtain ⟨x, hx⟩ : ∃ x, x = word (fun b => decide (UInt8.ofNat b ∈ l.take j)) (n / 64) := ⟨_, rfl⟩
   rw [← hx] at hgc
   have hfz := KR.out.frozen (n / 64)
   have HX := Lib.hid hx
   have hlx : x < 18446744073709551616 := by rw [hx]; exact word_lt _ _
   have hsh := shl_bit (n % 64) (Nat.mod_lt _ (by omega))
   clear hcell hc hcj hn hx
   have hq1 : IntKind.u8.wrap ((n : Int) / 64) = ((n / 64 : Nat) : Int) := IntWalk.u8_in _ (by omega)
   have hq2 : ((n : Int).tmod 64) = ((n % 64 : Nat) : Int) := by rw [Int.tmod_eq_emod_of_nonneg (by omega)]; rfl
   have hq3 : (n : Int) / 64 < 4 := by omega
   have hq4 : 0 ≤ (n : Int) / 64 := by omega
   have hq5 : ((n : Int) / 64).toNat = n / 64 := by omega
   go_wp2_with fail
   refine ⟨⟨j + 1, by omega, by congr 1, ?_, (BR.out.setCell (p := ⟨w.heap.size, n / 64, none⟩) (Nat.le_refl _) _)⟩, by simp [intOf] <;> omega⟩
   rw [of_bits hlx (Nat.mod_lt n (by omega))]
   have hk := KR.out.set (n / 64) (.int .u64 ((x ||| 2 ^ (n % 64) : Nat) : Int))
   rw [HX.out, wds_put _ n (by omega)] at hk
   rw [HX.out]
   rw [wds_congr (q := fun b => decide (UInt8.ofNat b ∈ l.take j) || decide (b = n)) (fun b hb => ?_)]
   ·exact hk
   ·rw [List.take_succ_eq_append_getElem hjl, ← HC.out]
    exact mem_next b c n hb HN.out _
  ·obtain rfl : j = l.length := by omega
   have i1 : ¬ ((l.length : Int) < (l.length : Int)) := by omega
   have k9 := KR.out
   rw [List.take_length] at k9
   obtain ⟨q, hq⟩ : ∃ q : Nat → Bool, q = fun b => decide (UInt8.ofNat b ∈ l) := ⟨_, rfl⟩
   rw [← hq] at k9
   have K9 := Lib.hid k9
   have HQ := Lib.hid hq
   clear k9 hq KR
   go_wp2_with (first
    | ((with_reducible refine atDst 21 ?_); refine wpList_ldArr rfl 26 _ rfl w.heap.size rfl 26 _ _ K9.out Tryz.underlying26 rfl (size_set q) ?_)
    | ((with_reducible refine atStore 26 2 21 ?_); refine wpList_stBlk rfl 26 _ _ rfl w.heap.size (wds q) rfl rfl 26 _ K9.out (size_set q) rfl (wds_all _) BR.out (Nat.le_refl _) ?_; intro w3 hk3 hb3 hs3 _; have K3 := Lib.hid hk3; have B3 := Lib.hid hb3; clear hk3 hb3))
   refine bodyPost_ret (results_blk rfl _ _ w.heap.size 26 _ _ rfl K3.out Tryz.underlying26 rfl (size_set q)) rfl ?_
   exact ⟨by rw [HQ.out], B3.out⟩
end Go.Proofs.YtopnpdobcagcgaaGreat
namespace Go.Proofs.YtopnpdobcagcgaaGreat
open Go.RowKit
set_option linter.unusedSimpArgs false
set_option linter.unusedVariables false
set_option maxHeartbeats 2000000 in
set_option maxRecDepth 100000 in
theorem bsAnd_any (p q : Nat → Bool) (w : World) :
  Calls Tryz.prog 51 #[.agg (wds p).toArray, .agg (wds q).toArray] w fun e w' => e = .returned (.agg (wds fun b => Bool.and (p b) (q b)).toArray) ∧ Below w.heap.size w w' := by
 obtain ⟨r, hr⟩ : ∃ r : Nat → Bool, r = fun b => Bool.and (p b) (q b) := ⟨_, rfl⟩
 have HOP := Lib.hid (show ∀ i, HAnd.hAnd (word p i) (word q i) = word r i from fun i => by rw [hr]; exact word_and p q i)
 rw [← hr]
 clear hr
 obtain ⟨i0, hi0, hz0⟩ := info_set
 obtain ⟨z, hz⟩ : ∃ z : Nat → Bool, z = fun _ => false := ⟨_, rfl⟩
 rw [← hz] at hz0
 have HZ := Lib.hid hz
 clear hz
 go_enter Tryz.func51, Tryz.ntmps51
 go_wp2_with (first
  | ((with_reducible refine atDst 2 ?_); refine wpList_box rfl 26 _ rfl (wds p) rfl (Below.refl w.heap.size w) (Nat.le_refl _) ?_; intro w1 hk1 hb1 hs1 _; have K1 := Lib.hid hk1; have B1 := Lib.hid hb1; clear hk1 hb1 hs1)
  | ((with_reducible refine atDst 3 ?_); refine wpList_box rfl 26 _ rfl (wds q) rfl B1.out B1.out.size ?_; intro w2 hk2 hb2 hs2 ho2; have L2 := Lib.hid hk2; have B2 := Lib.hid hb2; have K2 := Lib.hid (show Blk w2 w.heap.size 26 (wds p) from (ho2 _ K1.out.lt).trans K1.out); clear hk2 hb2 hs2 ho2)
  | ((with_reducible refine atDst 4 ?_); refine wpList_new rfl 26 rfl i0 _ (wds z) hi0 hz0 rfl B2.out B2.out.size ?_; intro w3 hk3 hb3 hs3 ho3; have M3 := Lib.hid hk3; have B3 := Lib.hid hb3; have K3 := Lib.hid (show Blk w3 w.heap.size 26 (wds p) from (ho3 _ K2.out.lt).trans K2.out); have L3 := Lib.hid (show Blk w3 w1.heap.size 26 (wds q) from (ho3 _ L2.out.lt).trans L2.out); clear hk3 hb3 hs3 ho3))
 go_loopw [6] (fun i wl => ∃ j : Nat, j ≤ 4 ∧ i = .int .i64 (j : Int) ∧ Blk wl w2.heap.size 26 (wds (cutW r j)) ∧ Below w2.heap.size w3 wl) (fun i _ => 4 - (intOf i).toNat)
 case atStart => exact ⟨0, by omega, by simp, by rw [cutW_zero, ← HZ.out]; exact M3.out, Below.refl _ _⟩
 case round =>
  obtain ⟨j, hj, rfl, hk, hb⟩ := hrel
  have KR := Lib.hid hk
  have BR := Lib.hid hb
  clear hk hb
  by_cases hjl : j < 4
  ·have j1 : (j : Int) < 4 := by omega
   have hcp := (K3.out.below BR.out K2.out.lt).cell j
   rw [wds_get p j hjl] at hcp
   have hcq := (L3.out.below BR.out L2.out.lt).cell j
   rw [wds_get q j hjl] at hcq
   have hfz := KR.out.frozen j
   have hcr := KR.out.cell j
   rw [wds_get _ j hjl] at hcr
   obtain ⟨x, hx⟩ : ∃ x, x = word p j := ⟨_, rfl⟩
   obtain ⟨y, hy⟩ : ∃ y, y = word q j := ⟨_, rfl⟩
   obtain ⟨z2, hz2⟩ : ∃ y, y = word (cutW r j) j := ⟨_, rfl⟩
   rw [← hx] at hcp
   rw [← hy] at hcq
   rw [← hz2] at hcr
   have hlx : x < 18446744073709551616 := by rw [hx]; exact word_lt _ _
   have hly : y < 18446744073709551616 := by rw [hy]; exact word_lt _ _
   have HXY := Lib.hid (show HAnd.hAnd x y = word r j by rw [hx, hy]; exact HOP.out j)
   clear hx hy hz2
   go_wp2_with fail
   go_still_tail 9, (by kernel_rfl)
   change wpList _ _ _ _ _ wr.drew
   go_wp2_with fail
   refine ⟨⟨j + 1, by omega, by congr 1, ?_, (BR.out.setCell (p := ⟨w2.heap.size, j, none⟩) (Nat.le_refl _) _).drew⟩, by simp [intOf] <;> omega⟩
   have hk := KR.out.set j (.int .u64 ((HAnd.hAnd x y : Nat) : Int))
   rw [HXY.out, cutW_next r j hjl] at hk
   rw [u64_and_nat x y hlx hly, HXY.out]
   exact hk.drew
  ·obtain rfl : j = 4 := by omega
   have k9 := KR.out
   rw [cutW_four] at k9
   have K9 := Lib.hid k9
   have B9 := Lib.hid (B3.out.trans (BR.out.mono B2.out.size))
   clear k9 KR
   go_wp2_with (first
    | ((with_reducible refine atDst 19 ?_); refine wpList_ldArr rfl 26 _ rfl w2.heap.size rfl 26 _ _ K9.out Tryz.underlying26 rfl (size_set r) ?_)
    | ((with_reducible refine atStore 26 4 19 ?_); refine wpList_stBlk rfl 26 _ _ rfl w2.heap.size (wds r) rfl rfl 26 _ K9.out (size_set r) rfl (wds_all _) B9.out B2.out.size ?_; intro w4 hk4 hb4 hs4 _; have K4 := Lib.hid hk4; have B4 := Lib.hid hb4; clear hk4 hb4))
   refine bodyPost_ret (results_blk rfl _ _ w2.heap.size 26 _ _ rfl K4.out Tryz.underlying26 rfl (size_set r)) rfl ?_
   exact ⟨rfl, B4.out⟩
set_option maxHeartbeats 2000000 in
set_option maxRecDepth 100000 in
theorem bsNot_any (p : Nat → Bool) (w : World) :
  Calls Tryz.prog 73 #[.agg (wds p).toArray] w fun e w' => e = .returned (.agg (wds fun b => !p b).toArray) ∧ Below w.heap.size w w' := by
 obtain ⟨r, hr⟩ : ∃ r : Nat → Bool, r = fun b => !p b := ⟨_, rfl⟩
 have HOP := Lib.hid (show ∀ i, (18446744073709551615 : Nat) ^^^ word p i = word r i from fun i => by rw [hr]; exact word_not p i)
 rw [← hr]
 clear hr
 obtain ⟨i0, hi0, hz0⟩ := info_set
 obtain ⟨z, hz⟩ : ∃ z : Nat → Bool, z = fun _ => false := ⟨_, rfl⟩
 rw [← hz] at hz0
 have HZ := Lib.hid hz
 clear hz
 go_enter Tryz.func73, Tryz.ntmps73
 go_wp2_with (first
  | ((with_reducible refine atDst 1 ?_); refine wpList_box rfl 26 _ rfl (wds p) rfl (Below.refl w.heap.size w) (Nat.le_refl _) ?_; intro w1 hk1 hb1 hs1 _; have K1 := Lib.hid hk1; have B1 := Lib.hid hb1; clear hk1 hb1 hs1)
  | ((with_reducible refine atDst 2 ?_); refine wpList_new rfl 26 rfl i0 _ (wds z) hi0 hz0 rfl B1.out B1.out.size ?_; intro w2 hk2 hb2 hs2 ho2; have M2 := Lib.hid hk2; have B2 := Lib.hid hb2; have K2 := Lib.hid (show Blk w2 w.heap.size 26 (wds p) from (ho2 _ K1.out.lt).trans K1.out); clear hk2 hb2 hs2 ho2))
 go_loopw [4] (fun i wl => ∃ j : Nat, j ≤ 4 ∧ i = .int .i64 (j : Int) ∧ Blk wl w1.heap.size 26 (wds (cutW r j)) ∧ Below w1.heap.size w2 wl) (fun i _ => 4 - (intOf i).toNat)
 case atStart => exact ⟨0, by omega, by simp, by rw [cutW_zero, ← HZ.out]; exact M2.out, Below.refl _ _⟩
 case round =>
  obtain ⟨j, hj, rfl, hk, hb⟩ := hrel
  have KR := Lib.hid hk
  have BR := Lib.hid hb
  clear hk hb
  by_cases hjl : j < 4
  ·have j1 : (j : Int) < 4 := by omega
   have hcp := (K2.out.below BR.out K1.out.lt).cell j
   rw [wds_get p j hjl] at hcp
   have hfz := KR.out.frozen j
   have hcr := KR.out.cell j
   rw [wds_get _ j hjl] at hcr
   obtain ⟨x, hx⟩ : ∃ x, x = word p j := ⟨_, rfl⟩
   obtain ⟨z2, hz2⟩ : ∃ y, y = word (cutW r j) j := ⟨_, rfl⟩
   rw [← hx] at hcp
   rw [← hz2] at hcr
   have hlx : x < 18446744073709551616 := by rw [hx]; exact word_lt _ _
   have HXY := Lib.hid (show (18446744073709551615 : Nat) ^^^ x = word r j by rw [hx]; exact HOP.out j)
   clear hx hz2
   go_wp2_with fail
   refine ⟨⟨j + 1, by omega, by congr 1, ?_, (BR.out.setCell (p := ⟨w1.heap.size, j, none⟩) (Nat.le_refl _) _)⟩, by simp [intOf] <;> omega⟩
   have hk := KR.out.set j (.int .u64 ((18446744073709551615 ^^^ x : Nat) : Int))
   rw [HXY.out, cutW_next r j hjl] at hk
   have e0 : (if IntKind.u64.signed = true then (-1 : Int) else IntKind.u64.max) = ((18446744073709551615 : Nat) : Int) := by decide
   rw [e0, u64_xor_nat 18446744073709551615 x (by omega) hlx, HXY.out]
   exact hk
  ·obtain rfl : j = 4 := by omega
   have k9 := KR.out
   rw [cutW_four] at k9
   have K9 := Lib.hid k9
   have B9 := Lib.hid (B2.out.trans (BR.out.mono B1.out.size))
   clear k9 KR
   go_wp2_with (first
    | ((with_reducible refine atDst 14 ?_); refine wpList_ldArr rfl 26 _ rfl w1.heap.size rfl 26 _ _ K9.out Tryz.underlying26 rfl (size_set r) ?_)
    | ((with_reducible refine atStore 26 2 14 ?_); refine wpList_stBlk rfl 26 _ _ rfl w1.heap.size (wds r) rfl rfl 26 _ K9.out (size_set r) rfl (wds_all _) B9.out B1.out.size ?_; intro w4 hk4 hb4 hs4 _; have K4 := Lib.hid hk4; have B4 := Lib.hid hb4; clear hk4 hb4))
   refine bodyPost_ret (results_blk rfl _ _ w1.heap.size 26 _ _ rfl K4.out Tryz.underlying26 rfl (size_set r)) rfl ?_
   exact ⟨rfl, B4.out⟩
set_option maxHeartbeats 2000000 in
set_option maxRecDepth 100000 in
theorem bsBelow_any (n : Nat) (w : World) (hn : n ≤ 256) :
  Calls Tryz.prog 72 #[.int .i64 (n : Int)] w fun e w' => e = .returned (.agg (wds fun b => decide (b < n)).toArray) ∧ Below w.heap.size w w' := by
 obtain ⟨r, hr⟩ : ∃ r : Nat → Bool, r = fun b => decide (b < n) := ⟨_, rfl⟩
 have HOP := Lib.hid (show ∀ i, (2 : Nat) ^ min (n - 64 * i) 64 - 1 = word r i from fun i => by rw [hr]; exact word_low n i _ rfl)
 rw [← hr]
 clear hr
 obtain ⟨i0, hi0, hz0⟩ := info_set
 obtain ⟨z, hz⟩ : ∃ z : Nat → Bool, z = fun _ => false := ⟨_, rfl⟩
 rw [← hz] at hz0
 have HZ := Lib.hid hz
 clear hz
 go_enter Tryz.func72, Tryz.ntmps72
 go_wp2_with ((with_reducible refine atDst 2 ?_); refine wpList_new rfl 26 rfl i0 _ (wds z) hi0 hz0 rfl (Below.refl w.heap.size w) (Nat.le_refl _) ?_; intro w2 hk2 hb2 hs2 ho2; have M2 := Lib.hid hk2; have B2 := Lib.hid hb2; clear hk2 hb2 hs2 ho2)
 go_loopw [4] (fun i wl => ∃ j : Nat, j ≤ 4 ∧ i = .int .i64 (j : Int) ∧ Blk wl w.heap.size 26 (wds (cutW r j)) ∧ Below w.heap.size w wl) (fun i _ => 4 - (intOf i).toNat)
 case atStart => exact ⟨0, by omega, by simp, by rw [cutW_zero, ← HZ.out]; exact M2.out, B2.out⟩
 case round =>
  obtain ⟨j, hj, rfl, hk, hb⟩ := hrel
  have KR := Lib.hid hk
  have BR := Lib.hid hb
  clear hk hb
  by_cases hjl : j < 4
  ·have j1 : (j : Int) < 4 := by omega
   have hfz := KR.out.frozen j
   have hcr := KR.out.cell j
   rw [wds_get _ j hjl] at hcr
   obtain ⟨z2, hz2⟩ : ∃ y, y = word (cutW r j) j := ⟨_, rfl⟩
   rw [← hz2] at hcr
   obtain ⟨k, hk⟩ : ∃ k, k = min (n - 64 * j) 64 := ⟨_, rfl⟩
   have HXY := Lib.hid (show (2 : Nat) ^ k - 1 = word r j by rw [hk]; exact HOP.out j)
   have HN := Lib.hid hn
   have hw1 : IntKind.i64.wrap ((j : Int) * 64) = (j : Int) * 64 := IntWalk.i64_in _ (by omega)
   have hw2 : IntKind.i64.wrap ((n : Int) - (j : Int) * 64) = (n : Int) - (j : Int) * 64 := IntWalk.i64_in _ (by omega)
   have HKK := Lib.hid hk
   clear hz2 hk hn
   go_wp2_with fail
   refine ⟨⟨j + 1, by omega, by congr 1, ?_, (BR.out.setCell (p := ⟨w.heap.size, j, none⟩) (Nat.le_refl _) _)⟩, by simp [intOf] <;> omega⟩
   have hk := KR.out.set j (.int .u64 ((2 ^ k - 1 : Nat) : Int))
   rw [HXY.out, cutW_next r j hjl] at hk
   rw [low_val n j k HKK.out HN.out hjl, HXY.out]
   exact hk
  ·obtain rfl : j = 4 := by omega
   have k9 := KR.out
   rw [cutW_four] at k9
   have K9 := Lib.hid k9
   clear k9 KR
   go_wp2_with (first
    | ((with_reducible refine atDst 18 ?_); refine wpList_ldArr rfl 26 _ rfl w.heap.size rfl 26 _ _ K9.out Tryz.underlying26 rfl (size_set r) ?_)
    | ((with_reducible refine atStore 26 2 18 ?_); refine wpList_stBlk rfl 26 _ _ rfl w.heap.size (wds r) rfl rfl 26 _ K9.out (size_set r) rfl (wds_all _) BR.out (Nat.le_refl _) ?_; intro w4 hk4 hb4 hs4 _; have K4 := Lib.hid hk4; have B4 := Lib.hid hb4; clear hk4 hb4))
   refine bodyPost_ret (results_blk rfl _ _ w.heap.size 26 _ _ rfl K4.out Tryz.underlying26 rfl (size_set r)) rfl ?_
   exact ⟨rfl, B4.out⟩
end Go.Proofs.YtopnpdobcagcgaaGreat
namespace Go.Proofs.YtopnpdobcagcgaaGreat
open Go.RowKit
set_option linter.unusedSimpArgs false
set_option linter.unusedVariables false
set_option maxHeartbeats 400000 in
set_option maxRecDepth 100000 in
theorem bsRange_any (f t : Nat) (w : World) (hf : f < 256) (ht : t < 256) :
  Calls Tryz.prog 54 #[.int .u8 (f : Int), .int .u8 (t : Int)] w fun e w' => e = .returned (.agg (wds fun b => decide (f ≤ b ∧ b ≤ t)).toArray) ∧ Below w.heap.size w w' := by
 obtain ⟨p, hp⟩ : ∃ r : Nat → Bool, r = fun b => decide (b < t + 1) := ⟨_, rfl⟩
 obtain ⟨q, hq⟩ : ∃ r : Nat → Bool, r = fun b => decide (b < f) := ⟨_, rfl⟩
 obtain ⟨q2, hq2⟩ : ∃ r : Nat → Bool, r = fun b => !q b := ⟨_, rfl⟩
 obtain ⟨r, hr⟩ : ∃ r : Nat → Bool, r = fun b => p b && q2 b := ⟨_, rfl⟩
 have HRR := Lib.hid (show r = fun b => decide (f ≤ b ∧ b ≤ t) by
  rw [hr]
  funext b
  rw [hq2, hp, hq, Bool.eq_iff_iff]
  simp
  omega)
 have HP := Lib.hid hp
 have HQ := Lib.hid hq
 have HQ2 := Lib.hid hq2
 have HR := Lib.hid hr
 clear hp hq hq2 hr
 rw [← HRR.out]
 obtain ⟨i0, hi0, hz0⟩ := info_set
 obtain ⟨z, hz⟩ : ∃ z : Nat → Bool, z = fun _ => false := ⟨_, rfl⟩
 rw [← hz] at hz0
 clear hz
 obtain ⟨n, hn⟩ : ∃ n, n = t + 1 := ⟨_, rfl⟩
 have hw1 : wrap64 ((t : Int) + 1) = (n : Int) := by rw [hn]; exact IntWalk.wrap64_in _ (by omega)
 have hw2 : wrap64 (t : Int) = (t : Int) := IntWalk.wrap64_in _ (by omega)
 have hw3 : wrap64 (f : Int) = (f : Int) := IntWalk.wrap64_in _ (by omega)
 have hn2 : n ≤ 256 := by omega
 have HN := Lib.hid hn
 have HT := Lib.hid ht
 clear hn ht
 go_enter Tryz.func54, Tryz.ntmps54
 go_wp2_with ((with_reducible refine atDst 4 ?_); refine wpList_new rfl 26 rfl i0 _ (wds z) hi0 hz0 rfl (Below.refl w.heap.size w) (Nat.le_refl _) ?_; intro w2 hk2 hb2 hs2 ho2; have M2 := Lib.hid hk2; have B2 := Lib.hid hb2; clear hk2 hb2 hs2 ho2)
 have c1 := bsBelow_any n w2 hn2
 rw [show (fun b => decide (b < n)) = p by rw [HP.out, HN.out]] at c1
 refine c1.mono ?_
 clear c1
 intro e w3 h3
 obtain ⟨rfl, hb3⟩ := h3
 have M3 := Lib.hid (M2.out.below hb3 M2.out.lt)
 have B3 := Lib.hid (B2.out.trans (hb3.mono B2.out.size))
 clear hb3
 go_wp2_with fail
 refine (bsBelow_any f w3 (by omega)).mono ?_
 rintro e w4 ⟨rfl, hb4⟩
 rw [← HQ.out]
 have M4 := Lib.hid (M3.out.below hb4 M3.out.lt)
 have B4 := Lib.hid (B3.out.trans (hb4.mono B3.out.size))
 clear hb4
 go_wp2_with fail
 refine (bsNot_any q w4).mono ?_
 rintro e w5 ⟨rfl, hb5⟩
 rw [← HQ2.out]
 have M5 := Lib.hid (M4.out.below hb5 M4.out.lt)
 have B5 := Lib.hid (B4.out.trans (hb5.mono B4.out.size))
 clear hb5
 go_wp2_with fail
 have c4 := bsAnd_any p q2 w5
 rw [show (fun b => Bool.and (p b) (q2 b)) = r from HR.out.symm] at c4
 refine c4.mono ?_
 clear c4
 rintro e w6 ⟨rfl, hb6⟩
 have M6 := Lib.hid (M5.out.below hb6 M5.out.lt)
 have B6 := Lib.hid (B5.out.trans (hb6.mono B5.out.size))
 clear hb6
 go_wp2_with ((with_reducible refine atStore 26 4 13 ?_); refine wpList_stBlk rfl 26 _ _ rfl w.heap.size (wds r) rfl rfl 26 _ M6.out (size_set r) rfl (wds_all _) B6.out (Nat.le_refl _) ?_; intro w7 hk7 hb7 hs7 _; have K7 := Lib.hid hk7; have B7 := Lib.hid hb7; clear hk7 hb7)
 refine bodyPost_ret (results_blk rfl _ _ w.heap.size 26 _ _ rfl K7.out Tryz.underlying26 rfl (size_set r)) rfl ?_
 exact ⟨rfl, B7.out⟩
end Go.Proofs.YtopnpdobcagcgaaGreat
namespace Go.Proofs.YtopnpdobcagcgaaGreat
open Go.RowKit
set_option linter.unusedSimpArgs false
set_option linter.unusedVariables false
inductive T where
 | node (k : Int) (s : Nat → Bool) (l : List T)
def T.kind : T → Int | .node k _ _ => k
def T.set : T → (Nat → Bool) | .node _ s _ => s
def T.args : T → List T | .node _ _ l => l
mutual
def T.nodes : T → Nat
 | .node _ _ l => 1 + nodesL l
def nodesL : List T → Nat
 | [] => 0
 | t :: r => t.nodes + nodesL r
end
mutual
def T.depth : T → Nat
 | .node _ _ l => depthL l + 1
def depthL : List T → Nat
 | [] => 0
 | t :: r => max t.depth (depthL r)
end
theorem nodes_pos (t : T) : 0 < t.nodes := by
 cases t with
 | node k s l => simp only [T.nodes]; omega
theorem nodesL_append : ∀ a b : List T, nodesL (a ++ b) = nodesL a + nodesL b
 | [], b => by simp [nodesL]
 | t :: r, b => by
  have := nodesL_append r b
  simp only [List.cons_append, nodesL, this]
  omega
theorem depthL_append : ∀ a b : List T, depthL (a ++ b) = max (depthL a) (depthL b)
 | [], b => by simp [depthL]
 | t :: r, b => by
  have := depthL_append r b
  simp only [List.cons_append, depthL, this]
  omega
theorem nodesL_next (l : List T) (i : Nat) (t : T) (h : l[i]? = some t) : nodesL (l.take (i + 1)) = nodesL (l.take i) + t.nodes := by
 obtain ⟨hi, rfl⟩ := List.getElem?_eq_some_iff.1 h
 rw [List.take_succ_eq_append_getElem hi, nodesL_append]
 simp [nodesL]
theorem depthL_next (l : List T) (i : Nat) (t : T) (h : l[i]? = some t) : depthL (l.take (i + 1)) = max (depthL (l.take i)) t.depth := by
 obtain ⟨hi, rfl⟩ := List.getElem?_eq_some_iff.1 h
 rw [List.take_succ_eq_append_getElem hi, depthL_append]
 simp [depthL]
theorem nodes_mem : ∀ {l : List T} {t : T}, t ∈ l → t.nodes ≤ nodesL l
 | a :: r, t, h => by
  rcases List.mem_cons.1 h with rfl | h
  ·simp only [nodesL]; omega
  ·have := nodes_mem h
   simp only [nodesL]; omega
theorem len_nodes : ∀ l : List T, l.length ≤ nodesL l
 | [] => Nat.le_refl _
 | t :: r => by
  have h1 := len_nodes r
  have h2 := nodes_pos t
  simp only [nodesL, List.length_cons]; omega
/-! ### how two compare -/
mutual
def cmpT : T → T → Int
 | .node k s l, .node k' s' l' => if k = k' then (if k = 3 ∧ eqS s s' = false then (if lessS s s' then -1 else 1) else cmpL l l') else if k < k' then -1 else 1
def cmpL : List T → List T → Int
 | [], [] => 0
 | [], _ :: _ => -1
 | _ :: _, [] => 1
 | a :: r, b :: r' => if cmpT a b = 0 then cmpL r r' else cmpT a b
end
mutual
def sameT : T → T → Bool
 | .node k s l, .node k' s' l' => decide (k = k') && eqS s s' && sameL l l'
def sameL : List T → List T → Bool
 | [], [] => true
 | [], _ :: _ => false
 | _ :: _, [] => false
 | a :: r, b :: r' => sameT a b && sameL r r'
end
/-! ### how they lie -/
inductive RxD (D : Nat → Prop) (w : World) : List Value → T → Prop
 | node {k : Int} {s : Nat → Bool} {l : List T} {A : Option Addr} {cap : Nat} (f : Nat → List Value) (h1 : l.length ≤ cap) (h2 : cap ≤ maxLen) (h0 : A = none → cap = 0)
   (h3 : l ≠ [] → ∃ b off, A = some ⟨b, off, none⟩ ∧ D b ∧ ∀ i, i < l.length → w.rangeAt b (off + i * 6) (f i))
   (h4 : ∀ i t, l[i]? = some t → RxD D w (f i) t) : RxD D w (.int .i64 k :: (wds s ++ [.slice A l.length cap])) (.node k s l)
theorem range_heap {w w' : World} {b o : Nat} {cs : List Value} (h : w.rangeAt b o cs) (hb : w'.heap[b]? = w.heap[b]?) : w'.rangeAt b o cs := fun j v hv => by
 have := h j v hv
 unfold World.cell? at this ⊢
 simp only [hb]
 exact this
theorem RxD.stay {D : Nat → Prop} {w w' : World} {cs : List Value} {t : T} (h : RxD D w cs t) (hb : ∀ k, D k → w'.heap[k]? = w.heap[k]?) : RxD D w' cs t := by
 induction h with
 | node f h1 h2 h0 h3 h4 ih =>
  refine .node f h1 h2 h0 (fun hne => ?_) ih
  obtain ⟨b, off, hA, hlt, hc⟩ := h3 hne
  exact ⟨b, off, hA, hlt, fun i hi => range_heap (hc i hi) (hb b hlt)⟩
theorem RxD.mono {D D' : Nat → Prop} {w : World} {cs : List Value} {t : T} (h : RxD D w cs t) (hb : ∀ k, D k → D' k) : RxD D' w cs t := by
 induction h with
 | node f h1 h2 h0 h3 h4 ih =>
  refine .node f h1 h2 h0 (fun hne => ?_) ih
  obtain ⟨b, off, hA, hlt, hc⟩ := h3 hne
  exact ⟨b, off, hA, hb b hlt, hc⟩
theorem RxD.length {D : Nat → Prop} {w : World} {cs : List Value} {t : T} (h : RxD D w cs t) : cs.length = 6 := by
 cases h
 rfl
theorem RxD.opened {D : Nat → Prop} {w : World} {cs : List Value} {k : Int} {s : Nat → Bool} {l : List T} (h : RxD D w cs (.node k s l)) :
  ∃ (A : Option Addr) (cap : Nat) (f : Nat → List Value), cs = .int .i64 k :: (wds s ++ [.slice A l.length cap]) ∧ l.length ≤ cap ∧ cap ≤ maxLen ∧ (A = none → cap = 0) ∧ (l ≠ [] → ∃ b off, A = some ⟨b, off, none⟩ ∧ D b ∧ ∀ i, i < l.length → w.rangeAt b (off + i * 6) (f i)) ∧ ∀ i t, l[i]? = some t → RxD D w (f i) t := by
 cases h with
 | node f h1 h2 h0 h3 h4 => exact ⟨_, _, f, rfl, h1, h2, h0, h3, h4⟩
theorem RxD.one {D : Nat → Prop} {w : World} {cs : List Value} {t : T} (h : RxD D w cs t) : ∀ u ∈ cs, u.oneCell' = true := by
 cases h with
 | node f h1 h2 h0 h3 h4 =>
  intro u hu
  rcases List.mem_cons.1 hu with rfl | hu
  ·rfl
  ·rcases List.mem_append.1 hu with hu | hu
   ·exact List.all_eq_true.1 (wds_all _) u hu
   ·obtain rfl := List.mem_singleton.1 hu
    rfl
def RxV (B : Nat) (w : World) (cs : List Value) (t : T) : Prop := RxD (fun k => k < B) w cs t
theorem RxV.stay {B : Nat} {w w' : World} {cs : List Value} {t : T} (h : RxV B w cs t) (hb : Below B w w') : RxV B w' cs t := RxD.stay h fun k hk => hb.block k hk
theorem RxV.mono {B B' : Nat} {w : World} {cs : List Value} {t : T} (h : RxV B w cs t) (hb : B ≤ B') : RxV B' w cs t := RxD.mono h fun k hk => Nat.lt_of_lt_of_le hk hb
theorem RxV.length {B : Nat} {w : World} {cs : List Value} {t : T} (h : RxV B w cs t) : cs.length = 6 := RxD.length h
theorem RxV.opened {B : Nat} {w : World} {cs : List Value} {k : Int} {s : Nat → Bool} {l : List T} (h : RxV B w cs (.node k s l)) :
  ∃ (A : Option Addr) (cap : Nat) (f : Nat → List Value), cs = .int .i64 k :: (wds s ++ [.slice A l.length cap]) ∧ l.length ≤ cap ∧ cap ≤ maxLen ∧ (A = none → cap = 0) ∧ (l ≠ [] → ∃ b off, A = some ⟨b, off, none⟩ ∧ b < B ∧ ∀ i, i < l.length → w.rangeAt b (off + i * 6) (f i)) ∧ ∀ i t, l[i]? = some t → RxV B w (f i) t := RxD.opened h
def RowT (B : Nat) (w : World) (v : Value) (l : List T) : Prop :=
 ∃ (A : Option Addr) (cap : Nat) (f : Nat → List Value), v = .slice A l.length cap ∧ l.length ≤ cap ∧ cap ≤ maxLen ∧ (A = none → cap = 0) ∧ (l ≠ [] → ∃ b off, A = some ⟨b, off, none⟩ ∧ b < B ∧ ∀ i, i < l.length → w.rangeAt b (off + i * 6) (f i)) ∧ ∀ i t, l[i]? = some t → RxV B w (f i) t
theorem RowT.below {B : Nat} {w w' : World} {v : Value} {l : List T} (h : RowT B w v l) (hb : Below B w w') : RowT B w' v l := by
 obtain ⟨A, cap, f, hv, h1, h2, h0, h3, h4⟩ := h
 refine ⟨A, cap, f, hv, h1, h2, h0, fun hne => ?_, fun i t ht => (h4 i t ht).stay hb⟩
 obtain ⟨b, off, hA, hlt, hc⟩ := h3 hne
 exact ⟨b, off, hA, hlt, fun i hi => range_below (hc i hi) hb hlt⟩
theorem RxV.row {B : Nat} {w : World} {k : Int} {s : Nat → Bool} {l : List T} {cs : List Value} (h : RxV B w cs (.node k s l)) : ∃ v, cs = .int .i64 k :: (wds s ++ [v]) ∧ RowT B w v l := by
 obtain ⟨A, cap, f, hcs, h⟩ := h.opened
 exact ⟨_, hcs, A, cap, f, rfl, h⟩
theorem RowT.rx {B : Nat} {w : World} {v : Value} {l : List T} (h : RowT B w v l) (k : Int) (s : Nat → Bool) : RxV B w (.int .i64 k :: (wds s ++ [v])) (.node k s l) := by
 obtain ⟨A, cap, f, rfl, h1, h2, h0, h3, h4⟩ := h
 exact RxD.node f h1 h2 h0 h3 h4
theorem RowT.at_ {B : Nat} {w : World} {A : Option Addr} {n cap : Nat} {l : List T} (h : RowT B w (.slice A n cap) l) (hne : 0 < l.length) :
  ∃ (b off : Nat) (f : Nat → List Value), A = some ⟨b, off, none⟩ ∧ b < B ∧ (∀ i, i < l.length → w.rangeAt b (off + i * 6) (f i)) ∧ ∀ i t, l[i]? = some t → RxV B w (f i) t := by
 obtain ⟨A', cap', f, he, _, _, _, h3, h4⟩ := h
 injection he with hA _ _
 subst hA
 obtain ⟨b, off, h5, h6, h7⟩ := h3 (by rintro rfl; simp at hne)
 exact ⟨b, off, f, h5, h6, h7, h4⟩
def RowD (D : Nat → Prop) (w : World) (v : Value) (l : List T) : Prop :=
 ∃ (A : Option Addr) (cap : Nat) (f : Nat → List Value), v = .slice A l.length cap ∧ l.length ≤ cap ∧ cap ≤ maxLen ∧ (A = none → cap = 0) ∧ (l ≠ [] → ∃ b off, A = some ⟨b, off, none⟩ ∧ D b ∧ ∀ i, i < l.length → w.rangeAt b (off + i * 6) (f i)) ∧ ∀ i t, l[i]? = some t → RxD D w (f i) t
theorem RowT.rowD {B : Nat} {w : World} {v : Value} {l : List T} (h : RowT B w v l) : RowD (fun k => k < B) w v l := h
theorem RowD.stay {D : Nat → Prop} {w w' : World} {v : Value} {l : List T} (h : RowD D w v l) (hb : ∀ k, D k → w'.heap[k]? = w.heap[k]?) : RowD D w' v l := by
 obtain ⟨A, cap, f, hv, h1, h2, h0, h3, h4⟩ := h
 refine ⟨A, cap, f, hv, h1, h2, h0, fun hne => ?_, fun i t ht => (h4 i t ht).stay hb⟩
 obtain ⟨b, off, hA, hlt, hc⟩ := h3 hne
 exact ⟨b, off, hA, hlt, fun i hi => range_heap (hc i hi) (hb b hlt)⟩
theorem RowD.mono {D D' : Nat → Prop} {w : World} {v : Value} {l : List T} (h : RowD D w v l) (hD : ∀ k, D k → D' k) : RowD D' w v l := by
 obtain ⟨A, cap, f, hv, h1, h2, h0, h3, h4⟩ := h
 refine ⟨A, cap, f, hv, h1, h2, h0, fun hne => ?_, fun i t ht => (h4 i t ht).mono hD⟩
 obtain ⟨b, off, hA, hlt, hc⟩ := h3 hne
 exact ⟨b, off, hA, hD b hlt, hc⟩
theorem RxD.row {D : Nat → Prop} {w : World} {k : Int} {s : Nat → Bool} {l : List T} {cs : List Value} (h : RxD D w cs (.node k s l)) : ∃ v, cs = .int .i64 k :: (wds s ++ [v]) ∧ RowD D w v l := by
 obtain ⟨A, cap, f, hcs, h⟩ := h.opened
 exact ⟨_, hcs, A, cap, f, rfl, h⟩
theorem RowD.rx {D : Nat → Prop} {w : World} {v : Value} {l : List T} (h : RowD D w v l) (k : Int) (s : Nat → Bool) : RxD D w (.int .i64 k :: (wds s ++ [v])) (.node k s l) := by
 obtain ⟨A, cap, f, rfl, h1, h2, h0, h3, h4⟩ := h
 exact RxD.node f h1 h2 h0 h3 h4
theorem RowD.keep {D : Nat → Prop} {B : Nat} {w w' : World} {v : Value} {l : List T} (h : RowD D w v l) (hb : Below B w w') (hD : ∀ k, D k → k < B) : RowD D w' v l := h.stay fun k hk => hb.block k (hD k hk)
theorem RxD.keep {D : Nat → Prop} {B : Nat} {w w' : World} {cs : List Value} {t : T} (h : RxD D w cs t) (hb : Below B w w') (hD : ∀ k, D k → k < B) : RxD D w' cs t := h.stay fun k hk => hb.block k (hD k hk)
end Go.Proofs.YtopnpdobcagcgaaGreat
namespace Go.Proofs.YtopnpdobcagcgaaGreat
open Go.RowKit
set_option linter.unusedSimpArgs false
set_option linter.unusedVariables false
theorem size_rx {cs : List Value} (h : cs.length = 6) : (Tryz.prog.info? 29).map (·.size) = some cs.length := by
 rw [h]
 kernel_rfl
theorem wrap_sum (a b : Nat) (h : a + b ≤ 4611686018427387904) : IntKind.i64.wrap ((a : Int) + (b : Int)) = ((a + b : Nat) : Int) := by
 rw [← Int.natCast_add]
 exact IntWalk.i64_in _ (by omega)
theorem wrap_sum' (a b : Nat) (h : a + b ≤ 4611686018427387904) : wrap64 ((a : Int) + (b : Int)) = ((a + b : Nat) : Int) := by
 rw [← Int.natCast_add]
 exact IntWalk.wrap64_in _ (by omega)
theorem wrap_one (j : Nat) (h : j ≤ 4611686018427387904) : wrap64 ((j : Int) + 1) = ((j + 1 : Nat) : Int) := by
 rw [show (j : Int) + 1 = ((j + 1 : Nat) : Int) from rfl]
 exact IntWalk.wrap64_in _ (by omega)
theorem wrap_one' (j : Nat) (h : j ≤ 4611686018427387904) : IntKind.i64.wrap ((j : Int) + 1) = ((j + 1 : Nat) : Int) := by
 rw [show (j : Int) + 1 = ((j + 1 : Nat) : Int) from rfl]
 exact IntWalk.i64_in _ (by omega)
theorem nodesL_take (l : List T) (j : Nat) : nodesL (l.take j) ≤ nodesL l := by
 have h := nodesL_append (l.take j) (l.drop j)
 rw [List.take_append_drop] at h
 omega
theorem RxV.part {B : Nat} {w w' : World} {l : List T} {f : Nat → List Value} (h : ∀ i t, l[i]? = some t → RxV B w (f i) t) (hb : Below B w w') (hB : B ≤ w'.heap.size) {i : Nat} {t : T} (ht : l[i]? = some t) : RxV w'.heap.size w' (f i) t :=
 ((h i t ht).stay hb).mono hB
set_option maxHeartbeats 2000000 in
set_option maxRecDepth 100000 in
theorem refNodes_any : ∀ (N : Nat) (t : T), t.nodes ≤ N → t.nodes ≤ 1099511627776 → ∀ (cs : List Value) (w : World), RxV w.heap.size w cs t →
  Calls Tryz.prog 26 #[.agg cs.toArray] w fun e w' => e = .returned (.int .i64 (t.nodes : Int)) ∧ Below w.heap.size w w' := by
 intro N
 induction N with
 | zero => intro t h; have := nodes_pos t; omega
 | succ N ih =>
  rintro ⟨k, s, l⟩ hN hM cs w hv
  have IH := Lib.hid ih
  clear ih
  obtain ⟨A, cap, f, rfl, h1, h2, h0, h3, h4⟩ := hv.opened
  have H3 := Lib.hid h3
  have H4 := Lib.hid h4
  have HNN := Lib.hid (show T.nodes (.node k s l) = 1 + nodesL l by simp only [T.nodes])
  rw [HNN.out] at hN hM ⊢
  have HN := Lib.hid hN
  have HM := Lib.hid hM
  obtain ⟨cs, hcs⟩ : ∃ cs, cs = Value.int .i64 k :: (wds s ++ [.slice A l.length cap]) := ⟨_, rfl⟩
  have HCL := Lib.hid (show cs.length = 6 by rw [hcs]; rfl)
  have HC5 := Lib.hid (show cs[5]? = some (.slice A l.length cap) by rw [hcs]; rfl)
  have HLL := Lib.hid (len_nodes l)
  rw [← hcs]
  clear hv h1 h2 h0 h3 h4 hcs hN hM
  go_enter Tryz.func26, Tryz.ntmps26
  go_wp2_with ((with_reducible refine atDst 1 ?_); refine wpList_box rfl 29 _ rfl cs rfl (Below.refl w.heap.size w) (Nat.le_refl _) ?_; intro w1 hk1 hb1 hs1 _; have K1 := Lib.hid hk1; have B1 := Lib.hid hb1; clear hk1 hb1 hs1)
  go_loopw [3, 4] (fun n i wl => ∃ j : Nat, j ≤ l.length ∧ i = .int .i64 (j : Int) ∧ n = .int .i64 ((1 + nodesL (l.take j) : Nat) : Int) ∧ Below w1.heap.size w1 wl) (fun _ i _ => l.length - (intOf i).toNat)
  case atStart => exact ⟨0, by omega, by simp, by simp [nodesL], Below.refl _ _⟩
  case round =>
   obtain ⟨j, hj, rfl, rfl, hb⟩ := hrel
   have HB := Lib.hid hb
   clear hb
   have KR := Lib.hid (K1.out.below HB.out K1.out.lt)
   have c5 := KR.out.cell 5
   rw [HC5.out] at c5
   by_cases hjl : j < l.length
   ·have j1 : (j : Int) < (l.length : Int) := Int.ofNat_lt.2 hjl
    obtain ⟨b, off, rfl, hb, hrng⟩ := H3.out (by rintro rfl; simp at hjl)
    have BW := Lib.hid (B1.out.trans (HB.out.mono B1.out.size))
    obtain ⟨u, hu⟩ : ∃ u, l[j]? = some u := ⟨_, List.getElem?_eq_getElem hjl⟩
    have HV := Lib.hid (RxV.part H4.out BW.out BW.out.size hu)
    have HRG := Lib.hid (range_below (hrng j hjl) BW.out hb)
    have hnx := nodesL_next l j u hu
    have htk := nodesL_take l (j + 1)
    have hmem := nodes_mem (List.mem_of_getElem? hu)
    have HU := Lib.hid hu
    have HNX := Lib.hid hnx
    have hle1 : (1 + nodesL (l.take j)) + u.nodes ≤ 4611686018427387904 := by have := HM.out; omega
    have HUN := Lib.hid (show u.nodes ≤ N by have := HN.out; omega)
    have HUM := Lib.hid (show u.nodes ≤ 1099511627776 by have := HM.out; omega)
    have e1 := wrap_sum _ _ hle1
    have e2 := wrap_sum' _ _ hle1
    have hj62 : j ≤ 4611686018427387904 := by have := HM.out; have := HLL.out; omega
    have e3 := wrap_one j hj62
    have e4 := wrap_one' j hj62
    have HEX := Lib.hid (show (1 + nodesL (l.take j)) + u.nodes = 1 + nodesL (l.take (j + 1)) by rw [hnx]; omega)
    obtain ⟨a, ha⟩ : ∃ a, a = 1 + nodesL (l.take j) := ⟨_, rfl⟩
    obtain ⟨c, hc⟩ : ∃ c, c = u.nodes := ⟨_, rfl⟩
    have HCU := Lib.hid hc
    rw [← ha, ← hc] at e1 e2 HEX
    rw [← ha]
    clear hrng hu hnx htk hmem hle1 ha hc hj62
    go_wp2_with ((with_reducible refine atDst 17 ?_); refine wpList_load_mid rfl 29 _ rfl b (off + j * 6) rfl (f j) _ HRG.out Tryz.underlying29 rfl (size_rx HV.out.length) ?_)
    refine (IH.out u HUN.out HUM.out (f j) wr HV.out).mono ?_
    rintro e w2 ⟨rfl, hb2⟩
    rw [← HCU.out]
    have B2 := Lib.hid (HB.out.trans (hb2.mono HB.out.size))
    clear hb2
    go_wp2_with fail
    exact ⟨⟨j + 1, by omega, by congr 1, by rw [← HEX.out, Int.natCast_add], B2.out⟩, by simp [intOf] <;> omega⟩
   ·obtain rfl : j = l.length := by omega
    have j1 : ¬ ((l.length : Int) < (l.length : Int)) := by omega
    have B9 := Lib.hid (B1.out.trans (HB.out.mono B1.out.size))
    rw [List.take_length]
    go_wp2_with fail
    go_ret
    exact ⟨rfl, B9.out⟩
mutual
theorem depth_le : ∀ t : T, t.depth ≤ t.nodes
 | .node k s l => by
  have := depthL_le l
  simp only [T.depth, T.nodes]
  omega
theorem depthL_le : ∀ l : List T, depthL l ≤ nodesL l
 | [] => Nat.le_refl _
 | t :: r => by
  have h1 := depth_le t
  have h2 := depthL_le r
  simp only [depthL, nodesL]
  omega
end
theorem max_int (a c : Nat) : Value.int .i64 (if a < c then (c : Int) else (a : Int)) = Value.int .i64 ((max a c : Nat) : Int) := by
 congr 1
 split <;> omega
set_option maxHeartbeats 2000000 in
set_option maxRecDepth 100000 in
theorem refDepth_any : ∀ (N : Nat) (t : T), t.nodes ≤ N → t.nodes ≤ 1099511627776 → ∀ (cs : List Value) (w : World), RxV w.heap.size w cs t →
  Calls Tryz.prog 27 #[.agg cs.toArray] w fun e w' => e = .returned (.int .i64 (t.depth : Int)) ∧ Below w.heap.size w w' := by
 intro N
 induction N with
 | zero => intro t h; have := nodes_pos t; omega
 | succ N ih =>
  rintro ⟨k, s, l⟩ hN hM cs w hv
  have IH := Lib.hid ih
  clear ih
  obtain ⟨A, cap, f, rfl, h1, h2, h0, h3, h4⟩ := hv.opened
  have H3 := Lib.hid h3
  have H4 := Lib.hid h4
  have HNN := Lib.hid (show T.nodes (.node k s l) = 1 + nodesL l by simp only [T.nodes])
  have HDD := Lib.hid (show T.depth (.node k s l) = depthL l + 1 by simp only [T.depth])
  have HDL := Lib.hid (depthL_le l)
  rw [HNN.out] at hN hM
  rw [HDD.out]
  have HN := Lib.hid hN
  have HM := Lib.hid hM
  obtain ⟨cs, hcs⟩ : ∃ cs, cs = Value.int .i64 k :: (wds s ++ [.slice A l.length cap]) := ⟨_, rfl⟩
  have HCL := Lib.hid (show cs.length = 6 by rw [hcs]; rfl)
  have HC5 := Lib.hid (show cs[5]? = some (.slice A l.length cap) by rw [hcs]; rfl)
  have HLL := Lib.hid (len_nodes l)
  rw [← hcs]
  clear hv h1 h2 h0 h3 h4 hcs hN hM
  go_enter Tryz.func27, Tryz.ntmps27
  go_wp2_with ((with_reducible refine atDst 1 ?_); refine wpList_box rfl 29 _ rfl cs rfl (Below.refl w.heap.size w) (Nat.le_refl _) ?_; intro w1 hk1 hb1 hs1 _; have K1 := Lib.hid hk1; have B1 := Lib.hid hb1; clear hk1 hb1 hs1)
  go_loopw [3, 4] (fun n i wl => ∃ j : Nat, j ≤ l.length ∧ i = .int .i64 (j : Int) ∧ n = .int .i64 ((depthL (l.take j) : Nat) : Int) ∧ Below w1.heap.size w1 wl) (fun _ i _ => l.length - (intOf i).toNat)
  case atStart => exact ⟨0, by omega, by simp, by simp [depthL], Below.refl _ _⟩
  case round =>
   obtain ⟨j, hj, rfl, rfl, hb⟩ := hrel
   have HB := Lib.hid hb
   clear hb
   have KR := Lib.hid (K1.out.below HB.out K1.out.lt)
   have c5 := KR.out.cell 5
   rw [HC5.out] at c5
   by_cases hjl : j < l.length
   ·have j1 : (j : Int) < (l.length : Int) := Int.ofNat_lt.2 hjl
    obtain ⟨b, off, rfl, hb, hrng⟩ := H3.out (by rintro rfl; simp at hjl)
    have BW := Lib.hid (B1.out.trans (HB.out.mono B1.out.size))
    obtain ⟨u, hu⟩ : ∃ u, l[j]? = some u := ⟨_, List.getElem?_eq_getElem hjl⟩
    have HV := Lib.hid (RxV.part H4.out BW.out BW.out.size hu)
    have HRG := Lib.hid (range_below (hrng j hjl) BW.out hb)
    have hnx := depthL_next l j u hu
    have hmem := nodes_mem (List.mem_of_getElem? hu)
    have HU := Lib.hid hu
    have HNX := Lib.hid hnx
    have HUN := Lib.hid (show u.nodes ≤ N by have := HN.out; omega)
    have HUM := Lib.hid (show u.nodes ≤ 1099511627776 by have := HM.out; omega)
    have hj62 : j ≤ 4611686018427387904 := by have := HM.out; have := HLL.out; omega
    have e3 := wrap_one j hj62
    have e4 := wrap_one' j hj62
    obtain ⟨a, ha⟩ : ∃ a, a = depthL (l.take j) := ⟨_, rfl⟩
    obtain ⟨c, hc⟩ : ∃ c, c = u.depth := ⟨_, rfl⟩
    have HCU := Lib.hid hc
    have HEX := Lib.hid (show max a c = depthL (l.take (j + 1)) by rw [hnx, ha, hc])
    rw [← ha]
    clear hrng hu hnx hmem ha hc hj62
    go_wp2_with ((with_reducible refine atDst 17 ?_); refine wpList_load_mid rfl 29 _ rfl b (off + j * 6) rfl (f j) _ HRG.out Tryz.underlying29 rfl (size_rx HV.out.length) ?_)
    refine (IH.out u HUN.out HUM.out (f j) wr HV.out).mono ?_
    rintro e w2 ⟨rfl, hb2⟩
    rw [← HCU.out]
    have B2 := Lib.hid (HB.out.trans (hb2.mono HB.out.size))
    clear hb2
    go_wp2_with fail
    exact ⟨⟨j + 1, by omega, by congr 1, by rw [← HEX.out]; exact max_int a c, B2.out⟩, by simp [intOf] <;> omega⟩
   ·obtain rfl : j = l.length := by omega
    have j1 : ¬ ((l.length : Int) < (l.length : Int)) := by omega
    have B9 := Lib.hid (B1.out.trans (HB.out.mono B1.out.size))
    rw [List.take_length]
    obtain ⟨a, ha⟩ : ∃ a, a = depthL l := ⟨_, rfl⟩
    have hle : a ≤ 4611686018427387904 := by rw [ha]; have := HDL.out; have := HM.out; omega
    rw [← ha]
    have e3 := wrap_one a hle
    have e4 := wrap_one' a hle
    have HA := Lib.hid ha
    clear ha hle
    go_wp2_with fail
    go_ret
    rw [← HA.out]
    exact ⟨rfl, B9.out⟩
end Go.Proofs.YtopnpdobcagcgaaGreat
