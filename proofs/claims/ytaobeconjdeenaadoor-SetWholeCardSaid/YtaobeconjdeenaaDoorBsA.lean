/-
  What package byteset (Has, Of, Or, And, Not, below, Range) answers and leaves. No statement is proved here.
-/
import Derived.Test.YtaobeconjdeenaaDoorSetB
namespace Go.Proofs.YtaobeconjdeenaaDoor
open Go.RowKit
set_option linter.unusedSimpArgs false
set_option linter.unusedVariables false

theorem has_bit2 (x k : Nat) (hx : x < 18446744073709551616) : (bits .and .u64 ((x : Int) / 2 ^ k) 1 == 1) = decide (x / 2 ^ k % 2 = 1) := by
  have e : (2 ^ k : Int) = ((2 ^ k : Nat) : Int) := by rw [Int.natCast_pow]; rfl
  have hlt : x / 2 ^ k < 18446744073709551616 := Nat.lt_of_le_of_lt (Nat.div_le_self _ _) hx
  rw [e, ← Int.natCast_ediv]
  generalize x / 2 ^ k = y at hlt
  rw [show (1 : Int) = ((1 : Nat) : Int) from rfl, u64_and_nat y 1 hlt (by omega), Nat.and_one_is_mod, Bool.eq_iff_iff, beq_iff_eq, decide_eq_true_iff]
  omega
set_option maxHeartbeats 1000000 in
theorem bsHas_any (p : Nat → Bool) (b : Nat) (w : World) (hb : b < 256) :
    Calls Tryd.prog 26 #[.agg (wds p).toArray, .int .u8 (b : Int)] w fun e w' => e = .returned (.bool (p b)) ∧ Below w.heap.size w w' := by
  obtain ⟨x, hx⟩ : ∃ x, x = word p (b / 64) := ⟨_, rfl⟩
  have hlt := word_lt p (b / 64)
  have hsh := word_shift p b
  rw [← hx] at hlt hsh
  have HX := Lib.hid hx
  have HSH := Lib.hid hsh
  clear hx hsh
  go_enter Tryd.func26, Tryd.ntmps26
  go_wp2_with ((with_reducible refine atDst 2 ?_); refine wpList_box rfl 24 _ rfl (wds p) rfl (Below.refl w.heap.size w) (Nat.le_refl _) ?_; intro w1 hk1 hb1 hs1 _; have c1 := hk1.cell (b / 64); rw [wds_get p (b / 64) (by omega), ← HX.out] at c1; have B1 := Lib.hid hb1; clear hk1 hb1 hs1)
  go_ret
  refine ⟨?_, B1.out⟩
  rw [← HSH.out]
  refine congrArg (fun b => Ending.returned (.bool b)) ?_
  exact has_bit2 x _ hlt

set_option maxHeartbeats 2000000 in
set_option maxRecDepth 100000 in
theorem bsOf_any (v : Value) (l : List UInt8) (w : World) (hr : Row w v (bvs l)) (hl : l.length ≤ 1048576) :
    Calls Tryd.prog 11 #[v] w fun e w' => e = .returned (.agg (wds fun b => decide (UInt8.ofNat b ∈ l)).toArray) ∧ Below w.heap.size w w' := by
  have R0 := Lib.hid hr
  obtain ⟨A, cap, rfl, a1, a2, a0, a3⟩ := hr
  rw [bvs_length] at a1 R0 ⊢
  clear a3 a0 a2
  obtain ⟨i0, hi0, hz0⟩ := info_set
  obtain ⟨z, hz⟩ : ∃ z : Nat → Bool, z = fun _ => false := ⟨_, rfl⟩
  rw [← hz] at hz0
  have HZ := Lib.hid hz
  clear hz
  go_enter Tryd.func11, Tryd.ntmps11
  go_wp2_with ((with_reducible refine atDst 2 ?_); refine wpList_new rfl 24 rfl i0 _ (wds z) hi0 hz0 rfl (Below.refl w.heap.size w) (Nat.le_refl _) ?_; intro w1 hk1 hb1 hs1 _; have K1 := Lib.hid hk1; have B1 := Lib.hid hb1; clear hk1 hb1 hs1)
  go_loopw [7] (fun i wl => ∃ j : Nat, j ≤ l.length ∧ i = .int .i64 (j : Int) ∧ Blk wl w.heap.size 24 (wds fun b => decide (UInt8.ofNat b ∈ l.take j)) ∧ Below w.heap.size w wl) (fun i _ => l.length - (intOf i).toNat)
  case atStart => exact ⟨0, by omega, by simp, by simpa [HZ.out] using K1.out, B1.out⟩
  case round =>
    obtain ⟨j, hj, rfl, hk, hb⟩ := hrel
    have KR := Lib.hid hk
    have BR := Lib.hid hb
    clear hk hb
    by_cases hjl : j < l.length
    · have i1 : (j : Int) < (l.length : Int) := by omega
      obtain ⟨b0, off, rfl, hb0, hcell⟩ := (R0.out.below BR.out).at_ (by rw [bvs_length]; omega)
      have hcj := hcell j _ (bvs_get l j l[j] (List.getElem?_eq_getElem hjl))
      obtain ⟨c, hc⟩ : ∃ c : UInt8, c = l[j] := ⟨_, rfl⟩
      rw [← hc] at hcj
      have HC := Lib.hid hc
      have hlt := c.toNat_lt
      obtain ⟨n, hn⟩ : ∃ n, n = c.toNat := ⟨_, rfl⟩
      have hcj' : wr.cell? ⟨b0, off + j, none⟩ = some (.int .u8 (n : Int)) := by rw [hn]; exact hcj
      rw [← hn] at hlt
      have HN := Lib.hid hn
      have hgc := KR.out.cell (n / 64)
      rw [wds_get _ (n / 64) (by omega)] at hgc
      obtain ⟨x, hx⟩ : ∃ x, x = word (fun b => decide (UInt8.ofNat b ∈ l.take j)) (n / 64) := ⟨_, rfl⟩
      rw [← hx] at hgc
      have hfz := KR.out.frozen (n / 64)
      have HX := Lib.hid hx
      have hlx : x < 18446744073709551616 := by rw [hx]; exact word_lt _ _
      have hsh := shl_bit (n % 64) (Nat.mod_lt _ (by omega))
      clear hcell hc hcj hn hx
      have hq1 : IntKind.u8.wrap ((n : Int) / 64) = ((n / 64 : Nat) : Int) := IntWalk.u8_in _ (by omega)
      have hq2 : ((n : Int).tmod 64) = ((n % 64 : Nat) : Int) := by rw [Int.tmod_eq_emod_of_nonneg (by omega)]; rfl
      have hq3 : (n : Int) / 64 < 4 := by omega
      have hq4 : 0 ≤ (n : Int) / 64 := by omega
      have hq5 : ((n : Int) / 64).toNat = n / 64 := by omega
      go_wp2_with fail
      refine ⟨⟨j + 1, by omega, by congr 1, ?_, (BR.out.setCell (p := ⟨w.heap.size, n / 64, none⟩) (Nat.le_refl _) _)⟩, by simp [intOf] <;> omega⟩
      rw [of_bits hlx (Nat.mod_lt n (by omega))]
      have hk := KR.out.set (n / 64) (.int .u64 ((x ||| 2 ^ (n % 64) : Nat) : Int))
      rw [HX.out, wds_put _ n (by omega)] at hk
      rw [HX.out]
      rw [wds_congr (q := fun b => decide (UInt8.ofNat b ∈ l.take j) || decide (b = n)) (fun b hb => ?_)]
      · exact hk
      · rw [List.take_succ_eq_append_getElem hjl, ← HC.out]
        exact mem_next b c n hb HN.out _
    · obtain rfl : j = l.length := by omega
      have i1 : ¬ ((l.length : Int) < (l.length : Int)) := by omega
      have k9 := KR.out
      rw [List.take_length] at k9
      obtain ⟨q, hq⟩ : ∃ q : Nat → Bool, q = fun b => decide (UInt8.ofNat b ∈ l) := ⟨_, rfl⟩
      rw [← hq] at k9
      have K9 := Lib.hid k9
      have HQ := Lib.hid hq
      clear k9 hq KR
      go_wp2_with (first
        | ((with_reducible refine atDst 21 ?_); refine wpList_ldArr rfl 24 _ rfl w.heap.size rfl 24 _ _ K9.out Tryd.underlying24 rfl (size_set q) ?_)
        | ((with_reducible refine atStore 24 2 21 ?_); refine wpList_stBlk rfl 24 _ _ rfl w.heap.size (wds q) rfl rfl 24 _ K9.out (size_set q) rfl (wds_all _) BR.out (Nat.le_refl _) ?_; intro w3 hk3 hb3 hs3 _; have K3 := Lib.hid hk3; have B3 := Lib.hid hb3; clear hk3 hb3))
      refine bodyPost_ret (results_blk rfl _ _ w.heap.size 24 _ _ rfl K3.out Tryd.underlying24 rfl (size_set q)) rfl ?_
      exact ⟨by rw [HQ.out], B3.out⟩
end Go.Proofs.YtaobeconjdeenaaDoor
