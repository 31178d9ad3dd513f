/-
  What package byteset (Range) answers and leaves. No statement is proved here.
-/
import Derived.Test.YtaobeconjdeenaaDoorBsB
namespace Go.Proofs.YtaobeconjdeenaaDoor
open Go.RowKit
set_option linter.unusedSimpArgs false
set_option linter.unusedVariables false

set_option maxHeartbeats 400000 in
set_option maxRecDepth 100000 in
theorem bsRange_any (f t : Nat) (w : World) (hf : f < 256) (ht : t < 256) :
    Calls Tryd.prog 13 #[.int .u8 (f : Int), .int .u8 (t : Int)] w fun e w' => e = .returned (.agg (wds fun b => decide (f ≤ b ∧ b ≤ t)).toArray) ∧ Below w.heap.size w w' := by
  obtain ⟨p, hp⟩ : ∃ r : Nat → Bool, r = fun b => decide (b < t + 1) := ⟨_, rfl⟩
  obtain ⟨q, hq⟩ : ∃ r : Nat → Bool, r = fun b => decide (b < f) := ⟨_, rfl⟩
  obtain ⟨q2, hq2⟩ : ∃ r : Nat → Bool, r = fun b => !q b := ⟨_, rfl⟩
  obtain ⟨r, hr⟩ : ∃ r : Nat → Bool, r = fun b => p b && q2 b := ⟨_, rfl⟩
  have HRR := Lib.hid (show r = fun b => decide (f ≤ b ∧ b ≤ t) by
    rw [hr]
    funext b
    rw [hq2, hp, hq, Bool.eq_iff_iff]
    simp
    omega)
  have HP := Lib.hid hp
  have HQ := Lib.hid hq
  have HQ2 := Lib.hid hq2
  have HR := Lib.hid hr
  clear hp hq hq2 hr
  rw [← HRR.out]
  obtain ⟨i0, hi0, hz0⟩ := info_set
  obtain ⟨z, hz⟩ : ∃ z : Nat → Bool, z = fun _ => false := ⟨_, rfl⟩
  rw [← hz] at hz0
  clear hz
  obtain ⟨n, hn⟩ : ∃ n, n = t + 1 := ⟨_, rfl⟩
  have hw1 : wrap64 ((t : Int) + 1) = (n : Int) := by rw [hn]; exact IntWalk.wrap64_in _ (by omega)
  have hw2 : wrap64 (t : Int) = (t : Int) := IntWalk.wrap64_in _ (by omega)
  have hw3 : wrap64 (f : Int) = (f : Int) := IntWalk.wrap64_in _ (by omega)
  have hn2 : n ≤ 256 := by omega
  have HN := Lib.hid hn
  have HT := Lib.hid ht
  clear hn ht
  go_enter Tryd.func13, Tryd.ntmps13
  go_wp2_with ((with_reducible refine atDst 4 ?_); refine wpList_new rfl 24 rfl i0 _ (wds z) hi0 hz0 rfl (Below.refl w.heap.size w) (Nat.le_refl _) ?_; intro w2 hk2 hb2 hs2 ho2; have M2 := Lib.hid hk2; have B2 := Lib.hid hb2; clear hk2 hb2 hs2 ho2)

  have c1 := bsBelow_any n w2 hn2
  rw [show (fun b => decide (b < n)) = p by rw [HP.out, HN.out]] at c1
  refine c1.mono ?_
  clear c1

  intro e w3 h3
  obtain ⟨rfl, hb3⟩ := h3
  have M3 := Lib.hid (M2.out.below hb3 M2.out.lt)
  have B3 := Lib.hid (B2.out.trans (hb3.mono B2.out.size))
  clear hb3
  go_wp2_with fail
  refine (bsBelow_any f w3 (by omega)).mono ?_
  rintro e w4 ⟨rfl, hb4⟩
  rw [← HQ.out]
  have M4 := Lib.hid (M3.out.below hb4 M3.out.lt)
  have B4 := Lib.hid (B3.out.trans (hb4.mono B3.out.size))
  clear hb4
  go_wp2_with fail
  refine (bsNot_any q w4).mono ?_
  rintro e w5 ⟨rfl, hb5⟩
  rw [← HQ2.out]
  have M5 := Lib.hid (M4.out.below hb5 M4.out.lt)
  have B5 := Lib.hid (B4.out.trans (hb5.mono B4.out.size))
  clear hb5
  go_wp2_with fail
  have c4 := bsAnd_any p q2 w5
  rw [show (fun b => Bool.and (p b) (q2 b)) = r from HR.out.symm] at c4
  refine c4.mono ?_
  clear c4
  rintro e w6 ⟨rfl, hb6⟩
  have M6 := Lib.hid (M5.out.below hb6 M5.out.lt)
  have B6 := Lib.hid (B5.out.trans (hb6.mono B5.out.size))
  clear hb6
  go_wp2_with ((with_reducible refine atStore 24 4 13 ?_); refine wpList_stBlk rfl 24 _ _ rfl w.heap.size (wds r) rfl rfl 24 _ M6.out (size_set r) rfl (wds_all _) B6.out (Nat.le_refl _) ?_; intro w7 hk7 hb7 hs7 _; have K7 := Lib.hid hk7; have B7 := Lib.hid hb7; clear hk7 hb7)
  refine bodyPost_ret (results_blk rfl _ _ w.heap.size 24 _ _ rfl K7.out Tryd.underlying24 rfl (size_set r)) rfl ?_
  exact ⟨rfl, B7.out⟩
end Go.Proofs.YtaobeconjdeenaaDoor
