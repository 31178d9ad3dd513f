/-
  The contracts of names' functions at strings that the walk does not look into, and the walk of the statement NamesAll: the Go text returns true and turns nothing that was there. Conditions: the byte fits its kind.
-/
import Derived.Test.YtfhhojhflpokaaaNmT
namespace Go.Proofs.Ytfhhojhflpokaaa
open Go.RowKit
set_option linter.unusedSimpArgs false
set_option linter.unusedVariables false

section
variable {S T : ByteArray} {a b : List UInt8} (hS : S = ⟨a.toArray⟩) (hT : T = ⟨b.toArray⟩) (w : World)
include hS
theorem mayS (hl : a.length ≤ 1048576) : Calls Try.prog 12 #[.string S] w fun e w' => e = .returned (.bool (decide (Nm a))) ∧ Below w.heap.size w w' := by subst hS; exact may_any a w hl
theorem refNameS (hl : a.length ≤ 1048576) : Calls Try.prog 13 #[.string S] w fun e w' => e = .returned (.bool (decide (Nm a))) ∧ w' = w := by subst hS; exact refName_any a w hl
include hT
theorem lessS : Calls Try.prog 14 #[.string S, .string T] w fun e w' => e = .returned (.bool (Op.bytesLess a b)) ∧ w' = w := by subst hS; subst hT; exact less_any a b w
theorem refLessS (hl : a.length ≤ 1048576) (hl2 : b.length ≤ 1048576) : Calls Try.prog 15 #[.string S, .string T] w fun e w' => e = .returned (.bool (Op.bytesLess a b)) ∧ Below w.heap.size w w' := by subst hS; subst hT; exact refLess_any a b w hl hl2
theorem keyS (k : UInt8) (hl : a.length ≤ 1048576) (hl2 : b.length ≤ 1048576) : Calls Try.prog 10 #[.int .u8 (k.toNat : Int), .string S, .string T] w fun e w' => e = .returned (.tuple #[.agg (bvs (keyV k a b)).toArray, .int .i64 (keyE k a b)]) ∧ Below w.heap.size w w' := by subst hS; subst hT; exact key_any k a b w hl hl2
theorem refKeyS (k : UInt8) (hl : a.length ≤ 1048576) (hl2 : b.length ≤ 1048576) : Calls Try.prog 11 #[.int .u8 (k.toNat : Int), .string S, .string T] w fun e w' => e = .returned (.tuple #[.agg (bvs (keyV k a b)).toArray, .int .i64 (keyE k a b)]) ∧ Below w.heap.size w w' := by subst hS; subst hT; exact refKey_any k a b w hl hl2
end

set_option maxHeartbeats 4000000 in
set_option maxRecDepth 1000000 in
theorem namesAll_walk (k : UInt8) (S T : ByteArray) (a b : List UInt8) (hS : S = ⟨a.toArray⟩) (hT : T = ⟨b.toArray⟩) (w : World) :
    Calls Try.prog 3 #[.int .u8 (k.toNat : Int), .string S, .string T] w fun e w' => e = .returned (.bool true) ∧ Below w.heap.size w w' := by
  have hsz : S.size = a.length := by rw [hS, str_size]
  have htz : T.size = b.length := by rw [hT, str_size]
  have HS := Lib.hid hS
  have HT := Lib.hid hT
  clear hS hT
  by_cases h40 : 40 < a.length
  · have i1 : 40 < (S.size : Int) := by omega
    clear hsz htz
    go_enter Try.func3, Try.ntmps3
    go_wp2_with fail
    refine (begun_any w).mono ?_
    rintro e w1 ⟨rfl, hB1⟩
    go_wp2_with fail
    go_ret
    exact ⟨rfl, hB1⟩
  have i1 : ¬ (40 < (S.size : Int)) := by omega
  by_cases h41 : 40 < b.length
  · have i2 : 40 < (T.size : Int) := by omega
    clear hsz htz
    go_enter Try.func3, Try.ntmps3
    go_wp2_with fail
    refine (begun_any w).mono ?_
    rintro e w1 ⟨rfl, hB1⟩
    go_wp2_with fail
    go_ret
    exact ⟨rfl, hB1⟩
  have i2 : ¬ (40 < (T.size : Int)) := by omega
  clear hsz htz
  obtain ⟨i0, hi0, hz0⟩ := info_key
  obtain ⟨z, hz⟩ : ∃ z, z = zs 32 := ⟨_, rfl⟩
  have hzl : z.length = 32 := by rw [hz]; exact zs_length 32
  rw [← hz] at hz0
  have HZL := Lib.hid hzl
  clear hz hzl
  obtain ⟨v, hv⟩ : ∃ v, v = keyV k a b := ⟨_, rfl⟩
  obtain ⟨er, her⟩ : ∃ er, er = keyE k a b := ⟨_, rfl⟩
  have hvl : v.length = 32 := by rw [hv]; exact keyV_length k a b
  have HV := Lib.hid hv
  have HE := Lib.hid her
  have HVL := Lib.hid hvl
  clear hv her hvl
  go_enter Try.func3, Try.ntmps3
  go_wp2_with fail
  refine (begun_any w).mono ?_
  rintro e w1 ⟨rfl, hB1⟩
  go_wp2_with fail
  refine (keyS HS.out HT.out w1 k (by omega) (by omega)).mono ?_
  rintro e w2 ⟨rfl, hB2⟩
  rw [← HV.out, ← HE.out]
  have B2 := Lib.hid (hB1.trans (hB2.mono hB1.size))
  clear hB1 hB2
  go_wp2_with (first
    | ((with_reducible refine atDst 7 ?_); refine wpList_new rfl 23 rfl i0 _ (bvs z) hi0 hz0 rfl B2.out B2.out.size ?_; intro w3 hk3 hb3 hs3 ho3; have K3 := Lib.hid hk3; have B3 := Lib.hid hb3; clear hk3 hb3 hs3 ho3)
    | ((with_reducible refine atStore 23 7 26 ?_); refine wpList_stBlk rfl 23 _ _ rfl w2.heap.size (bvs v) rfl rfl 23 _ K3.out (size_key32 HVL.out) (len_bvs2 HZL.out HVL.out) (bvs_all _) B3.out B2.out.size ?_; intro w4 hk4 hb4 hs4 ho4; have K4 := Lib.hid hk4; have B4 := Lib.hid hb4; clear hk4 hb4 hs4 ho4))
  refine (refKeyS HS.out HT.out w4 k (by omega) (by omega)).mono ?_
  rintro e w5 ⟨rfl, hB5⟩
  rw [← HV.out, ← HE.out]
  have B5 := Lib.hid (B4.out.trans (hB5.mono B4.out.size))
  have K5 := Lib.hid (K4.out.below hB5 K4.out.lt)
  clear hB5
  go_wp2_with (first
    | ((with_reducible refine atDst 9 ?_); refine wpList_new rfl 23 rfl i0 _ (bvs z) hi0 hz0 rfl B5.out B5.out.size ?_; intro w6 hk6 hb6 hs6 ho6; have K6 := Lib.hid hk6; have B6 := Lib.hid hb6; have K6a := Lib.hid ((ho6 _ K5.out.lt).trans K5.out); clear hk6 hb6 hs6 ho6)
    | ((with_reducible refine atStore 23 9 33 ?_); refine wpList_stBlk rfl 23 _ _ rfl w5.heap.size (bvs v) rfl rfl 23 _ K6.out (size_key32 HVL.out) (len_bvs2 HZL.out HVL.out) (bvs_all _) B6.out B5.out.size ?_; intro w7 hk7 hb7 hs7 ho7; have K7 := Lib.hid hk7; have B7 := Lib.hid hb7; have K7a := Lib.hid ((ho7 _ (Nat.ne_of_lt K5.out.lt)).trans K6a.out); clear hk7 hb7 hs7 ho7)
    | ((with_reducible refine atDst 35 ?_); refine wpList_ldArr rfl 23 _ rfl w2.heap.size rfl 23 _ _ K7a.out Try.underlying23 rfl (size_key32 HVL.out) ?_)
    | ((with_reducible refine atDst 36 ?_); refine wpList_ldArr rfl 23 _ rfl w5.heap.size rfl 23 _ _ K7.out Try.underlying23 rfl (size_key32 HVL.out) ?_)
    | ((with_reducible refine atDst 37 ?_); refine wpList_eqArr rfl 23 5 32 (.tmp 35) (.tmp 36) 23 rfl guard_key Try.underlying23 Try.underlying5 size_u8 v v HVL.out HVL.out rfl rfl ?_; rw [decide_eq_true (rfl : v = v)]))
  refine (mayS HS.out w7 (by omega)).mono ?_
  rintro e w8 ⟨rfl, hB8⟩
  have B8 := Lib.hid (B7.out.trans (hB8.mono B7.out.size))
  clear hB8
  obtain ⟨q, hq⟩ : ∃ q : Bool, q = decide (Nm a) := ⟨_, rfl⟩
  rw [← hq]
  have HQ := Lib.hid hq
  clear hq
  go_wp2_with fail
  refine (refNameS HS.out w8 (by omega)).mono ?_
  rintro e w9 ⟨rfl, rfl⟩
  rw [← HQ.out]
  have hqq : (q == q) = true := by simp
  go_wp2_with fail
  refine (lessS HS.out HT.out w9).mono ?_
  rintro e w10 ⟨rfl, rfl⟩
  obtain ⟨p, hp⟩ : ∃ p : Bool, p = Op.bytesLess a b := ⟨_, rfl⟩
  rw [← hp]
  have HP := Lib.hid hp
  clear hp
  go_wp2_with fail
  refine (refLessS HS.out HT.out w10 (by omega) (by omega)).mono ?_
  rintro e w11 ⟨rfl, hB11⟩
  rw [← HP.out]
  have hpp : (p == p) = true := by simp
  have B11 := Lib.hid (B8.out.trans (hB11.mono B8.out.size))
  clear hB11
  go_wp2_with fail
  go_ret
  exact ⟨by simp, B11.out⟩
end Go.Proofs.Ytfhhojhflpokaaa
