/-
  The walk of the statement NamesKeys: the Go text returns true and turns nothing that was there. Condition: the array reads as 32 bytes.
-/
import Derived.Test.YtfhhojhflpokaaaNmW
namespace Go.Proofs.Ytfhhojhflpokaaa
open Go.RowKit
set_option linter.unusedSimpArgs false
set_option linter.unusedVariables false

set_option maxHeartbeats 4000000 in
set_option maxRecDepth 1000000 in
theorem namesKeys_walk (k : List UInt8) (hk : k.length = 32) (w : World) :
    Calls Try.prog 4 #[.agg (bvs k).toArray] w fun e w' => e = .returned (.bool true) ∧ Below w.heap.size w w' := by
  have HL := Lib.hid hk
  clear hk
  by_cases hik : isKey k
  · obtain ⟨S, hS⟩ : ∃ S : ByteArray, S = ⟨(kA k).toArray⟩ := ⟨_, rfl⟩
    obtain ⟨T, hT⟩ : ∃ T : ByteArray, T = ⟨(kB k).toArray⟩ := ⟨_, rfl⟩
    obtain ⟨c, hc⟩ : ∃ c : UInt8, c = kK k := ⟨_, rfl⟩
    have htk : took k = .tuple #[.int .u8 (c.toNat : Int), .string S, .string T, .int .i64 0] := by unfold took; rw [if_pos hik, hS, hT, hc]
    have la := kA_len (k := k)
    have lb := kB_len HL.out
    have he := hik.1
    have hv := hik.2
    rw [← hc] at he hv
    have HT := Lib.hid htk
    have HS := Lib.hid hS
    have HTT := Lib.hid hT
    have HE := Lib.hid he
    have HV := Lib.hid hv
    clear htk hS hT hc he hv hik
    obtain ⟨i0, hi0, hz0⟩ := info_key
    obtain ⟨z, hz⟩ : ∃ z, z = zs 32 := ⟨_, rfl⟩
    have hzl : z.length = 32 := by rw [hz]; exact zs_length 32
    rw [← hz] at hz0
    have HZL := Lib.hid hzl
    clear hz hzl
    go_enter Try.func4, Try.ntmps4
    go_wp2_with (first
      | ((with_reducible refine atDst 1 ?_); refine wpList_box rfl 23 _ rfl (bvs k) rfl (Below.refl w.heap.size w) (Nat.le_refl _) ?_; intro w1 hk1 hb1 hs1 _; have K1 := Lib.hid hk1; have B1 := Lib.hid hb1; clear hk1 hb1 hs1))
    refine (begun_any w1).mono ?_
    rintro e w2 ⟨rfl, hb2⟩
    have B2 := Lib.hid (B1.out.trans (hb2.mono B1.out.size))
    have K2 := Lib.hid (K1.out.below hb2 K1.out.lt)
    clear hb2
    go_wp2_with ((with_reducible refine atDst 16 ?_); refine wpList_ldArr rfl 23 _ rfl w.heap.size rfl 23 _ _ K2.out Try.underlying23 rfl (size_key32 HL.out) ?_)
    refine (takeKey_any k HL.out w2).mono ?_
    rintro e w3 ⟨rfl, hb3⟩
    rw [HT.out]
    have B3 := Lib.hid (B2.out.trans (hb3.mono B2.out.size))
    have K3 := Lib.hid (K2.out.below hb3 K2.out.lt)
    clear hb3
    go_wp2_with ((with_reducible refine atDst 23 ?_); refine wpList_ldArr rfl 23 _ rfl w.heap.size rfl 23 _ _ K3.out Try.underlying23 rfl (size_key32 HL.out) ?_)
    refine (refTakeKey_any k HL.out w3).mono ?_
    rintro e w4 ⟨rfl, hb4⟩
    rw [HT.out]
    have B4 := Lib.hid (B3.out.trans (hb4.mono B3.out.size))
    have K4 := Lib.hid (K3.out.below hb4 K3.out.lt)
    clear hb4
    go_wp2_with fail
    refine (keyS HS.out HTT.out w4 c (by omega) (by omega)).mono ?_
    rintro e w5 ⟨rfl, hb5⟩
    rw [HE.out, HV.out]
    have B5 := Lib.hid (B4.out.trans (hb5.mono B4.out.size))
    have K5 := Lib.hid (K4.out.below hb5 K4.out.lt)
    clear hb5
    go_wp2_with (first
      | ((with_reducible refine atDst 11 ?_); refine wpList_new rfl 23 rfl i0 _ (bvs z) hi0 hz0 rfl B5.out B5.out.size ?_; intro w6 hk6 hb6 hs6 ho6; have K6 := Lib.hid hk6; have B6 := Lib.hid hb6; have K6a := Lib.hid ((ho6 _ K5.out.lt).trans K5.out); clear hk6 hb6 hs6 ho6)
      | ((with_reducible refine atStore 23 11 54 ?_); refine wpList_stBlk rfl 23 _ _ rfl w5.heap.size (bvs k) rfl rfl 23 _ K6.out (size_key32 HL.out) (len_bvs2 HZL.out HL.out) (bvs_all _) B6.out B5.out.size ?_; intro w7 hk7 hb7 hs7 ho7; have K7 := Lib.hid hk7; have B7 := Lib.hid hb7; have K7a := Lib.hid ((ho7 _ (Nat.ne_of_lt K5.out.lt)).trans K6a.out); clear hk7 hb7 hs7 ho7)
      | ((with_reducible refine atDst 59 ?_); refine wpList_ldArr rfl 23 _ rfl w5.heap.size rfl 23 _ _ K7.out Try.underlying23 rfl (size_key32 HL.out) ?_)
      | ((with_reducible refine atDst 60 ?_); refine wpList_ldArr rfl 23 _ rfl w.heap.size rfl 23 _ _ K7a.out Try.underlying23 rfl (size_key32 HL.out) ?_)
      | ((with_reducible refine atDst 61 ?_); refine wpList_eqArr rfl 23 5 32 (.tmp 59) (.tmp 60) 23 rfl guard_key Try.underlying23 Try.underlying5 size_u8 k k HL.out HL.out rfl rfl ?_; rw [decide_eq_true (rfl : k = k)]))
    go_ret
    exact ⟨rfl, B7.out⟩
  · have htk : took k = .tuple #[.int .u8 0, str [], str [], .int .i64 3] := by unfold took; rw [if_neg hik]
    have HT := Lib.hid htk
    clear htk hik
    go_enter Try.func4, Try.ntmps4
    go_wp2_with (first
      | ((with_reducible refine atDst 1 ?_); refine wpList_box rfl 23 _ rfl (bvs k) rfl (Below.refl w.heap.size w) (Nat.le_refl _) ?_; intro w1 hk1 hb1 hs1 _; have K1 := Lib.hid hk1; have B1 := Lib.hid hb1; clear hk1 hb1 hs1))
    refine (begun_any w1).mono ?_
    rintro e w2 ⟨rfl, hb2⟩
    have B2 := Lib.hid (B1.out.trans (hb2.mono B1.out.size))
    have K2 := Lib.hid (K1.out.below hb2 K1.out.lt)
    clear hb2
    go_wp2_with ((with_reducible refine atDst 16 ?_); refine wpList_ldArr rfl 23 _ rfl w.heap.size rfl 23 _ _ K2.out Try.underlying23 rfl (size_key32 HL.out) ?_)
    refine (takeKey_any k HL.out w2).mono ?_
    rintro e w3 ⟨rfl, hb3⟩
    rw [HT.out]
    have B3 := Lib.hid (B2.out.trans (hb3.mono B2.out.size))
    have K3 := Lib.hid (K2.out.below hb3 K2.out.lt)
    clear hb3
    go_wp2_with ((with_reducible refine atDst 23 ?_); refine wpList_ldArr rfl 23 _ rfl w.heap.size rfl 23 _ _ K3.out Try.underlying23 rfl (size_key32 HL.out) ?_)
    refine (refTakeKey_any k HL.out w3).mono ?_
    rintro e w4 ⟨rfl, hb4⟩
    rw [HT.out]
    have B4 := Lib.hid (B3.out.trans (hb4.mono B3.out.size))
    have K4 := Lib.hid (K3.out.below hb4 K3.out.lt)
    clear hb4
    go_wp2_with fail
    go_ret
    exact ⟨rfl, B4.out⟩
end Go.Proofs.Ytfhhojhflpokaaa
