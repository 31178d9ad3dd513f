/-
  The walk of the statement SetRanges: the Go text returns true and turns nothing that was there, on the contracts of package byteset. Conditions: the numbers fit their kinds.
-/
import Derived.Test.YtaobeconjdeenaaDoorSetL
namespace Go.Proofs.YtaobeconjdeenaaDoor
open Go.RowKit
set_option linter.unusedSimpArgs false
set_option linter.unusedVariables false

/-- The bytes of a range. -/
theorem range_mem (f t : Nat) (ht : t < 256) : memJ (fun b => decide (f ≤ b ∧ b ≤ t)) 256 = (List.range' f (t + 1 - f)).map UInt8.ofNat := by
  unfold memJ
  congr 1
  by_cases h : f ≤ t
  · have e : List.range 256 = List.range' 0 f ++ (List.range' f (t + 1 - f) ++ List.range' (t + 1) (255 - t)) := by
      rw [List.range_eq_range']
      have h1 := List.range'_append_1 (s := f) (m := t + 1 - f) (n := 255 - t)
      rw [show f + (t + 1 - f) = t + 1 by omega] at h1
      rw [h1]
      have h2 := List.range'_append_1 (s := 0) (m := f) (n := t + 1 - f + (255 - t))
      rw [Nat.zero_add] at h2
      rw [h2]
      congr 1
      omega
    rw [e, List.filter_append, List.filter_append, List.filter_eq_nil_iff.2, List.filter_eq_self.2, List.filter_eq_nil_iff.2]
    · simp
    · intro b hb
      have := List.mem_range'_1.1 hb
      simp
      omega
    · intro b hb
      have := List.mem_range'_1.1 hb
      simp
      omega
    · intro b hb
      have := List.mem_range'_1.1 hb
      simp
      omega
  · rw [show t + 1 - f = 0 by omega, List.range'_zero]
    refine List.filter_eq_nil_iff.2 fun b _ => ?_
    simp
    omega
theorem full_eq : eqS (fun b => decide (0 ≤ b ∧ b ≤ 255)) (fun _ => !false) = true := by decide +kernel
set_option maxHeartbeats 4000000 in
set_option maxRecDepth 100000 in
theorem ranges_walk (C : BySet) (f t x : Nat) (w : World) (hf : f < 256) (ht : t < 256) (hx : x < 256) (hT : Tb w) :
    Calls Tryd.prog 7 #[.int .u8 (f : Int), .int .u8 (t : Int), .int .u8 (x : Int)] w fun e w' => e = .returned (.bool true) ∧ Below w.heap.size w w' := by
  have HT := Lib.hid hT
  clear hT
  obtain ⟨r, hr⟩ : ∃ r : Nat → Bool, (fun b => decide (f ≤ b ∧ b ≤ t)) = r := ⟨_, rfl⟩
  obtain ⟨r9, h9⟩ : ∃ r : Nat → Bool, (fun b => decide (0 ≤ b ∧ b ≤ 255)) = r := ⟨_, rfl⟩
  obtain ⟨z9, hz9⟩ : ∃ r : Nat → Bool, (fun _ => !false) = r := ⟨_, rfl⟩
  obtain ⟨m, hm⟩ : ∃ m : List UInt8, memJ r 256 = m := ⟨_, rfl⟩
  have hm' : m = (List.range' f (t + 1 - f)).map UInt8.ofNat := by rw [← hm, ← hr]; exact range_mem f t ht
  have hrx : r x = (decide (f ≤ x) && decide (x ≤ t)) := by rw [← hr]; exact Bool.decide_and _ _
  have HF := Lib.hid (show eqS r9 z9 = true by rw [← h9, ← hz9]; exact full_eq)
  have hml : m.length = t + 1 - f := by rw [hm']; simp
  have HR := Lib.hid hr
  have H9 := Lib.hid h9
  have HZ9 := Lib.hid hz9
  have HM := Lib.hid hm
  have HM' := Lib.hid hm'
  have HML := Lib.hid hml
  have HRX := Lib.hid hrx
  obtain ⟨i0, hi0, hz0⟩ := info_set
  obtain ⟨z, hz⟩ : ∃ z : Nat → Bool, z = fun _ => false := ⟨_, rfl⟩
  rw [← hz] at hz0
  clear hz
  clear hr h9 hz9 hm hm' hml hrx
  by_cases hft : f ≤ t
  · obtain ⟨N, hN⟩ : ∃ N : Nat, t + 1 - f = N := ⟨_, rfl⟩
    have hNi : (t : Int) - (f : Int) + 1 = (N : Int) := by omega
    have HNI := Lib.hid hNi
    have HN := Lib.hid hN
    have hN1 : 1 ≤ N := by omega
    have hN2 : N ≤ 256 := by omega
    clear hNi hN
    go_enter Tryd.func7, Tryd.ntmps7
    go_wp2_with fail
    refine (begun_any C w HT.out).mono ?_
    rintro e w1 ⟨rfl, hb⟩
    have X := Lib.hid hb
    clear hb
    go_wp2_with fail
    refine (C.range f t w1 hf ht).mono ?_
    rintro e w2 ⟨rfl, hb⟩
    rw [HR.out]
    replace X := Lib.hid (X.out.trans (hb.mono X.out.size))
    clear hb
    go_wp2_with (first
      | ((with_reducible refine atDst 7 ?_); refine wpList_new rfl 24 rfl i0 _ (wds z) hi0 hz0 rfl X.out X.out.size ?_; intro w3 hk3 hb3 hs3 _; have K3 := Lib.hid hk3; have B3 := Lib.hid hb3; clear hk3 hb3 hs3)
      | ((with_reducible refine atStore 24 7 14 ?_); refine wpList_stBlk rfl 24 _ _ rfl w2.heap.size (wds r) rfl rfl 24 _ K3.out (size_set r) rfl (wds_all _) B3.out X.out.size ?_; intro w4 hk4 hb4 hs4 _; have K4 := Lib.hid hk4; have B4 := Lib.hid hb4; clear hk4 hb4 hs4)
      | ((with_reducible refine atDst 22 ?_); refine wpList_ldArr rfl 24 _ rfl w2.heap.size rfl 24 _ _ K4.out Tryd.underlying24 rfl (size_set r) ?_))
    refine (C.list r w4 (HT.out.belowG B4.out HT.out.lt)).mono ?_
    rintro e w5 ⟨v5, rfl, hr5, hb⟩
    rw [HM.out] at hr5
    have K5 := Lib.hid (K4.out.below hb K4.out.lt)
    have B5 := Lib.hid (B4.out.trans (hb.mono B4.out.size))
    clear hb
    have R5 := Lib.hid hr5
    obtain ⟨A5, cap5, rfl, _, _, _, _⟩ := hr5
    rw [bvs_length, HML.out, HN.out] at R5 ⊢
    rw [HNI.out]
    have q1 : (0 : Int) < (N : Int) := by omega
    have q2 : (N : Int) - 1 < (N : Int) := by omega
    have q3 : (0 : Int) ≤ (N : Int) - 1 := by omega
    have q4 : ¬ (N : Int) = 0 := by omega
    have q5 : ((N : Int) - 1).toNat = N - 1 := by omega
    go_wp2_with ((with_reducible refine atDst 24 ?_); refine wpList_ldArr rfl 24 _ rfl w2.heap.size rfl 24 _ _ K5.out Tryd.underlying24 rfl (size_set r) ?_)
    refine (C.has r x w5 hx).mono ?_
    rintro e w6 ⟨rfl, hb⟩
    have K6 := Lib.hid (K5.out.below hb K5.out.lt)
    have B6 := Lib.hid (B5.out.trans (hb.mono B5.out.size))
    have R6 := Lib.hid (R5.out.below (hb.mono (Nat.le_refl _)))
    clear hb
    by_cases c1 : (f : Int) ≤ (x : Int)
    · have c1' : f ≤ x := by omega
      by_cases c2 : (x : Int) ≤ (t : Int)
      · have c2' : x ≤ t := by omega
        rw [show r x = true by rw [HRX.out]; simp; omega]
        go_wp2_with ((with_reducible refine atDst 37 ?_); refine wpList_ldArr rfl 24 _ rfl w2.heap.size rfl 24 _ _ K6.out Tryd.underlying24 rfl (size_set r) ?_)
        refine (C.len r w6).mono ?_
        rintro e w7 ⟨rfl, hb⟩
        rw [HM.out, HML.out, HN.out]
        have B7 := Lib.hid (B6.out.trans (hb.mono B6.out.size))
        have R7 := Lib.hid (R6.out.below hb)
        clear hb
        obtain ⟨b0, off, rfl, hb0, hcell⟩ := R7.out.at_ (by rw [bvs_length, HML.out, HN.out]; omega)
        have e0 := hcell 0 _ (bvs_get m 0 (UInt8.ofNat f) (by rw [HM'.out, List.getElem?_map, List.getElem?_range' (by rw [HN.out]; omega)]; simp))
        have e1 := hcell (N - 1) _ (bvs_get m (N - 1) (UInt8.ofNat t) (by rw [HM'.out, List.getElem?_map, List.getElem?_range' (by rw [HN.out]; omega)]; have := HN.out; rw [Option.map_some]; congr 2; omega))
        rw [bv_ofNat (by omega), Nat.add_zero] at e0
        rw [bv_ofNat (by omega)] at e1
        clear hcell
        go_wp2_with fail
        refine (C.range 0 255 w7 (by omega) (by omega)).mono ?_
        rintro e w8 ⟨rfl, hb⟩
        rw [H9.out]
        have B8 := Lib.hid (B7.out.trans (hb.mono B7.out.size))
        clear hb
        go_wp2_with fail
        refine (C.not_ (fun _ => false) w8).mono ?_
        rintro e w9 ⟨rfl, hb⟩
        rw [HZ9.out]
        have B9 := Lib.hid (B8.out.trans (hb.mono B8.out.size))
        clear hb
        go_wp2_with ((with_reducible refine atDst 72 ?_); refine wpList_eqSet_is rfl HF.out 24 22 (.tmp 69) (.tmp 71) 24 rfl guard_set Tryd.underlying24 Tryd.underlying22 size_u64 rfl rfl ?_)
        go_ret
        exact ⟨rfl, B9.out⟩
      · have c2' : ¬ x ≤ t := by omega
        rw [show r x = false by rw [HRX.out]; simp; omega]
        go_wp2_with ((with_reducible refine atDst 37 ?_); refine wpList_ldArr rfl 24 _ rfl w2.heap.size rfl 24 _ _ K6.out Tryd.underlying24 rfl (size_set r) ?_)
        refine (C.len r w6).mono ?_
        rintro e w7 ⟨rfl, hb⟩
        rw [HM.out, HML.out, HN.out]
        have B7 := Lib.hid (B6.out.trans (hb.mono B6.out.size))
        have R7 := Lib.hid (R6.out.below hb)
        clear hb
        obtain ⟨b0, off, rfl, hb0, hcell⟩ := R7.out.at_ (by rw [bvs_length, HML.out, HN.out]; omega)
        have e0 := hcell 0 _ (bvs_get m 0 (UInt8.ofNat f) (by rw [HM'.out, List.getElem?_map, List.getElem?_range' (by rw [HN.out]; omega)]; simp))
        have e1 := hcell (N - 1) _ (bvs_get m (N - 1) (UInt8.ofNat t) (by rw [HM'.out, List.getElem?_map, List.getElem?_range' (by rw [HN.out]; omega)]; have := HN.out; rw [Option.map_some]; congr 2; omega))
        rw [bv_ofNat (by omega), Nat.add_zero] at e0
        rw [bv_ofNat (by omega)] at e1
        clear hcell
        go_wp2_with fail
        refine (C.range 0 255 w7 (by omega) (by omega)).mono ?_
        rintro e w8 ⟨rfl, hb⟩
        rw [H9.out]
        have B8 := Lib.hid (B7.out.trans (hb.mono B7.out.size))
        clear hb
        go_wp2_with fail
        refine (C.not_ (fun _ => false) w8).mono ?_
        rintro e w9 ⟨rfl, hb⟩
        rw [HZ9.out]
        have B9 := Lib.hid (B8.out.trans (hb.mono B8.out.size))
        clear hb
        go_wp2_with ((with_reducible refine atDst 72 ?_); refine wpList_eqSet_is rfl HF.out 24 22 (.tmp 69) (.tmp 71) 24 rfl guard_set Tryd.underlying24 Tryd.underlying22 size_u64 rfl rfl ?_)
        go_ret
        exact ⟨rfl, B9.out⟩
    · have c1' : ¬ f ≤ x := by omega
      rw [show r x = false by rw [HRX.out]; simp; omega]
      go_wp2_with ((with_reducible refine atDst 37 ?_); refine wpList_ldArr rfl 24 _ rfl w2.heap.size rfl 24 _ _ K6.out Tryd.underlying24 rfl (size_set r) ?_)
      refine (C.len r w6).mono ?_
      rintro e w7 ⟨rfl, hb⟩
      rw [HM.out, HML.out, HN.out]
      have B7 := Lib.hid (B6.out.trans (hb.mono B6.out.size))
      have R7 := Lib.hid (R6.out.below hb)
      clear hb
      obtain ⟨b0, off, rfl, hb0, hcell⟩ := R7.out.at_ (by rw [bvs_length, HML.out, HN.out]; omega)
      have e0 := hcell 0 _ (bvs_get m 0 (UInt8.ofNat f) (by rw [HM'.out, List.getElem?_map, List.getElem?_range' (by rw [HN.out]; omega)]; simp))
      have e1 := hcell (N - 1) _ (bvs_get m (N - 1) (UInt8.ofNat t) (by rw [HM'.out, List.getElem?_map, List.getElem?_range' (by rw [HN.out]; omega)]; have := HN.out; rw [Option.map_some]; congr 2; omega))
      rw [bv_ofNat (by omega), Nat.add_zero] at e0
      rw [bv_ofNat (by omega)] at e1
      clear hcell
      go_wp2_with fail
      refine (C.range 0 255 w7 (by omega) (by omega)).mono ?_
      rintro e w8 ⟨rfl, hb⟩
      rw [H9.out]
      have B8 := Lib.hid (B7.out.trans (hb.mono B7.out.size))
      clear hb
      go_wp2_with fail
      refine (C.not_ (fun _ => false) w8).mono ?_
      rintro e w9 ⟨rfl, hb⟩
      rw [HZ9.out]
      have B9 := Lib.hid (B8.out.trans (hb.mono B8.out.size))
      clear hb
      go_wp2_with ((with_reducible refine atDst 72 ?_); refine wpList_eqSet_is rfl HF.out 24 22 (.tmp 69) (.tmp 71) 24 rfl guard_set Tryd.underlying24 Tryd.underlying22 size_u64 rfl rfl ?_)
      go_ret
      exact ⟨rfl, B9.out⟩
  · obtain ⟨N, hN⟩ : ∃ N : Nat, t + 1 - f = N := ⟨_, rfl⟩
    have HN := Lib.hid hN
    have hN0 : N = 0 := by omega
    subst hN0
    clear hN
    by_cases q0 : (0 : Int) ≤ (t : Int) - (f : Int) + 1
    · have hz0' := Lib.hid (show (t : Int) - (f : Int) + 1 = 0 by omega)
      go_enter Tryd.func7, Tryd.ntmps7
      go_wp2_with fail
      refine (begun_any C w HT.out).mono ?_
      rintro e w1 ⟨rfl, hb⟩
      have X := Lib.hid hb
      clear hb
      go_wp2_with fail
      refine (C.range f t w1 hf ht).mono ?_
      rintro e w2 ⟨rfl, hb⟩
      rw [HR.out]
      replace X := Lib.hid (X.out.trans (hb.mono X.out.size))
      clear hb
      go_wp2_with (first
        | ((with_reducible refine atDst 7 ?_); refine wpList_new rfl 24 rfl i0 _ (wds z) hi0 hz0 rfl X.out X.out.size ?_; intro w3 hk3 hb3 hs3 _; have K3 := Lib.hid hk3; have B3 := Lib.hid hb3; clear hk3 hb3 hs3)
        | ((with_reducible refine atStore 24 7 14 ?_); refine wpList_stBlk rfl 24 _ _ rfl w2.heap.size (wds r) rfl rfl 24 _ K3.out (size_set r) rfl (wds_all _) B3.out X.out.size ?_; intro w4 hk4 hb4 hs4 _; have K4 := Lib.hid hk4; have B4 := Lib.hid hb4; clear hk4 hb4 hs4)
        | ((with_reducible refine atDst 22 ?_); refine wpList_ldArr rfl 24 _ rfl w2.heap.size rfl 24 _ _ K4.out Tryd.underlying24 rfl (size_set r) ?_))
      refine (C.list r w4 (HT.out.belowG B4.out HT.out.lt)).mono ?_
      rintro e w5 ⟨v5, rfl, hr5, hb⟩
      rw [HM.out] at hr5
      have K5 := Lib.hid (K4.out.below hb K4.out.lt)
      have B5 := Lib.hid (B4.out.trans (hb.mono B4.out.size))
      clear hb
      obtain ⟨A5, cap5, rfl, _, _, _, _⟩ := hr5
      rw [bvs_length, HML.out, HN.out]
      rw [hz0'.out]
      go_wp2_with ((with_reducible refine atDst 24 ?_); refine wpList_ldArr rfl 24 _ rfl w2.heap.size rfl 24 _ _ K5.out Tryd.underlying24 rfl (size_set r) ?_)
      refine (C.has r x w5 hx).mono ?_
      rintro e w6 ⟨rfl, hb⟩
      have K6 := Lib.hid (K5.out.below hb K5.out.lt)
      have B6 := Lib.hid (B5.out.trans (hb.mono B5.out.size))
      clear hb
      by_cases c1 : (f : Int) ≤ (x : Int)
      · have c1' : f ≤ x := by omega
        have c2' : ¬ x ≤ t := by omega
        have c2 : ¬ (x : Int) ≤ (t : Int) := by omega
        rw [show r x = false by rw [HRX.out]; simp; omega]
        go_wp2_with ((with_reducible refine atDst 37 ?_); refine wpList_ldArr rfl 24 _ rfl w2.heap.size rfl 24 _ _ K6.out Tryd.underlying24 rfl (size_set r) ?_)
        refine (C.len r w6).mono ?_
        rintro e w7 ⟨rfl, hb⟩
        rw [HM.out, HML.out, HN.out]
        have B7 := Lib.hid (B6.out.trans (hb.mono B6.out.size))
        clear hb
        go_wp2_with fail
        refine (C.range 0 255 w7 (by omega) (by omega)).mono ?_
        rintro e w8 ⟨rfl, hb⟩
        rw [H9.out]
        have B8 := Lib.hid (B7.out.trans (hb.mono B7.out.size))
        clear hb
        go_wp2_with fail
        refine (C.not_ (fun _ => false) w8).mono ?_
        rintro e w9 ⟨rfl, hb⟩
        rw [HZ9.out]
        have B9 := Lib.hid (B8.out.trans (hb.mono B8.out.size))
        clear hb
        go_wp2_with ((with_reducible refine atDst 72 ?_); refine wpList_eqSet_is rfl HF.out 24 22 (.tmp 69) (.tmp 71) 24 rfl guard_set Tryd.underlying24 Tryd.underlying22 size_u64 rfl rfl ?_)
        go_ret
        exact ⟨rfl, B9.out⟩
      · have c1' : ¬ f ≤ x := by omega
        rw [show r x = false by rw [HRX.out]; simp; omega]
        go_wp2_with ((with_reducible refine atDst 37 ?_); refine wpList_ldArr rfl 24 _ rfl w2.heap.size rfl 24 _ _ K6.out Tryd.underlying24 rfl (size_set r) ?_)
        refine (C.len r w6).mono ?_
        rintro e w7 ⟨rfl, hb⟩
        rw [HM.out, HML.out, HN.out]
        have B7 := Lib.hid (B6.out.trans (hb.mono B6.out.size))
        clear hb
        go_wp2_with fail
        refine (C.range 0 255 w7 (by omega) (by omega)).mono ?_
        rintro e w8 ⟨rfl, hb⟩
        rw [H9.out]
        have B8 := Lib.hid (B7.out.trans (hb.mono B7.out.size))
        clear hb
        go_wp2_with fail
        refine (C.not_ (fun _ => false) w8).mono ?_
        rintro e w9 ⟨rfl, hb⟩
        rw [HZ9.out]
        have B9 := Lib.hid (B8.out.trans (hb.mono B8.out.size))
        clear hb
        go_wp2_with ((with_reducible refine atDst 72 ?_); refine wpList_eqSet_is rfl HF.out 24 22 (.tmp 69) (.tmp 71) 24 rfl guard_set Tryd.underlying24 Tryd.underlying22 size_u64 rfl rfl ?_)
        go_ret
        exact ⟨rfl, B9.out⟩
    · go_enter Tryd.func7, Tryd.ntmps7
      go_wp2_with fail
      refine (begun_any C w HT.out).mono ?_
      rintro e w1 ⟨rfl, hb⟩
      have X := Lib.hid hb
      clear hb
      go_wp2_with fail
      refine (C.range f t w1 hf ht).mono ?_
      rintro e w2 ⟨rfl, hb⟩
      rw [HR.out]
      replace X := Lib.hid (X.out.trans (hb.mono X.out.size))
      clear hb
      go_wp2_with (first
        | ((with_reducible refine atDst 7 ?_); refine wpList_new rfl 24 rfl i0 _ (wds z) hi0 hz0 rfl X.out X.out.size ?_; intro w3 hk3 hb3 hs3 _; have K3 := Lib.hid hk3; have B3 := Lib.hid hb3; clear hk3 hb3 hs3)
        | ((with_reducible refine atStore 24 7 14 ?_); refine wpList_stBlk rfl 24 _ _ rfl w2.heap.size (wds r) rfl rfl 24 _ K3.out (size_set r) rfl (wds_all _) B3.out X.out.size ?_; intro w4 hk4 hb4 hs4 _; have K4 := Lib.hid hk4; have B4 := Lib.hid hb4; clear hk4 hb4 hs4)
        | ((with_reducible refine atDst 22 ?_); refine wpList_ldArr rfl 24 _ rfl w2.heap.size rfl 24 _ _ K4.out Tryd.underlying24 rfl (size_set r) ?_))
      refine (C.list r w4 (HT.out.belowG B4.out HT.out.lt)).mono ?_
      rintro e w5 ⟨v5, rfl, hr5, hb⟩
      rw [HM.out] at hr5
      have K5 := Lib.hid (K4.out.below hb K4.out.lt)
      have B5 := Lib.hid (B4.out.trans (hb.mono B4.out.size))
      clear hb
      obtain ⟨A5, cap5, rfl, _, _, _, _⟩ := hr5
      rw [bvs_length, HML.out, HN.out]
      skip
      go_wp2_with ((with_reducible refine atDst 24 ?_); refine wpList_ldArr rfl 24 _ rfl w2.heap.size rfl 24 _ _ K5.out Tryd.underlying24 rfl (size_set r) ?_)
      refine (C.has r x w5 hx).mono ?_
      rintro e w6 ⟨rfl, hb⟩
      have K6 := Lib.hid (K5.out.below hb K5.out.lt)
      have B6 := Lib.hid (B5.out.trans (hb.mono B5.out.size))
      clear hb
      by_cases c1 : (f : Int) ≤ (x : Int)
      · have c1' : f ≤ x := by omega
        have c2' : ¬ x ≤ t := by omega
        have c2 : ¬ (x : Int) ≤ (t : Int) := by omega
        rw [show r x = false by rw [HRX.out]; simp; omega]
        go_wp2_with ((with_reducible refine atDst 37 ?_); refine wpList_ldArr rfl 24 _ rfl w2.heap.size rfl 24 _ _ K6.out Tryd.underlying24 rfl (size_set r) ?_)
        refine (C.len r w6).mono ?_
        rintro e w7 ⟨rfl, hb⟩
        rw [HM.out, HML.out, HN.out]
        have B7 := Lib.hid (B6.out.trans (hb.mono B6.out.size))
        clear hb
        go_wp2_with fail
        refine (C.range 0 255 w7 (by omega) (by omega)).mono ?_
        rintro e w8 ⟨rfl, hb⟩
        rw [H9.out]
        have B8 := Lib.hid (B7.out.trans (hb.mono B7.out.size))
        clear hb
        go_wp2_with fail
        refine (C.not_ (fun _ => false) w8).mono ?_
        rintro e w9 ⟨rfl, hb⟩
        rw [HZ9.out]
        have B9 := Lib.hid (B8.out.trans (hb.mono B8.out.size))
        clear hb
        go_wp2_with ((with_reducible refine atDst 72 ?_); refine wpList_eqSet_is rfl HF.out 24 22 (.tmp 69) (.tmp 71) 24 rfl guard_set Tryd.underlying24 Tryd.underlying22 size_u64 rfl rfl ?_)
        go_ret
        exact ⟨rfl, B9.out⟩
      · have c1' : ¬ f ≤ x := by omega
        rw [show r x = false by rw [HRX.out]; simp; omega]
        go_wp2_with ((with_reducible refine atDst 37 ?_); refine wpList_ldArr rfl 24 _ rfl w2.heap.size rfl 24 _ _ K6.out Tryd.underlying24 rfl (size_set r) ?_)
        refine (C.len r w6).mono ?_
        rintro e w7 ⟨rfl, hb⟩
        rw [HM.out, HML.out, HN.out]
        have B7 := Lib.hid (B6.out.trans (hb.mono B6.out.size))
        clear hb
        go_wp2_with fail
        refine (C.range 0 255 w7 (by omega) (by omega)).mono ?_
        rintro e w8 ⟨rfl, hb⟩
        rw [H9.out]
        have B8 := Lib.hid (B7.out.trans (hb.mono B7.out.size))
        clear hb
        go_wp2_with fail
        refine (C.not_ (fun _ => false) w8).mono ?_
        rintro e w9 ⟨rfl, hb⟩
        rw [HZ9.out]
        have B9 := Lib.hid (B8.out.trans (hb.mono B8.out.size))
        clear hb
        go_wp2_with ((with_reducible refine atDst 72 ?_); refine wpList_eqSet_is rfl HF.out 24 22 (.tmp 69) (.tmp 71) 24 rfl guard_set Tryd.underlying24 Tryd.underlying22 size_u64 rfl rfl ?_)
        go_ret
        exact ⟨rfl, B9.out⟩
end Go.Proofs.YtaobeconjdeenaaDoor
