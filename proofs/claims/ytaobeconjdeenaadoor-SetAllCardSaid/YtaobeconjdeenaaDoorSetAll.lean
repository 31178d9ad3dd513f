/-
  The walk of the statement SetAll: the Go text returns true and turns nothing that was there, on the contracts of package byteset. Conditions: the numbers fit their kinds.
-/
import Derived.Test.YtaobeconjdeenaaDoorSetL
namespace Go.Proofs.YtaobeconjdeenaaDoor
open Go.RowKit
set_option linter.unusedSimpArgs false
set_option linter.unusedVariables false

theorem cvt {w : World} {v : Value} {l : List UInt8} (h : Row w v (bvs l)) : (convert 25 9 v).run Tryd.prog w = .ok (.string ⟨l.toArray⟩) w :=
  conv_row (P := Tryd.prog) h 25 5 9 Tryd.underlying25 Tryd.underlying5 Tryd.underlying9
theorem cvx {w : World} {v : Value} {l : List UInt8} (h : Row w v (bvs l)) : ∀ W, Below w.heap.size w W → (convert 25 9 v).run Tryd.prog W = .ok (.string ⟨l.toArray⟩) W :=
  fun W hW => cvt (h.below hW)
set_option maxHeartbeats 4000000 in
set_option maxRecDepth 100000 in
theorem all_walk (C : BySet) (p q : Nat → Bool) (v : Value) (l : List UInt8) (f t : Nat) (w : World) (hr : Row w v (bvs l)) (hf : f < 256) (ht : t < 256) (hT : Tb w) :
    Calls Tryd.prog 3 #[.agg (wds p).toArray, .agg (wds q).toArray, v, .int .u8 (f : Int), .int .u8 (t : Int)] w fun e w' => e = .returned (.bool true) ∧ Below w.heap.size w w' := by
  have HT := Lib.hid hT
  clear hT
  obtain ⟨r1, h1⟩ : ∃ r : Nat → Bool, (fun b => decide (UInt8.ofNat b ∈ l)) = r := ⟨_, rfl⟩
  obtain ⟨r2, h2⟩ : ∃ r : Nat → Bool, (fun b => decide (f ≤ b ∧ b ≤ t)) = r := ⟨_, rfl⟩
  obtain ⟨r3, h3⟩ : ∃ r : Nat → Bool, (fun b => p b || q b) = r := ⟨_, rfl⟩
  obtain ⟨r4, h4⟩ : ∃ r : Nat → Bool, (fun b => p b && q b) = r := ⟨_, rfl⟩
  obtain ⟨r5, h5⟩ : ∃ r : Nat → Bool, (fun b => !p b) = r := ⟨_, rfl⟩
  obtain ⟨m, hm⟩ : ∃ m : List UInt8, memJ p 256 = m := ⟨_, rfl⟩
  obtain ⟨S, hS⟩ : ∃ S : ByteArray, (⟨m.toArray⟩ : ByteArray) = S := ⟨_, rfl⟩
  obtain ⟨x1, hx1⟩ : ∃ x : Bool, lessS p q = x := ⟨_, rfl⟩
  obtain ⟨x2, hx2⟩ : ∃ x : Bool, p f = x := ⟨_, rfl⟩
  have H1 := Lib.hid h1
  have H2 := Lib.hid h2
  have H3 := Lib.hid h3
  have H4 := Lib.hid h4
  have H5 := Lib.hid h5
  have HM := Lib.hid hm
  have HS := Lib.hid hS
  have HX1 := Lib.hid hx1
  have HX2 := Lib.hid hx2
  have R0 := Lib.hid hr
  clear h1 h2 h3 h4 h5 hm hS hx1 hx2
  obtain ⟨A0, cap0, rfl, a1, a2, a0, a3⟩ := hr
  rw [bvs_length] at a1 R0 ⊢
  clear a3 a0 a2 a1
  by_cases h300 : (300 : Int) < (l.length : Int)
  · go_enter Tryd.func3, Tryd.ntmps3
    go_wp2_with (first
      | ((with_reducible refine atDst 5 ?_); refine wpList_box rfl 24 _ rfl (wds p) rfl (Below.refl w.heap.size w) (Nat.le_refl _) ?_; intro w1 hk1 hb1 hs1 _; have K1 := Lib.hid hk1; have B1 := Lib.hid hb1; clear hk1 hb1 hs1)
      | ((with_reducible refine atDst 6 ?_); refine wpList_box rfl 24 _ rfl (wds q) rfl (Below.refl w1.heap.size w1) (Nat.le_refl _) ?_; intro w2 hk2 hb2 hs2 _; have KB := Lib.hid hk2; have B2 := Lib.hid hb2; clear hk2 hb2 hs2))
    have KA := Lib.hid (K1.out.below B2.out K1.out.lt)
    have BX := Lib.hid (B1.out.trans (B2.out.mono B1.out.size))
    clear K1 B1 B2
    refine (begun_any C w2 (HT.out.belowG BX.out HT.out.lt)).mono ?_
    rintro e w3 ⟨rfl, hb⟩
    have X := Lib.hid hb
    clear hb
    go_wp2_with fail
    go_ret
    exact ⟨rfl, (BX.out.trans (X.out.mono BX.out.size))⟩
  · go_enter Tryd.func3, Tryd.ntmps3
    go_wp2_with (first
      | ((with_reducible refine atDst 5 ?_); refine wpList_box rfl 24 _ rfl (wds p) rfl (Below.refl w.heap.size w) (Nat.le_refl _) ?_; intro w1 hk1 hb1 hs1 _; have K1 := Lib.hid hk1; have B1 := Lib.hid hb1; clear hk1 hb1 hs1)
      | ((with_reducible refine atDst 6 ?_); refine wpList_box rfl 24 _ rfl (wds q) rfl (Below.refl w1.heap.size w1) (Nat.le_refl _) ?_; intro w2 hk2 hb2 hs2 _; have KB := Lib.hid hk2; have B2 := Lib.hid hb2; clear hk2 hb2 hs2))
    have KA := Lib.hid (K1.out.below B2.out K1.out.lt)
    have BX := Lib.hid (B1.out.trans (B2.out.mono B1.out.size))
    clear K1 B1 B2
    refine (begun_any C w2 (HT.out.belowG BX.out HT.out.lt)).mono ?_
    rintro e w3 ⟨rfl, hb⟩
    have X := Lib.hid hb
    clear hb
    go_wp2_with fail
    refine sx_start (by kernel_rfl) (fun w3' hS hSz => ?_)
    replace X := Lib.hid (X.out.trans (hS.mono X.out.size))
    replace KA := Lib.hid (KA.out.below X.out KA.out.lt)
    replace KB := Lib.hid (KB.out.below X.out KB.out.lt)
    have hX := Below.refl w3'.heap.size w3'
    clear hS hSz
    refine sx_take (i := 0) (oi := ⟨some 16, _, _, _, _, _⟩) (v := ?_) rfl (by kernel_rfl) (by kernel_rfl) (by kernel_rfl) (fun _ _ _ h => h) rfl hX ?_ ?_; rotate_left; (intro W hW; go_simp; try with_reducible rfl); simp only [Act.put, List.setIfInBounds_toArray, List.set_cons_zero, List.set_cons_succ]
    refine sx_take (i := 2) (oi := ⟨some 18, _, _, _, _, _⟩) (v := ?_) rfl (by kernel_rfl) (by kernel_rfl) (by kernel_rfl) (fun _ _ _ h => h) rfl hX ?_ ?_; rotate_left; (intro W hW; go_simp; try with_reducible rfl); simp only [Act.put, List.setIfInBounds_toArray, List.set_cons_zero, List.set_cons_succ]
    refine sx_act (i := 1) (o := ⟨some 17, _, _, _, _, _⟩) rfl (by kernel_rfl) rfl hX (Nat.le_refl _) (fun K hK => ?_)
    go_wp2_with fail
    refine (C.of _ l w3' (R0.out.below (BX.out.trans (X.out.mono BX.out.size))) (by omega)).mono ?_
    rintro e w4 ⟨rfl, hb⟩
    rw [H1.out]
    refine hK _ _ hb ?_
    clear hK K hX
    have hX := Below.refl w4.heap.size w4
    replace X := Lib.hid (X.out.trans (hb.mono X.out.size))
    replace KA := Lib.hid (KA.out.below hb KA.out.lt)
    replace KB := Lib.hid (KB.out.below hb KB.out.lt)
    clear hb
    refine sx_act (i := 3) (o := ⟨some 19, _, _, _, _, _⟩) rfl (by kernel_rfl) rfl hX (Nat.le_refl _) (fun K hK => ?_)
    go_wp2_with fail
    refine (refOf_any _ l w4 (R0.out.below (BX.out.trans (X.out.mono BX.out.size))) (by omega)).mono ?_
    rintro e w5 ⟨rfl, hb⟩
    rw [H1.out]
    refine hK _ _ hb ?_
    clear hK K hX
    have hX := Below.refl w5.heap.size w5
    replace X := Lib.hid (X.out.trans (hb.mono X.out.size))
    replace KA := Lib.hid (KA.out.below hb KA.out.lt)
    replace KB := Lib.hid (KB.out.below hb KB.out.lt)
    clear hb
    refine sx_take (i := 4) (oi := ⟨some 20, _, _, _, _, _⟩) (v := .bool true) rfl (by kernel_rfl) (by kernel_rfl) (by kernel_rfl) (fun _ _ _ h => h) rfl hX (eq_is (eqS_self _) 24 22 (.tmp 17) (.tmp 19) 24 rfl guard_set Tryd.underlying24 Tryd.underlying22 size_u64 rfl rfl) ?_; simp only [Act.put, List.setIfInBounds_toArray, List.set_cons_zero, List.set_cons_succ]
    refine sx_take (i := 5) (oi := ⟨some 21, _, _, _, _, _⟩) (v := ?_) rfl (by kernel_rfl) (by kernel_rfl) (by kernel_rfl) (fun _ _ _ h => h) rfl hX ?_ ?_; rotate_left; (intro W hW; go_simp; try with_reducible rfl); simp only [Act.put, List.setIfInBounds_toArray, List.set_cons_zero, List.set_cons_succ]
    refine sx_take (i := 6) (oi := ⟨some 22, _, _, _, _, _⟩) (v := ?_) rfl (by kernel_rfl) (by kernel_rfl) (by kernel_rfl) (fun _ _ _ h => h) rfl hX ?_ ?_; rotate_left; (intro W hW; go_simp; try with_reducible rfl); simp only [Act.put, List.setIfInBounds_toArray, List.set_cons_zero, List.set_cons_succ]
    refine sx_take (i := 7) (oi := ⟨some 23, _, _, _, _, _⟩) (v := ?_) rfl (by kernel_rfl) (by kernel_rfl) (by kernel_rfl) (fun _ _ _ h => h) rfl hX ?_ ?_; rotate_left; (intro W hW; go_simp; try with_reducible rfl); simp only [Act.put, List.setIfInBounds_toArray, List.set_cons_zero, List.set_cons_succ]
    refine sx_take (i := 9) (oi := ⟨some 25, _, _, _, _, _⟩) (v := ?_) rfl (by kernel_rfl) (by kernel_rfl) (by kernel_rfl) (fun _ _ _ h => h) rfl hX ?_ ?_; rotate_left; (intro W hW; go_simp; try with_reducible rfl); simp only [Act.put, List.setIfInBounds_toArray, List.set_cons_zero, List.set_cons_succ]
    refine sx_take (i := 10) (oi := ⟨some 26, _, _, _, _, _⟩) (v := ?_) rfl (by kernel_rfl) (by kernel_rfl) (by kernel_rfl) (fun _ _ _ h => h) rfl hX ?_ ?_; rotate_left; (intro W hW; go_simp; try with_reducible rfl); simp only [Act.put, List.setIfInBounds_toArray, List.set_cons_zero, List.set_cons_succ]
    refine sx_act (i := 8) (o := ⟨some 24, _, _, _, _, _⟩) rfl (by kernel_rfl) rfl hX (Nat.le_refl _) (fun K hK => ?_)
    go_wp2_with fail
    refine (C.range f t w5 hf ht).mono ?_
    rintro e w6 ⟨rfl, hb⟩
    rw [H2.out]
    refine hK _ _ hb ?_
    clear hK K hX
    have hX := Below.refl w6.heap.size w6
    replace X := Lib.hid (X.out.trans (hb.mono X.out.size))
    replace KA := Lib.hid (KA.out.below hb KA.out.lt)
    replace KB := Lib.hid (KB.out.below hb KB.out.lt)
    clear hb
    refine sx_act (i := 11) (o := ⟨some 27, _, _, _, _, _⟩) rfl (by kernel_rfl) rfl hX (Nat.le_refl _) (fun K hK => ?_)
    go_wp2_with fail
    refine (refRange_any f t hf ht w6).mono ?_
    rintro e w7 ⟨rfl, hb⟩
    rw [H2.out]
    refine hK _ _ hb ?_
    clear hK K hX
    have hX := Below.refl w7.heap.size w7
    replace X := Lib.hid (X.out.trans (hb.mono X.out.size))
    replace KA := Lib.hid (KA.out.below hb KA.out.lt)
    replace KB := Lib.hid (KB.out.below hb KB.out.lt)
    clear hb
    refine sx_take (i := 12) (oi := ⟨some 28, _, _, _, _, _⟩) (v := .bool true) rfl (by kernel_rfl) (by kernel_rfl) (by kernel_rfl) (fun _ _ _ h => h) rfl hX (eq_is (eqS_self _) 24 22 (.tmp 24) (.tmp 27) 24 rfl guard_set Tryd.underlying24 Tryd.underlying22 size_u64 rfl rfl) ?_; simp only [Act.put, List.setIfInBounds_toArray, List.set_cons_zero, List.set_cons_succ]
    refine sx_take (i := 13) (oi := ⟨some 29, _, _, _, _, _⟩) (v := ?_) rfl (by kernel_rfl) (by kernel_rfl) (by kernel_rfl) (fun _ _ _ h => h) rfl hX ?_ ?_; rotate_left; (intro W hW; go_simp; try with_reducible rfl); simp only [Act.put, List.setIfInBounds_toArray, List.set_cons_zero, List.set_cons_succ]
    refine sx_take (i := 14) (oi := ⟨some 30, _, _, _, _, _⟩) (v := ?_) rfl (by kernel_rfl) (by kernel_rfl) (by kernel_rfl) (fun _ _ _ h => h) rfl hX ?_ ?_; rotate_left; (intro W hW; go_simp; try with_reducible rfl); simp only [Act.put, List.setIfInBounds_toArray, List.set_cons_zero, List.set_cons_succ]
    refine sx_take (i := 15) (oi := ⟨some 31, _, _, _, _, _⟩) (v := .agg (wds p).toArray) rfl (by kernel_rfl) (by kernel_rfl) (by kernel_rfl) (fun _ _ _ h => h) rfl hX (ld_blk 24 _ rfl w.heap.size rfl 24 _ _ KA.out KA.out.lt Tryd.underlying24 rfl (size_set p)) ?_; simp only [Act.put, List.setIfInBounds_toArray, List.set_cons_zero, List.set_cons_succ]
    refine sx_take (i := 16) (oi := ⟨some 32, _, _, _, _, _⟩) (v := .agg (wds q).toArray) rfl (by kernel_rfl) (by kernel_rfl) (by kernel_rfl) (fun _ _ _ h => h) rfl hX (ld_blk 24 _ rfl w1.heap.size rfl 24 _ _ KB.out KB.out.lt Tryd.underlying24 rfl (size_set q)) ?_; simp only [Act.put, List.setIfInBounds_toArray, List.set_cons_zero, List.set_cons_succ]
    refine sx_take (i := 18) (oi := ⟨some 34, _, _, _, _, _⟩) (v := .agg (wds p).toArray) rfl (by kernel_rfl) (by kernel_rfl) (by kernel_rfl) (fun _ _ _ h => h) rfl hX (ld_blk 24 _ rfl w.heap.size rfl 24 _ _ KA.out KA.out.lt Tryd.underlying24 rfl (size_set p)) ?_; simp only [Act.put, List.setIfInBounds_toArray, List.set_cons_zero, List.set_cons_succ]
    refine sx_take (i := 19) (oi := ⟨some 35, _, _, _, _, _⟩) (v := .agg (wds q).toArray) rfl (by kernel_rfl) (by kernel_rfl) (by kernel_rfl) (fun _ _ _ h => h) rfl hX (ld_blk 24 _ rfl w1.heap.size rfl 24 _ _ KB.out KB.out.lt Tryd.underlying24 rfl (size_set q)) ?_; simp only [Act.put, List.setIfInBounds_toArray, List.set_cons_zero, List.set_cons_succ]
    refine sx_act (i := 17) (o := ⟨some 33, _, _, _, _, _⟩) rfl (by kernel_rfl) rfl hX (Nat.le_refl _) (fun K hK => ?_)
    go_wp2_with fail
    refine (C.or_ p q w7).mono ?_
    rintro e w8 ⟨rfl, hb⟩
    rw [H3.out]
    refine hK _ _ hb ?_
    clear hK K hX
    have hX := Below.refl w8.heap.size w8
    replace X := Lib.hid (X.out.trans (hb.mono X.out.size))
    replace KA := Lib.hid (KA.out.below hb KA.out.lt)
    replace KB := Lib.hid (KB.out.below hb KB.out.lt)
    clear hb
    refine sx_act (i := 20) (o := ⟨some 36, _, _, _, _, _⟩) rfl (by kernel_rfl) rfl hX (Nat.le_refl _) (fun K hK => ?_)
    go_wp2_with fail
    refine (refOr_any p q w8).mono ?_
    rintro e w9 ⟨rfl, hb⟩
    rw [H3.out]
    refine hK _ _ hb ?_
    clear hK K hX
    have hX := Below.refl w9.heap.size w9
    replace X := Lib.hid (X.out.trans (hb.mono X.out.size))
    replace KA := Lib.hid (KA.out.below hb KA.out.lt)
    replace KB := Lib.hid (KB.out.below hb KB.out.lt)
    clear hb
    refine sx_take (i := 21) (oi := ⟨some 37, _, _, _, _, _⟩) (v := .bool true) rfl (by kernel_rfl) (by kernel_rfl) (by kernel_rfl) (fun _ _ _ h => h) rfl hX (eq_is (eqS_self _) 24 22 (.tmp 33) (.tmp 36) 24 rfl guard_set Tryd.underlying24 Tryd.underlying22 size_u64 rfl rfl) ?_; simp only [Act.put, List.setIfInBounds_toArray, List.set_cons_zero, List.set_cons_succ]
    refine sx_take (i := 22) (oi := ⟨some 38, _, _, _, _, _⟩) (v := ?_) rfl (by kernel_rfl) (by kernel_rfl) (by kernel_rfl) (fun _ _ _ h => h) rfl hX ?_ ?_; rotate_left; (intro W hW; go_simp; try with_reducible rfl); simp only [Act.put, List.setIfInBounds_toArray, List.set_cons_zero, List.set_cons_succ]
    refine sx_take (i := 23) (oi := ⟨some 39, _, _, _, _, _⟩) (v := ?_) rfl (by kernel_rfl) (by kernel_rfl) (by kernel_rfl) (fun _ _ _ h => h) rfl hX ?_ ?_; rotate_left; (intro W hW; go_simp; try with_reducible rfl); simp only [Act.put, List.setIfInBounds_toArray, List.set_cons_zero, List.set_cons_succ]
    refine sx_take (i := 24) (oi := ⟨some 40, _, _, _, _, _⟩) (v := .agg (wds p).toArray) rfl (by kernel_rfl) (by kernel_rfl) (by kernel_rfl) (fun _ _ _ h => h) rfl hX (ld_blk 24 _ rfl w.heap.size rfl 24 _ _ KA.out KA.out.lt Tryd.underlying24 rfl (size_set p)) ?_; simp only [Act.put, List.setIfInBounds_toArray, List.set_cons_zero, List.set_cons_succ]
    refine sx_take (i := 25) (oi := ⟨some 41, _, _, _, _, _⟩) (v := .agg (wds q).toArray) rfl (by kernel_rfl) (by kernel_rfl) (by kernel_rfl) (fun _ _ _ h => h) rfl hX (ld_blk 24 _ rfl w1.heap.size rfl 24 _ _ KB.out KB.out.lt Tryd.underlying24 rfl (size_set q)) ?_; simp only [Act.put, List.setIfInBounds_toArray, List.set_cons_zero, List.set_cons_succ]
    refine sx_take (i := 27) (oi := ⟨some 43, _, _, _, _, _⟩) (v := .agg (wds p).toArray) rfl (by kernel_rfl) (by kernel_rfl) (by kernel_rfl) (fun _ _ _ h => h) rfl hX (ld_blk 24 _ rfl w.heap.size rfl 24 _ _ KA.out KA.out.lt Tryd.underlying24 rfl (size_set p)) ?_; simp only [Act.put, List.setIfInBounds_toArray, List.set_cons_zero, List.set_cons_succ]
    refine sx_take (i := 28) (oi := ⟨some 44, _, _, _, _, _⟩) (v := .agg (wds q).toArray) rfl (by kernel_rfl) (by kernel_rfl) (by kernel_rfl) (fun _ _ _ h => h) rfl hX (ld_blk 24 _ rfl w1.heap.size rfl 24 _ _ KB.out KB.out.lt Tryd.underlying24 rfl (size_set q)) ?_; simp only [Act.put, List.setIfInBounds_toArray, List.set_cons_zero, List.set_cons_succ]
    refine sx_act (i := 26) (o := ⟨some 42, _, _, _, _, _⟩) rfl (by kernel_rfl) rfl hX (Nat.le_refl _) (fun K hK => ?_)
    go_wp2_with fail
    refine (C.and_ p q w9).mono ?_
    rintro e w10 ⟨rfl, hb⟩
    rw [H4.out]
    refine hK _ _ hb ?_
    clear hK K hX
    have hX := Below.refl w10.heap.size w10
    replace X := Lib.hid (X.out.trans (hb.mono X.out.size))
    replace KA := Lib.hid (KA.out.below hb KA.out.lt)
    replace KB := Lib.hid (KB.out.below hb KB.out.lt)
    clear hb
    refine sx_act (i := 29) (o := ⟨some 45, _, _, _, _, _⟩) rfl (by kernel_rfl) rfl hX (Nat.le_refl _) (fun K hK => ?_)
    go_wp2_with fail
    refine (refAnd_any p q w10).mono ?_
    rintro e w11 ⟨rfl, hb⟩
    rw [H4.out]
    refine hK _ _ hb ?_
    clear hK K hX
    have hX := Below.refl w11.heap.size w11
    replace X := Lib.hid (X.out.trans (hb.mono X.out.size))
    replace KA := Lib.hid (KA.out.below hb KA.out.lt)
    replace KB := Lib.hid (KB.out.below hb KB.out.lt)
    clear hb
    refine sx_take (i := 30) (oi := ⟨some 46, _, _, _, _, _⟩) (v := .bool true) rfl (by kernel_rfl) (by kernel_rfl) (by kernel_rfl) (fun _ _ _ h => h) rfl hX (eq_is (eqS_self _) 24 22 (.tmp 42) (.tmp 45) 24 rfl guard_set Tryd.underlying24 Tryd.underlying22 size_u64 rfl rfl) ?_; simp only [Act.put, List.setIfInBounds_toArray, List.set_cons_zero, List.set_cons_succ]
    refine sx_take (i := 31) (oi := ⟨some 47, _, _, _, _, _⟩) (v := ?_) rfl (by kernel_rfl) (by kernel_rfl) (by kernel_rfl) (fun _ _ _ h => h) rfl hX ?_ ?_; rotate_left; (intro W hW; go_simp; try with_reducible rfl); simp only [Act.put, List.setIfInBounds_toArray, List.set_cons_zero, List.set_cons_succ]
    refine sx_take (i := 32) (oi := ⟨some 48, _, _, _, _, _⟩) (v := ?_) rfl (by kernel_rfl) (by kernel_rfl) (by kernel_rfl) (fun _ _ _ h => h) rfl hX ?_ ?_; rotate_left; (intro W hW; go_simp; try with_reducible rfl); simp only [Act.put, List.setIfInBounds_toArray, List.set_cons_zero, List.set_cons_succ]
    refine sx_take (i := 33) (oi := ⟨some 49, _, _, _, _, _⟩) (v := .agg (wds p).toArray) rfl (by kernel_rfl) (by kernel_rfl) (by kernel_rfl) (fun _ _ _ h => h) rfl hX (ld_blk 24 _ rfl w.heap.size rfl 24 _ _ KA.out KA.out.lt Tryd.underlying24 rfl (size_set p)) ?_; simp only [Act.put, List.setIfInBounds_toArray, List.set_cons_zero, List.set_cons_succ]
    refine sx_take (i := 35) (oi := ⟨some 51, _, _, _, _, _⟩) (v := .agg (wds p).toArray) rfl (by kernel_rfl) (by kernel_rfl) (by kernel_rfl) (fun _ _ _ h => h) rfl hX (ld_blk 24 _ rfl w.heap.size rfl 24 _ _ KA.out KA.out.lt Tryd.underlying24 rfl (size_set p)) ?_; simp only [Act.put, List.setIfInBounds_toArray, List.set_cons_zero, List.set_cons_succ]
    refine sx_act (i := 34) (o := ⟨some 50, _, _, _, _, _⟩) rfl (by kernel_rfl) rfl hX (Nat.le_refl _) (fun K hK => ?_)
    go_wp2_with fail
    refine (C.not_ p w11).mono ?_
    rintro e w12 ⟨rfl, hb⟩
    rw [H5.out]
    refine hK _ _ hb ?_
    clear hK K hX
    have hX := Below.refl w12.heap.size w12
    replace X := Lib.hid (X.out.trans (hb.mono X.out.size))
    replace KA := Lib.hid (KA.out.below hb KA.out.lt)
    replace KB := Lib.hid (KB.out.below hb KB.out.lt)
    clear hb
    refine sx_act (i := 36) (o := ⟨some 52, _, _, _, _, _⟩) rfl (by kernel_rfl) rfl hX (Nat.le_refl _) (fun K hK => ?_)
    go_wp2_with fail
    refine (refNot_any p w12).mono ?_
    rintro e w13 ⟨rfl, hb⟩
    rw [H5.out]
    refine hK _ _ hb ?_
    clear hK K hX
    have hX := Below.refl w13.heap.size w13
    replace X := Lib.hid (X.out.trans (hb.mono X.out.size))
    replace KA := Lib.hid (KA.out.below hb KA.out.lt)
    replace KB := Lib.hid (KB.out.below hb KB.out.lt)
    clear hb
    refine sx_take (i := 37) (oi := ⟨some 53, _, _, _, _, _⟩) (v := .bool true) rfl (by kernel_rfl) (by kernel_rfl) (by kernel_rfl) (fun _ _ _ h => h) rfl hX (eq_is (eqS_self _) 24 22 (.tmp 50) (.tmp 52) 24 rfl guard_set Tryd.underlying24 Tryd.underlying22 size_u64 rfl rfl) ?_; simp only [Act.put, List.setIfInBounds_toArray, List.set_cons_zero, List.set_cons_succ]
    refine sx_take (i := 38) (oi := ⟨some 54, _, _, _, _, _⟩) (v := ?_) rfl (by kernel_rfl) (by kernel_rfl) (by kernel_rfl) (fun _ _ _ h => h) rfl hX ?_ ?_; rotate_left; (intro W hW; go_simp; try with_reducible rfl); simp only [Act.put, List.setIfInBounds_toArray, List.set_cons_zero, List.set_cons_succ]
    refine sx_take (i := 39) (oi := ⟨some 55, _, _, _, _, _⟩) (v := ?_) rfl (by kernel_rfl) (by kernel_rfl) (by kernel_rfl) (fun _ _ _ h => h) rfl hX ?_ ?_; rotate_left; (intro W hW; go_simp; try with_reducible rfl); simp only [Act.put, List.setIfInBounds_toArray, List.set_cons_zero, List.set_cons_succ]
    refine sx_take (i := 40) (oi := ⟨some 56, _, _, _, _, _⟩) (v := .agg (wds p).toArray) rfl (by kernel_rfl) (by kernel_rfl) (by kernel_rfl) (fun _ _ _ h => h) rfl hX (ld_blk 24 _ rfl w.heap.size rfl 24 _ _ KA.out KA.out.lt Tryd.underlying24 rfl (size_set p)) ?_; simp only [Act.put, List.setIfInBounds_toArray, List.set_cons_zero, List.set_cons_succ]
    refine sx_take (i := 43) (oi := ⟨some 59, _, _, _, _, _⟩) (v := .agg (wds p).toArray) rfl (by kernel_rfl) (by kernel_rfl) (by kernel_rfl) (fun _ _ _ h => h) rfl hX (ld_blk 24 _ rfl w.heap.size rfl 24 _ _ KA.out KA.out.lt Tryd.underlying24 rfl (size_set p)) ?_; simp only [Act.put, List.setIfInBounds_toArray, List.set_cons_zero, List.set_cons_succ]
    refine sx_act (i := 41) (o := ⟨some 57, _, _, _, _, _⟩) rfl (by kernel_rfl) rfl hX (Nat.le_refl _) (fun K hK => ?_)
    go_wp2_with fail
    refine (C.list p w13 (HT.out.belowG (BX.out.trans (X.out.mono BX.out.size)) HT.out.lt)).mono ?_
    rintro e w14 ⟨v14, rfl, hr14, hb⟩
    rw [HM.out] at hr14
    have c14 := cvx hr14
    rw [HS.out] at c14
    clear hr14
    refine hK _ _ hb ?_
    clear hK K hX
    have hX := Below.refl w14.heap.size w14
    replace X := Lib.hid (X.out.trans (hb.mono X.out.size))
    replace KA := Lib.hid (KA.out.below hb KA.out.lt)
    replace KB := Lib.hid (KB.out.below hb KB.out.lt)
    clear hb
    refine sx_take (i := 42) (oi := ⟨some 58, _, _, _, _, _⟩) (v := ?_) rfl (by kernel_rfl) (by kernel_rfl) (by kernel_rfl) (fun _ _ _ h => h) rfl hX ?_ ?_; rotate_left; (intro W hW; go_simp; try with_reducible rfl); simp only [Act.put, List.setIfInBounds_toArray, List.set_cons_zero, List.set_cons_succ]
    refine sx_act (i := 44) (o := ⟨some 60, _, _, _, _, _⟩) rfl (by kernel_rfl) rfl hX (Nat.le_refl _) (fun K hK => ?_)
    go_wp2_with fail
    refine (refList_any p w14).mono ?_
    rintro e w15 ⟨v15, rfl, hr15, hb⟩
    rw [HM.out] at hr15
    clear c14
    have c15 := cvx (Row.of_own hr15)
    rw [HS.out] at c15
    clear hr15
    refine hK _ _ hb ?_
    clear hK K hX
    have hX := Below.refl w15.heap.size w15
    replace X := Lib.hid (X.out.trans (hb.mono X.out.size))
    replace KA := Lib.hid (KA.out.below hb KA.out.lt)
    replace KB := Lib.hid (KB.out.below hb KB.out.lt)
    clear hb
    refine sx_take (i := 45) (oi := ⟨some 61, _, _, _, _, _⟩) (v := ?_) rfl (by kernel_rfl) (by kernel_rfl) (by kernel_rfl) (fun _ _ _ h => h) rfl hX ?_ ?_; rotate_left; (intro W hW; go_simp; try with_reducible rfl); simp only [Act.put, List.setIfInBounds_toArray, List.set_cons_zero, List.set_cons_succ]
    refine sx_take (i := 46) (oi := ⟨some 62, _, _, _, _, _⟩) (v := ?_) rfl (by kernel_rfl) (by kernel_rfl) (by kernel_rfl) (fun _ _ _ h => h) rfl hX ?_ ?_; rotate_left; (intro W hW; go_simp; try with_reducible rfl); simp only [Act.put, List.setIfInBounds_toArray, List.set_cons_zero, List.set_cons_succ]
    refine sx_take (i := 47) (oi := ⟨some 63, _, _, _, _, _⟩) (v := ?_) rfl (by kernel_rfl) (by kernel_rfl) (by kernel_rfl) (fun _ _ _ h => h) rfl hX ?_ ?_; rotate_left; (intro W hW; go_simp; try with_reducible rfl); simp only [Act.put, List.setIfInBounds_toArray, List.set_cons_zero, List.set_cons_succ]
    refine sx_take (i := 48) (oi := ⟨some 64, _, _, _, _, _⟩) (v := ?_) rfl (by kernel_rfl) (by kernel_rfl) (by kernel_rfl) (fun _ _ _ h => h) rfl hX ?_ ?_; rotate_left; (intro W hW; go_simp; try with_reducible rfl); simp only [Act.put, List.setIfInBounds_toArray, List.set_cons_zero, List.set_cons_succ]
    refine sx_take (i := 49) (oi := ⟨some 65, _, _, _, _, _⟩) (v := .agg (wds p).toArray) rfl (by kernel_rfl) (by kernel_rfl) (by kernel_rfl) (fun _ _ _ h => h) rfl hX (ld_blk 24 _ rfl w.heap.size rfl 24 _ _ KA.out KA.out.lt Tryd.underlying24 rfl (size_set p)) ?_; simp only [Act.put, List.setIfInBounds_toArray, List.set_cons_zero, List.set_cons_succ]
    refine sx_take (i := 51) (oi := ⟨some 67, _, _, _, _, _⟩) (v := .agg (wds p).toArray) rfl (by kernel_rfl) (by kernel_rfl) (by kernel_rfl) (fun _ _ _ h => h) rfl hX (ld_blk 24 _ rfl w.heap.size rfl 24 _ _ KA.out KA.out.lt Tryd.underlying24 rfl (size_set p)) ?_; simp only [Act.put, List.setIfInBounds_toArray, List.set_cons_zero, List.set_cons_succ]
    refine sx_act (i := 50) (o := ⟨some 66, _, _, _, _, _⟩) rfl (by kernel_rfl) rfl hX (Nat.le_refl _) (fun K hK => ?_)
    go_wp2_with fail
    refine (C.len p w15).mono ?_
    rintro e w16 ⟨rfl, hb⟩
    clear c15
    rw [HM.out]
    refine hK _ _ hb ?_
    clear hK K hX
    have hX := Below.refl w16.heap.size w16
    replace X := Lib.hid (X.out.trans (hb.mono X.out.size))
    replace KA := Lib.hid (KA.out.below hb KA.out.lt)
    replace KB := Lib.hid (KB.out.below hb KB.out.lt)
    clear hb
    refine sx_act (i := 52) (o := ⟨some 68, _, _, _, _, _⟩) rfl (by kernel_rfl) rfl hX (Nat.le_refl _) (fun K hK => ?_)
    go_wp2_with fail
    refine (refList_any p w16).mono ?_
    rintro e w17 ⟨v17, rfl, hr17, hb⟩
    rw [HM.out] at hr17
    obtain ⟨A17, cap17, rfl, _, _, _, _⟩ := Row.of_own hr17
    rw [bvs_length]
    clear hr17
    refine hK _ _ hb ?_
    clear hK K hX
    have hX := Below.refl w17.heap.size w17
    replace X := Lib.hid (X.out.trans (hb.mono X.out.size))
    replace KA := Lib.hid (KA.out.below hb KA.out.lt)
    replace KB := Lib.hid (KB.out.below hb KB.out.lt)
    clear hb
    refine sx_take (i := 53) (oi := ⟨some 69, _, _, _, _, _⟩) (v := ?_) rfl (by kernel_rfl) (by kernel_rfl) (by kernel_rfl) (fun _ _ _ h => h) rfl hX ?_ ?_; rotate_left; (intro W hW; go_simp; try with_reducible rfl); simp only [Act.put, List.setIfInBounds_toArray, List.set_cons_zero, List.set_cons_succ]
    refine sx_take (i := 54) (oi := ⟨some 70, _, _, _, _, _⟩) (v := ?_) rfl (by kernel_rfl) (by kernel_rfl) (by kernel_rfl) (fun _ _ _ h => h) rfl hX ?_ ?_; rotate_left; (intro W hW; go_simp; try with_reducible rfl); simp only [Act.put, List.setIfInBounds_toArray, List.set_cons_zero, List.set_cons_succ]
    refine sx_take (i := 55) (oi := ⟨some 71, _, _, _, _, _⟩) (v := ?_) rfl (by kernel_rfl) (by kernel_rfl) (by kernel_rfl) (fun _ _ _ h => h) rfl hX ?_ ?_; rotate_left; (intro W hW; go_simp; try with_reducible rfl); simp only [Act.put, List.setIfInBounds_toArray, List.set_cons_zero, List.set_cons_succ]
    refine sx_take (i := 56) (oi := ⟨some 72, _, _, _, _, _⟩) (v := ?_) rfl (by kernel_rfl) (by kernel_rfl) (by kernel_rfl) (fun _ _ _ h => h) rfl hX ?_ ?_; rotate_left; (intro W hW; go_simp; try with_reducible rfl); simp only [Act.put, List.setIfInBounds_toArray, List.set_cons_zero, List.set_cons_succ]
    refine sx_take (i := 57) (oi := ⟨some 73, _, _, _, _, _⟩) (v := .agg (wds p).toArray) rfl (by kernel_rfl) (by kernel_rfl) (by kernel_rfl) (fun _ _ _ h => h) rfl hX (ld_blk 24 _ rfl w.heap.size rfl 24 _ _ KA.out KA.out.lt Tryd.underlying24 rfl (size_set p)) ?_; simp only [Act.put, List.setIfInBounds_toArray, List.set_cons_zero, List.set_cons_succ]
    refine sx_take (i := 58) (oi := ⟨some 74, _, _, _, _, _⟩) (v := .agg (wds q).toArray) rfl (by kernel_rfl) (by kernel_rfl) (by kernel_rfl) (fun _ _ _ h => h) rfl hX (ld_blk 24 _ rfl w1.heap.size rfl 24 _ _ KB.out KB.out.lt Tryd.underlying24 rfl (size_set q)) ?_; simp only [Act.put, List.setIfInBounds_toArray, List.set_cons_zero, List.set_cons_succ]
    refine sx_take (i := 60) (oi := ⟨some 76, _, _, _, _, _⟩) (v := .agg (wds p).toArray) rfl (by kernel_rfl) (by kernel_rfl) (by kernel_rfl) (fun _ _ _ h => h) rfl hX (ld_blk 24 _ rfl w.heap.size rfl 24 _ _ KA.out KA.out.lt Tryd.underlying24 rfl (size_set p)) ?_; simp only [Act.put, List.setIfInBounds_toArray, List.set_cons_zero, List.set_cons_succ]
    refine sx_take (i := 61) (oi := ⟨some 77, _, _, _, _, _⟩) (v := .agg (wds q).toArray) rfl (by kernel_rfl) (by kernel_rfl) (by kernel_rfl) (fun _ _ _ h => h) rfl hX (ld_blk 24 _ rfl w1.heap.size rfl 24 _ _ KB.out KB.out.lt Tryd.underlying24 rfl (size_set q)) ?_; simp only [Act.put, List.setIfInBounds_toArray, List.set_cons_zero, List.set_cons_succ]
    refine sx_act (i := 59) (o := ⟨some 75, _, _, _, _, _⟩) rfl (by kernel_rfl) rfl hX (Nat.le_refl _) (fun K hK => ?_)
    go_wp2_with fail
    refine (C.less p q w17).mono ?_
    rintro e w18 ⟨rfl, hb⟩
    rw [HX1.out]
    refine hK _ _ hb ?_
    clear hK K hX
    have hX := Below.refl w18.heap.size w18
    replace X := Lib.hid (X.out.trans (hb.mono X.out.size))
    replace KA := Lib.hid (KA.out.below hb KA.out.lt)
    replace KB := Lib.hid (KB.out.below hb KB.out.lt)
    clear hb
    refine sx_act (i := 62) (o := ⟨some 78, _, _, _, _, _⟩) rfl (by kernel_rfl) rfl hX (Nat.le_refl _) (fun K hK => ?_)
    go_wp2_with fail
    refine (refSetLess_any p q w18).mono ?_
    rintro e w19 ⟨rfl, hb⟩
    rw [HX1.out]
    refine hK _ _ hb ?_
    clear hK K hX
    have hX := Below.refl w19.heap.size w19
    replace X := Lib.hid (X.out.trans (hb.mono X.out.size))
    replace KA := Lib.hid (KA.out.below hb KA.out.lt)
    replace KB := Lib.hid (KB.out.below hb KB.out.lt)
    clear hb
    refine sx_take (i := 63) (oi := ⟨some 79, _, _, _, _, _⟩) (v := ?_) rfl (by kernel_rfl) (by kernel_rfl) (by kernel_rfl) (fun _ _ _ h => h) rfl hX ?_ ?_; rotate_left; (intro W hW; go_simp; try with_reducible rfl); simp only [Act.put, List.setIfInBounds_toArray, List.set_cons_zero, List.set_cons_succ]
    refine sx_take (i := 64) (oi := ⟨some 80, _, _, _, _, _⟩) (v := ?_) rfl (by kernel_rfl) (by kernel_rfl) (by kernel_rfl) (fun _ _ _ h => h) rfl hX ?_ ?_; rotate_left; (intro W hW; go_simp; try with_reducible rfl); simp only [Act.put, List.setIfInBounds_toArray, List.set_cons_zero, List.set_cons_succ]
    refine sx_take (i := 65) (oi := ⟨some 81, _, _, _, _, _⟩) (v := ?_) rfl (by kernel_rfl) (by kernel_rfl) (by kernel_rfl) (fun _ _ _ h => h) rfl hX ?_ ?_; rotate_left; (intro W hW; go_simp; try with_reducible rfl); simp only [Act.put, List.setIfInBounds_toArray, List.set_cons_zero, List.set_cons_succ]
    refine sx_take (i := 66) (oi := ⟨some 82, _, _, _, _, _⟩) (v := .agg (wds p).toArray) rfl (by kernel_rfl) (by kernel_rfl) (by kernel_rfl) (fun _ _ _ h => h) rfl hX (ld_blk 24 _ rfl w.heap.size rfl 24 _ _ KA.out KA.out.lt Tryd.underlying24 rfl (size_set p)) ?_; simp only [Act.put, List.setIfInBounds_toArray, List.set_cons_zero, List.set_cons_succ]
    refine sx_take (i := 67) (oi := ⟨some 83, _, _, _, _, _⟩) (v := ?_) rfl (by kernel_rfl) (by kernel_rfl) (by kernel_rfl) (fun _ _ _ h => h) rfl hX ?_ ?_; rotate_left; (intro W hW; go_simp; try with_reducible rfl); simp only [Act.put, List.setIfInBounds_toArray, List.set_cons_zero, List.set_cons_succ]
    refine sx_take (i := 69) (oi := ⟨some 85, _, _, _, _, _⟩) (v := .agg (wds p).toArray) rfl (by kernel_rfl) (by kernel_rfl) (by kernel_rfl) (fun _ _ _ h => h) rfl hX (ld_blk 24 _ rfl w.heap.size rfl 24 _ _ KA.out KA.out.lt Tryd.underlying24 rfl (size_set p)) ?_; simp only [Act.put, List.setIfInBounds_toArray, List.set_cons_zero, List.set_cons_succ]
    refine sx_take (i := 70) (oi := ⟨some 86, _, _, _, _, _⟩) (v := ?_) rfl (by kernel_rfl) (by kernel_rfl) (by kernel_rfl) (fun _ _ _ h => h) rfl hX ?_ ?_; rotate_left; (intro W hW; go_simp; try with_reducible rfl); simp only [Act.put, List.setIfInBounds_toArray, List.set_cons_zero, List.set_cons_succ]
    refine sx_act (i := 68) (o := ⟨some 84, _, _, _, _, _⟩) rfl (by kernel_rfl) rfl hX (Nat.le_refl _) (fun K hK => ?_)
    go_wp2_with fail
    refine (C.has p f w19 hf).mono ?_
    rintro e w20 ⟨rfl, hb⟩
    rw [HX2.out]
    refine hK _ _ hb ?_
    clear hK K hX
    have hX := Below.refl w20.heap.size w20
    replace X := Lib.hid (X.out.trans (hb.mono X.out.size))
    replace KA := Lib.hid (KA.out.below hb KA.out.lt)
    replace KB := Lib.hid (KB.out.below hb KB.out.lt)
    clear hb
    refine sx_act (i := 71) (o := ⟨some 87, _, _, _, _, _⟩) rfl (by kernel_rfl) rfl hX (Nat.le_refl _) (fun K hK => ?_)
    go_wp2_with fail
    refine (refHas_any p f hf w20).mono ?_
    rintro e w21 ⟨rfl, hb⟩
    rw [HX2.out]
    refine hK _ _ hb ?_
    clear hK K hX
    have hX := Below.refl w21.heap.size w21
    replace X := Lib.hid (X.out.trans (hb.mono X.out.size))
    replace KA := Lib.hid (KA.out.below hb KA.out.lt)
    replace KB := Lib.hid (KB.out.below hb KB.out.lt)
    clear hb
    refine sx_take (i := 72) (oi := ⟨some 88, _, _, _, _, _⟩) (v := ?_) rfl (by kernel_rfl) (by kernel_rfl) (by kernel_rfl) (fun _ _ _ h => h) rfl hX ?_ ?_; rotate_left; (intro W hW; go_simp; try with_reducible rfl); simp only [Act.put, List.setIfInBounds_toArray, List.set_cons_zero, List.set_cons_succ]
    refine sx_take (i := 73) (oi := ⟨some 89, _, _, _, _, _⟩) (v := ?_) rfl (by kernel_rfl) (by kernel_rfl) (by kernel_rfl) (fun _ _ _ h => h) rfl hX ?_ ?_; rotate_left; (intro W hW; go_simp; try with_reducible rfl); simp only [Act.put, List.setIfInBounds_toArray, List.set_cons_zero, List.set_cons_succ]
    refine sx_take (i := 74) (oi := ⟨some 10, _, _, _, _, _⟩) (v := ?_) rfl (by kernel_rfl) (by kernel_rfl) (by kernel_rfl) (fun _ _ _ h => h) rfl hX ?_ ?_; rotate_left; (intro W hW; go_simp; try with_reducible rfl); simp only [Act.put, List.setIfInBounds_toArray, List.set_cons_zero, List.set_cons_succ]
    refine wpAnyH_done (by kernel_rfl) ?_ _
    go_wp2_with fail
    go_ret
    exact ⟨rfl, (BX.out.trans (X.out.mono BX.out.size))⟩
end Go.Proofs.YtaobeconjdeenaaDoor
