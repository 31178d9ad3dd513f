/-
  What the fourth stage's begun answers, on the contracts of package byteset. No statement is proved here.
-/
import Derived.Test.YtaobeconjdeenaaDoorSetK
import Derived.Lib.SlBytesConst
namespace Go.Proofs.YtaobeconjdeenaaDoor
open Go.RowKit
set_option linter.unusedSimpArgs false
set_option linter.unusedVariables false

theorem row_marked (w : World) (t : TypeId) (cs : List Value) (m : Nat × Nat) (hl : cs.length ≤ 1048576) : Row (w.alloc (.cells cs.toArray t m)) (.slice (some ⟨w.heap.size, 0, none⟩) cs.length cs.length) cs := by
  refine ⟨_, _, rfl, Nat.le_refl _, by unfold maxLen; omega, (fun h => by cases h), fun _ => ⟨w.heap.size, 0, rfl, by simp, fun i u hu => ?_⟩⟩
  rw [Nat.zero_add, cell_of_row _ _ i cs.toArray t m (heap_alloc_new w _)]
  simpa using hu
theorem below_marked {B : Nat} {w : World} (h : B ≤ w.heap.size) (o o' : Obj) : Below B (w.alloc o) (w.alloc o') :=
  ⟨rfl, rfl, rfl, by simp, fun k hk => by rw [Below.heap_alloc w o k (by omega), Below.heap_alloc w o' k (by omega)]⟩

set_option maxHeartbeats 4000000 in
set_option maxRecDepth 100000 in
theorem begun_any (C : BySet) (w : World) (hT : Tb w) :
    Calls Tryd.prog 10 #[] w fun e w' => e = .returned (.bool true) ∧ Below w.heap.size w w' := by
  have HT := Lib.hid hT
  clear hT
  obtain ⟨r, hr⟩ : ∃ r : Nat → Bool, r = fun b => decide (97 ≤ b ∧ b ≤ 99) := ⟨_, rfl⟩
  obtain ⟨z, hz⟩ : ∃ z : Nat → Bool, z = fun _ => false := ⟨_, rfl⟩
  have HP := Lib.hid (show (parts [r]).length = 2 by rw [hr]; exact begun_parts)
  have HLN := Lib.hid (show (memJ r 256).length = 3 by rw [hr]; exact begun_len)
  have HLS := Lib.hid (show lessS r z = true by rw [hr, hz]; exact begun_less)
  have HOF := Lib.hid (show eqS (fun b => decide (UInt8.ofNat b ∈ [97, 98, 99])) r = true by rw [hr]; exact begun_of)
  have H98 := Lib.hid (show r 98 = true by rw [hr]; decide)
  have H100 := Lib.hid (show r 100 = false by rw [hr]; decide)
  have HR := Lib.hid hr
  obtain ⟨i0, hi0, hz0⟩ := info_set
  obtain ⟨i1, hi1, hy0, hy1, hy2⟩ := infoP inf_set
  rw [← hz] at hz0
  have HZ := Lib.hid hz
  clear hr hz
  go_enter Tryd.func10, Tryd.ntmps10
  go_wp2_with fail
  refine (C.range 97 99 w (by omega) (by omega)).mono ?_
  rintro e w1 ⟨rfl, hb1⟩
  rw [← HR.out]
  have B1 := Lib.hid hb1
  clear hb1
  go_wp2_with (first
    | ((with_reducible refine atDst 1 ?_); refine wpList_new rfl 24 rfl i0 _ (wds z) hi0 hz0 rfl B1.out B1.out.size ?_; intro w2 hk2 hb2 hs2 _; have K2 := Lib.hid hk2; have B2 := Lib.hid hb2; clear hk2 hb2 hs2)
    | ((with_reducible refine atStore 24 1 3 ?_); refine wpList_stBlk rfl 24 _ _ rfl w1.heap.size (wds r) rfl rfl 24 _ K2.out (size_set r) rfl (wds_all _) B2.out B1.out.size ?_; intro w3 hk3 hb3 hs3 _; have K3 := Lib.hid hk3; have B3 := Lib.hid hb3; clear hk3 hb3 hs3)
    | ((with_reducible refine atDst 4 ?_); refine wpList_ldArr rfl 24 _ rfl w1.heap.size rfl 24 _ _ K3.out Tryd.underlying24 rfl (size_set r) ?_)
    | ((with_reducible refine atDst 5 ?_); refine wpList_bldSet1 rfl 36 24 (.tmp 4) rfl i1 Tryd.underlying36 hi1 hy0 hy1 r rfl ?_; intro w4 hk4 hb4; have R4 := Lib.hid (rowS_blk hk4 (by simp)); have K4 := Lib.hid (K3.out.below hb4 K3.out.lt); have B4 := Lib.hid (B3.out.trans (hb4.mono B3.out.size)); clear hk4 hb4))
  refine (C.parts _ [r] w4 R4.out (by simp)).mono ?_
  rintro e w5 ⟨v5, rfl, hr5, hb5⟩
  have K5 := Lib.hid (K4.out.below hb5 K4.out.lt)
  have B5 := Lib.hid (B4.out.trans (hb5.mono B4.out.size))
  obtain ⟨A, cap, rfl, _, _, _, _⟩ := hr5
  have ep : ((parts [r]).length : Int) = 2 := by have := HP.out; omega
  have HL5 := HP.out
  rw [HL5]
  clear hb5 HL5 ep
  go_wp2_with fail
  refine sx_startB (B := w5.heap.size) (w0 := w5) (by kernel_rfl) (Below.refl _ _) (fun wd hwd hX => ?_)
  have SZ := Lib.hid hX.size
  clear hwd
  refine sx_take (i := 0) (oi := ⟨some 7, _, _, _, _, _⟩) (v := .agg (wds r).toArray) rfl (by kernel_rfl) (by kernel_rfl) (by kernel_rfl) (fun _ _ _ h => h) rfl hX (ld_blk 24 _ rfl w1.heap.size rfl 24 _ _ K5.out K5.out.lt Tryd.underlying24 rfl (size_set r)) ?_; simp only [Act.put, List.setIfInBounds_toArray, List.set_cons_zero, List.set_cons_succ]
  refine sx_actB (i := 1) (o := ⟨some 8, _, _, _, _, _⟩) rfl (by kernel_rfl) rfl hX (fun K hK => ?_)
  go_wp2_with fail
  refine (C.has r 98 wd (by omega)).mono ?_
  rintro e w6 ⟨rfl, hb⟩
  rw [H98.out]
  refine hK _ _ (hb.mono SZ.out) ?_
  clear hK K
  replace hX := hX.trans (hb.mono SZ.out)
  replace SZ := Lib.hid (Nat.le_trans SZ.out hb.size)
  clear hb
  refine sx_take (i := 2) (oi := ⟨some 9, _, _, _, _, _⟩) (v := ?_) rfl (by kernel_rfl) (by kernel_rfl) (by kernel_rfl) (fun _ _ _ h => h) rfl hX ?_ ?_; rotate_left; (intro W hW; go_simp; try with_reducible rfl); simp only [Act.put, List.setIfInBounds_toArray, List.set_cons_zero, List.set_cons_succ]
  refine sx_take (i := 3) (oi := ⟨some 10, _, _, _, _, _⟩) (v := .agg (wds r).toArray) rfl (by kernel_rfl) (by kernel_rfl) (by kernel_rfl) (fun _ _ _ h => h) rfl hX (ld_blk 24 _ rfl w1.heap.size rfl 24 _ _ K5.out K5.out.lt Tryd.underlying24 rfl (size_set r)) ?_; simp only [Act.put, List.setIfInBounds_toArray, List.set_cons_zero, List.set_cons_succ]
  refine sx_actB (i := 4) (o := ⟨some 11, _, _, _, _, _⟩) rfl (by kernel_rfl) rfl hX (fun K hK => ?_)
  go_wp2_with fail
  refine (C.has r 100 w6 (by omega)).mono ?_
  rintro e w7 ⟨rfl, hb⟩
  rw [H100.out]
  refine hK _ _ (hb.mono SZ.out) ?_
  clear hK K
  replace hX := hX.trans (hb.mono SZ.out)
  replace SZ := Lib.hid (Nat.le_trans SZ.out hb.size)
  clear hb
  refine sx_take (i := 5) (oi := ⟨some 12, _, _, _, _, _⟩) (v := ?_) rfl (by kernel_rfl) (by kernel_rfl) (by kernel_rfl) (fun _ _ _ h => h) rfl hX ?_ ?_; rotate_left; (intro W hW; go_simp; try with_reducible rfl); simp only [Act.put, List.setIfInBounds_toArray, List.set_cons_zero, List.set_cons_succ]
  refine sx_take (i := 6) (oi := ⟨some 13, _, _, _, _, _⟩) (v := ?_) rfl (by kernel_rfl) (by kernel_rfl) (by kernel_rfl) (fun _ _ _ h => h) rfl hX ?_ ?_; rotate_left; (intro W hW; go_simp; try with_reducible rfl); simp only [Act.put, List.setIfInBounds_toArray, List.set_cons_zero, List.set_cons_succ]
  refine sx_take (i := 7) (oi := ⟨some 14, _, _, _, _, _⟩) (v := ?_) rfl (by kernel_rfl) (by kernel_rfl) (by kernel_rfl) (fun _ _ _ h => h) rfl hX ?_ ?_; rotate_left; (intro W hW; go_simp; try with_reducible rfl); simp only [Act.put, List.setIfInBounds_toArray, List.set_cons_zero, List.set_cons_succ]
  refine sx_take (i := 8) (oi := ⟨some 15, _, _, _, _, _⟩) (v := .agg (wds r).toArray) rfl (by kernel_rfl) (by kernel_rfl) (by kernel_rfl) (fun _ _ _ h => h) rfl hX (ld_blk 24 _ rfl w1.heap.size rfl 24 _ _ K5.out K5.out.lt Tryd.underlying24 rfl (size_set r)) ?_; simp only [Act.put, List.setIfInBounds_toArray, List.set_cons_zero, List.set_cons_succ]
  refine sx_actB (i := 9) (o := ⟨some 16, _, _, _, _, _⟩) rfl (by kernel_rfl) rfl hX (fun K hK => ?_)
  go_wp2_with fail
  refine (C.len r w7).mono ?_
  rintro e w8 ⟨rfl, hb⟩
  rw [HLN.out]
  refine hK _ _ (hb.mono SZ.out) ?_
  clear hK K
  replace hX := hX.trans (hb.mono SZ.out)
  replace SZ := Lib.hid (Nat.le_trans SZ.out hb.size)
  clear hb
  refine sx_take (i := 10) (oi := ⟨some 17, _, _, _, _, _⟩) (v := ?_) rfl (by kernel_rfl) (by kernel_rfl) (by kernel_rfl) (fun _ _ _ h => h) rfl hX ?_ ?_; rotate_left; (intro W hW; go_simp; try with_reducible rfl); simp only [Act.put, List.setIfInBounds_toArray, List.set_cons_zero, List.set_cons_succ]
  refine sx_take (i := 11) (oi := ⟨some 18, _, _, _, _, _⟩) (v := ?_) rfl (by kernel_rfl) (by kernel_rfl) (by kernel_rfl) (fun _ _ _ h => h) rfl hX ?_ ?_; rotate_left; (intro W hW; go_simp; try with_reducible rfl); simp only [Act.put, List.setIfInBounds_toArray, List.set_cons_zero, List.set_cons_succ]
  refine sx_take (i := 12) (oi := ⟨some 19, _, _, _, _, _⟩) (v := ?_) rfl (by kernel_rfl) (by kernel_rfl) (by kernel_rfl) (fun _ _ _ h => h) rfl hX ?_ ?_; rotate_left; (intro W hW; go_simp; try with_reducible rfl); simp only [Act.put, List.setIfInBounds_toArray, List.set_cons_zero, List.set_cons_succ]
  refine sx_take (i := 13) (oi := ⟨some 20, _, _, _, _, _⟩) (v := .agg (wds r).toArray) rfl (by kernel_rfl) (by kernel_rfl) (by kernel_rfl) (fun _ _ _ h => h) rfl hX (ld_blk 24 _ rfl w1.heap.size rfl 24 _ _ K5.out K5.out.lt Tryd.underlying24 rfl (size_set r)) ?_; simp only [Act.put, List.setIfInBounds_toArray, List.set_cons_zero, List.set_cons_succ]
  refine sx_actB (i := 14) (o := ⟨some 21, _, _, _, _, _⟩) rfl (by kernel_rfl) rfl hX (fun K hK => ?_)
  go_wp2_with fail
  refine (C.list r w8 (HT.out.belowG (B5.out.trans (hX.mono B5.out.size)) HT.out.lt)).mono ?_
  rintro e w9 ⟨v9, rfl, hr9, hb⟩
  obtain ⟨A9, cap9, rfl, _, _, _, _⟩ := hr9
  rw [bvs_length, HLN.out]
  refine hK _ _ (hb.mono SZ.out) ?_
  clear hK K
  replace hX := hX.trans (hb.mono SZ.out)
  replace SZ := Lib.hid (Nat.le_trans SZ.out hb.size)
  clear hb
  refine sx_take (i := 15) (oi := ⟨some 22, _, _, _, _, _⟩) (v := ?_) rfl (by kernel_rfl) (by kernel_rfl) (by kernel_rfl) (fun _ _ _ h => h) rfl hX ?_ ?_; rotate_left; (intro W hW; go_simp; try with_reducible rfl); simp only [Act.put, List.setIfInBounds_toArray, List.set_cons_zero, List.set_cons_succ]
  refine sx_take (i := 16) (oi := ⟨some 23, _, _, _, _, _⟩) (v := ?_) rfl (by kernel_rfl) (by kernel_rfl) (by kernel_rfl) (fun _ _ _ h => h) rfl hX ?_ ?_; rotate_left; (intro W hW; go_simp; try with_reducible rfl); simp only [Act.put, List.setIfInBounds_toArray, List.set_cons_zero, List.set_cons_succ]
  refine sx_take (i := 17) (oi := ⟨some 24, _, _, _, _, _⟩) (v := ?_) rfl (by kernel_rfl) (by kernel_rfl) (by kernel_rfl) (fun _ _ _ h => h) rfl hX ?_ ?_; rotate_left; (intro W hW; go_simp; try with_reducible rfl); simp only [Act.put, List.setIfInBounds_toArray, List.set_cons_zero, List.set_cons_succ]
  refine sx_take (i := 18) (oi := ⟨some 25, _, _, _, _, _⟩) (v := ?_) rfl (by kernel_rfl) (by kernel_rfl) (by kernel_rfl) (fun _ _ _ h => h) rfl hX ?_ ?_; rotate_left; (intro W hW; go_simp; try with_reducible rfl); simp only [Act.put, List.setIfInBounds_toArray, List.set_cons_zero, List.set_cons_succ]
  refine sx_take (i := 19) (oi := ⟨some 26, _, _, _, _, _⟩) (v := ?_) rfl (by kernel_rfl) (by kernel_rfl) (by kernel_rfl) (fun _ _ _ h => h) rfl hX ?_ ?_; rotate_left; (intro W hW; go_simp; try with_reducible rfl); simp only [Act.put, List.setIfInBounds_toArray, List.set_cons_zero, List.set_cons_succ]
  refine sx_take (i := 20) (oi := ⟨some 27, _, _, _, _, _⟩) (v := ?_) rfl (by kernel_rfl) (by kernel_rfl) (by kernel_rfl) (fun _ _ _ h => h) rfl hX ?_ ?_; rotate_left; (intro W hW; go_simp; try with_reducible rfl); simp only [Act.put, List.setIfInBounds_toArray, List.set_cons_zero, List.set_cons_succ]
  refine sx_take (i := 21) (oi := ⟨some 28, _, _, _, _, _⟩) (v := ?_) rfl (by kernel_rfl) (by kernel_rfl) (by kernel_rfl) (fun _ _ _ h => h) rfl hX ?_ ?_; rotate_left; (intro W hW; go_simp; try with_reducible rfl); simp only [Act.put, List.setIfInBounds_toArray, List.set_cons_zero, List.set_cons_succ]
  refine sx_take (i := 22) (oi := ⟨some 29, _, _, _, _, _⟩) (v := ?_) rfl (by kernel_rfl) (by kernel_rfl) (by kernel_rfl) (fun _ _ _ h => h) rfl hX ?_ ?_; rotate_left; (intro W hW; go_simp; try with_reducible rfl); simp only [Act.put, List.setIfInBounds_toArray, List.set_cons_zero, List.set_cons_succ]
  refine sx_take (i := 23) (oi := ⟨some 30, _, _, _, _, _⟩) (v := ?_) rfl (by kernel_rfl) (by kernel_rfl) (by kernel_rfl) (fun _ _ _ h => h) rfl hX ?_ ?_; rotate_left; (intro W hW; go_simp; try with_reducible rfl); simp only [Act.put, List.setIfInBounds_toArray, List.set_cons_zero, List.set_cons_succ]
  refine sx_take (i := 24) (oi := ⟨some 31, _, _, _, _, _⟩) (v := .agg (wds r).toArray) rfl (by kernel_rfl) (by kernel_rfl) (by kernel_rfl) (fun _ _ _ h => h) rfl hX (ld_blk 24 _ rfl w1.heap.size rfl 24 _ _ K5.out K5.out.lt Tryd.underlying24 rfl (size_set r)) ?_; simp only [Act.put, List.setIfInBounds_toArray, List.set_cons_zero, List.set_cons_succ]
  refine sx_take (i := 25) (oi := ⟨some 32, _, _, _, _, _⟩) (v := ?_) rfl (by kernel_rfl) (by kernel_rfl) (by kernel_rfl) (fun _ _ _ h => h) rfl hX ?_ ?_; rotate_left; (intro W hW; go_simp; try with_reducible rfl); simp only [Act.put, List.setIfInBounds_toArray, List.set_cons_zero, List.set_cons_succ]
  refine sx_actB (i := 26) (o := ⟨some 33, _, _, _, _, _⟩) rfl (by kernel_rfl) rfl hX (fun K hK => ?_)
  go_wp2_with fail
  refine (C.less r (fun _ => false) w9).mono ?_
  rintro e w10 ⟨rfl, hb⟩
  rw [← HZ.out, HLS.out]
  refine hK _ _ (hb.mono SZ.out) ?_
  clear hK K
  replace hX := hX.trans (hb.mono SZ.out)
  replace SZ := Lib.hid (Nat.le_trans SZ.out hb.size)
  clear hb
  refine sx_take (i := 27) (oi := ⟨some 34, _, _, _, _, _⟩) (v := ?_) rfl (by kernel_rfl) (by kernel_rfl) (by kernel_rfl) (fun _ _ _ h => h) rfl hX ?_ ?_; rotate_left; (intro W hW; go_simp; try with_reducible rfl); simp only [Act.put, List.setIfInBounds_toArray, List.set_cons_zero, List.set_cons_succ]
  refine sx_take (i := 28) (oi := ⟨some 35, _, _, _, _, _⟩) (v := ?_) rfl (by kernel_rfl) (by kernel_rfl) (by kernel_rfl) (fun _ _ _ h => h) rfl hX ?_ ?_; rotate_left; (intro W hW; go_simp; try with_reducible rfl); simp only [Act.put, List.setIfInBounds_toArray, List.set_cons_zero, List.set_cons_succ]
  refine sx_take (i := 32) (oi := ⟨some 39, _, _, _, _, _⟩) (v := .agg (wds r).toArray) rfl (by kernel_rfl) (by kernel_rfl) (by kernel_rfl) (fun _ _ _ h => h) rfl hX (ld_blk 24 _ rfl w1.heap.size rfl 24 _ _ K5.out K5.out.lt Tryd.underlying24 rfl (size_set r)) ?_; simp only [Act.put, List.setIfInBounds_toArray, List.set_cons_zero, List.set_cons_succ]
  refine sx_actB (i := 29) (o := ⟨some 36, _, _, _, _, _⟩) rfl (by kernel_rfl) rfl hX (fun K hK => ?_)
  go_wp2_with fail
  refine hK _ _ ((Below.refl _ _).alloc SZ.out _) ?_
  clear hK K
  have H0 := Lib.hid hX
  replace hX := hX.alloc SZ.out (.cells #[.int .u8 97, .int .u8 98, .int .u8 99] 5)
  refine sx_actB (i := 30) (o := ⟨some 37, _, _, _, _, _⟩) rfl (by kernel_rfl) rfl hX (fun K hK => ?_)
  have kc := fun (w : World) (C : Array Value) (n c : Nat) => Lib.run_convert_bytes_const (P := Tryd.prog) w 25 5 C n c Tryd.underlying25 Tryd.underlying5
  go_wp2_with fail
  refine hK _ _ (below_marked SZ.out _ _) ?_
  clear hK K kc
  replace hX := H0.out.alloc SZ.out (.cells #[.int .u8 97, .int .u8 98, .int .u8 99] 5 (3, 4))
  have R11 := Lib.hid (row_marked w10 5 (bvs [97, 98, 99]) (3, 4) (by decide))
  have SA := Lib.hid (show w5.heap.size ≤ (w10.alloc (.cells #[.int .u8 97, .int .u8 98, .int .u8 99] 5 (3, 4))).heap.size by have := SZ.out; simp; omega)
  refine sx_actB (i := 31) (o := ⟨some 38, _, _, _, _, _⟩) rfl (by kernel_rfl) rfl hX (fun K hK => ?_)
  go_wp2_with fail
  refine (C.of _ [97, 98, 99] _ R11.out (by simp)).mono ?_
  rintro e w12 ⟨rfl, hb⟩
  refine hK _ _ (hb.mono SA.out) ?_
  clear hK K
  replace hX := hX.trans (hb.mono SA.out)
  have BZ := Lib.hid (B5.out.trans (hX.mono B5.out.size))
  clear hb
  refine sx_take (i := 33) (oi := ⟨some 40, _, _, _, _, _⟩) (v := .bool true) rfl (by kernel_rfl) (by kernel_rfl) (by kernel_rfl) (fun _ _ _ h => h) rfl hX (eq_is HOF.out 24 22 (.tmp 38) (.tmp 39) 24 rfl guard_set Tryd.underlying24 Tryd.underlying22 size_u64 rfl rfl) ?_; simp only [Act.put, List.setIfInBounds_toArray, List.set_cons_zero, List.set_cons_succ]
  refine sx_take (i := 34) (oi := ⟨some 41, _, _, _, _, _⟩) (v := ?_) rfl (by kernel_rfl) (by kernel_rfl) (by kernel_rfl) (fun _ _ _ h => h) rfl hX ?_ ?_; rotate_left; (intro W hW; go_simp; try with_reducible rfl); simp only [Act.put, List.setIfInBounds_toArray, List.set_cons_zero, List.set_cons_succ]
  refine sx_take (i := 35) (oi := ⟨some 0, _, _, _, _, _⟩) (v := ?_) rfl (by kernel_rfl) (by kernel_rfl) (by kernel_rfl) (fun _ _ _ h => h) rfl hX ?_ ?_; rotate_left; (intro W hW; go_simp; try with_reducible rfl); simp only [Act.put, List.setIfInBounds_toArray, List.set_cons_zero, List.set_cons_succ]
  refine wpAnyH_done (by kernel_rfl) ?_ _
  go_wp2_with fail
  go_ret
  exact ⟨rfl, BZ.out⟩
end Go.Proofs.YtaobeconjdeenaaDoor
