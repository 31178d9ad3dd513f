/-
  The walk of the statement SetLaws: the Go text returns true and turns nothing that was there, on the contracts of package byteset. Conditions: the numbers fit their kinds.
-/
import Derived.Test.YtaobeconjdeenaaDoorSetL
import Derived.Test.YtaobeconjdeenaaDoorSetF
namespace Go.Proofs.YtaobeconjdeenaaDoor
open Go.RowKit
set_option linter.unusedSimpArgs false
set_option linter.unusedVariables false

set_option maxHeartbeats 8000000 in
set_option maxRecDepth 100000 in
theorem laws_walk (C : BySet) (p q r : Nat → Bool) (x : Nat) (w : World) (hx : x < 256) (hT : Tb w) :
    Calls Tryd.prog 5 #[.agg (wds p).toArray, .agg (wds q).toArray, .agg (wds r).toArray, .int .u8 (x : Int)] w fun e w' => e = .returned (.bool true) ∧ Below w.heap.size w w' := by
  have HT := Lib.hid hT
  clear hT
  obtain ⟨np, hnp⟩ : ∃ f : Nat → Bool, (fun b => !p b) = f := ⟨_, rfl⟩
  obtain ⟨nq, hnq⟩ : ∃ f : Nat → Bool, (fun b => !q b) = f := ⟨_, rfl⟩
  obtain ⟨nnp, hnnp⟩ : ∃ f : Nat → Bool, (fun b => !np b) = f := ⟨_, rfl⟩
  obtain ⟨o, ho⟩ : ∃ f : Nat → Bool, (fun b => p b || q b) = f := ⟨_, rfl⟩
  obtain ⟨no, hno⟩ : ∃ f : Nat → Bool, (fun b => !o b) = f := ⟨_, rfl⟩
  obtain ⟨nn, hnn⟩ : ∃ f : Nat → Bool, (fun b => np b && nq b) = f := ⟨_, rfl⟩
  obtain ⟨an, han⟩ : ∃ f : Nat → Bool, (fun b => p b && q b) = f := ⟨_, rfl⟩
  obtain ⟨m, hm⟩ : ∃ m : List UInt8, memJ p 256 = m := ⟨_, rfl⟩
  obtain ⟨r7, hr7⟩ : ∃ f : Nat → Bool, (fun b => decide (UInt8.ofNat b ∈ m)) = f := ⟨_, rfl⟩
  have hml : m.length ≤ 1048576 := by rw [← hm]; have := memJ_len p 256; omega
  have HE7 := Lib.hid (show eqS r7 p = true by rw [← hr7, ← hm]; exact (eqS_iff _ _).2 fun b hb => memJ_mem p b hb)
  have HE1 := Lib.hid (show eqS nnp p = true by rw [← hnnp, ← hnp]; exact (eqS_iff _ _).2 fun b hb => Bool.not_not _)
  have HE2 := Lib.hid (show eqS no nn = true by rw [← hno, ← hnn, ← ho, ← hnp, ← hnq]; exact (eqS_iff _ _).2 fun b hb => Bool.not_or _ _)
  have hsum := memJ_sum p q 256
  rw [ho, han] at hsum
  have hb1 := memJ_len o 256
  obtain ⟨n1, hn1⟩ : ∃ n, (memJ o 256).length = n := ⟨_, rfl⟩
  rw [hn1] at hsum hb1
  have HN1 := Lib.hid hn1
  clear hn1
  have hb2 := memJ_len an 256
  obtain ⟨n2, hn2⟩ : ∃ n, (memJ an 256).length = n := ⟨_, rfl⟩
  rw [hn2] at hsum hb2
  have HN2 := Lib.hid hn2
  clear hn2
  have hb3 := memJ_len p 256
  obtain ⟨n3, hn3⟩ : ∃ n, (memJ p 256).length = n := ⟨_, rfl⟩
  rw [hn3] at hsum hb3
  have HN3 := Lib.hid hn3
  clear hn3
  have hb4 := memJ_len q 256
  obtain ⟨n4, hn4⟩ : ∃ n, (memJ q 256).length = n := ⟨_, rfl⟩
  rw [hn4] at hsum hb4
  have HN4 := Lib.hid hn4
  clear hn4
  have HS := Lib.hid (show (n1 : Int) + (n2 : Int) = (n3 : Int) + (n4 : Int) by omega)
  clear hsum
  have HM := Lib.hid hm
  have HR7 := Lib.hid hr7
  obtain ⟨y2, hy2⟩ : ∃ y : Bool, q x = y := ⟨_, rfl⟩
  have HQX := Lib.hid hy2
  have HNP := Lib.hid hnp
  have HNQ := Lib.hid hnq
  have HNNP := Lib.hid hnnp
  have HO := Lib.hid ho
  have HNO := Lib.hid hno
  have HNN := Lib.hid hnn
  have HAN := Lib.hid han
  cases hpx : p x with
  | true =>
    have HPX := Lib.hid hpx
    have HOX := Lib.hid (show o x = true by rw [← ho]; simp [hpx, hy2])
    have HANX := Lib.hid (show an x = y2 by rw [← han]; simp [hpx, hy2])
    have HNPX := Lib.hid (show np x = false by rw [← hnp]; simp [hpx])
    clear hpx hy2 hm hr7 hnp hnq hnnp ho hno hnn han
    go_enter Tryd.func5, Tryd.ntmps5
    go_wp2_with (first
      | ((with_reducible refine atDst 4 ?_); refine wpList_box rfl 24 _ rfl (wds p) rfl (Below.refl w.heap.size w) (Nat.le_refl _) ?_; intro w1 hk hb hs _; have Kw1 := Lib.hid hk; have Bw1 := Lib.hid hb; clear hk hb hs)
      | ((with_reducible refine atDst 5 ?_); refine wpList_box rfl 24 _ rfl (wds q) rfl (Below.refl w1.heap.size w1) (Nat.le_refl _) ?_; intro w2 hk hb hs _; have Kw2 := Lib.hid hk; have Bw2 := Lib.hid hb; clear hk hb hs)
      | ((with_reducible refine atDst 6 ?_); refine wpList_box rfl 24 _ rfl (wds r) rfl (Below.refl w2.heap.size w2) (Nat.le_refl _) ?_; intro w3 hk hb hs _; have Kw3 := Lib.hid hk; have Bw3 := Lib.hid hb; clear hk hb hs))
    have KA := Lib.hid ((Kw1.out.below Bw2.out Kw1.out.lt).below (Bw3.out.mono Bw2.out.size) (Nat.lt_of_lt_of_le Kw1.out.lt (Nat.le_refl _)))
    have KB := Lib.hid (Kw2.out.below Bw3.out Kw2.out.lt)
    have KC := Lib.hid Kw3.out
    have BX := Lib.hid (Bw1.out.trans ((Bw2.out.mono Bw1.out.size).trans (Bw3.out.mono (Nat.le_trans Bw1.out.size Bw2.out.size))))
    clear Kw1 Kw2 Kw3 Bw1 Bw2 Bw3
    refine (begun_any C w3 (HT.out.belowG BX.out HT.out.lt)).mono ?_
    rintro e w4 ⟨rfl, hX⟩
    skip
    replace KA := Lib.hid (KA.out.below hX KA.out.lt)
    replace KB := Lib.hid (KB.out.below hX KB.out.lt)
    replace KC := Lib.hid (KC.out.below hX KC.out.lt)
    replace BX := Lib.hid (BX.out.trans (hX.mono BX.out.size))
    clear hX
    go_wp2_with fail
    refine sx_startB (B := w4.heap.size) (w0 := w4) (by kernel_rfl) (Below.refl _ _) (fun w5 hwd hX => ?_)
    have SZ := Lib.hid hX.size
    clear hwd
    refine sx_take (i := 0) (oi := ⟨some 16, _, _, _, _, _⟩) (v := .agg (wds p).toArray) rfl (by kernel_rfl) (by kernel_rfl) (by kernel_rfl) (fun _ _ _ h => h) rfl hX (ld_blk 24 _ rfl w.heap.size rfl 24 _ _ KA.out KA.out.lt Tryd.underlying24 rfl (size_set p)) ?_; simp only [Act.put, List.setIfInBounds_toArray, List.set_cons_zero, List.set_cons_succ]
    refine sx_take (i := 1) (oi := ⟨some 17, _, _, _, _, _⟩) (v := ?_) rfl (by kernel_rfl) (by kernel_rfl) (by kernel_rfl) (fun _ _ _ h => h) rfl hX ?_ ?_; rotate_left; (intro W hW; go_simp; try with_reducible rfl); simp only [Act.put, List.setIfInBounds_toArray, List.set_cons_zero, List.set_cons_succ]
    refine sx_take (i := 3) (oi := ⟨some 19, _, _, _, _, _⟩) (v := .agg (wds q).toArray) rfl (by kernel_rfl) (by kernel_rfl) (by kernel_rfl) (fun _ _ _ h => h) rfl hX (ld_blk 24 _ rfl w1.heap.size rfl 24 _ _ KB.out KB.out.lt Tryd.underlying24 rfl (size_set q)) ?_; simp only [Act.put, List.setIfInBounds_toArray, List.set_cons_zero, List.set_cons_succ]
    refine sx_take (i := 4) (oi := ⟨some 20, _, _, _, _, _⟩) (v := ?_) rfl (by kernel_rfl) (by kernel_rfl) (by kernel_rfl) (fun _ _ _ h => h) rfl hX ?_ ?_; rotate_left; (intro W hW; go_simp; try with_reducible rfl); simp only [Act.put, List.setIfInBounds_toArray, List.set_cons_zero, List.set_cons_succ]
    refine sx_actB (i := 2) (o := ⟨some 18, _, _, _, _, _⟩) rfl (by kernel_rfl) rfl hX (fun K hK => ?_)
    go_wp2_with fail
    refine (C.has p x w5 hx).mono ?_
    rintro e w6 ⟨rfl, hb⟩
    rw [HPX.out]
    refine hK _ _ (hb.mono SZ.out) ?_
    clear hK K
    replace hX := hX.trans (hb.mono SZ.out)
    replace SZ := Lib.hid (Nat.le_trans SZ.out hb.size)
    clear hb
    refine sx_actB (i := 5) (o := ⟨some 21, _, _, _, _, _⟩) rfl (by kernel_rfl) rfl hX (fun K hK => ?_)
    go_wp2_with fail
    refine (C.has q x w6 hx).mono ?_
    rintro e w7 ⟨rfl, hb⟩
    rw [HQX.out]
    refine hK _ _ (hb.mono SZ.out) ?_
    clear hK K
    replace hX := hX.trans (hb.mono SZ.out)
    replace SZ := Lib.hid (Nat.le_trans SZ.out hb.size)
    clear hb
    refine sx_take (i := 6) (oi := ⟨some 9, _, _, _, _, _⟩) (v := ?_) rfl (by kernel_rfl) (by kernel_rfl) (by kernel_rfl) (fun _ _ _ h => h) rfl hX ?_ ?_; rotate_left; (intro W hW; go_simp; try with_reducible rfl); simp only [Act.put, List.setIfInBounds_toArray, List.set_cons_zero, List.set_cons_succ]
    refine sx_take (i := 7) (oi := ⟨some 10, _, _, _, _, _⟩) (v := ?_) rfl (by kernel_rfl) (by kernel_rfl) (by kernel_rfl) (fun _ _ _ h => h) rfl hX ?_ ?_; rotate_left; (intro W hW; go_simp; try with_reducible rfl); simp only [Act.put, List.setIfInBounds_toArray, List.set_cons_zero, List.set_cons_succ]
    refine wpAnyH_done (by kernel_rfl) ?_ _
    replace KA := Lib.hid (KA.out.below hX KA.out.lt)
    replace KB := Lib.hid (KB.out.below hX KB.out.lt)
    replace KC := Lib.hid (KC.out.below hX KC.out.lt)
    replace BX := Lib.hid (BX.out.trans (hX.mono BX.out.size))
    clear hX SZ
    go_wp2_with (first
      | ((with_reducible refine atDst 22 ?_); refine wpList_ldArr rfl 24 _ rfl w.heap.size rfl 24 _ _ KA.out Tryd.underlying24 rfl (size_set p) ?_)
      | ((with_reducible refine atDst 23 ?_); refine wpList_ldArr rfl 24 _ rfl w1.heap.size rfl 24 _ _ KB.out Tryd.underlying24 rfl (size_set q) ?_))
    refine (C.or_ p q w7).mono ?_
    rintro e w8 ⟨rfl, hX⟩
    rw [HO.out]
    replace KA := Lib.hid (KA.out.below hX KA.out.lt)
    replace KB := Lib.hid (KB.out.below hX KB.out.lt)
    replace KC := Lib.hid (KC.out.below hX KC.out.lt)
    replace BX := Lib.hid (BX.out.trans (hX.mono BX.out.size))
    clear hX
    go_wp2_with fail
    refine (C.has o x w8 hx).mono ?_
    rintro e w9 ⟨rfl, hX⟩
    rw [HOX.out]
    replace KA := Lib.hid (KA.out.below hX KA.out.lt)
    replace KB := Lib.hid (KB.out.below hX KB.out.lt)
    replace KC := Lib.hid (KC.out.below hX KC.out.lt)
    replace BX := Lib.hid (BX.out.trans (hX.mono BX.out.size))
    clear hX
    go_wp2_with (first
      | ((with_reducible refine atDst 33 ?_); refine wpList_ldArr rfl 24 _ rfl w.heap.size rfl 24 _ _ KA.out Tryd.underlying24 rfl (size_set p) ?_)
      | ((with_reducible refine atDst 34 ?_); refine wpList_ldArr rfl 24 _ rfl w1.heap.size rfl 24 _ _ KB.out Tryd.underlying24 rfl (size_set q) ?_))
    refine (C.and_ p q w9).mono ?_
    rintro e w10 ⟨rfl, hX⟩
    rw [HAN.out]
    replace KA := Lib.hid (KA.out.below hX KA.out.lt)
    replace KB := Lib.hid (KB.out.below hX KB.out.lt)
    replace KC := Lib.hid (KC.out.below hX KC.out.lt)
    replace BX := Lib.hid (BX.out.trans (hX.mono BX.out.size))
    clear hX
    go_wp2_with fail
    refine (C.has an x w10 hx).mono ?_
    rintro e w11 ⟨rfl, hX⟩
    rw [HANX.out]
    replace KA := Lib.hid (KA.out.below hX KA.out.lt)
    replace KB := Lib.hid (KB.out.below hX KB.out.lt)
    replace KC := Lib.hid (KC.out.below hX KC.out.lt)
    replace BX := Lib.hid (BX.out.trans (hX.mono BX.out.size))
    clear hX
    go_wp2_with (first
      | ((with_reducible refine atDst 45 ?_); refine wpList_ldArr rfl 24 _ rfl w.heap.size rfl 24 _ _ KA.out Tryd.underlying24 rfl (size_set p) ?_))
    refine (C.not_ p w11).mono ?_
    rintro e w12 ⟨rfl, hX⟩
    rw [HNP.out]
    replace KA := Lib.hid (KA.out.below hX KA.out.lt)
    replace KB := Lib.hid (KB.out.below hX KB.out.lt)
    replace KC := Lib.hid (KC.out.below hX KC.out.lt)
    replace BX := Lib.hid (BX.out.trans (hX.mono BX.out.size))
    clear hX
    go_wp2_with fail
    refine (C.has np x w12 hx).mono ?_
    rintro e w13 ⟨rfl, hX⟩
    rw [HNPX.out]
    replace KA := Lib.hid (KA.out.below hX KA.out.lt)
    replace KB := Lib.hid (KB.out.below hX KB.out.lt)
    replace KC := Lib.hid (KC.out.below hX KC.out.lt)
    replace BX := Lib.hid (BX.out.trans (hX.mono BX.out.size))
    clear hX
    go_wp2_with fail
    refine sx_startB (B := w13.heap.size) (w0 := w13) (by kernel_rfl) (Below.refl _ _) (fun w14 hwd hX => ?_)
    have SZ := Lib.hid hX.size
    clear hwd
    refine sx_take (i := 0) (oi := ⟨some 53, _, _, _, _, _⟩) (v := .agg (wds p).toArray) rfl (by kernel_rfl) (by kernel_rfl) (by kernel_rfl) (fun _ _ _ h => h) rfl hX (ld_blk 24 _ rfl w.heap.size rfl 24 _ _ KA.out KA.out.lt Tryd.underlying24 rfl (size_set p)) ?_; simp only [Act.put, List.setIfInBounds_toArray, List.set_cons_zero, List.set_cons_succ]
    refine sx_take (i := 3) (oi := ⟨some 56, _, _, _, _, _⟩) (v := .agg (wds p).toArray) rfl (by kernel_rfl) (by kernel_rfl) (by kernel_rfl) (fun _ _ _ h => h) rfl hX (ld_blk 24 _ rfl w.heap.size rfl 24 _ _ KA.out KA.out.lt Tryd.underlying24 rfl (size_set p)) ?_; simp only [Act.put, List.setIfInBounds_toArray, List.set_cons_zero, List.set_cons_succ]
    refine sx_actB (i := 1) (o := ⟨some 54, _, _, _, _, _⟩) rfl (by kernel_rfl) rfl hX (fun K hK => ?_)
    go_wp2_with fail
    refine (C.not_ p w14).mono ?_
    rintro e w15 ⟨rfl, hb⟩
    rw [HNP.out]
    refine hK _ _ (hb.mono SZ.out) ?_
    clear hK K
    replace hX := hX.trans (hb.mono SZ.out)
    replace SZ := Lib.hid (Nat.le_trans SZ.out hb.size)
    clear hb
    refine sx_actB (i := 2) (o := ⟨some 55, _, _, _, _, _⟩) rfl (by kernel_rfl) rfl hX (fun K hK => ?_)
    go_wp2_with fail
    refine (C.not_ np w15).mono ?_
    rintro e w16 ⟨rfl, hb⟩
    rw [HNNP.out]
    refine hK _ _ (hb.mono SZ.out) ?_
    clear hK K
    replace hX := hX.trans (hb.mono SZ.out)
    replace SZ := Lib.hid (Nat.le_trans SZ.out hb.size)
    clear hb
    refine sx_take (i := 4) (oi := ⟨some 57, _, _, _, _, _⟩) (v := .bool true) rfl (by kernel_rfl) (by kernel_rfl) (by kernel_rfl) (fun _ _ _ h => h) rfl hX (eq_is HE1.out 24 22 (.tmp 55) (.tmp 56) 24 rfl guard_set Tryd.underlying24 Tryd.underlying22 size_u64 rfl rfl) ?_; simp only [Act.put, List.setIfInBounds_toArray, List.set_cons_zero, List.set_cons_succ]
    refine sx_take (i := 5) (oi := ⟨some 58, _, _, _, _, _⟩) (v := ?_) rfl (by kernel_rfl) (by kernel_rfl) (by kernel_rfl) (fun _ _ _ h => h) rfl hX ?_ ?_; rotate_left; (intro W hW; go_simp; try with_reducible rfl); simp only [Act.put, List.setIfInBounds_toArray, List.set_cons_zero, List.set_cons_succ]
    refine sx_take (i := 6) (oi := ⟨some 59, _, _, _, _, _⟩) (v := .agg (wds p).toArray) rfl (by kernel_rfl) (by kernel_rfl) (by kernel_rfl) (fun _ _ _ h => h) rfl hX (ld_blk 24 _ rfl w.heap.size rfl 24 _ _ KA.out KA.out.lt Tryd.underlying24 rfl (size_set p)) ?_; simp only [Act.put, List.setIfInBounds_toArray, List.set_cons_zero, List.set_cons_succ]
    refine sx_take (i := 7) (oi := ⟨some 60, _, _, _, _, _⟩) (v := .agg (wds q).toArray) rfl (by kernel_rfl) (by kernel_rfl) (by kernel_rfl) (fun _ _ _ h => h) rfl hX (ld_blk 24 _ rfl w1.heap.size rfl 24 _ _ KB.out KB.out.lt Tryd.underlying24 rfl (size_set q)) ?_; simp only [Act.put, List.setIfInBounds_toArray, List.set_cons_zero, List.set_cons_succ]
    refine sx_take (i := 10) (oi := ⟨some 63, _, _, _, _, _⟩) (v := .agg (wds p).toArray) rfl (by kernel_rfl) (by kernel_rfl) (by kernel_rfl) (fun _ _ _ h => h) rfl hX (ld_blk 24 _ rfl w.heap.size rfl 24 _ _ KA.out KA.out.lt Tryd.underlying24 rfl (size_set p)) ?_; simp only [Act.put, List.setIfInBounds_toArray, List.set_cons_zero, List.set_cons_succ]
    refine sx_take (i := 12) (oi := ⟨some 65, _, _, _, _, _⟩) (v := .agg (wds q).toArray) rfl (by kernel_rfl) (by kernel_rfl) (by kernel_rfl) (fun _ _ _ h => h) rfl hX (ld_blk 24 _ rfl w1.heap.size rfl 24 _ _ KB.out KB.out.lt Tryd.underlying24 rfl (size_set q)) ?_; simp only [Act.put, List.setIfInBounds_toArray, List.set_cons_zero, List.set_cons_succ]
    refine sx_actB (i := 8) (o := ⟨some 61, _, _, _, _, _⟩) rfl (by kernel_rfl) rfl hX (fun K hK => ?_)
    go_wp2_with fail
    refine (C.or_ p q w16).mono ?_
    rintro e w17 ⟨rfl, hb⟩
    rw [HO.out]
    refine hK _ _ (hb.mono SZ.out) ?_
    clear hK K
    replace hX := hX.trans (hb.mono SZ.out)
    replace SZ := Lib.hid (Nat.le_trans SZ.out hb.size)
    clear hb
    refine sx_actB (i := 9) (o := ⟨some 62, _, _, _, _, _⟩) rfl (by kernel_rfl) rfl hX (fun K hK => ?_)
    go_wp2_with fail
    refine (C.not_ o w17).mono ?_
    rintro e w18 ⟨rfl, hb⟩
    rw [HNO.out]
    refine hK _ _ (hb.mono SZ.out) ?_
    clear hK K
    replace hX := hX.trans (hb.mono SZ.out)
    replace SZ := Lib.hid (Nat.le_trans SZ.out hb.size)
    clear hb
    refine sx_actB (i := 11) (o := ⟨some 64, _, _, _, _, _⟩) rfl (by kernel_rfl) rfl hX (fun K hK => ?_)
    go_wp2_with fail
    refine (C.not_ p w18).mono ?_
    rintro e w19 ⟨rfl, hb⟩
    rw [HNP.out]
    refine hK _ _ (hb.mono SZ.out) ?_
    clear hK K
    replace hX := hX.trans (hb.mono SZ.out)
    replace SZ := Lib.hid (Nat.le_trans SZ.out hb.size)
    clear hb
    refine sx_actB (i := 13) (o := ⟨some 66, _, _, _, _, _⟩) rfl (by kernel_rfl) rfl hX (fun K hK => ?_)
    go_wp2_with fail
    refine (C.not_ q w19).mono ?_
    rintro e w20 ⟨rfl, hb⟩
    rw [HNQ.out]
    refine hK _ _ (hb.mono SZ.out) ?_
    clear hK K
    replace hX := hX.trans (hb.mono SZ.out)
    replace SZ := Lib.hid (Nat.le_trans SZ.out hb.size)
    clear hb
    refine sx_actB (i := 14) (o := ⟨some 67, _, _, _, _, _⟩) rfl (by kernel_rfl) rfl hX (fun K hK => ?_)
    go_wp2_with fail
    refine (C.and_ np nq w20).mono ?_
    rintro e w21 ⟨rfl, hb⟩
    rw [HNN.out]
    refine hK _ _ (hb.mono SZ.out) ?_
    clear hK K
    replace hX := hX.trans (hb.mono SZ.out)
    replace SZ := Lib.hid (Nat.le_trans SZ.out hb.size)
    clear hb
    refine sx_take (i := 15) (oi := ⟨some 68, _, _, _, _, _⟩) (v := .bool true) rfl (by kernel_rfl) (by kernel_rfl) (by kernel_rfl) (fun _ _ _ h => h) rfl hX (eq_is HE2.out 24 22 (.tmp 62) (.tmp 67) 24 rfl guard_set Tryd.underlying24 Tryd.underlying22 size_u64 rfl rfl) ?_; simp only [Act.put, List.setIfInBounds_toArray, List.set_cons_zero, List.set_cons_succ]
    refine sx_take (i := 16) (oi := ⟨some 69, _, _, _, _, _⟩) (v := ?_) rfl (by kernel_rfl) (by kernel_rfl) (by kernel_rfl) (fun _ _ _ h => h) rfl hX ?_ ?_; rotate_left; (intro W hW; go_simp; try with_reducible rfl); simp only [Act.put, List.setIfInBounds_toArray, List.set_cons_zero, List.set_cons_succ]
    refine sx_take (i := 17) (oi := ⟨some 70, _, _, _, _, _⟩) (v := ?_) rfl (by kernel_rfl) (by kernel_rfl) (by kernel_rfl) (fun _ _ _ h => h) rfl hX ?_ ?_; rotate_left; (intro W hW; go_simp; try with_reducible rfl); simp only [Act.put, List.setIfInBounds_toArray, List.set_cons_zero, List.set_cons_succ]
    refine sx_take (i := 18) (oi := ⟨some 71, _, _, _, _, _⟩) (v := .agg (wds p).toArray) rfl (by kernel_rfl) (by kernel_rfl) (by kernel_rfl) (fun _ _ _ h => h) rfl hX (ld_blk 24 _ rfl w.heap.size rfl 24 _ _ KA.out KA.out.lt Tryd.underlying24 rfl (size_set p)) ?_; simp only [Act.put, List.setIfInBounds_toArray, List.set_cons_zero, List.set_cons_succ]
    refine sx_take (i := 19) (oi := ⟨some 72, _, _, _, _, _⟩) (v := .agg (wds q).toArray) rfl (by kernel_rfl) (by kernel_rfl) (by kernel_rfl) (fun _ _ _ h => h) rfl hX (ld_blk 24 _ rfl w1.heap.size rfl 24 _ _ KB.out KB.out.lt Tryd.underlying24 rfl (size_set q)) ?_; simp only [Act.put, List.setIfInBounds_toArray, List.set_cons_zero, List.set_cons_succ]
    refine sx_take (i := 22) (oi := ⟨some 75, _, _, _, _, _⟩) (v := .agg (wds p).toArray) rfl (by kernel_rfl) (by kernel_rfl) (by kernel_rfl) (fun _ _ _ h => h) rfl hX (ld_blk 24 _ rfl w.heap.size rfl 24 _ _ KA.out KA.out.lt Tryd.underlying24 rfl (size_set p)) ?_; simp only [Act.put, List.setIfInBounds_toArray, List.set_cons_zero, List.set_cons_succ]
    refine sx_take (i := 23) (oi := ⟨some 76, _, _, _, _, _⟩) (v := .agg (wds q).toArray) rfl (by kernel_rfl) (by kernel_rfl) (by kernel_rfl) (fun _ _ _ h => h) rfl hX (ld_blk 24 _ rfl w1.heap.size rfl 24 _ _ KB.out KB.out.lt Tryd.underlying24 rfl (size_set q)) ?_; simp only [Act.put, List.setIfInBounds_toArray, List.set_cons_zero, List.set_cons_succ]
    refine sx_take (i := 27) (oi := ⟨some 80, _, _, _, _, _⟩) (v := .agg (wds p).toArray) rfl (by kernel_rfl) (by kernel_rfl) (by kernel_rfl) (fun _ _ _ h => h) rfl hX (ld_blk 24 _ rfl w.heap.size rfl 24 _ _ KA.out KA.out.lt Tryd.underlying24 rfl (size_set p)) ?_; simp only [Act.put, List.setIfInBounds_toArray, List.set_cons_zero, List.set_cons_succ]
    refine sx_take (i := 29) (oi := ⟨some 82, _, _, _, _, _⟩) (v := .agg (wds q).toArray) rfl (by kernel_rfl) (by kernel_rfl) (by kernel_rfl) (fun _ _ _ h => h) rfl hX (ld_blk 24 _ rfl w1.heap.size rfl 24 _ _ KB.out KB.out.lt Tryd.underlying24 rfl (size_set q)) ?_; simp only [Act.put, List.setIfInBounds_toArray, List.set_cons_zero, List.set_cons_succ]
    refine sx_actB (i := 20) (o := ⟨some 73, _, _, _, _, _⟩) rfl (by kernel_rfl) rfl hX (fun K hK => ?_)
    go_wp2_with fail
    refine (C.or_ p q w21).mono ?_
    rintro e w22 ⟨rfl, hb⟩
    rw [HO.out]
    refine hK _ _ (hb.mono SZ.out) ?_
    clear hK K
    replace hX := hX.trans (hb.mono SZ.out)
    replace SZ := Lib.hid (Nat.le_trans SZ.out hb.size)
    clear hb
    refine sx_actB (i := 21) (o := ⟨some 74, _, _, _, _, _⟩) rfl (by kernel_rfl) rfl hX (fun K hK => ?_)
    go_wp2_with fail
    refine (C.len o w22).mono ?_
    rintro e w23 ⟨rfl, hb⟩
    rw [HN1.out]
    refine hK _ _ (hb.mono SZ.out) ?_
    clear hK K
    replace hX := hX.trans (hb.mono SZ.out)
    replace SZ := Lib.hid (Nat.le_trans SZ.out hb.size)
    clear hb
    refine sx_actB (i := 24) (o := ⟨some 77, _, _, _, _, _⟩) rfl (by kernel_rfl) rfl hX (fun K hK => ?_)
    go_wp2_with fail
    refine (C.and_ p q w23).mono ?_
    rintro e w24 ⟨rfl, hb⟩
    rw [HAN.out]
    refine hK _ _ (hb.mono SZ.out) ?_
    clear hK K
    replace hX := hX.trans (hb.mono SZ.out)
    replace SZ := Lib.hid (Nat.le_trans SZ.out hb.size)
    clear hb
    refine sx_actB (i := 25) (o := ⟨some 78, _, _, _, _, _⟩) rfl (by kernel_rfl) rfl hX (fun K hK => ?_)
    go_wp2_with fail
    refine (C.len an w24).mono ?_
    rintro e w25 ⟨rfl, hb⟩
    rw [HN2.out]
    refine hK _ _ (hb.mono SZ.out) ?_
    clear hK K
    replace hX := hX.trans (hb.mono SZ.out)
    replace SZ := Lib.hid (Nat.le_trans SZ.out hb.size)
    clear hb
    refine sx_take (i := 26) (oi := ⟨some 79, _, _, _, _, _⟩) (v := ?_) rfl (by kernel_rfl) (by kernel_rfl) (by kernel_rfl) (fun _ _ _ h => h) rfl hX ?_ ?_; rotate_left; (intro W hW; go_simp; try with_reducible rfl); simp only [Act.put, List.setIfInBounds_toArray, List.set_cons_zero, List.set_cons_succ]
    refine sx_actB (i := 28) (o := ⟨some 81, _, _, _, _, _⟩) rfl (by kernel_rfl) rfl hX (fun K hK => ?_)
    go_wp2_with fail
    refine (C.len p w25).mono ?_
    rintro e w26 ⟨rfl, hb⟩
    rw [HN3.out]
    refine hK _ _ (hb.mono SZ.out) ?_
    clear hK K
    replace hX := hX.trans (hb.mono SZ.out)
    replace SZ := Lib.hid (Nat.le_trans SZ.out hb.size)
    clear hb
    refine sx_actB (i := 30) (o := ⟨some 83, _, _, _, _, _⟩) rfl (by kernel_rfl) rfl hX (fun K hK => ?_)
    go_wp2_with fail
    refine (C.len q w26).mono ?_
    rintro e w27 ⟨rfl, hb⟩
    rw [HN4.out]
    refine hK _ _ (hb.mono SZ.out) ?_
    clear hK K
    replace hX := hX.trans (hb.mono SZ.out)
    replace SZ := Lib.hid (Nat.le_trans SZ.out hb.size)
    clear hb
    refine sx_take (i := 31) (oi := ⟨some 84, _, _, _, _, _⟩) (v := ?_) rfl (by kernel_rfl) (by kernel_rfl) (by kernel_rfl) (fun _ _ _ h => h) rfl hX ?_ ?_; rotate_left; (intro W hW; go_simp; try with_reducible rfl); simp only [Act.put, List.setIfInBounds_toArray, List.set_cons_zero, List.set_cons_succ]
    refine sx_take (i := 32) (oi := ⟨some 85, _, _, _, _, _⟩) (v := .bool true) rfl (by kernel_rfl) (by kernel_rfl) (by kernel_rfl) (fun _ _ _ h => h) rfl hX (fun W hW => by go_simp; first | done | simp [HS.out]) ?_; simp only [Act.put, List.setIfInBounds_toArray, List.set_cons_zero, List.set_cons_succ]
    refine sx_take (i := 33) (oi := ⟨some 86, _, _, _, _, _⟩) (v := ?_) rfl (by kernel_rfl) (by kernel_rfl) (by kernel_rfl) (fun _ _ _ h => h) rfl hX ?_ ?_; rotate_left; (intro W hW; go_simp; try with_reducible rfl); simp only [Act.put, List.setIfInBounds_toArray, List.set_cons_zero, List.set_cons_succ]
    refine sx_take (i := 34) (oi := ⟨some 12, _, _, _, _, _⟩) (v := ?_) rfl (by kernel_rfl) (by kernel_rfl) (by kernel_rfl) (fun _ _ _ h => h) rfl hX ?_ ?_; rotate_left; (intro W hW; go_simp; try with_reducible rfl); simp only [Act.put, List.setIfInBounds_toArray, List.set_cons_zero, List.set_cons_succ]
    refine wpAnyH_done (by kernel_rfl) ?_ _
    replace KA := Lib.hid (KA.out.below hX KA.out.lt)
    replace KB := Lib.hid (KB.out.below hX KB.out.lt)
    replace KC := Lib.hid (KC.out.below hX KC.out.lt)
    replace BX := Lib.hid (BX.out.trans (hX.mono BX.out.size))
    clear hX SZ
    go_wp2_with fail
    refine sx_startB (B := w27.heap.size) (w0 := w27) (by kernel_rfl) (Below.refl _ _) (fun w28 hwd hX => ?_)
    have SZ := Lib.hid hX.size
    clear hwd
    cases hL : lessS p q with
    | true =>
      have HL := Lib.hid hL
      have HE := Lib.hid (lessS_ne hL)
      cases hL2 : lessS q r with
      | true =>
        have HL2 := Lib.hid hL2
        have HL3 := Lib.hid (lessS_trans hL hL2)
        clear hL hL2
        refine sx_take (i := 0) (oi := ⟨some 87, _, _, _, _, _⟩) (v := .agg (wds p).toArray) rfl (by kernel_rfl) (by kernel_rfl) (by kernel_rfl) (fun _ _ _ h => h) rfl hX (ld_blk 24 _ rfl w.heap.size rfl 24 _ _ KA.out KA.out.lt Tryd.underlying24 rfl (size_set p)) ?_; simp only [Act.put, List.setIfInBounds_toArray, List.set_cons_zero, List.set_cons_succ]
        refine sx_take (i := 1) (oi := ⟨some 88, _, _, _, _, _⟩) (v := .agg (wds q).toArray) rfl (by kernel_rfl) (by kernel_rfl) (by kernel_rfl) (fun _ _ _ h => h) rfl hX (ld_blk 24 _ rfl w1.heap.size rfl 24 _ _ KB.out KB.out.lt Tryd.underlying24 rfl (size_set q)) ?_; simp only [Act.put, List.setIfInBounds_toArray, List.set_cons_zero, List.set_cons_succ]
        refine sx_take (i := 2) (oi := ⟨some 89, _, _, _, _, _⟩) (v := .bool false) rfl (by kernel_rfl) (by kernel_rfl) (by kernel_rfl) (fun _ _ _ h => h) rfl hX (eq_is HE.out 24 22 (.tmp 87) (.tmp 88) 24 rfl guard_set Tryd.underlying24 Tryd.underlying22 size_u64 rfl rfl) ?_; simp only [Act.put, List.setIfInBounds_toArray, List.set_cons_zero, List.set_cons_succ]
        refine sx_take (i := 3) (oi := ⟨some 90, _, _, _, _, _⟩) (v := .agg (wds p).toArray) rfl (by kernel_rfl) (by kernel_rfl) (by kernel_rfl) (fun _ _ _ h => h) rfl hX (ld_blk 24 _ rfl w.heap.size rfl 24 _ _ KA.out KA.out.lt Tryd.underlying24 rfl (size_set p)) ?_; simp only [Act.put, List.setIfInBounds_toArray, List.set_cons_zero, List.set_cons_succ]
        refine sx_take (i := 4) (oi := ⟨some 91, _, _, _, _, _⟩) (v := .agg (wds q).toArray) rfl (by kernel_rfl) (by kernel_rfl) (by kernel_rfl) (fun _ _ _ h => h) rfl hX (ld_blk 24 _ rfl w1.heap.size rfl 24 _ _ KB.out KB.out.lt Tryd.underlying24 rfl (size_set q)) ?_; simp only [Act.put, List.setIfInBounds_toArray, List.set_cons_zero, List.set_cons_succ]
        refine sx_actB (i := 5) (o := ⟨some 92, _, _, _, _, _⟩) rfl (by kernel_rfl) rfl hX (fun K hK => ?_)
        go_wp2_with fail
        refine (C.less p q w28).mono ?_
        rintro e w29 ⟨rfl, hb⟩
        rw [HL.out]
        refine hK _ _ (hb.mono SZ.out) ?_
        clear hK K
        replace hX := hX.trans (hb.mono SZ.out)
        replace SZ := Lib.hid (Nat.le_trans SZ.out hb.size)
        clear hb
        refine sx_take (i := 6) (oi := ⟨some 93, _, _, _, _, _⟩) (v := ?_) rfl (by kernel_rfl) (by kernel_rfl) (by kernel_rfl) (fun _ _ _ h => h) rfl hX ?_ ?_; rotate_left; (intro W hW; go_simp; try with_reducible rfl); simp only [Act.put, List.setIfInBounds_toArray, List.set_cons_zero, List.set_cons_succ]
        refine sx_take (i := 7) (oi := ⟨some 94, _, _, _, _, _⟩) (v := ?_) rfl (by kernel_rfl) (by kernel_rfl) (by kernel_rfl) (fun _ _ _ h => h) rfl hX ?_ ?_; rotate_left; (intro W hW; go_simp; try with_reducible rfl); simp only [Act.put, List.setIfInBounds_toArray, List.set_cons_zero, List.set_cons_succ]
        refine sx_skip (i := 8) (oi := ⟨some 95, _, _, _, _, _⟩) rfl (by kernel_rfl) (by kernel_rfl) (by kernel_rfl) (fun _ _ _ h => h) rfl hX ?_; simp only [Act.put, List.setIfInBounds_toArray, List.set_cons_zero, List.set_cons_succ]
        refine sx_skip (i := 9) (oi := ⟨some 96, _, _, _, _, _⟩) rfl (by kernel_rfl) (by kernel_rfl) (by kernel_rfl) (fun _ _ _ h => h) rfl hX ?_; simp only [Act.put, List.setIfInBounds_toArray, List.set_cons_zero, List.set_cons_succ]
        refine sx_skip (i := 10) (oi := ⟨some 97, _, _, _, _, _⟩) rfl (by kernel_rfl) (by kernel_rfl) (by kernel_rfl) (fun _ _ _ h => h) rfl hX ?_; simp only [Act.put, List.setIfInBounds_toArray, List.set_cons_zero, List.set_cons_succ]
        refine sx_skip (i := 11) (oi := ⟨some 98, _, _, _, _, _⟩) rfl (by kernel_rfl) (by kernel_rfl) (by kernel_rfl) (fun _ _ _ h => h) rfl hX ?_; simp only [Act.put, List.setIfInBounds_toArray, List.set_cons_zero, List.set_cons_succ]
        refine sx_take (i := 12) (oi := ⟨some 99, _, _, _, _, _⟩) (v := ?_) rfl (by kernel_rfl) (by kernel_rfl) (by kernel_rfl) (fun _ _ _ h => h) rfl hX ?_ ?_; rotate_left; (intro W hW; go_simp; try with_reducible rfl); simp only [Act.put, List.setIfInBounds_toArray, List.set_cons_zero, List.set_cons_succ]
        refine sx_take (i := 13) (oi := ⟨some 100, _, _, _, _, _⟩) (v := ?_) rfl (by kernel_rfl) (by kernel_rfl) (by kernel_rfl) (fun _ _ _ h => h) rfl hX ?_ ?_; rotate_left; (intro W hW; go_simp; try with_reducible rfl); simp only [Act.put, List.setIfInBounds_toArray, List.set_cons_zero, List.set_cons_succ]
        refine sx_take (i := 14) (oi := ⟨some 101, _, _, _, _, _⟩) (v := ?_) rfl (by kernel_rfl) (by kernel_rfl) (by kernel_rfl) (fun _ _ _ h => h) rfl hX ?_ ?_; rotate_left; (intro W hW; go_simp; try with_reducible rfl); simp only [Act.put, List.setIfInBounds_toArray, List.set_cons_zero, List.set_cons_succ]
        refine sx_take (i := 15) (oi := ⟨some 102, _, _, _, _, _⟩) (v := .agg (wds p).toArray) rfl (by kernel_rfl) (by kernel_rfl) (by kernel_rfl) (fun _ _ _ h => h) rfl hX (ld_blk 24 _ rfl w.heap.size rfl 24 _ _ KA.out KA.out.lt Tryd.underlying24 rfl (size_set p)) ?_; simp only [Act.put, List.setIfInBounds_toArray, List.set_cons_zero, List.set_cons_succ]
        refine sx_take (i := 16) (oi := ⟨some 103, _, _, _, _, _⟩) (v := .agg (wds q).toArray) rfl (by kernel_rfl) (by kernel_rfl) (by kernel_rfl) (fun _ _ _ h => h) rfl hX (ld_blk 24 _ rfl w1.heap.size rfl 24 _ _ KB.out KB.out.lt Tryd.underlying24 rfl (size_set q)) ?_; simp only [Act.put, List.setIfInBounds_toArray, List.set_cons_zero, List.set_cons_succ]
        refine sx_actB (i := 17) (o := ⟨some 104, _, _, _, _, _⟩) rfl (by kernel_rfl) rfl hX (fun K hK => ?_)
        go_wp2_with fail
        refine (C.less p q w29).mono ?_
        rintro e w30 ⟨rfl, hb⟩
        rw [HL.out]
        refine hK _ _ (hb.mono SZ.out) ?_
        clear hK K
        replace hX := hX.trans (hb.mono SZ.out)
        replace SZ := Lib.hid (Nat.le_trans SZ.out hb.size)
        clear hb
        refine sx_take (i := 18) (oi := ⟨some 105, _, _, _, _, _⟩) (v := ?_) rfl (by kernel_rfl) (by kernel_rfl) (by kernel_rfl) (fun _ _ _ h => h) rfl hX ?_ ?_; rotate_left; (intro W hW; go_simp; try with_reducible rfl); simp only [Act.put, List.setIfInBounds_toArray, List.set_cons_zero, List.set_cons_succ]
        refine sx_take (i := 19) (oi := ⟨some 106, _, _, _, _, _⟩) (v := .agg (wds q).toArray) rfl (by kernel_rfl) (by kernel_rfl) (by kernel_rfl) (fun _ _ _ h => h) rfl hX (ld_blk 24 _ rfl w1.heap.size rfl 24 _ _ KB.out KB.out.lt Tryd.underlying24 rfl (size_set q)) ?_; simp only [Act.put, List.setIfInBounds_toArray, List.set_cons_zero, List.set_cons_succ]
        refine sx_take (i := 20) (oi := ⟨some 107, _, _, _, _, _⟩) (v := .agg (wds r).toArray) rfl (by kernel_rfl) (by kernel_rfl) (by kernel_rfl) (fun _ _ _ h => h) rfl hX (ld_blk 24 _ rfl w2.heap.size rfl 24 _ _ KC.out KC.out.lt Tryd.underlying24 rfl (size_set r)) ?_; simp only [Act.put, List.setIfInBounds_toArray, List.set_cons_zero, List.set_cons_succ]
        refine sx_actB (i := 21) (o := ⟨some 108, _, _, _, _, _⟩) rfl (by kernel_rfl) rfl hX (fun K hK => ?_)
        go_wp2_with fail
        refine (C.less q r w30).mono ?_
        rintro e w31 ⟨rfl, hb⟩
        rw [HL2.out]
        refine hK _ _ (hb.mono SZ.out) ?_
        clear hK K
        replace hX := hX.trans (hb.mono SZ.out)
        replace SZ := Lib.hid (Nat.le_trans SZ.out hb.size)
        clear hb
        refine sx_take (i := 22) (oi := ⟨some 109, _, _, _, _, _⟩) (v := ?_) rfl (by kernel_rfl) (by kernel_rfl) (by kernel_rfl) (fun _ _ _ h => h) rfl hX ?_ ?_; rotate_left; (intro W hW; go_simp; try with_reducible rfl); simp only [Act.put, List.setIfInBounds_toArray, List.set_cons_zero, List.set_cons_succ]
        refine sx_take (i := 23) (oi := ⟨some 110, _, _, _, _, _⟩) (v := ?_) rfl (by kernel_rfl) (by kernel_rfl) (by kernel_rfl) (fun _ _ _ h => h) rfl hX ?_ ?_; rotate_left; (intro W hW; go_simp; try with_reducible rfl); simp only [Act.put, List.setIfInBounds_toArray, List.set_cons_zero, List.set_cons_succ]
        refine sx_take (i := 24) (oi := ⟨some 111, _, _, _, _, _⟩) (v := .agg (wds p).toArray) rfl (by kernel_rfl) (by kernel_rfl) (by kernel_rfl) (fun _ _ _ h => h) rfl hX (ld_blk 24 _ rfl w.heap.size rfl 24 _ _ KA.out KA.out.lt Tryd.underlying24 rfl (size_set p)) ?_; simp only [Act.put, List.setIfInBounds_toArray, List.set_cons_zero, List.set_cons_succ]
        refine sx_take (i := 25) (oi := ⟨some 112, _, _, _, _, _⟩) (v := .agg (wds r).toArray) rfl (by kernel_rfl) (by kernel_rfl) (by kernel_rfl) (fun _ _ _ h => h) rfl hX (ld_blk 24 _ rfl w2.heap.size rfl 24 _ _ KC.out KC.out.lt Tryd.underlying24 rfl (size_set r)) ?_; simp only [Act.put, List.setIfInBounds_toArray, List.set_cons_zero, List.set_cons_succ]
        refine sx_actB (i := 26) (o := ⟨some 113, _, _, _, _, _⟩) rfl (by kernel_rfl) rfl hX (fun K hK => ?_)
        go_wp2_with fail
        refine (C.less p r w31).mono ?_
        rintro e w32 ⟨rfl, hb⟩
        rw [HL3.out]
        refine hK _ _ (hb.mono SZ.out) ?_
        clear hK K
        replace hX := hX.trans (hb.mono SZ.out)
        replace SZ := Lib.hid (Nat.le_trans SZ.out hb.size)
        clear hb
        refine sx_take (i := 27) (oi := ⟨some 114, _, _, _, _, _⟩) (v := ?_) rfl (by kernel_rfl) (by kernel_rfl) (by kernel_rfl) (fun _ _ _ h => h) rfl hX ?_ ?_; rotate_left; (intro W hW; go_simp; try with_reducible rfl); simp only [Act.put, List.setIfInBounds_toArray, List.set_cons_zero, List.set_cons_succ]
        refine sx_take (i := 28) (oi := ⟨some 115, _, _, _, _, _⟩) (v := ?_) rfl (by kernel_rfl) (by kernel_rfl) (by kernel_rfl) (fun _ _ _ h => h) rfl hX ?_ ?_; rotate_left; (intro W hW; go_simp; try with_reducible rfl); simp only [Act.put, List.setIfInBounds_toArray, List.set_cons_zero, List.set_cons_succ]
        refine sx_take (i := 29) (oi := ⟨some 116, _, _, _, _, _⟩) (v := ?_) rfl (by kernel_rfl) (by kernel_rfl) (by kernel_rfl) (fun _ _ _ h => h) rfl hX ?_ ?_; rotate_left; (intro W hW; go_simp; try with_reducible rfl); simp only [Act.put, List.setIfInBounds_toArray, List.set_cons_zero, List.set_cons_succ]
        refine sx_take (i := 30) (oi := ⟨some 117, _, _, _, _, _⟩) (v := ?_) rfl (by kernel_rfl) (by kernel_rfl) (by kernel_rfl) (fun _ _ _ h => h) rfl hX ?_ ?_; rotate_left; (intro W hW; go_simp; try with_reducible rfl); simp only [Act.put, List.setIfInBounds_toArray, List.set_cons_zero, List.set_cons_succ]
        refine sx_take (i := 31) (oi := ⟨some 13, _, _, _, _, _⟩) (v := ?_) rfl (by kernel_rfl) (by kernel_rfl) (by kernel_rfl) (fun _ _ _ h => h) rfl hX ?_ ?_; rotate_left; (intro W hW; go_simp; try with_reducible rfl); simp only [Act.put, List.setIfInBounds_toArray, List.set_cons_zero, List.set_cons_succ]
        refine wpAnyH_done (by kernel_rfl) ?_ _
        replace KA := Lib.hid (KA.out.below hX KA.out.lt)
        replace KB := Lib.hid (KB.out.below hX KB.out.lt)
        replace KC := Lib.hid (KC.out.below hX KC.out.lt)
        replace BX := Lib.hid (BX.out.trans (hX.mono BX.out.size))
        clear hX SZ
        go_wp2_with fail
        refine sx_startB (B := w32.heap.size) (w0 := w32) (by kernel_rfl) (Below.refl _ _) (fun w40 hwd hX => ?_)
        have SZ := Lib.hid hX.size
        clear hwd
        refine sx_take (i := 0) (oi := ⟨some 118, _, _, _, _, _⟩) (v := ?_) rfl (by kernel_rfl) (by kernel_rfl) (by kernel_rfl) (fun _ _ _ h => h) rfl hX ?_ ?_; rotate_left; (intro W hW; go_simp; try with_reducible rfl); simp only [Act.put, List.setIfInBounds_toArray, List.set_cons_zero, List.set_cons_succ]
        refine sx_take (i := 1) (oi := ⟨some 119, _, _, _, _, _⟩) (v := ?_) rfl (by kernel_rfl) (by kernel_rfl) (by kernel_rfl) (fun _ _ _ h => h) rfl hX ?_ ?_; rotate_left; (intro W hW; go_simp; try with_reducible rfl); simp only [Act.put, List.setIfInBounds_toArray, List.set_cons_zero, List.set_cons_succ]
        refine sx_take (i := 2) (oi := ⟨some 120, _, _, _, _, _⟩) (v := ?_) rfl (by kernel_rfl) (by kernel_rfl) (by kernel_rfl) (fun _ _ _ h => h) rfl hX ?_ ?_; rotate_left; (intro W hW; go_simp; try with_reducible rfl); simp only [Act.put, List.setIfInBounds_toArray, List.set_cons_zero, List.set_cons_succ]
        refine sx_take (i := 3) (oi := ⟨some 121, _, _, _, _, _⟩) (v := ?_) rfl (by kernel_rfl) (by kernel_rfl) (by kernel_rfl) (fun _ _ _ h => h) rfl hX ?_ ?_; rotate_left; (intro W hW; go_simp; try with_reducible rfl); simp only [Act.put, List.setIfInBounds_toArray, List.set_cons_zero, List.set_cons_succ]
        refine sx_take (i := 4) (oi := ⟨some 122, _, _, _, _, _⟩) (v := ?_) rfl (by kernel_rfl) (by kernel_rfl) (by kernel_rfl) (fun _ _ _ h => h) rfl hX ?_ ?_; rotate_left; (intro W hW; go_simp; try with_reducible rfl); simp only [Act.put, List.setIfInBounds_toArray, List.set_cons_zero, List.set_cons_succ]
        refine sx_take (i := 5) (oi := ⟨some 123, _, _, _, _, _⟩) (v := ?_) rfl (by kernel_rfl) (by kernel_rfl) (by kernel_rfl) (fun _ _ _ h => h) rfl hX ?_ ?_; rotate_left; (intro W hW; go_simp; try with_reducible rfl); simp only [Act.put, List.setIfInBounds_toArray, List.set_cons_zero, List.set_cons_succ]
        refine sx_take (i := 6) (oi := ⟨some 124, _, _, _, _, _⟩) (v := ?_) rfl (by kernel_rfl) (by kernel_rfl) (by kernel_rfl) (fun _ _ _ h => h) rfl hX ?_ ?_; rotate_left; (intro W hW; go_simp; try with_reducible rfl); simp only [Act.put, List.setIfInBounds_toArray, List.set_cons_zero, List.set_cons_succ]
        refine sx_take (i := 7) (oi := ⟨some 125, _, _, _, _, _⟩) (v := ?_) rfl (by kernel_rfl) (by kernel_rfl) (by kernel_rfl) (fun _ _ _ h => h) rfl hX ?_ ?_; rotate_left; (intro W hW; go_simp; try with_reducible rfl); simp only [Act.put, List.setIfInBounds_toArray, List.set_cons_zero, List.set_cons_succ]
        refine sx_take (i := 8) (oi := ⟨some 126, _, _, _, _, _⟩) (v := .agg (wds p).toArray) rfl (by kernel_rfl) (by kernel_rfl) (by kernel_rfl) (fun _ _ _ h => h) rfl hX (ld_blk 24 _ rfl w.heap.size rfl 24 _ _ KA.out KA.out.lt Tryd.underlying24 rfl (size_set p)) ?_; simp only [Act.put, List.setIfInBounds_toArray, List.set_cons_zero, List.set_cons_succ]
        refine sx_take (i := 11) (oi := ⟨some 129, _, _, _, _, _⟩) (v := .agg (wds p).toArray) rfl (by kernel_rfl) (by kernel_rfl) (by kernel_rfl) (fun _ _ _ h => h) rfl hX (ld_blk 24 _ rfl w.heap.size rfl 24 _ _ KA.out KA.out.lt Tryd.underlying24 rfl (size_set p)) ?_; simp only [Act.put, List.setIfInBounds_toArray, List.set_cons_zero, List.set_cons_succ]
        refine sx_actB (i := 9) (o := ⟨some 127, _, _, _, _, _⟩) rfl (by kernel_rfl) rfl hX (fun K hK => ?_)
        go_wp2_with fail
        refine (C.list p w40 (HT.out.belowG (BX.out.trans (hX.mono BX.out.size)) HT.out.lt)).mono ?_
        rintro e w41 ⟨v7, rfl, hr7, hb⟩
        rw [HM.out] at hr7
        have R7 := Lib.hid hr7
        clear hr7
        refine hK _ _ (hb.mono SZ.out) ?_
        clear hK K
        replace hX := hX.trans (hb.mono SZ.out)
        replace SZ := Lib.hid (Nat.le_trans SZ.out hb.size)
        clear hb
        refine sx_actB (i := 10) (o := ⟨some 128, _, _, _, _, _⟩) rfl (by kernel_rfl) rfl hX (fun K hK => ?_)
        go_wp2_with fail
        refine (C.of _ m w41 R7.out hml).mono ?_
        rintro e w42 ⟨rfl, hb⟩
        rw [HR7.out]
        refine hK _ _ (hb.mono SZ.out) ?_
        clear hK K
        replace hX := hX.trans (hb.mono SZ.out)
        replace SZ := Lib.hid (Nat.le_trans SZ.out hb.size)
        clear hb
        refine sx_take (i := 12) (oi := ⟨some 130, _, _, _, _, _⟩) (v := .bool true) rfl (by kernel_rfl) (by kernel_rfl) (by kernel_rfl) (fun _ _ _ h => h) rfl hX (eq_is HE7.out 24 22 (.tmp 128) (.tmp 129) 24 rfl guard_set Tryd.underlying24 Tryd.underlying22 size_u64 rfl rfl) ?_; simp only [Act.put, List.setIfInBounds_toArray, List.set_cons_zero, List.set_cons_succ]
        refine sx_take (i := 13) (oi := ⟨some 131, _, _, _, _, _⟩) (v := ?_) rfl (by kernel_rfl) (by kernel_rfl) (by kernel_rfl) (fun _ _ _ h => h) rfl hX ?_ ?_; rotate_left; (intro W hW; go_simp; try with_reducible rfl); simp only [Act.put, List.setIfInBounds_toArray, List.set_cons_zero, List.set_cons_succ]
        refine sx_take (i := 14) (oi := ⟨some 8, _, _, _, _, _⟩) (v := ?_) rfl (by kernel_rfl) (by kernel_rfl) (by kernel_rfl) (fun _ _ _ h => h) rfl hX ?_ ?_; rotate_left; (intro W hW; go_simp; try with_reducible rfl); simp only [Act.put, List.setIfInBounds_toArray, List.set_cons_zero, List.set_cons_succ]
        refine wpAnyH_done (by kernel_rfl) ?_ _
        go_wp2_with fail
        go_ret
        exact ⟨rfl, BX.out.trans (hX.mono BX.out.size)⟩
      | false =>
        have HL2 := Lib.hid hL2
        clear hL hL2
        refine sx_take (i := 0) (oi := ⟨some 87, _, _, _, _, _⟩) (v := .agg (wds p).toArray) rfl (by kernel_rfl) (by kernel_rfl) (by kernel_rfl) (fun _ _ _ h => h) rfl hX (ld_blk 24 _ rfl w.heap.size rfl 24 _ _ KA.out KA.out.lt Tryd.underlying24 rfl (size_set p)) ?_; simp only [Act.put, List.setIfInBounds_toArray, List.set_cons_zero, List.set_cons_succ]
        refine sx_take (i := 1) (oi := ⟨some 88, _, _, _, _, _⟩) (v := .agg (wds q).toArray) rfl (by kernel_rfl) (by kernel_rfl) (by kernel_rfl) (fun _ _ _ h => h) rfl hX (ld_blk 24 _ rfl w1.heap.size rfl 24 _ _ KB.out KB.out.lt Tryd.underlying24 rfl (size_set q)) ?_; simp only [Act.put, List.setIfInBounds_toArray, List.set_cons_zero, List.set_cons_succ]
        refine sx_take (i := 2) (oi := ⟨some 89, _, _, _, _, _⟩) (v := .bool false) rfl (by kernel_rfl) (by kernel_rfl) (by kernel_rfl) (fun _ _ _ h => h) rfl hX (eq_is HE.out 24 22 (.tmp 87) (.tmp 88) 24 rfl guard_set Tryd.underlying24 Tryd.underlying22 size_u64 rfl rfl) ?_; simp only [Act.put, List.setIfInBounds_toArray, List.set_cons_zero, List.set_cons_succ]
        refine sx_take (i := 3) (oi := ⟨some 90, _, _, _, _, _⟩) (v := .agg (wds p).toArray) rfl (by kernel_rfl) (by kernel_rfl) (by kernel_rfl) (fun _ _ _ h => h) rfl hX (ld_blk 24 _ rfl w.heap.size rfl 24 _ _ KA.out KA.out.lt Tryd.underlying24 rfl (size_set p)) ?_; simp only [Act.put, List.setIfInBounds_toArray, List.set_cons_zero, List.set_cons_succ]
        refine sx_take (i := 4) (oi := ⟨some 91, _, _, _, _, _⟩) (v := .agg (wds q).toArray) rfl (by kernel_rfl) (by kernel_rfl) (by kernel_rfl) (fun _ _ _ h => h) rfl hX (ld_blk 24 _ rfl w1.heap.size rfl 24 _ _ KB.out KB.out.lt Tryd.underlying24 rfl (size_set q)) ?_; simp only [Act.put, List.setIfInBounds_toArray, List.set_cons_zero, List.set_cons_succ]
        refine sx_actB (i := 5) (o := ⟨some 92, _, _, _, _, _⟩) rfl (by kernel_rfl) rfl hX (fun K hK => ?_)
        go_wp2_with fail
        refine (C.less p q w28).mono ?_
        rintro e w29 ⟨rfl, hb⟩
        rw [HL.out]
        refine hK _ _ (hb.mono SZ.out) ?_
        clear hK K
        replace hX := hX.trans (hb.mono SZ.out)
        replace SZ := Lib.hid (Nat.le_trans SZ.out hb.size)
        clear hb
        refine sx_take (i := 6) (oi := ⟨some 93, _, _, _, _, _⟩) (v := ?_) rfl (by kernel_rfl) (by kernel_rfl) (by kernel_rfl) (fun _ _ _ h => h) rfl hX ?_ ?_; rotate_left; (intro W hW; go_simp; try with_reducible rfl); simp only [Act.put, List.setIfInBounds_toArray, List.set_cons_zero, List.set_cons_succ]
        refine sx_take (i := 7) (oi := ⟨some 94, _, _, _, _, _⟩) (v := ?_) rfl (by kernel_rfl) (by kernel_rfl) (by kernel_rfl) (fun _ _ _ h => h) rfl hX ?_ ?_; rotate_left; (intro W hW; go_simp; try with_reducible rfl); simp only [Act.put, List.setIfInBounds_toArray, List.set_cons_zero, List.set_cons_succ]
        refine sx_skip (i := 8) (oi := ⟨some 95, _, _, _, _, _⟩) rfl (by kernel_rfl) (by kernel_rfl) (by kernel_rfl) (fun _ _ _ h => h) rfl hX ?_; simp only [Act.put, List.setIfInBounds_toArray, List.set_cons_zero, List.set_cons_succ]
        refine sx_skip (i := 9) (oi := ⟨some 96, _, _, _, _, _⟩) rfl (by kernel_rfl) (by kernel_rfl) (by kernel_rfl) (fun _ _ _ h => h) rfl hX ?_; simp only [Act.put, List.setIfInBounds_toArray, List.set_cons_zero, List.set_cons_succ]
        refine sx_skip (i := 10) (oi := ⟨some 97, _, _, _, _, _⟩) rfl (by kernel_rfl) (by kernel_rfl) (by kernel_rfl) (fun _ _ _ h => h) rfl hX ?_; simp only [Act.put, List.setIfInBounds_toArray, List.set_cons_zero, List.set_cons_succ]
        refine sx_skip (i := 11) (oi := ⟨some 98, _, _, _, _, _⟩) rfl (by kernel_rfl) (by kernel_rfl) (by kernel_rfl) (fun _ _ _ h => h) rfl hX ?_; simp only [Act.put, List.setIfInBounds_toArray, List.set_cons_zero, List.set_cons_succ]
        refine sx_take (i := 12) (oi := ⟨some 99, _, _, _, _, _⟩) (v := ?_) rfl (by kernel_rfl) (by kernel_rfl) (by kernel_rfl) (fun _ _ _ h => h) rfl hX ?_ ?_; rotate_left; (intro W hW; go_simp; try with_reducible rfl); simp only [Act.put, List.setIfInBounds_toArray, List.set_cons_zero, List.set_cons_succ]
        refine sx_take (i := 13) (oi := ⟨some 100, _, _, _, _, _⟩) (v := ?_) rfl (by kernel_rfl) (by kernel_rfl) (by kernel_rfl) (fun _ _ _ h => h) rfl hX ?_ ?_; rotate_left; (intro W hW; go_simp; try with_reducible rfl); simp only [Act.put, List.setIfInBounds_toArray, List.set_cons_zero, List.set_cons_succ]
        refine sx_take (i := 14) (oi := ⟨some 101, _, _, _, _, _⟩) (v := ?_) rfl (by kernel_rfl) (by kernel_rfl) (by kernel_rfl) (fun _ _ _ h => h) rfl hX ?_ ?_; rotate_left; (intro W hW; go_simp; try with_reducible rfl); simp only [Act.put, List.setIfInBounds_toArray, List.set_cons_zero, List.set_cons_succ]
        refine sx_take (i := 15) (oi := ⟨some 102, _, _, _, _, _⟩) (v := .agg (wds p).toArray) rfl (by kernel_rfl) (by kernel_rfl) (by kernel_rfl) (fun _ _ _ h => h) rfl hX (ld_blk 24 _ rfl w.heap.size rfl 24 _ _ KA.out KA.out.lt Tryd.underlying24 rfl (size_set p)) ?_; simp only [Act.put, List.setIfInBounds_toArray, List.set_cons_zero, List.set_cons_succ]
        refine sx_take (i := 16) (oi := ⟨some 103, _, _, _, _, _⟩) (v := .agg (wds q).toArray) rfl (by kernel_rfl) (by kernel_rfl) (by kernel_rfl) (fun _ _ _ h => h) rfl hX (ld_blk 24 _ rfl w1.heap.size rfl 24 _ _ KB.out KB.out.lt Tryd.underlying24 rfl (size_set q)) ?_; simp only [Act.put, List.setIfInBounds_toArray, List.set_cons_zero, List.set_cons_succ]
        refine sx_actB (i := 17) (o := ⟨some 104, _, _, _, _, _⟩) rfl (by kernel_rfl) rfl hX (fun K hK => ?_)
        go_wp2_with fail
        refine (C.less p q w29).mono ?_
        rintro e w30 ⟨rfl, hb⟩
        rw [HL.out]
        refine hK _ _ (hb.mono SZ.out) ?_
        clear hK K
        replace hX := hX.trans (hb.mono SZ.out)
        replace SZ := Lib.hid (Nat.le_trans SZ.out hb.size)
        clear hb
        refine sx_take (i := 18) (oi := ⟨some 105, _, _, _, _, _⟩) (v := ?_) rfl (by kernel_rfl) (by kernel_rfl) (by kernel_rfl) (fun _ _ _ h => h) rfl hX ?_ ?_; rotate_left; (intro W hW; go_simp; try with_reducible rfl); simp only [Act.put, List.setIfInBounds_toArray, List.set_cons_zero, List.set_cons_succ]
        refine sx_take (i := 19) (oi := ⟨some 106, _, _, _, _, _⟩) (v := .agg (wds q).toArray) rfl (by kernel_rfl) (by kernel_rfl) (by kernel_rfl) (fun _ _ _ h => h) rfl hX (ld_blk 24 _ rfl w1.heap.size rfl 24 _ _ KB.out KB.out.lt Tryd.underlying24 rfl (size_set q)) ?_; simp only [Act.put, List.setIfInBounds_toArray, List.set_cons_zero, List.set_cons_succ]
        refine sx_take (i := 20) (oi := ⟨some 107, _, _, _, _, _⟩) (v := .agg (wds r).toArray) rfl (by kernel_rfl) (by kernel_rfl) (by kernel_rfl) (fun _ _ _ h => h) rfl hX (ld_blk 24 _ rfl w2.heap.size rfl 24 _ _ KC.out KC.out.lt Tryd.underlying24 rfl (size_set r)) ?_; simp only [Act.put, List.setIfInBounds_toArray, List.set_cons_zero, List.set_cons_succ]
        refine sx_actB (i := 21) (o := ⟨some 108, _, _, _, _, _⟩) rfl (by kernel_rfl) rfl hX (fun K hK => ?_)
        go_wp2_with fail
        refine (C.less q r w30).mono ?_
        rintro e w31 ⟨rfl, hb⟩
        rw [HL2.out]
        refine hK _ _ (hb.mono SZ.out) ?_
        clear hK K
        replace hX := hX.trans (hb.mono SZ.out)
        replace SZ := Lib.hid (Nat.le_trans SZ.out hb.size)
        clear hb
        refine sx_take (i := 22) (oi := ⟨some 109, _, _, _, _, _⟩) (v := ?_) rfl (by kernel_rfl) (by kernel_rfl) (by kernel_rfl) (fun _ _ _ h => h) rfl hX ?_ ?_; rotate_left; (intro W hW; go_simp; try with_reducible rfl); simp only [Act.put, List.setIfInBounds_toArray, List.set_cons_zero, List.set_cons_succ]
        refine sx_take (i := 23) (oi := ⟨some 110, _, _, _, _, _⟩) (v := ?_) rfl (by kernel_rfl) (by kernel_rfl) (by kernel_rfl) (fun _ _ _ h => h) rfl hX ?_ ?_; rotate_left; (intro W hW; go_simp; try with_reducible rfl); simp only [Act.put, List.setIfInBounds_toArray, List.set_cons_zero, List.set_cons_succ]
        refine sx_skip (i := 24) (oi := ⟨some 111, _, _, _, _, _⟩) rfl (by kernel_rfl) (by kernel_rfl) (by kernel_rfl) (fun _ _ _ h => h) rfl hX ?_; simp only [Act.put, List.setIfInBounds_toArray, List.set_cons_zero, List.set_cons_succ]
        refine sx_skip (i := 25) (oi := ⟨some 112, _, _, _, _, _⟩) rfl (by kernel_rfl) (by kernel_rfl) (by kernel_rfl) (fun _ _ _ h => h) rfl hX ?_; simp only [Act.put, List.setIfInBounds_toArray, List.set_cons_zero, List.set_cons_succ]
        refine sx_skip (i := 26) (oi := ⟨some 113, _, _, _, _, _⟩) rfl (by kernel_rfl) (by kernel_rfl) (by kernel_rfl) (fun _ _ _ h => h) rfl hX ?_; simp only [Act.put, List.setIfInBounds_toArray, List.set_cons_zero, List.set_cons_succ]
        refine sx_skip (i := 27) (oi := ⟨some 114, _, _, _, _, _⟩) rfl (by kernel_rfl) (by kernel_rfl) (by kernel_rfl) (fun _ _ _ h => h) rfl hX ?_; simp only [Act.put, List.setIfInBounds_toArray, List.set_cons_zero, List.set_cons_succ]
        refine sx_take (i := 28) (oi := ⟨some 115, _, _, _, _, _⟩) (v := ?_) rfl (by kernel_rfl) (by kernel_rfl) (by kernel_rfl) (fun _ _ _ h => h) rfl hX ?_ ?_; rotate_left; (intro W hW; go_simp; try with_reducible rfl); simp only [Act.put, List.setIfInBounds_toArray, List.set_cons_zero, List.set_cons_succ]
        refine sx_take (i := 29) (oi := ⟨some 116, _, _, _, _, _⟩) (v := ?_) rfl (by kernel_rfl) (by kernel_rfl) (by kernel_rfl) (fun _ _ _ h => h) rfl hX ?_ ?_; rotate_left; (intro W hW; go_simp; try with_reducible rfl); simp only [Act.put, List.setIfInBounds_toArray, List.set_cons_zero, List.set_cons_succ]
        refine sx_take (i := 30) (oi := ⟨some 117, _, _, _, _, _⟩) (v := ?_) rfl (by kernel_rfl) (by kernel_rfl) (by kernel_rfl) (fun _ _ _ h => h) rfl hX ?_ ?_; rotate_left; (intro W hW; go_simp; try with_reducible rfl); simp only [Act.put, List.setIfInBounds_toArray, List.set_cons_zero, List.set_cons_succ]
        refine sx_take (i := 31) (oi := ⟨some 13, _, _, _, _, _⟩) (v := ?_) rfl (by kernel_rfl) (by kernel_rfl) (by kernel_rfl) (fun _ _ _ h => h) rfl hX ?_ ?_; rotate_left; (intro W hW; go_simp; try with_reducible rfl); simp only [Act.put, List.setIfInBounds_toArray, List.set_cons_zero, List.set_cons_succ]
        refine wpAnyH_done (by kernel_rfl) ?_ _
        replace KA := Lib.hid (KA.out.below hX KA.out.lt)
        replace KB := Lib.hid (KB.out.below hX KB.out.lt)
        replace KC := Lib.hid (KC.out.below hX KC.out.lt)
        replace BX := Lib.hid (BX.out.trans (hX.mono BX.out.size))
        clear hX SZ
        go_wp2_with fail
        refine sx_startB (B := w31.heap.size) (w0 := w31) (by kernel_rfl) (Below.refl _ _) (fun w40 hwd hX => ?_)
        have SZ := Lib.hid hX.size
        clear hwd
        refine sx_take (i := 0) (oi := ⟨some 118, _, _, _, _, _⟩) (v := ?_) rfl (by kernel_rfl) (by kernel_rfl) (by kernel_rfl) (fun _ _ _ h => h) rfl hX ?_ ?_; rotate_left; (intro W hW; go_simp; try with_reducible rfl); simp only [Act.put, List.setIfInBounds_toArray, List.set_cons_zero, List.set_cons_succ]
        refine sx_take (i := 1) (oi := ⟨some 119, _, _, _, _, _⟩) (v := ?_) rfl (by kernel_rfl) (by kernel_rfl) (by kernel_rfl) (fun _ _ _ h => h) rfl hX ?_ ?_; rotate_left; (intro W hW; go_simp; try with_reducible rfl); simp only [Act.put, List.setIfInBounds_toArray, List.set_cons_zero, List.set_cons_succ]
        refine sx_take (i := 2) (oi := ⟨some 120, _, _, _, _, _⟩) (v := ?_) rfl (by kernel_rfl) (by kernel_rfl) (by kernel_rfl) (fun _ _ _ h => h) rfl hX ?_ ?_; rotate_left; (intro W hW; go_simp; try with_reducible rfl); simp only [Act.put, List.setIfInBounds_toArray, List.set_cons_zero, List.set_cons_succ]
        refine sx_take (i := 3) (oi := ⟨some 121, _, _, _, _, _⟩) (v := ?_) rfl (by kernel_rfl) (by kernel_rfl) (by kernel_rfl) (fun _ _ _ h => h) rfl hX ?_ ?_; rotate_left; (intro W hW; go_simp; try with_reducible rfl); simp only [Act.put, List.setIfInBounds_toArray, List.set_cons_zero, List.set_cons_succ]
        refine sx_take (i := 4) (oi := ⟨some 122, _, _, _, _, _⟩) (v := ?_) rfl (by kernel_rfl) (by kernel_rfl) (by kernel_rfl) (fun _ _ _ h => h) rfl hX ?_ ?_; rotate_left; (intro W hW; go_simp; try with_reducible rfl); simp only [Act.put, List.setIfInBounds_toArray, List.set_cons_zero, List.set_cons_succ]
        refine sx_take (i := 5) (oi := ⟨some 123, _, _, _, _, _⟩) (v := ?_) rfl (by kernel_rfl) (by kernel_rfl) (by kernel_rfl) (fun _ _ _ h => h) rfl hX ?_ ?_; rotate_left; (intro W hW; go_simp; try with_reducible rfl); simp only [Act.put, List.setIfInBounds_toArray, List.set_cons_zero, List.set_cons_succ]
        refine sx_take (i := 6) (oi := ⟨some 124, _, _, _, _, _⟩) (v := ?_) rfl (by kernel_rfl) (by kernel_rfl) (by kernel_rfl) (fun _ _ _ h => h) rfl hX ?_ ?_; rotate_left; (intro W hW; go_simp; try with_reducible rfl); simp only [Act.put, List.setIfInBounds_toArray, List.set_cons_zero, List.set_cons_succ]
        refine sx_take (i := 7) (oi := ⟨some 125, _, _, _, _, _⟩) (v := ?_) rfl (by kernel_rfl) (by kernel_rfl) (by kernel_rfl) (fun _ _ _ h => h) rfl hX ?_ ?_; rotate_left; (intro W hW; go_simp; try with_reducible rfl); simp only [Act.put, List.setIfInBounds_toArray, List.set_cons_zero, List.set_cons_succ]
        refine sx_take (i := 8) (oi := ⟨some 126, _, _, _, _, _⟩) (v := .agg (wds p).toArray) rfl (by kernel_rfl) (by kernel_rfl) (by kernel_rfl) (fun _ _ _ h => h) rfl hX (ld_blk 24 _ rfl w.heap.size rfl 24 _ _ KA.out KA.out.lt Tryd.underlying24 rfl (size_set p)) ?_; simp only [Act.put, List.setIfInBounds_toArray, List.set_cons_zero, List.set_cons_succ]
        refine sx_take (i := 11) (oi := ⟨some 129, _, _, _, _, _⟩) (v := .agg (wds p).toArray) rfl (by kernel_rfl) (by kernel_rfl) (by kernel_rfl) (fun _ _ _ h => h) rfl hX (ld_blk 24 _ rfl w.heap.size rfl 24 _ _ KA.out KA.out.lt Tryd.underlying24 rfl (size_set p)) ?_; simp only [Act.put, List.setIfInBounds_toArray, List.set_cons_zero, List.set_cons_succ]
        refine sx_actB (i := 9) (o := ⟨some 127, _, _, _, _, _⟩) rfl (by kernel_rfl) rfl hX (fun K hK => ?_)
        go_wp2_with fail
        refine (C.list p w40 (HT.out.belowG (BX.out.trans (hX.mono BX.out.size)) HT.out.lt)).mono ?_
        rintro e w41 ⟨v7, rfl, hr7, hb⟩
        rw [HM.out] at hr7
        have R7 := Lib.hid hr7
        clear hr7
        refine hK _ _ (hb.mono SZ.out) ?_
        clear hK K
        replace hX := hX.trans (hb.mono SZ.out)
        replace SZ := Lib.hid (Nat.le_trans SZ.out hb.size)
        clear hb
        refine sx_actB (i := 10) (o := ⟨some 128, _, _, _, _, _⟩) rfl (by kernel_rfl) rfl hX (fun K hK => ?_)
        go_wp2_with fail
        refine (C.of _ m w41 R7.out hml).mono ?_
        rintro e w42 ⟨rfl, hb⟩
        rw [HR7.out]
        refine hK _ _ (hb.mono SZ.out) ?_
        clear hK K
        replace hX := hX.trans (hb.mono SZ.out)
        replace SZ := Lib.hid (Nat.le_trans SZ.out hb.size)
        clear hb
        refine sx_take (i := 12) (oi := ⟨some 130, _, _, _, _, _⟩) (v := .bool true) rfl (by kernel_rfl) (by kernel_rfl) (by kernel_rfl) (fun _ _ _ h => h) rfl hX (eq_is HE7.out 24 22 (.tmp 128) (.tmp 129) 24 rfl guard_set Tryd.underlying24 Tryd.underlying22 size_u64 rfl rfl) ?_; simp only [Act.put, List.setIfInBounds_toArray, List.set_cons_zero, List.set_cons_succ]
        refine sx_take (i := 13) (oi := ⟨some 131, _, _, _, _, _⟩) (v := ?_) rfl (by kernel_rfl) (by kernel_rfl) (by kernel_rfl) (fun _ _ _ h => h) rfl hX ?_ ?_; rotate_left; (intro W hW; go_simp; try with_reducible rfl); simp only [Act.put, List.setIfInBounds_toArray, List.set_cons_zero, List.set_cons_succ]
        refine sx_take (i := 14) (oi := ⟨some 8, _, _, _, _, _⟩) (v := ?_) rfl (by kernel_rfl) (by kernel_rfl) (by kernel_rfl) (fun _ _ _ h => h) rfl hX ?_ ?_; rotate_left; (intro W hW; go_simp; try with_reducible rfl); simp only [Act.put, List.setIfInBounds_toArray, List.set_cons_zero, List.set_cons_succ]
        refine wpAnyH_done (by kernel_rfl) ?_ _
        go_wp2_with fail
        go_ret
        exact ⟨rfl, BX.out.trans (hX.mono BX.out.size)⟩
    | false =>
      have HL := Lib.hid hL
      obtain ⟨y, hy⟩ : ∃ y : Bool, lessS q p = y := ⟨_, rfl⟩
      have HE := Lib.hid (show eqS p q = !y by rw [← hy]; exact lessS_not hL)
      have HY := Lib.hid hy
      clear hL hy
      refine sx_take (i := 0) (oi := ⟨some 87, _, _, _, _, _⟩) (v := .agg (wds p).toArray) rfl (by kernel_rfl) (by kernel_rfl) (by kernel_rfl) (fun _ _ _ h => h) rfl hX (ld_blk 24 _ rfl w.heap.size rfl 24 _ _ KA.out KA.out.lt Tryd.underlying24 rfl (size_set p)) ?_; simp only [Act.put, List.setIfInBounds_toArray, List.set_cons_zero, List.set_cons_succ]
      refine sx_take (i := 1) (oi := ⟨some 88, _, _, _, _, _⟩) (v := .agg (wds q).toArray) rfl (by kernel_rfl) (by kernel_rfl) (by kernel_rfl) (fun _ _ _ h => h) rfl hX (ld_blk 24 _ rfl w1.heap.size rfl 24 _ _ KB.out KB.out.lt Tryd.underlying24 rfl (size_set q)) ?_; simp only [Act.put, List.setIfInBounds_toArray, List.set_cons_zero, List.set_cons_succ]
      refine sx_take (i := 2) (oi := ⟨some 89, _, _, _, _, _⟩) (v := .bool !y) rfl (by kernel_rfl) (by kernel_rfl) (by kernel_rfl) (fun _ _ _ h => h) rfl hX (eq_is HE.out 24 22 (.tmp 87) (.tmp 88) 24 rfl guard_set Tryd.underlying24 Tryd.underlying22 size_u64 rfl rfl) ?_; simp only [Act.put, List.setIfInBounds_toArray, List.set_cons_zero, List.set_cons_succ]
      refine sx_take (i := 3) (oi := ⟨some 90, _, _, _, _, _⟩) (v := .agg (wds p).toArray) rfl (by kernel_rfl) (by kernel_rfl) (by kernel_rfl) (fun _ _ _ h => h) rfl hX (ld_blk 24 _ rfl w.heap.size rfl 24 _ _ KA.out KA.out.lt Tryd.underlying24 rfl (size_set p)) ?_; simp only [Act.put, List.setIfInBounds_toArray, List.set_cons_zero, List.set_cons_succ]
      refine sx_take (i := 4) (oi := ⟨some 91, _, _, _, _, _⟩) (v := .agg (wds q).toArray) rfl (by kernel_rfl) (by kernel_rfl) (by kernel_rfl) (fun _ _ _ h => h) rfl hX (ld_blk 24 _ rfl w1.heap.size rfl 24 _ _ KB.out KB.out.lt Tryd.underlying24 rfl (size_set q)) ?_; simp only [Act.put, List.setIfInBounds_toArray, List.set_cons_zero, List.set_cons_succ]
      refine sx_actB (i := 5) (o := ⟨some 92, _, _, _, _, _⟩) rfl (by kernel_rfl) rfl hX (fun K hK => ?_)
      go_wp2_with fail
      refine (C.less p q w28).mono ?_
      rintro e w29 ⟨rfl, hb⟩
      rw [HL.out]
      refine hK _ _ (hb.mono SZ.out) ?_
      clear hK K
      replace hX := hX.trans (hb.mono SZ.out)
      replace SZ := Lib.hid (Nat.le_trans SZ.out hb.size)
      clear hb
      refine sx_take (i := 6) (oi := ⟨some 93, _, _, _, _, _⟩) (v := ?_) rfl (by kernel_rfl) (by kernel_rfl) (by kernel_rfl) (fun _ _ _ h => h) rfl hX ?_ ?_; rotate_left; (intro W hW; go_simp; try with_reducible rfl); simp only [Act.put, List.setIfInBounds_toArray, List.set_cons_zero, List.set_cons_succ]
      refine sx_take (i := 7) (oi := ⟨some 94, _, _, _, _, _⟩) (v := ?_) rfl (by kernel_rfl) (by kernel_rfl) (by kernel_rfl) (fun _ _ _ h => h) rfl hX ?_ ?_; rotate_left; (intro W hW; go_simp; try with_reducible rfl); simp only [Act.put, List.setIfInBounds_toArray, List.set_cons_zero, List.set_cons_succ]
      refine sx_take (i := 8) (oi := ⟨some 95, _, _, _, _, _⟩) (v := .agg (wds q).toArray) rfl (by kernel_rfl) (by kernel_rfl) (by kernel_rfl) (fun _ _ _ h => h) rfl hX (ld_blk 24 _ rfl w1.heap.size rfl 24 _ _ KB.out KB.out.lt Tryd.underlying24 rfl (size_set q)) ?_; simp only [Act.put, List.setIfInBounds_toArray, List.set_cons_zero, List.set_cons_succ]
      refine sx_take (i := 9) (oi := ⟨some 96, _, _, _, _, _⟩) (v := .agg (wds p).toArray) rfl (by kernel_rfl) (by kernel_rfl) (by kernel_rfl) (fun _ _ _ h => h) rfl hX (ld_blk 24 _ rfl w.heap.size rfl 24 _ _ KA.out KA.out.lt Tryd.underlying24 rfl (size_set p)) ?_; simp only [Act.put, List.setIfInBounds_toArray, List.set_cons_zero, List.set_cons_succ]
      refine sx_actB (i := 10) (o := ⟨some 97, _, _, _, _, _⟩) rfl (by kernel_rfl) rfl hX (fun K hK => ?_)
      go_wp2_with fail
      refine (C.less q p w29).mono ?_
      rintro e w30 ⟨rfl, hb⟩
      rw [HY.out]
      refine hK _ _ (hb.mono SZ.out) ?_
      clear hK K
      replace hX := hX.trans (hb.mono SZ.out)
      replace SZ := Lib.hid (Nat.le_trans SZ.out hb.size)
      clear hb
      refine sx_take (i := 11) (oi := ⟨some 98, _, _, _, _, _⟩) (v := ?_) rfl (by kernel_rfl) (by kernel_rfl) (by kernel_rfl) (fun _ _ _ h => h) rfl hX ?_ ?_; rotate_left; (intro W hW; go_simp; try with_reducible rfl); simp only [Act.put, List.setIfInBounds_toArray, List.set_cons_zero, List.set_cons_succ]
      refine sx_take (i := 12) (oi := ⟨some 99, _, _, _, _, _⟩) (v := ?_) rfl (by kernel_rfl) (by kernel_rfl) (by kernel_rfl) (fun _ _ _ h => h) rfl hX ?_ ?_; rotate_left; (intro W hW; go_simp; try with_reducible rfl); simp only [Act.put, List.setIfInBounds_toArray, List.set_cons_zero, List.set_cons_succ]
      refine sx_take (i := 13) (oi := ⟨some 100, _, _, _, _, _⟩) (v := ?_) rfl (by kernel_rfl) (by kernel_rfl) (by kernel_rfl) (fun _ _ _ h => h) rfl hX ?_ ?_; rotate_left; (intro W hW; go_simp; try with_reducible rfl); simp only [Act.put, List.setIfInBounds_toArray, List.set_cons_zero, List.set_cons_succ]
      refine sx_take (i := 14) (oi := ⟨some 101, _, _, _, _, _⟩) (v := ?_) rfl (by kernel_rfl) (by kernel_rfl) (by kernel_rfl) (fun _ _ _ h => h) rfl hX ?_ ?_; rotate_left; (intro W hW; go_simp; try with_reducible rfl); simp only [Act.put, List.setIfInBounds_toArray, List.set_cons_zero, List.set_cons_succ]
      refine sx_take (i := 15) (oi := ⟨some 102, _, _, _, _, _⟩) (v := .agg (wds p).toArray) rfl (by kernel_rfl) (by kernel_rfl) (by kernel_rfl) (fun _ _ _ h => h) rfl hX (ld_blk 24 _ rfl w.heap.size rfl 24 _ _ KA.out KA.out.lt Tryd.underlying24 rfl (size_set p)) ?_; simp only [Act.put, List.setIfInBounds_toArray, List.set_cons_zero, List.set_cons_succ]
      refine sx_take (i := 16) (oi := ⟨some 103, _, _, _, _, _⟩) (v := .agg (wds q).toArray) rfl (by kernel_rfl) (by kernel_rfl) (by kernel_rfl) (fun _ _ _ h => h) rfl hX (ld_blk 24 _ rfl w1.heap.size rfl 24 _ _ KB.out KB.out.lt Tryd.underlying24 rfl (size_set q)) ?_; simp only [Act.put, List.setIfInBounds_toArray, List.set_cons_zero, List.set_cons_succ]
      refine sx_actB (i := 17) (o := ⟨some 104, _, _, _, _, _⟩) rfl (by kernel_rfl) rfl hX (fun K hK => ?_)
      go_wp2_with fail
      refine (C.less p q w30).mono ?_
      rintro e w31 ⟨rfl, hb⟩
      rw [HL.out]
      refine hK _ _ (hb.mono SZ.out) ?_
      clear hK K
      replace hX := hX.trans (hb.mono SZ.out)
      replace SZ := Lib.hid (Nat.le_trans SZ.out hb.size)
      clear hb
      refine sx_take (i := 18) (oi := ⟨some 105, _, _, _, _, _⟩) (v := ?_) rfl (by kernel_rfl) (by kernel_rfl) (by kernel_rfl) (fun _ _ _ h => h) rfl hX ?_ ?_; rotate_left; (intro W hW; go_simp; try with_reducible rfl); simp only [Act.put, List.setIfInBounds_toArray, List.set_cons_zero, List.set_cons_succ]
      refine sx_skip (i := 19) (oi := ⟨some 106, _, _, _, _, _⟩) rfl (by kernel_rfl) (by kernel_rfl) (by kernel_rfl) (fun _ _ _ h => h) rfl hX ?_; simp only [Act.put, List.setIfInBounds_toArray, List.set_cons_zero, List.set_cons_succ]
      refine sx_skip (i := 20) (oi := ⟨some 107, _, _, _, _, _⟩) rfl (by kernel_rfl) (by kernel_rfl) (by kernel_rfl) (fun _ _ _ h => h) rfl hX ?_; simp only [Act.put, List.setIfInBounds_toArray, List.set_cons_zero, List.set_cons_succ]
      refine sx_skip (i := 21) (oi := ⟨some 108, _, _, _, _, _⟩) rfl (by kernel_rfl) (by kernel_rfl) (by kernel_rfl) (fun _ _ _ h => h) rfl hX ?_; simp only [Act.put, List.setIfInBounds_toArray, List.set_cons_zero, List.set_cons_succ]
      refine sx_take (i := 22) (oi := ⟨some 109, _, _, _, _, _⟩) (v := ?_) rfl (by kernel_rfl) (by kernel_rfl) (by kernel_rfl) (fun _ _ _ h => h) rfl hX ?_ ?_; rotate_left; (intro W hW; go_simp; try with_reducible rfl); simp only [Act.put, List.setIfInBounds_toArray, List.set_cons_zero, List.set_cons_succ]
      refine sx_take (i := 23) (oi := ⟨some 110, _, _, _, _, _⟩) (v := ?_) rfl (by kernel_rfl) (by kernel_rfl) (by kernel_rfl) (fun _ _ _ h => h) rfl hX ?_ ?_; rotate_left; (intro W hW; go_simp; try with_reducible rfl); simp only [Act.put, List.setIfInBounds_toArray, List.set_cons_zero, List.set_cons_succ]
      refine sx_skip (i := 24) (oi := ⟨some 111, _, _, _, _, _⟩) rfl (by kernel_rfl) (by kernel_rfl) (by kernel_rfl) (fun _ _ _ h => h) rfl hX ?_; simp only [Act.put, List.setIfInBounds_toArray, List.set_cons_zero, List.set_cons_succ]
      refine sx_skip (i := 25) (oi := ⟨some 112, _, _, _, _, _⟩) rfl (by kernel_rfl) (by kernel_rfl) (by kernel_rfl) (fun _ _ _ h => h) rfl hX ?_; simp only [Act.put, List.setIfInBounds_toArray, List.set_cons_zero, List.set_cons_succ]
      refine sx_skip (i := 26) (oi := ⟨some 113, _, _, _, _, _⟩) rfl (by kernel_rfl) (by kernel_rfl) (by kernel_rfl) (fun _ _ _ h => h) rfl hX ?_; simp only [Act.put, List.setIfInBounds_toArray, List.set_cons_zero, List.set_cons_succ]
      refine sx_skip (i := 27) (oi := ⟨some 114, _, _, _, _, _⟩) rfl (by kernel_rfl) (by kernel_rfl) (by kernel_rfl) (fun _ _ _ h => h) rfl hX ?_; simp only [Act.put, List.setIfInBounds_toArray, List.set_cons_zero, List.set_cons_succ]
      refine sx_take (i := 28) (oi := ⟨some 115, _, _, _, _, _⟩) (v := ?_) rfl (by kernel_rfl) (by kernel_rfl) (by kernel_rfl) (fun _ _ _ h => h) rfl hX ?_ ?_; rotate_left; (intro W hW; go_simp; try with_reducible rfl); simp only [Act.put, List.setIfInBounds_toArray, List.set_cons_zero, List.set_cons_succ]
      refine sx_take (i := 29) (oi := ⟨some 116, _, _, _, _, _⟩) (v := ?_) rfl (by kernel_rfl) (by kernel_rfl) (by kernel_rfl) (fun _ _ _ h => h) rfl hX ?_ ?_; rotate_left; (intro W hW; go_simp; try with_reducible rfl); simp only [Act.put, List.setIfInBounds_toArray, List.set_cons_zero, List.set_cons_succ]
      refine sx_take (i := 30) (oi := ⟨some 117, _, _, _, _, _⟩) (v := ?_) rfl (by kernel_rfl) (by kernel_rfl) (by kernel_rfl) (fun _ _ _ h => h) rfl hX ?_ ?_; rotate_left; (intro W hW; go_simp; try with_reducible rfl); simp only [Act.put, List.setIfInBounds_toArray, List.set_cons_zero, List.set_cons_succ]
      refine sx_take (i := 31) (oi := ⟨some 13, _, _, _, _, _⟩) (v := ?_) rfl (by kernel_rfl) (by kernel_rfl) (by kernel_rfl) (fun _ _ _ h => h) rfl hX ?_ ?_; rotate_left; (intro W hW; go_simp; try with_reducible rfl); simp only [Act.put, List.setIfInBounds_toArray, List.set_cons_zero, List.set_cons_succ]
      refine wpAnyH_done (by kernel_rfl) ?_ _
      replace KA := Lib.hid (KA.out.below hX KA.out.lt)
      replace KB := Lib.hid (KB.out.below hX KB.out.lt)
      replace KC := Lib.hid (KC.out.below hX KC.out.lt)
      replace BX := Lib.hid (BX.out.trans (hX.mono BX.out.size))
      clear hX SZ
      go_wp2_with fail
      refine sx_startB (B := w31.heap.size) (w0 := w31) (by kernel_rfl) (Below.refl _ _) (fun w40 hwd hX => ?_)
      have SZ := Lib.hid hX.size
      clear hwd
      refine sx_take (i := 0) (oi := ⟨some 118, _, _, _, _, _⟩) (v := ?_) rfl (by kernel_rfl) (by kernel_rfl) (by kernel_rfl) (fun _ _ _ h => h) rfl hX ?_ ?_; rotate_left; (intro W hW; go_simp; try with_reducible rfl); simp only [Act.put, List.setIfInBounds_toArray, List.set_cons_zero, List.set_cons_succ]
      refine sx_take (i := 1) (oi := ⟨some 119, _, _, _, _, _⟩) (v := ?_) rfl (by kernel_rfl) (by kernel_rfl) (by kernel_rfl) (fun _ _ _ h => h) rfl hX ?_ ?_; rotate_left; (intro W hW; go_simp; try with_reducible rfl); simp only [Act.put, List.setIfInBounds_toArray, List.set_cons_zero, List.set_cons_succ]
      refine sx_take (i := 2) (oi := ⟨some 120, _, _, _, _, _⟩) (v := ?_) rfl (by kernel_rfl) (by kernel_rfl) (by kernel_rfl) (fun _ _ _ h => h) rfl hX ?_ ?_; rotate_left; (intro W hW; go_simp; try with_reducible rfl); simp only [Act.put, List.setIfInBounds_toArray, List.set_cons_zero, List.set_cons_succ]
      refine sx_take (i := 3) (oi := ⟨some 121, _, _, _, _, _⟩) (v := ?_) rfl (by kernel_rfl) (by kernel_rfl) (by kernel_rfl) (fun _ _ _ h => h) rfl hX ?_ ?_; rotate_left; (intro W hW; go_simp; try with_reducible rfl); simp only [Act.put, List.setIfInBounds_toArray, List.set_cons_zero, List.set_cons_succ]
      refine sx_take (i := 4) (oi := ⟨some 122, _, _, _, _, _⟩) (v := ?_) rfl (by kernel_rfl) (by kernel_rfl) (by kernel_rfl) (fun _ _ _ h => h) rfl hX ?_ ?_; rotate_left; (intro W hW; go_simp; try with_reducible rfl); simp only [Act.put, List.setIfInBounds_toArray, List.set_cons_zero, List.set_cons_succ]
      refine sx_take (i := 5) (oi := ⟨some 123, _, _, _, _, _⟩) (v := ?_) rfl (by kernel_rfl) (by kernel_rfl) (by kernel_rfl) (fun _ _ _ h => h) rfl hX ?_ ?_; rotate_left; (intro W hW; go_simp; try with_reducible rfl); simp only [Act.put, List.setIfInBounds_toArray, List.set_cons_zero, List.set_cons_succ]
      refine sx_take (i := 6) (oi := ⟨some 124, _, _, _, _, _⟩) (v := ?_) rfl (by kernel_rfl) (by kernel_rfl) (by kernel_rfl) (fun _ _ _ h => h) rfl hX ?_ ?_; rotate_left; (intro W hW; go_simp; try with_reducible rfl); simp only [Act.put, List.setIfInBounds_toArray, List.set_cons_zero, List.set_cons_succ]
      refine sx_take (i := 7) (oi := ⟨some 125, _, _, _, _, _⟩) (v := ?_) rfl (by kernel_rfl) (by kernel_rfl) (by kernel_rfl) (fun _ _ _ h => h) rfl hX ?_ ?_; rotate_left; (intro W hW; go_simp; try with_reducible rfl); simp only [Act.put, List.setIfInBounds_toArray, List.set_cons_zero, List.set_cons_succ]
      refine sx_take (i := 8) (oi := ⟨some 126, _, _, _, _, _⟩) (v := .agg (wds p).toArray) rfl (by kernel_rfl) (by kernel_rfl) (by kernel_rfl) (fun _ _ _ h => h) rfl hX (ld_blk 24 _ rfl w.heap.size rfl 24 _ _ KA.out KA.out.lt Tryd.underlying24 rfl (size_set p)) ?_; simp only [Act.put, List.setIfInBounds_toArray, List.set_cons_zero, List.set_cons_succ]
      refine sx_take (i := 11) (oi := ⟨some 129, _, _, _, _, _⟩) (v := .agg (wds p).toArray) rfl (by kernel_rfl) (by kernel_rfl) (by kernel_rfl) (fun _ _ _ h => h) rfl hX (ld_blk 24 _ rfl w.heap.size rfl 24 _ _ KA.out KA.out.lt Tryd.underlying24 rfl (size_set p)) ?_; simp only [Act.put, List.setIfInBounds_toArray, List.set_cons_zero, List.set_cons_succ]
      refine sx_actB (i := 9) (o := ⟨some 127, _, _, _, _, _⟩) rfl (by kernel_rfl) rfl hX (fun K hK => ?_)
      go_wp2_with fail
      refine (C.list p w40 (HT.out.belowG (BX.out.trans (hX.mono BX.out.size)) HT.out.lt)).mono ?_
      rintro e w41 ⟨v7, rfl, hr7, hb⟩
      rw [HM.out] at hr7
      have R7 := Lib.hid hr7
      clear hr7
      refine hK _ _ (hb.mono SZ.out) ?_
      clear hK K
      replace hX := hX.trans (hb.mono SZ.out)
      replace SZ := Lib.hid (Nat.le_trans SZ.out hb.size)
      clear hb
      refine sx_actB (i := 10) (o := ⟨some 128, _, _, _, _, _⟩) rfl (by kernel_rfl) rfl hX (fun K hK => ?_)
      go_wp2_with fail
      refine (C.of _ m w41 R7.out hml).mono ?_
      rintro e w42 ⟨rfl, hb⟩
      rw [HR7.out]
      refine hK _ _ (hb.mono SZ.out) ?_
      clear hK K
      replace hX := hX.trans (hb.mono SZ.out)
      replace SZ := Lib.hid (Nat.le_trans SZ.out hb.size)
      clear hb
      refine sx_take (i := 12) (oi := ⟨some 130, _, _, _, _, _⟩) (v := .bool true) rfl (by kernel_rfl) (by kernel_rfl) (by kernel_rfl) (fun _ _ _ h => h) rfl hX (eq_is HE7.out 24 22 (.tmp 128) (.tmp 129) 24 rfl guard_set Tryd.underlying24 Tryd.underlying22 size_u64 rfl rfl) ?_; simp only [Act.put, List.setIfInBounds_toArray, List.set_cons_zero, List.set_cons_succ]
      refine sx_take (i := 13) (oi := ⟨some 131, _, _, _, _, _⟩) (v := ?_) rfl (by kernel_rfl) (by kernel_rfl) (by kernel_rfl) (fun _ _ _ h => h) rfl hX ?_ ?_; rotate_left; (intro W hW; go_simp; try with_reducible rfl); simp only [Act.put, List.setIfInBounds_toArray, List.set_cons_zero, List.set_cons_succ]
      refine sx_take (i := 14) (oi := ⟨some 8, _, _, _, _, _⟩) (v := ?_) rfl (by kernel_rfl) (by kernel_rfl) (by kernel_rfl) (fun _ _ _ h => h) rfl hX ?_ ?_; rotate_left; (intro W hW; go_simp; try with_reducible rfl); simp only [Act.put, List.setIfInBounds_toArray, List.set_cons_zero, List.set_cons_succ]
      refine wpAnyH_done (by kernel_rfl) ?_ _
      go_wp2_with fail
      go_ret
      exact ⟨rfl, BX.out.trans (hX.mono BX.out.size)⟩
  | false =>
    have HPX := Lib.hid hpx
    have HOX := Lib.hid (show o x = y2 by rw [← ho]; simp [hpx, hy2])
    have HANX := Lib.hid (show an x = false by rw [← han]; simp [hpx, hy2])
    have HNPX := Lib.hid (show np x = true by rw [← hnp]; simp [hpx])
    clear hpx hy2 hm hr7 hnp hnq hnnp ho hno hnn han
    go_enter Tryd.func5, Tryd.ntmps5
    go_wp2_with (first
      | ((with_reducible refine atDst 4 ?_); refine wpList_box rfl 24 _ rfl (wds p) rfl (Below.refl w.heap.size w) (Nat.le_refl _) ?_; intro w1 hk hb hs _; have Kw1 := Lib.hid hk; have Bw1 := Lib.hid hb; clear hk hb hs)
      | ((with_reducible refine atDst 5 ?_); refine wpList_box rfl 24 _ rfl (wds q) rfl (Below.refl w1.heap.size w1) (Nat.le_refl _) ?_; intro w2 hk hb hs _; have Kw2 := Lib.hid hk; have Bw2 := Lib.hid hb; clear hk hb hs)
      | ((with_reducible refine atDst 6 ?_); refine wpList_box rfl 24 _ rfl (wds r) rfl (Below.refl w2.heap.size w2) (Nat.le_refl _) ?_; intro w3 hk hb hs _; have Kw3 := Lib.hid hk; have Bw3 := Lib.hid hb; clear hk hb hs))
    have KA := Lib.hid ((Kw1.out.below Bw2.out Kw1.out.lt).below (Bw3.out.mono Bw2.out.size) (Nat.lt_of_lt_of_le Kw1.out.lt (Nat.le_refl _)))
    have KB := Lib.hid (Kw2.out.below Bw3.out Kw2.out.lt)
    have KC := Lib.hid Kw3.out
    have BX := Lib.hid (Bw1.out.trans ((Bw2.out.mono Bw1.out.size).trans (Bw3.out.mono (Nat.le_trans Bw1.out.size Bw2.out.size))))
    clear Kw1 Kw2 Kw3 Bw1 Bw2 Bw3
    refine (begun_any C w3 (HT.out.belowG BX.out HT.out.lt)).mono ?_
    rintro e w4 ⟨rfl, hX⟩
    skip
    replace KA := Lib.hid (KA.out.below hX KA.out.lt)
    replace KB := Lib.hid (KB.out.below hX KB.out.lt)
    replace KC := Lib.hid (KC.out.below hX KC.out.lt)
    replace BX := Lib.hid (BX.out.trans (hX.mono BX.out.size))
    clear hX
    go_wp2_with fail
    refine sx_startB (B := w4.heap.size) (w0 := w4) (by kernel_rfl) (Below.refl _ _) (fun w5 hwd hX => ?_)
    have SZ := Lib.hid hX.size
    clear hwd
    refine sx_take (i := 0) (oi := ⟨some 16, _, _, _, _, _⟩) (v := .agg (wds p).toArray) rfl (by kernel_rfl) (by kernel_rfl) (by kernel_rfl) (fun _ _ _ h => h) rfl hX (ld_blk 24 _ rfl w.heap.size rfl 24 _ _ KA.out KA.out.lt Tryd.underlying24 rfl (size_set p)) ?_; simp only [Act.put, List.setIfInBounds_toArray, List.set_cons_zero, List.set_cons_succ]
    refine sx_take (i := 1) (oi := ⟨some 17, _, _, _, _, _⟩) (v := ?_) rfl (by kernel_rfl) (by kernel_rfl) (by kernel_rfl) (fun _ _ _ h => h) rfl hX ?_ ?_; rotate_left; (intro W hW; go_simp; try with_reducible rfl); simp only [Act.put, List.setIfInBounds_toArray, List.set_cons_zero, List.set_cons_succ]
    refine sx_take (i := 3) (oi := ⟨some 19, _, _, _, _, _⟩) (v := .agg (wds q).toArray) rfl (by kernel_rfl) (by kernel_rfl) (by kernel_rfl) (fun _ _ _ h => h) rfl hX (ld_blk 24 _ rfl w1.heap.size rfl 24 _ _ KB.out KB.out.lt Tryd.underlying24 rfl (size_set q)) ?_; simp only [Act.put, List.setIfInBounds_toArray, List.set_cons_zero, List.set_cons_succ]
    refine sx_take (i := 4) (oi := ⟨some 20, _, _, _, _, _⟩) (v := ?_) rfl (by kernel_rfl) (by kernel_rfl) (by kernel_rfl) (fun _ _ _ h => h) rfl hX ?_ ?_; rotate_left; (intro W hW; go_simp; try with_reducible rfl); simp only [Act.put, List.setIfInBounds_toArray, List.set_cons_zero, List.set_cons_succ]
    refine sx_actB (i := 2) (o := ⟨some 18, _, _, _, _, _⟩) rfl (by kernel_rfl) rfl hX (fun K hK => ?_)
    go_wp2_with fail
    refine (C.has p x w5 hx).mono ?_
    rintro e w6 ⟨rfl, hb⟩
    rw [HPX.out]
    refine hK _ _ (hb.mono SZ.out) ?_
    clear hK K
    replace hX := hX.trans (hb.mono SZ.out)
    replace SZ := Lib.hid (Nat.le_trans SZ.out hb.size)
    clear hb
    refine sx_actB (i := 5) (o := ⟨some 21, _, _, _, _, _⟩) rfl (by kernel_rfl) rfl hX (fun K hK => ?_)
    go_wp2_with fail
    refine (C.has q x w6 hx).mono ?_
    rintro e w7 ⟨rfl, hb⟩
    rw [HQX.out]
    refine hK _ _ (hb.mono SZ.out) ?_
    clear hK K
    replace hX := hX.trans (hb.mono SZ.out)
    replace SZ := Lib.hid (Nat.le_trans SZ.out hb.size)
    clear hb
    refine sx_take (i := 6) (oi := ⟨some 9, _, _, _, _, _⟩) (v := ?_) rfl (by kernel_rfl) (by kernel_rfl) (by kernel_rfl) (fun _ _ _ h => h) rfl hX ?_ ?_; rotate_left; (intro W hW; go_simp; try with_reducible rfl); simp only [Act.put, List.setIfInBounds_toArray, List.set_cons_zero, List.set_cons_succ]
    refine sx_take (i := 7) (oi := ⟨some 10, _, _, _, _, _⟩) (v := ?_) rfl (by kernel_rfl) (by kernel_rfl) (by kernel_rfl) (fun _ _ _ h => h) rfl hX ?_ ?_; rotate_left; (intro W hW; go_simp; try with_reducible rfl); simp only [Act.put, List.setIfInBounds_toArray, List.set_cons_zero, List.set_cons_succ]
    refine wpAnyH_done (by kernel_rfl) ?_ _
    replace KA := Lib.hid (KA.out.below hX KA.out.lt)
    replace KB := Lib.hid (KB.out.below hX KB.out.lt)
    replace KC := Lib.hid (KC.out.below hX KC.out.lt)
    replace BX := Lib.hid (BX.out.trans (hX.mono BX.out.size))
    clear hX SZ
    go_wp2_with (first
      | ((with_reducible refine atDst 22 ?_); refine wpList_ldArr rfl 24 _ rfl w.heap.size rfl 24 _ _ KA.out Tryd.underlying24 rfl (size_set p) ?_)
      | ((with_reducible refine atDst 23 ?_); refine wpList_ldArr rfl 24 _ rfl w1.heap.size rfl 24 _ _ KB.out Tryd.underlying24 rfl (size_set q) ?_))
    refine (C.or_ p q w7).mono ?_
    rintro e w8 ⟨rfl, hX⟩
    rw [HO.out]
    replace KA := Lib.hid (KA.out.below hX KA.out.lt)
    replace KB := Lib.hid (KB.out.below hX KB.out.lt)
    replace KC := Lib.hid (KC.out.below hX KC.out.lt)
    replace BX := Lib.hid (BX.out.trans (hX.mono BX.out.size))
    clear hX
    go_wp2_with fail
    refine (C.has o x w8 hx).mono ?_
    rintro e w9 ⟨rfl, hX⟩
    rw [HOX.out]
    replace KA := Lib.hid (KA.out.below hX KA.out.lt)
    replace KB := Lib.hid (KB.out.below hX KB.out.lt)
    replace KC := Lib.hid (KC.out.below hX KC.out.lt)
    replace BX := Lib.hid (BX.out.trans (hX.mono BX.out.size))
    clear hX
    go_wp2_with (first
      | ((with_reducible refine atDst 33 ?_); refine wpList_ldArr rfl 24 _ rfl w.heap.size rfl 24 _ _ KA.out Tryd.underlying24 rfl (size_set p) ?_)
      | ((with_reducible refine atDst 34 ?_); refine wpList_ldArr rfl 24 _ rfl w1.heap.size rfl 24 _ _ KB.out Tryd.underlying24 rfl (size_set q) ?_))
    refine (C.and_ p q w9).mono ?_
    rintro e w10 ⟨rfl, hX⟩
    rw [HAN.out]
    replace KA := Lib.hid (KA.out.below hX KA.out.lt)
    replace KB := Lib.hid (KB.out.below hX KB.out.lt)
    replace KC := Lib.hid (KC.out.below hX KC.out.lt)
    replace BX := Lib.hid (BX.out.trans (hX.mono BX.out.size))
    clear hX
    go_wp2_with fail
    refine (C.has an x w10 hx).mono ?_
    rintro e w11 ⟨rfl, hX⟩
    rw [HANX.out]
    replace KA := Lib.hid (KA.out.below hX KA.out.lt)
    replace KB := Lib.hid (KB.out.below hX KB.out.lt)
    replace KC := Lib.hid (KC.out.below hX KC.out.lt)
    replace BX := Lib.hid (BX.out.trans (hX.mono BX.out.size))
    clear hX
    go_wp2_with (first
      | ((with_reducible refine atDst 45 ?_); refine wpList_ldArr rfl 24 _ rfl w.heap.size rfl 24 _ _ KA.out Tryd.underlying24 rfl (size_set p) ?_))
    refine (C.not_ p w11).mono ?_
    rintro e w12 ⟨rfl, hX⟩
    rw [HNP.out]
    replace KA := Lib.hid (KA.out.below hX KA.out.lt)
    replace KB := Lib.hid (KB.out.below hX KB.out.lt)
    replace KC := Lib.hid (KC.out.below hX KC.out.lt)
    replace BX := Lib.hid (BX.out.trans (hX.mono BX.out.size))
    clear hX
    go_wp2_with fail
    refine (C.has np x w12 hx).mono ?_
    rintro e w13 ⟨rfl, hX⟩
    rw [HNPX.out]
    replace KA := Lib.hid (KA.out.below hX KA.out.lt)
    replace KB := Lib.hid (KB.out.below hX KB.out.lt)
    replace KC := Lib.hid (KC.out.below hX KC.out.lt)
    replace BX := Lib.hid (BX.out.trans (hX.mono BX.out.size))
    clear hX
    go_wp2_with fail
    refine sx_startB (B := w13.heap.size) (w0 := w13) (by kernel_rfl) (Below.refl _ _) (fun w14 hwd hX => ?_)
    have SZ := Lib.hid hX.size
    clear hwd
    refine sx_take (i := 0) (oi := ⟨some 53, _, _, _, _, _⟩) (v := .agg (wds p).toArray) rfl (by kernel_rfl) (by kernel_rfl) (by kernel_rfl) (fun _ _ _ h => h) rfl hX (ld_blk 24 _ rfl w.heap.size rfl 24 _ _ KA.out KA.out.lt Tryd.underlying24 rfl (size_set p)) ?_; simp only [Act.put, List.setIfInBounds_toArray, List.set_cons_zero, List.set_cons_succ]
    refine sx_take (i := 3) (oi := ⟨some 56, _, _, _, _, _⟩) (v := .agg (wds p).toArray) rfl (by kernel_rfl) (by kernel_rfl) (by kernel_rfl) (fun _ _ _ h => h) rfl hX (ld_blk 24 _ rfl w.heap.size rfl 24 _ _ KA.out KA.out.lt Tryd.underlying24 rfl (size_set p)) ?_; simp only [Act.put, List.setIfInBounds_toArray, List.set_cons_zero, List.set_cons_succ]
    refine sx_actB (i := 1) (o := ⟨some 54, _, _, _, _, _⟩) rfl (by kernel_rfl) rfl hX (fun K hK => ?_)
    go_wp2_with fail
    refine (C.not_ p w14).mono ?_
    rintro e w15 ⟨rfl, hb⟩
    rw [HNP.out]
    refine hK _ _ (hb.mono SZ.out) ?_
    clear hK K
    replace hX := hX.trans (hb.mono SZ.out)
    replace SZ := Lib.hid (Nat.le_trans SZ.out hb.size)
    clear hb
    refine sx_actB (i := 2) (o := ⟨some 55, _, _, _, _, _⟩) rfl (by kernel_rfl) rfl hX (fun K hK => ?_)
    go_wp2_with fail
    refine (C.not_ np w15).mono ?_
    rintro e w16 ⟨rfl, hb⟩
    rw [HNNP.out]
    refine hK _ _ (hb.mono SZ.out) ?_
    clear hK K
    replace hX := hX.trans (hb.mono SZ.out)
    replace SZ := Lib.hid (Nat.le_trans SZ.out hb.size)
    clear hb
    refine sx_take (i := 4) (oi := ⟨some 57, _, _, _, _, _⟩) (v := .bool true) rfl (by kernel_rfl) (by kernel_rfl) (by kernel_rfl) (fun _ _ _ h => h) rfl hX (eq_is HE1.out 24 22 (.tmp 55) (.tmp 56) 24 rfl guard_set Tryd.underlying24 Tryd.underlying22 size_u64 rfl rfl) ?_; simp only [Act.put, List.setIfInBounds_toArray, List.set_cons_zero, List.set_cons_succ]
    refine sx_take (i := 5) (oi := ⟨some 58, _, _, _, _, _⟩) (v := ?_) rfl (by kernel_rfl) (by kernel_rfl) (by kernel_rfl) (fun _ _ _ h => h) rfl hX ?_ ?_; rotate_left; (intro W hW; go_simp; try with_reducible rfl); simp only [Act.put, List.setIfInBounds_toArray, List.set_cons_zero, List.set_cons_succ]
    refine sx_take (i := 6) (oi := ⟨some 59, _, _, _, _, _⟩) (v := .agg (wds p).toArray) rfl (by kernel_rfl) (by kernel_rfl) (by kernel_rfl) (fun _ _ _ h => h) rfl hX (ld_blk 24 _ rfl w.heap.size rfl 24 _ _ KA.out KA.out.lt Tryd.underlying24 rfl (size_set p)) ?_; simp only [Act.put, List.setIfInBounds_toArray, List.set_cons_zero, List.set_cons_succ]
    refine sx_take (i := 7) (oi := ⟨some 60, _, _, _, _, _⟩) (v := .agg (wds q).toArray) rfl (by kernel_rfl) (by kernel_rfl) (by kernel_rfl) (fun _ _ _ h => h) rfl hX (ld_blk 24 _ rfl w1.heap.size rfl 24 _ _ KB.out KB.out.lt Tryd.underlying24 rfl (size_set q)) ?_; simp only [Act.put, List.setIfInBounds_toArray, List.set_cons_zero, List.set_cons_succ]
    refine sx_take (i := 10) (oi := ⟨some 63, _, _, _, _, _⟩) (v := .agg (wds p).toArray) rfl (by kernel_rfl) (by kernel_rfl) (by kernel_rfl) (fun _ _ _ h => h) rfl hX (ld_blk 24 _ rfl w.heap.size rfl 24 _ _ KA.out KA.out.lt Tryd.underlying24 rfl (size_set p)) ?_; simp only [Act.put, List.setIfInBounds_toArray, List.set_cons_zero, List.set_cons_succ]
    refine sx_take (i := 12) (oi := ⟨some 65, _, _, _, _, _⟩) (v := .agg (wds q).toArray) rfl (by kernel_rfl) (by kernel_rfl) (by kernel_rfl) (fun _ _ _ h => h) rfl hX (ld_blk 24 _ rfl w1.heap.size rfl 24 _ _ KB.out KB.out.lt Tryd.underlying24 rfl (size_set q)) ?_; simp only [Act.put, List.setIfInBounds_toArray, List.set_cons_zero, List.set_cons_succ]
    refine sx_actB (i := 8) (o := ⟨some 61, _, _, _, _, _⟩) rfl (by kernel_rfl) rfl hX (fun K hK => ?_)
    go_wp2_with fail
    refine (C.or_ p q w16).mono ?_
    rintro e w17 ⟨rfl, hb⟩
    rw [HO.out]
    refine hK _ _ (hb.mono SZ.out) ?_
    clear hK K
    replace hX := hX.trans (hb.mono SZ.out)
    replace SZ := Lib.hid (Nat.le_trans SZ.out hb.size)
    clear hb
    refine sx_actB (i := 9) (o := ⟨some 62, _, _, _, _, _⟩) rfl (by kernel_rfl) rfl hX (fun K hK => ?_)
    go_wp2_with fail
    refine (C.not_ o w17).mono ?_
    rintro e w18 ⟨rfl, hb⟩
    rw [HNO.out]
    refine hK _ _ (hb.mono SZ.out) ?_
    clear hK K
    replace hX := hX.trans (hb.mono SZ.out)
    replace SZ := Lib.hid (Nat.le_trans SZ.out hb.size)
    clear hb
    refine sx_actB (i := 11) (o := ⟨some 64, _, _, _, _, _⟩) rfl (by kernel_rfl) rfl hX (fun K hK => ?_)
    go_wp2_with fail
    refine (C.not_ p w18).mono ?_
    rintro e w19 ⟨rfl, hb⟩
    rw [HNP.out]
    refine hK _ _ (hb.mono SZ.out) ?_
    clear hK K
    replace hX := hX.trans (hb.mono SZ.out)
    replace SZ := Lib.hid (Nat.le_trans SZ.out hb.size)
    clear hb
    refine sx_actB (i := 13) (o := ⟨some 66, _, _, _, _, _⟩) rfl (by kernel_rfl) rfl hX (fun K hK => ?_)
    go_wp2_with fail
    refine (C.not_ q w19).mono ?_
    rintro e w20 ⟨rfl, hb⟩
    rw [HNQ.out]
    refine hK _ _ (hb.mono SZ.out) ?_
    clear hK K
    replace hX := hX.trans (hb.mono SZ.out)
    replace SZ := Lib.hid (Nat.le_trans SZ.out hb.size)
    clear hb
    refine sx_actB (i := 14) (o := ⟨some 67, _, _, _, _, _⟩) rfl (by kernel_rfl) rfl hX (fun K hK => ?_)
    go_wp2_with fail
    refine (C.and_ np nq w20).mono ?_
    rintro e w21 ⟨rfl, hb⟩
    rw [HNN.out]
    refine hK _ _ (hb.mono SZ.out) ?_
    clear hK K
    replace hX := hX.trans (hb.mono SZ.out)
    replace SZ := Lib.hid (Nat.le_trans SZ.out hb.size)
    clear hb
    refine sx_take (i := 15) (oi := ⟨some 68, _, _, _, _, _⟩) (v := .bool true) rfl (by kernel_rfl) (by kernel_rfl) (by kernel_rfl) (fun _ _ _ h => h) rfl hX (eq_is HE2.out 24 22 (.tmp 62) (.tmp 67) 24 rfl guard_set Tryd.underlying24 Tryd.underlying22 size_u64 rfl rfl) ?_; simp only [Act.put, List.setIfInBounds_toArray, List.set_cons_zero, List.set_cons_succ]
    refine sx_take (i := 16) (oi := ⟨some 69, _, _, _, _, _⟩) (v := ?_) rfl (by kernel_rfl) (by kernel_rfl) (by kernel_rfl) (fun _ _ _ h => h) rfl hX ?_ ?_; rotate_left; (intro W hW; go_simp; try with_reducible rfl); simp only [Act.put, List.setIfInBounds_toArray, List.set_cons_zero, List.set_cons_succ]
    refine sx_take (i := 17) (oi := ⟨some 70, _, _, _, _, _⟩) (v := ?_) rfl (by kernel_rfl) (by kernel_rfl) (by kernel_rfl) (fun _ _ _ h => h) rfl hX ?_ ?_; rotate_left; (intro W hW; go_simp; try with_reducible rfl); simp only [Act.put, List.setIfInBounds_toArray, List.set_cons_zero, List.set_cons_succ]
    refine sx_take (i := 18) (oi := ⟨some 71, _, _, _, _, _⟩) (v := .agg (wds p).toArray) rfl (by kernel_rfl) (by kernel_rfl) (by kernel_rfl) (fun _ _ _ h => h) rfl hX (ld_blk 24 _ rfl w.heap.size rfl 24 _ _ KA.out KA.out.lt Tryd.underlying24 rfl (size_set p)) ?_; simp only [Act.put, List.setIfInBounds_toArray, List.set_cons_zero, List.set_cons_succ]
    refine sx_take (i := 19) (oi := ⟨some 72, _, _, _, _, _⟩) (v := .agg (wds q).toArray) rfl (by kernel_rfl) (by kernel_rfl) (by kernel_rfl) (fun _ _ _ h => h) rfl hX (ld_blk 24 _ rfl w1.heap.size rfl 24 _ _ KB.out KB.out.lt Tryd.underlying24 rfl (size_set q)) ?_; simp only [Act.put, List.setIfInBounds_toArray, List.set_cons_zero, List.set_cons_succ]
    refine sx_take (i := 22) (oi := ⟨some 75, _, _, _, _, _⟩) (v := .agg (wds p).toArray) rfl (by kernel_rfl) (by kernel_rfl) (by kernel_rfl) (fun _ _ _ h => h) rfl hX (ld_blk 24 _ rfl w.heap.size rfl 24 _ _ KA.out KA.out.lt Tryd.underlying24 rfl (size_set p)) ?_; simp only [Act.put, List.setIfInBounds_toArray, List.set_cons_zero, List.set_cons_succ]
    refine sx_take (i := 23) (oi := ⟨some 76, _, _, _, _, _⟩) (v := .agg (wds q).toArray) rfl (by kernel_rfl) (by kernel_rfl) (by kernel_rfl) (fun _ _ _ h => h) rfl hX (ld_blk 24 _ rfl w1.heap.size rfl 24 _ _ KB.out KB.out.lt Tryd.underlying24 rfl (size_set q)) ?_; simp only [Act.put, List.setIfInBounds_toArray, List.set_cons_zero, List.set_cons_succ]
    refine sx_take (i := 27) (oi := ⟨some 80, _, _, _, _, _⟩) (v := .agg (wds p).toArray) rfl (by kernel_rfl) (by kernel_rfl) (by kernel_rfl) (fun _ _ _ h => h) rfl hX (ld_blk 24 _ rfl w.heap.size rfl 24 _ _ KA.out KA.out.lt Tryd.underlying24 rfl (size_set p)) ?_; simp only [Act.put, List.setIfInBounds_toArray, List.set_cons_zero, List.set_cons_succ]
    refine sx_take (i := 29) (oi := ⟨some 82, _, _, _, _, _⟩) (v := .agg (wds q).toArray) rfl (by kernel_rfl) (by kernel_rfl) (by kernel_rfl) (fun _ _ _ h => h) rfl hX (ld_blk 24 _ rfl w1.heap.size rfl 24 _ _ KB.out KB.out.lt Tryd.underlying24 rfl (size_set q)) ?_; simp only [Act.put, List.setIfInBounds_toArray, List.set_cons_zero, List.set_cons_succ]
    refine sx_actB (i := 20) (o := ⟨some 73, _, _, _, _, _⟩) rfl (by kernel_rfl) rfl hX (fun K hK => ?_)
    go_wp2_with fail
    refine (C.or_ p q w21).mono ?_
    rintro e w22 ⟨rfl, hb⟩
    rw [HO.out]
    refine hK _ _ (hb.mono SZ.out) ?_
    clear hK K
    replace hX := hX.trans (hb.mono SZ.out)
    replace SZ := Lib.hid (Nat.le_trans SZ.out hb.size)
    clear hb
    refine sx_actB (i := 21) (o := ⟨some 74, _, _, _, _, _⟩) rfl (by kernel_rfl) rfl hX (fun K hK => ?_)
    go_wp2_with fail
    refine (C.len o w22).mono ?_
    rintro e w23 ⟨rfl, hb⟩
    rw [HN1.out]
    refine hK _ _ (hb.mono SZ.out) ?_
    clear hK K
    replace hX := hX.trans (hb.mono SZ.out)
    replace SZ := Lib.hid (Nat.le_trans SZ.out hb.size)
    clear hb
    refine sx_actB (i := 24) (o := ⟨some 77, _, _, _, _, _⟩) rfl (by kernel_rfl) rfl hX (fun K hK => ?_)
    go_wp2_with fail
    refine (C.and_ p q w23).mono ?_
    rintro e w24 ⟨rfl, hb⟩
    rw [HAN.out]
    refine hK _ _ (hb.mono SZ.out) ?_
    clear hK K
    replace hX := hX.trans (hb.mono SZ.out)
    replace SZ := Lib.hid (Nat.le_trans SZ.out hb.size)
    clear hb
    refine sx_actB (i := 25) (o := ⟨some 78, _, _, _, _, _⟩) rfl (by kernel_rfl) rfl hX (fun K hK => ?_)
    go_wp2_with fail
    refine (C.len an w24).mono ?_
    rintro e w25 ⟨rfl, hb⟩
    rw [HN2.out]
    refine hK _ _ (hb.mono SZ.out) ?_
    clear hK K
    replace hX := hX.trans (hb.mono SZ.out)
    replace SZ := Lib.hid (Nat.le_trans SZ.out hb.size)
    clear hb
    refine sx_take (i := 26) (oi := ⟨some 79, _, _, _, _, _⟩) (v := ?_) rfl (by kernel_rfl) (by kernel_rfl) (by kernel_rfl) (fun _ _ _ h => h) rfl hX ?_ ?_; rotate_left; (intro W hW; go_simp; try with_reducible rfl); simp only [Act.put, List.setIfInBounds_toArray, List.set_cons_zero, List.set_cons_succ]
    refine sx_actB (i := 28) (o := ⟨some 81, _, _, _, _, _⟩) rfl (by kernel_rfl) rfl hX (fun K hK => ?_)
    go_wp2_with fail
    refine (C.len p w25).mono ?_
    rintro e w26 ⟨rfl, hb⟩
    rw [HN3.out]
    refine hK _ _ (hb.mono SZ.out) ?_
    clear hK K
    replace hX := hX.trans (hb.mono SZ.out)
    replace SZ := Lib.hid (Nat.le_trans SZ.out hb.size)
    clear hb
    refine sx_actB (i := 30) (o := ⟨some 83, _, _, _, _, _⟩) rfl (by kernel_rfl) rfl hX (fun K hK => ?_)
    go_wp2_with fail
    refine (C.len q w26).mono ?_
    rintro e w27 ⟨rfl, hb⟩
    rw [HN4.out]
    refine hK _ _ (hb.mono SZ.out) ?_
    clear hK K
    replace hX := hX.trans (hb.mono SZ.out)
    replace SZ := Lib.hid (Nat.le_trans SZ.out hb.size)
    clear hb
    refine sx_take (i := 31) (oi := ⟨some 84, _, _, _, _, _⟩) (v := ?_) rfl (by kernel_rfl) (by kernel_rfl) (by kernel_rfl) (fun _ _ _ h => h) rfl hX ?_ ?_; rotate_left; (intro W hW; go_simp; try with_reducible rfl); simp only [Act.put, List.setIfInBounds_toArray, List.set_cons_zero, List.set_cons_succ]
    refine sx_take (i := 32) (oi := ⟨some 85, _, _, _, _, _⟩) (v := .bool true) rfl (by kernel_rfl) (by kernel_rfl) (by kernel_rfl) (fun _ _ _ h => h) rfl hX (fun W hW => by go_simp; first | done | simp [HS.out]) ?_; simp only [Act.put, List.setIfInBounds_toArray, List.set_cons_zero, List.set_cons_succ]
    refine sx_take (i := 33) (oi := ⟨some 86, _, _, _, _, _⟩) (v := ?_) rfl (by kernel_rfl) (by kernel_rfl) (by kernel_rfl) (fun _ _ _ h => h) rfl hX ?_ ?_; rotate_left; (intro W hW; go_simp; try with_reducible rfl); simp only [Act.put, List.setIfInBounds_toArray, List.set_cons_zero, List.set_cons_succ]
    refine sx_take (i := 34) (oi := ⟨some 12, _, _, _, _, _⟩) (v := ?_) rfl (by kernel_rfl) (by kernel_rfl) (by kernel_rfl) (fun _ _ _ h => h) rfl hX ?_ ?_; rotate_left; (intro W hW; go_simp; try with_reducible rfl); simp only [Act.put, List.setIfInBounds_toArray, List.set_cons_zero, List.set_cons_succ]
    refine wpAnyH_done (by kernel_rfl) ?_ _
    replace KA := Lib.hid (KA.out.below hX KA.out.lt)
    replace KB := Lib.hid (KB.out.below hX KB.out.lt)
    replace KC := Lib.hid (KC.out.below hX KC.out.lt)
    replace BX := Lib.hid (BX.out.trans (hX.mono BX.out.size))
    clear hX SZ
    go_wp2_with fail
    refine sx_startB (B := w27.heap.size) (w0 := w27) (by kernel_rfl) (Below.refl _ _) (fun w28 hwd hX => ?_)
    have SZ := Lib.hid hX.size
    clear hwd
    cases hL : lessS p q with
    | true =>
      have HL := Lib.hid hL
      have HE := Lib.hid (lessS_ne hL)
      cases hL2 : lessS q r with
      | true =>
        have HL2 := Lib.hid hL2
        have HL3 := Lib.hid (lessS_trans hL hL2)
        clear hL hL2
        refine sx_take (i := 0) (oi := ⟨some 87, _, _, _, _, _⟩) (v := .agg (wds p).toArray) rfl (by kernel_rfl) (by kernel_rfl) (by kernel_rfl) (fun _ _ _ h => h) rfl hX (ld_blk 24 _ rfl w.heap.size rfl 24 _ _ KA.out KA.out.lt Tryd.underlying24 rfl (size_set p)) ?_; simp only [Act.put, List.setIfInBounds_toArray, List.set_cons_zero, List.set_cons_succ]
        refine sx_take (i := 1) (oi := ⟨some 88, _, _, _, _, _⟩) (v := .agg (wds q).toArray) rfl (by kernel_rfl) (by kernel_rfl) (by kernel_rfl) (fun _ _ _ h => h) rfl hX (ld_blk 24 _ rfl w1.heap.size rfl 24 _ _ KB.out KB.out.lt Tryd.underlying24 rfl (size_set q)) ?_; simp only [Act.put, List.setIfInBounds_toArray, List.set_cons_zero, List.set_cons_succ]
        refine sx_take (i := 2) (oi := ⟨some 89, _, _, _, _, _⟩) (v := .bool false) rfl (by kernel_rfl) (by kernel_rfl) (by kernel_rfl) (fun _ _ _ h => h) rfl hX (eq_is HE.out 24 22 (.tmp 87) (.tmp 88) 24 rfl guard_set Tryd.underlying24 Tryd.underlying22 size_u64 rfl rfl) ?_; simp only [Act.put, List.setIfInBounds_toArray, List.set_cons_zero, List.set_cons_succ]
        refine sx_take (i := 3) (oi := ⟨some 90, _, _, _, _, _⟩) (v := .agg (wds p).toArray) rfl (by kernel_rfl) (by kernel_rfl) (by kernel_rfl) (fun _ _ _ h => h) rfl hX (ld_blk 24 _ rfl w.heap.size rfl 24 _ _ KA.out KA.out.lt Tryd.underlying24 rfl (size_set p)) ?_; simp only [Act.put, List.setIfInBounds_toArray, List.set_cons_zero, List.set_cons_succ]
        refine sx_take (i := 4) (oi := ⟨some 91, _, _, _, _, _⟩) (v := .agg (wds q).toArray) rfl (by kernel_rfl) (by kernel_rfl) (by kernel_rfl) (fun _ _ _ h => h) rfl hX (ld_blk 24 _ rfl w1.heap.size rfl 24 _ _ KB.out KB.out.lt Tryd.underlying24 rfl (size_set q)) ?_; simp only [Act.put, List.setIfInBounds_toArray, List.set_cons_zero, List.set_cons_succ]
        refine sx_actB (i := 5) (o := ⟨some 92, _, _, _, _, _⟩) rfl (by kernel_rfl) rfl hX (fun K hK => ?_)
        go_wp2_with fail
        refine (C.less p q w28).mono ?_
        rintro e w29 ⟨rfl, hb⟩
        rw [HL.out]
        refine hK _ _ (hb.mono SZ.out) ?_
        clear hK K
        replace hX := hX.trans (hb.mono SZ.out)
        replace SZ := Lib.hid (Nat.le_trans SZ.out hb.size)
        clear hb
        refine sx_take (i := 6) (oi := ⟨some 93, _, _, _, _, _⟩) (v := ?_) rfl (by kernel_rfl) (by kernel_rfl) (by kernel_rfl) (fun _ _ _ h => h) rfl hX ?_ ?_; rotate_left; (intro W hW; go_simp; try with_reducible rfl); simp only [Act.put, List.setIfInBounds_toArray, List.set_cons_zero, List.set_cons_succ]
        refine sx_take (i := 7) (oi := ⟨some 94, _, _, _, _, _⟩) (v := ?_) rfl (by kernel_rfl) (by kernel_rfl) (by kernel_rfl) (fun _ _ _ h => h) rfl hX ?_ ?_; rotate_left; (intro W hW; go_simp; try with_reducible rfl); simp only [Act.put, List.setIfInBounds_toArray, List.set_cons_zero, List.set_cons_succ]
        refine sx_skip (i := 8) (oi := ⟨some 95, _, _, _, _, _⟩) rfl (by kernel_rfl) (by kernel_rfl) (by kernel_rfl) (fun _ _ _ h => h) rfl hX ?_; simp only [Act.put, List.setIfInBounds_toArray, List.set_cons_zero, List.set_cons_succ]
        refine sx_skip (i := 9) (oi := ⟨some 96, _, _, _, _, _⟩) rfl (by kernel_rfl) (by kernel_rfl) (by kernel_rfl) (fun _ _ _ h => h) rfl hX ?_; simp only [Act.put, List.setIfInBounds_toArray, List.set_cons_zero, List.set_cons_succ]
        refine sx_skip (i := 10) (oi := ⟨some 97, _, _, _, _, _⟩) rfl (by kernel_rfl) (by kernel_rfl) (by kernel_rfl) (fun _ _ _ h => h) rfl hX ?_; simp only [Act.put, List.setIfInBounds_toArray, List.set_cons_zero, List.set_cons_succ]
        refine sx_skip (i := 11) (oi := ⟨some 98, _, _, _, _, _⟩) rfl (by kernel_rfl) (by kernel_rfl) (by kernel_rfl) (fun _ _ _ h => h) rfl hX ?_; simp only [Act.put, List.setIfInBounds_toArray, List.set_cons_zero, List.set_cons_succ]
        refine sx_take (i := 12) (oi := ⟨some 99, _, _, _, _, _⟩) (v := ?_) rfl (by kernel_rfl) (by kernel_rfl) (by kernel_rfl) (fun _ _ _ h => h) rfl hX ?_ ?_; rotate_left; (intro W hW; go_simp; try with_reducible rfl); simp only [Act.put, List.setIfInBounds_toArray, List.set_cons_zero, List.set_cons_succ]
        refine sx_take (i := 13) (oi := ⟨some 100, _, _, _, _, _⟩) (v := ?_) rfl (by kernel_rfl) (by kernel_rfl) (by kernel_rfl) (fun _ _ _ h => h) rfl hX ?_ ?_; rotate_left; (intro W hW; go_simp; try with_reducible rfl); simp only [Act.put, List.setIfInBounds_toArray, List.set_cons_zero, List.set_cons_succ]
        refine sx_take (i := 14) (oi := ⟨some 101, _, _, _, _, _⟩) (v := ?_) rfl (by kernel_rfl) (by kernel_rfl) (by kernel_rfl) (fun _ _ _ h => h) rfl hX ?_ ?_; rotate_left; (intro W hW; go_simp; try with_reducible rfl); simp only [Act.put, List.setIfInBounds_toArray, List.set_cons_zero, List.set_cons_succ]
        refine sx_take (i := 15) (oi := ⟨some 102, _, _, _, _, _⟩) (v := .agg (wds p).toArray) rfl (by kernel_rfl) (by kernel_rfl) (by kernel_rfl) (fun _ _ _ h => h) rfl hX (ld_blk 24 _ rfl w.heap.size rfl 24 _ _ KA.out KA.out.lt Tryd.underlying24 rfl (size_set p)) ?_; simp only [Act.put, List.setIfInBounds_toArray, List.set_cons_zero, List.set_cons_succ]
        refine sx_take (i := 16) (oi := ⟨some 103, _, _, _, _, _⟩) (v := .agg (wds q).toArray) rfl (by kernel_rfl) (by kernel_rfl) (by kernel_rfl) (fun _ _ _ h => h) rfl hX (ld_blk 24 _ rfl w1.heap.size rfl 24 _ _ KB.out KB.out.lt Tryd.underlying24 rfl (size_set q)) ?_; simp only [Act.put, List.setIfInBounds_toArray, List.set_cons_zero, List.set_cons_succ]
        refine sx_actB (i := 17) (o := ⟨some 104, _, _, _, _, _⟩) rfl (by kernel_rfl) rfl hX (fun K hK => ?_)
        go_wp2_with fail
        refine (C.less p q w29).mono ?_
        rintro e w30 ⟨rfl, hb⟩
        rw [HL.out]
        refine hK _ _ (hb.mono SZ.out) ?_
        clear hK K
        replace hX := hX.trans (hb.mono SZ.out)
        replace SZ := Lib.hid (Nat.le_trans SZ.out hb.size)
        clear hb
        refine sx_take (i := 18) (oi := ⟨some 105, _, _, _, _, _⟩) (v := ?_) rfl (by kernel_rfl) (by kernel_rfl) (by kernel_rfl) (fun _ _ _ h => h) rfl hX ?_ ?_; rotate_left; (intro W hW; go_simp; try with_reducible rfl); simp only [Act.put, List.setIfInBounds_toArray, List.set_cons_zero, List.set_cons_succ]
        refine sx_take (i := 19) (oi := ⟨some 106, _, _, _, _, _⟩) (v := .agg (wds q).toArray) rfl (by kernel_rfl) (by kernel_rfl) (by kernel_rfl) (fun _ _ _ h => h) rfl hX (ld_blk 24 _ rfl w1.heap.size rfl 24 _ _ KB.out KB.out.lt Tryd.underlying24 rfl (size_set q)) ?_; simp only [Act.put, List.setIfInBounds_toArray, List.set_cons_zero, List.set_cons_succ]
        refine sx_take (i := 20) (oi := ⟨some 107, _, _, _, _, _⟩) (v := .agg (wds r).toArray) rfl (by kernel_rfl) (by kernel_rfl) (by kernel_rfl) (fun _ _ _ h => h) rfl hX (ld_blk 24 _ rfl w2.heap.size rfl 24 _ _ KC.out KC.out.lt Tryd.underlying24 rfl (size_set r)) ?_; simp only [Act.put, List.setIfInBounds_toArray, List.set_cons_zero, List.set_cons_succ]
        refine sx_actB (i := 21) (o := ⟨some 108, _, _, _, _, _⟩) rfl (by kernel_rfl) rfl hX (fun K hK => ?_)
        go_wp2_with fail
        refine (C.less q r w30).mono ?_
        rintro e w31 ⟨rfl, hb⟩
        rw [HL2.out]
        refine hK _ _ (hb.mono SZ.out) ?_
        clear hK K
        replace hX := hX.trans (hb.mono SZ.out)
        replace SZ := Lib.hid (Nat.le_trans SZ.out hb.size)
        clear hb
        refine sx_take (i := 22) (oi := ⟨some 109, _, _, _, _, _⟩) (v := ?_) rfl (by kernel_rfl) (by kernel_rfl) (by kernel_rfl) (fun _ _ _ h => h) rfl hX ?_ ?_; rotate_left; (intro W hW; go_simp; try with_reducible rfl); simp only [Act.put, List.setIfInBounds_toArray, List.set_cons_zero, List.set_cons_succ]
        refine sx_take (i := 23) (oi := ⟨some 110, _, _, _, _, _⟩) (v := ?_) rfl (by kernel_rfl) (by kernel_rfl) (by kernel_rfl) (fun _ _ _ h => h) rfl hX ?_ ?_; rotate_left; (intro W hW; go_simp; try with_reducible rfl); simp only [Act.put, List.setIfInBounds_toArray, List.set_cons_zero, List.set_cons_succ]
        refine sx_take (i := 24) (oi := ⟨some 111, _, _, _, _, _⟩) (v := .agg (wds p).toArray) rfl (by kernel_rfl) (by kernel_rfl) (by kernel_rfl) (fun _ _ _ h => h) rfl hX (ld_blk 24 _ rfl w.heap.size rfl 24 _ _ KA.out KA.out.lt Tryd.underlying24 rfl (size_set p)) ?_; simp only [Act.put, List.setIfInBounds_toArray, List.set_cons_zero, List.set_cons_succ]
        refine sx_take (i := 25) (oi := ⟨some 112, _, _, _, _, _⟩) (v := .agg (wds r).toArray) rfl (by kernel_rfl) (by kernel_rfl) (by kernel_rfl) (fun _ _ _ h => h) rfl hX (ld_blk 24 _ rfl w2.heap.size rfl 24 _ _ KC.out KC.out.lt Tryd.underlying24 rfl (size_set r)) ?_; simp only [Act.put, List.setIfInBounds_toArray, List.set_cons_zero, List.set_cons_succ]
        refine sx_actB (i := 26) (o := ⟨some 113, _, _, _, _, _⟩) rfl (by kernel_rfl) rfl hX (fun K hK => ?_)
        go_wp2_with fail
        refine (C.less p r w31).mono ?_
        rintro e w32 ⟨rfl, hb⟩
        rw [HL3.out]
        refine hK _ _ (hb.mono SZ.out) ?_
        clear hK K
        replace hX := hX.trans (hb.mono SZ.out)
        replace SZ := Lib.hid (Nat.le_trans SZ.out hb.size)
        clear hb
        refine sx_take (i := 27) (oi := ⟨some 114, _, _, _, _, _⟩) (v := ?_) rfl (by kernel_rfl) (by kernel_rfl) (by kernel_rfl) (fun _ _ _ h => h) rfl hX ?_ ?_; rotate_left; (intro W hW; go_simp; try with_reducible rfl); simp only [Act.put, List.setIfInBounds_toArray, List.set_cons_zero, List.set_cons_succ]
        refine sx_take (i := 28) (oi := ⟨some 115, _, _, _, _, _⟩) (v := ?_) rfl (by kernel_rfl) (by kernel_rfl) (by kernel_rfl) (fun _ _ _ h => h) rfl hX ?_ ?_; rotate_left; (intro W hW; go_simp; try with_reducible rfl); simp only [Act.put, List.setIfInBounds_toArray, List.set_cons_zero, List.set_cons_succ]
        refine sx_take (i := 29) (oi := ⟨some 116, _, _, _, _, _⟩) (v := ?_) rfl (by kernel_rfl) (by kernel_rfl) (by kernel_rfl) (fun _ _ _ h => h) rfl hX ?_ ?_; rotate_left; (intro W hW; go_simp; try with_reducible rfl); simp only [Act.put, List.setIfInBounds_toArray, List.set_cons_zero, List.set_cons_succ]
        refine sx_take (i := 30) (oi := ⟨some 117, _, _, _, _, _⟩) (v := ?_) rfl (by kernel_rfl) (by kernel_rfl) (by kernel_rfl) (fun _ _ _ h => h) rfl hX ?_ ?_; rotate_left; (intro W hW; go_simp; try with_reducible rfl); simp only [Act.put, List.setIfInBounds_toArray, List.set_cons_zero, List.set_cons_succ]
        refine sx_take (i := 31) (oi := ⟨some 13, _, _, _, _, _⟩) (v := ?_) rfl (by kernel_rfl) (by kernel_rfl) (by kernel_rfl) (fun _ _ _ h => h) rfl hX ?_ ?_; rotate_left; (intro W hW; go_simp; try with_reducible rfl); simp only [Act.put, List.setIfInBounds_toArray, List.set_cons_zero, List.set_cons_succ]
        refine wpAnyH_done (by kernel_rfl) ?_ _
        replace KA := Lib.hid (KA.out.below hX KA.out.lt)
        replace KB := Lib.hid (KB.out.below hX KB.out.lt)
        replace KC := Lib.hid (KC.out.below hX KC.out.lt)
        replace BX := Lib.hid (BX.out.trans (hX.mono BX.out.size))
        clear hX SZ
        go_wp2_with fail
        refine sx_startB (B := w32.heap.size) (w0 := w32) (by kernel_rfl) (Below.refl _ _) (fun w40 hwd hX => ?_)
        have SZ := Lib.hid hX.size
        clear hwd
        refine sx_take (i := 0) (oi := ⟨some 118, _, _, _, _, _⟩) (v := ?_) rfl (by kernel_rfl) (by kernel_rfl) (by kernel_rfl) (fun _ _ _ h => h) rfl hX ?_ ?_; rotate_left; (intro W hW; go_simp; try with_reducible rfl); simp only [Act.put, List.setIfInBounds_toArray, List.set_cons_zero, List.set_cons_succ]
        refine sx_take (i := 1) (oi := ⟨some 119, _, _, _, _, _⟩) (v := ?_) rfl (by kernel_rfl) (by kernel_rfl) (by kernel_rfl) (fun _ _ _ h => h) rfl hX ?_ ?_; rotate_left; (intro W hW; go_simp; try with_reducible rfl); simp only [Act.put, List.setIfInBounds_toArray, List.set_cons_zero, List.set_cons_succ]
        refine sx_take (i := 2) (oi := ⟨some 120, _, _, _, _, _⟩) (v := ?_) rfl (by kernel_rfl) (by kernel_rfl) (by kernel_rfl) (fun _ _ _ h => h) rfl hX ?_ ?_; rotate_left; (intro W hW; go_simp; try with_reducible rfl); simp only [Act.put, List.setIfInBounds_toArray, List.set_cons_zero, List.set_cons_succ]
        refine sx_take (i := 3) (oi := ⟨some 121, _, _, _, _, _⟩) (v := ?_) rfl (by kernel_rfl) (by kernel_rfl) (by kernel_rfl) (fun _ _ _ h => h) rfl hX ?_ ?_; rotate_left; (intro W hW; go_simp; try with_reducible rfl); simp only [Act.put, List.setIfInBounds_toArray, List.set_cons_zero, List.set_cons_succ]
        refine sx_take (i := 4) (oi := ⟨some 122, _, _, _, _, _⟩) (v := ?_) rfl (by kernel_rfl) (by kernel_rfl) (by kernel_rfl) (fun _ _ _ h => h) rfl hX ?_ ?_; rotate_left; (intro W hW; go_simp; try with_reducible rfl); simp only [Act.put, List.setIfInBounds_toArray, List.set_cons_zero, List.set_cons_succ]
        refine sx_take (i := 5) (oi := ⟨some 123, _, _, _, _, _⟩) (v := ?_) rfl (by kernel_rfl) (by kernel_rfl) (by kernel_rfl) (fun _ _ _ h => h) rfl hX ?_ ?_; rotate_left; (intro W hW; go_simp; try with_reducible rfl); simp only [Act.put, List.setIfInBounds_toArray, List.set_cons_zero, List.set_cons_succ]
        refine sx_take (i := 6) (oi := ⟨some 124, _, _, _, _, _⟩) (v := ?_) rfl (by kernel_rfl) (by kernel_rfl) (by kernel_rfl) (fun _ _ _ h => h) rfl hX ?_ ?_; rotate_left; (intro W hW; go_simp; try with_reducible rfl); simp only [Act.put, List.setIfInBounds_toArray, List.set_cons_zero, List.set_cons_succ]
        refine sx_take (i := 7) (oi := ⟨some 125, _, _, _, _, _⟩) (v := ?_) rfl (by kernel_rfl) (by kernel_rfl) (by kernel_rfl) (fun _ _ _ h => h) rfl hX ?_ ?_; rotate_left; (intro W hW; go_simp; try with_reducible rfl); simp only [Act.put, List.setIfInBounds_toArray, List.set_cons_zero, List.set_cons_succ]
        refine sx_take (i := 8) (oi := ⟨some 126, _, _, _, _, _⟩) (v := .agg (wds p).toArray) rfl (by kernel_rfl) (by kernel_rfl) (by kernel_rfl) (fun _ _ _ h => h) rfl hX (ld_blk 24 _ rfl w.heap.size rfl 24 _ _ KA.out KA.out.lt Tryd.underlying24 rfl (size_set p)) ?_; simp only [Act.put, List.setIfInBounds_toArray, List.set_cons_zero, List.set_cons_succ]
        refine sx_take (i := 11) (oi := ⟨some 129, _, _, _, _, _⟩) (v := .agg (wds p).toArray) rfl (by kernel_rfl) (by kernel_rfl) (by kernel_rfl) (fun _ _ _ h => h) rfl hX (ld_blk 24 _ rfl w.heap.size rfl 24 _ _ KA.out KA.out.lt Tryd.underlying24 rfl (size_set p)) ?_; simp only [Act.put, List.setIfInBounds_toArray, List.set_cons_zero, List.set_cons_succ]
        refine sx_actB (i := 9) (o := ⟨some 127, _, _, _, _, _⟩) rfl (by kernel_rfl) rfl hX (fun K hK => ?_)
        go_wp2_with fail
        refine (C.list p w40 (HT.out.belowG (BX.out.trans (hX.mono BX.out.size)) HT.out.lt)).mono ?_
        rintro e w41 ⟨v7, rfl, hr7, hb⟩
        rw [HM.out] at hr7
        have R7 := Lib.hid hr7
        clear hr7
        refine hK _ _ (hb.mono SZ.out) ?_
        clear hK K
        replace hX := hX.trans (hb.mono SZ.out)
        replace SZ := Lib.hid (Nat.le_trans SZ.out hb.size)
        clear hb
        refine sx_actB (i := 10) (o := ⟨some 128, _, _, _, _, _⟩) rfl (by kernel_rfl) rfl hX (fun K hK => ?_)
        go_wp2_with fail
        refine (C.of _ m w41 R7.out hml).mono ?_
        rintro e w42 ⟨rfl, hb⟩
        rw [HR7.out]
        refine hK _ _ (hb.mono SZ.out) ?_
        clear hK K
        replace hX := hX.trans (hb.mono SZ.out)
        replace SZ := Lib.hid (Nat.le_trans SZ.out hb.size)
        clear hb
        refine sx_take (i := 12) (oi := ⟨some 130, _, _, _, _, _⟩) (v := .bool true) rfl (by kernel_rfl) (by kernel_rfl) (by kernel_rfl) (fun _ _ _ h => h) rfl hX (eq_is HE7.out 24 22 (.tmp 128) (.tmp 129) 24 rfl guard_set Tryd.underlying24 Tryd.underlying22 size_u64 rfl rfl) ?_; simp only [Act.put, List.setIfInBounds_toArray, List.set_cons_zero, List.set_cons_succ]
        refine sx_take (i := 13) (oi := ⟨some 131, _, _, _, _, _⟩) (v := ?_) rfl (by kernel_rfl) (by kernel_rfl) (by kernel_rfl) (fun _ _ _ h => h) rfl hX ?_ ?_; rotate_left; (intro W hW; go_simp; try with_reducible rfl); simp only [Act.put, List.setIfInBounds_toArray, List.set_cons_zero, List.set_cons_succ]
        refine sx_take (i := 14) (oi := ⟨some 8, _, _, _, _, _⟩) (v := ?_) rfl (by kernel_rfl) (by kernel_rfl) (by kernel_rfl) (fun _ _ _ h => h) rfl hX ?_ ?_; rotate_left; (intro W hW; go_simp; try with_reducible rfl); simp only [Act.put, List.setIfInBounds_toArray, List.set_cons_zero, List.set_cons_succ]
        refine wpAnyH_done (by kernel_rfl) ?_ _
        go_wp2_with fail
        go_ret
        exact ⟨rfl, BX.out.trans (hX.mono BX.out.size)⟩
      | false =>
        have HL2 := Lib.hid hL2
        clear hL hL2
        refine sx_take (i := 0) (oi := ⟨some 87, _, _, _, _, _⟩) (v := .agg (wds p).toArray) rfl (by kernel_rfl) (by kernel_rfl) (by kernel_rfl) (fun _ _ _ h => h) rfl hX (ld_blk 24 _ rfl w.heap.size rfl 24 _ _ KA.out KA.out.lt Tryd.underlying24 rfl (size_set p)) ?_; simp only [Act.put, List.setIfInBounds_toArray, List.set_cons_zero, List.set_cons_succ]
        refine sx_take (i := 1) (oi := ⟨some 88, _, _, _, _, _⟩) (v := .agg (wds q).toArray) rfl (by kernel_rfl) (by kernel_rfl) (by kernel_rfl) (fun _ _ _ h => h) rfl hX (ld_blk 24 _ rfl w1.heap.size rfl 24 _ _ KB.out KB.out.lt Tryd.underlying24 rfl (size_set q)) ?_; simp only [Act.put, List.setIfInBounds_toArray, List.set_cons_zero, List.set_cons_succ]
        refine sx_take (i := 2) (oi := ⟨some 89, _, _, _, _, _⟩) (v := .bool false) rfl (by kernel_rfl) (by kernel_rfl) (by kernel_rfl) (fun _ _ _ h => h) rfl hX (eq_is HE.out 24 22 (.tmp 87) (.tmp 88) 24 rfl guard_set Tryd.underlying24 Tryd.underlying22 size_u64 rfl rfl) ?_; simp only [Act.put, List.setIfInBounds_toArray, List.set_cons_zero, List.set_cons_succ]
        refine sx_take (i := 3) (oi := ⟨some 90, _, _, _, _, _⟩) (v := .agg (wds p).toArray) rfl (by kernel_rfl) (by kernel_rfl) (by kernel_rfl) (fun _ _ _ h => h) rfl hX (ld_blk 24 _ rfl w.heap.size rfl 24 _ _ KA.out KA.out.lt Tryd.underlying24 rfl (size_set p)) ?_; simp only [Act.put, List.setIfInBounds_toArray, List.set_cons_zero, List.set_cons_succ]
        refine sx_take (i := 4) (oi := ⟨some 91, _, _, _, _, _⟩) (v := .agg (wds q).toArray) rfl (by kernel_rfl) (by kernel_rfl) (by kernel_rfl) (fun _ _ _ h => h) rfl hX (ld_blk 24 _ rfl w1.heap.size rfl 24 _ _ KB.out KB.out.lt Tryd.underlying24 rfl (size_set q)) ?_; simp only [Act.put, List.setIfInBounds_toArray, List.set_cons_zero, List.set_cons_succ]
        refine sx_actB (i := 5) (o := ⟨some 92, _, _, _, _, _⟩) rfl (by kernel_rfl) rfl hX (fun K hK => ?_)
        go_wp2_with fail
        refine (C.less p q w28).mono ?_
        rintro e w29 ⟨rfl, hb⟩
        rw [HL.out]
        refine hK _ _ (hb.mono SZ.out) ?_
        clear hK K
        replace hX := hX.trans (hb.mono SZ.out)
        replace SZ := Lib.hid (Nat.le_trans SZ.out hb.size)
        clear hb
        refine sx_take (i := 6) (oi := ⟨some 93, _, _, _, _, _⟩) (v := ?_) rfl (by kernel_rfl) (by kernel_rfl) (by kernel_rfl) (fun _ _ _ h => h) rfl hX ?_ ?_; rotate_left; (intro W hW; go_simp; try with_reducible rfl); simp only [Act.put, List.setIfInBounds_toArray, List.set_cons_zero, List.set_cons_succ]
        refine sx_take (i := 7) (oi := ⟨some 94, _, _, _, _, _⟩) (v := ?_) rfl (by kernel_rfl) (by kernel_rfl) (by kernel_rfl) (fun _ _ _ h => h) rfl hX ?_ ?_; rotate_left; (intro W hW; go_simp; try with_reducible rfl); simp only [Act.put, List.setIfInBounds_toArray, List.set_cons_zero, List.set_cons_succ]
        refine sx_skip (i := 8) (oi := ⟨some 95, _, _, _, _, _⟩) rfl (by kernel_rfl) (by kernel_rfl) (by kernel_rfl) (fun _ _ _ h => h) rfl hX ?_; simp only [Act.put, List.setIfInBounds_toArray, List.set_cons_zero, List.set_cons_succ]
        refine sx_skip (i := 9) (oi := ⟨some 96, _, _, _, _, _⟩) rfl (by kernel_rfl) (by kernel_rfl) (by kernel_rfl) (fun _ _ _ h => h) rfl hX ?_; simp only [Act.put, List.setIfInBounds_toArray, List.set_cons_zero, List.set_cons_succ]
        refine sx_skip (i := 10) (oi := ⟨some 97, _, _, _, _, _⟩) rfl (by kernel_rfl) (by kernel_rfl) (by kernel_rfl) (fun _ _ _ h => h) rfl hX ?_; simp only [Act.put, List.setIfInBounds_toArray, List.set_cons_zero, List.set_cons_succ]
        refine sx_skip (i := 11) (oi := ⟨some 98, _, _, _, _, _⟩) rfl (by kernel_rfl) (by kernel_rfl) (by kernel_rfl) (fun _ _ _ h => h) rfl hX ?_; simp only [Act.put, List.setIfInBounds_toArray, List.set_cons_zero, List.set_cons_succ]
        refine sx_take (i := 12) (oi := ⟨some 99, _, _, _, _, _⟩) (v := ?_) rfl (by kernel_rfl) (by kernel_rfl) (by kernel_rfl) (fun _ _ _ h => h) rfl hX ?_ ?_; rotate_left; (intro W hW; go_simp; try with_reducible rfl); simp only [Act.put, List.setIfInBounds_toArray, List.set_cons_zero, List.set_cons_succ]
        refine sx_take (i := 13) (oi := ⟨some 100, _, _, _, _, _⟩) (v := ?_) rfl (by kernel_rfl) (by kernel_rfl) (by kernel_rfl) (fun _ _ _ h => h) rfl hX ?_ ?_; rotate_left; (intro W hW; go_simp; try with_reducible rfl); simp only [Act.put, List.setIfInBounds_toArray, List.set_cons_zero, List.set_cons_succ]
        refine sx_take (i := 14) (oi := ⟨some 101, _, _, _, _, _⟩) (v := ?_) rfl (by kernel_rfl) (by kernel_rfl) (by kernel_rfl) (fun _ _ _ h => h) rfl hX ?_ ?_; rotate_left; (intro W hW; go_simp; try with_reducible rfl); simp only [Act.put, List.setIfInBounds_toArray, List.set_cons_zero, List.set_cons_succ]
        refine sx_take (i := 15) (oi := ⟨some 102, _, _, _, _, _⟩) (v := .agg (wds p).toArray) rfl (by kernel_rfl) (by kernel_rfl) (by kernel_rfl) (fun _ _ _ h => h) rfl hX (ld_blk 24 _ rfl w.heap.size rfl 24 _ _ KA.out KA.out.lt Tryd.underlying24 rfl (size_set p)) ?_; simp only [Act.put, List.setIfInBounds_toArray, List.set_cons_zero, List.set_cons_succ]
        refine sx_take (i := 16) (oi := ⟨some 103, _, _, _, _, _⟩) (v := .agg (wds q).toArray) rfl (by kernel_rfl) (by kernel_rfl) (by kernel_rfl) (fun _ _ _ h => h) rfl hX (ld_blk 24 _ rfl w1.heap.size rfl 24 _ _ KB.out KB.out.lt Tryd.underlying24 rfl (size_set q)) ?_; simp only [Act.put, List.setIfInBounds_toArray, List.set_cons_zero, List.set_cons_succ]
        refine sx_actB (i := 17) (o := ⟨some 104, _, _, _, _, _⟩) rfl (by kernel_rfl) rfl hX (fun K hK => ?_)
        go_wp2_with fail
        refine (C.less p q w29).mono ?_
        rintro e w30 ⟨rfl, hb⟩
        rw [HL.out]
        refine hK _ _ (hb.mono SZ.out) ?_
        clear hK K
        replace hX := hX.trans (hb.mono SZ.out)
        replace SZ := Lib.hid (Nat.le_trans SZ.out hb.size)
        clear hb
        refine sx_take (i := 18) (oi := ⟨some 105, _, _, _, _, _⟩) (v := ?_) rfl (by kernel_rfl) (by kernel_rfl) (by kernel_rfl) (fun _ _ _ h => h) rfl hX ?_ ?_; rotate_left; (intro W hW; go_simp; try with_reducible rfl); simp only [Act.put, List.setIfInBounds_toArray, List.set_cons_zero, List.set_cons_succ]
        refine sx_take (i := 19) (oi := ⟨some 106, _, _, _, _, _⟩) (v := .agg (wds q).toArray) rfl (by kernel_rfl) (by kernel_rfl) (by kernel_rfl) (fun _ _ _ h => h) rfl hX (ld_blk 24 _ rfl w1.heap.size rfl 24 _ _ KB.out KB.out.lt Tryd.underlying24 rfl (size_set q)) ?_; simp only [Act.put, List.setIfInBounds_toArray, List.set_cons_zero, List.set_cons_succ]
        refine sx_take (i := 20) (oi := ⟨some 107, _, _, _, _, _⟩) (v := .agg (wds r).toArray) rfl (by kernel_rfl) (by kernel_rfl) (by kernel_rfl) (fun _ _ _ h => h) rfl hX (ld_blk 24 _ rfl w2.heap.size rfl 24 _ _ KC.out KC.out.lt Tryd.underlying24 rfl (size_set r)) ?_; simp only [Act.put, List.setIfInBounds_toArray, List.set_cons_zero, List.set_cons_succ]
        refine sx_actB (i := 21) (o := ⟨some 108, _, _, _, _, _⟩) rfl (by kernel_rfl) rfl hX (fun K hK => ?_)
        go_wp2_with fail
        refine (C.less q r w30).mono ?_
        rintro e w31 ⟨rfl, hb⟩
        rw [HL2.out]
        refine hK _ _ (hb.mono SZ.out) ?_
        clear hK K
        replace hX := hX.trans (hb.mono SZ.out)
        replace SZ := Lib.hid (Nat.le_trans SZ.out hb.size)
        clear hb
        refine sx_take (i := 22) (oi := ⟨some 109, _, _, _, _, _⟩) (v := ?_) rfl (by kernel_rfl) (by kernel_rfl) (by kernel_rfl) (fun _ _ _ h => h) rfl hX ?_ ?_; rotate_left; (intro W hW; go_simp; try with_reducible rfl); simp only [Act.put, List.setIfInBounds_toArray, List.set_cons_zero, List.set_cons_succ]
        refine sx_take (i := 23) (oi := ⟨some 110, _, _, _, _, _⟩) (v := ?_) rfl (by kernel_rfl) (by kernel_rfl) (by kernel_rfl) (fun _ _ _ h => h) rfl hX ?_ ?_; rotate_left; (intro W hW; go_simp; try with_reducible rfl); simp only [Act.put, List.setIfInBounds_toArray, List.set_cons_zero, List.set_cons_succ]
        refine sx_skip (i := 24) (oi := ⟨some 111, _, _, _, _, _⟩) rfl (by kernel_rfl) (by kernel_rfl) (by kernel_rfl) (fun _ _ _ h => h) rfl hX ?_; simp only [Act.put, List.setIfInBounds_toArray, List.set_cons_zero, List.set_cons_succ]
        refine sx_skip (i := 25) (oi := ⟨some 112, _, _, _, _, _⟩) rfl (by kernel_rfl) (by kernel_rfl) (by kernel_rfl) (fun _ _ _ h => h) rfl hX ?_; simp only [Act.put, List.setIfInBounds_toArray, List.set_cons_zero, List.set_cons_succ]
        refine sx_skip (i := 26) (oi := ⟨some 113, _, _, _, _, _⟩) rfl (by kernel_rfl) (by kernel_rfl) (by kernel_rfl) (fun _ _ _ h => h) rfl hX ?_; simp only [Act.put, List.setIfInBounds_toArray, List.set_cons_zero, List.set_cons_succ]
        refine sx_skip (i := 27) (oi := ⟨some 114, _, _, _, _, _⟩) rfl (by kernel_rfl) (by kernel_rfl) (by kernel_rfl) (fun _ _ _ h => h) rfl hX ?_; simp only [Act.put, List.setIfInBounds_toArray, List.set_cons_zero, List.set_cons_succ]
        refine sx_take (i := 28) (oi := ⟨some 115, _, _, _, _, _⟩) (v := ?_) rfl (by kernel_rfl) (by kernel_rfl) (by kernel_rfl) (fun _ _ _ h => h) rfl hX ?_ ?_; rotate_left; (intro W hW; go_simp; try with_reducible rfl); simp only [Act.put, List.setIfInBounds_toArray, List.set_cons_zero, List.set_cons_succ]
        refine sx_take (i := 29) (oi := ⟨some 116, _, _, _, _, _⟩) (v := ?_) rfl (by kernel_rfl) (by kernel_rfl) (by kernel_rfl) (fun _ _ _ h => h) rfl hX ?_ ?_; rotate_left; (intro W hW; go_simp; try with_reducible rfl); simp only [Act.put, List.setIfInBounds_toArray, List.set_cons_zero, List.set_cons_succ]
        refine sx_take (i := 30) (oi := ⟨some 117, _, _, _, _, _⟩) (v := ?_) rfl (by kernel_rfl) (by kernel_rfl) (by kernel_rfl) (fun _ _ _ h => h) rfl hX ?_ ?_; rotate_left; (intro W hW; go_simp; try with_reducible rfl); simp only [Act.put, List.setIfInBounds_toArray, List.set_cons_zero, List.set_cons_succ]
        refine sx_take (i := 31) (oi := ⟨some 13, _, _, _, _, _⟩) (v := ?_) rfl (by kernel_rfl) (by kernel_rfl) (by kernel_rfl) (fun _ _ _ h => h) rfl hX ?_ ?_; rotate_left; (intro W hW; go_simp; try with_reducible rfl); simp only [Act.put, List.setIfInBounds_toArray, List.set_cons_zero, List.set_cons_succ]
        refine wpAnyH_done (by kernel_rfl) ?_ _
        replace KA := Lib.hid (KA.out.below hX KA.out.lt)
        replace KB := Lib.hid (KB.out.below hX KB.out.lt)
        replace KC := Lib.hid (KC.out.below hX KC.out.lt)
        replace BX := Lib.hid (BX.out.trans (hX.mono BX.out.size))
        clear hX SZ
        go_wp2_with fail
        refine sx_startB (B := w31.heap.size) (w0 := w31) (by kernel_rfl) (Below.refl _ _) (fun w40 hwd hX => ?_)
        have SZ := Lib.hid hX.size
        clear hwd
        refine sx_take (i := 0) (oi := ⟨some 118, _, _, _, _, _⟩) (v := ?_) rfl (by kernel_rfl) (by kernel_rfl) (by kernel_rfl) (fun _ _ _ h => h) rfl hX ?_ ?_; rotate_left; (intro W hW; go_simp; try with_reducible rfl); simp only [Act.put, List.setIfInBounds_toArray, List.set_cons_zero, List.set_cons_succ]
        refine sx_take (i := 1) (oi := ⟨some 119, _, _, _, _, _⟩) (v := ?_) rfl (by kernel_rfl) (by kernel_rfl) (by kernel_rfl) (fun _ _ _ h => h) rfl hX ?_ ?_; rotate_left; (intro W hW; go_simp; try with_reducible rfl); simp only [Act.put, List.setIfInBounds_toArray, List.set_cons_zero, List.set_cons_succ]
        refine sx_take (i := 2) (oi := ⟨some 120, _, _, _, _, _⟩) (v := ?_) rfl (by kernel_rfl) (by kernel_rfl) (by kernel_rfl) (fun _ _ _ h => h) rfl hX ?_ ?_; rotate_left; (intro W hW; go_simp; try with_reducible rfl); simp only [Act.put, List.setIfInBounds_toArray, List.set_cons_zero, List.set_cons_succ]
        refine sx_take (i := 3) (oi := ⟨some 121, _, _, _, _, _⟩) (v := ?_) rfl (by kernel_rfl) (by kernel_rfl) (by kernel_rfl) (fun _ _ _ h => h) rfl hX ?_ ?_; rotate_left; (intro W hW; go_simp; try with_reducible rfl); simp only [Act.put, List.setIfInBounds_toArray, List.set_cons_zero, List.set_cons_succ]
        refine sx_take (i := 4) (oi := ⟨some 122, _, _, _, _, _⟩) (v := ?_) rfl (by kernel_rfl) (by kernel_rfl) (by kernel_rfl) (fun _ _ _ h => h) rfl hX ?_ ?_; rotate_left; (intro W hW; go_simp; try with_reducible rfl); simp only [Act.put, List.setIfInBounds_toArray, List.set_cons_zero, List.set_cons_succ]
        refine sx_take (i := 5) (oi := ⟨some 123, _, _, _, _, _⟩) (v := ?_) rfl (by kernel_rfl) (by kernel_rfl) (by kernel_rfl) (fun _ _ _ h => h) rfl hX ?_ ?_; rotate_left; (intro W hW; go_simp; try with_reducible rfl); simp only [Act.put, List.setIfInBounds_toArray, List.set_cons_zero, List.set_cons_succ]
        refine sx_take (i := 6) (oi := ⟨some 124, _, _, _, _, _⟩) (v := ?_) rfl (by kernel_rfl) (by kernel_rfl) (by kernel_rfl) (fun _ _ _ h => h) rfl hX ?_ ?_; rotate_left; (intro W hW; go_simp; try with_reducible rfl); simp only [Act.put, List.setIfInBounds_toArray, List.set_cons_zero, List.set_cons_succ]
        refine sx_take (i := 7) (oi := ⟨some 125, _, _, _, _, _⟩) (v := ?_) rfl (by kernel_rfl) (by kernel_rfl) (by kernel_rfl) (fun _ _ _ h => h) rfl hX ?_ ?_; rotate_left; (intro W hW; go_simp; try with_reducible rfl); simp only [Act.put, List.setIfInBounds_toArray, List.set_cons_zero, List.set_cons_succ]
        refine sx_take (i := 8) (oi := ⟨some 126, _, _, _, _, _⟩) (v := .agg (wds p).toArray) rfl (by kernel_rfl) (by kernel_rfl) (by kernel_rfl) (fun _ _ _ h => h) rfl hX (ld_blk 24 _ rfl w.heap.size rfl 24 _ _ KA.out KA.out.lt Tryd.underlying24 rfl (size_set p)) ?_; simp only [Act.put, List.setIfInBounds_toArray, List.set_cons_zero, List.set_cons_succ]
        refine sx_take (i := 11) (oi := ⟨some 129, _, _, _, _, _⟩) (v := .agg (wds p).toArray) rfl (by kernel_rfl) (by kernel_rfl) (by kernel_rfl) (fun _ _ _ h => h) rfl hX (ld_blk 24 _ rfl w.heap.size rfl 24 _ _ KA.out KA.out.lt Tryd.underlying24 rfl (size_set p)) ?_; simp only [Act.put, List.setIfInBounds_toArray, List.set_cons_zero, List.set_cons_succ]
        refine sx_actB (i := 9) (o := ⟨some 127, _, _, _, _, _⟩) rfl (by kernel_rfl) rfl hX (fun K hK => ?_)
        go_wp2_with fail
        refine (C.list p w40 (HT.out.belowG (BX.out.trans (hX.mono BX.out.size)) HT.out.lt)).mono ?_
        rintro e w41 ⟨v7, rfl, hr7, hb⟩
        rw [HM.out] at hr7
        have R7 := Lib.hid hr7
        clear hr7
        refine hK _ _ (hb.mono SZ.out) ?_
        clear hK K
        replace hX := hX.trans (hb.mono SZ.out)
        replace SZ := Lib.hid (Nat.le_trans SZ.out hb.size)
        clear hb
        refine sx_actB (i := 10) (o := ⟨some 128, _, _, _, _, _⟩) rfl (by kernel_rfl) rfl hX (fun K hK => ?_)
        go_wp2_with fail
        refine (C.of _ m w41 R7.out hml).mono ?_
        rintro e w42 ⟨rfl, hb⟩
        rw [HR7.out]
        refine hK _ _ (hb.mono SZ.out) ?_
        clear hK K
        replace hX := hX.trans (hb.mono SZ.out)
        replace SZ := Lib.hid (Nat.le_trans SZ.out hb.size)
        clear hb
        refine sx_take (i := 12) (oi := ⟨some 130, _, _, _, _, _⟩) (v := .bool true) rfl (by kernel_rfl) (by kernel_rfl) (by kernel_rfl) (fun _ _ _ h => h) rfl hX (eq_is HE7.out 24 22 (.tmp 128) (.tmp 129) 24 rfl guard_set Tryd.underlying24 Tryd.underlying22 size_u64 rfl rfl) ?_; simp only [Act.put, List.setIfInBounds_toArray, List.set_cons_zero, List.set_cons_succ]
        refine sx_take (i := 13) (oi := ⟨some 131, _, _, _, _, _⟩) (v := ?_) rfl (by kernel_rfl) (by kernel_rfl) (by kernel_rfl) (fun _ _ _ h => h) rfl hX ?_ ?_; rotate_left; (intro W hW; go_simp; try with_reducible rfl); simp only [Act.put, List.setIfInBounds_toArray, List.set_cons_zero, List.set_cons_succ]
        refine sx_take (i := 14) (oi := ⟨some 8, _, _, _, _, _⟩) (v := ?_) rfl (by kernel_rfl) (by kernel_rfl) (by kernel_rfl) (fun _ _ _ h => h) rfl hX ?_ ?_; rotate_left; (intro W hW; go_simp; try with_reducible rfl); simp only [Act.put, List.setIfInBounds_toArray, List.set_cons_zero, List.set_cons_succ]
        refine wpAnyH_done (by kernel_rfl) ?_ _
        go_wp2_with fail
        go_ret
        exact ⟨rfl, BX.out.trans (hX.mono BX.out.size)⟩
    | false =>
      have HL := Lib.hid hL
      obtain ⟨y, hy⟩ : ∃ y : Bool, lessS q p = y := ⟨_, rfl⟩
      have HE := Lib.hid (show eqS p q = !y by rw [← hy]; exact lessS_not hL)
      have HY := Lib.hid hy
      clear hL hy
      refine sx_take (i := 0) (oi := ⟨some 87, _, _, _, _, _⟩) (v := .agg (wds p).toArray) rfl (by kernel_rfl) (by kernel_rfl) (by kernel_rfl) (fun _ _ _ h => h) rfl hX (ld_blk 24 _ rfl w.heap.size rfl 24 _ _ KA.out KA.out.lt Tryd.underlying24 rfl (size_set p)) ?_; simp only [Act.put, List.setIfInBounds_toArray, List.set_cons_zero, List.set_cons_succ]
      refine sx_take (i := 1) (oi := ⟨some 88, _, _, _, _, _⟩) (v := .agg (wds q).toArray) rfl (by kernel_rfl) (by kernel_rfl) (by kernel_rfl) (fun _ _ _ h => h) rfl hX (ld_blk 24 _ rfl w1.heap.size rfl 24 _ _ KB.out KB.out.lt Tryd.underlying24 rfl (size_set q)) ?_; simp only [Act.put, List.setIfInBounds_toArray, List.set_cons_zero, List.set_cons_succ]
      refine sx_take (i := 2) (oi := ⟨some 89, _, _, _, _, _⟩) (v := .bool !y) rfl (by kernel_rfl) (by kernel_rfl) (by kernel_rfl) (fun _ _ _ h => h) rfl hX (eq_is HE.out 24 22 (.tmp 87) (.tmp 88) 24 rfl guard_set Tryd.underlying24 Tryd.underlying22 size_u64 rfl rfl) ?_; simp only [Act.put, List.setIfInBounds_toArray, List.set_cons_zero, List.set_cons_succ]
      refine sx_take (i := 3) (oi := ⟨some 90, _, _, _, _, _⟩) (v := .agg (wds p).toArray) rfl (by kernel_rfl) (by kernel_rfl) (by kernel_rfl) (fun _ _ _ h => h) rfl hX (ld_blk 24 _ rfl w.heap.size rfl 24 _ _ KA.out KA.out.lt Tryd.underlying24 rfl (size_set p)) ?_; simp only [Act.put, List.setIfInBounds_toArray, List.set_cons_zero, List.set_cons_succ]
      refine sx_take (i := 4) (oi := ⟨some 91, _, _, _, _, _⟩) (v := .agg (wds q).toArray) rfl (by kernel_rfl) (by kernel_rfl) (by kernel_rfl) (fun _ _ _ h => h) rfl hX (ld_blk 24 _ rfl w1.heap.size rfl 24 _ _ KB.out KB.out.lt Tryd.underlying24 rfl (size_set q)) ?_; simp only [Act.put, List.setIfInBounds_toArray, List.set_cons_zero, List.set_cons_succ]
      refine sx_actB (i := 5) (o := ⟨some 92, _, _, _, _, _⟩) rfl (by kernel_rfl) rfl hX (fun K hK => ?_)
      go_wp2_with fail
      refine (C.less p q w28).mono ?_
      rintro e w29 ⟨rfl, hb⟩
      rw [HL.out]
      refine hK _ _ (hb.mono SZ.out) ?_
      clear hK K
      replace hX := hX.trans (hb.mono SZ.out)
      replace SZ := Lib.hid (Nat.le_trans SZ.out hb.size)
      clear hb
      refine sx_take (i := 6) (oi := ⟨some 93, _, _, _, _, _⟩) (v := ?_) rfl (by kernel_rfl) (by kernel_rfl) (by kernel_rfl) (fun _ _ _ h => h) rfl hX ?_ ?_; rotate_left; (intro W hW; go_simp; try with_reducible rfl); simp only [Act.put, List.setIfInBounds_toArray, List.set_cons_zero, List.set_cons_succ]
      refine sx_take (i := 7) (oi := ⟨some 94, _, _, _, _, _⟩) (v := ?_) rfl (by kernel_rfl) (by kernel_rfl) (by kernel_rfl) (fun _ _ _ h => h) rfl hX ?_ ?_; rotate_left; (intro W hW; go_simp; try with_reducible rfl); simp only [Act.put, List.setIfInBounds_toArray, List.set_cons_zero, List.set_cons_succ]
      refine sx_take (i := 8) (oi := ⟨some 95, _, _, _, _, _⟩) (v := .agg (wds q).toArray) rfl (by kernel_rfl) (by kernel_rfl) (by kernel_rfl) (fun _ _ _ h => h) rfl hX (ld_blk 24 _ rfl w1.heap.size rfl 24 _ _ KB.out KB.out.lt Tryd.underlying24 rfl (size_set q)) ?_; simp only [Act.put, List.setIfInBounds_toArray, List.set_cons_zero, List.set_cons_succ]
      refine sx_take (i := 9) (oi := ⟨some 96, _, _, _, _, _⟩) (v := .agg (wds p).toArray) rfl (by kernel_rfl) (by kernel_rfl) (by kernel_rfl) (fun _ _ _ h => h) rfl hX (ld_blk 24 _ rfl w.heap.size rfl 24 _ _ KA.out KA.out.lt Tryd.underlying24 rfl (size_set p)) ?_; simp only [Act.put, List.setIfInBounds_toArray, List.set_cons_zero, List.set_cons_succ]
      refine sx_actB (i := 10) (o := ⟨some 97, _, _, _, _, _⟩) rfl (by kernel_rfl) rfl hX (fun K hK => ?_)
      go_wp2_with fail
      refine (C.less q p w29).mono ?_
      rintro e w30 ⟨rfl, hb⟩
      rw [HY.out]
      refine hK _ _ (hb.mono SZ.out) ?_
      clear hK K
      replace hX := hX.trans (hb.mono SZ.out)
      replace SZ := Lib.hid (Nat.le_trans SZ.out hb.size)
      clear hb
      refine sx_take (i := 11) (oi := ⟨some 98, _, _, _, _, _⟩) (v := ?_) rfl (by kernel_rfl) (by kernel_rfl) (by kernel_rfl) (fun _ _ _ h => h) rfl hX ?_ ?_; rotate_left; (intro W hW; go_simp; try with_reducible rfl); simp only [Act.put, List.setIfInBounds_toArray, List.set_cons_zero, List.set_cons_succ]
      refine sx_take (i := 12) (oi := ⟨some 99, _, _, _, _, _⟩) (v := ?_) rfl (by kernel_rfl) (by kernel_rfl) (by kernel_rfl) (fun _ _ _ h => h) rfl hX ?_ ?_; rotate_left; (intro W hW; go_simp; try with_reducible rfl); simp only [Act.put, List.setIfInBounds_toArray, List.set_cons_zero, List.set_cons_succ]
      refine sx_take (i := 13) (oi := ⟨some 100, _, _, _, _, _⟩) (v := ?_) rfl (by kernel_rfl) (by kernel_rfl) (by kernel_rfl) (fun _ _ _ h => h) rfl hX ?_ ?_; rotate_left; (intro W hW; go_simp; try with_reducible rfl); simp only [Act.put, List.setIfInBounds_toArray, List.set_cons_zero, List.set_cons_succ]
      refine sx_take (i := 14) (oi := ⟨some 101, _, _, _, _, _⟩) (v := ?_) rfl (by kernel_rfl) (by kernel_rfl) (by kernel_rfl) (fun _ _ _ h => h) rfl hX ?_ ?_; rotate_left; (intro W hW; go_simp; try with_reducible rfl); simp only [Act.put, List.setIfInBounds_toArray, List.set_cons_zero, List.set_cons_succ]
      refine sx_take (i := 15) (oi := ⟨some 102, _, _, _, _, _⟩) (v := .agg (wds p).toArray) rfl (by kernel_rfl) (by kernel_rfl) (by kernel_rfl) (fun _ _ _ h => h) rfl hX (ld_blk 24 _ rfl w.heap.size rfl 24 _ _ KA.out KA.out.lt Tryd.underlying24 rfl (size_set p)) ?_; simp only [Act.put, List.setIfInBounds_toArray, List.set_cons_zero, List.set_cons_succ]
      refine sx_take (i := 16) (oi := ⟨some 103, _, _, _, _, _⟩) (v := .agg (wds q).toArray) rfl (by kernel_rfl) (by kernel_rfl) (by kernel_rfl) (fun _ _ _ h => h) rfl hX (ld_blk 24 _ rfl w1.heap.size rfl 24 _ _ KB.out KB.out.lt Tryd.underlying24 rfl (size_set q)) ?_; simp only [Act.put, List.setIfInBounds_toArray, List.set_cons_zero, List.set_cons_succ]
      refine sx_actB (i := 17) (o := ⟨some 104, _, _, _, _, _⟩) rfl (by kernel_rfl) rfl hX (fun K hK => ?_)
      go_wp2_with fail
      refine (C.less p q w30).mono ?_
      rintro e w31 ⟨rfl, hb⟩
      rw [HL.out]
      refine hK _ _ (hb.mono SZ.out) ?_
      clear hK K
      replace hX := hX.trans (hb.mono SZ.out)
      replace SZ := Lib.hid (Nat.le_trans SZ.out hb.size)
      clear hb
      refine sx_take (i := 18) (oi := ⟨some 105, _, _, _, _, _⟩) (v := ?_) rfl (by kernel_rfl) (by kernel_rfl) (by kernel_rfl) (fun _ _ _ h => h) rfl hX ?_ ?_; rotate_left; (intro W hW; go_simp; try with_reducible rfl); simp only [Act.put, List.setIfInBounds_toArray, List.set_cons_zero, List.set_cons_succ]
      refine sx_skip (i := 19) (oi := ⟨some 106, _, _, _, _, _⟩) rfl (by kernel_rfl) (by kernel_rfl) (by kernel_rfl) (fun _ _ _ h => h) rfl hX ?_; simp only [Act.put, List.setIfInBounds_toArray, List.set_cons_zero, List.set_cons_succ]
      refine sx_skip (i := 20) (oi := ⟨some 107, _, _, _, _, _⟩) rfl (by kernel_rfl) (by kernel_rfl) (by kernel_rfl) (fun _ _ _ h => h) rfl hX ?_; simp only [Act.put, List.setIfInBounds_toArray, List.set_cons_zero, List.set_cons_succ]
      refine sx_skip (i := 21) (oi := ⟨some 108, _, _, _, _, _⟩) rfl (by kernel_rfl) (by kernel_rfl) (by kernel_rfl) (fun _ _ _ h => h) rfl hX ?_; simp only [Act.put, List.setIfInBounds_toArray, List.set_cons_zero, List.set_cons_succ]
      refine sx_take (i := 22) (oi := ⟨some 109, _, _, _, _, _⟩) (v := ?_) rfl (by kernel_rfl) (by kernel_rfl) (by kernel_rfl) (fun _ _ _ h => h) rfl hX ?_ ?_; rotate_left; (intro W hW; go_simp; try with_reducible rfl); simp only [Act.put, List.setIfInBounds_toArray, List.set_cons_zero, List.set_cons_succ]
      refine sx_take (i := 23) (oi := ⟨some 110, _, _, _, _, _⟩) (v := ?_) rfl (by kernel_rfl) (by kernel_rfl) (by kernel_rfl) (fun _ _ _ h => h) rfl hX ?_ ?_; rotate_left; (intro W hW; go_simp; try with_reducible rfl); simp only [Act.put, List.setIfInBounds_toArray, List.set_cons_zero, List.set_cons_succ]
      refine sx_skip (i := 24) (oi := ⟨some 111, _, _, _, _, _⟩) rfl (by kernel_rfl) (by kernel_rfl) (by kernel_rfl) (fun _ _ _ h => h) rfl hX ?_; simp only [Act.put, List.setIfInBounds_toArray, List.set_cons_zero, List.set_cons_succ]
      refine sx_skip (i := 25) (oi := ⟨some 112, _, _, _, _, _⟩) rfl (by kernel_rfl) (by kernel_rfl) (by kernel_rfl) (fun _ _ _ h => h) rfl hX ?_; simp only [Act.put, List.setIfInBounds_toArray, List.set_cons_zero, List.set_cons_succ]
      refine sx_skip (i := 26) (oi := ⟨some 113, _, _, _, _, _⟩) rfl (by kernel_rfl) (by kernel_rfl) (by kernel_rfl) (fun _ _ _ h => h) rfl hX ?_; simp only [Act.put, List.setIfInBounds_toArray, List.set_cons_zero, List.set_cons_succ]
      refine sx_skip (i := 27) (oi := ⟨some 114, _, _, _, _, _⟩) rfl (by kernel_rfl) (by kernel_rfl) (by kernel_rfl) (fun _ _ _ h => h) rfl hX ?_; simp only [Act.put, List.setIfInBounds_toArray, List.set_cons_zero, List.set_cons_succ]
      refine sx_take (i := 28) (oi := ⟨some 115, _, _, _, _, _⟩) (v := ?_) rfl (by kernel_rfl) (by kernel_rfl) (by kernel_rfl) (fun _ _ _ h => h) rfl hX ?_ ?_; rotate_left; (intro W hW; go_simp; try with_reducible rfl); simp only [Act.put, List.setIfInBounds_toArray, List.set_cons_zero, List.set_cons_succ]
      refine sx_take (i := 29) (oi := ⟨some 116, _, _, _, _, _⟩) (v := ?_) rfl (by kernel_rfl) (by kernel_rfl) (by kernel_rfl) (fun _ _ _ h => h) rfl hX ?_ ?_; rotate_left; (intro W hW; go_simp; try with_reducible rfl); simp only [Act.put, List.setIfInBounds_toArray, List.set_cons_zero, List.set_cons_succ]
      refine sx_take (i := 30) (oi := ⟨some 117, _, _, _, _, _⟩) (v := ?_) rfl (by kernel_rfl) (by kernel_rfl) (by kernel_rfl) (fun _ _ _ h => h) rfl hX ?_ ?_; rotate_left; (intro W hW; go_simp; try with_reducible rfl); simp only [Act.put, List.setIfInBounds_toArray, List.set_cons_zero, List.set_cons_succ]
      refine sx_take (i := 31) (oi := ⟨some 13, _, _, _, _, _⟩) (v := ?_) rfl (by kernel_rfl) (by kernel_rfl) (by kernel_rfl) (fun _ _ _ h => h) rfl hX ?_ ?_; rotate_left; (intro W hW; go_simp; try with_reducible rfl); simp only [Act.put, List.setIfInBounds_toArray, List.set_cons_zero, List.set_cons_succ]
      refine wpAnyH_done (by kernel_rfl) ?_ _
      replace KA := Lib.hid (KA.out.below hX KA.out.lt)
      replace KB := Lib.hid (KB.out.below hX KB.out.lt)
      replace KC := Lib.hid (KC.out.below hX KC.out.lt)
      replace BX := Lib.hid (BX.out.trans (hX.mono BX.out.size))
      clear hX SZ
      go_wp2_with fail
      refine sx_startB (B := w31.heap.size) (w0 := w31) (by kernel_rfl) (Below.refl _ _) (fun w40 hwd hX => ?_)
      have SZ := Lib.hid hX.size
      clear hwd
      refine sx_take (i := 0) (oi := ⟨some 118, _, _, _, _, _⟩) (v := ?_) rfl (by kernel_rfl) (by kernel_rfl) (by kernel_rfl) (fun _ _ _ h => h) rfl hX ?_ ?_; rotate_left; (intro W hW; go_simp; try with_reducible rfl); simp only [Act.put, List.setIfInBounds_toArray, List.set_cons_zero, List.set_cons_succ]
      refine sx_take (i := 1) (oi := ⟨some 119, _, _, _, _, _⟩) (v := ?_) rfl (by kernel_rfl) (by kernel_rfl) (by kernel_rfl) (fun _ _ _ h => h) rfl hX ?_ ?_; rotate_left; (intro W hW; go_simp; try with_reducible rfl); simp only [Act.put, List.setIfInBounds_toArray, List.set_cons_zero, List.set_cons_succ]
      refine sx_take (i := 2) (oi := ⟨some 120, _, _, _, _, _⟩) (v := ?_) rfl (by kernel_rfl) (by kernel_rfl) (by kernel_rfl) (fun _ _ _ h => h) rfl hX ?_ ?_; rotate_left; (intro W hW; go_simp; try with_reducible rfl); simp only [Act.put, List.setIfInBounds_toArray, List.set_cons_zero, List.set_cons_succ]
      refine sx_take (i := 3) (oi := ⟨some 121, _, _, _, _, _⟩) (v := ?_) rfl (by kernel_rfl) (by kernel_rfl) (by kernel_rfl) (fun _ _ _ h => h) rfl hX ?_ ?_; rotate_left; (intro W hW; go_simp; try with_reducible rfl); simp only [Act.put, List.setIfInBounds_toArray, List.set_cons_zero, List.set_cons_succ]
      refine sx_take (i := 4) (oi := ⟨some 122, _, _, _, _, _⟩) (v := ?_) rfl (by kernel_rfl) (by kernel_rfl) (by kernel_rfl) (fun _ _ _ h => h) rfl hX ?_ ?_; rotate_left; (intro W hW; go_simp; try with_reducible rfl); simp only [Act.put, List.setIfInBounds_toArray, List.set_cons_zero, List.set_cons_succ]
      refine sx_take (i := 5) (oi := ⟨some 123, _, _, _, _, _⟩) (v := ?_) rfl (by kernel_rfl) (by kernel_rfl) (by kernel_rfl) (fun _ _ _ h => h) rfl hX ?_ ?_; rotate_left; (intro W hW; go_simp; try with_reducible rfl); simp only [Act.put, List.setIfInBounds_toArray, List.set_cons_zero, List.set_cons_succ]
      refine sx_take (i := 6) (oi := ⟨some 124, _, _, _, _, _⟩) (v := ?_) rfl (by kernel_rfl) (by kernel_rfl) (by kernel_rfl) (fun _ _ _ h => h) rfl hX ?_ ?_; rotate_left; (intro W hW; go_simp; try with_reducible rfl); simp only [Act.put, List.setIfInBounds_toArray, List.set_cons_zero, List.set_cons_succ]
      refine sx_take (i := 7) (oi := ⟨some 125, _, _, _, _, _⟩) (v := ?_) rfl (by kernel_rfl) (by kernel_rfl) (by kernel_rfl) (fun _ _ _ h => h) rfl hX ?_ ?_; rotate_left; (intro W hW; go_simp; try with_reducible rfl); simp only [Act.put, List.setIfInBounds_toArray, List.set_cons_zero, List.set_cons_succ]
      refine sx_take (i := 8) (oi := ⟨some 126, _, _, _, _, _⟩) (v := .agg (wds p).toArray) rfl (by kernel_rfl) (by kernel_rfl) (by kernel_rfl) (fun _ _ _ h => h) rfl hX (ld_blk 24 _ rfl w.heap.size rfl 24 _ _ KA.out KA.out.lt Tryd.underlying24 rfl (size_set p)) ?_; simp only [Act.put, List.setIfInBounds_toArray, List.set_cons_zero, List.set_cons_succ]
      refine sx_take (i := 11) (oi := ⟨some 129, _, _, _, _, _⟩) (v := .agg (wds p).toArray) rfl (by kernel_rfl) (by kernel_rfl) (by kernel_rfl) (fun _ _ _ h => h) rfl hX (ld_blk 24 _ rfl w.heap.size rfl 24 _ _ KA.out KA.out.lt Tryd.underlying24 rfl (size_set p)) ?_; simp only [Act.put, List.setIfInBounds_toArray, List.set_cons_zero, List.set_cons_succ]
      refine sx_actB (i := 9) (o := ⟨some 127, _, _, _, _, _⟩) rfl (by kernel_rfl) rfl hX (fun K hK => ?_)
      go_wp2_with fail
      refine (C.list p w40 (HT.out.belowG (BX.out.trans (hX.mono BX.out.size)) HT.out.lt)).mono ?_
      rintro e w41 ⟨v7, rfl, hr7, hb⟩
      rw [HM.out] at hr7
      have R7 := Lib.hid hr7
      clear hr7
      refine hK _ _ (hb.mono SZ.out) ?_
      clear hK K
      replace hX := hX.trans (hb.mono SZ.out)
      replace SZ := Lib.hid (Nat.le_trans SZ.out hb.size)
      clear hb
      refine sx_actB (i := 10) (o := ⟨some 128, _, _, _, _, _⟩) rfl (by kernel_rfl) rfl hX (fun K hK => ?_)
      go_wp2_with fail
      refine (C.of _ m w41 R7.out hml).mono ?_
      rintro e w42 ⟨rfl, hb⟩
      rw [HR7.out]
      refine hK _ _ (hb.mono SZ.out) ?_
      clear hK K
      replace hX := hX.trans (hb.mono SZ.out)
      replace SZ := Lib.hid (Nat.le_trans SZ.out hb.size)
      clear hb
      refine sx_take (i := 12) (oi := ⟨some 130, _, _, _, _, _⟩) (v := .bool true) rfl (by kernel_rfl) (by kernel_rfl) (by kernel_rfl) (fun _ _ _ h => h) rfl hX (eq_is HE7.out 24 22 (.tmp 128) (.tmp 129) 24 rfl guard_set Tryd.underlying24 Tryd.underlying22 size_u64 rfl rfl) ?_; simp only [Act.put, List.setIfInBounds_toArray, List.set_cons_zero, List.set_cons_succ]
      refine sx_take (i := 13) (oi := ⟨some 131, _, _, _, _, _⟩) (v := ?_) rfl (by kernel_rfl) (by kernel_rfl) (by kernel_rfl) (fun _ _ _ h => h) rfl hX ?_ ?_; rotate_left; (intro W hW; go_simp; try with_reducible rfl); simp only [Act.put, List.setIfInBounds_toArray, List.set_cons_zero, List.set_cons_succ]
      refine sx_take (i := 14) (oi := ⟨some 8, _, _, _, _, _⟩) (v := ?_) rfl (by kernel_rfl) (by kernel_rfl) (by kernel_rfl) (fun _ _ _ h => h) rfl hX ?_ ?_; rotate_left; (intro W hW; go_simp; try with_reducible rfl); simp only [Act.put, List.setIfInBounds_toArray, List.set_cons_zero, List.set_cons_succ]
      refine wpAnyH_done (by kernel_rfl) ?_ _
      go_wp2_with fail
      go_ret
      exact ⟨rfl, BX.out.trans (hX.mono BX.out.size)⟩
end Go.Proofs.YtaobeconjdeenaaDoor
