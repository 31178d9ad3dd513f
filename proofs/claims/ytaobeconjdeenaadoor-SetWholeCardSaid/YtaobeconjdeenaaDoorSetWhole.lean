/-
  The walk of SetWhole: parts are apart, all bytes together, rise, and each set is a union of some. No statement is proved here.
-/
import Derived.Test.YtaobeconjdeenaaDoorSetL
import Derived.Test.YtaobeconjdeenaaDoorBsN
import Derived.Test.YtaobeconjdeenaaDoorBsH
import Derived.Test.YtaobeconjdeenaaDoorSetFirst
namespace Go.Proofs.YtaobeconjdeenaaDoor
open Go.RowKit
set_option linter.unusedSimpArgs false
set_option linter.unusedVariables false

theorem natNe (c : Nat) (h : 0 < c) : ¬ (c : Int) = 0 := by omega
theorem natPos (c : Nat) (h : 0 < c) : (0 : Int) < (c : Int) := by omega
theorem natLe (a b : Nat) (h : a < b) : ¬ (b : Int) ≤ (a : Int) := by omega
theorem natLt (a b : Nat) (h : a < b) : (a : Int) < (b : Int) := by omega
theorem wrPI (i : Nat) (h : i ≤ 1000) : IntKind.i64.wrap (((i + 1 : Nat) : Int) - 1) = (i : Int) := by
  rw [show (((i + 1 : Nat) : Int) - 1) = (i : Int) by omega]
  exact IntWalk.i64_in _ (by omega)
theorem wrN (a : Nat) (h : a ≤ 1000) : wrap64 (a : Int) = (a : Int) := IntWalk.wrap64_in _ (by omega)
theorem wrI (a c : Nat) (h : a + c ≤ 1000) : IntKind.i64.wrap ((a : Int) + (c : Int)) = ((a + c : Nat) : Int) := by
  rw [← Int.natCast_add]
  exact IntWalk.i64_in _ (by omega)
theorem wrA (a c : Nat) (h : a + c ≤ 1000) : wrap64 ((a : Int) + (c : Int)) = ((a + c : Nat) : Int) := by
  rw [← Int.natCast_add]
  exact IntWalk.wrap64_in _ (by omega)
theorem wrP (i : Nat) (h : i ≤ 1000) : wrap64 (((i + 1 : Nat) : Int) - 1) = (i : Int) := by
  rw [show (((i + 1 : Nat) : Int) - 1) = (i : Int) by omega]
  exact IntWalk.wrap64_in _ (by omega)
set_option maxHeartbeats 16000000 in
set_option maxRecDepth 100000 in
theorem whole_walk (C : BySet) (v : Value) (ps : List (Nat → Bool)) (w : World) (hr : RowS w v ps) (hT : Tb w) :
    Calls Tryd.prog 6 #[v] w fun e w' => e = .returned (.bool true) ∧ Below w.heap.size w w' := by
  have HT := Lib.hid hT
  clear hT
  have R0 := Lib.hid hr
  obtain ⟨A0, cap0, rfl, a1, a2, a0, a3⟩ := hr
  clear a3 a0 a2 a1
  obtain ⟨i0, hi0, hz0⟩ := info_set
  obtain ⟨z, hz⟩ : ∃ z : Nat → Bool, z = fun _ => false := ⟨_, rfl⟩
  rw [← hz] at hz0
  have HZ := Lib.hid hz
  clear hz
  by_cases h12 : (12 : Int) < (ps.length : Int)
  · go_enter Tryd.func6, Tryd.ntmps6
    go_wp2_with fail
    refine (begun_any C w HT.out).mono ?_
    rintro e w1 ⟨rfl, hb⟩
    have B1 := Lib.hid hb
    clear hb
    go_wp2_with fail
    go_ret
    exact ⟨rfl, B1.out⟩
  · have HL12 := Lib.hid (show ps.length ≤ 12 by omega)
    obtain ⟨qs, hqs⟩ : ∃ q, parts ps = q := ⟨_, rfl⟩
    obtain ⟨n, hn⟩ : ∃ n, qs.length = n := ⟨_, rfl⟩
    have HCP := Lib.hid (fun (w : World) (v : Value) (h : RowS w v ps) (hl : ps.length ≤ 2000) => hqs ▸ C.parts v ps w h hl)
    have HSUM := Lib.hid (show ∀ i, sumL (qs.take i) ≤ 256 by rw [← hqs]; exact sumL_take_le ps)
    have HALL := Lib.hid (show sumL qs = 256 by rw [← hqs]; exact parts_sum ps)
    have HUNI := Lib.hid (show (memJ (uni qs) 256).length = 256 by rw [← hqs]; exact parts_uni ps)
    have HLESS := Lib.hid (show qs.Pairwise fun p q => lessS p q = true by rw [← hqs]; exact parts_less ps)
    have HAP := Lib.hid (show Apart qs by rw [← hqs]; exact (parts_cut ps).apart)
    have HNE := Lib.hid (show ∀ q ∈ qs, ∃ b, b < 256 ∧ q b = true by rw [← hqs]; exact cut_nonE' (parts_cut ps))
    have HIN := Lib.hid (show ∀ q ∈ qs, ∀ s ∈ ps, eqS (fun b => s b && q b) q = true ∨ (eqS (fun b => s b && q b) q = false ∧ (memJ (fun b => s b && q b) 256).length = 0) by rw [← hqs]; exact fun q hq s hs => part_in hq hs)
    have hn256 : n ≤ 256 := by rw [← hn, ← hqs]; exact parts_le ps
    have hn0 : 0 < n := by rw [← hn, ← hqs, ← cut_length (cut_cur ps)]; exact curS_pos ps
    have HN := Lib.hid hn
    clear hqs hn
    go_enter Tryd.func6, Tryd.ntmps6
    go_wp2_with fail
    refine (begun_any C w HT.out).mono ?_
    rintro e w1 ⟨rfl, hb⟩
    have B1 := Lib.hid hb
    clear hb
    go_wp2_with fail
    refine (HCP.out w1 _ (R0.out.below B1.out) (by have := HL12.out; omega)).mono ?_
    rintro e w2 ⟨v3, rfl, hr2, hb⟩
    have B2 := Lib.hid (B1.out.trans (hb.mono B1.out.size))
    clear hb
    have R2 := Lib.hid hr2
    obtain ⟨A3, cap3, rfl, _, _, _, _⟩ := hr2
    rw [HN.out] at R2 ⊢
    obtain ⟨b0, off, rfl, hb0, hrng⟩ := R2.out.at_ (by rw [HN.out]; exact hn0)
    have HRG := Lib.hid hrng
    have HB0 := Lib.hid hb0
    clear hrng R2 hb0
    go_wp2_with ((with_reducible refine atDst 4 ?_); refine wpList_new rfl 24 rfl i0 _ (wds z) hi0 hz0 rfl (Below.refl w2.heap.size w2) (Nat.le_refl _) ?_; intro w3 hk3 hb3 hs3 _; have K3 := Lib.hid hk3; have B3 := Lib.hid hb3; clear hk3 hb3 hs3)
    go_loopw [5, 6] (fun s i wl => ∃ j : Nat, j ≤ n ∧ i = .int .i64 (j : Int) ∧ s = .int .i64 (sumL (qs.take j) : Int) ∧ Blk wl w2.heap.size 24 (wds (uni (qs.take j))) ∧ Below w2.heap.size w2 wl) (fun _ i _ => n - (intOf i).toNat)
    case atStart => exact ⟨0, by omega, by simp, by simp [sumL], by rw [List.take_zero, show uni [] = z by rw [HZ.out]; rfl]; exact K3.out, B3.out⟩
    case round =>
      obtain ⟨j, hj, rfl, rfl, hk, hb⟩ := hrel
      have HK := Lib.hid hk
      have HB := Lib.hid hb
      clear hk hb
      obtain ⟨wo, hwo⟩ : ∃ wo : World, wo = wr := ⟨_, rfl⟩
      subst hwo
      by_cases hjl : j < n
      · have j1 : (j : Int) < (n : Int) := by omega
        have hjq : j < qs.length := by rw [HN.out]; exact hjl
        obtain ⟨q, hq⟩ : ∃ q, q = qs[j]'hjq := ⟨_, rfl⟩
        have hqm : q ∈ qs := by rw [hq]; exact List.getElem_mem hjq
        have HNX := Lib.hid (show qs.take (j + 1) = qs.take j ++ [q] by rw [List.take_succ_eq_append_getElem hjq, hq])
        have hsum := HSUM.out (j + 1)
        rw [HNX.out, sumL_more] at hsum
        obtain ⟨f1, f2, f3, f4, f5, f6⟩ := part_first (HNE.out q hqm)
        obtain ⟨c, hc⟩ : ∃ c, (memJ q 256).length = c := ⟨_, rfl⟩
        obtain ⟨a, ha⟩ : ∃ a, sumL (qs.take j) = a := ⟨_, rfl⟩
        obtain ⟨u, hu⟩ : ∃ u, uni (qs.take j) = u := ⟨_, rfl⟩
        rw [hu] at HK
        rw [hc, ha] at hsum
        rw [hc] at f6
        rw [ha]
        obtain ⟨u2, hu2⟩ : ∃ f : Nat → Bool, (fun b => u b || q b) = f := ⟨_, rfl⟩
        have HU2 := Lib.hid hu2
        have HUU := Lib.hid (show uni (qs.take (j + 1)) = u2 by rw [HNX.out, uni_more, hu, hu2])
        have HAA := Lib.hid (show sumL (qs.take (j + 1)) = a + c by rw [HNX.out, sumL_more, ha, hc])
        have HC := Lib.hid hc
        have HQI := Lib.hid (HIN.out q hqm)
        have HF := Lib.hid (show f1 < 256 ∧ q f1 = true ∧ (∀ b, b < f1 → q b = false) ∧ (memJ q 256)[0]? = some (UInt8.ofNat f1) from ⟨f2, f3, f4, f5⟩)
        have hwa := wrA a c (Nat.le_trans hsum (by decide))
        have hwi := wrI a c (Nat.le_trans hsum (by decide))
        have c1 : ¬ (c : Int) = 0 := natNe c f6
        have c2 : ((c : Int) == 0) = false := by rw [beq_eq_false_iff_ne]; exact c1
        have c3 : (0 : Int) < (c : Int) := natPos c f6
        have RQ := Lib.hid (range_below (HRG.out j q (by rw [hq]; exact List.getElem?_eq_getElem hjq)) HB.out HB0.out)
        have HLT := Lib.hid (Nat.lt_of_lt_of_le HB0.out HB.out.size)
        have HQM := Lib.hid hqm
        have HQE := Lib.hid hq
        clear hq hqm hsum hc ha hu hu2 f2 f3 f4 f5 f6
        rcases Nat.eq_zero_or_pos j with hj0 | hj0
        · have d0 : ¬ (0 : Int) < (j : Int) := by omega
          have HJ0 := Lib.hid hj0
          clear hj0
          go_wp2_with fail
          refine sx_start (by kernel_rfl) (fun w4 hS hSz => ?_)
          have BB := Lib.hid (HB.out.trans (hS.mono HB.out.size))
          have KK := Lib.hid (HK.out.below hS HK.out.lt)
          replace RQ := Lib.hid (range_below RQ.out hS HLT.out)
          skip
          replace HLT := Lib.hid (Nat.lt_of_lt_of_le HLT.out hS.size)
          have hX := Below.refl w4.heap.size w4
          clear hS hSz
          refine sx_take (i := 0) (oi := ⟨some 22, _, _, _, _, _⟩) (v := ?_) rfl (by kernel_rfl) (by kernel_rfl) (by kernel_rfl) (fun _ _ _ h => h) rfl hX ?_ ?_; rotate_left; (intro W hW; go_simp; try with_reducible rfl); simp only [Act.put, List.setIfInBounds_toArray, List.set_cons_zero, List.set_cons_succ]
          refine sx_take (i := 1) (oi := ⟨some 23, _, _, _, _, _⟩) (v := ?_) rfl (by kernel_rfl) (by kernel_rfl) (by kernel_rfl) (fun _ _ _ h => h) rfl hX ?_ ?_; rotate_left; (intro W hW; go_simp; try with_reducible rfl); simp only [Act.put, List.setIfInBounds_toArray, List.set_cons_zero, List.set_cons_succ]
          refine sx_take (i := 2) (oi := ⟨some 24, _, _, _, _, _⟩) (v := ?_) rfl (by kernel_rfl) (by kernel_rfl) (by kernel_rfl) (fun _ _ _ h => h) rfl hX ?_ ?_; rotate_left; (intro W hW; go_simp; try with_reducible rfl); simp only [Act.put, List.setIfInBounds_toArray, List.set_cons_zero, List.set_cons_succ]
          refine sx_take (i := 3) (oi := ⟨some 25, _, _, _, _, _⟩) (v := .agg (wds q).toArray) rfl (by kernel_rfl) (by kernel_rfl) (by kernel_rfl) (fun _ _ _ h => h) rfl hX (ld_mid 24 _ rfl b0 (off + j * 4) rfl _ _ RQ.out HLT.out Tryd.underlying24 rfl (size_set _)) ?_; simp only [Act.put, List.setIfInBounds_toArray, List.set_cons_zero, List.set_cons_succ]
          refine sx_act (i := 4) (o := ⟨some 26, _, _, _, _, _⟩) rfl (by kernel_rfl) rfl hX (Nat.le_refl _) (fun K hK => ?_)
          go_wp2_with fail
          refine (C.len q w4).mono ?_
          rintro e w5 ⟨rfl, hb⟩
          rw [HC.out]
          refine hK _ _ hb ?_
          clear hK K hX
          have hX := Below.refl w5.heap.size w5
          replace BB := Lib.hid (BB.out.trans (hb.mono BB.out.size))
          replace KK := Lib.hid (KK.out.below hb KK.out.lt)
          replace RQ := Lib.hid (range_below RQ.out hb HLT.out)
          skip
          replace HLT := Lib.hid (Nat.lt_of_lt_of_le HLT.out hb.size)
          clear hb
          refine sx_take (i := 5) (oi := ⟨some 27, _, _, _, _, _⟩) (v := ?_) rfl (by kernel_rfl) (by kernel_rfl) (by kernel_rfl) (fun _ _ _ h => h) rfl hX ?_ ?_; rotate_left; (intro W hW; go_simp; try with_reducible rfl); simp only [Act.put, List.setIfInBounds_toArray, List.set_cons_zero, List.set_cons_succ]
          refine sx_take (i := 6) (oi := ⟨some 28, _, _, _, _, _⟩) (v := ?_) rfl (by kernel_rfl) (by kernel_rfl) (by kernel_rfl) (fun _ _ _ h => h) rfl hX ?_ ?_; rotate_left; (intro W hW; go_simp; try with_reducible rfl); simp only [Act.put, List.setIfInBounds_toArray, List.set_cons_zero, List.set_cons_succ]
          refine sx_take (i := 7) (oi := ⟨some 29, _, _, _, _, _⟩) (v := ?_) rfl (by kernel_rfl) (by kernel_rfl) (by kernel_rfl) (fun _ _ _ h => h) rfl hX ?_ ?_; rotate_left; (intro W hW; go_simp; try with_reducible rfl); simp only [Act.put, List.setIfInBounds_toArray, List.set_cons_zero, List.set_cons_succ]
          refine sx_take (i := 8) (oi := ⟨some 30, _, _, _, _, _⟩) (v := .bool false) rfl (by kernel_rfl) (by kernel_rfl) (by kernel_rfl) (fun _ _ _ h => h) rfl hX (by intro W hW; have h := HJ0.out; go_simp; try simp [h]) ?_; simp only [Act.put, List.setIfInBounds_toArray, List.set_cons_zero, List.set_cons_succ]
          refine sx_take (i := 9) (oi := ⟨some 31, _, _, _, _, _⟩) (v := ?_) rfl (by kernel_rfl) (by kernel_rfl) (by kernel_rfl) (fun _ _ _ h => h) rfl hX ?_ ?_; rotate_left; (intro W hW; go_simp; try with_reducible rfl); simp only [Act.put, List.setIfInBounds_toArray, List.set_cons_zero, List.set_cons_succ]
          refine sx_skip (i := 10) (oi := ⟨some 32, _, _, _, _, _⟩) rfl (by kernel_rfl) (by kernel_rfl) (by kernel_rfl) (fun _ _ _ h => h) rfl hX ?_; simp only [Act.put, List.setIfInBounds_toArray, List.set_cons_zero, List.set_cons_succ]
          refine sx_skip (i := 11) (oi := ⟨some 33, _, _, _, _, _⟩) rfl (by kernel_rfl) (by kernel_rfl) (by kernel_rfl) (fun _ _ _ h => h) rfl hX ?_; simp only [Act.put, List.setIfInBounds_toArray, List.set_cons_zero, List.set_cons_succ]
          refine sx_skip (i := 12) (oi := ⟨some 34, _, _, _, _, _⟩) rfl (by kernel_rfl) (by kernel_rfl) (by kernel_rfl) (fun _ _ _ h => h) rfl hX ?_; simp only [Act.put, List.setIfInBounds_toArray, List.set_cons_zero, List.set_cons_succ]
          refine sx_skip (i := 13) (oi := ⟨some 35, _, _, _, _, _⟩) rfl (by kernel_rfl) (by kernel_rfl) (by kernel_rfl) (fun _ _ _ h => h) rfl hX ?_; simp only [Act.put, List.setIfInBounds_toArray, List.set_cons_zero, List.set_cons_succ]
          refine sx_skip (i := 14) (oi := ⟨some 36, _, _, _, _, _⟩) rfl (by kernel_rfl) (by kernel_rfl) (by kernel_rfl) (fun _ _ _ h => h) rfl hX ?_; simp only [Act.put, List.setIfInBounds_toArray, List.set_cons_zero, List.set_cons_succ]
          refine sx_skip (i := 18) (oi := ⟨some 40, _, _, _, _, _⟩) rfl (by kernel_rfl) (by kernel_rfl) (by kernel_rfl) (fun _ _ _ h => h) rfl hX ?_; simp only [Act.put, List.setIfInBounds_toArray, List.set_cons_zero, List.set_cons_succ]
          refine sx_skip (i := 19) (oi := ⟨some 41, _, _, _, _, _⟩) rfl (by kernel_rfl) (by kernel_rfl) (by kernel_rfl) (fun _ _ _ h => h) rfl hX ?_; simp only [Act.put, List.setIfInBounds_toArray, List.set_cons_zero, List.set_cons_succ]
          refine sx_skip (i := 20) (oi := ⟨some 42, _, _, _, _, _⟩) rfl (by kernel_rfl) (by kernel_rfl) (by kernel_rfl) (fun _ _ _ h => h) rfl hX ?_; simp only [Act.put, List.setIfInBounds_toArray, List.set_cons_zero, List.set_cons_succ]
          refine sx_skip (i := 21) (oi := ⟨some 43, _, _, _, _, _⟩) rfl (by kernel_rfl) (by kernel_rfl) (by kernel_rfl) (fun _ _ _ h => h) rfl hX ?_; simp only [Act.put, List.setIfInBounds_toArray, List.set_cons_zero, List.set_cons_succ]
          refine sx_skip (i := 15) (oi := ⟨some 37, _, _, _, _, _⟩) rfl (by kernel_rfl) (by kernel_rfl) (by kernel_rfl) (fun _ _ _ h => h) rfl hX ?_; simp only [Act.put, List.setIfInBounds_toArray, List.set_cons_zero, List.set_cons_succ]
          refine sx_skip (i := 16) (oi := ⟨some 38, _, _, _, _, _⟩) rfl (by kernel_rfl) (by kernel_rfl) (by kernel_rfl) (fun _ _ _ h => h) rfl hX ?_; simp only [Act.put, List.setIfInBounds_toArray, List.set_cons_zero, List.set_cons_succ]
          refine sx_skip (i := 17) (oi := ⟨some 39, _, _, _, _, _⟩) rfl (by kernel_rfl) (by kernel_rfl) (by kernel_rfl) (fun _ _ _ h => h) rfl hX ?_; simp only [Act.put, List.setIfInBounds_toArray, List.set_cons_zero, List.set_cons_succ]
          refine sx_skip (i := 22) (oi := ⟨some 44, _, _, _, _, _⟩) rfl (by kernel_rfl) (by kernel_rfl) (by kernel_rfl) (fun _ _ _ h => h) rfl hX ?_; simp only [Act.put, List.setIfInBounds_toArray, List.set_cons_zero, List.set_cons_succ]
          refine sx_skip (i := 23) (oi := ⟨some 45, _, _, _, _, _⟩) rfl (by kernel_rfl) (by kernel_rfl) (by kernel_rfl) (fun _ _ _ h => h) rfl hX ?_; simp only [Act.put, List.setIfInBounds_toArray, List.set_cons_zero, List.set_cons_succ]
          refine sx_skip (i := 24) (oi := ⟨some 46, _, _, _, _, _⟩) rfl (by kernel_rfl) (by kernel_rfl) (by kernel_rfl) (fun _ _ _ h => h) rfl hX ?_; simp only [Act.put, List.setIfInBounds_toArray, List.set_cons_zero, List.set_cons_succ]
          refine sx_skip (i := 25) (oi := ⟨some 47, _, _, _, _, _⟩) rfl (by kernel_rfl) (by kernel_rfl) (by kernel_rfl) (fun _ _ _ h => h) rfl hX ?_; simp only [Act.put, List.setIfInBounds_toArray, List.set_cons_zero, List.set_cons_succ]
          refine sx_take (i := 26) (oi := ⟨some 48, _, _, _, _, _⟩) (v := ?_) rfl (by kernel_rfl) (by kernel_rfl) (by kernel_rfl) (fun _ _ _ h => h) rfl hX ?_ ?_; rotate_left; (intro W hW; go_simp; try with_reducible rfl); simp only [Act.put, List.setIfInBounds_toArray, List.set_cons_zero, List.set_cons_succ]
          refine sx_take (i := 27) (oi := ⟨some 49, _, _, _, _, _⟩) (v := ?_) rfl (by kernel_rfl) (by kernel_rfl) (by kernel_rfl) (fun _ _ _ h => h) rfl hX ?_ ?_; rotate_left; (intro W hW; go_simp; try with_reducible rfl); simp only [Act.put, List.setIfInBounds_toArray, List.set_cons_zero, List.set_cons_succ]
          refine wpAnyH_done (by kernel_rfl) ?_ _
          clear hX
          go_wp2_with fail
          have RQ2 := Lib.hid (HRG.out (j) q (by rw [HQE.out]; exact List.getElem?_eq_getElem hjq))
          refine sx_startB (B := w2.heap.size) (w0 := w2) (by kernel_rfl) BB.out (fun wd hwd hX => ?_)
          have KG := Lib.hid (show Blk wd w2.heap.size 24 (wds u) by rw [hwd]; exact KK.out.drew)
          have SZ := Lib.hid (Nat.le_of_lt KG.out.lt)
          clear hwd BB KK RQ HLT
          refine sx_take (i := 1) (oi := ⟨some 51, _, _, _, _, _⟩) (v := ?_) rfl (by kernel_rfl) (by kernel_rfl) (by kernel_rfl) (fun _ _ _ h => h) rfl hX ?_ ?_; rotate_left; (intro W hW; go_simp; try with_reducible rfl); simp only [Act.put, List.setIfInBounds_toArray, List.set_cons_zero, List.set_cons_succ]
          refine sx_take (i := 2) (oi := ⟨some 52, _, _, _, _, _⟩) (v := ?_) rfl (by kernel_rfl) (by kernel_rfl) (by kernel_rfl) (fun _ _ _ h => h) rfl hX ?_ ?_; rotate_left; (intro W hW; go_simp; try with_reducible rfl); simp only [Act.put, List.setIfInBounds_toArray, List.set_cons_zero, List.set_cons_succ]
          refine sx_take (i := 3) (oi := ⟨some 53, _, _, _, _, _⟩) (v := ?_) rfl (by kernel_rfl) (by kernel_rfl) (by kernel_rfl) (fun _ _ _ h => h) rfl hX ?_ ?_; rotate_left; (intro W hW; go_simp; try with_reducible rfl); simp only [Act.put, List.setIfInBounds_toArray, List.set_cons_zero, List.set_cons_succ]
          refine sx_take (i := 4) (oi := ⟨some 54, _, _, _, _, _⟩) (v := .agg (wds q).toArray) rfl (by kernel_rfl) (by kernel_rfl) (by kernel_rfl) (fun _ _ _ h => h) rfl hX (ld_mid 24 _ rfl b0 (off + (j) * 4) rfl _ _ RQ2.out HB0.out Tryd.underlying24 rfl (size_set q)) ?_
          simp only [Act.put, List.setIfInBounds_toArray, List.set_cons_zero, List.set_cons_succ]
          refine sx_take (i := 6) (oi := ⟨some 56, _, _, _, _, _⟩) (v := ?_) rfl (by kernel_rfl) (by kernel_rfl) (by kernel_rfl) (fun _ _ _ h => h) rfl hX ?_ ?_; rotate_left; (intro W hW; go_simp; try with_reducible rfl); simp only [Act.put, List.setIfInBounds_toArray, List.set_cons_zero, List.set_cons_succ]
          refine sx_take (i := 7) (oi := ⟨some 57, _, _, _, _, _⟩) (v := ?_) rfl (by kernel_rfl) (by kernel_rfl) (by kernel_rfl) (fun _ _ _ h => h) rfl hX ?_ ?_; rotate_left; (intro W hW; go_simp; try with_reducible rfl); simp only [Act.put, List.setIfInBounds_toArray, List.set_cons_zero, List.set_cons_succ]
          refine sx_take (i := 8) (oi := ⟨some 58, _, _, _, _, _⟩) (v := ?_) rfl (by kernel_rfl) (by kernel_rfl) (by kernel_rfl) (fun _ _ _ h => h) rfl hX ?_ ?_; rotate_left; (intro W hW; go_simp; try with_reducible rfl); simp only [Act.put, List.setIfInBounds_toArray, List.set_cons_zero, List.set_cons_succ]
          refine sx_take (i := 9) (oi := ⟨some 59, _, _, _, _, _⟩) (v := ?_) rfl (by kernel_rfl) (by kernel_rfl) (by kernel_rfl) (fun _ _ _ h => h) rfl hX ?_ ?_; rotate_left; (intro W hW; go_simp; try with_reducible rfl); simp only [Act.put, List.setIfInBounds_toArray, List.set_cons_zero, List.set_cons_succ]
          refine sx_take (i := 10) (oi := ⟨some 60, _, _, _, _, _⟩) (v := .agg (wds q).toArray) rfl (by kernel_rfl) (by kernel_rfl) (by kernel_rfl) (fun _ _ _ h => h) rfl hX (ld_mid 24 _ rfl b0 (off + (j) * 4) rfl _ _ RQ2.out HB0.out Tryd.underlying24 rfl (size_set q)) ?_
          simp only [Act.put, List.setIfInBounds_toArray, List.set_cons_zero, List.set_cons_succ]
          refine sx_actB (i := 0) (o := ⟨some 50, _, _, _, _, _⟩) rfl (by kernel_rfl) rfl hX (fun K hK => ?_)
          refine wp_load_row 24 _ rfl w2.heap.size rfl 24 (wds u).toArray (0, 0) _ KG.out Tryd.underlying24 rfl (by have := size_set u; simpa using this) ?_
          refine hK _ _ (Below.refl _ _) ?_
          clear hK K
          simp only [Act.put, List.setIfInBounds_toArray, List.set_cons_zero, List.set_cons_succ]
          refine sx_actB (i := 5) (o := ⟨some 55, _, _, _, _, _⟩) rfl (by kernel_rfl) rfl hX (fun K hK => ?_)
          go_wp2_with fail
          refine (C.or_ u q wd).mono ?_
          rintro e we ⟨rfl, hb⟩
          rw [HU2.out]
          refine hK _ _ (hb.mono SZ.out) ?_
          clear hK K
          replace hX := hX.trans (hb.mono SZ.out)
          replace KG := Lib.hid (KG.out.below hb KG.out.lt)
          replace SZ := Lib.hid (Nat.le_trans SZ.out hb.size)
          clear hb
          refine sx_actB (i := 11) (o := ⟨some 61, _, _, _, _, _⟩) rfl (by kernel_rfl) rfl hX (fun K hK => ?_)
          go_wp2_with fail
          refine (C.len q we).mono ?_
          rintro e wf ⟨rfl, hb⟩
          rw [HC.out]
          refine hK _ _ (hb.mono SZ.out) ?_
          clear hK K
          replace hX := hX.trans (hb.mono SZ.out)
          replace KG := Lib.hid (KG.out.below hb KG.out.lt)
          replace SZ := Lib.hid (Nat.le_trans SZ.out hb.size)
          clear hb
          refine sx_take (i := 12) (oi := ⟨some 62, _, _, _, _, _⟩) (v := ?_) rfl (by kernel_rfl) (by kernel_rfl) (by kernel_rfl) (fun _ _ _ h => h) rfl hX ?_ ?_; rotate_left; (intro W hW; go_simp; try first | with_reducible rfl | (simp only [hwa, hwi]; with_reducible rfl)); simp only [Act.put, List.setIfInBounds_toArray, List.set_cons_zero, List.set_cons_succ]
          refine sx_actB (i := 13) (o := ⟨none, _, _, _, _, _⟩) rfl (by kernel_rfl) rfl hX (fun K hK => ?_)
          refine wp_stBlk 24 _ _ rfl w2.heap.size (wds u2) rfl rfl 24 _ KG.out (size_set u2) rfl (wds_all _) hX (Nat.le_refl _) ?_
          intro wg hkg hbg hsg hog hbsg
          refine hK _ _ (hbsg _ (Nat.le_refl _)) ?_
          clear hK K
          replace hX := hbg
          have KU := Lib.hid hkg
          clear hkg hbg hsg hog hbsg KG SZ
          refine sx_take (i := 14) (oi := ⟨some 5, _, _, _, _, _⟩) (v := ?_) rfl (by kernel_rfl) (by kernel_rfl) (by kernel_rfl) (fun _ _ _ h => h) rfl hX ?_ ?_; rotate_left; (intro W hW; go_simp; try with_reducible rfl); simp only [Act.put, List.setIfInBounds_toArray, List.set_cons_zero, List.set_cons_succ]
          refine wpAnyH_done (by kernel_rfl) ?_ _
          have BG := Lib.hid hX
          clear hX
          go_wp2_with fail
          go_loopw [7] (fun kk wl => ∃ k : Nat, k ≤ ps.length ∧ kk = .int .i64 (k : Int) ∧ Below wg.heap.size wg wl) (fun kk _ => ps.length - (intOf kk).toNat)
          case atStart => exact ⟨0, by omega, by simp, Below.refl _ _⟩
          case round =>
            obtain ⟨k, hk, rfl, hbi⟩ := hrel
            have HBI := Lib.hid hbi
            clear hbi
            have B2R := Lib.hid (BG.out.trans (HBI.out.mono BG.out.size))
            by_cases hkl : k < ps.length
            · have k1 : (k : Int) < (ps.length : Int) := by omega
              have BWR := Lib.hid (B2.out.trans (B2R.out.mono B2.out.size))
              obtain ⟨b1, off1, rfl, hb1, hrng1⟩ := (R0.out.below BWR.out).at_ (by omega)
              obtain ⟨s, hs⟩ : ∃ s, s = ps[k]'hkl := ⟨_, rfl⟩
              have HRS := Lib.hid (hrng1 k s (by rw [hs]; exact List.getElem?_eq_getElem hkl))
              have HRQ := Lib.hid (range_below RQ2.out B2R.out HB0.out)
              have HLQ := Lib.hid (Nat.lt_of_lt_of_le HB0.out B2R.out.size)
              have hin := HQI.out s (by rw [hs]; exact List.getElem_mem hkl)
              obtain ⟨x, hx⟩ : ∃ f : Nat → Bool, (fun b => s b && q b) = f := ⟨_, rfl⟩
              rw [hx] at hin
              have HXX := Lib.hid hx
              have HIX := Lib.hid hin
              have HSE := Lib.hid hs
              clear hrng1 hx hin hs
              go_wp2_with fail
              refine sx_startB (B := wr.heap.size) (w0 := wr) (by kernel_rfl) (Below.refl _ _) (fun wh hwd hX => ?_)
              have SZ := Lib.hid hX.size
              clear hwd
              refine sx_take (i := 0) (oi := ⟨some 69, _, _, _, _, _⟩) (v := ?_) rfl (by kernel_rfl) (by kernel_rfl) (by kernel_rfl) (fun _ _ _ h => h) rfl hX ?_ ?_; rotate_left; (intro W hW; go_simp; try with_reducible rfl); simp only [Act.put, List.setIfInBounds_toArray, List.set_cons_zero, List.set_cons_succ]
              refine sx_take (i := 1) (oi := ⟨some 70, _, _, _, _, _⟩) (v := ?_) rfl (by kernel_rfl) (by kernel_rfl) (by kernel_rfl) (fun _ _ _ h => h) rfl hX ?_ ?_; rotate_left; (intro W hW; go_simp; try with_reducible rfl); simp only [Act.put, List.setIfInBounds_toArray, List.set_cons_zero, List.set_cons_succ]
              refine sx_take (i := 2) (oi := ⟨some 71, _, _, _, _, _⟩) (v := ?_) rfl (by kernel_rfl) (by kernel_rfl) (by kernel_rfl) (fun _ _ _ h => h) rfl hX ?_ ?_; rotate_left; (intro W hW; go_simp; try with_reducible rfl); simp only [Act.put, List.setIfInBounds_toArray, List.set_cons_zero, List.set_cons_succ]
              refine sx_take (i := 3) (oi := ⟨some 72, _, _, _, _, _⟩) (v := .agg (wds s).toArray) rfl (by kernel_rfl) (by kernel_rfl) (by kernel_rfl) (fun _ _ _ h => h) rfl hX (ld_mid 24 _ rfl b1 (off1 + k * 4) rfl _ _ HRS.out hb1 Tryd.underlying24 rfl (size_set s)) ?_
              simp only [Act.put, List.setIfInBounds_toArray, List.set_cons_zero, List.set_cons_succ]
              refine sx_take (i := 4) (oi := ⟨some 73, _, _, _, _, _⟩) (v := ?_) rfl (by kernel_rfl) (by kernel_rfl) (by kernel_rfl) (fun _ _ _ h => h) rfl hX ?_ ?_; rotate_left; (intro W hW; go_simp; try with_reducible rfl); simp only [Act.put, List.setIfInBounds_toArray, List.set_cons_zero, List.set_cons_succ]
              refine sx_take (i := 5) (oi := ⟨some 74, _, _, _, _, _⟩) (v := ?_) rfl (by kernel_rfl) (by kernel_rfl) (by kernel_rfl) (fun _ _ _ h => h) rfl hX ?_ ?_; rotate_left; (intro W hW; go_simp; try with_reducible rfl); simp only [Act.put, List.setIfInBounds_toArray, List.set_cons_zero, List.set_cons_succ]
              refine sx_take (i := 6) (oi := ⟨some 75, _, _, _, _, _⟩) (v := ?_) rfl (by kernel_rfl) (by kernel_rfl) (by kernel_rfl) (fun _ _ _ h => h) rfl hX ?_ ?_; rotate_left; (intro W hW; go_simp; try with_reducible rfl); simp only [Act.put, List.setIfInBounds_toArray, List.set_cons_zero, List.set_cons_succ]
              refine sx_take (i := 7) (oi := ⟨some 76, _, _, _, _, _⟩) (v := .agg (wds q).toArray) rfl (by kernel_rfl) (by kernel_rfl) (by kernel_rfl) (fun _ _ _ h => h) rfl hX (ld_mid 24 _ rfl b0 (off + (j) * 4) rfl _ _ HRQ.out HLQ.out Tryd.underlying24 rfl (size_set q)) ?_
              simp only [Act.put, List.setIfInBounds_toArray, List.set_cons_zero, List.set_cons_succ]
              apply oneEnd (H := fun g w' => Blk w' g 24 (wds x) ∧ wr.heap.size ≤ g ∧ Below wr.heap.size wr w')
              case main =>
                intro fin
                have FIN := Lib.hid fin
                clear fin
                refine sx_two (i := 8) (j := 9) (oi := ⟨some 77, _, _, _, _, _⟩) (oj := ⟨some 8, _, _, _, _, _⟩) rfl rfl (by kernel_rfl) rfl rfl hX (fun K hK => ?_) (fun K hK => ?_)
                · go_wp2_with fail
                  refine (C.and_ s q wh).mono ?_
                  rintro e wi ⟨rfl, hb⟩
                  rw [HXX.out]
                  refine hK _ _ (hb.mono SZ.out) ?_
                  clear hK K
                  replace hX := hX.trans (hb.mono SZ.out)
                  replace SZ := Lib.hid (Nat.le_trans SZ.out hb.size)
                  clear hb
                  refine sx_actB (i := 9) (o := ⟨some 8, _, _, _, _, _⟩) rfl (by kernel_rfl) rfl hX (fun K hK => ?_)
                  refine wp_newB 24 rfl i0 _ (wds z) hi0 hz0 rfl ?_
                  intro wj hk hb hs
                  refine hK _ _ (hb.mono SZ.out) ?_
                  clear hK K
                  have GB := Lib.hid (show wr.heap.size ≤ wi.heap.size from SZ.out)
                  replace hX := hX.trans (hb.mono SZ.out)
                  obtain ⟨g, hg⟩ : ∃ g, g = wi.heap.size := ⟨_, rfl⟩
                  rw [← hg] at hk GB ⊢
                  have KG := Lib.hid hk
                  clear hk hb hs hg SZ
                  refine sx_actB (i := 10) (o := ⟨none, _, _, _, _, _⟩) rfl (by kernel_rfl) rfl hX (fun K hK => ?_)
                  refine wp_stBlk 24 _ _ rfl g (wds x) rfl rfl 24 _ KG.out (size_set x) rfl (wds_all _) hX GB.out ?_
                  intro wk hk9 hb9 hs9 ho9 hbs9
                  refine hK _ _ (hbs9 _ GB.out) ?_
                  clear hK K
                  refine wpAnyH_done (by kernel_rfl) ?_ _
                  exact FIN.out g wk ⟨hk9, GB.out, hb9⟩
                · refine wp_newB 24 rfl i0 _ (wds z) hi0 hz0 rfl ?_
                  intro wi hk hb hs
                  refine hK _ _ (hb.mono SZ.out) ?_
                  clear hK K
                  have GB := Lib.hid (show wr.heap.size ≤ wh.heap.size from SZ.out)
                  replace hX := hX.trans (hb.mono SZ.out)
                  replace SZ := Lib.hid (Nat.le_trans SZ.out hb.size)
                  obtain ⟨g, hg⟩ : ∃ g, g = wh.heap.size := ⟨_, rfl⟩
                  rw [← hg] at hk GB ⊢
                  have KG := Lib.hid hk
                  clear hk hb hs hg
                  refine sx_actB (i := 8) (o := ⟨some 77, _, _, _, _, _⟩) rfl (by kernel_rfl) rfl hX (fun K hK => ?_)
                  go_wp2_with fail
                  refine (C.and_ s q wi).mono ?_
                  rintro e wj ⟨rfl, hb⟩
                  rw [HXX.out]
                  refine hK _ _ (hb.mono SZ.out) ?_
                  clear hK K
                  replace hX := hX.trans (hb.mono SZ.out)
                  replace KG := Lib.hid (KG.out.below hb KG.out.lt)
                  clear hb SZ
                  refine sx_actB (i := 10) (o := ⟨none, _, _, _, _, _⟩) rfl (by kernel_rfl) rfl hX (fun K hK => ?_)
                  refine wp_stBlk 24 _ _ rfl g (wds x) rfl rfl 24 _ KG.out (size_set x) rfl (wds_all _) hX GB.out ?_
                  intro wk hk9 hb9 hs9 ho9 hbs9
                  refine hK _ _ (hbs9 _ GB.out) ?_
                  clear hK K
                  refine wpAnyH_done (by kernel_rfl) ?_ _
                  exact FIN.out g wk ⟨hk9, GB.out, hb9⟩
              case fin =>
                rintro g wk ⟨hkx, hgx, hbx⟩
                have KX := Lib.hid hkx
                have BK := Lib.hid (HBI.out.trans (hbx.mono HBI.out.size))
                have HRK := Lib.hid (range_below HRQ.out hbx HLQ.out)
                have HLK := Lib.hid (Nat.lt_of_lt_of_le HLQ.out hbx.size)
                clear hkx hgx hbx
                go_wp2_with fail
                rcases HIX.out with he | ⟨he, hl⟩
                · have HNE1 := Lib.hid (show (!eqS x q) = false by rw [he]; rfl)
                  clear he
                  refine sx_startB (B := wk.heap.size) (w0 := wk) (by kernel_rfl) (Below.refl _ _) (fun wl hwd hX => ?_)
                  have SZ := Lib.hid hX.size
                  clear hwd
                  refine sx_take (i := 0) (oi := ⟨some 78, _, _, _, _, _⟩) (v := .agg (wds x).toArray) rfl (by kernel_rfl) (by kernel_rfl) (by kernel_rfl) (fun _ _ _ h => h) rfl hX (ld_blk 24 _ rfl g rfl 24 _ _ KX.out KX.out.lt Tryd.underlying24 rfl (size_set x)) ?_; simp only [Act.put, List.setIfInBounds_toArray, List.set_cons_zero, List.set_cons_succ]
                  refine sx_take (i := 1) (oi := ⟨some 79, _, _, _, _, _⟩) (v := ?_) rfl (by kernel_rfl) (by kernel_rfl) (by kernel_rfl) (fun _ _ _ h => h) rfl hX ?_ ?_; rotate_left; (intro W hW; go_simp; try with_reducible rfl); simp only [Act.put, List.setIfInBounds_toArray, List.set_cons_zero, List.set_cons_succ]
                  refine sx_take (i := 2) (oi := ⟨some 80, _, _, _, _, _⟩) (v := ?_) rfl (by kernel_rfl) (by kernel_rfl) (by kernel_rfl) (fun _ _ _ h => h) rfl hX ?_ ?_; rotate_left; (intro W hW; go_simp; try with_reducible rfl); simp only [Act.put, List.setIfInBounds_toArray, List.set_cons_zero, List.set_cons_succ]
                  refine sx_take (i := 3) (oi := ⟨some 81, _, _, _, _, _⟩) (v := ?_) rfl (by kernel_rfl) (by kernel_rfl) (by kernel_rfl) (fun _ _ _ h => h) rfl hX ?_ ?_; rotate_left; (intro W hW; go_simp; try with_reducible rfl); simp only [Act.put, List.setIfInBounds_toArray, List.set_cons_zero, List.set_cons_succ]
                  refine sx_take (i := 4) (oi := ⟨some 82, _, _, _, _, _⟩) (v := .agg (wds q).toArray) rfl (by kernel_rfl) (by kernel_rfl) (by kernel_rfl) (fun _ _ _ h => h) rfl hX (ld_mid 24 _ rfl b0 (off + (j) * 4) rfl _ _ HRK.out HLK.out Tryd.underlying24 rfl (size_set q)) ?_; simp only [Act.put, List.setIfInBounds_toArray, List.set_cons_zero, List.set_cons_succ]
                  refine sx_take (i := 5) (oi := ⟨some 83, _, _, _, _, _⟩) (v := .bool false) rfl (by kernel_rfl) (by kernel_rfl) (by kernel_rfl) (fun _ _ _ h => h) rfl hX (ne_is HNE1.out 24 22 (.tmp 78) (.tmp 82) 24 rfl guard_set Tryd.underlying24 Tryd.underlying22 size_u64 rfl rfl) ?_; simp only [Act.put, List.setIfInBounds_toArray, List.set_cons_zero, List.set_cons_succ]
                  refine sx_take (i := 6) (oi := ⟨some 84, _, _, _, _, _⟩) (v := ?_) rfl (by kernel_rfl) (by kernel_rfl) (by kernel_rfl) (fun _ _ _ h => h) rfl hX ?_ ?_; rotate_left; (intro W hW; go_simp; try with_reducible rfl); simp only [Act.put, List.setIfInBounds_toArray, List.set_cons_zero, List.set_cons_succ]
                  refine sx_skip (i := 7) (oi := ⟨some 85, _, _, _, _, _⟩) rfl (by kernel_rfl) (by kernel_rfl) (by kernel_rfl) (fun _ _ _ h => h) rfl hX ?_; simp only [Act.put, List.setIfInBounds_toArray, List.set_cons_zero, List.set_cons_succ]
                  refine sx_skip (i := 8) (oi := ⟨some 86, _, _, _, _, _⟩) rfl (by kernel_rfl) (by kernel_rfl) (by kernel_rfl) (fun _ _ _ h => h) rfl hX ?_; simp only [Act.put, List.setIfInBounds_toArray, List.set_cons_zero, List.set_cons_succ]
                  refine sx_skip (i := 9) (oi := ⟨some 87, _, _, _, _, _⟩) rfl (by kernel_rfl) (by kernel_rfl) (by kernel_rfl) (fun _ _ _ h => h) rfl hX ?_; simp only [Act.put, List.setIfInBounds_toArray, List.set_cons_zero, List.set_cons_succ]
                  refine sx_take (i := 10) (oi := ⟨some 88, _, _, _, _, _⟩) (v := ?_) rfl (by kernel_rfl) (by kernel_rfl) (by kernel_rfl) (fun _ _ _ h => h) rfl hX ?_ ?_; rotate_left; (intro W hW; go_simp; try with_reducible rfl); simp only [Act.put, List.setIfInBounds_toArray, List.set_cons_zero, List.set_cons_succ]
                  refine wpAnyH_done (by kernel_rfl) ?_ _
                  have BL := Lib.hid (BK.out.trans (hX.mono BK.out.size))
                  clear hX
                  go_wp2_with fail
                  exact ⟨⟨k + 1, by omega, by congr 1, BL.out⟩, by simp [intOf] <;> omega⟩
                · have HNE1 := Lib.hid (show (!eqS x q) = true by rw [he]; rfl)
                  have HL0 := Lib.hid hl
                  clear he hl
                  refine sx_startB (B := wk.heap.size) (w0 := wk) (by kernel_rfl) (Below.refl _ _) (fun wl hwd hX => ?_)
                  have SZ := Lib.hid hX.size
                  clear hwd
                  refine sx_take (i := 0) (oi := ⟨some 78, _, _, _, _, _⟩) (v := .agg (wds x).toArray) rfl (by kernel_rfl) (by kernel_rfl) (by kernel_rfl) (fun _ _ _ h => h) rfl hX (ld_blk 24 _ rfl g rfl 24 _ _ KX.out KX.out.lt Tryd.underlying24 rfl (size_set x)) ?_; simp only [Act.put, List.setIfInBounds_toArray, List.set_cons_zero, List.set_cons_succ]
                  refine sx_take (i := 1) (oi := ⟨some 79, _, _, _, _, _⟩) (v := ?_) rfl (by kernel_rfl) (by kernel_rfl) (by kernel_rfl) (fun _ _ _ h => h) rfl hX ?_ ?_; rotate_left; (intro W hW; go_simp; try with_reducible rfl); simp only [Act.put, List.setIfInBounds_toArray, List.set_cons_zero, List.set_cons_succ]
                  refine sx_take (i := 2) (oi := ⟨some 80, _, _, _, _, _⟩) (v := ?_) rfl (by kernel_rfl) (by kernel_rfl) (by kernel_rfl) (fun _ _ _ h => h) rfl hX ?_ ?_; rotate_left; (intro W hW; go_simp; try with_reducible rfl); simp only [Act.put, List.setIfInBounds_toArray, List.set_cons_zero, List.set_cons_succ]
                  refine sx_take (i := 3) (oi := ⟨some 81, _, _, _, _, _⟩) (v := ?_) rfl (by kernel_rfl) (by kernel_rfl) (by kernel_rfl) (fun _ _ _ h => h) rfl hX ?_ ?_; rotate_left; (intro W hW; go_simp; try with_reducible rfl); simp only [Act.put, List.setIfInBounds_toArray, List.set_cons_zero, List.set_cons_succ]
                  refine sx_take (i := 4) (oi := ⟨some 82, _, _, _, _, _⟩) (v := .agg (wds q).toArray) rfl (by kernel_rfl) (by kernel_rfl) (by kernel_rfl) (fun _ _ _ h => h) rfl hX (ld_mid 24 _ rfl b0 (off + (j) * 4) rfl _ _ HRK.out HLK.out Tryd.underlying24 rfl (size_set q)) ?_; simp only [Act.put, List.setIfInBounds_toArray, List.set_cons_zero, List.set_cons_succ]
                  refine sx_take (i := 5) (oi := ⟨some 83, _, _, _, _, _⟩) (v := .bool true) rfl (by kernel_rfl) (by kernel_rfl) (by kernel_rfl) (fun _ _ _ h => h) rfl hX (ne_is HNE1.out 24 22 (.tmp 78) (.tmp 82) 24 rfl guard_set Tryd.underlying24 Tryd.underlying22 size_u64 rfl rfl) ?_; simp only [Act.put, List.setIfInBounds_toArray, List.set_cons_zero, List.set_cons_succ]
                  refine sx_take (i := 6) (oi := ⟨some 84, _, _, _, _, _⟩) (v := ?_) rfl (by kernel_rfl) (by kernel_rfl) (by kernel_rfl) (fun _ _ _ h => h) rfl hX ?_ ?_; rotate_left; (intro W hW; go_simp; try with_reducible rfl); simp only [Act.put, List.setIfInBounds_toArray, List.set_cons_zero, List.set_cons_succ]
                  refine sx_take (i := 7) (oi := ⟨some 85, _, _, _, _, _⟩) (v := .agg (wds x).toArray) rfl (by kernel_rfl) (by kernel_rfl) (by kernel_rfl) (fun _ _ _ h => h) rfl hX (ld_blk 24 _ rfl g rfl 24 _ _ KX.out KX.out.lt Tryd.underlying24 rfl (size_set x)) ?_; simp only [Act.put, List.setIfInBounds_toArray, List.set_cons_zero, List.set_cons_succ]
                  refine sx_actB (i := 8) (o := ⟨some 86, _, _, _, _, _⟩) rfl (by kernel_rfl) rfl hX (fun K hK => ?_)
                  go_wp2_with fail
                  refine (C.len x wl).mono ?_
                  rintro e wm ⟨rfl, hb⟩
                  rw [HL0.out]
                  refine hK _ _ (hb.mono SZ.out) ?_
                  clear hK K
                  replace hX := hX.trans (hb.mono SZ.out)
                  clear hb
                  refine sx_take (i := 9) (oi := ⟨some 87, _, _, _, _, _⟩) (v := ?_) rfl (by kernel_rfl) (by kernel_rfl) (by kernel_rfl) (fun _ _ _ h => h) rfl hX ?_ ?_; rotate_left; (intro W hW; go_simp; try with_reducible rfl); simp only [Act.put, List.setIfInBounds_toArray, List.set_cons_zero, List.set_cons_succ]
                  refine sx_take (i := 10) (oi := ⟨some 88, _, _, _, _, _⟩) (v := ?_) rfl (by kernel_rfl) (by kernel_rfl) (by kernel_rfl) (fun _ _ _ h => h) rfl hX ?_ ?_; rotate_left; (intro W hW; go_simp; try with_reducible rfl); simp only [Act.put, List.setIfInBounds_toArray, List.set_cons_zero, List.set_cons_succ]
                  refine wpAnyH_done (by kernel_rfl) ?_ _
                  have BL := Lib.hid (BK.out.trans (hX.mono BK.out.size))
                  clear hX
                  go_wp2_with fail
                  exact ⟨⟨k + 1, by omega, by congr 1, BL.out⟩, by simp [intOf] <;> omega⟩
            · obtain rfl : k = ps.length := by omega
              have k1 : ¬ ((ps.length : Int) < (ps.length : Int)) := by omega
              have KZ := Lib.hid (KU.out.below HBI.out KU.out.lt)
              go_wp2_with fail
              refine ⟨⟨j + 1, by omega, by congr 1, by rw [HAA.out, Int.natCast_add], ?_, B2R.out⟩, by simp [intOf] <;> omega⟩
              rw [HUU.out]
              exact KZ.out
        · obtain ⟨i, hi⟩ : ∃ i, j = i + 1 := ⟨j - 1, by omega⟩
          have hip : i < qs.length := by omega
          obtain ⟨p, hp⟩ : ∃ p, p = qs[i]'hip := ⟨_, rfl⟩
          have hpm : p ∈ qs := by rw [hp]; exact List.getElem_mem hip
          obtain ⟨e1, e2, e3, e4, e5, e6⟩ := part_first (HNE.out p hpm)
          have hrise : e1 < f1 := first_rise (by rw [hp, HQE.out]; exact List.pairwise_iff_getElem.1 HLESS.out i j hip hjq (by omega)) (by rw [hp, HQE.out]; exact List.pairwise_iff_getElem.1 HAP.out i j hip hjq (by omega)) e4 e3 HF.out.2.1 HF.out.1
          obtain ⟨m0, hm0⟩ : ∃ m, memJ p 256 = m := ⟨_, rfl⟩
          obtain ⟨m1, hm1⟩ : ∃ m, memJ q 256 = m := ⟨_, rfl⟩
          rw [hm0] at e5 e6
          have g5 := HF.out.2.2.2
          rw [hm1] at g5
          have hcm : m1.length = c := by rw [← hm1]; exact HC.out
          obtain ⟨c0, hc0⟩ : ∃ c, m0.length = c := ⟨_, rfl⟩
          rw [hc0] at e6
          have RP := Lib.hid (range_below (HRG.out i p (by rw [hp]; exact List.getElem?_eq_getElem hip)) HB.out HB0.out)
          have hi1000 : i ≤ 1000 := by omega
          have d1 : wrap64 ((j : Int) - 1) = (i : Int) := by rw [hi]; exact wrP i hi1000
          have d8 : IntKind.i64.wrap ((j : Int) - 1) = (i : Int) := by rw [hi]; exact wrPI i hi1000
          have d2 : (i : Int) < (n : Int) := by omega
          have d3 : (0 : Int) < (j : Int) := by omega
          have n0 : c0 ≠ 0 := by omega
          have n1 : c ≠ 0 := fun h => c1 (by rw [h]; rfl)
          have d4 : (0 : Int) < (c0 : Int) := natPos c0 e6
          have d5 : (e1 : Int) < (f1 : Int) := natLt e1 f1 hrise
          have d6 : ¬ (f1 : Int) ≤ (e1 : Int) := natLe e1 f1 hrise
          have d7 : decide ((f1 : Int) ≤ (e1 : Int)) = false := by simpa using d6
          have HM0 := Lib.hid hm0
          have HM1 := Lib.hid hm1
          have HC0 := Lib.hid hc0
          have HCM := Lib.hid hcm
          have HE5 := Lib.hid e5
          have HG5 := Lib.hid g5
          have he256 : e1 < 256 := e2
          have hf256 : f1 < 256 := HF.out.1
          have HI1 := Lib.hid hi
          have HRI := Lib.hid hrise
          clear hi hj0 hp hpm e2 e3 e4 e5 e6 hrise hm0 hm1 g5 hcm hc0
          go_wp2_with fail
          refine sx_start (by kernel_rfl) (fun w4 hS hSz => ?_)
          have BB := Lib.hid (HB.out.trans (hS.mono HB.out.size))
          have KK := Lib.hid (HK.out.below hS HK.out.lt)
          replace RQ := Lib.hid (range_below RQ.out hS HLT.out)
          replace RP := Lib.hid (range_below RP.out hS HLT.out)
          replace HLT := Lib.hid (Nat.lt_of_lt_of_le HLT.out hS.size)
          have hX := Below.refl w4.heap.size w4
          clear hS hSz
          refine sx_take (i := 0) (oi := ⟨some 22, _, _, _, _, _⟩) (v := ?_) rfl (by kernel_rfl) (by kernel_rfl) (by kernel_rfl) (fun _ _ _ h => h) rfl hX ?_ ?_; rotate_left; (intro W hW; go_simp; try first | with_reducible rfl | (simp only [d1, d7]; with_reducible rfl)); simp only [Act.put, List.setIfInBounds_toArray, List.set_cons_zero, List.set_cons_succ]
          refine sx_take (i := 1) (oi := ⟨some 23, _, _, _, _, _⟩) (v := ?_) rfl (by kernel_rfl) (by kernel_rfl) (by kernel_rfl) (fun _ _ _ h => h) rfl hX ?_ ?_; rotate_left; (intro W hW; go_simp; try first | with_reducible rfl | (simp only [d1, d7]; with_reducible rfl)); simp only [Act.put, List.setIfInBounds_toArray, List.set_cons_zero, List.set_cons_succ]
          refine sx_take (i := 2) (oi := ⟨some 24, _, _, _, _, _⟩) (v := ?_) rfl (by kernel_rfl) (by kernel_rfl) (by kernel_rfl) (fun _ _ _ h => h) rfl hX ?_ ?_; rotate_left; (intro W hW; go_simp; try first | with_reducible rfl | (simp only [d1, d7]; with_reducible rfl)); simp only [Act.put, List.setIfInBounds_toArray, List.set_cons_zero, List.set_cons_succ]
          refine sx_take (i := 3) (oi := ⟨some 25, _, _, _, _, _⟩) (v := .agg (wds q).toArray) rfl (by kernel_rfl) (by kernel_rfl) (by kernel_rfl) (fun _ _ _ h => h) rfl hX (ld_mid 24 _ rfl b0 (off + j * 4) rfl _ _ RQ.out HLT.out Tryd.underlying24 rfl (size_set _)) ?_; simp only [Act.put, List.setIfInBounds_toArray, List.set_cons_zero, List.set_cons_succ]
          refine sx_act (i := 4) (o := ⟨some 26, _, _, _, _, _⟩) rfl (by kernel_rfl) rfl hX (Nat.le_refl _) (fun K hK => ?_)
          go_wp2_with fail
          refine (C.len q w4).mono ?_
          rintro e w5 ⟨rfl, hb⟩
          rw [HC.out]
          refine hK _ _ hb ?_
          clear hK K hX
          have hX := Below.refl w5.heap.size w5
          replace BB := Lib.hid (BB.out.trans (hb.mono BB.out.size))
          replace KK := Lib.hid (KK.out.below hb KK.out.lt)
          replace RQ := Lib.hid (range_below RQ.out hb HLT.out)
          replace RP := Lib.hid (range_below RP.out hb HLT.out)
          replace HLT := Lib.hid (Nat.lt_of_lt_of_le HLT.out hb.size)
          clear hb
          refine sx_take (i := 5) (oi := ⟨some 27, _, _, _, _, _⟩) (v := ?_) rfl (by kernel_rfl) (by kernel_rfl) (by kernel_rfl) (fun _ _ _ h => h) rfl hX ?_ ?_; rotate_left; (intro W hW; go_simp; try first | with_reducible rfl | (simp only [d1, d7]; with_reducible rfl)); simp only [Act.put, List.setIfInBounds_toArray, List.set_cons_zero, List.set_cons_succ]
          refine sx_take (i := 6) (oi := ⟨some 28, _, _, _, _, _⟩) (v := ?_) rfl (by kernel_rfl) (by kernel_rfl) (by kernel_rfl) (fun _ _ _ h => h) rfl hX ?_ ?_; rotate_left; (intro W hW; go_simp; try first | with_reducible rfl | (simp only [d1, d7]; with_reducible rfl)); simp only [Act.put, List.setIfInBounds_toArray, List.set_cons_zero, List.set_cons_succ]
          refine sx_take (i := 7) (oi := ⟨some 29, _, _, _, _, _⟩) (v := ?_) rfl (by kernel_rfl) (by kernel_rfl) (by kernel_rfl) (fun _ _ _ h => h) rfl hX ?_ ?_; rotate_left; (intro W hW; go_simp; try first | with_reducible rfl | (simp only [d1, d7]; with_reducible rfl)); simp only [Act.put, List.setIfInBounds_toArray, List.set_cons_zero, List.set_cons_succ]
          refine sx_take (i := 8) (oi := ⟨some 30, _, _, _, _, _⟩) (v := .bool true) rfl (by kernel_rfl) (by kernel_rfl) (by kernel_rfl) (fun _ _ _ h => h) rfl hX (by intro W hW; have h := HI1.out; go_simp; try simp [h]) ?_; simp only [Act.put, List.setIfInBounds_toArray, List.set_cons_zero, List.set_cons_succ]
          refine sx_take (i := 9) (oi := ⟨some 31, _, _, _, _, _⟩) (v := ?_) rfl (by kernel_rfl) (by kernel_rfl) (by kernel_rfl) (fun _ _ _ h => h) rfl hX ?_ ?_; rotate_left; (intro W hW; go_simp; try first | with_reducible rfl | (simp only [d1, d7]; with_reducible rfl)); simp only [Act.put, List.setIfInBounds_toArray, List.set_cons_zero, List.set_cons_succ]
          refine sx_take (i := 10) (oi := ⟨some 32, _, _, _, _, _⟩) (v := ?_) rfl (by kernel_rfl) (by kernel_rfl) (by kernel_rfl) (fun _ _ _ h => h) rfl hX ?_ ?_; rotate_left; (intro W hW; go_simp; try first | with_reducible rfl | (simp only [d1, d7]; with_reducible rfl)); simp only [Act.put, List.setIfInBounds_toArray, List.set_cons_zero, List.set_cons_succ]
          refine sx_take (i := 11) (oi := ⟨some 33, _, _, _, _, _⟩) (v := ?_) rfl (by kernel_rfl) (by kernel_rfl) (by kernel_rfl) (fun _ _ _ h => h) rfl hX ?_ ?_; rotate_left; (intro W hW; go_simp; try first | with_reducible rfl | (simp only [d1, d7]; with_reducible rfl)); simp only [Act.put, List.setIfInBounds_toArray, List.set_cons_zero, List.set_cons_succ]
          refine sx_take (i := 12) (oi := ⟨some 34, _, _, _, _, _⟩) (v := .int .i64 (i : Int)) rfl (by kernel_rfl) (by kernel_rfl) (by kernel_rfl) (fun _ _ _ h => h) rfl hX (by intro W hW; go_simp; try simp [d1, d8]) ?_; simp only [Act.put, List.setIfInBounds_toArray, List.set_cons_zero, List.set_cons_succ]
          refine sx_take (i := 13) (oi := ⟨some 35, _, _, _, _, _⟩) (v := ?_) rfl (by kernel_rfl) (by kernel_rfl) (by kernel_rfl) (fun _ _ _ h => h) rfl hX ?_ ?_; rotate_left; (intro W hW; go_simp; try first | with_reducible rfl | (simp only [d1, d7]; with_reducible rfl)); simp only [Act.put, List.setIfInBounds_toArray, List.set_cons_zero, List.set_cons_succ]
          refine sx_take (i := 14) (oi := ⟨some 36, _, _, _, _, _⟩) (v := .agg (wds p).toArray) rfl (by kernel_rfl) (by kernel_rfl) (by kernel_rfl) (fun _ _ _ h => h) rfl hX (ld_mid 24 _ rfl b0 (off + i * 4) rfl _ _ RP.out HLT.out Tryd.underlying24 rfl (size_set _)) ?_; simp only [Act.put, List.setIfInBounds_toArray, List.set_cons_zero, List.set_cons_succ]
          refine sx_take (i := 18) (oi := ⟨some 40, _, _, _, _, _⟩) (v := ?_) rfl (by kernel_rfl) (by kernel_rfl) (by kernel_rfl) (fun _ _ _ h => h) rfl hX ?_ ?_; rotate_left; (intro W hW; go_simp; try first | with_reducible rfl | (simp only [d1, d7]; with_reducible rfl)); simp only [Act.put, List.setIfInBounds_toArray, List.set_cons_zero, List.set_cons_succ]
          refine sx_take (i := 19) (oi := ⟨some 41, _, _, _, _, _⟩) (v := ?_) rfl (by kernel_rfl) (by kernel_rfl) (by kernel_rfl) (fun _ _ _ h => h) rfl hX ?_ ?_; rotate_left; (intro W hW; go_simp; try first | with_reducible rfl | (simp only [d1, d7]; with_reducible rfl)); simp only [Act.put, List.setIfInBounds_toArray, List.set_cons_zero, List.set_cons_succ]
          refine sx_take (i := 20) (oi := ⟨some 42, _, _, _, _, _⟩) (v := ?_) rfl (by kernel_rfl) (by kernel_rfl) (by kernel_rfl) (fun _ _ _ h => h) rfl hX ?_ ?_; rotate_left; (intro W hW; go_simp; try first | with_reducible rfl | (simp only [d1, d7]; with_reducible rfl)); simp only [Act.put, List.setIfInBounds_toArray, List.set_cons_zero, List.set_cons_succ]
          refine sx_take (i := 21) (oi := ⟨some 43, _, _, _, _, _⟩) (v := .agg (wds q).toArray) rfl (by kernel_rfl) (by kernel_rfl) (by kernel_rfl) (fun _ _ _ h => h) rfl hX (ld_mid 24 _ rfl b0 (off + j * 4) rfl _ _ RQ.out HLT.out Tryd.underlying24 rfl (size_set _)) ?_; simp only [Act.put, List.setIfInBounds_toArray, List.set_cons_zero, List.set_cons_succ]
          refine sx_act (i := 15) (o := ⟨some 37, _, _, _, _, _⟩) rfl (by kernel_rfl) rfl hX (Nat.le_refl _) (fun K hK => ?_)
          go_wp2_with fail
          refine (C.list p w5 (HT.out.belowG (B2.out.trans (BB.out.mono B2.out.size)) HT.out.lt)).mono ?_
          rintro e w6 ⟨v37, rfl, hr37, hb⟩
          rw [HM0.out] at hr37
          have R37 := Lib.hid hr37
          obtain ⟨A37, cap37, rfl, _, _, _, _⟩ := hr37
          obtain ⟨b37, off37, rfl, hb37, hc37⟩ := R37.out.at_ (by rw [bvs_length, HC0.out]; omega)
          have e37 := hc37 0 _ (bvs_get m0 0 _ HE5.out)
          rw [bv_ofNat he256, Nat.add_zero] at e37
          rw [bvs_length m0, HC0.out]
          have c37 : ∀ W, Below w6.heap.size w6 W → W.cell? ⟨b37, off37, none⟩ = some (.int .u8 (e1 : Int)) := fun W hW => (hW.cell (p := ⟨b37, off37, none⟩) hb37).trans e37
          clear e37 hc37 R37
          refine hK _ _ hb ?_
          clear hK K hX
          have hX := Below.refl w6.heap.size w6
          replace BB := Lib.hid (BB.out.trans (hb.mono BB.out.size))
          replace KK := Lib.hid (KK.out.below hb KK.out.lt)
          replace RQ := Lib.hid (range_below RQ.out hb HLT.out)
          replace RP := Lib.hid (range_below RP.out hb HLT.out)
          replace HLT := Lib.hid (Nat.lt_of_lt_of_le HLT.out hb.size)
          clear hb
          refine sx_take (i := 16) (oi := ⟨some 38, _, _, _, _, _⟩) (v := .pointer (some ⟨b37, off37, none⟩)) rfl (by kernel_rfl) (by kernel_rfl) (by kernel_rfl) (fun _ _ _ h => h) rfl hX (by intro W hW; go_simp; try (intro h; exact absurd h n0)) ?_; simp only [Act.put, List.setIfInBounds_toArray, List.set_cons_zero, List.set_cons_succ]
          refine sx_take (i := 17) (oi := ⟨some 39, _, _, _, _, _⟩) (v := ?_) rfl (by kernel_rfl) (by kernel_rfl) (by kernel_rfl) (fun _ _ _ h => h) rfl hX ?_ ?_; rotate_left; (intro W hW; go_simp; try first | with_reducible rfl | (simp only [d1, d7]; with_reducible rfl)); simp only [Act.put, List.setIfInBounds_toArray, List.set_cons_zero, List.set_cons_succ]
          refine sx_act (i := 22) (o := ⟨some 44, _, _, _, _, _⟩) rfl (by kernel_rfl) rfl hX (Nat.le_refl _) (fun K hK => ?_)
          go_wp2_with fail
          refine (C.list q w6 (HT.out.belowG (B2.out.trans (BB.out.mono B2.out.size)) HT.out.lt)).mono ?_
          rintro e w7 ⟨v44, rfl, hr44, hb⟩
          clear c37
          rw [HM1.out] at hr44
          have R44 := Lib.hid hr44
          obtain ⟨A44, cap44, rfl, _, _, _, _⟩ := hr44
          obtain ⟨b44, off44, rfl, hb44, hc44⟩ := R44.out.at_ (by rw [bvs_length, HCM.out]; omega)
          have e44 := hc44 0 _ (bvs_get m1 0 _ HG5.out)
          rw [bv_ofNat hf256, Nat.add_zero] at e44
          rw [bvs_length m1, HCM.out]
          have c44 : ∀ W, Below w7.heap.size w7 W → W.cell? ⟨b44, off44, none⟩ = some (.int .u8 (f1 : Int)) := fun W hW => (hW.cell (p := ⟨b44, off44, none⟩) hb44).trans e44
          clear e44 hc44 R44
          refine hK _ _ hb ?_
          clear hK K hX
          have hX := Below.refl w7.heap.size w7
          replace BB := Lib.hid (BB.out.trans (hb.mono BB.out.size))
          replace KK := Lib.hid (KK.out.below hb KK.out.lt)
          replace RQ := Lib.hid (range_below RQ.out hb HLT.out)
          replace RP := Lib.hid (range_below RP.out hb HLT.out)
          replace HLT := Lib.hid (Nat.lt_of_lt_of_le HLT.out hb.size)
          clear hb
          refine sx_take (i := 23) (oi := ⟨some 45, _, _, _, _, _⟩) (v := .pointer (some ⟨b44, off44, none⟩)) rfl (by kernel_rfl) (by kernel_rfl) (by kernel_rfl) (fun _ _ _ h => h) rfl hX (by intro W hW; go_simp; try (intro h; exact absurd h n1)) ?_; simp only [Act.put, List.setIfInBounds_toArray, List.set_cons_zero, List.set_cons_succ]
          refine sx_take (i := 24) (oi := ⟨some 46, _, _, _, _, _⟩) (v := ?_) rfl (by kernel_rfl) (by kernel_rfl) (by kernel_rfl) (fun _ _ _ h => h) rfl hX ?_ ?_; rotate_left; (intro W hW; go_simp; try first | with_reducible rfl | (simp only [d1, d7]; with_reducible rfl)); simp only [Act.put, List.setIfInBounds_toArray, List.set_cons_zero, List.set_cons_succ]
          refine sx_take (i := 25) (oi := ⟨some 47, _, _, _, _, _⟩) (v := .bool false) rfl (by kernel_rfl) (by kernel_rfl) (by kernel_rfl) (fun _ _ _ h => h) rfl hX (by intro W hW; have h := HRI.out; go_simp; try simp [d5, d6]; try exact h) ?_; simp only [Act.put, List.setIfInBounds_toArray, List.set_cons_zero, List.set_cons_succ]
          refine sx_take (i := 26) (oi := ⟨some 48, _, _, _, _, _⟩) (v := ?_) rfl (by kernel_rfl) (by kernel_rfl) (by kernel_rfl) (fun _ _ _ h => h) rfl hX ?_ ?_; rotate_left; (intro W hW; go_simp; try first | with_reducible rfl | (simp only [d1, d7]; with_reducible rfl)); simp only [Act.put, List.setIfInBounds_toArray, List.set_cons_zero, List.set_cons_succ]
          refine sx_take (i := 27) (oi := ⟨some 49, _, _, _, _, _⟩) (v := ?_) rfl (by kernel_rfl) (by kernel_rfl) (by kernel_rfl) (fun _ _ _ h => h) rfl hX ?_ ?_; rotate_left; (intro W hW; go_simp; try first | with_reducible rfl | (simp only [d1, d7]; with_reducible rfl)); simp only [Act.put, List.setIfInBounds_toArray, List.set_cons_zero, List.set_cons_succ]
          refine wpAnyH_done (by kernel_rfl) ?_ _
          clear hX c44
          go_wp2_with fail
          have RQ2 := Lib.hid (HRG.out (j) q (by rw [HQE.out]; exact List.getElem?_eq_getElem hjq))
          refine sx_startB (B := w2.heap.size) (w0 := w2) (by kernel_rfl) BB.out (fun wd hwd hX => ?_)
          have KG := Lib.hid (show Blk wd w2.heap.size 24 (wds u) by rw [hwd]; exact KK.out.drew)
          have SZ := Lib.hid (Nat.le_of_lt KG.out.lt)
          clear hwd BB KK RQ HLT
          refine sx_take (i := 1) (oi := ⟨some 51, _, _, _, _, _⟩) (v := ?_) rfl (by kernel_rfl) (by kernel_rfl) (by kernel_rfl) (fun _ _ _ h => h) rfl hX ?_ ?_; rotate_left; (intro W hW; go_simp; try with_reducible rfl); simp only [Act.put, List.setIfInBounds_toArray, List.set_cons_zero, List.set_cons_succ]
          refine sx_take (i := 2) (oi := ⟨some 52, _, _, _, _, _⟩) (v := ?_) rfl (by kernel_rfl) (by kernel_rfl) (by kernel_rfl) (fun _ _ _ h => h) rfl hX ?_ ?_; rotate_left; (intro W hW; go_simp; try with_reducible rfl); simp only [Act.put, List.setIfInBounds_toArray, List.set_cons_zero, List.set_cons_succ]
          refine sx_take (i := 3) (oi := ⟨some 53, _, _, _, _, _⟩) (v := ?_) rfl (by kernel_rfl) (by kernel_rfl) (by kernel_rfl) (fun _ _ _ h => h) rfl hX ?_ ?_; rotate_left; (intro W hW; go_simp; try with_reducible rfl); simp only [Act.put, List.setIfInBounds_toArray, List.set_cons_zero, List.set_cons_succ]
          refine sx_take (i := 4) (oi := ⟨some 54, _, _, _, _, _⟩) (v := .agg (wds q).toArray) rfl (by kernel_rfl) (by kernel_rfl) (by kernel_rfl) (fun _ _ _ h => h) rfl hX (ld_mid 24 _ rfl b0 (off + (j) * 4) rfl _ _ RQ2.out HB0.out Tryd.underlying24 rfl (size_set q)) ?_
          simp only [Act.put, List.setIfInBounds_toArray, List.set_cons_zero, List.set_cons_succ]
          refine sx_take (i := 6) (oi := ⟨some 56, _, _, _, _, _⟩) (v := ?_) rfl (by kernel_rfl) (by kernel_rfl) (by kernel_rfl) (fun _ _ _ h => h) rfl hX ?_ ?_; rotate_left; (intro W hW; go_simp; try with_reducible rfl); simp only [Act.put, List.setIfInBounds_toArray, List.set_cons_zero, List.set_cons_succ]
          refine sx_take (i := 7) (oi := ⟨some 57, _, _, _, _, _⟩) (v := ?_) rfl (by kernel_rfl) (by kernel_rfl) (by kernel_rfl) (fun _ _ _ h => h) rfl hX ?_ ?_; rotate_left; (intro W hW; go_simp; try with_reducible rfl); simp only [Act.put, List.setIfInBounds_toArray, List.set_cons_zero, List.set_cons_succ]
          refine sx_take (i := 8) (oi := ⟨some 58, _, _, _, _, _⟩) (v := ?_) rfl (by kernel_rfl) (by kernel_rfl) (by kernel_rfl) (fun _ _ _ h => h) rfl hX ?_ ?_; rotate_left; (intro W hW; go_simp; try with_reducible rfl); simp only [Act.put, List.setIfInBounds_toArray, List.set_cons_zero, List.set_cons_succ]
          refine sx_take (i := 9) (oi := ⟨some 59, _, _, _, _, _⟩) (v := ?_) rfl (by kernel_rfl) (by kernel_rfl) (by kernel_rfl) (fun _ _ _ h => h) rfl hX ?_ ?_; rotate_left; (intro W hW; go_simp; try with_reducible rfl); simp only [Act.put, List.setIfInBounds_toArray, List.set_cons_zero, List.set_cons_succ]
          refine sx_take (i := 10) (oi := ⟨some 60, _, _, _, _, _⟩) (v := .agg (wds q).toArray) rfl (by kernel_rfl) (by kernel_rfl) (by kernel_rfl) (fun _ _ _ h => h) rfl hX (ld_mid 24 _ rfl b0 (off + (j) * 4) rfl _ _ RQ2.out HB0.out Tryd.underlying24 rfl (size_set q)) ?_
          simp only [Act.put, List.setIfInBounds_toArray, List.set_cons_zero, List.set_cons_succ]
          refine sx_actB (i := 0) (o := ⟨some 50, _, _, _, _, _⟩) rfl (by kernel_rfl) rfl hX (fun K hK => ?_)
          refine wp_load_row 24 _ rfl w2.heap.size rfl 24 (wds u).toArray (0, 0) _ KG.out Tryd.underlying24 rfl (by have := size_set u; simpa using this) ?_
          refine hK _ _ (Below.refl _ _) ?_
          clear hK K
          simp only [Act.put, List.setIfInBounds_toArray, List.set_cons_zero, List.set_cons_succ]
          refine sx_actB (i := 5) (o := ⟨some 55, _, _, _, _, _⟩) rfl (by kernel_rfl) rfl hX (fun K hK => ?_)
          go_wp2_with fail
          refine (C.or_ u q wd).mono ?_
          rintro e we ⟨rfl, hb⟩
          rw [HU2.out]
          refine hK _ _ (hb.mono SZ.out) ?_
          clear hK K
          replace hX := hX.trans (hb.mono SZ.out)
          replace KG := Lib.hid (KG.out.below hb KG.out.lt)
          replace SZ := Lib.hid (Nat.le_trans SZ.out hb.size)
          clear hb
          refine sx_actB (i := 11) (o := ⟨some 61, _, _, _, _, _⟩) rfl (by kernel_rfl) rfl hX (fun K hK => ?_)
          go_wp2_with fail
          refine (C.len q we).mono ?_
          rintro e wf ⟨rfl, hb⟩
          rw [HC.out]
          refine hK _ _ (hb.mono SZ.out) ?_
          clear hK K
          replace hX := hX.trans (hb.mono SZ.out)
          replace KG := Lib.hid (KG.out.below hb KG.out.lt)
          replace SZ := Lib.hid (Nat.le_trans SZ.out hb.size)
          clear hb
          refine sx_take (i := 12) (oi := ⟨some 62, _, _, _, _, _⟩) (v := ?_) rfl (by kernel_rfl) (by kernel_rfl) (by kernel_rfl) (fun _ _ _ h => h) rfl hX ?_ ?_; rotate_left; (intro W hW; go_simp; try first | with_reducible rfl | (simp only [hwa, hwi]; with_reducible rfl)); simp only [Act.put, List.setIfInBounds_toArray, List.set_cons_zero, List.set_cons_succ]
          refine sx_actB (i := 13) (o := ⟨none, _, _, _, _, _⟩) rfl (by kernel_rfl) rfl hX (fun K hK => ?_)
          refine wp_stBlk 24 _ _ rfl w2.heap.size (wds u2) rfl rfl 24 _ KG.out (size_set u2) rfl (wds_all _) hX (Nat.le_refl _) ?_
          intro wg hkg hbg hsg hog hbsg
          refine hK _ _ (hbsg _ (Nat.le_refl _)) ?_
          clear hK K
          replace hX := hbg
          have KU := Lib.hid hkg
          clear hkg hbg hsg hog hbsg KG SZ
          refine sx_take (i := 14) (oi := ⟨some 5, _, _, _, _, _⟩) (v := ?_) rfl (by kernel_rfl) (by kernel_rfl) (by kernel_rfl) (fun _ _ _ h => h) rfl hX ?_ ?_; rotate_left; (intro W hW; go_simp; try with_reducible rfl); simp only [Act.put, List.setIfInBounds_toArray, List.set_cons_zero, List.set_cons_succ]
          refine wpAnyH_done (by kernel_rfl) ?_ _
          have BG := Lib.hid hX
          clear hX
          go_wp2_with fail
          go_loopw [7] (fun kk wl => ∃ k : Nat, k ≤ ps.length ∧ kk = .int .i64 (k : Int) ∧ Below wg.heap.size wg wl) (fun kk _ => ps.length - (intOf kk).toNat)
          case atStart => exact ⟨0, by omega, by simp, Below.refl _ _⟩
          case round =>
            obtain ⟨k, hk, rfl, hbi⟩ := hrel
            have HBI := Lib.hid hbi
            clear hbi
            have B2R := Lib.hid (BG.out.trans (HBI.out.mono BG.out.size))
            by_cases hkl : k < ps.length
            · have k1 : (k : Int) < (ps.length : Int) := by omega
              have BWR := Lib.hid (B2.out.trans (B2R.out.mono B2.out.size))
              obtain ⟨b1, off1, rfl, hb1, hrng1⟩ := (R0.out.below BWR.out).at_ (by omega)
              obtain ⟨s, hs⟩ : ∃ s, s = ps[k]'hkl := ⟨_, rfl⟩
              have HRS := Lib.hid (hrng1 k s (by rw [hs]; exact List.getElem?_eq_getElem hkl))
              have HRQ := Lib.hid (range_below RQ2.out B2R.out HB0.out)
              have HLQ := Lib.hid (Nat.lt_of_lt_of_le HB0.out B2R.out.size)
              have hin := HQI.out s (by rw [hs]; exact List.getElem_mem hkl)
              obtain ⟨x, hx⟩ : ∃ f : Nat → Bool, (fun b => s b && q b) = f := ⟨_, rfl⟩
              rw [hx] at hin
              have HXX := Lib.hid hx
              have HIX := Lib.hid hin
              have HSE := Lib.hid hs
              clear hrng1 hx hin hs
              go_wp2_with fail
              refine sx_startB (B := wr.heap.size) (w0 := wr) (by kernel_rfl) (Below.refl _ _) (fun wh hwd hX => ?_)
              have SZ := Lib.hid hX.size
              clear hwd
              refine sx_take (i := 0) (oi := ⟨some 69, _, _, _, _, _⟩) (v := ?_) rfl (by kernel_rfl) (by kernel_rfl) (by kernel_rfl) (fun _ _ _ h => h) rfl hX ?_ ?_; rotate_left; (intro W hW; go_simp; try with_reducible rfl); simp only [Act.put, List.setIfInBounds_toArray, List.set_cons_zero, List.set_cons_succ]
              refine sx_take (i := 1) (oi := ⟨some 70, _, _, _, _, _⟩) (v := ?_) rfl (by kernel_rfl) (by kernel_rfl) (by kernel_rfl) (fun _ _ _ h => h) rfl hX ?_ ?_; rotate_left; (intro W hW; go_simp; try with_reducible rfl); simp only [Act.put, List.setIfInBounds_toArray, List.set_cons_zero, List.set_cons_succ]
              refine sx_take (i := 2) (oi := ⟨some 71, _, _, _, _, _⟩) (v := ?_) rfl (by kernel_rfl) (by kernel_rfl) (by kernel_rfl) (fun _ _ _ h => h) rfl hX ?_ ?_; rotate_left; (intro W hW; go_simp; try with_reducible rfl); simp only [Act.put, List.setIfInBounds_toArray, List.set_cons_zero, List.set_cons_succ]
              refine sx_take (i := 3) (oi := ⟨some 72, _, _, _, _, _⟩) (v := .agg (wds s).toArray) rfl (by kernel_rfl) (by kernel_rfl) (by kernel_rfl) (fun _ _ _ h => h) rfl hX (ld_mid 24 _ rfl b1 (off1 + k * 4) rfl _ _ HRS.out hb1 Tryd.underlying24 rfl (size_set s)) ?_
              simp only [Act.put, List.setIfInBounds_toArray, List.set_cons_zero, List.set_cons_succ]
              refine sx_take (i := 4) (oi := ⟨some 73, _, _, _, _, _⟩) (v := ?_) rfl (by kernel_rfl) (by kernel_rfl) (by kernel_rfl) (fun _ _ _ h => h) rfl hX ?_ ?_; rotate_left; (intro W hW; go_simp; try with_reducible rfl); simp only [Act.put, List.setIfInBounds_toArray, List.set_cons_zero, List.set_cons_succ]
              refine sx_take (i := 5) (oi := ⟨some 74, _, _, _, _, _⟩) (v := ?_) rfl (by kernel_rfl) (by kernel_rfl) (by kernel_rfl) (fun _ _ _ h => h) rfl hX ?_ ?_; rotate_left; (intro W hW; go_simp; try with_reducible rfl); simp only [Act.put, List.setIfInBounds_toArray, List.set_cons_zero, List.set_cons_succ]
              refine sx_take (i := 6) (oi := ⟨some 75, _, _, _, _, _⟩) (v := ?_) rfl (by kernel_rfl) (by kernel_rfl) (by kernel_rfl) (fun _ _ _ h => h) rfl hX ?_ ?_; rotate_left; (intro W hW; go_simp; try with_reducible rfl); simp only [Act.put, List.setIfInBounds_toArray, List.set_cons_zero, List.set_cons_succ]
              refine sx_take (i := 7) (oi := ⟨some 76, _, _, _, _, _⟩) (v := .agg (wds q).toArray) rfl (by kernel_rfl) (by kernel_rfl) (by kernel_rfl) (fun _ _ _ h => h) rfl hX (ld_mid 24 _ rfl b0 (off + (j) * 4) rfl _ _ HRQ.out HLQ.out Tryd.underlying24 rfl (size_set q)) ?_
              simp only [Act.put, List.setIfInBounds_toArray, List.set_cons_zero, List.set_cons_succ]
              apply oneEnd (H := fun g w' => Blk w' g 24 (wds x) ∧ wr.heap.size ≤ g ∧ Below wr.heap.size wr w')
              case main =>
                intro fin
                have FIN := Lib.hid fin
                clear fin
                refine sx_two (i := 8) (j := 9) (oi := ⟨some 77, _, _, _, _, _⟩) (oj := ⟨some 8, _, _, _, _, _⟩) rfl rfl (by kernel_rfl) rfl rfl hX (fun K hK => ?_) (fun K hK => ?_)
                · go_wp2_with fail
                  refine (C.and_ s q wh).mono ?_
                  rintro e wi ⟨rfl, hb⟩
                  rw [HXX.out]
                  refine hK _ _ (hb.mono SZ.out) ?_
                  clear hK K
                  replace hX := hX.trans (hb.mono SZ.out)
                  replace SZ := Lib.hid (Nat.le_trans SZ.out hb.size)
                  clear hb
                  refine sx_actB (i := 9) (o := ⟨some 8, _, _, _, _, _⟩) rfl (by kernel_rfl) rfl hX (fun K hK => ?_)
                  refine wp_newB 24 rfl i0 _ (wds z) hi0 hz0 rfl ?_
                  intro wj hk hb hs
                  refine hK _ _ (hb.mono SZ.out) ?_
                  clear hK K
                  have GB := Lib.hid (show wr.heap.size ≤ wi.heap.size from SZ.out)
                  replace hX := hX.trans (hb.mono SZ.out)
                  obtain ⟨g, hg⟩ : ∃ g, g = wi.heap.size := ⟨_, rfl⟩
                  rw [← hg] at hk GB ⊢
                  have KG := Lib.hid hk
                  clear hk hb hs hg SZ
                  refine sx_actB (i := 10) (o := ⟨none, _, _, _, _, _⟩) rfl (by kernel_rfl) rfl hX (fun K hK => ?_)
                  refine wp_stBlk 24 _ _ rfl g (wds x) rfl rfl 24 _ KG.out (size_set x) rfl (wds_all _) hX GB.out ?_
                  intro wk hk9 hb9 hs9 ho9 hbs9
                  refine hK _ _ (hbs9 _ GB.out) ?_
                  clear hK K
                  refine wpAnyH_done (by kernel_rfl) ?_ _
                  exact FIN.out g wk ⟨hk9, GB.out, hb9⟩
                · refine wp_newB 24 rfl i0 _ (wds z) hi0 hz0 rfl ?_
                  intro wi hk hb hs
                  refine hK _ _ (hb.mono SZ.out) ?_
                  clear hK K
                  have GB := Lib.hid (show wr.heap.size ≤ wh.heap.size from SZ.out)
                  replace hX := hX.trans (hb.mono SZ.out)
                  replace SZ := Lib.hid (Nat.le_trans SZ.out hb.size)
                  obtain ⟨g, hg⟩ : ∃ g, g = wh.heap.size := ⟨_, rfl⟩
                  rw [← hg] at hk GB ⊢
                  have KG := Lib.hid hk
                  clear hk hb hs hg
                  refine sx_actB (i := 8) (o := ⟨some 77, _, _, _, _, _⟩) rfl (by kernel_rfl) rfl hX (fun K hK => ?_)
                  go_wp2_with fail
                  refine (C.and_ s q wi).mono ?_
                  rintro e wj ⟨rfl, hb⟩
                  rw [HXX.out]
                  refine hK _ _ (hb.mono SZ.out) ?_
                  clear hK K
                  replace hX := hX.trans (hb.mono SZ.out)
                  replace KG := Lib.hid (KG.out.below hb KG.out.lt)
                  clear hb SZ
                  refine sx_actB (i := 10) (o := ⟨none, _, _, _, _, _⟩) rfl (by kernel_rfl) rfl hX (fun K hK => ?_)
                  refine wp_stBlk 24 _ _ rfl g (wds x) rfl rfl 24 _ KG.out (size_set x) rfl (wds_all _) hX GB.out ?_
                  intro wk hk9 hb9 hs9 ho9 hbs9
                  refine hK _ _ (hbs9 _ GB.out) ?_
                  clear hK K
                  refine wpAnyH_done (by kernel_rfl) ?_ _
                  exact FIN.out g wk ⟨hk9, GB.out, hb9⟩
              case fin =>
                rintro g wk ⟨hkx, hgx, hbx⟩
                have KX := Lib.hid hkx
                have BK := Lib.hid (HBI.out.trans (hbx.mono HBI.out.size))
                have HRK := Lib.hid (range_below HRQ.out hbx HLQ.out)
                have HLK := Lib.hid (Nat.lt_of_lt_of_le HLQ.out hbx.size)
                clear hkx hgx hbx
                go_wp2_with fail
                rcases HIX.out with he | ⟨he, hl⟩
                · have HNE1 := Lib.hid (show (!eqS x q) = false by rw [he]; rfl)
                  clear he
                  refine sx_startB (B := wk.heap.size) (w0 := wk) (by kernel_rfl) (Below.refl _ _) (fun wl hwd hX => ?_)
                  have SZ := Lib.hid hX.size
                  clear hwd
                  refine sx_take (i := 0) (oi := ⟨some 78, _, _, _, _, _⟩) (v := .agg (wds x).toArray) rfl (by kernel_rfl) (by kernel_rfl) (by kernel_rfl) (fun _ _ _ h => h) rfl hX (ld_blk 24 _ rfl g rfl 24 _ _ KX.out KX.out.lt Tryd.underlying24 rfl (size_set x)) ?_; simp only [Act.put, List.setIfInBounds_toArray, List.set_cons_zero, List.set_cons_succ]
                  refine sx_take (i := 1) (oi := ⟨some 79, _, _, _, _, _⟩) (v := ?_) rfl (by kernel_rfl) (by kernel_rfl) (by kernel_rfl) (fun _ _ _ h => h) rfl hX ?_ ?_; rotate_left; (intro W hW; go_simp; try with_reducible rfl); simp only [Act.put, List.setIfInBounds_toArray, List.set_cons_zero, List.set_cons_succ]
                  refine sx_take (i := 2) (oi := ⟨some 80, _, _, _, _, _⟩) (v := ?_) rfl (by kernel_rfl) (by kernel_rfl) (by kernel_rfl) (fun _ _ _ h => h) rfl hX ?_ ?_; rotate_left; (intro W hW; go_simp; try with_reducible rfl); simp only [Act.put, List.setIfInBounds_toArray, List.set_cons_zero, List.set_cons_succ]
                  refine sx_take (i := 3) (oi := ⟨some 81, _, _, _, _, _⟩) (v := ?_) rfl (by kernel_rfl) (by kernel_rfl) (by kernel_rfl) (fun _ _ _ h => h) rfl hX ?_ ?_; rotate_left; (intro W hW; go_simp; try with_reducible rfl); simp only [Act.put, List.setIfInBounds_toArray, List.set_cons_zero, List.set_cons_succ]
                  refine sx_take (i := 4) (oi := ⟨some 82, _, _, _, _, _⟩) (v := .agg (wds q).toArray) rfl (by kernel_rfl) (by kernel_rfl) (by kernel_rfl) (fun _ _ _ h => h) rfl hX (ld_mid 24 _ rfl b0 (off + (j) * 4) rfl _ _ HRK.out HLK.out Tryd.underlying24 rfl (size_set q)) ?_; simp only [Act.put, List.setIfInBounds_toArray, List.set_cons_zero, List.set_cons_succ]
                  refine sx_take (i := 5) (oi := ⟨some 83, _, _, _, _, _⟩) (v := .bool false) rfl (by kernel_rfl) (by kernel_rfl) (by kernel_rfl) (fun _ _ _ h => h) rfl hX (ne_is HNE1.out 24 22 (.tmp 78) (.tmp 82) 24 rfl guard_set Tryd.underlying24 Tryd.underlying22 size_u64 rfl rfl) ?_; simp only [Act.put, List.setIfInBounds_toArray, List.set_cons_zero, List.set_cons_succ]
                  refine sx_take (i := 6) (oi := ⟨some 84, _, _, _, _, _⟩) (v := ?_) rfl (by kernel_rfl) (by kernel_rfl) (by kernel_rfl) (fun _ _ _ h => h) rfl hX ?_ ?_; rotate_left; (intro W hW; go_simp; try with_reducible rfl); simp only [Act.put, List.setIfInBounds_toArray, List.set_cons_zero, List.set_cons_succ]
                  refine sx_skip (i := 7) (oi := ⟨some 85, _, _, _, _, _⟩) rfl (by kernel_rfl) (by kernel_rfl) (by kernel_rfl) (fun _ _ _ h => h) rfl hX ?_; simp only [Act.put, List.setIfInBounds_toArray, List.set_cons_zero, List.set_cons_succ]
                  refine sx_skip (i := 8) (oi := ⟨some 86, _, _, _, _, _⟩) rfl (by kernel_rfl) (by kernel_rfl) (by kernel_rfl) (fun _ _ _ h => h) rfl hX ?_; simp only [Act.put, List.setIfInBounds_toArray, List.set_cons_zero, List.set_cons_succ]
                  refine sx_skip (i := 9) (oi := ⟨some 87, _, _, _, _, _⟩) rfl (by kernel_rfl) (by kernel_rfl) (by kernel_rfl) (fun _ _ _ h => h) rfl hX ?_; simp only [Act.put, List.setIfInBounds_toArray, List.set_cons_zero, List.set_cons_succ]
                  refine sx_take (i := 10) (oi := ⟨some 88, _, _, _, _, _⟩) (v := ?_) rfl (by kernel_rfl) (by kernel_rfl) (by kernel_rfl) (fun _ _ _ h => h) rfl hX ?_ ?_; rotate_left; (intro W hW; go_simp; try with_reducible rfl); simp only [Act.put, List.setIfInBounds_toArray, List.set_cons_zero, List.set_cons_succ]
                  refine wpAnyH_done (by kernel_rfl) ?_ _
                  have BL := Lib.hid (BK.out.trans (hX.mono BK.out.size))
                  clear hX
                  go_wp2_with fail
                  exact ⟨⟨k + 1, by omega, by congr 1, BL.out⟩, by simp [intOf] <;> omega⟩
                · have HNE1 := Lib.hid (show (!eqS x q) = true by rw [he]; rfl)
                  have HL0 := Lib.hid hl
                  clear he hl
                  refine sx_startB (B := wk.heap.size) (w0 := wk) (by kernel_rfl) (Below.refl _ _) (fun wl hwd hX => ?_)
                  have SZ := Lib.hid hX.size
                  clear hwd
                  refine sx_take (i := 0) (oi := ⟨some 78, _, _, _, _, _⟩) (v := .agg (wds x).toArray) rfl (by kernel_rfl) (by kernel_rfl) (by kernel_rfl) (fun _ _ _ h => h) rfl hX (ld_blk 24 _ rfl g rfl 24 _ _ KX.out KX.out.lt Tryd.underlying24 rfl (size_set x)) ?_; simp only [Act.put, List.setIfInBounds_toArray, List.set_cons_zero, List.set_cons_succ]
                  refine sx_take (i := 1) (oi := ⟨some 79, _, _, _, _, _⟩) (v := ?_) rfl (by kernel_rfl) (by kernel_rfl) (by kernel_rfl) (fun _ _ _ h => h) rfl hX ?_ ?_; rotate_left; (intro W hW; go_simp; try with_reducible rfl); simp only [Act.put, List.setIfInBounds_toArray, List.set_cons_zero, List.set_cons_succ]
                  refine sx_take (i := 2) (oi := ⟨some 80, _, _, _, _, _⟩) (v := ?_) rfl (by kernel_rfl) (by kernel_rfl) (by kernel_rfl) (fun _ _ _ h => h) rfl hX ?_ ?_; rotate_left; (intro W hW; go_simp; try with_reducible rfl); simp only [Act.put, List.setIfInBounds_toArray, List.set_cons_zero, List.set_cons_succ]
                  refine sx_take (i := 3) (oi := ⟨some 81, _, _, _, _, _⟩) (v := ?_) rfl (by kernel_rfl) (by kernel_rfl) (by kernel_rfl) (fun _ _ _ h => h) rfl hX ?_ ?_; rotate_left; (intro W hW; go_simp; try with_reducible rfl); simp only [Act.put, List.setIfInBounds_toArray, List.set_cons_zero, List.set_cons_succ]
                  refine sx_take (i := 4) (oi := ⟨some 82, _, _, _, _, _⟩) (v := .agg (wds q).toArray) rfl (by kernel_rfl) (by kernel_rfl) (by kernel_rfl) (fun _ _ _ h => h) rfl hX (ld_mid 24 _ rfl b0 (off + (j) * 4) rfl _ _ HRK.out HLK.out Tryd.underlying24 rfl (size_set q)) ?_; simp only [Act.put, List.setIfInBounds_toArray, List.set_cons_zero, List.set_cons_succ]
                  refine sx_take (i := 5) (oi := ⟨some 83, _, _, _, _, _⟩) (v := .bool true) rfl (by kernel_rfl) (by kernel_rfl) (by kernel_rfl) (fun _ _ _ h => h) rfl hX (ne_is HNE1.out 24 22 (.tmp 78) (.tmp 82) 24 rfl guard_set Tryd.underlying24 Tryd.underlying22 size_u64 rfl rfl) ?_; simp only [Act.put, List.setIfInBounds_toArray, List.set_cons_zero, List.set_cons_succ]
                  refine sx_take (i := 6) (oi := ⟨some 84, _, _, _, _, _⟩) (v := ?_) rfl (by kernel_rfl) (by kernel_rfl) (by kernel_rfl) (fun _ _ _ h => h) rfl hX ?_ ?_; rotate_left; (intro W hW; go_simp; try with_reducible rfl); simp only [Act.put, List.setIfInBounds_toArray, List.set_cons_zero, List.set_cons_succ]
                  refine sx_take (i := 7) (oi := ⟨some 85, _, _, _, _, _⟩) (v := .agg (wds x).toArray) rfl (by kernel_rfl) (by kernel_rfl) (by kernel_rfl) (fun _ _ _ h => h) rfl hX (ld_blk 24 _ rfl g rfl 24 _ _ KX.out KX.out.lt Tryd.underlying24 rfl (size_set x)) ?_; simp only [Act.put, List.setIfInBounds_toArray, List.set_cons_zero, List.set_cons_succ]
                  refine sx_actB (i := 8) (o := ⟨some 86, _, _, _, _, _⟩) rfl (by kernel_rfl) rfl hX (fun K hK => ?_)
                  go_wp2_with fail
                  refine (C.len x wl).mono ?_
                  rintro e wm ⟨rfl, hb⟩
                  rw [HL0.out]
                  refine hK _ _ (hb.mono SZ.out) ?_
                  clear hK K
                  replace hX := hX.trans (hb.mono SZ.out)
                  clear hb
                  refine sx_take (i := 9) (oi := ⟨some 87, _, _, _, _, _⟩) (v := ?_) rfl (by kernel_rfl) (by kernel_rfl) (by kernel_rfl) (fun _ _ _ h => h) rfl hX ?_ ?_; rotate_left; (intro W hW; go_simp; try with_reducible rfl); simp only [Act.put, List.setIfInBounds_toArray, List.set_cons_zero, List.set_cons_succ]
                  refine sx_take (i := 10) (oi := ⟨some 88, _, _, _, _, _⟩) (v := ?_) rfl (by kernel_rfl) (by kernel_rfl) (by kernel_rfl) (fun _ _ _ h => h) rfl hX ?_ ?_; rotate_left; (intro W hW; go_simp; try with_reducible rfl); simp only [Act.put, List.setIfInBounds_toArray, List.set_cons_zero, List.set_cons_succ]
                  refine wpAnyH_done (by kernel_rfl) ?_ _
                  have BL := Lib.hid (BK.out.trans (hX.mono BK.out.size))
                  clear hX
                  go_wp2_with fail
                  exact ⟨⟨k + 1, by omega, by congr 1, BL.out⟩, by simp [intOf] <;> omega⟩
            · obtain rfl : k = ps.length := by omega
              have k1 : ¬ ((ps.length : Int) < (ps.length : Int)) := by omega
              have KZ := Lib.hid (KU.out.below HBI.out KU.out.lt)
              go_wp2_with fail
              refine ⟨⟨j + 1, by omega, by congr 1, by rw [HAA.out, Int.natCast_add], ?_, B2R.out⟩, by simp [intOf] <;> omega⟩
              rw [HUU.out]
              exact KZ.out
      · obtain rfl : j = n := by omega
        have j1 : ¬ ((j : Int) < (j : Int)) := by omega
        have hk9 := HK.out
        rw [← HN.out, List.take_length] at hk9 ⊢
        rw [HALL.out]
        obtain ⟨u, hu⟩ : ∃ u, uni qs = u := ⟨_, rfl⟩
        rw [hu] at hk9
        have K9 := Lib.hid hk9
        have HU9 := Lib.hid (show (memJ u 256).length = 256 by rw [← hu]; exact HUNI.out)
        have B9 := Lib.hid (B2.out.trans (HB.out.mono B2.out.size))
        rw [HN.out]
        clear hk9 hu
        go_wp2_with ((with_reducible refine atDst 92 ?_); refine wpList_ldArr rfl 24 _ rfl w2.heap.size rfl 24 _ _ K9.out Tryd.underlying24 rfl (size_set u) ?_)
        refine (C.len u wo).mono ?_
        rintro e w9 ⟨rfl, hb⟩
        rw [HU9.out]
        have B10 := Lib.hid (B9.out.trans (hb.mono B9.out.size))
        clear hb
        go_wp2_with fail
        go_ret
        exact ⟨rfl, B10.out⟩
end Go.Proofs.YtaobeconjdeenaaDoor
