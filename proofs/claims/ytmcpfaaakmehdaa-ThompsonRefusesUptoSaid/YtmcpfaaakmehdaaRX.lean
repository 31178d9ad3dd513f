/-
  Texts of this proof, put together: PlB. No statement is proved here.
-/
import Derived.Test.YtmcpfaaakmehdaaRN
import Derived.Test.YtmcpfaaakmehdaaRW
namespace Go.Proofs.Ytmcpfaaakmehdaa
open Go.RowKit
set_option linter.unusedSimpArgs false
set_option linter.unusedVariables false
set_option maxHeartbeats 8000000 in
set_option maxRecDepth 1000000 in
theorem refPlain_any : ∀ (N : Nat) (t : T), t.nodes ≤ N → t.nodes ≤ 274877906944 → canT t → ∀ (cs : List Value) (w : World), RxV w.heap.size w cs t →
  Calls Try.prog 49 #[.agg cs.toArray] w fun e w' => e = .returned (.bool (plainT t)) ∧ Below w.heap.size w w' := by
 intro N
 induction N with
 | zero => intro t h; have := nodes_pos t; omega
 | succ N ih =>
  rintro ⟨k, s, l⟩ hN hM hc cs w hv
  have IH := qH ih
  clear ih
  have HVR := qH hv
  obtain ⟨A, cap, f, rfl, h1, h2, h0, h3, h4⟩ := hv.opened
  have H3 := qH h3
  have H4 := qH h4
  have HROW := qH (show RowT w.heap.size w (.slice A l.length cap) l from ⟨A, cap, f, rfl, h1, h2, h0, h3, h4⟩)
  have HNN := qH (show T.nodes (.node k s l) = 1 + nodesL l by simp only [T.nodes])
  rw [HNN.out] at hN hM
  simp only [canT] at hc
  have HCS2 := qH hc.1
  have HCL2 := qH (canL_iff.1 hc.2)
  have HP := qH (show plainT (.node k s l) = ((decide (k = 3) || eqS s zeroS) && countT k s l.length && plainL k l && (decide (k ≠ 5) || ascF l)) by simp only [plainT])
  obtain ⟨r, hr⟩ : ∃ r, r = plainT (.node k s l) := ⟨_, rfl⟩
  rw [← hr] at HP ⊢
  have HN := qH hN
  have HM := qH hM
  obtain ⟨cs, hcs⟩ : ∃ cs, cs = Value.int .i64 k :: (wds s ++ [.slice A l.length cap]) := ⟨_, rfl⟩
  have HCS := qH hcs
  have HCL := qH (show cs.length = 6 by rw [hcs]; rfl)
  have HC0 := qH (show cs[0]? = some (.int .i64 k) by rw [hcs]; rfl)
  have HC5 := qH (show cs[5]? = some (.slice A l.length cap) by rw [hcs]; rfl)
  have HLL := qH (len_nodes l)
  rw [← hcs] at HVR ⊢
  have HBS := qH builtS
  obtain ⟨zs, hzs⟩ : ∃ zs, zs = zeroS := ⟨_, rfl⟩
  have HZS := qH hzs
  rw [← hzs] at HBS HP
  obtain ⟨b, hb⟩ : ∃ b, eqS s zs = b := ⟨_, rfl⟩
  have HEQ := qH hb
  rw [hb] at HP
  clear hv h1 h2 h0 h3 h4 hcs hN hM hr hc hzs hb
  go_enter Try.func49, Try.ntmps49
  go_wp2_with ((with_reducible refine atDst 1 ?_); refine wpList_box rfl 40 _ rfl cs rfl (Below.refl w.heap.size w) (Nat.le_refl _) ?_; intro w1 hk1 hb1 hs1 _; have K1 := qH hk1; have B1 := qH hb1; clear hk1 hb1 hs1; (try simp only [Act.put, qA, qB, qC]))
  go_loopw [3] (fun i wl => ∃ j : Nat, j ≤ l.length ∧ i = .int .i64 (j : Int) ∧ Hid (∀ i t, i < j → l[i]? = some t → plainT t = true) ∧ Below w1.heap.size w1 wl) (fun i _ => l.length - (intOf i).toNat)
  case atStart => exact ⟨0, by omega, by simp, Lib.hid (fun i t h => by omega), Below.refl _ _⟩
  case round =>
   obtain ⟨j, hj, rfl, HPJ, hb⟩ := hrel
   have HB := qH (B1.out.trans (hb.mono B1.out.size))
   have HBw := qH hb
   have KR := qH (K1.out.below hb K1.out.lt)
   have c0 := KR.out.cell 0
   rw [HC0.out] at c0
   have c5 := KR.out.cell 5
   rw [HC5.out] at c5
   have RS := qH (set_range' HCS.out KR.out)
   clear hb
   by_cases hjl : j < l.length
   ·have j1 : (j : Int) < (l.length : Int) := Int.ofNat_lt.2 hjl
    obtain ⟨b0, off, rfl, hb, hrng⟩ := H3.out (by rintro rfl; simp at hjl)
    obtain ⟨x, hx⟩ : ∃ x, l[j]? = some x := ⟨_, List.getElem?_eq_getElem hjl⟩
    have HRG := qH (range_below (hrng j hjl) HB.out hb)
    have HVX := qH (((H4.out j x hx).stay HB.out).mono HB.out.size)
    have HV6 := qH HVX.out.length
    have HXM0 := nodes_mem (List.mem_of_getElem? hx)
    have HXN := qH (show x.nodes ≤ N by have := HN.out; omega)
    have HXM := qH (show x.nodes ≤ 274877906944 by have := HM.out; omega)
    have HXC := qH (HCL2.out x (List.mem_of_getElem? hx))
    have HX := qH hx
    have hj62 : j ≤ 4611686018427387904 := by have := HM.out; have := HLL.out; omega
    have e3 := wrap_one j hj62
    have e4 := wrap_one' j hj62
    have HJ1 := qH (sub_next hjl)
    have HJ2 := qH (show j + 1 ≤ l.length from hjl)
    clear hrng hx hj62 hb HXM0
    go_wp2_with ((with_reducible refine atDst 15 ?_); refine wpList_load_mid rfl 40 _ rfl b0 (off + j * 6) rfl (f j) _ HRG.out Try.underlying40 rfl (size_rx HV6.out) ?_; (try simp only [Act.put, qA, qB, qC]))
    refine (IH.out x HXN.out HXM.out HXC.out (f j) wr HVX.out).mono ?_
    rintro e w4 ⟨rfl, hb4⟩
    have B4 := qH (HB.out.trans (hb4.mono HB.out.size))
    have B4w := qH (HBw.out.trans (hb4.mono HBw.out.size))
    clear hb4
    cases hpx : plainT x with
    | true =>
     have HPJ2 := qH (show ∀ i t, i < j + 1 → l[i]? = some t → plainT t = true from fun i t hi ht => by
      by_cases hij : i = j
      ·rw [hij, HX.out] at ht
       obtain rfl := Option.some.inj ht
       exact hpx
      ·exact HPJ.out i t (lt_of_ne hi hij) ht)
     clear hpx
     go_wp2_with fail
     exact ⟨⟨j + 1, HJ2.out, by congr 1, HPJ2, B4w.out⟩, by simpa [intOf] using HJ1.out⟩
    | false =>
     have HRF := qH (show r = false by
      have : plainL k l = false := by
       cases h : plainL k l with
       | false => rfl
       | true =>
        have := (plainL_iff.1 h x (List.mem_of_getElem? HX.out)).2
        rw [hpx] at this
        cases this
      rw [HP.out, this]
      simp)
     clear hpx
     go_wp2_with fail
     go_ret
     rw [HRF.out]
     exact ⟨rfl, B4.out⟩
   ·obtain rfl : j = l.length := by omega
    have j1 : ¬ ((l.length : Int) < (l.length : Int)) := by omega
    have HALL := qH (show ∀ t ∈ l, plainT t = true from fun t ht => by
     obtain ⟨i, hi⟩ := List.getElem?_of_mem ht
     exact HPJ.out i t (List.getElem?_eq_some_iff.1 hi).1 hi)
    have HPL := qH (show plainL k l = true ↔ ∀ t ∈ l, fitsT t.kind k = true from by
     rw [plainL_iff]
     exact ⟨fun h t ht => (h t ht).1, fun h t ht => ⟨h t ht, HALL.out t ht⟩⟩)
    clear HPJ
    by_cases k1 : k = 1
    ·have q1 : (k == 1) = true := by simpa using k1
     have hk12 : k = 1 ∨ k = 2 := .inl k1
     by_cases hl0 : l.length = 0
     ·have g0 : ((l.length : Int) == 0) = true := by rw [beq_iff_eq]; omega
      have HR := qH (show r = b by
       have hnil : l = [] := List.eq_nil_of_length_eq_zero hl0
       rw [HP.out, hnil]
       rw [count12 hk12, k1]; simp [plainL])
      clear hl0
      go_wp2_with (first
       | ((with_reducible refine atDst 29 ?_); refine wpList_ldMidG rfl 37 _ rfl w.heap.size 1 rfl (wds s) _ RS.out Try.underlying37 rfl (size_set s) ?_; (try simp only [Act.put, qA, qB, qC]))
       | ((with_reducible refine atDst 30 ?_); refine wpList_bld rfl 37 _ rfl (wds zs) HBS.out ?_; (try simp only [Act.put, qA, qB, qC]))
       | ((with_reducible refine atDst 31 ?_); refine wpList_eqSet_is rfl HEQ.out 37 35 (.tmp 29) (.tmp 30) 37 rfl guardSet Try.underlying37 Try.underlying35 sizeU64 rfl rfl ?_; (try simp only [Act.put, qA, qB, qC])))
      go_ret
      rw [HR.out]
      exact ⟨rfl, HB.out⟩
     ·have g0 : ((l.length : Int) == 0) = false := by rw [beq_eq_false_iff_ne]; omega
      have HR := qH (show r = false by rw [HP.out, count12 hk12, show decide (l.length = 0) = false by simpa using hl0]; simp)
      clear hl0
      go_wp2_with fail
      go_ret
      rw [HR.out]
      exact ⟨rfl, HB.out⟩
    have q1 : (k == 1) = false := by simpa using k1
    by_cases k2 : k = 2
    ·have q2 : (k == 2) = true := by simpa using k2
     have hk12 : k = 1 ∨ k = 2 := .inr k2
     by_cases hl0 : l.length = 0
     ·have g0 : ((l.length : Int) == 0) = true := by rw [beq_iff_eq]; omega
      have HR := qH (show r = b by
       have hnil : l = [] := List.eq_nil_of_length_eq_zero hl0
       rw [HP.out, hnil]
       rw [count12 hk12, k2]; simp [plainL])
      clear hl0
      go_wp2_with (first
       | ((with_reducible refine atDst 29 ?_); refine wpList_ldMidG rfl 37 _ rfl w.heap.size 1 rfl (wds s) _ RS.out Try.underlying37 rfl (size_set s) ?_; (try simp only [Act.put, qA, qB, qC]))
       | ((with_reducible refine atDst 30 ?_); refine wpList_bld rfl 37 _ rfl (wds zs) HBS.out ?_; (try simp only [Act.put, qA, qB, qC]))
       | ((with_reducible refine atDst 31 ?_); refine wpList_eqSet_is rfl HEQ.out 37 35 (.tmp 29) (.tmp 30) 37 rfl guardSet Try.underlying37 Try.underlying35 sizeU64 rfl rfl ?_; (try simp only [Act.put, qA, qB, qC])))
      go_ret
      rw [HR.out]
      exact ⟨rfl, HB.out⟩
     ·have g0 : ((l.length : Int) == 0) = false := by rw [beq_eq_false_iff_ne]; omega
      have HR := qH (show r = false by rw [HP.out, count12 hk12, show decide (l.length = 0) = false by simpa using hl0]; simp)
      clear hl0
      go_wp2_with fail
      go_ret
      rw [HR.out]
      exact ⟨rfl, HB.out⟩
    have q2 : (k == 2) = false := by simpa using k2
    by_cases k3 : k = 3
    ·have q3 : (k == 3) = true := by simpa using k3
     have HNEQ := qH (show (!eqS s zs) = !b by rw [HEQ.out])
     have hc3 : countT k s l.length = (!eqS s zeroS && decide (l.length = 0)) := by rw [k3, count3]
     by_cases hl0 : l.length = 0
     ·have g0 : ((l.length : Int) == 0) = true := by rw [beq_iff_eq]; omega
      have HR := qH (show r = !b by
       have hnil : l = [] := List.eq_nil_of_length_eq_zero hl0
       rw [HP.out, hnil]
       (rw [k3, count3, ← HZS.out, HEQ.out]; simp [plainL]))
      clear hl0
      go_wp2_with (first
       | ((with_reducible refine atDst 41 ?_); refine wpList_ldMidG rfl 37 _ rfl w.heap.size 1 rfl (wds s) _ RS.out Try.underlying37 rfl (size_set s) ?_; (try simp only [Act.put, qA, qB, qC]))
       | ((with_reducible refine atDst 42 ?_); refine wpList_bld rfl 37 _ rfl (wds zs) HBS.out ?_; (try simp only [Act.put, qA, qB, qC]))
       | ((with_reducible refine atDst 43 ?_); refine wpList_neSetG rfl HNEQ.out 37 35 (.tmp 41) (.tmp 42) 37 rfl guardSet Try.underlying37 Try.underlying35 sizeU64 rfl rfl ?_; (try simp only [Act.put, qA, qB, qC])))
      go_ret
      rw [HR.out]
      exact ⟨rfl, HB.out⟩
     ·have g0 : ((l.length : Int) == 0) = false := by rw [beq_eq_false_iff_ne]; omega
      have HR := qH (show r = false by rw [HP.out, hc3, show decide (l.length = 0) = false by simpa using hl0]; simp)
      clear hl0
      go_wp2_with fail
      go_ret
      rw [HR.out]
      exact ⟨rfl, HB.out⟩
    have q3 : (k == 3) = false := by simpa using k3
    by_cases k4 : k = 4
    ·have q4 : (k == 4) = true := by simpa using k4
     have hc45 : countT k s l.length = decide (2 ≤ l.length) := count45 (.inl k4) s _
     cases b with
     | false =>
      have HR := qH (show r = false by rw [HP.out, show decide (k = 3) = false by simpa using k3]; simp)
      clear k1 k2 k3 k4 hc45
      go_wp2_with fail
      have HBx := qH (show w.heap.size < wr.heap.size from KR.out.lt)
      refine sx_startB (B := wr.heap.size) (w0 := wr) (by kernel_rfl) (Below.refl _ _) (fun wd hwd hX => ?_)
      clear hwd
      refine sx_take (i := 0) (oi := ⟨some 47, _, _, _, _, _⟩) (v := ?_) rfl (by kernel_rfl) (by kernel_rfl) (by kernel_rfl) (fun _ _ _ h => h) rfl hX ?_ ?_; rotate_left; (intro W hW; go_simp; try with_reducible rfl); simp only [Act.put, qA, qB, qC]
      refine sx_take (i := 1) (oi := ⟨some 48, _, _, _, _, _⟩) (v := .agg (wds s).toArray) rfl (by kernel_rfl) (by kernel_rfl) (by kernel_rfl) (fun _ _ _ h => h) rfl hX (ld_mid 37 _ rfl w.heap.size 1 rfl _ _ RS.out HBx.out Try.underlying37 rfl (size_set s)) ?_; simp only [Act.put, qA, qB, qC]
      refine sx_take (i := 2) (oi := ⟨some 49, _, _, _, _, _⟩) (v := .agg (wds zs).toArray) rfl (by kernel_rfl) (by kernel_rfl) (by kernel_rfl) (fun _ _ _ h => h) rfl hX (fun W _ => ex_build0 37 rfl HBS.out W) ?_; simp only [Act.put, qA, qB, qC]
      refine sx_take (i := 3) (oi := ⟨some 50, _, _, _, _, _⟩) (v := .bool false) rfl (by kernel_rfl) (by kernel_rfl) (by kernel_rfl) (fun _ _ _ h => h) rfl hX (eq_is HEQ.out 37 35 (.tmp 48) (.tmp 49) 37 rfl guardSet Try.underlying37 Try.underlying35 sizeU64 rfl rfl) ?_; simp only [Act.put, qA, qB, qC]
      refine sx_take (i := 4) (oi := ⟨some 51, _, _, _, _, _⟩) (v := ?_) rfl (by kernel_rfl) (by kernel_rfl) (by kernel_rfl) (fun _ _ _ h => h) rfl hX ?_ ?_; rotate_left; (intro W hW; go_simp; try with_reducible rfl); simp only [Act.put, qA, qB, qC]
      refine sx_skip (i := 5) (oi := ⟨some 52, _, _, _, _, _⟩) rfl (by kernel_rfl) (by kernel_rfl) (by kernel_rfl) (fun _ _ _ h => h) rfl hX ?_; simp only [Act.put, qA, qB, qC]
      refine sx_skip (i := 6) (oi := ⟨some 53, _, _, _, _, _⟩) rfl (by kernel_rfl) (by kernel_rfl) (by kernel_rfl) (fun _ _ _ h => h) rfl hX ?_; simp only [Act.put, qA, qB, qC]
      refine sx_skip (i := 7) (oi := ⟨some 54, _, _, _, _, _⟩) rfl (by kernel_rfl) (by kernel_rfl) (by kernel_rfl) (fun _ _ _ h => h) rfl hX ?_; simp only [Act.put, qA, qB, qC]
      refine sx_skip (i := 8) (oi := ⟨some 55, _, _, _, _, _⟩) rfl (by kernel_rfl) (by kernel_rfl) (by kernel_rfl) (fun _ _ _ h => h) rfl hX ?_; simp only [Act.put, qA, qB, qC]
      refine sx_take (i := 9) (oi := ⟨some 56, _, _, _, _, _⟩) (v := ?_) rfl (by kernel_rfl) (by kernel_rfl) (by kernel_rfl) (fun _ _ _ h => h) rfl hX ?_ ?_; rotate_left; (intro W hW; go_simp; try with_reducible rfl); simp only [Act.put, qA, qB, qC]
      refine sx_take (i := 10) (oi := ⟨some 57, _, _, _, _, _⟩) (v := ?_) rfl (by kernel_rfl) (by kernel_rfl) (by kernel_rfl) (fun _ _ _ h => h) rfl hX ?_ ?_; rotate_left; (intro W hW; go_simp; try with_reducible rfl); simp only [Act.put, qA, qB, qC]
      refine sx_skip (i := 11) (oi := ⟨some 58, _, _, _, _, _⟩) rfl (by kernel_rfl) (by kernel_rfl) (by kernel_rfl) (fun _ _ _ h => h) rfl hX ?_; simp only [Act.put, qA, qB, qC]
      refine sx_skip (i := 12) (oi := ⟨some 59, _, _, _, _, _⟩) rfl (by kernel_rfl) (by kernel_rfl) (by kernel_rfl) (fun _ _ _ h => h) rfl hX ?_; simp only [Act.put, qA, qB, qC]
      refine sx_skip (i := 14) (oi := ⟨some 61, _, _, _, _, _⟩) rfl (by kernel_rfl) (by kernel_rfl) (by kernel_rfl) (fun _ _ _ h => h) rfl hX ?_; simp only [Act.put, qA, qB, qC]
      refine sx_skip (i := 13) (oi := ⟨some 60, _, _, _, _, _⟩) rfl (by kernel_rfl) (by kernel_rfl) (by kernel_rfl) (fun _ _ _ h => h) rfl hX ?_; simp only [Act.put, qA, qB, qC]
      refine sx_skip (i := 15) (oi := ⟨some 62, _, _, _, _, _⟩) rfl (by kernel_rfl) (by kernel_rfl) (by kernel_rfl) (fun _ _ _ h => h) rfl hX ?_; simp only [Act.put, qA, qB, qC]
      refine sx_take (i := 16) (oi := ⟨some 63, _, _, _, _, _⟩) (v := ?_) rfl (by kernel_rfl) (by kernel_rfl) (by kernel_rfl) (fun _ _ _ h => h) rfl hX ?_ ?_; rotate_left; (intro W hW; go_simp; try with_reducible rfl); simp only [Act.put, qA, qB, qC]
      refine sx_take (i := 17) (oi := ⟨some 2, _, _, _, _, _⟩) (v := ?_) rfl (by kernel_rfl) (by kernel_rfl) (by kernel_rfl) (fun _ _ _ h => h) rfl hX ?_ ?_; rotate_left; (intro W hW; go_simp; try with_reducible rfl); simp only [Act.put, qA, qB, qC]
      refine wpAnyH_done (by kernel_rfl) ?_ _
      have HB9 := qH (HB.out.trans (hX.mono HB.out.size))
      clear hX
      go_wp2_with fail
      go_ret
      rw [HR.out]
      exact ⟨rfl, HB9.out⟩
     | true =>
      by_cases hl2 : 2 ≤ l.length
      ·have d2 : decide ((1 : Int) < (l.length : Int)) = true := decide_eq_true (by omega)
       have d3 : (1 : Int) < (l.length : Int) := by omega
       obtain ⟨m, hm⟩ : ∃ m, sameT (catT l) (.node k s l) = m := ⟨_, rfl⟩
       have HSM := qH hm
       have HR := qH (show r = m by
        have hgl : ∀ t ∈ l, good t := fun t ht => ⟨HCL2.out t ht, HALL.out t ht⟩
        have h1 := cat_same hgl hl2 HCS2.out (by rw [← HZS.out]; exact HEQ.out)
        rw [← k4, hm] at h1
        rw [HP.out, hc45, Bool.eq_iff_iff, h1]
        simp only [Bool.or_true, Bool.true_and, Bool.and_eq_true, decide_eq_true_eq, HPL.out, Bool.or_eq_true]
        constructor
        ·rintro ⟨⟨_, h⟩, _⟩; exact h
        ·intro h; exact ⟨⟨hl2, h⟩, .inl (by omega)⟩)
       clear k1 k2 k3 k4 hc45 hl2 hm
       go_wp2_with fail
       have HBx := qH (show w.heap.size < wr.heap.size from KR.out.lt)
       refine sx_startB (B := wr.heap.size) (w0 := wr) (by kernel_rfl) (Below.refl _ _) (fun wd hwd hX => ?_)
       clear hwd
       refine sx_take (i := 0) (oi := ⟨some 47, _, _, _, _, _⟩) (v := ?_) rfl (by kernel_rfl) (by kernel_rfl) (by kernel_rfl) (fun _ _ _ h => h) rfl hX ?_ ?_; rotate_left; (intro W hW; go_simp; try with_reducible rfl); simp only [Act.put, qA, qB, qC]
       refine sx_take (i := 1) (oi := ⟨some 48, _, _, _, _, _⟩) (v := .agg (wds s).toArray) rfl (by kernel_rfl) (by kernel_rfl) (by kernel_rfl) (fun _ _ _ h => h) rfl hX (ld_mid 37 _ rfl w.heap.size 1 rfl _ _ RS.out HBx.out Try.underlying37 rfl (size_set s)) ?_; simp only [Act.put, qA, qB, qC]
       refine sx_take (i := 2) (oi := ⟨some 49, _, _, _, _, _⟩) (v := .agg (wds zs).toArray) rfl (by kernel_rfl) (by kernel_rfl) (by kernel_rfl) (fun _ _ _ h => h) rfl hX (fun W _ => ex_build0 37 rfl HBS.out W) ?_; simp only [Act.put, qA, qB, qC]
       refine sx_take (i := 3) (oi := ⟨some 50, _, _, _, _, _⟩) (v := .bool true) rfl (by kernel_rfl) (by kernel_rfl) (by kernel_rfl) (fun _ _ _ h => h) rfl hX (eq_is HEQ.out 37 35 (.tmp 48) (.tmp 49) 37 rfl guardSet Try.underlying37 Try.underlying35 sizeU64 rfl rfl) ?_; simp only [Act.put, qA, qB, qC]
       refine sx_take (i := 4) (oi := ⟨some 51, _, _, _, _, _⟩) (v := ?_) rfl (by kernel_rfl) (by kernel_rfl) (by kernel_rfl) (fun _ _ _ h => h) rfl hX ?_ ?_; rotate_left; (intro W hW; go_simp; try with_reducible rfl); simp only [Act.put, qA, qB, qC]
       refine sx_take (i := 5) (oi := ⟨some 52, _, _, _, _, _⟩) (v := ?_) rfl (by kernel_rfl) (by kernel_rfl) (by kernel_rfl) (fun _ _ _ h => h) rfl hX ?_ ?_; rotate_left; (intro W hW; go_simp; try with_reducible rfl); simp only [Act.put, qA, qB, qC]
       refine sx_take (i := 6) (oi := ⟨some 53, _, _, _, _, _⟩) (v := .slice A l.length cap) rfl (by kernel_rfl) (by kernel_rfl) (by kernel_rfl) (fun _ _ _ h => h) rfl hX (fun W hW => ld_rxs (.tmp 52) rfl rfl ((hW.cell (p := ⟨w.heap.size, 5, none⟩) HBx.out).trans c5)) ?_; simp only [Act.put, qA, qB, qC]
       refine sx_take (i := 7) (oi := ⟨some 54, _, _, _, _, _⟩) (v := ?_) rfl (by kernel_rfl) (by kernel_rfl) (by kernel_rfl) (fun _ _ _ h => h) rfl hX ?_ ?_; rotate_left; (intro W hW; go_simp; try with_reducible rfl); simp only [Act.put, qA, qB, qC]
       refine sx_take (i := 8) (oi := ⟨some 55, _, _, _, _, _⟩) (v := ?_) rfl (by kernel_rfl) (by kernel_rfl) (by kernel_rfl) (fun _ _ _ h => h) rfl hX ?_ ?_; rotate_left; (intro W hW; go_simp; try with_reducible rfl); simp only [Act.put, qA, qB, qC]
       refine sx_take (i := 9) (oi := ⟨some 56, _, _, _, _, _⟩) (v := ?_) rfl (by kernel_rfl) (by kernel_rfl) (by kernel_rfl) (fun _ _ _ h => h) rfl hX ?_ ?_; rotate_left; (intro W hW; go_simp; try with_reducible rfl); simp only [Act.put, qA, qB, qC]
       refine sx_take (i := 10) (oi := ⟨some 57, _, _, _, _, _⟩) (v := ?_) rfl (by kernel_rfl) (by kernel_rfl) (by kernel_rfl) (fun _ _ _ h => h) rfl hX ?_ ?_; rotate_left; (intro W hW; go_simp; try with_reducible rfl); simp only [Act.put, qA, qB, qC]
       refine sx_take (i := 11) (oi := ⟨some 58, _, _, _, _, _⟩) (v := ?_) rfl (by kernel_rfl) (by kernel_rfl) (by kernel_rfl) (fun _ _ _ h => h) rfl hX ?_ ?_; rotate_left; (intro W hW; go_simp; try with_reducible rfl); simp only [Act.put, qA, qB, qC]
       refine sx_take (i := 12) (oi := ⟨some 59, _, _, _, _, _⟩) (v := .slice A l.length cap) rfl (by kernel_rfl) (by kernel_rfl) (by kernel_rfl) (fun _ _ _ h => h) rfl hX (fun W hW => ld_rxs (.tmp 58) rfl rfl ((hW.cell (p := ⟨w.heap.size, 5, none⟩) HBx.out).trans c5)) ?_; simp only [Act.put, qA, qB, qC]
       refine sx_take (i := 14) (oi := ⟨some 61, _, _, _, _, _⟩) (v := .agg cs.toArray) rfl (by kernel_rfl) (by kernel_rfl) (by kernel_rfl) (fun _ _ _ h => h) rfl hX (ld_blk 40 _ rfl w.heap.size rfl 40 _ _ KR.out HBx.out Try.underlying40 rfl (size_rx HCL.out)) ?_; simp only [Act.put, qA, qB, qC]
       refine sx_actB (i := 13) (o := ⟨some 60, _, _, _, _, _⟩) rfl (by kernel_rfl) rfl hX (fun K hK => ?_)
       go_wp2_with fail
       refine (refCat_any l _ wd ((HROW.out.below (HB.out.trans (hX.mono HB.out.size))).monoX (HB.out.trans (hX.mono HB.out.size)).size) (by have := HM.out; omega)).mono ?_
       rintro e w4 ⟨ds, rfl, hds, hb4⟩
       go_wp2_with fail
       refine hK _ _ (hb4.mono hX.size) ?_
       clear hK K
       replace hX := hX.trans (hb4.mono hX.size)
       have HDS := qH (show RxV w4.heap.size w4 ds (catT l) from RxD.mono hds fun q hq => hq.2)
       have B4 := qH (HB.out.trans (hX.mono HB.out.size))
       clear hb4 hds
       refine sx_actB (i := 15) (o := ⟨some 62, _, _, _, _, _⟩) rfl (by kernel_rfl) rfl hX (fun K hK => ?_)
       go_wp2_with fail
       refine (refSame_any _ (catT l) (.node k s l) (Nat.le_refl _) (by have h1 := catT_nodes l; have := HM.out; omega) ds cs w4 HDS.out ((HVR.out.stay B4.out).mono B4.out.size)).mono ?_
       rintro e w5 ⟨rfl, hb5⟩
       rw [HSM.out]
       go_wp2_with fail
       refine hK _ _ (hb5.mono hX.size) ?_
       clear hK K
       replace hX := hX.trans (hb5.mono hX.size)
       clear hb5
       refine sx_take (i := 16) (oi := ⟨some 63, _, _, _, _, _⟩) (v := ?_) rfl (by kernel_rfl) (by kernel_rfl) (by kernel_rfl) (fun _ _ _ h => h) rfl hX ?_ ?_; rotate_left; (intro W hW; go_simp; try with_reducible rfl); simp only [Act.put, qA, qB, qC]
       refine sx_take (i := 17) (oi := ⟨some 2, _, _, _, _, _⟩) (v := ?_) rfl (by kernel_rfl) (by kernel_rfl) (by kernel_rfl) (fun _ _ _ h => h) rfl hX ?_ ?_; rotate_left; (intro W hW; go_simp; try with_reducible rfl); simp only [Act.put, qA, qB, qC]
       refine wpAnyH_done (by kernel_rfl) ?_ _
       have HB9 := qH (HB.out.trans (hX.mono HB.out.size))
       clear hX
       go_wp2_with fail
       go_ret
       rw [HR.out]
       exact ⟨rfl, HB9.out⟩
      ·have d2 : decide ((1 : Int) < (l.length : Int)) = false := decide_eq_false (by omega)
       have HR := qH (show r = false by rw [HP.out, hc45, decide_eq_false hl2]; simp)
       clear k1 k2 k3 k4 hc45 hl2
       go_wp2_with fail
       have HBx := qH (show w.heap.size < wr.heap.size from KR.out.lt)
       refine sx_startB (B := wr.heap.size) (w0 := wr) (by kernel_rfl) (Below.refl _ _) (fun wd hwd hX => ?_)
       clear hwd
       refine sx_take (i := 0) (oi := ⟨some 47, _, _, _, _, _⟩) (v := ?_) rfl (by kernel_rfl) (by kernel_rfl) (by kernel_rfl) (fun _ _ _ h => h) rfl hX ?_ ?_; rotate_left; (intro W hW; go_simp; try with_reducible rfl); simp only [Act.put, qA, qB, qC]
       refine sx_take (i := 1) (oi := ⟨some 48, _, _, _, _, _⟩) (v := .agg (wds s).toArray) rfl (by kernel_rfl) (by kernel_rfl) (by kernel_rfl) (fun _ _ _ h => h) rfl hX (ld_mid 37 _ rfl w.heap.size 1 rfl _ _ RS.out HBx.out Try.underlying37 rfl (size_set s)) ?_; simp only [Act.put, qA, qB, qC]
       refine sx_take (i := 2) (oi := ⟨some 49, _, _, _, _, _⟩) (v := .agg (wds zs).toArray) rfl (by kernel_rfl) (by kernel_rfl) (by kernel_rfl) (fun _ _ _ h => h) rfl hX (fun W _ => ex_build0 37 rfl HBS.out W) ?_; simp only [Act.put, qA, qB, qC]
       refine sx_take (i := 3) (oi := ⟨some 50, _, _, _, _, _⟩) (v := .bool true) rfl (by kernel_rfl) (by kernel_rfl) (by kernel_rfl) (fun _ _ _ h => h) rfl hX (eq_is HEQ.out 37 35 (.tmp 48) (.tmp 49) 37 rfl guardSet Try.underlying37 Try.underlying35 sizeU64 rfl rfl) ?_; simp only [Act.put, qA, qB, qC]
       refine sx_take (i := 4) (oi := ⟨some 51, _, _, _, _, _⟩) (v := ?_) rfl (by kernel_rfl) (by kernel_rfl) (by kernel_rfl) (fun _ _ _ h => h) rfl hX ?_ ?_; rotate_left; (intro W hW; go_simp; try with_reducible rfl); simp only [Act.put, qA, qB, qC]
       refine sx_take (i := 5) (oi := ⟨some 52, _, _, _, _, _⟩) (v := ?_) rfl (by kernel_rfl) (by kernel_rfl) (by kernel_rfl) (fun _ _ _ h => h) rfl hX ?_ ?_; rotate_left; (intro W hW; go_simp; try with_reducible rfl); simp only [Act.put, qA, qB, qC]
       refine sx_take (i := 6) (oi := ⟨some 53, _, _, _, _, _⟩) (v := .slice A l.length cap) rfl (by kernel_rfl) (by kernel_rfl) (by kernel_rfl) (fun _ _ _ h => h) rfl hX (fun W hW => ld_rxs (.tmp 52) rfl rfl ((hW.cell (p := ⟨w.heap.size, 5, none⟩) HBx.out).trans c5)) ?_; simp only [Act.put, qA, qB, qC]
       refine sx_take (i := 7) (oi := ⟨some 54, _, _, _, _, _⟩) (v := ?_) rfl (by kernel_rfl) (by kernel_rfl) (by kernel_rfl) (fun _ _ _ h => h) rfl hX ?_ ?_; rotate_left; (intro W hW; go_simp; try with_reducible rfl); simp only [Act.put, qA, qB, qC]
       refine sx_take (i := 8) (oi := ⟨some 55, _, _, _, _, _⟩) (v := ?_) rfl (by kernel_rfl) (by kernel_rfl) (by kernel_rfl) (fun _ _ _ h => h) rfl hX ?_ ?_; rotate_left; (intro W hW; go_simp; try with_reducible rfl); simp only [Act.put, qA, qB, qC]
       refine sx_take (i := 9) (oi := ⟨some 56, _, _, _, _, _⟩) (v := ?_) rfl (by kernel_rfl) (by kernel_rfl) (by kernel_rfl) (fun _ _ _ h => h) rfl hX ?_ ?_; rotate_left; (intro W hW; go_simp; try with_reducible rfl); simp only [Act.put, qA, qB, qC]
       refine sx_take (i := 10) (oi := ⟨some 57, _, _, _, _, _⟩) (v := ?_) rfl (by kernel_rfl) (by kernel_rfl) (by kernel_rfl) (fun _ _ _ h => h) rfl hX ?_ ?_; rotate_left; (intro W hW; go_simp; try with_reducible rfl); simp only [Act.put, qA, qB, qC]
       refine sx_skip (i := 11) (oi := ⟨some 58, _, _, _, _, _⟩) rfl (by kernel_rfl) (by kernel_rfl) (by kernel_rfl) (fun _ _ _ h => h) rfl hX ?_; simp only [Act.put, qA, qB, qC]
       refine sx_skip (i := 12) (oi := ⟨some 59, _, _, _, _, _⟩) rfl (by kernel_rfl) (by kernel_rfl) (by kernel_rfl) (fun _ _ _ h => h) rfl hX ?_; simp only [Act.put, qA, qB, qC]
       refine sx_skip (i := 14) (oi := ⟨some 61, _, _, _, _, _⟩) rfl (by kernel_rfl) (by kernel_rfl) (by kernel_rfl) (fun _ _ _ h => h) rfl hX ?_; simp only [Act.put, qA, qB, qC]
       refine sx_skip (i := 13) (oi := ⟨some 60, _, _, _, _, _⟩) rfl (by kernel_rfl) (by kernel_rfl) (by kernel_rfl) (fun _ _ _ h => h) rfl hX ?_; simp only [Act.put, qA, qB, qC]
       refine sx_skip (i := 15) (oi := ⟨some 62, _, _, _, _, _⟩) rfl (by kernel_rfl) (by kernel_rfl) (by kernel_rfl) (fun _ _ _ h => h) rfl hX ?_; simp only [Act.put, qA, qB, qC]
       refine sx_take (i := 16) (oi := ⟨some 63, _, _, _, _, _⟩) (v := ?_) rfl (by kernel_rfl) (by kernel_rfl) (by kernel_rfl) (fun _ _ _ h => h) rfl hX ?_ ?_; rotate_left; (intro W hW; go_simp; try with_reducible rfl); simp only [Act.put, qA, qB, qC]
       refine sx_take (i := 17) (oi := ⟨some 2, _, _, _, _, _⟩) (v := ?_) rfl (by kernel_rfl) (by kernel_rfl) (by kernel_rfl) (fun _ _ _ h => h) rfl hX ?_ ?_; rotate_left; (intro W hW; go_simp; try with_reducible rfl); simp only [Act.put, qA, qB, qC]
       refine wpAnyH_done (by kernel_rfl) ?_ _
       have HB9 := qH (HB.out.trans (hX.mono HB.out.size))
       clear hX
       go_wp2_with fail
       go_ret
       rw [HR.out]
       exact ⟨rfl, HB9.out⟩
    have q4 : (k == 4) = false := by simpa using k4
    by_cases k5 : k = 5
    ·have q5 : (k == 5) = true := by simpa using k5
     have hc45 : countT k s l.length = decide (2 ≤ l.length) := count45 (.inr k5) s _
     cases b with
     | false =>
      have HR := qH (show r = false by rw [HP.out, show decide (k = 3) = false by simpa using k3]; simp)
      clear k1 k2 k3 k5 hc45
      go_wp2_with fail
      have HBx := qH (show w.heap.size < wr.heap.size from KR.out.lt)
      refine sx_startB (B := wr.heap.size) (w0 := wr) (by kernel_rfl) (Below.refl _ _) (fun wd hwd hX => ?_)
      clear hwd
      refine sx_take (i := 0) (oi := ⟨some 66, _, _, _, _, _⟩) (v := ?_) rfl (by kernel_rfl) (by kernel_rfl) (by kernel_rfl) (fun _ _ _ h => h) rfl hX ?_ ?_; rotate_left; (intro W hW; go_simp; try with_reducible rfl); simp only [Act.put, qA, qB, qC]
      refine sx_take (i := 1) (oi := ⟨some 67, _, _, _, _, _⟩) (v := .agg (wds s).toArray) rfl (by kernel_rfl) (by kernel_rfl) (by kernel_rfl) (fun _ _ _ h => h) rfl hX (ld_mid 37 _ rfl w.heap.size 1 rfl _ _ RS.out HBx.out Try.underlying37 rfl (size_set s)) ?_; simp only [Act.put, qA, qB, qC]
      refine sx_take (i := 2) (oi := ⟨some 68, _, _, _, _, _⟩) (v := .agg (wds zs).toArray) rfl (by kernel_rfl) (by kernel_rfl) (by kernel_rfl) (fun _ _ _ h => h) rfl hX (fun W _ => ex_build0 37 rfl HBS.out W) ?_; simp only [Act.put, qA, qB, qC]
      refine sx_take (i := 3) (oi := ⟨some 69, _, _, _, _, _⟩) (v := .bool false) rfl (by kernel_rfl) (by kernel_rfl) (by kernel_rfl) (fun _ _ _ h => h) rfl hX (eq_is HEQ.out 37 35 (.tmp 67) (.tmp 68) 37 rfl guardSet Try.underlying37 Try.underlying35 sizeU64 rfl rfl) ?_; simp only [Act.put, qA, qB, qC]
      refine sx_take (i := 4) (oi := ⟨some 70, _, _, _, _, _⟩) (v := ?_) rfl (by kernel_rfl) (by kernel_rfl) (by kernel_rfl) (fun _ _ _ h => h) rfl hX ?_ ?_; rotate_left; (intro W hW; go_simp; try with_reducible rfl); simp only [Act.put, qA, qB, qC]
      refine sx_skip (i := 5) (oi := ⟨some 71, _, _, _, _, _⟩) rfl (by kernel_rfl) (by kernel_rfl) (by kernel_rfl) (fun _ _ _ h => h) rfl hX ?_; simp only [Act.put, qA, qB, qC]
      refine sx_skip (i := 6) (oi := ⟨some 72, _, _, _, _, _⟩) rfl (by kernel_rfl) (by kernel_rfl) (by kernel_rfl) (fun _ _ _ h => h) rfl hX ?_; simp only [Act.put, qA, qB, qC]
      refine sx_skip (i := 7) (oi := ⟨some 73, _, _, _, _, _⟩) rfl (by kernel_rfl) (by kernel_rfl) (by kernel_rfl) (fun _ _ _ h => h) rfl hX ?_; simp only [Act.put, qA, qB, qC]
      refine sx_skip (i := 8) (oi := ⟨some 74, _, _, _, _, _⟩) rfl (by kernel_rfl) (by kernel_rfl) (by kernel_rfl) (fun _ _ _ h => h) rfl hX ?_; simp only [Act.put, qA, qB, qC]
      refine sx_take (i := 9) (oi := ⟨some 75, _, _, _, _, _⟩) (v := ?_) rfl (by kernel_rfl) (by kernel_rfl) (by kernel_rfl) (fun _ _ _ h => h) rfl hX ?_ ?_; rotate_left; (intro W hW; go_simp; try with_reducible rfl); simp only [Act.put, qA, qB, qC]
      refine sx_take (i := 10) (oi := ⟨some 76, _, _, _, _, _⟩) (v := ?_) rfl (by kernel_rfl) (by kernel_rfl) (by kernel_rfl) (fun _ _ _ h => h) rfl hX ?_ ?_; rotate_left; (intro W hW; go_simp; try with_reducible rfl); simp only [Act.put, qA, qB, qC]
      refine sx_skip (i := 11) (oi := ⟨some 77, _, _, _, _, _⟩) rfl (by kernel_rfl) (by kernel_rfl) (by kernel_rfl) (fun _ _ _ h => h) rfl hX ?_; simp only [Act.put, qA, qB, qC]
      refine sx_skip (i := 12) (oi := ⟨some 78, _, _, _, _, _⟩) rfl (by kernel_rfl) (by kernel_rfl) (by kernel_rfl) (fun _ _ _ h => h) rfl hX ?_; simp only [Act.put, qA, qB, qC]
      refine sx_skip (i := 14) (oi := ⟨some 80, _, _, _, _, _⟩) rfl (by kernel_rfl) (by kernel_rfl) (by kernel_rfl) (fun _ _ _ h => h) rfl hX ?_; simp only [Act.put, qA, qB, qC]
      refine sx_skip (i := 13) (oi := ⟨some 79, _, _, _, _, _⟩) rfl (by kernel_rfl) (by kernel_rfl) (by kernel_rfl) (fun _ _ _ h => h) rfl hX ?_; simp only [Act.put, qA, qB, qC]
      refine sx_skip (i := 15) (oi := ⟨some 81, _, _, _, _, _⟩) rfl (by kernel_rfl) (by kernel_rfl) (by kernel_rfl) (fun _ _ _ h => h) rfl hX ?_; simp only [Act.put, qA, qB, qC]
      refine sx_take (i := 16) (oi := ⟨some 82, _, _, _, _, _⟩) (v := ?_) rfl (by kernel_rfl) (by kernel_rfl) (by kernel_rfl) (fun _ _ _ h => h) rfl hX ?_ ?_; rotate_left; (intro W hW; go_simp; try with_reducible rfl); simp only [Act.put, qA, qB, qC]
      refine sx_take (i := 17) (oi := ⟨some 2, _, _, _, _, _⟩) (v := ?_) rfl (by kernel_rfl) (by kernel_rfl) (by kernel_rfl) (fun _ _ _ h => h) rfl hX ?_ ?_; rotate_left; (intro W hW; go_simp; try with_reducible rfl); simp only [Act.put, qA, qB, qC]
      refine wpAnyH_done (by kernel_rfl) ?_ _
      have HB9 := qH (HB.out.trans (hX.mono HB.out.size))
      clear hX
      go_wp2_with fail
      go_ret
      rw [HR.out]
      exact ⟨rfl, HB9.out⟩
     | true =>
      by_cases hl2 : 2 ≤ l.length
      ·have d2 : decide ((1 : Int) < (l.length : Int)) = true := decide_eq_true (by omega)
       have d3 : (1 : Int) < (l.length : Int) := by omega
       obtain ⟨m, hm⟩ : ∃ m, sameT (altT l) (.node k s l) = m := ⟨_, rfl⟩
       have HSM := qH hm
       have HR := qH (show r = m by
        have hgl : ∀ t ∈ l, good t := fun t ht => ⟨HCL2.out t ht, HALL.out t ht⟩
        have h1 := alt_same hgl hl2 HCS2.out (by rw [← HZS.out]; exact HEQ.out)
        rw [← k5, hm] at h1
        rw [HP.out, hc45, Bool.eq_iff_iff, h1]
        simp only [Bool.or_true, Bool.true_and, Bool.and_eq_true, decide_eq_true_eq, HPL.out, Bool.or_eq_true]
        constructor
        ·rintro ⟨⟨_, h⟩, h5⟩; exact ⟨h, h5.resolve_left (by simpa using k5)⟩
        ·rintro ⟨h, h5⟩; exact ⟨⟨hl2, h⟩, .inr h5⟩)
       clear k1 k2 k3 k5 hc45 hl2 hm
       go_wp2_with fail
       have HBx := qH (show w.heap.size < wr.heap.size from KR.out.lt)
       refine sx_startB (B := wr.heap.size) (w0 := wr) (by kernel_rfl) (Below.refl _ _) (fun wd hwd hX => ?_)
       clear hwd
       refine sx_take (i := 0) (oi := ⟨some 66, _, _, _, _, _⟩) (v := ?_) rfl (by kernel_rfl) (by kernel_rfl) (by kernel_rfl) (fun _ _ _ h => h) rfl hX ?_ ?_; rotate_left; (intro W hW; go_simp; try with_reducible rfl); simp only [Act.put, qA, qB, qC]
       refine sx_take (i := 1) (oi := ⟨some 67, _, _, _, _, _⟩) (v := .agg (wds s).toArray) rfl (by kernel_rfl) (by kernel_rfl) (by kernel_rfl) (fun _ _ _ h => h) rfl hX (ld_mid 37 _ rfl w.heap.size 1 rfl _ _ RS.out HBx.out Try.underlying37 rfl (size_set s)) ?_; simp only [Act.put, qA, qB, qC]
       refine sx_take (i := 2) (oi := ⟨some 68, _, _, _, _, _⟩) (v := .agg (wds zs).toArray) rfl (by kernel_rfl) (by kernel_rfl) (by kernel_rfl) (fun _ _ _ h => h) rfl hX (fun W _ => ex_build0 37 rfl HBS.out W) ?_; simp only [Act.put, qA, qB, qC]
       refine sx_take (i := 3) (oi := ⟨some 69, _, _, _, _, _⟩) (v := .bool true) rfl (by kernel_rfl) (by kernel_rfl) (by kernel_rfl) (fun _ _ _ h => h) rfl hX (eq_is HEQ.out 37 35 (.tmp 67) (.tmp 68) 37 rfl guardSet Try.underlying37 Try.underlying35 sizeU64 rfl rfl) ?_; simp only [Act.put, qA, qB, qC]
       refine sx_take (i := 4) (oi := ⟨some 70, _, _, _, _, _⟩) (v := ?_) rfl (by kernel_rfl) (by kernel_rfl) (by kernel_rfl) (fun _ _ _ h => h) rfl hX ?_ ?_; rotate_left; (intro W hW; go_simp; try with_reducible rfl); simp only [Act.put, qA, qB, qC]
       refine sx_take (i := 5) (oi := ⟨some 71, _, _, _, _, _⟩) (v := ?_) rfl (by kernel_rfl) (by kernel_rfl) (by kernel_rfl) (fun _ _ _ h => h) rfl hX ?_ ?_; rotate_left; (intro W hW; go_simp; try with_reducible rfl); simp only [Act.put, qA, qB, qC]
       refine sx_take (i := 6) (oi := ⟨some 72, _, _, _, _, _⟩) (v := .slice A l.length cap) rfl (by kernel_rfl) (by kernel_rfl) (by kernel_rfl) (fun _ _ _ h => h) rfl hX (fun W hW => ld_rxs (.tmp 71) rfl rfl ((hW.cell (p := ⟨w.heap.size, 5, none⟩) HBx.out).trans c5)) ?_; simp only [Act.put, qA, qB, qC]
       refine sx_take (i := 7) (oi := ⟨some 73, _, _, _, _, _⟩) (v := ?_) rfl (by kernel_rfl) (by kernel_rfl) (by kernel_rfl) (fun _ _ _ h => h) rfl hX ?_ ?_; rotate_left; (intro W hW; go_simp; try with_reducible rfl); simp only [Act.put, qA, qB, qC]
       refine sx_take (i := 8) (oi := ⟨some 74, _, _, _, _, _⟩) (v := ?_) rfl (by kernel_rfl) (by kernel_rfl) (by kernel_rfl) (fun _ _ _ h => h) rfl hX ?_ ?_; rotate_left; (intro W hW; go_simp; try with_reducible rfl); simp only [Act.put, qA, qB, qC]
       refine sx_take (i := 9) (oi := ⟨some 75, _, _, _, _, _⟩) (v := ?_) rfl (by kernel_rfl) (by kernel_rfl) (by kernel_rfl) (fun _ _ _ h => h) rfl hX ?_ ?_; rotate_left; (intro W hW; go_simp; try with_reducible rfl); simp only [Act.put, qA, qB, qC]
       refine sx_take (i := 10) (oi := ⟨some 76, _, _, _, _, _⟩) (v := ?_) rfl (by kernel_rfl) (by kernel_rfl) (by kernel_rfl) (fun _ _ _ h => h) rfl hX ?_ ?_; rotate_left; (intro W hW; go_simp; try with_reducible rfl); simp only [Act.put, qA, qB, qC]
       refine sx_take (i := 11) (oi := ⟨some 77, _, _, _, _, _⟩) (v := ?_) rfl (by kernel_rfl) (by kernel_rfl) (by kernel_rfl) (fun _ _ _ h => h) rfl hX ?_ ?_; rotate_left; (intro W hW; go_simp; try with_reducible rfl); simp only [Act.put, qA, qB, qC]
       refine sx_take (i := 12) (oi := ⟨some 78, _, _, _, _, _⟩) (v := .slice A l.length cap) rfl (by kernel_rfl) (by kernel_rfl) (by kernel_rfl) (fun _ _ _ h => h) rfl hX (fun W hW => ld_rxs (.tmp 77) rfl rfl ((hW.cell (p := ⟨w.heap.size, 5, none⟩) HBx.out).trans c5)) ?_; simp only [Act.put, qA, qB, qC]
       refine sx_take (i := 14) (oi := ⟨some 80, _, _, _, _, _⟩) (v := .agg cs.toArray) rfl (by kernel_rfl) (by kernel_rfl) (by kernel_rfl) (fun _ _ _ h => h) rfl hX (ld_blk 40 _ rfl w.heap.size rfl 40 _ _ KR.out HBx.out Try.underlying40 rfl (size_rx HCL.out)) ?_; simp only [Act.put, qA, qB, qC]
       refine sx_actB (i := 13) (o := ⟨some 79, _, _, _, _, _⟩) rfl (by kernel_rfl) rfl hX (fun K hK => ?_)
       go_wp2_with fail
       refine (refAlt_any l _ wd ((HROW.out.below (HB.out.trans (hX.mono HB.out.size))).monoX (HB.out.trans (hX.mono HB.out.size)).size) (by have := HM.out; omega)).mono ?_
       rintro e w4 ⟨ds, rfl, hds, hb4⟩
       go_wp2_with fail
       refine hK _ _ (hb4.mono hX.size) ?_
       clear hK K
       replace hX := hX.trans (hb4.mono hX.size)
       have HDS := qH (show RxV w4.heap.size w4 ds (altT l) from RxD.mono hds fun q hq => hq.2)
       have B4 := qH (HB.out.trans (hX.mono HB.out.size))
       clear hb4 hds
       refine sx_actB (i := 15) (o := ⟨some 81, _, _, _, _, _⟩) rfl (by kernel_rfl) rfl hX (fun K hK => ?_)
       go_wp2_with fail
       refine (refSame_any _ (altT l) (.node k s l) (Nat.le_refl _) (by have h1 := altT_nodes l; have := HM.out; omega) ds cs w4 HDS.out ((HVR.out.stay B4.out).mono B4.out.size)).mono ?_
       rintro e w5 ⟨rfl, hb5⟩
       rw [HSM.out]
       go_wp2_with fail
       refine hK _ _ (hb5.mono hX.size) ?_
       clear hK K
       replace hX := hX.trans (hb5.mono hX.size)
       clear hb5
       refine sx_take (i := 16) (oi := ⟨some 82, _, _, _, _, _⟩) (v := ?_) rfl (by kernel_rfl) (by kernel_rfl) (by kernel_rfl) (fun _ _ _ h => h) rfl hX ?_ ?_; rotate_left; (intro W hW; go_simp; try with_reducible rfl); simp only [Act.put, qA, qB, qC]
       refine sx_take (i := 17) (oi := ⟨some 2, _, _, _, _, _⟩) (v := ?_) rfl (by kernel_rfl) (by kernel_rfl) (by kernel_rfl) (fun _ _ _ h => h) rfl hX ?_ ?_; rotate_left; (intro W hW; go_simp; try with_reducible rfl); simp only [Act.put, qA, qB, qC]
       refine wpAnyH_done (by kernel_rfl) ?_ _
       have HB9 := qH (HB.out.trans (hX.mono HB.out.size))
       clear hX
       go_wp2_with fail
       go_ret
       rw [HR.out]
       exact ⟨rfl, HB9.out⟩
      ·have d2 : decide ((1 : Int) < (l.length : Int)) = false := decide_eq_false (by omega)
       have HR := qH (show r = false by rw [HP.out, hc45, decide_eq_false hl2]; simp)
       clear k1 k2 k3 k5 hc45 hl2
       go_wp2_with fail
       have HBx := qH (show w.heap.size < wr.heap.size from KR.out.lt)
       refine sx_startB (B := wr.heap.size) (w0 := wr) (by kernel_rfl) (Below.refl _ _) (fun wd hwd hX => ?_)
       clear hwd
       refine sx_take (i := 0) (oi := ⟨some 66, _, _, _, _, _⟩) (v := ?_) rfl (by kernel_rfl) (by kernel_rfl) (by kernel_rfl) (fun _ _ _ h => h) rfl hX ?_ ?_; rotate_left; (intro W hW; go_simp; try with_reducible rfl); simp only [Act.put, qA, qB, qC]
       refine sx_take (i := 1) (oi := ⟨some 67, _, _, _, _, _⟩) (v := .agg (wds s).toArray) rfl (by kernel_rfl) (by kernel_rfl) (by kernel_rfl) (fun _ _ _ h => h) rfl hX (ld_mid 37 _ rfl w.heap.size 1 rfl _ _ RS.out HBx.out Try.underlying37 rfl (size_set s)) ?_; simp only [Act.put, qA, qB, qC]
       refine sx_take (i := 2) (oi := ⟨some 68, _, _, _, _, _⟩) (v := .agg (wds zs).toArray) rfl (by kernel_rfl) (by kernel_rfl) (by kernel_rfl) (fun _ _ _ h => h) rfl hX (fun W _ => ex_build0 37 rfl HBS.out W) ?_; simp only [Act.put, qA, qB, qC]
       refine sx_take (i := 3) (oi := ⟨some 69, _, _, _, _, _⟩) (v := .bool true) rfl (by kernel_rfl) (by kernel_rfl) (by kernel_rfl) (fun _ _ _ h => h) rfl hX (eq_is HEQ.out 37 35 (.tmp 67) (.tmp 68) 37 rfl guardSet Try.underlying37 Try.underlying35 sizeU64 rfl rfl) ?_; simp only [Act.put, qA, qB, qC]
       refine sx_take (i := 4) (oi := ⟨some 70, _, _, _, _, _⟩) (v := ?_) rfl (by kernel_rfl) (by kernel_rfl) (by kernel_rfl) (fun _ _ _ h => h) rfl hX ?_ ?_; rotate_left; (intro W hW; go_simp; try with_reducible rfl); simp only [Act.put, qA, qB, qC]
       refine sx_take (i := 5) (oi := ⟨some 71, _, _, _, _, _⟩) (v := ?_) rfl (by kernel_rfl) (by kernel_rfl) (by kernel_rfl) (fun _ _ _ h => h) rfl hX ?_ ?_; rotate_left; (intro W hW; go_simp; try with_reducible rfl); simp only [Act.put, qA, qB, qC]
       refine sx_take (i := 6) (oi := ⟨some 72, _, _, _, _, _⟩) (v := .slice A l.length cap) rfl (by kernel_rfl) (by kernel_rfl) (by kernel_rfl) (fun _ _ _ h => h) rfl hX (fun W hW => ld_rxs (.tmp 71) rfl rfl ((hW.cell (p := ⟨w.heap.size, 5, none⟩) HBx.out).trans c5)) ?_; simp only [Act.put, qA, qB, qC]
       refine sx_take (i := 7) (oi := ⟨some 73, _, _, _, _, _⟩) (v := ?_) rfl (by kernel_rfl) (by kernel_rfl) (by kernel_rfl) (fun _ _ _ h => h) rfl hX ?_ ?_; rotate_left; (intro W hW; go_simp; try with_reducible rfl); simp only [Act.put, qA, qB, qC]
       refine sx_take (i := 8) (oi := ⟨some 74, _, _, _, _, _⟩) (v := ?_) rfl (by kernel_rfl) (by kernel_rfl) (by kernel_rfl) (fun _ _ _ h => h) rfl hX ?_ ?_; rotate_left; (intro W hW; go_simp; try with_reducible rfl); simp only [Act.put, qA, qB, qC]
       refine sx_take (i := 9) (oi := ⟨some 75, _, _, _, _, _⟩) (v := ?_) rfl (by kernel_rfl) (by kernel_rfl) (by kernel_rfl) (fun _ _ _ h => h) rfl hX ?_ ?_; rotate_left; (intro W hW; go_simp; try with_reducible rfl); simp only [Act.put, qA, qB, qC]
       refine sx_take (i := 10) (oi := ⟨some 76, _, _, _, _, _⟩) (v := ?_) rfl (by kernel_rfl) (by kernel_rfl) (by kernel_rfl) (fun _ _ _ h => h) rfl hX ?_ ?_; rotate_left; (intro W hW; go_simp; try with_reducible rfl); simp only [Act.put, qA, qB, qC]
       refine sx_skip (i := 11) (oi := ⟨some 77, _, _, _, _, _⟩) rfl (by kernel_rfl) (by kernel_rfl) (by kernel_rfl) (fun _ _ _ h => h) rfl hX ?_; simp only [Act.put, qA, qB, qC]
       refine sx_skip (i := 12) (oi := ⟨some 78, _, _, _, _, _⟩) rfl (by kernel_rfl) (by kernel_rfl) (by kernel_rfl) (fun _ _ _ h => h) rfl hX ?_; simp only [Act.put, qA, qB, qC]
       refine sx_skip (i := 14) (oi := ⟨some 80, _, _, _, _, _⟩) rfl (by kernel_rfl) (by kernel_rfl) (by kernel_rfl) (fun _ _ _ h => h) rfl hX ?_; simp only [Act.put, qA, qB, qC]
       refine sx_skip (i := 13) (oi := ⟨some 79, _, _, _, _, _⟩) rfl (by kernel_rfl) (by kernel_rfl) (by kernel_rfl) (fun _ _ _ h => h) rfl hX ?_; simp only [Act.put, qA, qB, qC]
       refine sx_skip (i := 15) (oi := ⟨some 81, _, _, _, _, _⟩) rfl (by kernel_rfl) (by kernel_rfl) (by kernel_rfl) (fun _ _ _ h => h) rfl hX ?_; simp only [Act.put, qA, qB, qC]
       refine sx_take (i := 16) (oi := ⟨some 82, _, _, _, _, _⟩) (v := ?_) rfl (by kernel_rfl) (by kernel_rfl) (by kernel_rfl) (fun _ _ _ h => h) rfl hX ?_ ?_; rotate_left; (intro W hW; go_simp; try with_reducible rfl); simp only [Act.put, qA, qB, qC]
       refine sx_take (i := 17) (oi := ⟨some 2, _, _, _, _, _⟩) (v := ?_) rfl (by kernel_rfl) (by kernel_rfl) (by kernel_rfl) (fun _ _ _ h => h) rfl hX ?_ ?_; rotate_left; (intro W hW; go_simp; try with_reducible rfl); simp only [Act.put, qA, qB, qC]
       refine wpAnyH_done (by kernel_rfl) ?_ _
       have HB9 := qH (HB.out.trans (hX.mono HB.out.size))
       clear hX
       go_wp2_with fail
       go_ret
       rw [HR.out]
       exact ⟨rfl, HB9.out⟩
    have q5 : (k == 5) = false := by simpa using k5
    by_cases k6 : k = 6
    ·have q6 : (k == 6) = true := by simpa using k6
     have hc6 : countT k s l.length = decide (l.length = 1) := by rw [k6, count6]
     have RSW := RS
     cases b with
     | false =>
      have HR := qH (show r = false by rw [HP.out, show decide (k = 3) = false by simpa using k3]; simp)
      clear k1 k2 k3 k4 k5 k6 hc6
      go_wp2_with (first
       | ((with_reducible refine atDst 86 ?_); refine wpList_ldMidG rfl 37 _ rfl w.heap.size 1 rfl (wds s) _ RS.out Try.underlying37 rfl (size_set s) ?_; (try simp only [Act.put, qA, qB, qC]))
       | ((with_reducible refine atDst 87 ?_); refine wpList_bld rfl 37 _ rfl (wds zs) HBS.out ?_; (try simp only [Act.put, qA, qB, qC]))
       | ((with_reducible refine atDst 88 ?_); refine wpList_eqSet_is rfl HEQ.out 37 35 (.tmp 86) (.tmp 87) 37 rfl guardSet Try.underlying37 Try.underlying35 sizeU64 rfl rfl ?_; (try simp only [Act.put, qA, qB, qC])))
      go_ret
      rw [HR.out]
      exact ⟨rfl, HB.out⟩
     | true =>
      by_cases hl1 : l.length = 1
      ·have g1 : ((l.length : Int) == 1) = true := by rw [beq_iff_eq]; omega
       have g2 : (0 : Int) < (l.length : Int) := by omega
       obtain ⟨x, hlx⟩ : ∃ x, l = [x] := by
        match l, hl1 with
        | [x], _ => exact ⟨x, rfl⟩
       obtain ⟨b0, off, rfl, hb, hrng⟩ := H3.out (by rw [hlx]; simp)
       have hx0 : l[0]? = some x := by rw [hlx]; rfl
       obtain ⟨Ax, cx, hsp, hrx⟩ := RxD.split (H4.out 0 x hx0)
       have hr0 : w.rangeAt b0 off (f 0) := by have := hrng 0 (by omega); simpa using this
       have x0 := range_cell0 (range_below hr0 HB.out hb) (show (f 0)[0]? = some (.int .i64 x.kind) by rw [hsp]; rfl)
       have HRX := qH (show r = fitsT x.kind 6 by
        rw [HP.out, hc6, decide_eq_true hl1, show decide (k ≠ 5) = true by simpa using k5, Bool.eq_iff_iff]
        simp only [Bool.or_true, Bool.true_and, Bool.and_true, Bool.true_or, HPL.out]
        rw [hlx, ← k6]
        simp)
       obtain ⟨y, hy⟩ : ∃ y, y = x.kind := ⟨_, rfl⟩
       rw [← hy] at x0 HRX
       clear k1 k2 k3 k4 k5 k6 hc6 hl1 hlx hb hrng hx0 hsp hrx hr0 hy
       by_cases y6 : y = 6
       ·have z6 : (y != 6) = false := by simpa using y6
        have HR := qH (show r = false by rw [HRX.out, y6]; simp [fitsT])
        clear y6
        go_wp2_with (first
         | ((with_reducible refine atDst 86 ?_); refine wpList_ldMidG rfl 37 _ rfl w.heap.size 1 rfl (wds s) _ RS.out Try.underlying37 rfl (size_set s) ?_; (try simp only [Act.put, qA, qB, qC]))
         | ((with_reducible refine atDst 87 ?_); refine wpList_bld rfl 37 _ rfl (wds zs) HBS.out ?_; (try simp only [Act.put, qA, qB, qC]))
         | ((with_reducible refine atDst 88 ?_); refine wpList_eqSet_is rfl HEQ.out 37 35 (.tmp 86) (.tmp 87) 37 rfl guardSet Try.underlying37 Try.underlying35 sizeU64 rfl rfl ?_; (try simp only [Act.put, qA, qB, qC])))
        go_ret
        rw [HR.out]
        exact ⟨rfl, HB.out⟩
       ·have z6 : (y != 6) = true := by simpa using y6
        by_cases y2 : y = 2
        ·have z2 : (y != 2) = false := by simpa using y2
         have HR := qH (show r = false by rw [HRX.out, y2]; simp [fitsT])
         clear y2 y6
         go_wp2_with (first
          | ((with_reducible refine atDst 86 ?_); refine wpList_ldMidG rfl 37 _ rfl w.heap.size 1 rfl (wds s) _ RS.out Try.underlying37 rfl (size_set s) ?_; (try simp only [Act.put, qA, qB, qC]))
          | ((with_reducible refine atDst 87 ?_); refine wpList_bld rfl 37 _ rfl (wds zs) HBS.out ?_; (try simp only [Act.put, qA, qB, qC]))
          | ((with_reducible refine atDst 88 ?_); refine wpList_eqSet_is rfl HEQ.out 37 35 (.tmp 86) (.tmp 87) 37 rfl guardSet Try.underlying37 Try.underlying35 sizeU64 rfl rfl ?_; (try simp only [Act.put, qA, qB, qC])))
         go_ret
         rw [HR.out]
         exact ⟨rfl, HB.out⟩
        ·have z2 : (y != 2) = true := by simpa using y2
         have HR := qH (show r = (y != 1) by
          rw [HRX.out]
          unfold fitsT
          rw [if_neg y2, decide_eq_true y6, Bool.and_true, Bool.eq_iff_iff]
          simp)
         obtain ⟨c, hc⟩ : ∃ c, (y != 1) = c := ⟨_, rfl⟩
         rw [hc] at HR
         clear y2 y6
         go_wp2_with (first
          | ((with_reducible refine atDst 86 ?_); refine wpList_ldMidG rfl 37 _ rfl w.heap.size 1 rfl (wds s) _ RS.out Try.underlying37 rfl (size_set s) ?_; (try simp only [Act.put, qA, qB, qC]))
          | ((with_reducible refine atDst 87 ?_); refine wpList_bld rfl 37 _ rfl (wds zs) HBS.out ?_; (try simp only [Act.put, qA, qB, qC]))
          | ((with_reducible refine atDst 88 ?_); refine wpList_eqSet_is rfl HEQ.out 37 35 (.tmp 86) (.tmp 87) 37 rfl guardSet Try.underlying37 Try.underlying35 sizeU64 rfl rfl ?_; (try simp only [Act.put, qA, qB, qC])))
         go_ret
         rw [HR.out]
         exact ⟨rfl, HB.out⟩
      ·have g1 : ((l.length : Int) == 1) = false := by rw [beq_eq_false_iff_ne]; omega
       have HR := qH (show r = false by rw [HP.out, hc6, decide_eq_false hl1]; simp)
       clear k1 k2 k3 k4 k5 k6 hc6 hl1
       go_wp2_with (first
        | ((with_reducible refine atDst 86 ?_); refine wpList_ldMidG rfl 37 _ rfl w.heap.size 1 rfl (wds s) _ RS.out Try.underlying37 rfl (size_set s) ?_; (try simp only [Act.put, qA, qB, qC]))
        | ((with_reducible refine atDst 87 ?_); refine wpList_bld rfl 37 _ rfl (wds zs) HBS.out ?_; (try simp only [Act.put, qA, qB, qC]))
        | ((with_reducible refine atDst 88 ?_); refine wpList_eqSet_is rfl HEQ.out 37 35 (.tmp 86) (.tmp 87) 37 rfl guardSet Try.underlying37 Try.underlying35 sizeU64 rfl rfl ?_; (try simp only [Act.put, qA, qB, qC])))
       go_ret
       rw [HR.out]
       exact ⟨rfl, HB.out⟩
    have q6 : (k == 6) = false := by simpa using k6
    have HR := qH (show r = false by rw [HP.out, count_no k1 k2 k3 k4 k5 k6]; simp)
    clear k1 k2 k3 k4 k5 k6
    go_wp2_with fail
    go_ret
    rw [HR.out]
    exact ⟨rfl, HB.out⟩
end Go.Proofs.Ytmcpfaaakmehdaa
