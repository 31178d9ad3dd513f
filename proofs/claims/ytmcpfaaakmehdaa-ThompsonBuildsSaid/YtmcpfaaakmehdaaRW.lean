/-
  Texts of this proof, put together: RxS. No statement is proved here.
-/
import Derived.Test.YtmcpfaaakmehdaaRD
namespace Go.Proofs.Ytmcpfaaakmehdaa
open Go.RowKit
set_option linter.unusedSimpArgs false
set_option linter.unusedVariables false
set_option maxHeartbeats 4000000 in
set_option maxRecDepth 100000 in
theorem refSame_any : ∀ (N : Nat) (t u : T), t.nodes ≤ N → t.nodes ≤ 1099511627776 → ∀ (cs ds : List Value) (w : World), RxV w.heap.size w cs t → RxV w.heap.size w ds u →
  Calls Try.prog 68 #[.agg cs.toArray, .agg ds.toArray] w fun e w' => e = .returned (.bool (sameT t u)) ∧ Below w.heap.size w w' := by
 intro N
 induction N with
 | zero => intro t u h; have := nodes_pos t; omega
 | succ N ih =>
  rintro ⟨k, s, l⟩ ⟨k', s', m⟩ hN hM cs ds w hv hv'
  have IH := qH ih
  clear ih
  obtain ⟨A, cap, f, rfl, h1, h2, h0, h3, h4⟩ := hv.opened
  obtain ⟨A', cap', f', rfl, h1', h2', h0', h3', h4'⟩ := hv'.opened
  have H3 := qH h3
  have H4 := qH h4
  have H3' := qH h3'
  have H4' := qH h4'
  have HNN := qH (show T.nodes (.node k s l) = 1 + nodesL l by simp only [T.nodes])
  have HSS := qH (show sameT (.node k s l) (.node k' s' m) = (decide (k = k') && eqS s s' && sameL l m) by simp only [sameT])
  rw [HNN.out] at hN hM
  rw [HSS.out]
  have HN := qH hN
  have HM := qH hM
  have HLL := qH (len_nodes l)
  obtain ⟨cs, hcs⟩ : ∃ cs, cs = Value.int .i64 k :: (wds s ++ [.slice A l.length cap]) := ⟨_, rfl⟩
  have HCL := qH (show cs.length = 6 by rw [hcs]; rfl)
  have HC0 := qH (show cs[0]? = some (.int .i64 k) by rw [hcs]; rfl)
  have HC5 := qH (show cs[5]? = some (.slice A l.length cap) by rw [hcs]; rfl)
  have HCS := qH hcs
  obtain ⟨ds, hds⟩ : ∃ ds, ds = Value.int .i64 k' :: (wds s' ++ [.slice A' m.length cap']) := ⟨_, rfl⟩
  have HDL := qH (show ds.length = 6 by rw [hds]; rfl)
  have HD0 := qH (show ds[0]? = some (.int .i64 k') by rw [hds]; rfl)
  have HD5 := qH (show ds[5]? = some (.slice A' m.length cap') by rw [hds]; rfl)
  have HDS := qH hds
  rw [← hcs, ← hds]
  clear hv h1 h2 h0 h3 h4 hcs hN hM hv' h1' h2' h0' h3' h4' hds
  by_cases hk : k = k'
  ·cases hs : eqS s s' with
   | false =>
    have HNE := qH (show (!eqS s s') = true by rw [hs]; rfl)
    rw [Bool.and_false, Bool.false_and]
    subst hk
    clear hs
    go_enter Try.func68, Try.ntmps68
    go_wp2_with (first
     | ((with_reducible refine atDst 2 ?_); refine wpList_box rfl 40 _ rfl cs rfl (Below.refl w.heap.size w) (Nat.le_refl _) ?_; intro w1 hk1 hb1 hs1 _; have K1 := qH hk1; have B1 := qH hb1; clear hk1 hb1 hs1)
     | ((with_reducible refine atDst 3 ?_); refine wpList_box rfl 40 _ rfl ds rfl (Below.refl w1.heap.size w1) (Nat.le_refl _) ?_; intro w2 hk2 hb2 hs2 _; have L2 := qH hk2; have B2 := qH (B1.out.trans (hb2.mono B1.out.size)); have K2 := qH (K1.out.below hb2 K1.out.lt); have a0 := K2.out.cell 0; rw [HC0.out] at a0; have b0 := L2.out.cell 0; rw [HD0.out] at b0; have a5 := K2.out.cell 5; rw [HC5.out] at a5; have b5 := L2.out.cell 5; rw [HD5.out] at b5; have RS := qH (set_range' HCS.out K2.out); have RS' := qH (set_range' HDS.out L2.out); clear hk2 hb2 hs2 K1 B1)
     | ((with_reducible refine atDst 13 ?_); refine wpList_ldMidG rfl 37 _ rfl w.heap.size 1 rfl (wds s) _ RS.out Try.underlying37 rfl (size_set s) ?_)
     | ((with_reducible refine atDst 15 ?_); refine wpList_ldMidG rfl 37 _ rfl w1.heap.size 1 rfl (wds s') _ RS'.out Try.underlying37 rfl (size_set s') ?_)
     | ((with_reducible refine atDst 16 ?_); refine wpList_neSetG rfl HNE.out 37 35 (.tmp 13) (.tmp 15) 37 rfl guardSet Try.underlying37 Try.underlying35 sizeU64 rfl rfl ?_))
    go_ret
    exact ⟨rfl, B2.out⟩
   | true =>
    have HNE := qH (show (!eqS s s') = false by rw [hs]; rfl)
    rw [decide_eq_true hk, Bool.true_and, Bool.true_and]
    subst hk
    clear hs
    by_cases hlen : l.length = m.length
    ·have hl1 : ((l.length : Int) != (m.length : Int)) = false := by rw [hlen]; simp
     have HLM := qH hlen
     have hl2 : (m.length : Int) = (l.length : Int) := by rw [hlen]
     rw [← hlen] at HD5
     clear hlen hl1 hl2
     go_enter Try.func68, Try.ntmps68
     go_wp2_with (first
      | ((with_reducible refine atDst 2 ?_); refine wpList_box rfl 40 _ rfl cs rfl (Below.refl w.heap.size w) (Nat.le_refl _) ?_; intro w1 hk1 hb1 hs1 _; have K1 := qH hk1; have B1 := qH hb1; clear hk1 hb1 hs1)
      | ((with_reducible refine atDst 3 ?_); refine wpList_box rfl 40 _ rfl ds rfl (Below.refl w1.heap.size w1) (Nat.le_refl _) ?_; intro w2 hk2 hb2 hs2 _; have L2 := qH hk2; have B2 := qH (B1.out.trans (hb2.mono B1.out.size)); have K2 := qH (K1.out.below hb2 K1.out.lt); have a0 := K2.out.cell 0; rw [HC0.out] at a0; have b0 := L2.out.cell 0; rw [HD0.out] at b0; have a5 := K2.out.cell 5; rw [HC5.out] at a5; have b5 := L2.out.cell 5; rw [HD5.out] at b5; have RS := qH (set_range' HCS.out K2.out); have RS' := qH (set_range' HDS.out L2.out); clear hk2 hb2 hs2 K1 B1)
      | ((with_reducible refine atDst 13 ?_); refine wpList_ldMidG rfl 37 _ rfl w.heap.size 1 rfl (wds s) _ RS.out Try.underlying37 rfl (size_set s) ?_)
      | ((with_reducible refine atDst 15 ?_); refine wpList_ldMidG rfl 37 _ rfl w1.heap.size 1 rfl (wds s') _ RS'.out Try.underlying37 rfl (size_set s') ?_)
      | ((with_reducible refine atDst 16 ?_); refine wpList_neSetG rfl HNE.out 37 35 (.tmp 13) (.tmp 15) 37 rfl guardSet Try.underlying37 Try.underlying35 sizeU64 rfl rfl ?_))
     go_loopw [5] (fun i wl => ∃ j : Nat, j ≤ l.length ∧ i = .int .i64 (j : Int) ∧ (∀ (i : Nat) (a b : T), i < j → l[i]? = some a → m[i]? = some b → sameT a b = true) ∧ Below w2.heap.size w2 wl) (fun i _ => l.length - (intOf i).toNat)
     case atStart => exact ⟨0, by omega, by simp, fun i a b h => by omega, Below.refl _ _⟩
     case round =>
      obtain ⟨j, hj, rfl, hsm, hb⟩ := hrel
      have HSM := qH hsm
      have HB := qH hb
      clear hsm hb
      have a5r := (K2.out.below HB.out K2.out.lt).cell 5
      rw [HC5.out] at a5r
      by_cases hjl : j < l.length
      ·have j1 : (j : Int) < (l.length : Int) := Int.ofNat_lt.2 hjl
       have BW := qH (B2.out.trans (HB.out.mono B2.out.size))
       have hjm : j < m.length := by rw [← HLM.out]; exact hjl
       obtain ⟨b, off, rfl, hb, hrng⟩ := H3.out (by rintro rfl; simp at hjl)
       obtain ⟨b', off', rfl, hb', hrng'⟩ := H3'.out (by rintro rfl; simp at hjm)
       obtain ⟨a, ha⟩ : ∃ a, l[j]? = some a := ⟨_, List.getElem?_eq_getElem hjl⟩
       obtain ⟨c, hc⟩ : ∃ c, m[j]? = some c := ⟨_, List.getElem?_eq_getElem hjm⟩
       have HV := qH (RxV.part H4.out BW.out BW.out.size ha)
       have HV' := qH (RxV.part H4'.out BW.out BW.out.size hc)
       have HRG := qH (range_below (hrng j hjl) BW.out hb)
       have HRG' := qH (range_below (hrng' j hjm) BW.out hb')
       have HB1 := qH (Nat.lt_of_lt_of_le hb BW.out.size)
       have HB2 := qH (Nat.lt_of_lt_of_le hb' BW.out.size)
       have hmem := nodes_mem (List.mem_of_getElem? ha)
       have HUN := qH (show a.nodes ≤ N by have := HN.out; omega)
       have HUM := qH (show a.nodes ≤ 1099511627776 by have := HM.out; omega)
       have HAJ := qH ha
       have HCJ := qH hc
       have hj62 : j ≤ 4611686018427387904 := by have := HM.out; have := HLL.out; omega
       have e3 := wrap_one j hj62
       have e4 := wrap_one' j hj62
       have KW := qH (K2.out.below HB.out K2.out.lt)
       have LW := qH (L2.out.below HB.out L2.out.lt)
       have aW : ∀ W, Below wr.heap.size wr W → W.cell? ⟨w.heap.size, 5, none⟩ = some (.slice (some ⟨b, off, none⟩) l.length cap) := fun W hW => by
        have := (KW.out.below hW KW.out.lt).cell 5
        rw [HC5.out] at this
        exact this
       have bW : ∀ W, Below wr.heap.size wr W → W.cell? ⟨w1.heap.size, 5, none⟩ = some (.slice (some ⟨b', off', none⟩) l.length cap') := fun W hW => by
        have := (LW.out.below hW LW.out.lt).cell 5
        rw [HD5.out] at this
        exact this
       clear hrng hrng' ha hc hmem hj62 hjm hb hb'
       go_wp2_with fail
       refine sx_startB (B := wr.heap.size) (w0 := wr) (by kernel_rfl) (Below.refl _ _) (fun wd hwd hX => ?_)
       have SZ := qH hX.size
       have VD := qH ((HV.out.stay hX).mono SZ.out)
       have VD' := qH ((HV'.out.stay hX).mono SZ.out)
       clear hwd
       refine sx_take (i := 0) (oi := ⟨some 34, _, _, _, _, _⟩) (v := ?_) rfl (by kernel_rfl) (by kernel_rfl) (by kernel_rfl) (fun _ _ _ h => h) rfl hX ?_ ?_; rotate_left; (intro W hW; go_simp; try with_reducible rfl); simp only [Act.put, qA, qB, qC]
       refine sx_take (i := 1) (oi := ⟨some 35, _, _, _, _, _⟩) (v := ?_) rfl (by kernel_rfl) (by kernel_rfl) (by kernel_rfl) (fun _ _ _ h => h) rfl hX ?_ ?_; rotate_left; (intro W hW; go_simp; try with_reducible rfl); simp only [Act.put, qA, qB, qC]
       refine sx_take (i := 2) (oi := ⟨some 36, _, _, _, _, _⟩) (v := ?_) rfl (by kernel_rfl) (by kernel_rfl) (by kernel_rfl) (fun _ _ _ h => h) rfl hX ?_ ?_; rotate_left; (intro W hW; go_simp; try with_reducible rfl); simp only [Act.put, qA, qB, qC]
       refine sx_take (i := 3) (oi := ⟨some 37, _, _, _, _, _⟩) (v := ?_) rfl (by kernel_rfl) (by kernel_rfl) (by kernel_rfl) (fun _ _ _ h => h) rfl hX ?_ ?_; rotate_left; (intro W hW; go_simp; try with_reducible rfl); simp only [Act.put, qA, qB, qC]
       refine sx_take (i := 4) (oi := ⟨some 38, _, _, _, _, _⟩) (v := .agg (f j).toArray) rfl (by kernel_rfl) (by kernel_rfl) (by kernel_rfl) (fun _ _ _ h => h) rfl hX (ld_mid 40 _ rfl b (off + j * 6) rfl _ _ HRG.out HB1.out Try.underlying40 rfl (size_rx HV.out.length)) ?_; simp only [Act.put, qA, qB, qC]
       refine sx_take (i := 5) (oi := ⟨some 39, _, _, _, _, _⟩) (v := ?_) rfl (by kernel_rfl) (by kernel_rfl) (by kernel_rfl) (fun _ _ _ h => h) rfl hX ?_ ?_; rotate_left; (intro W hW; go_simp; try with_reducible rfl); simp only [Act.put, qA, qB, qC]
       refine sx_take (i := 6) (oi := ⟨some 40, _, _, _, _, _⟩) (v := ?_) rfl (by kernel_rfl) (by kernel_rfl) (by kernel_rfl) (fun _ _ _ h => h) rfl hX ?_ ?_; rotate_left; (intro W hW; go_simp; try with_reducible rfl); simp only [Act.put, qA, qB, qC]
       refine sx_take (i := 7) (oi := ⟨some 41, _, _, _, _, _⟩) (v := ?_) rfl (by kernel_rfl) (by kernel_rfl) (by kernel_rfl) (fun _ _ _ h => h) rfl hX ?_ ?_; rotate_left; (intro W hW; go_simp; try with_reducible rfl); simp only [Act.put, qA, qB, qC]
       refine sx_take (i := 8) (oi := ⟨some 42, _, _, _, _, _⟩) (v := ?_) rfl (by kernel_rfl) (by kernel_rfl) (by kernel_rfl) (fun _ _ _ h => h) rfl hX ?_ ?_; rotate_left; (intro W hW; go_simp; try with_reducible rfl); simp only [Act.put, qA, qB, qC]
       refine sx_take (i := 9) (oi := ⟨some 43, _, _, _, _, _⟩) (v := .agg (f' j).toArray) rfl (by kernel_rfl) (by kernel_rfl) (by kernel_rfl) (fun _ _ _ h => h) rfl hX (ld_mid 40 _ rfl b' (off' + j * 6) rfl _ _ HRG'.out HB2.out Try.underlying40 rfl (size_rx HV'.out.length)) ?_; simp only [Act.put, qA, qB, qC]
       refine sx_actB (i := 10) (o := ⟨some 44, _, _, _, _, _⟩) rfl (by kernel_rfl) rfl hX (fun K hK => ?_)
       go_wp2_with fail
       refine (IH.out a c HUN.out HUM.out (f j) (f' j) wd VD.out VD'.out).mono ?_
       rintro e w6 ⟨rfl, hb⟩
       obtain ⟨x, hx⟩ : ∃ x, sameT a c = x := ⟨_, rfl⟩
       rw [hx]
       have HX := qH hx
       refine hK _ _ (hb.mono SZ.out) ?_
       clear hK K hx
       replace hX := hX.trans (hb.mono SZ.out)
       clear hb
       refine sx_take (i := 11) (oi := ⟨some 45, _, _, _, _, _⟩) (v := ?_) rfl (by kernel_rfl) (by kernel_rfl) (by kernel_rfl) (fun _ _ _ h => h) rfl hX ?_ ?_; rotate_left; (intro W hW; go_simp; try with_reducible rfl); simp only [Act.put, qA, qB, qC]
       refine wpAnyH_done (by kernel_rfl) ?_ _
       have B6 := qH (HB.out.trans (hX.mono HB.out.size))
       clear hX SZ
       cases x with
       | true =>
        go_wp2_with fail
        refine ⟨⟨j + 1, by omega, by congr 1, fun i a2 b2 hi ha2 hb2 => ?_, B6.out⟩, by simp [intOf] <;> omega⟩
        by_cases hij : i < j
        ·exact HSM.out i a2 b2 hij ha2 hb2
        ·obtain rfl : i = j := by omega
         rw [HAJ.out] at ha2
         rw [HCJ.out] at hb2
         obtain rfl := Option.some.inj ha2
         obtain rfl := Option.some.inj hb2
         exact HX.out
       | false =>
        have HF := qH (show sameL l m = false by
         rw [Bool.eq_false_iff]
         intro h
         have := (sameL_iff.1 h).2 j a c HAJ.out HCJ.out
         rw [HX.out] at this
         cases this)
        have B9 := qH (B2.out.trans (B6.out.mono B2.out.size))
        go_wp2_with fail
        go_ret
        rw [HF.out]
        exact ⟨rfl, B9.out⟩
      ·obtain rfl : j = l.length := by omega
       have j1 : ¬ ((l.length : Int) < (l.length : Int)) := by omega
       have HF := qH (show sameL l m = true from sameL_iff.2 ⟨HLM.out, fun i a b ha hb => HSM.out i a b (List.getElem?_eq_some_iff.1 ha).1 ha hb⟩)
       have B9 := qH (B2.out.trans (HB.out.mono B2.out.size))
       go_wp2_with fail
       go_ret
       rw [HF.out]
       exact ⟨rfl, B9.out⟩
    ·have hl1 : ¬ (l.length : Int) = (m.length : Int) := by omega
     have HF := qH (show sameL l m = false by
      rw [Bool.eq_false_iff]
      intro h
      exact hlen (sameL_iff.1 h).1)
     clear hlen
     go_enter Try.func68, Try.ntmps68
     go_wp2_with (first
      | ((with_reducible refine atDst 2 ?_); refine wpList_box rfl 40 _ rfl cs rfl (Below.refl w.heap.size w) (Nat.le_refl _) ?_; intro w1 hk1 hb1 hs1 _; have K1 := qH hk1; have B1 := qH hb1; clear hk1 hb1 hs1)
      | ((with_reducible refine atDst 3 ?_); refine wpList_box rfl 40 _ rfl ds rfl (Below.refl w1.heap.size w1) (Nat.le_refl _) ?_; intro w2 hk2 hb2 hs2 _; have L2 := qH hk2; have B2 := qH (B1.out.trans (hb2.mono B1.out.size)); have K2 := qH (K1.out.below hb2 K1.out.lt); have a0 := K2.out.cell 0; rw [HC0.out] at a0; have b0 := L2.out.cell 0; rw [HD0.out] at b0; have a5 := K2.out.cell 5; rw [HC5.out] at a5; have b5 := L2.out.cell 5; rw [HD5.out] at b5; have RS := qH (set_range' HCS.out K2.out); have RS' := qH (set_range' HDS.out L2.out); clear hk2 hb2 hs2 K1 B1)
      | ((with_reducible refine atDst 13 ?_); refine wpList_ldMidG rfl 37 _ rfl w.heap.size 1 rfl (wds s) _ RS.out Try.underlying37 rfl (size_set s) ?_)
      | ((with_reducible refine atDst 15 ?_); refine wpList_ldMidG rfl 37 _ rfl w1.heap.size 1 rfl (wds s') _ RS'.out Try.underlying37 rfl (size_set s') ?_)
      | ((with_reducible refine atDst 16 ?_); refine wpList_neSetG rfl HNE.out 37 35 (.tmp 13) (.tmp 15) 37 rfl guardSet Try.underlying37 Try.underlying35 sizeU64 rfl rfl ?_))
     go_ret
     rw [HF.out]
     exact ⟨rfl, B2.out⟩
  ·have hk1 : (k != k') = true := by simpa using hk
   have hk2 : decide (k = k') = false := by simpa using hk
   rw [hk2, Bool.false_and, Bool.false_and]
   have HNE := qH (rfl : (0 : Nat) = 0)
   go_enter Try.func68, Try.ntmps68
   go_wp2_with (first
    | ((with_reducible refine atDst 2 ?_); refine wpList_box rfl 40 _ rfl cs rfl (Below.refl w.heap.size w) (Nat.le_refl _) ?_; intro w1 hk1 hb1 hs1 _; have K1 := qH hk1; have B1 := qH hb1; clear hk1 hb1 hs1)
    | ((with_reducible refine atDst 3 ?_); refine wpList_box rfl 40 _ rfl ds rfl (Below.refl w1.heap.size w1) (Nat.le_refl _) ?_; intro w2 hk2 hb2 hs2 _; have L2 := qH hk2; have B2 := qH (B1.out.trans (hb2.mono B1.out.size)); have K2 := qH (K1.out.below hb2 K1.out.lt); have a0 := K2.out.cell 0; rw [HC0.out] at a0; have b0 := L2.out.cell 0; rw [HD0.out] at b0; have a5 := K2.out.cell 5; rw [HC5.out] at a5; have b5 := L2.out.cell 5; rw [HD5.out] at b5; have RS := qH (set_range' HCS.out K2.out); have RS' := qH (set_range' HDS.out L2.out); clear hk2 hb2 hs2 K1 B1)
    | ((with_reducible refine atDst 13 ?_); refine wpList_ldMidG rfl 37 _ rfl w.heap.size 1 rfl (wds s) _ RS.out Try.underlying37 rfl (size_set s) ?_)
    | ((with_reducible refine atDst 15 ?_); refine wpList_ldMidG rfl 37 _ rfl w1.heap.size 1 rfl (wds s') _ RS'.out Try.underlying37 rfl (size_set s') ?_)
    | ((with_reducible refine atDst 16 ?_); refine wpList_neSetG rfl HNE.out 37 35 (.tmp 13) (.tmp 15) 37 rfl guardSet Try.underlying37 Try.underlying35 sizeU64 rfl rfl ?_))
   go_ret
   exact ⟨rfl, B2.out⟩
end Go.Proofs.Ytmcpfaaakmehdaa
