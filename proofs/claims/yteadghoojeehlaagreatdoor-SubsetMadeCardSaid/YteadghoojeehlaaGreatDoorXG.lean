/-
  Texts of this proof, put together: RxR. No statement is proved here.
-/
import Derived.Test.YteadghoojeehlaaGreatDoorXE
import Derived.Test.YteadghoojeehlaaGreatDoorXF
namespace Go.Proofs.YteadghoojeehlaaGreatDoor
open Go.RowKit
set_option linter.unusedSimpArgs false
set_option linter.unusedVariables false
theorem range_cell0 {w : World} {b o : Nat} {cs : List Value} {v : Value} (h : w.rangeAt b o cs) (h0 : cs[0]? = some v) : w.cell? ⟨b, o, none⟩ = some v := h 0 v h0
theorem range_cell5 {w : World} {b o : Nat} {cs : List Value} {v : Value} (h : w.rangeAt b o cs) (h0 : cs[5]? = some v) : w.cell? ⟨b, o + 5, none⟩ = some v := h 5 v h0
set_option maxHeartbeats 4000000 in
set_option maxRecDepth 100000 in
theorem refFlat_any (k : Int) (l : List T) (v : Value) (w : World) {D : Nat → Prop} (hD : ∀ k, D k → k < w.heap.size) (hr : RowD D w v l) (hn : nodesL l ≤ 549755813888) :
  Calls Tryz.prog 82 #[.int .i64 k, v] w fun e w' => ∃ v', e = .returned v' ∧ OwnT D w.heap.size w' v' (flatT k l) ∧ Below w.heap.size w w' := by
 obtain ⟨A, cap, f, rfl, h1, h2, h0, h3, h4⟩ := hr
 have H3 := qH h3
 have H4 := qH h4
 have HD := qH hD
 have HN := qH hn
 have HLL := qH (len_nodes l)
 obtain ⟨i0, hi0, hz0, hz1, hz2⟩ := inf_rx'
 have HZ1 := qH hz0
 clear h1 h2 h0 h3 h4 hn hz0 hD
 go_enter Tryz.func82, Tryz.ntmps82
 go_wp2_with fail
 go_loopw [5, 6] (fun v i wl => ∃ (v1 : Value) (j : Nat), v1 = v ∧ j ≤ l.length ∧ i = .int .i64 (j : Int) ∧ OwnT D w.heap.size wl v1 (flatT k (l.take j)) ∧ Below w.heap.size w wl) (fun _ i _ => l.length - (intOf i).toNat)
 case atStart => exact ⟨_, 0, rfl, by omega, by simp, OwnT.nil _ _ _, Below.refl _ _⟩
 case round =>
  obtain ⟨v1, j, rfl, hj, rfl, ho, hb⟩ := hrel
  have HO := qH ho
  have HB := qH hb
  clear ho hb
  by_cases hjl : j < l.length
  ·have j1 : (j : Int) < (l.length : Int) := Int.ofNat_lt.2 hjl
   obtain ⟨b, off, rfl, hb, hrng⟩ := H3.out (by rintro rfl; simp at hjl)
   obtain ⟨u, hu⟩ : ∃ u, l[j]? = some u := ⟨_, List.getElem?_eq_getElem hjl⟩
   have HV := qH ((H4.out j u hu).keep HB.out HD.out)
   have HRG := qH (range_below (hrng j hjl) HB.out (HD.out b hb))
   obtain ⟨Au, cu, hsp, hru⟩ := HV.out.split
   have HV6 := qH HV.out.length
   have a0 := range_cell0 HRG.out (show (f j)[0]? = some (.int .i64 u.kind) by rw [hsp]; rfl)
   have a5 := range_cell5 HRG.out (show (f j)[5]? = some (.slice Au u.args.length cu) by rw [hsp]; rfl)
   have HRU := qH hru
   have hj62 : j ≤ 4611686018427387904 := by have := HN.out; have := HLL.out; omega
   have e3 := wrap_one j hj62
   have e4 := wrap_one' j hj62
   have HNX := qH (flatT_next k l j u hu)
   have HNL := qH (flatT_take k l (j + 1))
   have HJ1 := qH (show l.length - (j + 1) < l.length - j by omega)
   have HJ2 := qH (show j + 1 ≤ l.length from hjl)
   obtain ⟨cur, hcur⟩ : ∃ cur, cur = flatT k (l.take j) := ⟨_, rfl⟩
   rw [← hcur] at HO HNX
   have HU := qH hu
   clear hrng hu hj62 hb hsp hru hcur
   by_cases hk : u.kind = k
   ·have hkb : (u.kind == k) = true := by simpa using hk
    have HE := qH (show flatT k (l.take (j + 1)) = cur ++ u.args by rw [HNX.out, if_pos hk])
    have HLE := qH (show cur.length + u.args.length ≤ 1099511627776 by have h1 := HNL.out; rw [HE.out, List.length_append] at h1; have := HN.out; omega)
    clear hk
    go_wp2_with ((with_reducible refine atDst 26 ?_); refine wpList_appTs (D := D) (D' := D) (base := w.heap.size) rfl (.tmp 20) (.tmp 25) rfl i0 hi0 HZ1.out hz1 hz2 v1 _ rfl HO.out _ u.args rfl HRU.out (fun q hq => ⟨hq, Nat.lt_of_lt_of_le (HD.out q hq) HB.out.size, fun he => by have := HO.out.ge q he.symm; have := HD.out q hq; omega⟩) HLE.out HB.out.size ?_; intro v5 w5 ho5 hg5; have O5 := qH ho5; have B5 := qH (HB.out.grown hg5 HB.out.size (fun q hq => HO.out.ge q hq)); clear ho5 hg5; (try simp only [Act.put, qA, qB, qC]))
    refine ⟨⟨_, j + 1, rfl, HJ2.out, by congr 1, by rw [HE.out]; exact O5.out, B5.out⟩, by simpa [intOf] using HJ1.out⟩
   ·have hkb : (u.kind == k) = false := by simpa using hk
    have HE := qH (show flatT k (l.take (j + 1)) = cur ++ [u] by rw [HNX.out, if_neg hk])
    have HLE := qH (show cur.length + 1 ≤ 1099511627776 by have h1 := HNL.out; rw [HE.out, List.length_append] at h1; have := HN.out; simp only [List.length_cons, List.length_nil] at h1; omega)
    clear hk
    go_wp2_with (first
     | ((with_reducible refine atDst 31 ?_); refine wpList_load_mid rfl 46 _ rfl b (off + j * 6) rfl (f j) _ HRG.out Tryz.underlying46 rfl (size_rx HV6.out) ?_; (try simp only [Act.put, qA, qB, qC]))
     | ((with_reducible refine atDst 32 ?_); refine wpList_bldT1 rfl 44 46 (.tmp 31) rfl i0 Tryz.underlying44 hi0 HZ1.out hz1 (f j) HV6.out rfl ?_; intro w4 hk4 hb4 hs4; have K4 := qH hk4; have O4 := qH (HO.out.stay hb4); have B4 := qH (HB.out.trans (hb4.mono HB.out.size)); have V4 := qH (RxD.mono ((H4.out j u HU.out).keep (HB.out.trans (hb4.mono HB.out.size)) HD.out) (D' := fun k => D k ∧ k < w4.heap.size ∧ some k ≠ v1.ownBlock) fun k hk => ⟨hk, by have h1 := HB.out.size; have h2 := hb4.size; have h3 := HD.out k hk; omega, fun he => by have h1 := HO.out.ge k he.symm; have h3 := HD.out k hk; omega⟩); clear hk4 hb4 hs4; (try simp only [Act.put, qA, qB, qC]))
     | ((with_reducible refine atDst 33 ?_); refine wpList_appT (D := D) (base := w.heap.size) rfl (.tmp 27) (.tmp 32) rfl i0 hi0 HZ1.out hz1 hz2 v1 _ rfl O4.out wr.heap.size 1 46 (f j) u rfl K4.out V4.out HLE.out B4.out.size ?_; intro v5 w5 ho5 hg5; have O5 := qH ho5; have B5 := qH (B4.out.grown hg5 B4.out.size (fun q hq => O4.out.ge q hq)); clear ho5 hg5; (try simp only [Act.put, qA, qB, qC])))
    refine ⟨⟨_, j + 1, rfl, HJ2.out, by congr 1, by rw [HE.out]; exact O5.out, B5.out⟩, by simpa [intOf] using HJ1.out⟩
  ·obtain rfl : j = l.length := by omega
   have j1 : ¬ ((l.length : Int) < (l.length : Int)) := by omega
   have ho := HO.out
   rw [List.take_length] at ho
   have O9 := qH ho
   clear ho
   go_wp2_with fail
   go_ret
   exact ⟨_, rfl, O9.out, HB.out⟩
set_option maxHeartbeats 2000000 in
set_option maxRecDepth 100000 in
theorem refEqual_any (t u : T) (hM : t.nodes ≤ 1099511627776) (cs ds : List Value) (w : World) (hv : RxV w.heap.size w cs t) (hv' : RxV w.heap.size w ds u) :
  Calls Tryz.prog 101 #[.agg cs.toArray, .agg ds.toArray] w fun e w' => e = .returned (.bool (cmpT t u == 0)) ∧ Below w.heap.size w w' := by
 have V := qH hv
 have V' := qH hv'
 have HC6 := qH hv.length
 have HD6 := qH hv'.length
 have HM := qH hM
 clear hv hv' hM
 go_enter Tryz.func101, Tryz.ntmps101
 go_wp2_with (first
  | ((with_reducible refine atDst 2 ?_); refine wpList_box rfl 46 _ rfl cs rfl (Below.refl w.heap.size w) (Nat.le_refl _) ?_; intro w1 hk1 hb1 hs1 _; have K1 := qH hk1; have B1 := qH hb1; clear hk1 hb1 hs1)
  | ((with_reducible refine atDst 3 ?_); refine wpList_box rfl 46 _ rfl ds rfl B1.out B1.out.size ?_; intro w2 hk2 hb2 hs2 ho2; have L2 := qH hk2; have B2 := qH hb2; have K2 := qH (show Blk w2 w.heap.size 46 cs from (ho2 _ K1.out.lt).trans K1.out); clear hk2 hb2 hs2 ho2)
  | ((with_reducible refine atDst 5 ?_); refine wpList_ldArr rfl 46 _ rfl w.heap.size rfl 46 _ _ K2.out Tryz.underlying46 rfl (size_rx HC6.out) ?_)
  | ((with_reducible refine atDst 6 ?_); refine wpList_ldArr rfl 46 _ rfl w1.heap.size rfl 46 _ _ L2.out Tryz.underlying46 rfl (size_rx HD6.out) ?_))
 refine (refCompare_any _ t u (Nat.le_refl _) HM.out cs ds w2 ((V.out.stay B2.out).mono B2.out.size) ((V'.out.stay B2.out).mono B2.out.size)).mono ?_
 rintro e w3 ⟨rfl, hb3⟩
 have B3 := qH (B2.out.trans (hb3.mono B2.out.size))
 clear hb3
 go_wp2_with fail
 go_ret
 exact ⟨rfl, B3.out⟩
theorem OwnT.low {D : Nat → Prop} {base base' : Nat} {w : World} {v : Value} {l : List T} (h : OwnT D base w v l) (hb : base' ≤ base) : OwnT D base' w v l := by
 obtain ⟨cells, h1, h2, h3, h4⟩ := h
 refine ⟨cells, h1, h2, ⟨h3.1, ?_⟩, h4⟩
 rcases h3.2 with h0 | ⟨g, cap, cur, rfl, hb2, h5⟩
 ·exact .inl h0
 ·exact .inr ⟨g, cap, cur, rfl, Nat.le_trans hb hb2, h5⟩
theorem insT_at (r : T) : ∀ (l : List T) (k : Nat), (∀ i, i < k → cmpT (nthT l i) r < 0) → k ≤ l.length → (k < l.length → ¬ cmpT (nthT l k) r < 0) →
  insT r l = if k < l.length ∧ cmpT (nthT l k) r = 0 then l else l.take k ++ [r] ++ l.drop k
 | [], k, _, hk, _ => by
  have : k = 0 := by simpa using hk
  subst this
  simp [insT]
 | a :: l, 0, _, _, hn => by
  have h1 : ¬ cmpT a r < 0 := hn (by simp)
  simp only [insT]
  rw [if_neg h1]
  by_cases h2 : cmpT a r = 0
  ·rw [if_pos h2, if_pos ⟨by simp, h2⟩]
  ·rw [if_neg h2, if_neg (fun h => h2 h.2)]
   simp
 | a :: l, k + 1, hb, hk, hn => by
  have h1 : cmpT a r < 0 := hb 0 (by omega)
  have ih := insT_at r l k (fun i hi => hb (i + 1) (by omega)) (by simpa using hk) (fun h => hn (by simpa using h))
  simp only [insT]
  rw [if_pos h1, ih]
  have e : nthT (a :: l) (k + 1) = nthT l k := rfl
  rw [e]
  by_cases h2 : k < l.length ∧ cmpT (nthT l k) r = 0
  ·rw [if_pos h2, if_pos ⟨by simpa using h2.1, h2.2⟩]
  ·rw [if_neg h2, if_neg (fun h => h2 ⟨by simpa using h.1, h.2⟩)]
   simp
set_option maxHeartbeats 8000000 in
set_option maxRecDepth 100000 in
theorem refInsert_nil (r : T) (rs : List Value) (w : World) {D : Nat → Prop} (hD : ∀ k, D k → k < w.heap.size) (hv : RxD D w rs r) :
  Calls Tryz.prog 85 #[.slice none 0 0, .agg rs.toArray] w fun e w' => ∃ v', e = .returned v' ∧ RowD (fun k => D k ∨ (w.heap.size ≤ k ∧ k < w'.heap.size)) w' v' (insT r []) ∧ Below w.heap.size w w' := by
 have HV := qH hv
 have HD := qH hD
 have HR6 := qH hv.length
 obtain ⟨i0, hi0, hz0, hz1, hz2⟩ := inf_rx'
 have HZ1 := qH hz0
 have HINS := qH (show insT r [] = [] ++ [r] ++ [] from rfl)
 have HL1 := qH (show (([] : List T)).length ≤ 1099511627776 by simp)
 have HL2 := qH (show (([] : List T)).length + 1 ≤ 1099511627776 by simp)
 have HL3 := qH (show (([] : List T) ++ [r]).length + ([] : List T).length ≤ 1099511627776 by simp)
 clear hv hD hz0
 go_enter Tryz.func85, Tryz.ntmps85
 go_wp2_with ((with_reducible refine atDst 3 ?_); refine wpList_box rfl 46 _ rfl rs rfl (Below.refl w.heap.size w) (Nat.le_refl _) ?_; intro w1 hk1 hb1 hs1 _; have K1 := qH hk1; have B1 := qH hb1; clear hk1 hb1 hs1; (try simp only [Act.put, qA, qB, qC]))
 go_loopw [5] (fun i wl => i = .int .i64 0 ∧ wl = w1) (fun i _ => 0)
 case atStart => exact ⟨by simp, rfl⟩
 case round =>
  obtain ⟨rfl, rfl⟩ := hrel
  go_wp2_with fail
  refine sx_startB (B := wr.heap.size) (w0 := wr) (by kernel_rfl) (Below.refl _ _) (fun wd hwd hX => ?_)
  clear hwd
  refine sx_take (i := 0) (oi := ⟨some 6, _, _, _, _, _⟩) (v := ?_) rfl (by kernel_rfl) (by kernel_rfl) (by kernel_rfl) (fun _ _ _ h => h) rfl hX ?_ ?_; rotate_left; (intro W hW; go_simp; try with_reducible rfl); simp only [Act.put, qA, qB, qC]
  refine sx_take (i := 1) (oi := ⟨some 7, _, _, _, _, _⟩) (v := ?_) rfl (by kernel_rfl) (by kernel_rfl) (by kernel_rfl) (fun _ _ _ h => h) rfl hX ?_ ?_; rotate_left; (intro W hW; go_simp; try with_reducible rfl); simp only [Act.put, qA, qB, qC]
  refine sx_take (i := 2) (oi := ⟨some 8, _, _, _, _, _⟩) (v := ?_) rfl (by kernel_rfl) (by kernel_rfl) (by kernel_rfl) (fun _ _ _ h => h) rfl hX ?_ ?_; rotate_left; (intro W hW; go_simp; try with_reducible rfl); simp only [Act.put, qA, qB, qC]
  refine sx_take (i := 3) (oi := ⟨some 9, _, _, _, _, _⟩) (v := ?_) rfl (by kernel_rfl) (by kernel_rfl) (by kernel_rfl) (fun _ _ _ h => h) rfl hX ?_ ?_; rotate_left; (intro W hW; go_simp; try with_reducible rfl); simp only [Act.put, qA, qB, qC]
  refine sx_take (i := 4) (oi := ⟨some 10, _, _, _, _, _⟩) (v := ?_) rfl (by kernel_rfl) (by kernel_rfl) (by kernel_rfl) (fun _ _ _ h => h) rfl hX ?_ ?_; rotate_left; (intro W hW; go_simp; try with_reducible rfl); simp only [Act.put, qA, qB, qC]
  refine sx_skip (i := 5) (oi := ⟨some 11, _, _, _, _, _⟩) rfl (by kernel_rfl) (by kernel_rfl) (by kernel_rfl) (fun _ _ _ h => h) rfl hX ?_; simp only [Act.put, qA, qB, qC]
  refine sx_skip (i := 6) (oi := ⟨some 12, _, _, _, _, _⟩) rfl (by kernel_rfl) (by kernel_rfl) (by kernel_rfl) (fun _ _ _ h => h) rfl hX ?_; simp only [Act.put, qA, qB, qC]
  refine sx_skip (i := 7) (oi := ⟨some 13, _, _, _, _, _⟩) rfl (by kernel_rfl) (by kernel_rfl) (by kernel_rfl) (fun _ _ _ h => h) rfl hX ?_; simp only [Act.put, qA, qB, qC]
  refine sx_skip (i := 8) (oi := ⟨some 14, _, _, _, _, _⟩) rfl (by kernel_rfl) (by kernel_rfl) (by kernel_rfl) (fun _ _ _ h => h) rfl hX ?_; simp only [Act.put, qA, qB, qC]
  refine sx_skip (i := 9) (oi := ⟨some 15, _, _, _, _, _⟩) rfl (by kernel_rfl) (by kernel_rfl) (by kernel_rfl) (fun _ _ _ h => h) rfl hX ?_; simp only [Act.put, qA, qB, qC]
  refine sx_skip (i := 10) (oi := ⟨some 16, _, _, _, _, _⟩) rfl (by kernel_rfl) (by kernel_rfl) (by kernel_rfl) (fun _ _ _ h => h) rfl hX ?_; simp only [Act.put, qA, qB, qC]
  refine sx_skip (i := 11) (oi := ⟨some 17, _, _, _, _, _⟩) rfl (by kernel_rfl) (by kernel_rfl) (by kernel_rfl) (fun _ _ _ h => h) rfl hX ?_; simp only [Act.put, qA, qB, qC]
  refine sx_take (i := 12) (oi := ⟨some 18, _, _, _, _, _⟩) (v := ?_) rfl (by kernel_rfl) (by kernel_rfl) (by kernel_rfl) (fun _ _ _ h => h) rfl hX ?_ ?_; rotate_left; (intro W hW; go_simp; try with_reducible rfl); simp only [Act.put, qA, qB, qC]
  refine wpAnyH_done (by kernel_rfl) ?_ _
  have Ba := qH (B1.out.trans (hX.mono B1.out.size))
  have Ka := qH (K1.out.below hX K1.out.lt)
  clear hX
  obtain ⟨wa, hwa⟩ : ∃ wa, wa = wd := ⟨_, rfl⟩
  subst hwa
  go_wp2_with fail
  refine sx_startB (B := wa.heap.size) (w0 := wa) (by kernel_rfl) (Below.refl _ _) (fun wd hwd hX => ?_)
  clear hwd
  refine sx_take (i := 0) (oi := ⟨some 21, _, _, _, _, _⟩) (v := ?_) rfl (by kernel_rfl) (by kernel_rfl) (by kernel_rfl) (fun _ _ _ h => h) rfl hX ?_ ?_; rotate_left; (intro W hW; go_simp; try with_reducible rfl); simp only [Act.put, qA, qB, qC]
  refine sx_take (i := 1) (oi := ⟨some 22, _, _, _, _, _⟩) (v := ?_) rfl (by kernel_rfl) (by kernel_rfl) (by kernel_rfl) (fun _ _ _ h => h) rfl hX ?_ ?_; rotate_left; (intro W hW; go_simp; try with_reducible rfl); simp only [Act.put, qA, qB, qC]
  refine sx_take (i := 2) (oi := ⟨some 23, _, _, _, _, _⟩) (v := ?_) rfl (by kernel_rfl) (by kernel_rfl) (by kernel_rfl) (fun _ _ _ h => h) rfl hX ?_ ?_; rotate_left; (intro W hW; go_simp; try with_reducible rfl); simp only [Act.put, qA, qB, qC]
  refine sx_take (i := 3) (oi := ⟨some 24, _, _, _, _, _⟩) (v := ?_) rfl (by kernel_rfl) (by kernel_rfl) (by kernel_rfl) (fun _ _ _ h => h) rfl hX ?_ ?_; rotate_left; (intro W hW; go_simp; try with_reducible rfl); simp only [Act.put, qA, qB, qC]
  refine sx_take (i := 4) (oi := ⟨some 25, _, _, _, _, _⟩) (v := ?_) rfl (by kernel_rfl) (by kernel_rfl) (by kernel_rfl) (fun _ _ _ h => h) rfl hX ?_ ?_; rotate_left; (intro W hW; go_simp; try with_reducible rfl); simp only [Act.put, qA, qB, qC]
  refine sx_skip (i := 5) (oi := ⟨some 26, _, _, _, _, _⟩) rfl (by kernel_rfl) (by kernel_rfl) (by kernel_rfl) (fun _ _ _ h => h) rfl hX ?_; simp only [Act.put, qA, qB, qC]
  refine sx_skip (i := 6) (oi := ⟨some 27, _, _, _, _, _⟩) rfl (by kernel_rfl) (by kernel_rfl) (by kernel_rfl) (fun _ _ _ h => h) rfl hX ?_; simp only [Act.put, qA, qB, qC]
  refine sx_skip (i := 7) (oi := ⟨some 28, _, _, _, _, _⟩) rfl (by kernel_rfl) (by kernel_rfl) (by kernel_rfl) (fun _ _ _ h => h) rfl hX ?_; simp only [Act.put, qA, qB, qC]
  refine sx_skip (i := 8) (oi := ⟨some 29, _, _, _, _, _⟩) rfl (by kernel_rfl) (by kernel_rfl) (by kernel_rfl) (fun _ _ _ h => h) rfl hX ?_; simp only [Act.put, qA, qB, qC]
  refine sx_skip (i := 9) (oi := ⟨some 30, _, _, _, _, _⟩) rfl (by kernel_rfl) (by kernel_rfl) (by kernel_rfl) (fun _ _ _ h => h) rfl hX ?_; simp only [Act.put, qA, qB, qC]
  refine sx_skip (i := 10) (oi := ⟨some 31, _, _, _, _, _⟩) rfl (by kernel_rfl) (by kernel_rfl) (by kernel_rfl) (fun _ _ _ h => h) rfl hX ?_; simp only [Act.put, qA, qB, qC]
  refine sx_take (i := 11) (oi := ⟨some 32, _, _, _, _, _⟩) (v := ?_) rfl (by kernel_rfl) (by kernel_rfl) (by kernel_rfl) (fun _ _ _ h => h) rfl hX ?_ ?_; rotate_left; (intro W hW; go_simp; try with_reducible rfl); simp only [Act.put, qA, qB, qC]
  refine wpAnyH_done (by kernel_rfl) ?_ _
  have Bb := qH (Ba.out.trans (hX.mono Ba.out.size))
  have KW := qH (Ka.out.below hX Ka.out.lt)
  clear hX
  obtain ⟨wb, hwb⟩ : ∃ wb, wb = wd := ⟨_, rfl⟩
  subst hwb
  have HVR := qH (HV.out.keep Bb.out HD.out)
  have PR := qH (show RowD D wb (.slice none 0 0) [] from ⟨none, 0, fun _ => [], rfl, Nat.le_refl _, Nat.zero_le _, fun _ => rfl, fun h => absurd rfl h, fun i t h => by simp at h⟩)
  go_wp2_with fail
  have HDW := qH (fun k (hk : D k) => Nat.lt_of_lt_of_le (HD.out k hk) Bb.out.size)
  refine sx_startB (B := wb.heap.size) (w0 := wb) (by kernel_rfl) (Below.refl _ _) (fun wd hwd hX => ?_)
  have SZ := qH hX.size
  clear hwd
  refine sx_take (i := 1) (oi := ⟨some 35, _, _, _, _, _⟩) (v := ?_) rfl (by kernel_rfl) (by kernel_rfl) (by kernel_rfl) (fun _ _ _ h => h) rfl hX ?_ ?_; rotate_left; (intro W hW; go_simp; try with_reducible rfl); simp only [Act.put, qA, qB, qC]
  refine sx_take (i := 2) (oi := ⟨some 36, _, _, _, _, _⟩) (v := ?_) rfl (by kernel_rfl) (by kernel_rfl) (by kernel_rfl) (fun _ _ _ h => h) rfl hX ?_ ?_; rotate_left; (intro W hW; go_simp; try with_reducible rfl); simp only [Act.put, qA, qB, qC]
  refine sx_take (i := 3) (oi := ⟨some 37, _, _, _, _, _⟩) (v := ?_) rfl (by kernel_rfl) (by kernel_rfl) (by kernel_rfl) (fun _ _ _ h => h) rfl hX ?_ ?_; rotate_left; (intro W hW; go_simp; try with_reducible rfl); simp only [Act.put, qA, qB, qC]
  refine sx_take (i := 5) (oi := ⟨some 39, _, _, _, _, _⟩) (v := .agg rs.toArray) rfl (by kernel_rfl) (by kernel_rfl) (by kernel_rfl) (fun _ _ _ h => h) rfl hX (ld_blk 46 _ rfl w.heap.size rfl 46 _ _ KW.out KW.out.lt Tryz.underlying46 rfl (size_rx HR6.out)) ?_; simp only [Act.put, qA, qB, qC]
  refine sx_take (i := 8) (oi := ⟨some 42, _, _, _, _, _⟩) (v := ?_) rfl (by kernel_rfl) (by kernel_rfl) (by kernel_rfl) (fun _ _ _ h => h) rfl hX ?_ ?_; rotate_left; (intro W hW; go_simp; try with_reducible rfl); simp only [Act.put, qA, qB, qC]
  refine sx_take (i := 9) (oi := ⟨some 43, _, _, _, _, _⟩) (v := ?_) rfl (by kernel_rfl) (by kernel_rfl) (by kernel_rfl) (fun _ _ _ h => h) rfl hX ?_ ?_; rotate_left; (intro W hW; go_simp; try with_reducible rfl); simp only [Act.put, qA, qB, qC]
  refine sx_take (i := 10) (oi := ⟨some 44, _, _, _, _, _⟩) (v := ?_) rfl (by kernel_rfl) (by kernel_rfl) (by kernel_rfl) (fun _ _ _ h => h) rfl hX ?_ ?_; rotate_left; (intro W hW; go_simp; try first | with_reducible rfl | (simp only [if_neg hck]; with_reducible rfl)); simp only [Act.put, qA, qB, qC]
  refine sx_two (i := 0) (j := 6) (oi := ⟨some 34, _, _, _, _, _⟩) (oj := ⟨some 40, _, _, _, _, _⟩) rfl rfl (by kernel_rfl) rfl rfl hX (fun K hK => ?_) (fun K hK => ?_)
  focus
   refine wp_bldT0 rfl ?_
   intro v34 w34 ho34 hb34
   have O34 := qH (ho34 D)
   refine hK _ _ (hb34.mono SZ.out) ?_
   clear hK K
   replace hX := hX.trans (hb34.mono SZ.out)
   have S34 := qH (Nat.le_trans SZ.out hb34.size)
   clear ho34
   have O := qH (O34.out.low SZ.out)
   refine sx_two (i := 4) (j := 6) (oi := ⟨some 38, _, _, _, _, _⟩) (oj := ⟨some 40, _, _, _, _, _⟩) rfl rfl (by kernel_rfl) rfl rfl hX (fun K hK => ?_) (fun K hK => ?_)
   focus
    refine wp_appTs (D := D) (D' := D) (base := wb.heap.size) (.tmp 34) (.tmp 37) rfl i0 hi0 HZ1.out hz1 hz2 v34 [] rfl O.out _ [] rfl (PR.out.keep hX HDW.out) (fun q hq => ⟨hq, Nat.lt_of_lt_of_le (HDW.out q hq) hX.size, fun he => by have h1 := O.out.ge q he.symm; have h2 := HDW.out q hq; omega⟩) (by have h1 := HL1.out; rw [List.length_nil]; omega) hX.size ?_
    intro v38 w38 ho38 hg38
    have B38 := qH ((Below.refl wb.heap.size w34).grown hg38 hX.size (fun q hq => O.out.ge q hq))
    refine hK _ _ B38.out ?_
    clear hK K
    replace hX := hX.trans B38.out
    have O38 := qH (show OwnT D wb.heap.size w38 v38 [] by have h1 := ho38; rwa [List.nil_append] at h1)
    refine sx_actB (i := 6) (o := ⟨some 40, _, _, _, _, _⟩) rfl (by kernel_rfl) rfl hX (fun K hK => ?_)
    refine wp_bldT1 44 46 (.tmp 39) rfl i0 Tryz.underlying44 hi0 HZ1.out hz1 rs HR6.out rfl ?_
    intro w40 hk40 hb40 hs40
    refine hK _ _ (hb40.mono hX.size) ?_
    clear hK K
    replace hX := hX.trans (hb40.mono hX.size)
    have K40 := qH hk40
    have O41 := qH (O38.out.stay hb40)
    have K41 := qH hk40
    obtain ⟨WW, hWW⟩ : ∃ WW, WW = w40 := ⟨_, rfl⟩
    subst hWW
   rotate_left
   focus
    refine wp_bldT1 44 46 (.tmp 39) rfl i0 Tryz.underlying44 hi0 HZ1.out hz1 rs HR6.out rfl ?_
    intro w40 hk40 hb40 hs40
    refine hK _ _ (hb40.mono hX.size) ?_
    clear hK K
    replace hX := hX.trans (hb40.mono hX.size)
    have K40 := qH hk40
    have O := qH (O.out.stay hb40)
    have LT34 := qH (fun q (hq : v34.ownBlock = some q) => O34.out.lt q hq)
    refine sx_actB (i := 4) (o := ⟨some 38, _, _, _, _, _⟩) rfl (by kernel_rfl) rfl hX (fun K hK => ?_)
    refine wp_appTs (D := D) (D' := D) (base := wb.heap.size) (.tmp 34) (.tmp 37) rfl i0 hi0 HZ1.out hz1 hz2 v34 [] rfl O.out _ [] rfl (PR.out.keep hX HDW.out) (fun q hq => ⟨hq, Nat.lt_of_lt_of_le (HDW.out q hq) hX.size, fun he => by have h1 := O.out.ge q he.symm; have h2 := HDW.out q hq; omega⟩) (by have h1 := HL1.out; rw [List.length_nil]; omega) hX.size ?_
    intro v38 w38 ho38 hg38
    have B38 := qH ((Below.refl wb.heap.size w40).grown hg38 hX.size (fun q hq => O.out.ge q hq))
    refine hK _ _ B38.out ?_
    clear hK K
    replace hX := hX.trans B38.out
    have O38 := qH (show OwnT D wb.heap.size w38 v38 [] by have h1 := ho38; rwa [List.nil_append] at h1)
    have K41 := qH ((hg38.block _ K40.out.lt (fun e => by have h1 := LT34.out _ e.symm; omega)).trans K40.out)
    have O41 := O38
    obtain ⟨WW, hWW⟩ : ∃ WW, WW = w38 := ⟨_, rfl⟩
    subst hWW
   rotate_left
  rotate_left
  rotate_left
  focus
   refine wp_bldT1 44 46 (.tmp 39) rfl i0 Tryz.underlying44 hi0 HZ1.out hz1 rs HR6.out rfl ?_
   intro w40 hk40 hb40 hs40
   refine hK _ _ (hb40.mono SZ.out) ?_
   clear hK K
   replace hX := hX.trans (hb40.mono SZ.out)
   have K40 := qH hk40
   have SZ' := qH (Nat.le_trans SZ.out hb40.size)
   refine sx_actB (i := 0) (o := ⟨some 34, _, _, _, _, _⟩) rfl (by kernel_rfl) rfl hX (fun K hK => ?_)
   refine wp_bldT0 rfl ?_
   intro v34 w34 ho34 hb34
   have O34 := qH (ho34 D)
   refine hK _ _ (hb34.mono SZ'.out) ?_
   clear hK K
   replace hX := hX.trans (hb34.mono SZ'.out)
   have S34 := qH (Nat.le_trans SZ'.out hb34.size)
   clear ho34
   have O := qH (O34.out.low SZ'.out)
   have GE34 := qH (fun q (hq : v34.ownBlock = some q) => O34.out.ge q hq)
   have K41' := qH (K40.out.below hb34 K40.out.lt)
   have LT40 := qH K40.out.lt
   refine sx_actB (i := 4) (o := ⟨some 38, _, _, _, _, _⟩) rfl (by kernel_rfl) rfl hX (fun K hK => ?_)
   refine wp_appTs (D := D) (D' := D) (base := wb.heap.size) (.tmp 34) (.tmp 37) rfl i0 hi0 HZ1.out hz1 hz2 v34 [] rfl O.out _ [] rfl (PR.out.keep hX HDW.out) (fun q hq => ⟨hq, Nat.lt_of_lt_of_le (HDW.out q hq) hX.size, fun he => by have h1 := O.out.ge q he.symm; have h2 := HDW.out q hq; omega⟩) (by have h1 := HL1.out; rw [List.length_nil]; omega) hX.size ?_
   intro v38 w38 ho38 hg38
   have B38 := qH ((Below.refl wb.heap.size w34).grown hg38 hX.size (fun q hq => O.out.ge q hq))
   refine hK _ _ B38.out ?_
   clear hK K
   replace hX := hX.trans B38.out
   have O38 := qH (show OwnT D wb.heap.size w38 v38 [] by have h1 := ho38; rwa [List.nil_append] at h1)
   have K41 := qH ((hg38.block _ K41'.out.lt (fun e => by have h1 := GE34.out _ e.symm; have h2 := LT40.out; omega)).trans K41'.out)
   have O41 := O38
   obtain ⟨WW, hWW⟩ : ∃ WW, WW = w38 := ⟨_, rfl⟩
   subst hWW
  all_goals
   refine sx_actB (i := 7) (o := ⟨some 41, _, _, _, _, _⟩) rfl (by kernel_rfl) rfl hX (fun K hK => ?_)
   have V41 := qH (RxD.mono (HVR.out.keep hX HDW.out) (D' := fun k => D k ∧ k < WW.heap.size ∧ some k ≠ v38.ownBlock) fun k hk => ⟨hk, Nat.lt_of_lt_of_le (HDW.out k hk) hX.size, fun he => by have h1 := O41.out.ge k he.symm; have h2 := HDW.out k hk; omega⟩)
   refine wp_appT (D := D) (base := wb.heap.size) (.tmp 38) (.tmp 40) rfl i0 hi0 HZ1.out hz1 hz2 v38 _ rfl O41.out _ 1 46 rs r rfl K41.out V41.out HL2.out hX.size ?_
   intro v42 w42 ho42 hg42
   have B42 := qH ((Below.refl wb.heap.size WW).grown hg42 hX.size (fun q hq => O41.out.ge q hq))
   refine hK _ _ B42.out ?_
   clear hK K
   replace hX := hX.trans B42.out
   have O42 := qH ho42
   clear ho42 hg42
   refine sx_actB (i := 11) (o := ⟨some 45, _, _, _, _, _⟩) rfl (by kernel_rfl) rfl hX (fun K hK => ?_)
   refine wp_appTs (D := D) (D' := D) (base := wb.heap.size) (.tmp 41) (.tmp 44) rfl i0 hi0 HZ1.out hz1 hz2 v42 _ rfl O42.out _ [] rfl (PR.out.keep hX HDW.out) (fun q hq => ⟨hq, Nat.lt_of_lt_of_le (HDW.out q hq) hX.size, fun he => by have h1 := O42.out.ge q he.symm; have h2 := HDW.out q hq; omega⟩) HL3.out hX.size ?_
   intro v45 w45 ho45 hg45
   have B45 := qH ((Below.refl wb.heap.size w42).grown hg45 hX.size (fun q hq => O42.out.ge q hq))
   refine hK _ _ B45.out ?_
   clear hK K
   replace hX := hX.trans B45.out
   have O45 := qH ho45
   clear ho45 hg45
   refine sx_take (i := 12) (oi := ⟨some 4, _, _, _, _, _⟩) (v := ?_) rfl (by kernel_rfl) (by kernel_rfl) (by kernel_rfl) (fun _ _ _ h => h) rfl hX ?_ ?_; rotate_left; (intro W hW; go_simp; try with_reducible rfl); simp only [Act.put, qA, qB, qC]
   refine wpAnyH_done (by kernel_rfl) ?_ _
   have B9 := qH (Bb.out.trans (hX.mono Bb.out.size))
   go_wp2_with fail
   go_ret
   refine ⟨_, rfl, ?_, B9.out⟩
   rw [HINS.out]
   exact O45.out.rowD.mono fun k hk => by have h1 := Bb.out.size; rcases hk.1 with h | h; exact .inl h; exact .inr ⟨Nat.le_trans h1 h, hk.2⟩
end Go.Proofs.YteadghoojeehlaaGreatDoor
