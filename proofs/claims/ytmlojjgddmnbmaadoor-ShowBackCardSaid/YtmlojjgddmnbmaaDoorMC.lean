/-
  Texts of this proof, put together: (RxR) What the document's answer to rx (flat, Equal, insert) answers and leaves. No statement is proved here. (RxRi) What the document's answer to rx (insert) answers and leaves. No statement is proved here. (RxX) What the document's answer to rx (Cat) answers and leaves. No statement is proved here. (RxY) What the document's answer to rx (Alt) answers and leaves. No statement is proved here. (RxZ) What the document's answer to rx (Star) answers and leaves. No statement is proved here.
-/
import Derived.Test.YtmlojjgddmnbmaaDoorMB
import Derived.Test.YtmlojjgddmnbmaaDoorMA
namespace Go.Proofs.YtmlojjgddmnbmaaDoor
open Go.RowKit
set_option linter.unusedSimpArgs false
set_option linter.unusedVariables false

theorem range_cell0 {w : World} {b o : Nat} {cs : List Value} {v : Value} (h : w.rangeAt b o cs) (h0 : cs[0]? = some v) : w.cell? ⟨b, o, none⟩ = some v := h 0 v h0
theorem range_cell5 {w : World} {b o : Nat} {cs : List Value} {v : Value} (h : w.rangeAt b o cs) (h0 : cs[5]? = some v) : w.cell? ⟨b, o + 5, none⟩ = some v := h 5 v h0
set_option maxHeartbeats 4000000 in
set_option maxRecDepth 100000 in
theorem refFlat_any (k : Int) (l : List T) (v : Value) (w : World) {D : Nat → Prop} (hD : ∀ k, D k → k < w.heap.size) (hr : RowD D w v l) (hn : nodesL l ≤ 549755813888) :
    Calls Tryd.prog 48 #[.int .i64 k, v] w fun e w' => ∃ v', e = .returned v' ∧ OwnT D w.heap.size w' v' (flatT k l) ∧ Below w.heap.size w w' := by
  obtain ⟨A, cap, f, rfl, h1, h2, h0, h3, h4⟩ := hr
  have H3 := Lib.hid h3
  have H4 := Lib.hid h4
  have HD := Lib.hid hD
  have HN := Lib.hid hn
  have HLL := Lib.hid (len_nodes l)
  obtain ⟨i0, hi0, hz0, hz1, hz2⟩ := inf_rx'
  have HZ1 := Lib.hid hz0
  clear h1 h2 h0 h3 h4 hn hz0 hD
  go_enter Tryd.func48, Tryd.ntmps48
  go_wp2_with fail
  go_loopw [5, 6] (fun v i wl => ∃ (v1 : Value) (j : Nat), v1 = v ∧ j ≤ l.length ∧ i = .int .i64 (j : Int) ∧ OwnT D w.heap.size wl v1 (flatT k (l.take j)) ∧ Below w.heap.size w wl) (fun _ i _ => l.length - (intOf i).toNat)
  case atStart => exact ⟨_, 0, rfl, by omega, by simp, OwnT.nil _ _ _, Below.refl _ _⟩
  case round =>
    obtain ⟨v1, j, rfl, hj, rfl, ho, hb⟩ := hrel
    have HO := Lib.hid ho
    have HB := Lib.hid hb
    clear ho hb
    by_cases hjl : j < l.length
    · have j1 : (j : Int) < (l.length : Int) := Int.ofNat_lt.2 hjl
      obtain ⟨b, off, rfl, hb, hrng⟩ := H3.out (by rintro rfl; simp at hjl)
      obtain ⟨u, hu⟩ : ∃ u, l[j]? = some u := ⟨_, List.getElem?_eq_getElem hjl⟩
      have HV := Lib.hid ((H4.out j u hu).keep HB.out HD.out)
      have HRG := Lib.hid (range_below (hrng j hjl) HB.out (HD.out b hb))
      obtain ⟨Au, cu, hsp, hru⟩ := HV.out.split
      have HV6 := Lib.hid HV.out.length
      have a0 := range_cell0 HRG.out (show (f j)[0]? = some (.int .i64 u.kind) by rw [hsp]; rfl)
      have a5 := range_cell5 HRG.out (show (f j)[5]? = some (.slice Au u.args.length cu) by rw [hsp]; rfl)
      have HRU := Lib.hid hru
      have hj62 : j ≤ 4611686018427387904 := by have := HN.out; have := HLL.out; omega
      have e3 := wrap_one j hj62
      have e4 := wrap_one' j hj62
      have HNX := Lib.hid (flatT_next k l j u hu)
      have HNL := Lib.hid (flatT_take k l (j + 1))
      have HJ1 := Lib.hid (show l.length - (j + 1) < l.length - j by omega)
      have HJ2 := Lib.hid (show j + 1 ≤ l.length from hjl)
      obtain ⟨cur, hcur⟩ : ∃ cur, cur = flatT k (l.take j) := ⟨_, rfl⟩
      rw [← hcur] at HO HNX
      have HU := Lib.hid hu
      clear hrng hu hj62 hb hsp hru hcur
      by_cases hk : u.kind = k
      · have hkb : (u.kind == k) = true := by simpa using hk
        have HE := Lib.hid (show flatT k (l.take (j + 1)) = cur ++ u.args by rw [HNX.out, if_pos hk])
        have HLE := Lib.hid (show cur.length + u.args.length ≤ 1099511627776 by have h1 := HNL.out; rw [HE.out, List.length_append] at h1; have := HN.out; omega)
        clear hk
        go_wp2_with ((with_reducible refine atDst 26 ?_); refine wpList_appTs (D := D) (D' := D) (base := w.heap.size) rfl (.tmp 20) (.tmp 25) rfl i0 hi0 HZ1.out hz1 hz2 v1 _ rfl HO.out _ u.args rfl HRU.out (fun q hq => ⟨hq, Nat.lt_of_lt_of_le (HD.out q hq) HB.out.size, fun he => by have := HO.out.ge q he.symm; have := HD.out q hq; omega⟩) HLE.out HB.out.size ?_; intro v5 w5 ho5 hg5; have O5 := Lib.hid ho5; have B5 := Lib.hid (HB.out.grown hg5 HB.out.size (fun q hq => HO.out.ge q hq)); clear ho5 hg5; (try simp only [Act.put, List.setIfInBounds_toArray, List.set_cons_zero, List.set_cons_succ]))
        refine ⟨⟨_, j + 1, rfl, HJ2.out, by congr 1, by rw [HE.out]; exact O5.out, B5.out⟩, by simpa [intOf] using HJ1.out⟩
      · have hkb : (u.kind == k) = false := by simpa using hk
        have HE := Lib.hid (show flatT k (l.take (j + 1)) = cur ++ [u] by rw [HNX.out, if_neg hk])
        have HLE := Lib.hid (show cur.length + 1 ≤ 1099511627776 by have h1 := HNL.out; rw [HE.out, List.length_append] at h1; have := HN.out; simp only [List.length_cons, List.length_nil] at h1; omega)
        clear hk
        go_wp2_with (first
          | ((with_reducible refine atDst 31 ?_); refine wpList_load_mid rfl 27 _ rfl b (off + j * 6) rfl (f j) _ HRG.out Tryd.underlying27 rfl (size_rx HV6.out) ?_; (try simp only [Act.put, List.setIfInBounds_toArray, List.set_cons_zero, List.set_cons_succ]))
          | ((with_reducible refine atDst 32 ?_); refine wpList_bldT1 rfl 25 27 (.tmp 31) rfl i0 Tryd.underlying25 hi0 HZ1.out hz1 (f j) HV6.out rfl ?_; intro w4 hk4 hb4 hs4; have K4 := Lib.hid hk4; have O4 := Lib.hid (HO.out.stay hb4); have B4 := Lib.hid (HB.out.trans (hb4.mono HB.out.size)); have V4 := Lib.hid (RxD.mono ((H4.out j u HU.out).keep (HB.out.trans (hb4.mono HB.out.size)) HD.out) (D' := fun k => D k ∧ k < w4.heap.size ∧ some k ≠ v1.ownBlock) fun k hk => ⟨hk, by have h1 := HB.out.size; have h2 := hb4.size; have h3 := HD.out k hk; omega, fun he => by have h1 := HO.out.ge k he.symm; have h3 := HD.out k hk; omega⟩); clear hk4 hb4 hs4; (try simp only [Act.put, List.setIfInBounds_toArray, List.set_cons_zero, List.set_cons_succ]))
          | ((with_reducible refine atDst 33 ?_); refine wpList_appT (D := D) (base := w.heap.size) rfl (.tmp 27) (.tmp 32) rfl i0 hi0 HZ1.out hz1 hz2 v1 _ rfl O4.out wr.heap.size 1 27 (f j) u rfl K4.out V4.out HLE.out B4.out.size ?_; intro v5 w5 ho5 hg5; have O5 := Lib.hid ho5; have B5 := Lib.hid (B4.out.grown hg5 B4.out.size (fun q hq => O4.out.ge q hq)); clear ho5 hg5; (try simp only [Act.put, List.setIfInBounds_toArray, List.set_cons_zero, List.set_cons_succ])))
        refine ⟨⟨_, j + 1, rfl, HJ2.out, by congr 1, by rw [HE.out]; exact O5.out, B5.out⟩, by simpa [intOf] using HJ1.out⟩
    · obtain rfl : j = l.length := by omega
      have j1 : ¬ ((l.length : Int) < (l.length : Int)) := by omega
      have ho := HO.out
      rw [List.take_length] at ho
      have O9 := Lib.hid ho
      clear ho
      go_wp2_with fail
      go_ret
      exact ⟨_, rfl, O9.out, HB.out⟩
set_option maxHeartbeats 2000000 in
set_option maxRecDepth 100000 in
theorem refEqual_any (t u : T) (hM : t.nodes ≤ 1099511627776) (cs ds : List Value) (w : World) (hv : RxV w.heap.size w cs t) (hv' : RxV w.heap.size w ds u) :
    Calls Tryd.prog 62 #[.agg cs.toArray, .agg ds.toArray] w fun e w' => e = .returned (.bool (cmpT t u == 0)) ∧ Below w.heap.size w w' := by
  have V := Lib.hid hv
  have V' := Lib.hid hv'
  have HC6 := Lib.hid hv.length
  have HD6 := Lib.hid hv'.length
  have HM := Lib.hid hM
  clear hv hv' hM
  go_enter Tryd.func62, Tryd.ntmps62
  go_wp2_with (first
    | ((with_reducible refine atDst 2 ?_); refine wpList_box rfl 27 _ rfl cs rfl (Below.refl w.heap.size w) (Nat.le_refl _) ?_; intro w1 hk1 hb1 hs1 _; have K1 := Lib.hid hk1; have B1 := Lib.hid hb1; clear hk1 hb1 hs1)
    | ((with_reducible refine atDst 3 ?_); refine wpList_box rfl 27 _ rfl ds rfl B1.out B1.out.size ?_; intro w2 hk2 hb2 hs2 ho2; have L2 := Lib.hid hk2; have B2 := Lib.hid hb2; have K2 := Lib.hid (show Blk w2 w.heap.size 27 cs from (ho2 _ K1.out.lt).trans K1.out); clear hk2 hb2 hs2 ho2)
    | ((with_reducible refine atDst 5 ?_); refine wpList_ldArr rfl 27 _ rfl w.heap.size rfl 27 _ _ K2.out Tryd.underlying27 rfl (size_rx HC6.out) ?_)
    | ((with_reducible refine atDst 6 ?_); refine wpList_ldArr rfl 27 _ rfl w1.heap.size rfl 27 _ _ L2.out Tryd.underlying27 rfl (size_rx HD6.out) ?_))
  refine (refCompare_any _ t u (Nat.le_refl _) HM.out cs ds w2 ((V.out.stay B2.out).mono B2.out.size) ((V'.out.stay B2.out).mono B2.out.size)).mono ?_
  rintro e w3 ⟨rfl, hb3⟩
  have B3 := Lib.hid (B2.out.trans (hb3.mono B2.out.size))
  clear hb3
  go_wp2_with fail
  go_ret
  exact ⟨rfl, B3.out⟩
theorem OwnT.low {D : Nat → Prop} {base base' : Nat} {w : World} {v : Value} {l : List T} (h : OwnT D base w v l) (hb : base' ≤ base) : OwnT D base' w v l := by
  obtain ⟨cells, h1, h2, h3, h4⟩ := h
  refine ⟨cells, h1, h2, ⟨h3.1, ?_⟩, h4⟩
  rcases h3.2 with h0 | ⟨g, cap, cur, rfl, hb2, h5⟩
  · exact .inl h0
  · exact .inr ⟨g, cap, cur, rfl, Nat.le_trans hb hb2, h5⟩
/-- Where the first one that is not ahead stands. -/
theorem insT_at (r : T) : ∀ (l : List T) (k : Nat), (∀ i, i < k → cmpT (nthT l i) r < 0) → k ≤ l.length → (k < l.length → ¬ cmpT (nthT l k) r < 0) →
    insT r l = if k < l.length ∧ cmpT (nthT l k) r = 0 then l else l.take k ++ [r] ++ l.drop k
  | [], k, _, hk, _ => by
    have : k = 0 := by simpa using hk
    subst this
    simp [insT]
  | a :: l, 0, _, _, hn => by
    have h1 : ¬ cmpT a r < 0 := hn (by simp)
    simp only [insT]
    rw [if_neg h1]
    by_cases h2 : cmpT a r = 0
    · rw [if_pos h2, if_pos ⟨by simp, h2⟩]
    · rw [if_neg h2, if_neg (fun h => h2 h.2)]
      simp
  | a :: l, k + 1, hb, hk, hn => by
    have h1 : cmpT a r < 0 := hb 0 (by omega)
    have ih := insT_at r l k (fun i hi => hb (i + 1) (by omega)) (by simpa using hk) (fun h => hn (by simpa using h))
    simp only [insT]
    rw [if_pos h1, ih]
    have e : nthT (a :: l) (k + 1) = nthT l k := rfl
    rw [e]
    by_cases h2 : k < l.length ∧ cmpT (nthT l k) r = 0
    · rw [if_pos h2, if_pos ⟨by simpa using h2.1, h2.2⟩]
    · rw [if_neg h2, if_neg (fun h => h2 ⟨by simpa using h.1, h.2⟩)]
      simp
set_option maxHeartbeats 8000000 in
set_option maxRecDepth 100000 in
theorem refInsert_nil (r : T) (rs : List Value) (w : World) {D : Nat → Prop} (hD : ∀ k, D k → k < w.heap.size) (hv : RxD D w rs r) :
    Calls Tryd.prog 50 #[.slice none 0 0, .agg rs.toArray] w fun e w' => ∃ v', e = .returned v' ∧ RowD (fun k => D k ∨ (w.heap.size ≤ k ∧ k < w'.heap.size)) w' v' (insT r []) ∧ Below w.heap.size w w' := by
  have HV := Lib.hid hv
  have HD := Lib.hid hD
  have HR6 := Lib.hid hv.length
  obtain ⟨i0, hi0, hz0, hz1, hz2⟩ := inf_rx'
  have HZ1 := Lib.hid hz0
  have HINS := Lib.hid (show insT r [] = [] ++ [r] ++ [] from rfl)
  have HL1 := Lib.hid (show (([] : List T)).length ≤ 1099511627776 by simp)
  have HL2 := Lib.hid (show (([] : List T)).length + 1 ≤ 1099511627776 by simp)
  have HL3 := Lib.hid (show (([] : List T) ++ [r]).length + ([] : List T).length ≤ 1099511627776 by simp)
  clear hv hD hz0
  go_enter Tryd.func50, Tryd.ntmps50
  go_wp2_with ((with_reducible refine atDst 3 ?_); refine wpList_box rfl 27 _ rfl rs rfl (Below.refl w.heap.size w) (Nat.le_refl _) ?_; intro w1 hk1 hb1 hs1 _; have K1 := Lib.hid hk1; have B1 := Lib.hid hb1; clear hk1 hb1 hs1; (try simp only [Act.put, List.setIfInBounds_toArray, List.set_cons_zero, List.set_cons_succ]))
  go_loopw [5] (fun i wl => i = .int .i64 0 ∧ wl = w1) (fun i _ => 0)
  case atStart => exact ⟨by simp, rfl⟩
  case round =>
    obtain ⟨rfl, rfl⟩ := hrel
    go_wp2_with fail
    refine sx_startB (B := wr.heap.size) (w0 := wr) (by kernel_rfl) (Below.refl _ _) (fun wd hwd hX => ?_)
    clear hwd
    refine sx_take (i := 0) (oi := ⟨some 6, _, _, _, _, _⟩) (v := ?_) rfl (by kernel_rfl) (by kernel_rfl) (by kernel_rfl) (fun _ _ _ h => h) rfl hX ?_ ?_; rotate_left; (intro W hW; go_simp; try with_reducible rfl); simp only [Act.put, List.setIfInBounds_toArray, List.set_cons_zero, List.set_cons_succ]
    refine sx_take (i := 1) (oi := ⟨some 7, _, _, _, _, _⟩) (v := ?_) rfl (by kernel_rfl) (by kernel_rfl) (by kernel_rfl) (fun _ _ _ h => h) rfl hX ?_ ?_; rotate_left; (intro W hW; go_simp; try with_reducible rfl); simp only [Act.put, List.setIfInBounds_toArray, List.set_cons_zero, List.set_cons_succ]
    refine sx_take (i := 2) (oi := ⟨some 8, _, _, _, _, _⟩) (v := ?_) rfl (by kernel_rfl) (by kernel_rfl) (by kernel_rfl) (fun _ _ _ h => h) rfl hX ?_ ?_; rotate_left; (intro W hW; go_simp; try with_reducible rfl); simp only [Act.put, List.setIfInBounds_toArray, List.set_cons_zero, List.set_cons_succ]
    refine sx_take (i := 3) (oi := ⟨some 9, _, _, _, _, _⟩) (v := ?_) rfl (by kernel_rfl) (by kernel_rfl) (by kernel_rfl) (fun _ _ _ h => h) rfl hX ?_ ?_; rotate_left; (intro W hW; go_simp; try with_reducible rfl); simp only [Act.put, List.setIfInBounds_toArray, List.set_cons_zero, List.set_cons_succ]
    refine sx_take (i := 4) (oi := ⟨some 10, _, _, _, _, _⟩) (v := ?_) rfl (by kernel_rfl) (by kernel_rfl) (by kernel_rfl) (fun _ _ _ h => h) rfl hX ?_ ?_; rotate_left; (intro W hW; go_simp; try with_reducible rfl); simp only [Act.put, List.setIfInBounds_toArray, List.set_cons_zero, List.set_cons_succ]
    refine sx_skip (i := 5) (oi := ⟨some 11, _, _, _, _, _⟩) rfl (by kernel_rfl) (by kernel_rfl) (by kernel_rfl) (fun _ _ _ h => h) rfl hX ?_; simp only [Act.put, List.setIfInBounds_toArray, List.set_cons_zero, List.set_cons_succ]
    refine sx_skip (i := 6) (oi := ⟨some 12, _, _, _, _, _⟩) rfl (by kernel_rfl) (by kernel_rfl) (by kernel_rfl) (fun _ _ _ h => h) rfl hX ?_; simp only [Act.put, List.setIfInBounds_toArray, List.set_cons_zero, List.set_cons_succ]
    refine sx_skip (i := 7) (oi := ⟨some 13, _, _, _, _, _⟩) rfl (by kernel_rfl) (by kernel_rfl) (by kernel_rfl) (fun _ _ _ h => h) rfl hX ?_; simp only [Act.put, List.setIfInBounds_toArray, List.set_cons_zero, List.set_cons_succ]
    refine sx_skip (i := 8) (oi := ⟨some 14, _, _, _, _, _⟩) rfl (by kernel_rfl) (by kernel_rfl) (by kernel_rfl) (fun _ _ _ h => h) rfl hX ?_; simp only [Act.put, List.setIfInBounds_toArray, List.set_cons_zero, List.set_cons_succ]
    refine sx_skip (i := 9) (oi := ⟨some 15, _, _, _, _, _⟩) rfl (by kernel_rfl) (by kernel_rfl) (by kernel_rfl) (fun _ _ _ h => h) rfl hX ?_; simp only [Act.put, List.setIfInBounds_toArray, List.set_cons_zero, List.set_cons_succ]
    refine sx_skip (i := 10) (oi := ⟨some 16, _, _, _, _, _⟩) rfl (by kernel_rfl) (by kernel_rfl) (by kernel_rfl) (fun _ _ _ h => h) rfl hX ?_; simp only [Act.put, List.setIfInBounds_toArray, List.set_cons_zero, List.set_cons_succ]
    refine sx_skip (i := 11) (oi := ⟨some 17, _, _, _, _, _⟩) rfl (by kernel_rfl) (by kernel_rfl) (by kernel_rfl) (fun _ _ _ h => h) rfl hX ?_; simp only [Act.put, List.setIfInBounds_toArray, List.set_cons_zero, List.set_cons_succ]
    refine sx_take (i := 12) (oi := ⟨some 18, _, _, _, _, _⟩) (v := ?_) rfl (by kernel_rfl) (by kernel_rfl) (by kernel_rfl) (fun _ _ _ h => h) rfl hX ?_ ?_; rotate_left; (intro W hW; go_simp; try with_reducible rfl); simp only [Act.put, List.setIfInBounds_toArray, List.set_cons_zero, List.set_cons_succ]
    refine wpAnyH_done (by kernel_rfl) ?_ _
    have Ba := Lib.hid (B1.out.trans (hX.mono B1.out.size))
    have Ka := Lib.hid (K1.out.below hX K1.out.lt)
    clear hX
    obtain ⟨wa, hwa⟩ : ∃ wa, wa = wd := ⟨_, rfl⟩
    subst hwa
    go_wp2_with fail
    refine sx_startB (B := wa.heap.size) (w0 := wa) (by kernel_rfl) (Below.refl _ _) (fun wd hwd hX => ?_)
    clear hwd
    refine sx_take (i := 0) (oi := ⟨some 21, _, _, _, _, _⟩) (v := ?_) rfl (by kernel_rfl) (by kernel_rfl) (by kernel_rfl) (fun _ _ _ h => h) rfl hX ?_ ?_; rotate_left; (intro W hW; go_simp; try with_reducible rfl); simp only [Act.put, List.setIfInBounds_toArray, List.set_cons_zero, List.set_cons_succ]
    refine sx_take (i := 1) (oi := ⟨some 22, _, _, _, _, _⟩) (v := ?_) rfl (by kernel_rfl) (by kernel_rfl) (by kernel_rfl) (fun _ _ _ h => h) rfl hX ?_ ?_; rotate_left; (intro W hW; go_simp; try with_reducible rfl); simp only [Act.put, List.setIfInBounds_toArray, List.set_cons_zero, List.set_cons_succ]
    refine sx_take (i := 2) (oi := ⟨some 23, _, _, _, _, _⟩) (v := ?_) rfl (by kernel_rfl) (by kernel_rfl) (by kernel_rfl) (fun _ _ _ h => h) rfl hX ?_ ?_; rotate_left; (intro W hW; go_simp; try with_reducible rfl); simp only [Act.put, List.setIfInBounds_toArray, List.set_cons_zero, List.set_cons_succ]
    refine sx_take (i := 3) (oi := ⟨some 24, _, _, _, _, _⟩) (v := ?_) rfl (by kernel_rfl) (by kernel_rfl) (by kernel_rfl) (fun _ _ _ h => h) rfl hX ?_ ?_; rotate_left; (intro W hW; go_simp; try with_reducible rfl); simp only [Act.put, List.setIfInBounds_toArray, List.set_cons_zero, List.set_cons_succ]
    refine sx_take (i := 4) (oi := ⟨some 25, _, _, _, _, _⟩) (v := ?_) rfl (by kernel_rfl) (by kernel_rfl) (by kernel_rfl) (fun _ _ _ h => h) rfl hX ?_ ?_; rotate_left; (intro W hW; go_simp; try with_reducible rfl); simp only [Act.put, List.setIfInBounds_toArray, List.set_cons_zero, List.set_cons_succ]
    refine sx_skip (i := 5) (oi := ⟨some 26, _, _, _, _, _⟩) rfl (by kernel_rfl) (by kernel_rfl) (by kernel_rfl) (fun _ _ _ h => h) rfl hX ?_; simp only [Act.put, List.setIfInBounds_toArray, List.set_cons_zero, List.set_cons_succ]
    refine sx_skip (i := 6) (oi := ⟨some 27, _, _, _, _, _⟩) rfl (by kernel_rfl) (by kernel_rfl) (by kernel_rfl) (fun _ _ _ h => h) rfl hX ?_; simp only [Act.put, List.setIfInBounds_toArray, List.set_cons_zero, List.set_cons_succ]
    refine sx_skip (i := 7) (oi := ⟨some 28, _, _, _, _, _⟩) rfl (by kernel_rfl) (by kernel_rfl) (by kernel_rfl) (fun _ _ _ h => h) rfl hX ?_; simp only [Act.put, List.setIfInBounds_toArray, List.set_cons_zero, List.set_cons_succ]
    refine sx_skip (i := 8) (oi := ⟨some 29, _, _, _, _, _⟩) rfl (by kernel_rfl) (by kernel_rfl) (by kernel_rfl) (fun _ _ _ h => h) rfl hX ?_; simp only [Act.put, List.setIfInBounds_toArray, List.set_cons_zero, List.set_cons_succ]
    refine sx_skip (i := 9) (oi := ⟨some 30, _, _, _, _, _⟩) rfl (by kernel_rfl) (by kernel_rfl) (by kernel_rfl) (fun _ _ _ h => h) rfl hX ?_; simp only [Act.put, List.setIfInBounds_toArray, List.set_cons_zero, List.set_cons_succ]
    refine sx_skip (i := 10) (oi := ⟨some 31, _, _, _, _, _⟩) rfl (by kernel_rfl) (by kernel_rfl) (by kernel_rfl) (fun _ _ _ h => h) rfl hX ?_; simp only [Act.put, List.setIfInBounds_toArray, List.set_cons_zero, List.set_cons_succ]
    refine sx_take (i := 11) (oi := ⟨some 32, _, _, _, _, _⟩) (v := ?_) rfl (by kernel_rfl) (by kernel_rfl) (by kernel_rfl) (fun _ _ _ h => h) rfl hX ?_ ?_; rotate_left; (intro W hW; go_simp; try with_reducible rfl); simp only [Act.put, List.setIfInBounds_toArray, List.set_cons_zero, List.set_cons_succ]
    refine wpAnyH_done (by kernel_rfl) ?_ _
    have Bb := Lib.hid (Ba.out.trans (hX.mono Ba.out.size))
    have KW := Lib.hid (Ka.out.below hX Ka.out.lt)
    clear hX
    obtain ⟨wb, hwb⟩ : ∃ wb, wb = wd := ⟨_, rfl⟩
    subst hwb
    have HVR := Lib.hid (HV.out.keep Bb.out HD.out)
    have PR := Lib.hid (show RowD D wb (.slice none 0 0) [] from ⟨none, 0, fun _ => [], rfl, Nat.le_refl _, Nat.zero_le _, fun _ => rfl, fun h => absurd rfl h, fun i t h => by simp at h⟩)
    go_wp2_with fail
    have HDW := Lib.hid (fun k (hk : D k) => Nat.lt_of_lt_of_le (HD.out k hk) Bb.out.size)
    refine sx_startB (B := wb.heap.size) (w0 := wb) (by kernel_rfl) (Below.refl _ _) (fun wd hwd hX => ?_)
    have SZ := Lib.hid hX.size
    clear hwd
    refine sx_take (i := 1) (oi := ⟨some 35, _, _, _, _, _⟩) (v := ?_) rfl (by kernel_rfl) (by kernel_rfl) (by kernel_rfl) (fun _ _ _ h => h) rfl hX ?_ ?_; rotate_left; (intro W hW; go_simp; try with_reducible rfl); simp only [Act.put, List.setIfInBounds_toArray, List.set_cons_zero, List.set_cons_succ]
    refine sx_take (i := 2) (oi := ⟨some 36, _, _, _, _, _⟩) (v := ?_) rfl (by kernel_rfl) (by kernel_rfl) (by kernel_rfl) (fun _ _ _ h => h) rfl hX ?_ ?_; rotate_left; (intro W hW; go_simp; try with_reducible rfl); simp only [Act.put, List.setIfInBounds_toArray, List.set_cons_zero, List.set_cons_succ]
    refine sx_take (i := 3) (oi := ⟨some 37, _, _, _, _, _⟩) (v := ?_) rfl (by kernel_rfl) (by kernel_rfl) (by kernel_rfl) (fun _ _ _ h => h) rfl hX ?_ ?_; rotate_left; (intro W hW; go_simp; try with_reducible rfl); simp only [Act.put, List.setIfInBounds_toArray, List.set_cons_zero, List.set_cons_succ]
    refine sx_take (i := 5) (oi := ⟨some 39, _, _, _, _, _⟩) (v := .agg rs.toArray) rfl (by kernel_rfl) (by kernel_rfl) (by kernel_rfl) (fun _ _ _ h => h) rfl hX (ld_blk 27 _ rfl w.heap.size rfl 27 _ _ KW.out KW.out.lt Tryd.underlying27 rfl (size_rx HR6.out)) ?_; simp only [Act.put, List.setIfInBounds_toArray, List.set_cons_zero, List.set_cons_succ]
    refine sx_take (i := 8) (oi := ⟨some 42, _, _, _, _, _⟩) (v := ?_) rfl (by kernel_rfl) (by kernel_rfl) (by kernel_rfl) (fun _ _ _ h => h) rfl hX ?_ ?_; rotate_left; (intro W hW; go_simp; try with_reducible rfl); simp only [Act.put, List.setIfInBounds_toArray, List.set_cons_zero, List.set_cons_succ]
    refine sx_take (i := 9) (oi := ⟨some 43, _, _, _, _, _⟩) (v := ?_) rfl (by kernel_rfl) (by kernel_rfl) (by kernel_rfl) (fun _ _ _ h => h) rfl hX ?_ ?_; rotate_left; (intro W hW; go_simp; try with_reducible rfl); simp only [Act.put, List.setIfInBounds_toArray, List.set_cons_zero, List.set_cons_succ]
    refine sx_take (i := 10) (oi := ⟨some 44, _, _, _, _, _⟩) (v := ?_) rfl (by kernel_rfl) (by kernel_rfl) (by kernel_rfl) (fun _ _ _ h => h) rfl hX ?_ ?_; rotate_left; (intro W hW; go_simp; try first | with_reducible rfl | (simp only [if_neg hck]; with_reducible rfl)); simp only [Act.put, List.setIfInBounds_toArray, List.set_cons_zero, List.set_cons_succ]
    refine sx_two (i := 0) (j := 6) (oi := ⟨some 34, _, _, _, _, _⟩) (oj := ⟨some 40, _, _, _, _, _⟩) rfl rfl (by kernel_rfl) rfl rfl hX (fun K hK => ?_) (fun K hK => ?_)
    · refine wp_bldT0 rfl ?_
      intro v34 w34 ho34 hb34
      have O34 := Lib.hid (ho34 D)
      refine hK _ _ (hb34.mono SZ.out) ?_
      clear hK K
      replace hX := hX.trans (hb34.mono SZ.out)
      have S34 := Lib.hid (Nat.le_trans SZ.out hb34.size)
      clear ho34
      have O := Lib.hid (O34.out.low SZ.out)
      refine sx_two (i := 4) (j := 6) (oi := ⟨some 38, _, _, _, _, _⟩) (oj := ⟨some 40, _, _, _, _, _⟩) rfl rfl (by kernel_rfl) rfl rfl hX (fun K hK => ?_) (fun K hK => ?_)
      · refine wp_appTs (D := D) (D' := D) (base := wb.heap.size) (.tmp 34) (.tmp 37) rfl i0 hi0 HZ1.out hz1 hz2 v34 [] rfl O.out _ [] rfl (PR.out.keep hX HDW.out) (fun q hq => ⟨hq, Nat.lt_of_lt_of_le (HDW.out q hq) hX.size, fun he => by have h1 := O.out.ge q he.symm; have h2 := HDW.out q hq; omega⟩) (by have h1 := HL1.out; rw [List.length_nil]; omega) hX.size ?_
        intro v38 w38 ho38 hg38
        have B38 := Lib.hid ((Below.refl wb.heap.size w34).grown hg38 hX.size (fun q hq => O.out.ge q hq))
        refine hK _ _ B38.out ?_
        clear hK K
        replace hX := hX.trans B38.out
        have O38 := Lib.hid (show OwnT D wb.heap.size w38 v38 [] by have h1 := ho38; rwa [List.nil_append] at h1)
        refine sx_actB (i := 6) (o := ⟨some 40, _, _, _, _, _⟩) rfl (by kernel_rfl) rfl hX (fun K hK => ?_)
        refine wp_bldT1 25 27 (.tmp 39) rfl i0 Tryd.underlying25 hi0 HZ1.out hz1 rs HR6.out rfl ?_
        intro w40 hk40 hb40 hs40
        refine hK _ _ (hb40.mono hX.size) ?_
        clear hK K
        replace hX := hX.trans (hb40.mono hX.size)
        have K40 := Lib.hid hk40
        have O41 := Lib.hid (O38.out.stay hb40)
        have K41 := Lib.hid hk40
        obtain ⟨WW, hWW⟩ : ∃ WW, WW = w40 := ⟨_, rfl⟩
        subst hWW
        refine sx_actB (i := 7) (o := ⟨some 41, _, _, _, _, _⟩) rfl (by kernel_rfl) rfl hX (fun K hK => ?_)
        have V41 := Lib.hid (RxD.mono (HVR.out.keep hX HDW.out) (D' := fun k => D k ∧ k < WW.heap.size ∧ some k ≠ v38.ownBlock) fun k hk => ⟨hk, Nat.lt_of_lt_of_le (HDW.out k hk) hX.size, fun he => by have h1 := O41.out.ge k he.symm; have h2 := HDW.out k hk; omega⟩)
        refine wp_appT (D := D) (base := wb.heap.size) (.tmp 38) (.tmp 40) rfl i0 hi0 HZ1.out hz1 hz2 v38 _ rfl O41.out _ 1 27 rs r rfl K41.out V41.out HL2.out hX.size ?_
        intro v42 w42 ho42 hg42
        have B42 := Lib.hid ((Below.refl wb.heap.size WW).grown hg42 hX.size (fun q hq => O41.out.ge q hq))
        refine hK _ _ B42.out ?_
        clear hK K
        replace hX := hX.trans B42.out
        have O42 := Lib.hid ho42
        clear ho42 hg42
        refine sx_actB (i := 11) (o := ⟨some 45, _, _, _, _, _⟩) rfl (by kernel_rfl) rfl hX (fun K hK => ?_)
        refine wp_appTs (D := D) (D' := D) (base := wb.heap.size) (.tmp 41) (.tmp 44) rfl i0 hi0 HZ1.out hz1 hz2 v42 _ rfl O42.out _ [] rfl (PR.out.keep hX HDW.out) (fun q hq => ⟨hq, Nat.lt_of_lt_of_le (HDW.out q hq) hX.size, fun he => by have h1 := O42.out.ge q he.symm; have h2 := HDW.out q hq; omega⟩) HL3.out hX.size ?_
        intro v45 w45 ho45 hg45
        have B45 := Lib.hid ((Below.refl wb.heap.size w42).grown hg45 hX.size (fun q hq => O42.out.ge q hq))
        refine hK _ _ B45.out ?_
        clear hK K
        replace hX := hX.trans B45.out
        have O45 := Lib.hid ho45
        clear ho45 hg45
        refine sx_take (i := 12) (oi := ⟨some 4, _, _, _, _, _⟩) (v := ?_) rfl (by kernel_rfl) (by kernel_rfl) (by kernel_rfl) (fun _ _ _ h => h) rfl hX ?_ ?_; rotate_left; (intro W hW; go_simp; try with_reducible rfl); simp only [Act.put, List.setIfInBounds_toArray, List.set_cons_zero, List.set_cons_succ]
        refine wpAnyH_done (by kernel_rfl) ?_ _
        have B9 := Lib.hid (Bb.out.trans (hX.mono Bb.out.size))
        go_wp2_with fail
        go_ret
        refine ⟨_, rfl, ?_, B9.out⟩
        rw [HINS.out]
        exact O45.out.rowD.mono fun k hk => by have h1 := Bb.out.size; rcases hk.1 with h | h; exact .inl h; exact .inr ⟨Nat.le_trans h1 h, hk.2⟩
      · refine wp_bldT1 25 27 (.tmp 39) rfl i0 Tryd.underlying25 hi0 HZ1.out hz1 rs HR6.out rfl ?_
        intro w40 hk40 hb40 hs40
        refine hK _ _ (hb40.mono hX.size) ?_
        clear hK K
        replace hX := hX.trans (hb40.mono hX.size)
        have K40 := Lib.hid hk40
        have O := Lib.hid (O.out.stay hb40)
        have LT34 := Lib.hid (fun q (hq : v34.ownBlock = some q) => O34.out.lt q hq)
        refine sx_actB (i := 4) (o := ⟨some 38, _, _, _, _, _⟩) rfl (by kernel_rfl) rfl hX (fun K hK => ?_)
        refine wp_appTs (D := D) (D' := D) (base := wb.heap.size) (.tmp 34) (.tmp 37) rfl i0 hi0 HZ1.out hz1 hz2 v34 [] rfl O.out _ [] rfl (PR.out.keep hX HDW.out) (fun q hq => ⟨hq, Nat.lt_of_lt_of_le (HDW.out q hq) hX.size, fun he => by have h1 := O.out.ge q he.symm; have h2 := HDW.out q hq; omega⟩) (by have h1 := HL1.out; rw [List.length_nil]; omega) hX.size ?_
        intro v38 w38 ho38 hg38
        have B38 := Lib.hid ((Below.refl wb.heap.size w40).grown hg38 hX.size (fun q hq => O.out.ge q hq))
        refine hK _ _ B38.out ?_
        clear hK K
        replace hX := hX.trans B38.out
        have O38 := Lib.hid (show OwnT D wb.heap.size w38 v38 [] by have h1 := ho38; rwa [List.nil_append] at h1)
        have K41 := Lib.hid ((hg38.block _ K40.out.lt (fun e => by have h1 := LT34.out _ e.symm; omega)).trans K40.out)
        have O41 := O38
        obtain ⟨WW, hWW⟩ : ∃ WW, WW = w38 := ⟨_, rfl⟩
        subst hWW
        refine sx_actB (i := 7) (o := ⟨some 41, _, _, _, _, _⟩) rfl (by kernel_rfl) rfl hX (fun K hK => ?_)
        have V41 := Lib.hid (RxD.mono (HVR.out.keep hX HDW.out) (D' := fun k => D k ∧ k < WW.heap.size ∧ some k ≠ v38.ownBlock) fun k hk => ⟨hk, Nat.lt_of_lt_of_le (HDW.out k hk) hX.size, fun he => by have h1 := O41.out.ge k he.symm; have h2 := HDW.out k hk; omega⟩)
        refine wp_appT (D := D) (base := wb.heap.size) (.tmp 38) (.tmp 40) rfl i0 hi0 HZ1.out hz1 hz2 v38 _ rfl O41.out _ 1 27 rs r rfl K41.out V41.out HL2.out hX.size ?_
        intro v42 w42 ho42 hg42
        have B42 := Lib.hid ((Below.refl wb.heap.size WW).grown hg42 hX.size (fun q hq => O41.out.ge q hq))
        refine hK _ _ B42.out ?_
        clear hK K
        replace hX := hX.trans B42.out
        have O42 := Lib.hid ho42
        clear ho42 hg42
        refine sx_actB (i := 11) (o := ⟨some 45, _, _, _, _, _⟩) rfl (by kernel_rfl) rfl hX (fun K hK => ?_)
        refine wp_appTs (D := D) (D' := D) (base := wb.heap.size) (.tmp 41) (.tmp 44) rfl i0 hi0 HZ1.out hz1 hz2 v42 _ rfl O42.out _ [] rfl (PR.out.keep hX HDW.out) (fun q hq => ⟨hq, Nat.lt_of_lt_of_le (HDW.out q hq) hX.size, fun he => by have h1 := O42.out.ge q he.symm; have h2 := HDW.out q hq; omega⟩) HL3.out hX.size ?_
        intro v45 w45 ho45 hg45
        have B45 := Lib.hid ((Below.refl wb.heap.size w42).grown hg45 hX.size (fun q hq => O42.out.ge q hq))
        refine hK _ _ B45.out ?_
        clear hK K
        replace hX := hX.trans B45.out
        have O45 := Lib.hid ho45
        clear ho45 hg45
        refine sx_take (i := 12) (oi := ⟨some 4, _, _, _, _, _⟩) (v := ?_) rfl (by kernel_rfl) (by kernel_rfl) (by kernel_rfl) (fun _ _ _ h => h) rfl hX ?_ ?_; rotate_left; (intro W hW; go_simp; try with_reducible rfl); simp only [Act.put, List.setIfInBounds_toArray, List.set_cons_zero, List.set_cons_succ]
        refine wpAnyH_done (by kernel_rfl) ?_ _
        have B9 := Lib.hid (Bb.out.trans (hX.mono Bb.out.size))
        go_wp2_with fail
        go_ret
        refine ⟨_, rfl, ?_, B9.out⟩
        rw [HINS.out]
        exact O45.out.rowD.mono fun k hk => by have h1 := Bb.out.size; rcases hk.1 with h | h; exact .inl h; exact .inr ⟨Nat.le_trans h1 h, hk.2⟩
    · refine wp_bldT1 25 27 (.tmp 39) rfl i0 Tryd.underlying25 hi0 HZ1.out hz1 rs HR6.out rfl ?_
      intro w40 hk40 hb40 hs40
      refine hK _ _ (hb40.mono SZ.out) ?_
      clear hK K
      replace hX := hX.trans (hb40.mono SZ.out)
      have K40 := Lib.hid hk40
      have SZ' := Lib.hid (Nat.le_trans SZ.out hb40.size)
      refine sx_actB (i := 0) (o := ⟨some 34, _, _, _, _, _⟩) rfl (by kernel_rfl) rfl hX (fun K hK => ?_)
      refine wp_bldT0 rfl ?_
      intro v34 w34 ho34 hb34
      have O34 := Lib.hid (ho34 D)
      refine hK _ _ (hb34.mono SZ'.out) ?_
      clear hK K
      replace hX := hX.trans (hb34.mono SZ'.out)
      have S34 := Lib.hid (Nat.le_trans SZ'.out hb34.size)
      clear ho34
      have O := Lib.hid (O34.out.low SZ'.out)
      have GE34 := Lib.hid (fun q (hq : v34.ownBlock = some q) => O34.out.ge q hq)
      have K41' := Lib.hid (K40.out.below hb34 K40.out.lt)
      have LT40 := Lib.hid K40.out.lt
      refine sx_actB (i := 4) (o := ⟨some 38, _, _, _, _, _⟩) rfl (by kernel_rfl) rfl hX (fun K hK => ?_)
      refine wp_appTs (D := D) (D' := D) (base := wb.heap.size) (.tmp 34) (.tmp 37) rfl i0 hi0 HZ1.out hz1 hz2 v34 [] rfl O.out _ [] rfl (PR.out.keep hX HDW.out) (fun q hq => ⟨hq, Nat.lt_of_lt_of_le (HDW.out q hq) hX.size, fun he => by have h1 := O.out.ge q he.symm; have h2 := HDW.out q hq; omega⟩) (by have h1 := HL1.out; rw [List.length_nil]; omega) hX.size ?_
      intro v38 w38 ho38 hg38
      have B38 := Lib.hid ((Below.refl wb.heap.size w34).grown hg38 hX.size (fun q hq => O.out.ge q hq))
      refine hK _ _ B38.out ?_
      clear hK K
      replace hX := hX.trans B38.out
      have O38 := Lib.hid (show OwnT D wb.heap.size w38 v38 [] by have h1 := ho38; rwa [List.nil_append] at h1)
      have K41 := Lib.hid ((hg38.block _ K41'.out.lt (fun e => by have h1 := GE34.out _ e.symm; have h2 := LT40.out; omega)).trans K41'.out)
      have O41 := O38
      obtain ⟨WW, hWW⟩ : ∃ WW, WW = w38 := ⟨_, rfl⟩
      subst hWW
      refine sx_actB (i := 7) (o := ⟨some 41, _, _, _, _, _⟩) rfl (by kernel_rfl) rfl hX (fun K hK => ?_)
      have V41 := Lib.hid (RxD.mono (HVR.out.keep hX HDW.out) (D' := fun k => D k ∧ k < WW.heap.size ∧ some k ≠ v38.ownBlock) fun k hk => ⟨hk, Nat.lt_of_lt_of_le (HDW.out k hk) hX.size, fun he => by have h1 := O41.out.ge k he.symm; have h2 := HDW.out k hk; omega⟩)
      refine wp_appT (D := D) (base := wb.heap.size) (.tmp 38) (.tmp 40) rfl i0 hi0 HZ1.out hz1 hz2 v38 _ rfl O41.out _ 1 27 rs r rfl K41.out V41.out HL2.out hX.size ?_
      intro v42 w42 ho42 hg42
      have B42 := Lib.hid ((Below.refl wb.heap.size WW).grown hg42 hX.size (fun q hq => O41.out.ge q hq))
      refine hK _ _ B42.out ?_
      clear hK K
      replace hX := hX.trans B42.out
      have O42 := Lib.hid ho42
      clear ho42 hg42
      refine sx_actB (i := 11) (o := ⟨some 45, _, _, _, _, _⟩) rfl (by kernel_rfl) rfl hX (fun K hK => ?_)
      refine wp_appTs (D := D) (D' := D) (base := wb.heap.size) (.tmp 41) (.tmp 44) rfl i0 hi0 HZ1.out hz1 hz2 v42 _ rfl O42.out _ [] rfl (PR.out.keep hX HDW.out) (fun q hq => ⟨hq, Nat.lt_of_lt_of_le (HDW.out q hq) hX.size, fun he => by have h1 := O42.out.ge q he.symm; have h2 := HDW.out q hq; omega⟩) HL3.out hX.size ?_
      intro v45 w45 ho45 hg45
      have B45 := Lib.hid ((Below.refl wb.heap.size w42).grown hg45 hX.size (fun q hq => O42.out.ge q hq))
      refine hK _ _ B45.out ?_
      clear hK K
      replace hX := hX.trans B45.out
      have O45 := Lib.hid ho45
      clear ho45 hg45
      refine sx_take (i := 12) (oi := ⟨some 4, _, _, _, _, _⟩) (v := ?_) rfl (by kernel_rfl) (by kernel_rfl) (by kernel_rfl) (fun _ _ _ h => h) rfl hX ?_ ?_; rotate_left; (intro W hW; go_simp; try with_reducible rfl); simp only [Act.put, List.setIfInBounds_toArray, List.set_cons_zero, List.set_cons_succ]
      refine wpAnyH_done (by kernel_rfl) ?_ _
      have B9 := Lib.hid (Bb.out.trans (hX.mono Bb.out.size))
      go_wp2_with fail
      go_ret
      refine ⟨_, rfl, ?_, B9.out⟩
      rw [HINS.out]
      exact O45.out.rowD.mono fun k hk => by have h1 := Bb.out.size; rcases hk.1 with h | h; exact .inl h; exact .inr ⟨Nat.le_trans h1 h, hk.2⟩
end Go.Proofs.YtmlojjgddmnbmaaDoor
namespace Go.Proofs.YtmlojjgddmnbmaaDoor
open Go.RowKit
set_option linter.unusedSimpArgs false
set_option linter.unusedVariables false


set_option maxHeartbeats 16000000 in
set_option maxRecDepth 100000 in
theorem refInsert_some (l : List T) (r : T) (v : Value) (rs : List Value) (w : World) {D : Nat → Prop} (hD : ∀ k, D k → k < w.heap.size) (hr : RowD D w v l) (hne : l ≠ []) (hv : RxD D w rs r) (hn : nodesL l ≤ 549755813888) (hM : r.nodes ≤ 1099511627776) :
    Calls Tryd.prog 50 #[v, .agg rs.toArray] w fun e w' => ∃ v', e = .returned v' ∧ RowD (fun k => D k ∨ (w.heap.size ≤ k ∧ k < w'.heap.size)) w' v' (insT r l) ∧ Below w.heap.size w w' := by
  have HV := Lib.hid hv
  have HD := Lib.hid hD
  have HR := Lib.hid hr
  have HM := Lib.hid hM
  have HR6 := Lib.hid hv.length
  have HNM := Lib.hid (fun (t : T) (ht : t ∈ l) => show t.nodes ≤ 1099511627776 by have := nodes_mem ht; omega)
  obtain ⟨A, cap, f, rfl, h1, h2, h0, h3, h4⟩ := hr
  obtain ⟨b, off, rfl, hb, hrng⟩ := h3 hne
  have H4 := Lib.hid h4
  have HBD := Lib.hid hb
  have HRG := Lib.hid hrng
  obtain ⟨i0, hi0, hz0, hz1, hz2⟩ := inf_rx'
  have HZ1 := Lib.hid hz0
  obtain ⟨n, hnl⟩ : ∃ n, n = l.length := ⟨_, rfl⟩
  have HNL := Lib.hid hnl
  have HN := Lib.hid (show n ≤ 549755813888 by have := len_nodes l; omega)
  have HN0 := Lib.hid (show 0 < n by rw [hnl]; exact List.length_pos_iff.2 hne)
  have hcl : (n : Int) ≤ (cap : Int) := by omega
  have HCM := Lib.hid h2
  rw [← hnl] at HR HRG ⊢
  clear hv hD hz0 hn hM h1 h2 h0 h3 h4 hb hrng hnl hne
  go_enter Tryd.func50, Tryd.ntmps50
  go_wp2_with ((with_reducible refine atDst 3 ?_); refine wpList_box rfl 27 _ rfl rs rfl (Below.refl w.heap.size w) (Nat.le_refl _) ?_; intro w1 hk1 hb1 hs1 _; have K1 := Lib.hid hk1; have B1 := Lib.hid hb1; clear hk1 hb1 hs1; (try simp only [Act.put, List.setIfInBounds_toArray, List.set_cons_zero, List.set_cons_succ]))
  go_loopw [5] (fun i wl => ∃ k : Nat, k ≤ n ∧ i = .int .i64 (k : Int) ∧ (∀ i, i < k → cmpT (nthT l i) r < 0) ∧ Below w1.heap.size w1 wl) (fun i _ => n - (intOf i).toNat)
  case atStart => exact ⟨0, by omega, by simp, fun i hi => by omega, Below.refl _ _⟩
  case round =>
    obtain ⟨k, hk, rfl, hlt, hb⟩ := hrel
    have HLS := Lib.hid hlt
    have HBw := Lib.hid hb
    have Br := Lib.hid (B1.out.trans (hb.mono B1.out.size))
    have Kr := Lib.hid (K1.out.below hb K1.out.lt)
    clear hlt hb
    by_cases hkn : k < n
    · have j1 : (k : Int) < (n : Int) := Int.ofNat_lt.2 hkn
      have hk62 : k ≤ 4611686018427387904 := by have := HN.out; omega
      have e3 := wrap_one k hk62
      have e4 := wrap_one' k hk62
      have I1 := Lib.hid (show k + 1 ≤ n from hkn)
      have I2 := Lib.hid (sub_next hkn)
      have HLK := Lib.hid (show k < l.length by rw [← HNL.out]; exact hkn)
      have HXK := Lib.hid ((H4.out k _ (nthT_some HLK.out)).keep Br.out HD.out)
      have HX6 := Lib.hid HXK.out.length
      have HRK := Lib.hid (range_below (HRG.out k hkn) Br.out (HD.out b HBD.out))
      have HGS := Lib.hid (Nat.lt_of_lt_of_le (HD.out b HBD.out) Br.out.size)
      have HMK := Lib.hid (HNM.out (nthT l k) (List.mem_of_getElem? (nthT_some HLK.out)))
      clear hk62
      go_wp2_with fail
      refine sx_startB (B := wr.heap.size) (w0 := wr) (by kernel_rfl) (Below.refl _ _) (fun wd hwd hX => ?_)
      have SZ := Lib.hid hX.size
      clear hwd
      refine sx_take (i := 0) (oi := ⟨some 6, _, _, _, _, _⟩) (v := ?_) rfl (by kernel_rfl) (by kernel_rfl) (by kernel_rfl) (fun _ _ _ h => h) rfl hX ?_ ?_; rotate_left; (intro W hW; go_simp; try with_reducible rfl); simp only [Act.put, List.setIfInBounds_toArray, List.set_cons_zero, List.set_cons_succ]
      refine sx_take (i := 1) (oi := ⟨some 7, _, _, _, _, _⟩) (v := ?_) rfl (by kernel_rfl) (by kernel_rfl) (by kernel_rfl) (fun _ _ _ h => h) rfl hX ?_ ?_; rotate_left; (intro W hW; go_simp; try with_reducible rfl); simp only [Act.put, List.setIfInBounds_toArray, List.set_cons_zero, List.set_cons_succ]
      refine sx_take (i := 2) (oi := ⟨some 8, _, _, _, _, _⟩) (v := ?_) rfl (by kernel_rfl) (by kernel_rfl) (by kernel_rfl) (fun _ _ _ h => h) rfl hX ?_ ?_; rotate_left; (intro W hW; go_simp; try with_reducible rfl); simp only [Act.put, List.setIfInBounds_toArray, List.set_cons_zero, List.set_cons_succ]
      refine sx_take (i := 3) (oi := ⟨some 9, _, _, _, _, _⟩) (v := ?_) rfl (by kernel_rfl) (by kernel_rfl) (by kernel_rfl) (fun _ _ _ h => h) rfl hX ?_ ?_; rotate_left; (intro W hW; go_simp; try with_reducible rfl); simp only [Act.put, List.setIfInBounds_toArray, List.set_cons_zero, List.set_cons_succ]
      refine sx_take (i := 4) (oi := ⟨some 10, _, _, _, _, _⟩) (v := ?_) rfl (by kernel_rfl) (by kernel_rfl) (by kernel_rfl) (fun _ _ _ h => h) rfl hX ?_ ?_; rotate_left; (intro W hW; go_simp; try with_reducible rfl); simp only [Act.put, List.setIfInBounds_toArray, List.set_cons_zero, List.set_cons_succ]
      refine sx_take (i := 5) (oi := ⟨some 11, _, _, _, _, _⟩) (v := ?_) rfl (by kernel_rfl) (by kernel_rfl) (by kernel_rfl) (fun _ _ _ h => h) rfl hX ?_ ?_; rotate_left; (intro W hW; go_simp; try with_reducible rfl); simp only [Act.put, List.setIfInBounds_toArray, List.set_cons_zero, List.set_cons_succ]
      refine sx_take (i := 6) (oi := ⟨some 12, _, _, _, _, _⟩) (v := ?_) rfl (by kernel_rfl) (by kernel_rfl) (by kernel_rfl) (fun _ _ _ h => h) rfl hX ?_ ?_; rotate_left; (intro W hW; go_simp; try with_reducible rfl); simp only [Act.put, List.setIfInBounds_toArray, List.set_cons_zero, List.set_cons_succ]
      refine sx_take (i := 7) (oi := ⟨some 13, _, _, _, _, _⟩) (v := ?_) rfl (by kernel_rfl) (by kernel_rfl) (by kernel_rfl) (fun _ _ _ h => h) rfl hX ?_ ?_; rotate_left; (intro W hW; go_simp; try with_reducible rfl); simp only [Act.put, List.setIfInBounds_toArray, List.set_cons_zero, List.set_cons_succ]
      refine sx_take (i := 8) (oi := ⟨some 14, _, _, _, _, _⟩) (v := .agg (f k).toArray) rfl (by kernel_rfl) (by kernel_rfl) (by kernel_rfl) (fun _ _ _ h => h) rfl hX (ld_mid 27 _ rfl b (off + k * 6) rfl _ _ HRK.out HGS.out Tryd.underlying27 rfl (size_rx HX6.out)) ?_; simp only [Act.put, List.setIfInBounds_toArray, List.set_cons_zero, List.set_cons_succ]
      refine sx_take (i := 9) (oi := ⟨some 15, _, _, _, _, _⟩) (v := .agg rs.toArray) rfl (by kernel_rfl) (by kernel_rfl) (by kernel_rfl) (fun _ _ _ h => h) rfl hX (ld_blk 27 _ rfl w.heap.size rfl 27 _ _ Kr.out Kr.out.lt Tryd.underlying27 rfl (size_rx HR6.out)) ?_; simp only [Act.put, List.setIfInBounds_toArray, List.set_cons_zero, List.set_cons_succ]
      refine sx_actB (i := 10) (o := ⟨some 16, _, _, _, _, _⟩) rfl (by kernel_rfl) rfl hX (fun K hK => ?_)
      go_wp2_with fail
      refine (refCompare_any _ (nthT l k) r (Nat.le_refl _) HMK.out (f k) rs wd (RxD.mono (HXK.out.keep hX fun q hq => Nat.lt_of_lt_of_le (HD.out q hq) Br.out.size) fun q hq => Nat.lt_of_lt_of_le (HD.out q hq) (Nat.le_trans Br.out.size SZ.out)) (RxD.mono ((HV.out.keep Br.out HD.out).keep hX fun q hq => Nat.lt_of_lt_of_le (HD.out q hq) Br.out.size) fun q hq => Nat.lt_of_lt_of_le (HD.out q hq) (Nat.le_trans Br.out.size SZ.out))).mono ?_
      rintro e w6 ⟨rfl, hb⟩
      obtain ⟨x, hx⟩ : ∃ x, cmpT (nthT l k) r = x := ⟨_, rfl⟩
      rw [hx]
      have HXX := Lib.hid hx
      refine hK _ _ (hb.mono SZ.out) ?_
      clear hK K hx
      replace hX := hX.trans (hb.mono SZ.out)
      clear hb
      refine sx_take (i := 11) (oi := ⟨some 17, _, _, _, _, _⟩) (v := ?_) rfl (by kernel_rfl) (by kernel_rfl) (by kernel_rfl) (fun _ _ _ h => h) rfl hX ?_ ?_; rotate_left; (intro W hW; go_simp; try with_reducible rfl); simp only [Act.put, List.setIfInBounds_toArray, List.set_cons_zero, List.set_cons_succ]
      refine sx_take (i := 12) (oi := ⟨some 18, _, _, _, _, _⟩) (v := ?_) rfl (by kernel_rfl) (by kernel_rfl) (by kernel_rfl) (fun _ _ _ h => h) rfl hX ?_ ?_; rotate_left; (intro W hW; go_simp; try with_reducible rfl); simp only [Act.put, List.setIfInBounds_toArray, List.set_cons_zero, List.set_cons_succ]
      refine wpAnyH_done (by kernel_rfl) ?_ _
      have Ba := Lib.hid (Br.out.trans (hX.mono Br.out.size))
      have Bc := Lib.hid (HBw.out.trans (hX.mono HBw.out.size))
      have Ka := Lib.hid (Kr.out.below hX Kr.out.lt)
      have HRa := Lib.hid (range_below HRK.out hX HGS.out)
      have HGa := Lib.hid (Nat.lt_of_lt_of_le HGS.out hX.size)
      clear hX SZ
      obtain ⟨wa, hwa⟩ : ∃ wa, wa = w6 := ⟨_, rfl⟩
      subst hwa
      by_cases hx0 : x < 0
      · have HX0 := Lib.hid hx0
        go_wp2_with fail
        refine ⟨⟨k + 1, I1.out, by congr 1, fun i hi => ?_, Bc.out⟩, by simpa [intOf] using I2.out⟩
        by_cases hik : i = k
        · rw [hik, HXX.out]; exact HX0.out
        · exact HLS.out i (lt_of_ne hi hik)
      · have HX0 := Lib.hid hx0
        go_wp2_with fail
        refine sx_startB (B := wa.heap.size) (w0 := wa) (by kernel_rfl) (Below.refl _ _) (fun wd2 hwd hX => ?_)
        have SZ := Lib.hid hX.size
        clear hwd
        refine sx_take (i := 0) (oi := ⟨some 21, _, _, _, _, _⟩) (v := ?_) rfl (by kernel_rfl) (by kernel_rfl) (by kernel_rfl) (fun _ _ _ h => h) rfl hX ?_ ?_; rotate_left; (intro W hW; go_simp; try with_reducible rfl); simp only [Act.put, List.setIfInBounds_toArray, List.set_cons_zero, List.set_cons_succ]
        refine sx_take (i := 1) (oi := ⟨some 22, _, _, _, _, _⟩) (v := ?_) rfl (by kernel_rfl) (by kernel_rfl) (by kernel_rfl) (fun _ _ _ h => h) rfl hX ?_ ?_; rotate_left; (intro W hW; go_simp; try with_reducible rfl); simp only [Act.put, List.setIfInBounds_toArray, List.set_cons_zero, List.set_cons_succ]
        refine sx_take (i := 2) (oi := ⟨some 23, _, _, _, _, _⟩) (v := ?_) rfl (by kernel_rfl) (by kernel_rfl) (by kernel_rfl) (fun _ _ _ h => h) rfl hX ?_ ?_; rotate_left; (intro W hW; go_simp; try with_reducible rfl); simp only [Act.put, List.setIfInBounds_toArray, List.set_cons_zero, List.set_cons_succ]
        refine sx_take (i := 3) (oi := ⟨some 24, _, _, _, _, _⟩) (v := ?_) rfl (by kernel_rfl) (by kernel_rfl) (by kernel_rfl) (fun _ _ _ h => h) rfl hX ?_ ?_; rotate_left; (intro W hW; go_simp; try with_reducible rfl); simp only [Act.put, List.setIfInBounds_toArray, List.set_cons_zero, List.set_cons_succ]
        refine sx_take (i := 4) (oi := ⟨some 25, _, _, _, _, _⟩) (v := ?_) rfl (by kernel_rfl) (by kernel_rfl) (by kernel_rfl) (fun _ _ _ h => h) rfl hX ?_ ?_; rotate_left; (intro W hW; go_simp; try with_reducible rfl); simp only [Act.put, List.setIfInBounds_toArray, List.set_cons_zero, List.set_cons_succ]
        refine sx_take (i := 5) (oi := ⟨some 26, _, _, _, _, _⟩) (v := ?_) rfl (by kernel_rfl) (by kernel_rfl) (by kernel_rfl) (fun _ _ _ h => h) rfl hX ?_ ?_; rotate_left; (intro W hW; go_simp; try with_reducible rfl); simp only [Act.put, List.setIfInBounds_toArray, List.set_cons_zero, List.set_cons_succ]
        refine sx_take (i := 6) (oi := ⟨some 27, _, _, _, _, _⟩) (v := ?_) rfl (by kernel_rfl) (by kernel_rfl) (by kernel_rfl) (fun _ _ _ h => h) rfl hX ?_ ?_; rotate_left; (intro W hW; go_simp; try with_reducible rfl); simp only [Act.put, List.setIfInBounds_toArray, List.set_cons_zero, List.set_cons_succ]
        refine sx_take (i := 7) (oi := ⟨some 28, _, _, _, _, _⟩) (v := ?_) rfl (by kernel_rfl) (by kernel_rfl) (by kernel_rfl) (fun _ _ _ h => h) rfl hX ?_ ?_; rotate_left; (intro W hW; go_simp; try with_reducible rfl); simp only [Act.put, List.setIfInBounds_toArray, List.set_cons_zero, List.set_cons_succ]
        refine sx_take (i := 8) (oi := ⟨some 29, _, _, _, _, _⟩) (v := .agg (f k).toArray) rfl (by kernel_rfl) (by kernel_rfl) (by kernel_rfl) (fun _ _ _ h => h) rfl hX (ld_mid 27 _ rfl b (off + k * 6) rfl _ _ HRa.out HGa.out Tryd.underlying27 rfl (size_rx HX6.out)) ?_; simp only [Act.put, List.setIfInBounds_toArray, List.set_cons_zero, List.set_cons_succ]
        refine sx_take (i := 9) (oi := ⟨some 30, _, _, _, _, _⟩) (v := .agg rs.toArray) rfl (by kernel_rfl) (by kernel_rfl) (by kernel_rfl) (fun _ _ _ h => h) rfl hX (ld_blk 27 _ rfl w.heap.size rfl 27 _ _ Ka.out Ka.out.lt Tryd.underlying27 rfl (size_rx HR6.out)) ?_; simp only [Act.put, List.setIfInBounds_toArray, List.set_cons_zero, List.set_cons_succ]
        refine sx_actB (i := 10) (o := ⟨some 31, _, _, _, _, _⟩) rfl (by kernel_rfl) rfl hX (fun K hK => ?_)
        go_wp2_with fail
        refine (refEqual_any (nthT l k) r HMK.out (f k) rs wd2 (RxD.mono (((H4.out k _ (nthT_some HLK.out)).keep Ba.out HD.out).keep hX fun q hq => Nat.lt_of_lt_of_le (HD.out q hq) Ba.out.size) fun q hq => Nat.lt_of_lt_of_le (HD.out q hq) (Nat.le_trans Ba.out.size SZ.out)) (RxD.mono ((HV.out.keep Ba.out HD.out).keep hX fun q hq => Nat.lt_of_lt_of_le (HD.out q hq) Ba.out.size) fun q hq => Nat.lt_of_lt_of_le (HD.out q hq) (Nat.le_trans Ba.out.size SZ.out))).mono ?_
        rintro e w7 ⟨rfl, hb⟩
        rw [HXX.out]
        refine hK _ _ (hb.mono SZ.out) ?_
        clear hK K
        replace hX := hX.trans (hb.mono SZ.out)
        clear hb
        refine sx_take (i := 11) (oi := ⟨some 32, _, _, _, _, _⟩) (v := ?_) rfl (by kernel_rfl) (by kernel_rfl) (by kernel_rfl) (fun _ _ _ h => h) rfl hX ?_ ?_; rotate_left; (intro W hW; go_simp; try with_reducible rfl); simp only [Act.put, List.setIfInBounds_toArray, List.set_cons_zero, List.set_cons_succ]
        refine wpAnyH_done (by kernel_rfl) ?_ _
        have Bb := Lib.hid (Ba.out.trans (hX.mono Ba.out.size))
        have KW := Lib.hid (Ka.out.below hX Ka.out.lt)
        clear hX SZ
        obtain ⟨wb, hwb⟩ : ∃ wb, wb = w7 := ⟨_, rfl⟩
        subst hwb
        have HIA := Lib.hid (insT_at r l k HLS.out (Nat.le_of_lt HLK.out) (fun _ => by rw [HXX.out]; have := HX0.out; omega))
        by_cases hxe : x = 0
        · have hxb : (x == 0) = true := by simpa using hxe
          have HINS := Lib.hid (show insT r l = l by rw [HIA.out, if_pos ⟨HLK.out, HXX.out.trans hxe⟩])
          clear hx0 hxe
          go_wp2_with fail
          go_ret
          refine ⟨_, rfl, ?_, Bb.out⟩
          rw [HINS.out]
          exact (HR.out.keep Bb.out HD.out).mono fun k hk => .inl hk
        · have hxb : (x == 0) = false := by simpa using hxe
          have HINS := Lib.hid (show insT r l = l.take k ++ [r] ++ l.drop k by rw [HIA.out, if_neg (fun h => hxe (HXX.out.symm.trans h.2))])
          have hkc : (k : Int) < (cap : Int) := by omega
          have hkd : (k : Int) ≤ (cap : Int) := by omega
          have hck : ¬ (cap = k) := by omega
          have hke : (k : Int) ≤ (n : Int) := by omega
          have hk0 : (0 : Int) ≤ (k : Int) := by omega
          have HVR := Lib.hid (HV.out.keep Bb.out HD.out)
          have HRW := Lib.hid (HR.out.keep Bb.out HD.out)
          have PR := Lib.hid (HRW.out.take k (by rw [← HNL.out]; omega))
          have HLT := Lib.hid (show (l.take k).length = k by rw [List.length_take, ← HNL.out]; omega)
          have HL1 := Lib.hid (show (l.take k).length ≤ 1099511627776 by have h1 := HLT.out; have h2 := HN.out; omega)
          have HL2 := Lib.hid (show (l.take k).length + 1 ≤ 1099511627776 by have h1 := HLT.out; have h2 := HN.out; omega)
          have HL3 := Lib.hid (show (l.take k ++ [r]).length + (l.drop k).length ≤ 1099511627776 by rw [List.length_append, List.length_drop, ← HNL.out]; have h1 := HLT.out; have h2 := HN.out; simp only [List.length_cons, List.length_nil]; omega)
          obtain ⟨b2, off2, he2, hs2⟩ := HRW.out.drop k HLK.out
          injection he2 with he2
          injection he2 with he2 he3
          subst he2 he3
          have SR := Lib.hid hs2
          clear hx0 hxe hs2
          go_wp2_with fail
          have HDW := Lib.hid (fun k (hk : D k) => Nat.lt_of_lt_of_le (HD.out k hk) Bb.out.size)
          refine sx_startB (B := wb.heap.size) (w0 := wb) (by kernel_rfl) (Below.refl _ _) (fun wd hwd hX => ?_)
          have SZ := Lib.hid hX.size
          clear hwd
          refine sx_take (i := 1) (oi := ⟨some 35, _, _, _, _, _⟩) (v := ?_) rfl (by kernel_rfl) (by kernel_rfl) (by kernel_rfl) (fun _ _ _ h => h) rfl hX ?_ ?_; rotate_left; (intro W hW; go_simp; try with_reducible rfl); simp only [Act.put, List.setIfInBounds_toArray, List.set_cons_zero, List.set_cons_succ]
          refine sx_take (i := 2) (oi := ⟨some 36, _, _, _, _, _⟩) (v := ?_) rfl (by kernel_rfl) (by kernel_rfl) (by kernel_rfl) (fun _ _ _ h => h) rfl hX ?_ ?_; rotate_left; (intro W hW; go_simp; try with_reducible rfl); simp only [Act.put, List.setIfInBounds_toArray, List.set_cons_zero, List.set_cons_succ]
          refine sx_take (i := 3) (oi := ⟨some 37, _, _, _, _, _⟩) (v := ?_) rfl (by kernel_rfl) (by kernel_rfl) (by kernel_rfl) (fun _ _ _ h => h) rfl hX ?_ ?_; rotate_left; (intro W hW; go_simp; try with_reducible rfl); simp only [Act.put, List.setIfInBounds_toArray, List.set_cons_zero, List.set_cons_succ]
          refine sx_take (i := 5) (oi := ⟨some 39, _, _, _, _, _⟩) (v := .agg rs.toArray) rfl (by kernel_rfl) (by kernel_rfl) (by kernel_rfl) (fun _ _ _ h => h) rfl hX (ld_blk 27 _ rfl w.heap.size rfl 27 _ _ KW.out KW.out.lt Tryd.underlying27 rfl (size_rx HR6.out)) ?_; simp only [Act.put, List.setIfInBounds_toArray, List.set_cons_zero, List.set_cons_succ]
          refine sx_take (i := 8) (oi := ⟨some 42, _, _, _, _, _⟩) (v := ?_) rfl (by kernel_rfl) (by kernel_rfl) (by kernel_rfl) (fun _ _ _ h => h) rfl hX ?_ ?_; rotate_left; (intro W hW; go_simp; try with_reducible rfl); simp only [Act.put, List.setIfInBounds_toArray, List.set_cons_zero, List.set_cons_succ]
          refine sx_take (i := 9) (oi := ⟨some 43, _, _, _, _, _⟩) (v := ?_) rfl (by kernel_rfl) (by kernel_rfl) (by kernel_rfl) (fun _ _ _ h => h) rfl hX ?_ ?_; rotate_left; (intro W hW; go_simp; try with_reducible rfl); simp only [Act.put, List.setIfInBounds_toArray, List.set_cons_zero, List.set_cons_succ]
          refine sx_take (i := 10) (oi := ⟨some 44, _, _, _, _, _⟩) (v := ?_) rfl (by kernel_rfl) (by kernel_rfl) (by kernel_rfl) (fun _ _ _ h => h) rfl hX ?_ ?_; rotate_left; (intro W hW; go_simp; try first | with_reducible rfl | (simp only [if_neg hck]; with_reducible rfl)); simp only [Act.put, List.setIfInBounds_toArray, List.set_cons_zero, List.set_cons_succ]
          refine sx_two (i := 0) (j := 6) (oi := ⟨some 34, _, _, _, _, _⟩) (oj := ⟨some 40, _, _, _, _, _⟩) rfl rfl (by kernel_rfl) rfl rfl hX (fun K hK => ?_) (fun K hK => ?_)
          · refine wp_bldT0 rfl ?_
            intro v34 w34 ho34 hb34
            have O34 := Lib.hid (ho34 D)
            refine hK _ _ (hb34.mono SZ.out) ?_
            clear hK K
            replace hX := hX.trans (hb34.mono SZ.out)
            have S34 := Lib.hid (Nat.le_trans SZ.out hb34.size)
            clear ho34
            have O := Lib.hid (O34.out.low SZ.out)
            refine sx_two (i := 4) (j := 6) (oi := ⟨some 38, _, _, _, _, _⟩) (oj := ⟨some 40, _, _, _, _, _⟩) rfl rfl (by kernel_rfl) rfl rfl hX (fun K hK => ?_) (fun K hK => ?_)
            · refine wp_appTs (D := D) (D' := D) (base := wb.heap.size) (.tmp 34) (.tmp 37) rfl i0 hi0 HZ1.out hz1 hz2 v34 [] rfl O.out _ (l.take k) rfl (PR.out.keep hX HDW.out) (fun q hq => ⟨hq, Nat.lt_of_lt_of_le (HDW.out q hq) hX.size, fun he => by have h1 := O.out.ge q he.symm; have h2 := HDW.out q hq; omega⟩) (by have h1 := HL1.out; simpa using h1) hX.size ?_
              intro v38 w38 ho38 hg38
              have B38 := Lib.hid ((Below.refl wb.heap.size w34).grown hg38 hX.size (fun q hq => O.out.ge q hq))
              refine hK _ _ B38.out ?_
              clear hK K
              replace hX := hX.trans B38.out
              have O38 := Lib.hid (show OwnT D wb.heap.size w38 v38 (l.take k) by have h1 := ho38; rwa [List.nil_append] at h1)
              refine sx_actB (i := 6) (o := ⟨some 40, _, _, _, _, _⟩) rfl (by kernel_rfl) rfl hX (fun K hK => ?_)
              refine wp_bldT1 25 27 (.tmp 39) rfl i0 Tryd.underlying25 hi0 HZ1.out hz1 rs HR6.out rfl ?_
              intro w40 hk40 hb40 hs40
              refine hK _ _ (hb40.mono hX.size) ?_
              clear hK K
              replace hX := hX.trans (hb40.mono hX.size)
              have K40 := Lib.hid hk40
              have O41 := Lib.hid (O38.out.stay hb40)
              have K41 := Lib.hid hk40
              obtain ⟨WW, hWW⟩ : ∃ WW, WW = w40 := ⟨_, rfl⟩
              subst hWW
              refine sx_actB (i := 7) (o := ⟨some 41, _, _, _, _, _⟩) rfl (by kernel_rfl) rfl hX (fun K hK => ?_)
              have V41 := Lib.hid (RxD.mono (HVR.out.keep hX HDW.out) (D' := fun k => D k ∧ k < WW.heap.size ∧ some k ≠ v38.ownBlock) fun k hk => ⟨hk, Nat.lt_of_lt_of_le (HDW.out k hk) hX.size, fun he => by have h1 := O41.out.ge k he.symm; have h2 := HDW.out k hk; omega⟩)
              refine wp_appT (D := D) (base := wb.heap.size) (.tmp 38) (.tmp 40) rfl i0 hi0 HZ1.out hz1 hz2 v38 _ rfl O41.out _ 1 27 rs r rfl K41.out V41.out HL2.out hX.size ?_
              intro v42 w42 ho42 hg42
              have B42 := Lib.hid ((Below.refl wb.heap.size WW).grown hg42 hX.size (fun q hq => O41.out.ge q hq))
              refine hK _ _ B42.out ?_
              clear hK K
              replace hX := hX.trans B42.out
              have O42 := Lib.hid ho42
              clear ho42 hg42
              refine sx_actB (i := 11) (o := ⟨some 45, _, _, _, _, _⟩) rfl (by kernel_rfl) rfl hX (fun K hK => ?_)
              refine wp_appTs (D := D) (D' := D) (base := wb.heap.size) (.tmp 41) (.tmp 44) rfl i0 hi0 HZ1.out hz1 hz2 v42 _ rfl O42.out _ (l.drop k) rfl (SR.out.keep hX HDW.out) (fun q hq => ⟨hq, Nat.lt_of_lt_of_le (HDW.out q hq) hX.size, fun he => by have h1 := O42.out.ge q he.symm; have h2 := HDW.out q hq; omega⟩) HL3.out hX.size ?_
              intro v45 w45 ho45 hg45
              have B45 := Lib.hid ((Below.refl wb.heap.size w42).grown hg45 hX.size (fun q hq => O42.out.ge q hq))
              refine hK _ _ B45.out ?_
              clear hK K
              replace hX := hX.trans B45.out
              have O45 := Lib.hid ho45
              clear ho45 hg45
              refine sx_take (i := 12) (oi := ⟨some 4, _, _, _, _, _⟩) (v := ?_) rfl (by kernel_rfl) (by kernel_rfl) (by kernel_rfl) (fun _ _ _ h => h) rfl hX ?_ ?_; rotate_left; (intro W hW; go_simp; try with_reducible rfl); simp only [Act.put, List.setIfInBounds_toArray, List.set_cons_zero, List.set_cons_succ]
              refine wpAnyH_done (by kernel_rfl) ?_ _
              have B9 := Lib.hid (Bb.out.trans (hX.mono Bb.out.size))
              go_wp2_with fail
              go_ret
              refine ⟨_, rfl, ?_, B9.out⟩
              rw [HINS.out]
              exact O45.out.rowD.mono fun k hk => by have h1 := Bb.out.size; rcases hk.1 with h | h; exact .inl h; exact .inr ⟨Nat.le_trans h1 h, hk.2⟩
            · refine wp_bldT1 25 27 (.tmp 39) rfl i0 Tryd.underlying25 hi0 HZ1.out hz1 rs HR6.out rfl ?_
              intro w40 hk40 hb40 hs40
              refine hK _ _ (hb40.mono hX.size) ?_
              clear hK K
              replace hX := hX.trans (hb40.mono hX.size)
              have K40 := Lib.hid hk40
              have O := Lib.hid (O.out.stay hb40)
              have LT34 := Lib.hid (fun q (hq : v34.ownBlock = some q) => O34.out.lt q hq)
              refine sx_actB (i := 4) (o := ⟨some 38, _, _, _, _, _⟩) rfl (by kernel_rfl) rfl hX (fun K hK => ?_)
              refine wp_appTs (D := D) (D' := D) (base := wb.heap.size) (.tmp 34) (.tmp 37) rfl i0 hi0 HZ1.out hz1 hz2 v34 [] rfl O.out _ (l.take k) rfl (PR.out.keep hX HDW.out) (fun q hq => ⟨hq, Nat.lt_of_lt_of_le (HDW.out q hq) hX.size, fun he => by have h1 := O.out.ge q he.symm; have h2 := HDW.out q hq; omega⟩) (by have h1 := HL1.out; simpa using h1) hX.size ?_
              intro v38 w38 ho38 hg38
              have B38 := Lib.hid ((Below.refl wb.heap.size w40).grown hg38 hX.size (fun q hq => O.out.ge q hq))
              refine hK _ _ B38.out ?_
              clear hK K
              replace hX := hX.trans B38.out
              have O38 := Lib.hid (show OwnT D wb.heap.size w38 v38 (l.take k) by have h1 := ho38; rwa [List.nil_append] at h1)
              have K41 := Lib.hid ((hg38.block _ K40.out.lt (fun e => by have h1 := LT34.out _ e.symm; omega)).trans K40.out)
              have O41 := O38
              obtain ⟨WW, hWW⟩ : ∃ WW, WW = w38 := ⟨_, rfl⟩
              subst hWW
              refine sx_actB (i := 7) (o := ⟨some 41, _, _, _, _, _⟩) rfl (by kernel_rfl) rfl hX (fun K hK => ?_)
              have V41 := Lib.hid (RxD.mono (HVR.out.keep hX HDW.out) (D' := fun k => D k ∧ k < WW.heap.size ∧ some k ≠ v38.ownBlock) fun k hk => ⟨hk, Nat.lt_of_lt_of_le (HDW.out k hk) hX.size, fun he => by have h1 := O41.out.ge k he.symm; have h2 := HDW.out k hk; omega⟩)
              refine wp_appT (D := D) (base := wb.heap.size) (.tmp 38) (.tmp 40) rfl i0 hi0 HZ1.out hz1 hz2 v38 _ rfl O41.out _ 1 27 rs r rfl K41.out V41.out HL2.out hX.size ?_
              intro v42 w42 ho42 hg42
              have B42 := Lib.hid ((Below.refl wb.heap.size WW).grown hg42 hX.size (fun q hq => O41.out.ge q hq))
              refine hK _ _ B42.out ?_
              clear hK K
              replace hX := hX.trans B42.out
              have O42 := Lib.hid ho42
              clear ho42 hg42
              refine sx_actB (i := 11) (o := ⟨some 45, _, _, _, _, _⟩) rfl (by kernel_rfl) rfl hX (fun K hK => ?_)
              refine wp_appTs (D := D) (D' := D) (base := wb.heap.size) (.tmp 41) (.tmp 44) rfl i0 hi0 HZ1.out hz1 hz2 v42 _ rfl O42.out _ (l.drop k) rfl (SR.out.keep hX HDW.out) (fun q hq => ⟨hq, Nat.lt_of_lt_of_le (HDW.out q hq) hX.size, fun he => by have h1 := O42.out.ge q he.symm; have h2 := HDW.out q hq; omega⟩) HL3.out hX.size ?_
              intro v45 w45 ho45 hg45
              have B45 := Lib.hid ((Below.refl wb.heap.size w42).grown hg45 hX.size (fun q hq => O42.out.ge q hq))
              refine hK _ _ B45.out ?_
              clear hK K
              replace hX := hX.trans B45.out
              have O45 := Lib.hid ho45
              clear ho45 hg45
              refine sx_take (i := 12) (oi := ⟨some 4, _, _, _, _, _⟩) (v := ?_) rfl (by kernel_rfl) (by kernel_rfl) (by kernel_rfl) (fun _ _ _ h => h) rfl hX ?_ ?_; rotate_left; (intro W hW; go_simp; try with_reducible rfl); simp only [Act.put, List.setIfInBounds_toArray, List.set_cons_zero, List.set_cons_succ]
              refine wpAnyH_done (by kernel_rfl) ?_ _
              have B9 := Lib.hid (Bb.out.trans (hX.mono Bb.out.size))
              go_wp2_with fail
              go_ret
              refine ⟨_, rfl, ?_, B9.out⟩
              rw [HINS.out]
              exact O45.out.rowD.mono fun k hk => by have h1 := Bb.out.size; rcases hk.1 with h | h; exact .inl h; exact .inr ⟨Nat.le_trans h1 h, hk.2⟩
          · refine wp_bldT1 25 27 (.tmp 39) rfl i0 Tryd.underlying25 hi0 HZ1.out hz1 rs HR6.out rfl ?_
            intro w40 hk40 hb40 hs40
            refine hK _ _ (hb40.mono SZ.out) ?_
            clear hK K
            replace hX := hX.trans (hb40.mono SZ.out)
            have K40 := Lib.hid hk40
            have SZ' := Lib.hid (Nat.le_trans SZ.out hb40.size)
            refine sx_actB (i := 0) (o := ⟨some 34, _, _, _, _, _⟩) rfl (by kernel_rfl) rfl hX (fun K hK => ?_)
            refine wp_bldT0 rfl ?_
            intro v34 w34 ho34 hb34
            have O34 := Lib.hid (ho34 D)
            refine hK _ _ (hb34.mono SZ'.out) ?_
            clear hK K
            replace hX := hX.trans (hb34.mono SZ'.out)
            have S34 := Lib.hid (Nat.le_trans SZ'.out hb34.size)
            clear ho34
            have O := Lib.hid (O34.out.low SZ'.out)
            have GE34 := Lib.hid (fun q (hq : v34.ownBlock = some q) => O34.out.ge q hq)
            have K41' := Lib.hid (K40.out.below hb34 K40.out.lt)
            have LT40 := Lib.hid K40.out.lt
            refine sx_actB (i := 4) (o := ⟨some 38, _, _, _, _, _⟩) rfl (by kernel_rfl) rfl hX (fun K hK => ?_)
            refine wp_appTs (D := D) (D' := D) (base := wb.heap.size) (.tmp 34) (.tmp 37) rfl i0 hi0 HZ1.out hz1 hz2 v34 [] rfl O.out _ (l.take k) rfl (PR.out.keep hX HDW.out) (fun q hq => ⟨hq, Nat.lt_of_lt_of_le (HDW.out q hq) hX.size, fun he => by have h1 := O.out.ge q he.symm; have h2 := HDW.out q hq; omega⟩) (by have h1 := HL1.out; simpa using h1) hX.size ?_
            intro v38 w38 ho38 hg38
            have B38 := Lib.hid ((Below.refl wb.heap.size w34).grown hg38 hX.size (fun q hq => O.out.ge q hq))
            refine hK _ _ B38.out ?_
            clear hK K
            replace hX := hX.trans B38.out
            have O38 := Lib.hid (show OwnT D wb.heap.size w38 v38 (l.take k) by have h1 := ho38; rwa [List.nil_append] at h1)
            have K41 := Lib.hid ((hg38.block _ K41'.out.lt (fun e => by have h1 := GE34.out _ e.symm; have h2 := LT40.out; omega)).trans K41'.out)
            have O41 := O38
            obtain ⟨WW, hWW⟩ : ∃ WW, WW = w38 := ⟨_, rfl⟩
            subst hWW
            refine sx_actB (i := 7) (o := ⟨some 41, _, _, _, _, _⟩) rfl (by kernel_rfl) rfl hX (fun K hK => ?_)
            have V41 := Lib.hid (RxD.mono (HVR.out.keep hX HDW.out) (D' := fun k => D k ∧ k < WW.heap.size ∧ some k ≠ v38.ownBlock) fun k hk => ⟨hk, Nat.lt_of_lt_of_le (HDW.out k hk) hX.size, fun he => by have h1 := O41.out.ge k he.symm; have h2 := HDW.out k hk; omega⟩)
            refine wp_appT (D := D) (base := wb.heap.size) (.tmp 38) (.tmp 40) rfl i0 hi0 HZ1.out hz1 hz2 v38 _ rfl O41.out _ 1 27 rs r rfl K41.out V41.out HL2.out hX.size ?_
            intro v42 w42 ho42 hg42
            have B42 := Lib.hid ((Below.refl wb.heap.size WW).grown hg42 hX.size (fun q hq => O41.out.ge q hq))
            refine hK _ _ B42.out ?_
            clear hK K
            replace hX := hX.trans B42.out
            have O42 := Lib.hid ho42
            clear ho42 hg42
            refine sx_actB (i := 11) (o := ⟨some 45, _, _, _, _, _⟩) rfl (by kernel_rfl) rfl hX (fun K hK => ?_)
            refine wp_appTs (D := D) (D' := D) (base := wb.heap.size) (.tmp 41) (.tmp 44) rfl i0 hi0 HZ1.out hz1 hz2 v42 _ rfl O42.out _ (l.drop k) rfl (SR.out.keep hX HDW.out) (fun q hq => ⟨hq, Nat.lt_of_lt_of_le (HDW.out q hq) hX.size, fun he => by have h1 := O42.out.ge q he.symm; have h2 := HDW.out q hq; omega⟩) HL3.out hX.size ?_
            intro v45 w45 ho45 hg45
            have B45 := Lib.hid ((Below.refl wb.heap.size w42).grown hg45 hX.size (fun q hq => O42.out.ge q hq))
            refine hK _ _ B45.out ?_
            clear hK K
            replace hX := hX.trans B45.out
            have O45 := Lib.hid ho45
            clear ho45 hg45
            refine sx_take (i := 12) (oi := ⟨some 4, _, _, _, _, _⟩) (v := ?_) rfl (by kernel_rfl) (by kernel_rfl) (by kernel_rfl) (fun _ _ _ h => h) rfl hX ?_ ?_; rotate_left; (intro W hW; go_simp; try with_reducible rfl); simp only [Act.put, List.setIfInBounds_toArray, List.set_cons_zero, List.set_cons_succ]
            refine wpAnyH_done (by kernel_rfl) ?_ _
            have B9 := Lib.hid (Bb.out.trans (hX.mono Bb.out.size))
            go_wp2_with fail
            go_ret
            refine ⟨_, rfl, ?_, B9.out⟩
            rw [HINS.out]
            exact O45.out.rowD.mono fun k hk => by have h1 := Bb.out.size; rcases hk.1 with h | h; exact .inl h; exact .inr ⟨Nat.le_trans h1 h, hk.2⟩
    · obtain rfl : k = n := by omega
      have j1 : ¬ ((k : Int) < (k : Int)) := by omega
      have HINS := Lib.hid (show insT r l = l.take k ++ [r] ++ l.drop k by
        rw [insT_at r l k HLS.out (by rw [HNL.out]; exact Nat.le_refl _) (fun h => by rw [HNL.out] at h; omega), if_neg (fun h => by have := h.1; rw [HNL.out] at this; omega)])
      have HDN := Lib.hid (show l.drop k = [] by rw [HNL.out]; simp)
      go_wp2_with fail
      refine sx_startB (B := wr.heap.size) (w0 := wr) (by kernel_rfl) (Below.refl _ _) (fun wd hwd hX => ?_)
      clear hwd
      refine sx_take (i := 0) (oi := ⟨some 6, _, _, _, _, _⟩) (v := ?_) rfl (by kernel_rfl) (by kernel_rfl) (by kernel_rfl) (fun _ _ _ h => h) rfl hX ?_ ?_; rotate_left; (intro W hW; go_simp; try with_reducible rfl); simp only [Act.put, List.setIfInBounds_toArray, List.set_cons_zero, List.set_cons_succ]
      refine sx_take (i := 1) (oi := ⟨some 7, _, _, _, _, _⟩) (v := ?_) rfl (by kernel_rfl) (by kernel_rfl) (by kernel_rfl) (fun _ _ _ h => h) rfl hX ?_ ?_; rotate_left; (intro W hW; go_simp; try with_reducible rfl); simp only [Act.put, List.setIfInBounds_toArray, List.set_cons_zero, List.set_cons_succ]
      refine sx_take (i := 2) (oi := ⟨some 8, _, _, _, _, _⟩) (v := ?_) rfl (by kernel_rfl) (by kernel_rfl) (by kernel_rfl) (fun _ _ _ h => h) rfl hX ?_ ?_; rotate_left; (intro W hW; go_simp; try with_reducible rfl); simp only [Act.put, List.setIfInBounds_toArray, List.set_cons_zero, List.set_cons_succ]
      refine sx_take (i := 3) (oi := ⟨some 9, _, _, _, _, _⟩) (v := ?_) rfl (by kernel_rfl) (by kernel_rfl) (by kernel_rfl) (fun _ _ _ h => h) rfl hX ?_ ?_; rotate_left; (intro W hW; go_simp; try with_reducible rfl); simp only [Act.put, List.setIfInBounds_toArray, List.set_cons_zero, List.set_cons_succ]
      refine sx_take (i := 4) (oi := ⟨some 10, _, _, _, _, _⟩) (v := ?_) rfl (by kernel_rfl) (by kernel_rfl) (by kernel_rfl) (fun _ _ _ h => h) rfl hX ?_ ?_; rotate_left; (intro W hW; go_simp; try with_reducible rfl); simp only [Act.put, List.setIfInBounds_toArray, List.set_cons_zero, List.set_cons_succ]
      refine sx_skip (i := 5) (oi := ⟨some 11, _, _, _, _, _⟩) rfl (by kernel_rfl) (by kernel_rfl) (by kernel_rfl) (fun _ _ _ h => h) rfl hX ?_; simp only [Act.put, List.setIfInBounds_toArray, List.set_cons_zero, List.set_cons_succ]
      refine sx_skip (i := 6) (oi := ⟨some 12, _, _, _, _, _⟩) rfl (by kernel_rfl) (by kernel_rfl) (by kernel_rfl) (fun _ _ _ h => h) rfl hX ?_; simp only [Act.put, List.setIfInBounds_toArray, List.set_cons_zero, List.set_cons_succ]
      refine sx_skip (i := 7) (oi := ⟨some 13, _, _, _, _, _⟩) rfl (by kernel_rfl) (by kernel_rfl) (by kernel_rfl) (fun _ _ _ h => h) rfl hX ?_; simp only [Act.put, List.setIfInBounds_toArray, List.set_cons_zero, List.set_cons_succ]
      refine sx_skip (i := 8) (oi := ⟨some 14, _, _, _, _, _⟩) rfl (by kernel_rfl) (by kernel_rfl) (by kernel_rfl) (fun _ _ _ h => h) rfl hX ?_; simp only [Act.put, List.setIfInBounds_toArray, List.set_cons_zero, List.set_cons_succ]
      refine sx_skip (i := 9) (oi := ⟨some 15, _, _, _, _, _⟩) rfl (by kernel_rfl) (by kernel_rfl) (by kernel_rfl) (fun _ _ _ h => h) rfl hX ?_; simp only [Act.put, List.setIfInBounds_toArray, List.set_cons_zero, List.set_cons_succ]
      refine sx_skip (i := 10) (oi := ⟨some 16, _, _, _, _, _⟩) rfl (by kernel_rfl) (by kernel_rfl) (by kernel_rfl) (fun _ _ _ h => h) rfl hX ?_; simp only [Act.put, List.setIfInBounds_toArray, List.set_cons_zero, List.set_cons_succ]
      refine sx_skip (i := 11) (oi := ⟨some 17, _, _, _, _, _⟩) rfl (by kernel_rfl) (by kernel_rfl) (by kernel_rfl) (fun _ _ _ h => h) rfl hX ?_; simp only [Act.put, List.setIfInBounds_toArray, List.set_cons_zero, List.set_cons_succ]
      refine sx_take (i := 12) (oi := ⟨some 18, _, _, _, _, _⟩) (v := ?_) rfl (by kernel_rfl) (by kernel_rfl) (by kernel_rfl) (fun _ _ _ h => h) rfl hX ?_ ?_; rotate_left; (intro W hW; go_simp; try with_reducible rfl); simp only [Act.put, List.setIfInBounds_toArray, List.set_cons_zero, List.set_cons_succ]
      refine wpAnyH_done (by kernel_rfl) ?_ _
      have Ba := Lib.hid (Br.out.trans (hX.mono Br.out.size))
      have Ka := Lib.hid (Kr.out.below hX Kr.out.lt)
      clear hX
      obtain ⟨wa, hwa⟩ : ∃ wa, wa = wd := ⟨_, rfl⟩
      subst hwa
      go_wp2_with fail
      refine sx_startB (B := wa.heap.size) (w0 := wa) (by kernel_rfl) (Below.refl _ _) (fun wd hwd hX => ?_)
      clear hwd
      refine sx_take (i := 0) (oi := ⟨some 21, _, _, _, _, _⟩) (v := ?_) rfl (by kernel_rfl) (by kernel_rfl) (by kernel_rfl) (fun _ _ _ h => h) rfl hX ?_ ?_; rotate_left; (intro W hW; go_simp; try with_reducible rfl); simp only [Act.put, List.setIfInBounds_toArray, List.set_cons_zero, List.set_cons_succ]
      refine sx_take (i := 1) (oi := ⟨some 22, _, _, _, _, _⟩) (v := ?_) rfl (by kernel_rfl) (by kernel_rfl) (by kernel_rfl) (fun _ _ _ h => h) rfl hX ?_ ?_; rotate_left; (intro W hW; go_simp; try with_reducible rfl); simp only [Act.put, List.setIfInBounds_toArray, List.set_cons_zero, List.set_cons_succ]
      refine sx_take (i := 2) (oi := ⟨some 23, _, _, _, _, _⟩) (v := ?_) rfl (by kernel_rfl) (by kernel_rfl) (by kernel_rfl) (fun _ _ _ h => h) rfl hX ?_ ?_; rotate_left; (intro W hW; go_simp; try with_reducible rfl); simp only [Act.put, List.setIfInBounds_toArray, List.set_cons_zero, List.set_cons_succ]
      refine sx_take (i := 3) (oi := ⟨some 24, _, _, _, _, _⟩) (v := ?_) rfl (by kernel_rfl) (by kernel_rfl) (by kernel_rfl) (fun _ _ _ h => h) rfl hX ?_ ?_; rotate_left; (intro W hW; go_simp; try with_reducible rfl); simp only [Act.put, List.setIfInBounds_toArray, List.set_cons_zero, List.set_cons_succ]
      refine sx_take (i := 4) (oi := ⟨some 25, _, _, _, _, _⟩) (v := ?_) rfl (by kernel_rfl) (by kernel_rfl) (by kernel_rfl) (fun _ _ _ h => h) rfl hX ?_ ?_; rotate_left; (intro W hW; go_simp; try with_reducible rfl); simp only [Act.put, List.setIfInBounds_toArray, List.set_cons_zero, List.set_cons_succ]
      refine sx_skip (i := 5) (oi := ⟨some 26, _, _, _, _, _⟩) rfl (by kernel_rfl) (by kernel_rfl) (by kernel_rfl) (fun _ _ _ h => h) rfl hX ?_; simp only [Act.put, List.setIfInBounds_toArray, List.set_cons_zero, List.set_cons_succ]
      refine sx_skip (i := 6) (oi := ⟨some 27, _, _, _, _, _⟩) rfl (by kernel_rfl) (by kernel_rfl) (by kernel_rfl) (fun _ _ _ h => h) rfl hX ?_; simp only [Act.put, List.setIfInBounds_toArray, List.set_cons_zero, List.set_cons_succ]
      refine sx_skip (i := 7) (oi := ⟨some 28, _, _, _, _, _⟩) rfl (by kernel_rfl) (by kernel_rfl) (by kernel_rfl) (fun _ _ _ h => h) rfl hX ?_; simp only [Act.put, List.setIfInBounds_toArray, List.set_cons_zero, List.set_cons_succ]
      refine sx_skip (i := 8) (oi := ⟨some 29, _, _, _, _, _⟩) rfl (by kernel_rfl) (by kernel_rfl) (by kernel_rfl) (fun _ _ _ h => h) rfl hX ?_; simp only [Act.put, List.setIfInBounds_toArray, List.set_cons_zero, List.set_cons_succ]
      refine sx_skip (i := 9) (oi := ⟨some 30, _, _, _, _, _⟩) rfl (by kernel_rfl) (by kernel_rfl) (by kernel_rfl) (fun _ _ _ h => h) rfl hX ?_; simp only [Act.put, List.setIfInBounds_toArray, List.set_cons_zero, List.set_cons_succ]
      refine sx_skip (i := 10) (oi := ⟨some 31, _, _, _, _, _⟩) rfl (by kernel_rfl) (by kernel_rfl) (by kernel_rfl) (fun _ _ _ h => h) rfl hX ?_; simp only [Act.put, List.setIfInBounds_toArray, List.set_cons_zero, List.set_cons_succ]
      refine sx_take (i := 11) (oi := ⟨some 32, _, _, _, _, _⟩) (v := ?_) rfl (by kernel_rfl) (by kernel_rfl) (by kernel_rfl) (fun _ _ _ h => h) rfl hX ?_ ?_; rotate_left; (intro W hW; go_simp; try with_reducible rfl); simp only [Act.put, List.setIfInBounds_toArray, List.set_cons_zero, List.set_cons_succ]
      refine wpAnyH_done (by kernel_rfl) ?_ _
      have Bb := Lib.hid (Ba.out.trans (hX.mono Ba.out.size))
      have KW := Lib.hid (Ka.out.below hX Ka.out.lt)
      clear hX
      obtain ⟨wb, hwb⟩ : ∃ wb, wb = wd := ⟨_, rfl⟩
      subst hwb
      have hk0 : (0 : Int) ≤ (k : Int) := by omega
      have HVR := Lib.hid (HV.out.keep Bb.out HD.out)
      have HRW := Lib.hid (HR.out.keep Bb.out HD.out)
      have PR := Lib.hid (HRW.out.take k (by rw [← HNL.out]; omega))
      have HLT := Lib.hid (show (l.take k).length = k by rw [List.length_take, ← HNL.out]; omega)
      have HL1 := Lib.hid (show (l.take k).length ≤ 1099511627776 by have h1 := HLT.out; have h2 := HN.out; omega)
      have HL2 := Lib.hid (show (l.take k).length + 1 ≤ 1099511627776 by have h1 := HLT.out; have h2 := HN.out; omega)
      have HL3 := Lib.hid (show (l.take k ++ [r]).length + (l.drop k).length ≤ 1099511627776 by rw [List.length_append, List.length_drop, ← HNL.out]; have h1 := HLT.out; have h2 := HN.out; simp only [List.length_cons, List.length_nil]; omega)
      by_cases hkc0 : k < cap
      · have hkc : (k : Int) < (cap : Int) := by omega
        have hck : ¬ (cap = k) := by omega
        have SR := Lib.hid (show RowD D wb (.slice (some ⟨b, off + k * 6, none⟩) 0 (cap - k)) (l.drop k) by
          rw [HDN.out]
          exact ⟨_, _, fun _ => [], rfl, Nat.zero_le _, by have := HCM.out; omega, fun h => (by cases h), fun h => absurd rfl h, fun i t h => by simp at h⟩)
        clear hkc0
        go_wp2_with fail
        have HDW := Lib.hid (fun k (hk : D k) => Nat.lt_of_lt_of_le (HD.out k hk) Bb.out.size)
        refine sx_startB (B := wb.heap.size) (w0 := wb) (by kernel_rfl) (Below.refl _ _) (fun wd hwd hX => ?_)
        have SZ := Lib.hid hX.size
        clear hwd
        refine sx_take (i := 1) (oi := ⟨some 35, _, _, _, _, _⟩) (v := ?_) rfl (by kernel_rfl) (by kernel_rfl) (by kernel_rfl) (fun _ _ _ h => h) rfl hX ?_ ?_; rotate_left; (intro W hW; go_simp; try with_reducible rfl); simp only [Act.put, List.setIfInBounds_toArray, List.set_cons_zero, List.set_cons_succ]
        refine sx_take (i := 2) (oi := ⟨some 36, _, _, _, _, _⟩) (v := ?_) rfl (by kernel_rfl) (by kernel_rfl) (by kernel_rfl) (fun _ _ _ h => h) rfl hX ?_ ?_; rotate_left; (intro W hW; go_simp; try with_reducible rfl); simp only [Act.put, List.setIfInBounds_toArray, List.set_cons_zero, List.set_cons_succ]
        refine sx_take (i := 3) (oi := ⟨some 37, _, _, _, _, _⟩) (v := ?_) rfl (by kernel_rfl) (by kernel_rfl) (by kernel_rfl) (fun _ _ _ h => h) rfl hX ?_ ?_; rotate_left; (intro W hW; go_simp; try with_reducible rfl); simp only [Act.put, List.setIfInBounds_toArray, List.set_cons_zero, List.set_cons_succ]
        refine sx_take (i := 5) (oi := ⟨some 39, _, _, _, _, _⟩) (v := .agg rs.toArray) rfl (by kernel_rfl) (by kernel_rfl) (by kernel_rfl) (fun _ _ _ h => h) rfl hX (ld_blk 27 _ rfl w.heap.size rfl 27 _ _ KW.out KW.out.lt Tryd.underlying27 rfl (size_rx HR6.out)) ?_; simp only [Act.put, List.setIfInBounds_toArray, List.set_cons_zero, List.set_cons_succ]
        refine sx_take (i := 8) (oi := ⟨some 42, _, _, _, _, _⟩) (v := ?_) rfl (by kernel_rfl) (by kernel_rfl) (by kernel_rfl) (fun _ _ _ h => h) rfl hX ?_ ?_; rotate_left; (intro W hW; go_simp; try with_reducible rfl); simp only [Act.put, List.setIfInBounds_toArray, List.set_cons_zero, List.set_cons_succ]
        refine sx_take (i := 9) (oi := ⟨some 43, _, _, _, _, _⟩) (v := ?_) rfl (by kernel_rfl) (by kernel_rfl) (by kernel_rfl) (fun _ _ _ h => h) rfl hX ?_ ?_; rotate_left; (intro W hW; go_simp; try with_reducible rfl); simp only [Act.put, List.setIfInBounds_toArray, List.set_cons_zero, List.set_cons_succ]
        refine sx_take (i := 10) (oi := ⟨some 44, _, _, _, _, _⟩) (v := ?_) rfl (by kernel_rfl) (by kernel_rfl) (by kernel_rfl) (fun _ _ _ h => h) rfl hX ?_ ?_; rotate_left; (intro W hW; go_simp; try first | with_reducible rfl | (simp only [if_neg hck]; with_reducible rfl)); simp only [Act.put, List.setIfInBounds_toArray, List.set_cons_zero, List.set_cons_succ]
        refine sx_two (i := 0) (j := 6) (oi := ⟨some 34, _, _, _, _, _⟩) (oj := ⟨some 40, _, _, _, _, _⟩) rfl rfl (by kernel_rfl) rfl rfl hX (fun K hK => ?_) (fun K hK => ?_)
        · refine wp_bldT0 rfl ?_
          intro v34 w34 ho34 hb34
          have O34 := Lib.hid (ho34 D)
          refine hK _ _ (hb34.mono SZ.out) ?_
          clear hK K
          replace hX := hX.trans (hb34.mono SZ.out)
          have S34 := Lib.hid (Nat.le_trans SZ.out hb34.size)
          clear ho34
          have O := Lib.hid (O34.out.low SZ.out)
          refine sx_two (i := 4) (j := 6) (oi := ⟨some 38, _, _, _, _, _⟩) (oj := ⟨some 40, _, _, _, _, _⟩) rfl rfl (by kernel_rfl) rfl rfl hX (fun K hK => ?_) (fun K hK => ?_)
          · refine wp_appTs (D := D) (D' := D) (base := wb.heap.size) (.tmp 34) (.tmp 37) rfl i0 hi0 HZ1.out hz1 hz2 v34 [] rfl O.out _ (l.take k) rfl (PR.out.keep hX HDW.out) (fun q hq => ⟨hq, Nat.lt_of_lt_of_le (HDW.out q hq) hX.size, fun he => by have h1 := O.out.ge q he.symm; have h2 := HDW.out q hq; omega⟩) (by have h1 := HL1.out; simpa using h1) hX.size ?_
            intro v38 w38 ho38 hg38
            have B38 := Lib.hid ((Below.refl wb.heap.size w34).grown hg38 hX.size (fun q hq => O.out.ge q hq))
            refine hK _ _ B38.out ?_
            clear hK K
            replace hX := hX.trans B38.out
            have O38 := Lib.hid (show OwnT D wb.heap.size w38 v38 (l.take k) by have h1 := ho38; rwa [List.nil_append] at h1)
            refine sx_actB (i := 6) (o := ⟨some 40, _, _, _, _, _⟩) rfl (by kernel_rfl) rfl hX (fun K hK => ?_)
            refine wp_bldT1 25 27 (.tmp 39) rfl i0 Tryd.underlying25 hi0 HZ1.out hz1 rs HR6.out rfl ?_
            intro w40 hk40 hb40 hs40
            refine hK _ _ (hb40.mono hX.size) ?_
            clear hK K
            replace hX := hX.trans (hb40.mono hX.size)
            have K40 := Lib.hid hk40
            have O41 := Lib.hid (O38.out.stay hb40)
            have K41 := Lib.hid hk40
            obtain ⟨WW, hWW⟩ : ∃ WW, WW = w40 := ⟨_, rfl⟩
            subst hWW
            refine sx_actB (i := 7) (o := ⟨some 41, _, _, _, _, _⟩) rfl (by kernel_rfl) rfl hX (fun K hK => ?_)
            have V41 := Lib.hid (RxD.mono (HVR.out.keep hX HDW.out) (D' := fun k => D k ∧ k < WW.heap.size ∧ some k ≠ v38.ownBlock) fun k hk => ⟨hk, Nat.lt_of_lt_of_le (HDW.out k hk) hX.size, fun he => by have h1 := O41.out.ge k he.symm; have h2 := HDW.out k hk; omega⟩)
            refine wp_appT (D := D) (base := wb.heap.size) (.tmp 38) (.tmp 40) rfl i0 hi0 HZ1.out hz1 hz2 v38 _ rfl O41.out _ 1 27 rs r rfl K41.out V41.out HL2.out hX.size ?_
            intro v42 w42 ho42 hg42
            have B42 := Lib.hid ((Below.refl wb.heap.size WW).grown hg42 hX.size (fun q hq => O41.out.ge q hq))
            refine hK _ _ B42.out ?_
            clear hK K
            replace hX := hX.trans B42.out
            have O42 := Lib.hid ho42
            clear ho42 hg42
            refine sx_actB (i := 11) (o := ⟨some 45, _, _, _, _, _⟩) rfl (by kernel_rfl) rfl hX (fun K hK => ?_)
            refine wp_appTs (D := D) (D' := D) (base := wb.heap.size) (.tmp 41) (.tmp 44) rfl i0 hi0 HZ1.out hz1 hz2 v42 _ rfl O42.out _ (l.drop k) rfl (SR.out.keep hX HDW.out) (fun q hq => ⟨hq, Nat.lt_of_lt_of_le (HDW.out q hq) hX.size, fun he => by have h1 := O42.out.ge q he.symm; have h2 := HDW.out q hq; omega⟩) HL3.out hX.size ?_
            intro v45 w45 ho45 hg45
            have B45 := Lib.hid ((Below.refl wb.heap.size w42).grown hg45 hX.size (fun q hq => O42.out.ge q hq))
            refine hK _ _ B45.out ?_
            clear hK K
            replace hX := hX.trans B45.out
            have O45 := Lib.hid ho45
            clear ho45 hg45
            refine sx_take (i := 12) (oi := ⟨some 4, _, _, _, _, _⟩) (v := ?_) rfl (by kernel_rfl) (by kernel_rfl) (by kernel_rfl) (fun _ _ _ h => h) rfl hX ?_ ?_; rotate_left; (intro W hW; go_simp; try with_reducible rfl); simp only [Act.put, List.setIfInBounds_toArray, List.set_cons_zero, List.set_cons_succ]
            refine wpAnyH_done (by kernel_rfl) ?_ _
            have B9 := Lib.hid (Bb.out.trans (hX.mono Bb.out.size))
            go_wp2_with fail
            go_ret
            refine ⟨_, rfl, ?_, B9.out⟩
            rw [HINS.out]
            exact O45.out.rowD.mono fun k hk => by have h1 := Bb.out.size; rcases hk.1 with h | h; exact .inl h; exact .inr ⟨Nat.le_trans h1 h, hk.2⟩
          · refine wp_bldT1 25 27 (.tmp 39) rfl i0 Tryd.underlying25 hi0 HZ1.out hz1 rs HR6.out rfl ?_
            intro w40 hk40 hb40 hs40
            refine hK _ _ (hb40.mono hX.size) ?_
            clear hK K
            replace hX := hX.trans (hb40.mono hX.size)
            have K40 := Lib.hid hk40
            have O := Lib.hid (O.out.stay hb40)
            have LT34 := Lib.hid (fun q (hq : v34.ownBlock = some q) => O34.out.lt q hq)
            refine sx_actB (i := 4) (o := ⟨some 38, _, _, _, _, _⟩) rfl (by kernel_rfl) rfl hX (fun K hK => ?_)
            refine wp_appTs (D := D) (D' := D) (base := wb.heap.size) (.tmp 34) (.tmp 37) rfl i0 hi0 HZ1.out hz1 hz2 v34 [] rfl O.out _ (l.take k) rfl (PR.out.keep hX HDW.out) (fun q hq => ⟨hq, Nat.lt_of_lt_of_le (HDW.out q hq) hX.size, fun he => by have h1 := O.out.ge q he.symm; have h2 := HDW.out q hq; omega⟩) (by have h1 := HL1.out; simpa using h1) hX.size ?_
            intro v38 w38 ho38 hg38
            have B38 := Lib.hid ((Below.refl wb.heap.size w40).grown hg38 hX.size (fun q hq => O.out.ge q hq))
            refine hK _ _ B38.out ?_
            clear hK K
            replace hX := hX.trans B38.out
            have O38 := Lib.hid (show OwnT D wb.heap.size w38 v38 (l.take k) by have h1 := ho38; rwa [List.nil_append] at h1)
            have K41 := Lib.hid ((hg38.block _ K40.out.lt (fun e => by have h1 := LT34.out _ e.symm; omega)).trans K40.out)
            have O41 := O38
            obtain ⟨WW, hWW⟩ : ∃ WW, WW = w38 := ⟨_, rfl⟩
            subst hWW
            refine sx_actB (i := 7) (o := ⟨some 41, _, _, _, _, _⟩) rfl (by kernel_rfl) rfl hX (fun K hK => ?_)
            have V41 := Lib.hid (RxD.mono (HVR.out.keep hX HDW.out) (D' := fun k => D k ∧ k < WW.heap.size ∧ some k ≠ v38.ownBlock) fun k hk => ⟨hk, Nat.lt_of_lt_of_le (HDW.out k hk) hX.size, fun he => by have h1 := O41.out.ge k he.symm; have h2 := HDW.out k hk; omega⟩)
            refine wp_appT (D := D) (base := wb.heap.size) (.tmp 38) (.tmp 40) rfl i0 hi0 HZ1.out hz1 hz2 v38 _ rfl O41.out _ 1 27 rs r rfl K41.out V41.out HL2.out hX.size ?_
            intro v42 w42 ho42 hg42
            have B42 := Lib.hid ((Below.refl wb.heap.size WW).grown hg42 hX.size (fun q hq => O41.out.ge q hq))
            refine hK _ _ B42.out ?_
            clear hK K
            replace hX := hX.trans B42.out
            have O42 := Lib.hid ho42
            clear ho42 hg42
            refine sx_actB (i := 11) (o := ⟨some 45, _, _, _, _, _⟩) rfl (by kernel_rfl) rfl hX (fun K hK => ?_)
            refine wp_appTs (D := D) (D' := D) (base := wb.heap.size) (.tmp 41) (.tmp 44) rfl i0 hi0 HZ1.out hz1 hz2 v42 _ rfl O42.out _ (l.drop k) rfl (SR.out.keep hX HDW.out) (fun q hq => ⟨hq, Nat.lt_of_lt_of_le (HDW.out q hq) hX.size, fun he => by have h1 := O42.out.ge q he.symm; have h2 := HDW.out q hq; omega⟩) HL3.out hX.size ?_
            intro v45 w45 ho45 hg45
            have B45 := Lib.hid ((Below.refl wb.heap.size w42).grown hg45 hX.size (fun q hq => O42.out.ge q hq))
            refine hK _ _ B45.out ?_
            clear hK K
            replace hX := hX.trans B45.out
            have O45 := Lib.hid ho45
            clear ho45 hg45
            refine sx_take (i := 12) (oi := ⟨some 4, _, _, _, _, _⟩) (v := ?_) rfl (by kernel_rfl) (by kernel_rfl) (by kernel_rfl) (fun _ _ _ h => h) rfl hX ?_ ?_; rotate_left; (intro W hW; go_simp; try with_reducible rfl); simp only [Act.put, List.setIfInBounds_toArray, List.set_cons_zero, List.set_cons_succ]
            refine wpAnyH_done (by kernel_rfl) ?_ _
            have B9 := Lib.hid (Bb.out.trans (hX.mono Bb.out.size))
            go_wp2_with fail
            go_ret
            refine ⟨_, rfl, ?_, B9.out⟩
            rw [HINS.out]
            exact O45.out.rowD.mono fun k hk => by have h1 := Bb.out.size; rcases hk.1 with h | h; exact .inl h; exact .inr ⟨Nat.le_trans h1 h, hk.2⟩
        · refine wp_bldT1 25 27 (.tmp 39) rfl i0 Tryd.underlying25 hi0 HZ1.out hz1 rs HR6.out rfl ?_
          intro w40 hk40 hb40 hs40
          refine hK _ _ (hb40.mono SZ.out) ?_
          clear hK K
          replace hX := hX.trans (hb40.mono SZ.out)
          have K40 := Lib.hid hk40
          have SZ' := Lib.hid (Nat.le_trans SZ.out hb40.size)
          refine sx_actB (i := 0) (o := ⟨some 34, _, _, _, _, _⟩) rfl (by kernel_rfl) rfl hX (fun K hK => ?_)
          refine wp_bldT0 rfl ?_
          intro v34 w34 ho34 hb34
          have O34 := Lib.hid (ho34 D)
          refine hK _ _ (hb34.mono SZ'.out) ?_
          clear hK K
          replace hX := hX.trans (hb34.mono SZ'.out)
          have S34 := Lib.hid (Nat.le_trans SZ'.out hb34.size)
          clear ho34
          have O := Lib.hid (O34.out.low SZ'.out)
          have GE34 := Lib.hid (fun q (hq : v34.ownBlock = some q) => O34.out.ge q hq)
          have K41' := Lib.hid (K40.out.below hb34 K40.out.lt)
          have LT40 := Lib.hid K40.out.lt
          refine sx_actB (i := 4) (o := ⟨some 38, _, _, _, _, _⟩) rfl (by kernel_rfl) rfl hX (fun K hK => ?_)
          refine wp_appTs (D := D) (D' := D) (base := wb.heap.size) (.tmp 34) (.tmp 37) rfl i0 hi0 HZ1.out hz1 hz2 v34 [] rfl O.out _ (l.take k) rfl (PR.out.keep hX HDW.out) (fun q hq => ⟨hq, Nat.lt_of_lt_of_le (HDW.out q hq) hX.size, fun he => by have h1 := O.out.ge q he.symm; have h2 := HDW.out q hq; omega⟩) (by have h1 := HL1.out; simpa using h1) hX.size ?_
          intro v38 w38 ho38 hg38
          have B38 := Lib.hid ((Below.refl wb.heap.size w34).grown hg38 hX.size (fun q hq => O.out.ge q hq))
          refine hK _ _ B38.out ?_
          clear hK K
          replace hX := hX.trans B38.out
          have O38 := Lib.hid (show OwnT D wb.heap.size w38 v38 (l.take k) by have h1 := ho38; rwa [List.nil_append] at h1)
          have K41 := Lib.hid ((hg38.block _ K41'.out.lt (fun e => by have h1 := GE34.out _ e.symm; have h2 := LT40.out; omega)).trans K41'.out)
          have O41 := O38
          obtain ⟨WW, hWW⟩ : ∃ WW, WW = w38 := ⟨_, rfl⟩
          subst hWW
          refine sx_actB (i := 7) (o := ⟨some 41, _, _, _, _, _⟩) rfl (by kernel_rfl) rfl hX (fun K hK => ?_)
          have V41 := Lib.hid (RxD.mono (HVR.out.keep hX HDW.out) (D' := fun k => D k ∧ k < WW.heap.size ∧ some k ≠ v38.ownBlock) fun k hk => ⟨hk, Nat.lt_of_lt_of_le (HDW.out k hk) hX.size, fun he => by have h1 := O41.out.ge k he.symm; have h2 := HDW.out k hk; omega⟩)
          refine wp_appT (D := D) (base := wb.heap.size) (.tmp 38) (.tmp 40) rfl i0 hi0 HZ1.out hz1 hz2 v38 _ rfl O41.out _ 1 27 rs r rfl K41.out V41.out HL2.out hX.size ?_
          intro v42 w42 ho42 hg42
          have B42 := Lib.hid ((Below.refl wb.heap.size WW).grown hg42 hX.size (fun q hq => O41.out.ge q hq))
          refine hK _ _ B42.out ?_
          clear hK K
          replace hX := hX.trans B42.out
          have O42 := Lib.hid ho42
          clear ho42 hg42
          refine sx_actB (i := 11) (o := ⟨some 45, _, _, _, _, _⟩) rfl (by kernel_rfl) rfl hX (fun K hK => ?_)
          refine wp_appTs (D := D) (D' := D) (base := wb.heap.size) (.tmp 41) (.tmp 44) rfl i0 hi0 HZ1.out hz1 hz2 v42 _ rfl O42.out _ (l.drop k) rfl (SR.out.keep hX HDW.out) (fun q hq => ⟨hq, Nat.lt_of_lt_of_le (HDW.out q hq) hX.size, fun he => by have h1 := O42.out.ge q he.symm; have h2 := HDW.out q hq; omega⟩) HL3.out hX.size ?_
          intro v45 w45 ho45 hg45
          have B45 := Lib.hid ((Below.refl wb.heap.size w42).grown hg45 hX.size (fun q hq => O42.out.ge q hq))
          refine hK _ _ B45.out ?_
          clear hK K
          replace hX := hX.trans B45.out
          have O45 := Lib.hid ho45
          clear ho45 hg45
          refine sx_take (i := 12) (oi := ⟨some 4, _, _, _, _, _⟩) (v := ?_) rfl (by kernel_rfl) (by kernel_rfl) (by kernel_rfl) (fun _ _ _ h => h) rfl hX ?_ ?_; rotate_left; (intro W hW; go_simp; try with_reducible rfl); simp only [Act.put, List.setIfInBounds_toArray, List.set_cons_zero, List.set_cons_succ]
          refine wpAnyH_done (by kernel_rfl) ?_ _
          have B9 := Lib.hid (Bb.out.trans (hX.mono Bb.out.size))
          go_wp2_with fail
          go_ret
          refine ⟨_, rfl, ?_, B9.out⟩
          rw [HINS.out]
          exact O45.out.rowD.mono fun k hk => by have h1 := Bb.out.size; rcases hk.1 with h | h; exact .inl h; exact .inr ⟨Nat.le_trans h1 h, hk.2⟩
      · have hkc : (k : Int) = (cap : Int) := by omega
        obtain rfl : k = cap := by omega
        have SR := Lib.hid (show RowD D wb (.slice (some ⟨b, off, none⟩) 0 0) (l.drop k) by
          rw [HDN.out]
          exact ⟨_, _, fun _ => [], rfl, Nat.zero_le _, Nat.zero_le _, fun h => (by cases h), fun h => absurd rfl h, fun i t h => by simp at h⟩)
        clear hkc0
        go_wp2_with fail
        have HDW := Lib.hid (fun k (hk : D k) => Nat.lt_of_lt_of_le (HD.out k hk) Bb.out.size)
        refine sx_startB (B := wb.heap.size) (w0 := wb) (by kernel_rfl) (Below.refl _ _) (fun wd hwd hX => ?_)
        have SZ := Lib.hid hX.size
        clear hwd
        refine sx_take (i := 1) (oi := ⟨some 35, _, _, _, _, _⟩) (v := ?_) rfl (by kernel_rfl) (by kernel_rfl) (by kernel_rfl) (fun _ _ _ h => h) rfl hX ?_ ?_; rotate_left; (intro W hW; go_simp; try with_reducible rfl); simp only [Act.put, List.setIfInBounds_toArray, List.set_cons_zero, List.set_cons_succ]
        refine sx_take (i := 2) (oi := ⟨some 36, _, _, _, _, _⟩) (v := ?_) rfl (by kernel_rfl) (by kernel_rfl) (by kernel_rfl) (fun _ _ _ h => h) rfl hX ?_ ?_; rotate_left; (intro W hW; go_simp; try with_reducible rfl); simp only [Act.put, List.setIfInBounds_toArray, List.set_cons_zero, List.set_cons_succ]
        refine sx_take (i := 3) (oi := ⟨some 37, _, _, _, _, _⟩) (v := ?_) rfl (by kernel_rfl) (by kernel_rfl) (by kernel_rfl) (fun _ _ _ h => h) rfl hX ?_ ?_; rotate_left; (intro W hW; go_simp; try with_reducible rfl); simp only [Act.put, List.setIfInBounds_toArray, List.set_cons_zero, List.set_cons_succ]
        refine sx_take (i := 5) (oi := ⟨some 39, _, _, _, _, _⟩) (v := .agg rs.toArray) rfl (by kernel_rfl) (by kernel_rfl) (by kernel_rfl) (fun _ _ _ h => h) rfl hX (ld_blk 27 _ rfl w.heap.size rfl 27 _ _ KW.out KW.out.lt Tryd.underlying27 rfl (size_rx HR6.out)) ?_; simp only [Act.put, List.setIfInBounds_toArray, List.set_cons_zero, List.set_cons_succ]
        refine sx_take (i := 8) (oi := ⟨some 42, _, _, _, _, _⟩) (v := ?_) rfl (by kernel_rfl) (by kernel_rfl) (by kernel_rfl) (fun _ _ _ h => h) rfl hX ?_ ?_; rotate_left; (intro W hW; go_simp; try with_reducible rfl); simp only [Act.put, List.setIfInBounds_toArray, List.set_cons_zero, List.set_cons_succ]
        refine sx_take (i := 9) (oi := ⟨some 43, _, _, _, _, _⟩) (v := ?_) rfl (by kernel_rfl) (by kernel_rfl) (by kernel_rfl) (fun _ _ _ h => h) rfl hX ?_ ?_; rotate_left; (intro W hW; go_simp; try with_reducible rfl); simp only [Act.put, List.setIfInBounds_toArray, List.set_cons_zero, List.set_cons_succ]
        refine sx_take (i := 10) (oi := ⟨some 44, _, _, _, _, _⟩) (v := ?_) rfl (by kernel_rfl) (by kernel_rfl) (by kernel_rfl) (fun _ _ _ h => h) rfl hX ?_ ?_; rotate_left; (intro W hW; go_simp; try first | with_reducible rfl | (simp only [if_neg hck]; with_reducible rfl)); simp only [Act.put, List.setIfInBounds_toArray, List.set_cons_zero, List.set_cons_succ]
        refine sx_two (i := 0) (j := 6) (oi := ⟨some 34, _, _, _, _, _⟩) (oj := ⟨some 40, _, _, _, _, _⟩) rfl rfl (by kernel_rfl) rfl rfl hX (fun K hK => ?_) (fun K hK => ?_)
        · refine wp_bldT0 rfl ?_
          intro v34 w34 ho34 hb34
          have O34 := Lib.hid (ho34 D)
          refine hK _ _ (hb34.mono SZ.out) ?_
          clear hK K
          replace hX := hX.trans (hb34.mono SZ.out)
          have S34 := Lib.hid (Nat.le_trans SZ.out hb34.size)
          clear ho34
          have O := Lib.hid (O34.out.low SZ.out)
          refine sx_two (i := 4) (j := 6) (oi := ⟨some 38, _, _, _, _, _⟩) (oj := ⟨some 40, _, _, _, _, _⟩) rfl rfl (by kernel_rfl) rfl rfl hX (fun K hK => ?_) (fun K hK => ?_)
          · refine wp_appTs (D := D) (D' := D) (base := wb.heap.size) (.tmp 34) (.tmp 37) rfl i0 hi0 HZ1.out hz1 hz2 v34 [] rfl O.out _ (l.take k) rfl (PR.out.keep hX HDW.out) (fun q hq => ⟨hq, Nat.lt_of_lt_of_le (HDW.out q hq) hX.size, fun he => by have h1 := O.out.ge q he.symm; have h2 := HDW.out q hq; omega⟩) (by have h1 := HL1.out; simpa using h1) hX.size ?_
            intro v38 w38 ho38 hg38
            have B38 := Lib.hid ((Below.refl wb.heap.size w34).grown hg38 hX.size (fun q hq => O.out.ge q hq))
            refine hK _ _ B38.out ?_
            clear hK K
            replace hX := hX.trans B38.out
            have O38 := Lib.hid (show OwnT D wb.heap.size w38 v38 (l.take k) by have h1 := ho38; rwa [List.nil_append] at h1)
            refine sx_actB (i := 6) (o := ⟨some 40, _, _, _, _, _⟩) rfl (by kernel_rfl) rfl hX (fun K hK => ?_)
            refine wp_bldT1 25 27 (.tmp 39) rfl i0 Tryd.underlying25 hi0 HZ1.out hz1 rs HR6.out rfl ?_
            intro w40 hk40 hb40 hs40
            refine hK _ _ (hb40.mono hX.size) ?_
            clear hK K
            replace hX := hX.trans (hb40.mono hX.size)
            have K40 := Lib.hid hk40
            have O41 := Lib.hid (O38.out.stay hb40)
            have K41 := Lib.hid hk40
            obtain ⟨WW, hWW⟩ : ∃ WW, WW = w40 := ⟨_, rfl⟩
            subst hWW
            refine sx_actB (i := 7) (o := ⟨some 41, _, _, _, _, _⟩) rfl (by kernel_rfl) rfl hX (fun K hK => ?_)
            have V41 := Lib.hid (RxD.mono (HVR.out.keep hX HDW.out) (D' := fun k => D k ∧ k < WW.heap.size ∧ some k ≠ v38.ownBlock) fun k hk => ⟨hk, Nat.lt_of_lt_of_le (HDW.out k hk) hX.size, fun he => by have h1 := O41.out.ge k he.symm; have h2 := HDW.out k hk; omega⟩)
            refine wp_appT (D := D) (base := wb.heap.size) (.tmp 38) (.tmp 40) rfl i0 hi0 HZ1.out hz1 hz2 v38 _ rfl O41.out _ 1 27 rs r rfl K41.out V41.out HL2.out hX.size ?_
            intro v42 w42 ho42 hg42
            have B42 := Lib.hid ((Below.refl wb.heap.size WW).grown hg42 hX.size (fun q hq => O41.out.ge q hq))
            refine hK _ _ B42.out ?_
            clear hK K
            replace hX := hX.trans B42.out
            have O42 := Lib.hid ho42
            clear ho42 hg42
            refine sx_actB (i := 11) (o := ⟨some 45, _, _, _, _, _⟩) rfl (by kernel_rfl) rfl hX (fun K hK => ?_)
            refine wp_appTs (D := D) (D' := D) (base := wb.heap.size) (.tmp 41) (.tmp 44) rfl i0 hi0 HZ1.out hz1 hz2 v42 _ rfl O42.out _ (l.drop k) rfl (SR.out.keep hX HDW.out) (fun q hq => ⟨hq, Nat.lt_of_lt_of_le (HDW.out q hq) hX.size, fun he => by have h1 := O42.out.ge q he.symm; have h2 := HDW.out q hq; omega⟩) HL3.out hX.size ?_
            intro v45 w45 ho45 hg45
            have B45 := Lib.hid ((Below.refl wb.heap.size w42).grown hg45 hX.size (fun q hq => O42.out.ge q hq))
            refine hK _ _ B45.out ?_
            clear hK K
            replace hX := hX.trans B45.out
            have O45 := Lib.hid ho45
            clear ho45 hg45
            refine sx_take (i := 12) (oi := ⟨some 4, _, _, _, _, _⟩) (v := ?_) rfl (by kernel_rfl) (by kernel_rfl) (by kernel_rfl) (fun _ _ _ h => h) rfl hX ?_ ?_; rotate_left; (intro W hW; go_simp; try with_reducible rfl); simp only [Act.put, List.setIfInBounds_toArray, List.set_cons_zero, List.set_cons_succ]
            refine wpAnyH_done (by kernel_rfl) ?_ _
            have B9 := Lib.hid (Bb.out.trans (hX.mono Bb.out.size))
            go_wp2_with fail
            go_ret
            refine ⟨_, rfl, ?_, B9.out⟩
            rw [HINS.out]
            exact O45.out.rowD.mono fun k hk => by have h1 := Bb.out.size; rcases hk.1 with h | h; exact .inl h; exact .inr ⟨Nat.le_trans h1 h, hk.2⟩
          · refine wp_bldT1 25 27 (.tmp 39) rfl i0 Tryd.underlying25 hi0 HZ1.out hz1 rs HR6.out rfl ?_
            intro w40 hk40 hb40 hs40
            refine hK _ _ (hb40.mono hX.size) ?_
            clear hK K
            replace hX := hX.trans (hb40.mono hX.size)
            have K40 := Lib.hid hk40
            have O := Lib.hid (O.out.stay hb40)
            have LT34 := Lib.hid (fun q (hq : v34.ownBlock = some q) => O34.out.lt q hq)
            refine sx_actB (i := 4) (o := ⟨some 38, _, _, _, _, _⟩) rfl (by kernel_rfl) rfl hX (fun K hK => ?_)
            refine wp_appTs (D := D) (D' := D) (base := wb.heap.size) (.tmp 34) (.tmp 37) rfl i0 hi0 HZ1.out hz1 hz2 v34 [] rfl O.out _ (l.take k) rfl (PR.out.keep hX HDW.out) (fun q hq => ⟨hq, Nat.lt_of_lt_of_le (HDW.out q hq) hX.size, fun he => by have h1 := O.out.ge q he.symm; have h2 := HDW.out q hq; omega⟩) (by have h1 := HL1.out; simpa using h1) hX.size ?_
            intro v38 w38 ho38 hg38
            have B38 := Lib.hid ((Below.refl wb.heap.size w40).grown hg38 hX.size (fun q hq => O.out.ge q hq))
            refine hK _ _ B38.out ?_
            clear hK K
            replace hX := hX.trans B38.out
            have O38 := Lib.hid (show OwnT D wb.heap.size w38 v38 (l.take k) by have h1 := ho38; rwa [List.nil_append] at h1)
            have K41 := Lib.hid ((hg38.block _ K40.out.lt (fun e => by have h1 := LT34.out _ e.symm; omega)).trans K40.out)
            have O41 := O38
            obtain ⟨WW, hWW⟩ : ∃ WW, WW = w38 := ⟨_, rfl⟩
            subst hWW
            refine sx_actB (i := 7) (o := ⟨some 41, _, _, _, _, _⟩) rfl (by kernel_rfl) rfl hX (fun K hK => ?_)
            have V41 := Lib.hid (RxD.mono (HVR.out.keep hX HDW.out) (D' := fun k => D k ∧ k < WW.heap.size ∧ some k ≠ v38.ownBlock) fun k hk => ⟨hk, Nat.lt_of_lt_of_le (HDW.out k hk) hX.size, fun he => by have h1 := O41.out.ge k he.symm; have h2 := HDW.out k hk; omega⟩)
            refine wp_appT (D := D) (base := wb.heap.size) (.tmp 38) (.tmp 40) rfl i0 hi0 HZ1.out hz1 hz2 v38 _ rfl O41.out _ 1 27 rs r rfl K41.out V41.out HL2.out hX.size ?_
            intro v42 w42 ho42 hg42
            have B42 := Lib.hid ((Below.refl wb.heap.size WW).grown hg42 hX.size (fun q hq => O41.out.ge q hq))
            refine hK _ _ B42.out ?_
            clear hK K
            replace hX := hX.trans B42.out
            have O42 := Lib.hid ho42
            clear ho42 hg42
            refine sx_actB (i := 11) (o := ⟨some 45, _, _, _, _, _⟩) rfl (by kernel_rfl) rfl hX (fun K hK => ?_)
            refine wp_appTs (D := D) (D' := D) (base := wb.heap.size) (.tmp 41) (.tmp 44) rfl i0 hi0 HZ1.out hz1 hz2 v42 _ rfl O42.out _ (l.drop k) rfl (SR.out.keep hX HDW.out) (fun q hq => ⟨hq, Nat.lt_of_lt_of_le (HDW.out q hq) hX.size, fun he => by have h1 := O42.out.ge q he.symm; have h2 := HDW.out q hq; omega⟩) HL3.out hX.size ?_
            intro v45 w45 ho45 hg45
            have B45 := Lib.hid ((Below.refl wb.heap.size w42).grown hg45 hX.size (fun q hq => O42.out.ge q hq))
            refine hK _ _ B45.out ?_
            clear hK K
            replace hX := hX.trans B45.out
            have O45 := Lib.hid ho45
            clear ho45 hg45
            refine sx_take (i := 12) (oi := ⟨some 4, _, _, _, _, _⟩) (v := ?_) rfl (by kernel_rfl) (by kernel_rfl) (by kernel_rfl) (fun _ _ _ h => h) rfl hX ?_ ?_; rotate_left; (intro W hW; go_simp; try with_reducible rfl); simp only [Act.put, List.setIfInBounds_toArray, List.set_cons_zero, List.set_cons_succ]
            refine wpAnyH_done (by kernel_rfl) ?_ _
            have B9 := Lib.hid (Bb.out.trans (hX.mono Bb.out.size))
            go_wp2_with fail
            go_ret
            refine ⟨_, rfl, ?_, B9.out⟩
            rw [HINS.out]
            exact O45.out.rowD.mono fun k hk => by have h1 := Bb.out.size; rcases hk.1 with h | h; exact .inl h; exact .inr ⟨Nat.le_trans h1 h, hk.2⟩
        · refine wp_bldT1 25 27 (.tmp 39) rfl i0 Tryd.underlying25 hi0 HZ1.out hz1 rs HR6.out rfl ?_
          intro w40 hk40 hb40 hs40
          refine hK _ _ (hb40.mono SZ.out) ?_
          clear hK K
          replace hX := hX.trans (hb40.mono SZ.out)
          have K40 := Lib.hid hk40
          have SZ' := Lib.hid (Nat.le_trans SZ.out hb40.size)
          refine sx_actB (i := 0) (o := ⟨some 34, _, _, _, _, _⟩) rfl (by kernel_rfl) rfl hX (fun K hK => ?_)
          refine wp_bldT0 rfl ?_
          intro v34 w34 ho34 hb34
          have O34 := Lib.hid (ho34 D)
          refine hK _ _ (hb34.mono SZ'.out) ?_
          clear hK K
          replace hX := hX.trans (hb34.mono SZ'.out)
          have S34 := Lib.hid (Nat.le_trans SZ'.out hb34.size)
          clear ho34
          have O := Lib.hid (O34.out.low SZ'.out)
          have GE34 := Lib.hid (fun q (hq : v34.ownBlock = some q) => O34.out.ge q hq)
          have K41' := Lib.hid (K40.out.below hb34 K40.out.lt)
          have LT40 := Lib.hid K40.out.lt
          refine sx_actB (i := 4) (o := ⟨some 38, _, _, _, _, _⟩) rfl (by kernel_rfl) rfl hX (fun K hK => ?_)
          refine wp_appTs (D := D) (D' := D) (base := wb.heap.size) (.tmp 34) (.tmp 37) rfl i0 hi0 HZ1.out hz1 hz2 v34 [] rfl O.out _ (l.take k) rfl (PR.out.keep hX HDW.out) (fun q hq => ⟨hq, Nat.lt_of_lt_of_le (HDW.out q hq) hX.size, fun he => by have h1 := O.out.ge q he.symm; have h2 := HDW.out q hq; omega⟩) (by have h1 := HL1.out; simpa using h1) hX.size ?_
          intro v38 w38 ho38 hg38
          have B38 := Lib.hid ((Below.refl wb.heap.size w34).grown hg38 hX.size (fun q hq => O.out.ge q hq))
          refine hK _ _ B38.out ?_
          clear hK K
          replace hX := hX.trans B38.out
          have O38 := Lib.hid (show OwnT D wb.heap.size w38 v38 (l.take k) by have h1 := ho38; rwa [List.nil_append] at h1)
          have K41 := Lib.hid ((hg38.block _ K41'.out.lt (fun e => by have h1 := GE34.out _ e.symm; have h2 := LT40.out; omega)).trans K41'.out)
          have O41 := O38
          obtain ⟨WW, hWW⟩ : ∃ WW, WW = w38 := ⟨_, rfl⟩
          subst hWW
          refine sx_actB (i := 7) (o := ⟨some 41, _, _, _, _, _⟩) rfl (by kernel_rfl) rfl hX (fun K hK => ?_)
          have V41 := Lib.hid (RxD.mono (HVR.out.keep hX HDW.out) (D' := fun k => D k ∧ k < WW.heap.size ∧ some k ≠ v38.ownBlock) fun k hk => ⟨hk, Nat.lt_of_lt_of_le (HDW.out k hk) hX.size, fun he => by have h1 := O41.out.ge k he.symm; have h2 := HDW.out k hk; omega⟩)
          refine wp_appT (D := D) (base := wb.heap.size) (.tmp 38) (.tmp 40) rfl i0 hi0 HZ1.out hz1 hz2 v38 _ rfl O41.out _ 1 27 rs r rfl K41.out V41.out HL2.out hX.size ?_
          intro v42 w42 ho42 hg42
          have B42 := Lib.hid ((Below.refl wb.heap.size WW).grown hg42 hX.size (fun q hq => O41.out.ge q hq))
          refine hK _ _ B42.out ?_
          clear hK K
          replace hX := hX.trans B42.out
          have O42 := Lib.hid ho42
          clear ho42 hg42
          refine sx_actB (i := 11) (o := ⟨some 45, _, _, _, _, _⟩) rfl (by kernel_rfl) rfl hX (fun K hK => ?_)
          refine wp_appTs (D := D) (D' := D) (base := wb.heap.size) (.tmp 41) (.tmp 44) rfl i0 hi0 HZ1.out hz1 hz2 v42 _ rfl O42.out _ (l.drop k) rfl (SR.out.keep hX HDW.out) (fun q hq => ⟨hq, Nat.lt_of_lt_of_le (HDW.out q hq) hX.size, fun he => by have h1 := O42.out.ge q he.symm; have h2 := HDW.out q hq; omega⟩) HL3.out hX.size ?_
          intro v45 w45 ho45 hg45
          have B45 := Lib.hid ((Below.refl wb.heap.size w42).grown hg45 hX.size (fun q hq => O42.out.ge q hq))
          refine hK _ _ B45.out ?_
          clear hK K
          replace hX := hX.trans B45.out
          have O45 := Lib.hid ho45
          clear ho45 hg45
          refine sx_take (i := 12) (oi := ⟨some 4, _, _, _, _, _⟩) (v := ?_) rfl (by kernel_rfl) (by kernel_rfl) (by kernel_rfl) (fun _ _ _ h => h) rfl hX ?_ ?_; rotate_left; (intro W hW; go_simp; try with_reducible rfl); simp only [Act.put, List.setIfInBounds_toArray, List.set_cons_zero, List.set_cons_succ]
          refine wpAnyH_done (by kernel_rfl) ?_ _
          have B9 := Lib.hid (Bb.out.trans (hX.mono Bb.out.size))
          go_wp2_with fail
          go_ret
          refine ⟨_, rfl, ?_, B9.out⟩
          rw [HINS.out]
          exact O45.out.rowD.mono fun k hk => by have h1 := Bb.out.size; rcases hk.1 with h | h; exact .inl h; exact .inr ⟨Nat.le_trans h1 h, hk.2⟩
end Go.Proofs.YtmlojjgddmnbmaaDoor
namespace Go.Proofs.YtmlojjgddmnbmaaDoor
open Go.RowKit
set_option linter.unusedSimpArgs false
set_option linter.unusedVariables false

theorem anyK_false {k : Int} {l : List T} (h : ∀ (i : Nat) (t : T), l[i]? = some t → t.kind ≠ k) : anyK k l = false := by
  unfold anyK
  rw [List.any_eq_false]
  intro t ht
  obtain ⟨i, hi⟩ := List.getElem?_of_mem ht
  simpa using h i t hi
theorem anyK_true {k : Int} {l : List T} {j : Nat} {t : T} (h : l[j]? = some t) (hk : t.kind = k) : anyK k l = true :=
  List.any_eq_true.2 ⟨t, List.mem_of_getElem? h, by simpa using hk⟩
set_option maxHeartbeats 8000000 in
set_option maxRecDepth 100000 in
theorem refCat_any (l : List T) (v : Value) (w : World) (hr : RowT w.heap.size w v l) (hn : nodesL l ≤ 549755813888) :
    Calls Tryd.prog 40 #[v] w fun e w' => ∃ ds, e = .returned (.agg ds.toArray) ∧ RxD (fun k => w.heap.size ≤ k ∧ k < w'.heap.size) w' ds (catT l) ∧ Below w.heap.size w w' := by
  have R := Lib.hid hr
  have HN := Lib.hid hn
  have HFN := Lib.hid (flatT_nodes 4 l)
  obtain ⟨i0, hi0, hz0, hz1, hz2⟩ := inf_rx'
  obtain ⟨z, hz⟩ : ∃ z, z = rxc 0 zeroS (.slice none 0 0) := ⟨_, rfl⟩
  have HZL := Lib.hid (show z.length = 6 by rw [hz]; rfl)
  have HZ0 := Lib.hid (show i0.zero = some (.agg z.toArray) by rw [hz]; exact hz0)
  have HZ1 := Lib.hid hz0
  clear hz hz0
  clear hr hn
  go_enter Tryd.func40, Tryd.ntmps40
  go_wp2_with ((with_reducible refine atDst 2 ?_); refine wpList_new rfl 27 rfl i0 _ z hi0 HZ0.out rfl (Below.refl w.heap.size w) (Nat.le_refl _) ?_; intro w1 hk1 hb1 hs1 _; have K1 := Lib.hid hk1; have B1 := Lib.hid hb1; have S1 := Lib.hid hs1; clear hk1 hb1 hs1; (try simp only [Act.put, List.setIfInBounds_toArray, List.set_cons_zero, List.set_cons_succ]))
  refine (refFlat_any 4 l v w1 (D := fun k => k < w.heap.size) (fun k hk => Nat.lt_of_lt_of_le hk B1.out.size) (R.out.below B1.out).rowD HN.out).mono ?_
  rintro e w3 ⟨v3, rfl, ho3, hb3⟩
  have R3 := Lib.hid ho3.rowD
  have B3 := Lib.hid (B1.out.trans (hb3.mono B1.out.size))
  have K3 := Lib.hid (K1.out.below hb3 K1.out.lt)
  clear ho3 hb3
  obtain ⟨E, hE⟩ : ∃ E, E = flatT 4 l := ⟨_, rfl⟩
  have HCT := Lib.hid (show catT l = if anyK 1 E then noneT else wrapT 4 emptyT (withoutT 2 E) by rw [hE]; rfl)
  have HEN := Lib.hid (show nodesL E ≤ 549755813888 by rw [hE]; have h2 := HFN.out; have h3 := HN.out; omega)
  rw [← hE] at R3
  clear hE
  have HLE := Lib.hid (len_nodes E)
  obtain ⟨A, cap, f, rfl, h1, h2, h0, h3, h4⟩ := R3.out
  have H3 := Lib.hid h3
  have H4 := Lib.hid h4
  have G3 := Lib.hid K3.out.lt
  clear h1 h2 h0 h3 h4
  go_wp2_with fail
  go_loopw [3, 5] (fun v i wl => ∃ (v1 : Value) (j : Nat), v1 = v ∧ j ≤ E.length ∧ i = .int .i64 (j : Int) ∧ OwnT (fun k => w3.heap.size ≤ k) w3.heap.size wl v1 (withoutT 2 (E.take j)) ∧ (∀ (i : Nat) (t : T), i < j → E[i]? = some t → t.kind ≠ 1) ∧ Below w3.heap.size w3 wl) (fun _ i _ => E.length - (intOf i).toNat)
  case atStart => exact ⟨_, 0, rfl, by omega, by simp, OwnT.nil _ _ _, fun i t h => by omega, Below.refl _ _⟩
  case round =>
    obtain ⟨v1, j, rfl, hj, rfl, ho, hno, hb⟩ := hrel
    have HO := Lib.hid ho
    have HNO := Lib.hid hno
    have HBw := Lib.hid hb
    have HB := Lib.hid (B3.out.trans (hb.mono B3.out.size))
    have KR := Lib.hid (K3.out.below hb K3.out.lt)
    clear ho hno hb
    by_cases hjl : j < E.length
    · have j1 : (j : Int) < (E.length : Int) := Int.ofNat_lt.2 hjl
      obtain ⟨b, off, rfl, hb, hrng⟩ := H3.out (by rintro rfl; simp at hjl)
      obtain ⟨u, hu⟩ : ∃ u, E[j]? = some u := ⟨_, List.getElem?_eq_getElem hjl⟩
      have HV := Lib.hid ((H4.out j u hu).keep HBw.out fun k hk => hk.2)
      have HRG := Lib.hid (range_below (hrng j hjl) HBw.out hb.2)
      obtain ⟨Au, cu, hsp, hru⟩ := HV.out.split
      have HV6 := Lib.hid HV.out.length
      have a0 := range_cell0 HRG.out (show (f j)[0]? = some (.int .i64 u.kind) by rw [hsp]; rfl)
      have HU := Lib.hid hu
      have hj62 : j ≤ 4611686018427387904 := by have := HEN.out; have := HLE.out; omega
      have e3 := wrap_one j hj62
      have e4 := wrap_one' j hj62
      have HNX := Lib.hid (withoutT_next 2 E j u hu)
      have HNL := Lib.hid (Nat.le_trans (withoutT_len 2 (E.take j)) (List.length_take_le j E))
      have HUN := Lib.hid (show u.nodes ≤ 1099511627776 by have h1 := nodes_mem (List.mem_of_getElem? hu); have h2 := HEN.out; omega)
      have HJ1 := Lib.hid (sub_next hjl)
      have HJ2 := Lib.hid (show j + 1 ≤ E.length from hjl)
      have HSW := Lib.hid HBw.out.size
      obtain ⟨cur, hcur⟩ : ∃ cur, cur = withoutT 2 (E.take j) := ⟨_, rfl⟩
      rw [← hcur] at HO HNX HNL
      have HLC := Lib.hid (show cur.length + 1 ≤ 1099511627776 by have h1 := HNL.out; have h2 := HLE.out; have h3 := HEN.out; omega)
      clear hrng hu hj62 hb hsp hru hcur
      by_cases hk1 : u.kind = 1
      · have hkb : (u.kind == 1) = true := by simpa using hk1
        have HC := Lib.hid (show catT l = noneT by rw [HCT.out, anyK_true HU.out hk1, if_pos rfl])
        clear hk1
        go_wp2_with fail
        refine (refNone_any wr).mono ?_
        rintro e w9 ⟨ds, rfl, hd9, hb9⟩
        have DA := Lib.hid (hd9 fun _ => False)
        have D6 := Lib.hid (hd9 fun _ => False).length
        have D1 := Lib.hid (show ds.all (·.oneCell') = true from List.all_eq_true.2 (hd9 fun _ => False).one)
        have B9 := Lib.hid (HB.out.trans (hb9.mono HB.out.size))
        have K9 := Lib.hid (KR.out.below hb9 KR.out.lt)
        clear hd9 hb9
        go_wp2_with ((with_reducible refine atStore 27 2 20 ?_); refine wpList_stBlk rfl 27 _ _ rfl w.heap.size ds rfl rfl 27 _ K9.out (size_rx D6.out) (by rw [HZL.out, D6.out]) D1.out B9.out (Nat.le_refl _) ?_; intro w10 hk10 hb10 hs10 ho10; have K10 := Lib.hid hk10; have B10 := Lib.hid hb10; clear hk10 hb10 hs10 ho10; (try simp only [Act.put, List.setIfInBounds_toArray, List.set_cons_zero, List.set_cons_succ]))
        refine bodyPost_ret (results_blk rfl _ _ w.heap.size 27 _ _ rfl K10.out Tryd.underlying27 rfl (size_rx D6.out)) rfl ?_
        exact ⟨ds, rfl, by rw [HC.out]; exact RxD.mono (DA.out.stay fun k hk => absurd hk id) fun k hk => absurd hk id, B10.out⟩
      · have hkb : (u.kind == 1) = false := by simpa using hk1
        have HK1 := Lib.hid hk1
        clear hk1
        have HNO' := Lib.hid (show ∀ (i : Nat) (t : T), i < j + 1 → E[i]? = some t → t.kind ≠ 1 from fun i t hi ht => by
          by_cases hij : i = j
          · rw [hij, HU.out] at ht
            obtain rfl := Option.some.inj ht
            exact HK1.out
          · exact HNO.out i t (lt_of_ne hi hij) ht)
        by_cases hk2 : u.kind = 2
        · have hkc : (u.kind != 2) = false := by simpa using hk2
          have HE := Lib.hid (show withoutT 2 (E.take (j + 1)) = cur by rw [HNX.out, if_pos hk2, List.append_nil])
          clear hk2
          go_wp2_with fail
          refine ⟨⟨_, j + 1, rfl, HJ2.out, by congr 1, by rw [HE.out]; exact HO.out, HNO'.out, HBw.out⟩, by simpa [intOf] using HJ1.out⟩
        · have hkc : (u.kind != 2) = true := by simpa using hk2
          have HE := Lib.hid (show withoutT 2 (E.take (j + 1)) = cur ++ [u] by rw [HNX.out, if_neg hk2])
          clear hk2
          go_wp2_with ((with_reducible refine atDst 31 ?_); refine wpList_load_mid rfl 27 _ rfl b (off + j * 6) rfl (f j) _ HRG.out Tryd.underlying27 rfl (size_rx HV6.out) ?_; (try simp only [Act.put, List.setIfInBounds_toArray, List.set_cons_zero, List.set_cons_succ]))
          refine (refCopy_any _ u (Nat.le_refl _) HUN.out (f j) wr (RxD.mono HV.out fun k hk => Nat.lt_of_lt_of_le hk.2 HSW.out)).mono ?_
          rintro e w6 ⟨ds, rfl, hds, hb6⟩
          have HDS := Lib.hid hds
          have HD6 := Lib.hid hds.length
          have O6 := Lib.hid (HO.out.stay hb6)
          have B6 := Lib.hid (HBw.out.trans (hb6.mono HBw.out.size))
          have HLT := Lib.hid (fun q (hq : v1.ownBlock = some q) => HO.out.lt q hq)
          clear hds hb6
          go_wp2_with (first
            | ((with_reducible refine atDst 33 ?_); refine wpList_bldT1 rfl 25 27 (.tmp 32) rfl i0 Tryd.underlying25 hi0 HZ1.out hz1 ds HD6.out rfl ?_; intro w7 hk7 hb7 hs7; have K7 := Lib.hid hk7; have O7 := Lib.hid (O6.out.stay hb7); have B7 := Lib.hid (B6.out.trans (hb7.mono B6.out.size)); have D7 := Lib.hid (RxD.mono (HDS.out.stay (w' := w7) fun q hq => hb7.block q hq.2) (D' := fun q => w3.heap.size ≤ q ∧ q < w7.heap.size ∧ some q ≠ v1.ownBlock) fun q hq => ⟨Nat.le_trans HSW.out hq.1, Nat.lt_of_lt_of_le hq.2 hb7.size, fun he => by have h1 := HLT.out q he.symm; have h2 := hq.1; omega⟩); clear hk7 hb7 hs7; (try simp only [Act.put, List.setIfInBounds_toArray, List.set_cons_zero, List.set_cons_succ]))
            | ((with_reducible refine atDst 34 ?_); refine wpList_appT (D := fun q => w3.heap.size ≤ q) (base := w3.heap.size) rfl (.tmp 27) (.tmp 33) rfl i0 hi0 HZ1.out hz1 hz2 v1 _ rfl O7.out w6.heap.size 1 27 ds u rfl K7.out D7.out HLC.out B7.out.size ?_; intro v8 w8 ho8 hg8; have O8 := Lib.hid ho8; have B8 := Lib.hid (B7.out.grown hg8 B7.out.size (fun q hq => O7.out.ge q hq)); clear ho8 hg8; (try simp only [Act.put, List.setIfInBounds_toArray, List.set_cons_zero, List.set_cons_succ])))
          refine ⟨⟨_, j + 1, rfl, HJ2.out, by congr 1, by rw [HE.out]; exact O8.out, HNO'.out, B8.out⟩, by simpa [intOf] using HJ1.out⟩
    · obtain rfl : j = E.length := by omega
      have j1 : ¬ ((E.length : Int) < (E.length : Int)) := by omega
      have ho := HO.out
      rw [List.take_length] at ho
      have HAN := Lib.hid (anyK_false (k := 1) fun i t hi => HNO.out i t (List.getElem?_eq_some_iff.1 hi).1 hi)
      have HC0 := Lib.hid (show catT l = wrapT 4 emptyT (withoutT 2 E) by rw [HCT.out, HAN.out]; rfl)
      obtain ⟨P, hP⟩ : ∃ P, P = withoutT 2 E := ⟨_, rfl⟩
      rw [← hP] at ho HC0
      have O9 := Lib.hid ho
      have HSW := Lib.hid HBw.out.size
      clear ho HO hP
      match P, O9, HC0 with
      | [], O9, HC0 =>
        have HC := Lib.hid (show catT l = emptyT from HC0.out)
        obtain ⟨A3, cap3, rfl⟩ := O9.out.slice
        go_wp2_with fail
        refine (refEmpty_any wr).mono ?_
        rintro e w9 ⟨ds, rfl, hd9, hb9⟩
        have DA := Lib.hid (hd9 fun _ => False)
        have D6 := Lib.hid (hd9 fun _ => False).length
        have D1 := Lib.hid (show ds.all (·.oneCell') = true from List.all_eq_true.2 (hd9 fun _ => False).one)
        have B9 := Lib.hid (HB.out.trans (hb9.mono HB.out.size))
        have K9 := Lib.hid (KR.out.below hb9 KR.out.lt)
        clear hd9 hb9
        go_wp2_with ((with_reducible refine atStore 27 2 38 ?_); refine wpList_stBlk rfl 27 _ _ rfl w.heap.size ds rfl rfl 27 _ K9.out (size_rx D6.out) (by rw [HZL.out, D6.out]) D1.out B9.out (Nat.le_refl _) ?_; intro w10 hk10 hb10 hs10 ho10; have K10 := Lib.hid hk10; have B10 := Lib.hid hb10; clear hk10 hb10 hs10 ho10; (try simp only [Act.put, List.setIfInBounds_toArray, List.set_cons_zero, List.set_cons_succ]))
        refine bodyPost_ret (results_blk rfl _ _ w.heap.size 27 _ _ rfl K10.out Tryd.underlying27 rfl (size_rx D6.out)) rfl ?_
        exact ⟨ds, rfl, by rw [HC.out]; exact RxD.mono (DA.out.stay fun k hk => absurd hk id) fun k hk => absurd hk id, B10.out⟩
      | [t], O9, HC0 =>
        have HC := Lib.hid (show catT l = t from HC0.out)
        obtain ⟨g, c3, f3, rfl, m1, m2, m3, m4, m5, m6, m7⟩ := O9.out.mid (by simp)
        have HX := Lib.hid (m7 0 t rfl)
        have D6 := Lib.hid HX.out.length
        have D1 := Lib.hid (show (f3 0).all (·.oneCell') = true from List.all_eq_true.2 HX.out.one)
        have HR0 := Lib.hid (show wr.rangeAt g 0 (f3 0) from by have := m6 0 (by simp); simpa using this)
        clear m1 m2 m3 m4 m5 m6 m7
        go_wp2_with (first
          | ((with_reducible refine atDst 44 ?_); refine wpList_load_mid rfl 27 _ rfl g 0 rfl (f3 0) _ HR0.out Tryd.underlying27 rfl (size_rx D6.out) ?_; (try simp only [Act.put, List.setIfInBounds_toArray, List.set_cons_zero, List.set_cons_succ]))
          | ((with_reducible refine atStore 27 2 44 ?_); refine wpList_stBlk rfl 27 _ _ rfl w.heap.size (f3 0) rfl rfl 27 _ KR.out (size_rx D6.out) (by rw [HZL.out, D6.out]) D1.out HB.out (Nat.le_refl _) ?_; intro w10 hk10 hb10 hs10 ho10; have K10 := Lib.hid hk10; have B10 := Lib.hid hb10; have D10 := Lib.hid (RxD.mono (HX.out.stay (w' := w10) fun k hk => ho10 k (by have h1 := hk.1; have h2 := G3.out; omega)) (D' := fun k => w.heap.size ≤ k ∧ k < w10.heap.size) fun k hk => ⟨by have h1 := hk.1; have h2 := G3.out; omega, by have h1 := hk.2.1; omega⟩); clear hk10 hb10 hs10 ho10; (try simp only [Act.put, List.setIfInBounds_toArray, List.set_cons_zero, List.set_cons_succ])))
        refine bodyPost_ret (results_blk rfl _ _ w.heap.size 27 _ _ rfl K10.out Tryd.underlying27 rfl (size_rx D6.out)) rfl ?_
        exact ⟨f3 0, rfl, by rw [HC.out]; exact D10.out, B10.out⟩
      | t :: u :: r, O9, HC0 =>
        obtain ⟨m, hm⟩ : ∃ m, m = t :: u :: r := ⟨_, rfl⟩
        have HM2 := Lib.hid (show 2 ≤ m.length by rw [hm]; simp)
        rw [← hm] at O9 HC0
        have HC := Lib.hid (show catT l = .node 4 zeroS m by rw [HC0.out, wrapT_many 4 _ m HM2.out])
        obtain ⟨A3, c3, rfl⟩ := O9.out.slice
        obtain ⟨c, hc⟩ : ∃ c, c = rxc 4 zeroS (.slice A3 m.length c3) := ⟨_, rfl⟩
        have HCB := Lib.hid (show Tryd.prog.built 27 [(0, .int .i64 4), (2, .slice A3 m.length c3)] = some c.toArray by rw [hc]; exact built02 4 _ A3 m.length c3 rfl)
        have D6 := Lib.hid (show c.length = 6 by rw [hc]; rfl)
        have D1 := Lib.hid (show c.all (·.oneCell') = true by rw [hc]; rfl)
        have HX := Lib.hid (show RxD (fun b => (w3.heap.size ≤ b ∨ w3.heap.size ≤ b) ∧ b < wr.heap.size) wr c (.node 4 zeroS m) by rw [hc]; exact O9.out.rx 4 zeroS)
        have m0 : ((m.length : Int) == 0) = false := by rw [beq_eq_false_iff_ne]; have := HM2.out; omega
        have m1 : ((m.length : Int) == 1) = false := by rw [beq_eq_false_iff_ne]; have := HM2.out; omega
        clear hm hc
        go_wp2_with (first
          | ((with_reducible refine atDst 46 ?_); refine wpList_bld rfl 27 _ rfl c HCB.out ?_; (try simp only [Act.put, List.setIfInBounds_toArray, List.set_cons_zero, List.set_cons_succ]))
          | ((with_reducible refine atStore 27 2 46 ?_); refine wpList_stBlk rfl 27 _ _ rfl w.heap.size c rfl rfl 27 _ KR.out (size_rx D6.out) (by rw [HZL.out, D6.out]) D1.out HB.out (Nat.le_refl _) ?_; intro w10 hk10 hb10 hs10 ho10; have K10 := Lib.hid hk10; have B10 := Lib.hid hb10; have D10 := Lib.hid (RxD.mono (HX.out.stay (w' := w10) fun k hk => ho10 k (by have h1 := hk.1; have h2 := G3.out; omega)) (D' := fun k => w.heap.size ≤ k ∧ k < w10.heap.size) fun k hk => ⟨by have h1 := hk.1; have h2 := G3.out; omega, by have h1 := hk.2; omega⟩); clear hk10 hb10 hs10 ho10; (try simp only [Act.put, List.setIfInBounds_toArray, List.set_cons_zero, List.set_cons_succ])))
        refine bodyPost_ret (results_blk rfl _ _ w.heap.size 27 _ _ rfl K10.out Tryd.underlying27 rfl (size_rx D6.out)) rfl ?_
        exact ⟨c, rfl, by rw [HC.out]; exact D10.out, B10.out⟩
end Go.Proofs.YtmlojjgddmnbmaaDoor
namespace Go.Proofs.YtmlojjgddmnbmaaDoor
open Go.RowKit
set_option linter.unusedSimpArgs false
set_option linter.unusedVariables false

theorem sortU_cons_ne (l : List T) (r : T) : insT r l ≠ [] := by
  cases l with
  | nil => simp [insT]
  | cons a l =>
    simp only [insT]
    split
    · simp
    · split <;> simp
theorem refInsert_any (l : List T) (r : T) (v : Value) (rs : List Value) (w : World) {D : Nat → Prop} (hD : ∀ k, D k → k < w.heap.size) (hr : RowD D w v l) (hne : l = [] → v = .slice none 0 0) (hv : RxD D w rs r) (hn : nodesL l ≤ 549755813888) (hM : r.nodes ≤ 1099511627776) :
    Calls Tryd.prog 50 #[v, .agg rs.toArray] w fun e w' => ∃ v', e = .returned v' ∧ RowD (fun k => D k ∨ (w.heap.size ≤ k ∧ k < w'.heap.size)) w' v' (insT r l) ∧ Below w.heap.size w w' := by
  by_cases h : l = []
  · subst h
    rw [hne rfl]
    exact refInsert_nil r rs w hD hv
  · exact refInsert_some l r v rs w hD hr h hv hn hM
/-- What stands ahead of place j, but sets and what has no word; the bytes of the sets. -/
def othJ (F : List T) (j : Nat) : List T := withoutT 3 (withoutT 1 (F.take j))
def orJ (F : List T) (j : Nat) : Nat → Bool := orT (withoutT 1 (F.take j))
theorem without_app (k : Int) (a b : List T) : withoutT k (a ++ b) = withoutT k a ++ withoutT k b := List.filter_append a b
theorem othJ_next (F : List T) (j : Nat) (t : T) (h : F[j]? = some t) : othJ F (j + 1) = othJ F j ++ if t.kind = 1 ∨ t.kind = 3 then [] else [t] := by
  unfold othJ
  rw [withoutT_next 1 F j t h, without_app]
  congr 1
  by_cases h1 : t.kind = 1
  · rw [if_pos h1, if_pos (.inl h1)]; rfl
  · rw [if_neg h1]
    by_cases h3 : t.kind = 3
    · rw [if_pos (.inr h3)]; simp [withoutT, h3]
    · rw [if_neg (by rintro (h | h); exact h1 h; exact h3 h)]; simp [withoutT, h3]
theorem orJ_next (F : List T) (j : Nat) (t : T) (h : F[j]? = some t) : orJ F (j + 1) = fun b => orJ F j b || (decide (t.kind = 3) && t.set b) := by
  unfold orJ
  rw [withoutT_next 1 F j t h]
  funext b
  unfold orT
  rw [List.any_append]
  by_cases h1 : t.kind = 1
  · rw [if_pos h1]; simp [h1]
  · rw [if_neg h1]; simp
theorem othJ_nodes (F : List T) (j : Nat) : nodesL (othJ F j) ≤ nodesL F := Nat.le_trans (withoutT_nodes 3 _) (Nat.le_trans (withoutT_nodes 1 _) (nodesL_take F j))
theorem range_set {w : World} {b o : Nat} {cs : List Value} {k : Int} {s : Nat → Bool} {v : Value} (h : w.rangeAt b o cs) (hc : cs = rxc k s v) : w.rangeAt b (o + 1) (wds s) := fun j u hu => by
  have hj : j < 4 := by simpa [wds_length] using (List.getElem?_eq_some_iff.1 hu).1
  have := h (j + 1) u (by
    rw [hc]
    show (Value.int .i64 k :: (wds s ++ [v]))[j + 1]? = some u
    rw [List.getElem?_cons_succ, List.getElem?_append_left (by rw [wds_length]; exact hj)]
    exact hu)
  rw [show o + 1 + j = o + (j + 1) by omega]
  exact this
set_option maxHeartbeats 8000000 in
set_option maxRecDepth 100000 in
theorem refAlt_any (l : List T) (v : Value) (w : World) (hr : RowT w.heap.size w v l) (hn : nodesL l ≤ 549755813887) :
    Calls Tryd.prog 34 #[v] w fun e w' => ∃ ds, e = .returned (.agg ds.toArray) ∧ RxD (fun k => w.heap.size ≤ k ∧ k < w'.heap.size) w' ds (altT l) ∧ Below w.heap.size w w' := by
  have R := Lib.hid hr
  have HN := Lib.hid hn
  have HFN := Lib.hid (flatT_nodes 5 l)
  obtain ⟨i0, hi0, hz0, hz1, hz2⟩ := inf_rx'
  obtain ⟨z, hz⟩ : ∃ z, z = rxc 0 zeroS (.slice none 0 0) := ⟨_, rfl⟩
  have HZL := Lib.hid (show z.length = 6 by rw [hz]; rfl)
  have HZ0 := Lib.hid (show i0.zero = some (.agg z.toArray) by rw [hz]; exact hz0)
  obtain ⟨i1, hi1, hy0⟩ := info_set
  have HBS := Lib.hid builtS
  obtain ⟨zs, hzs⟩ : ∃ zs, zs = zeroS := ⟨_, rfl⟩
  have HZS := Lib.hid hzs
  rw [← hzs] at HBS
  have HY0 := Lib.hid (show i1.zero = some (.agg (wds zs).toArray) by rw [hzs]; exact hy0)
  clear hr hn hz hz0 hzs hy0
  go_enter Tryd.func34, Tryd.ntmps34
  go_wp2_with (first
    | ((with_reducible refine atDst 2 ?_); refine wpList_new rfl 27 rfl i0 _ z hi0 HZ0.out rfl (Below.refl w.heap.size w) (Nat.le_refl _) ?_; intro w1 hk1 hb1 hs1 _; have K1 := Lib.hid hk1; have B1 := Lib.hid hb1; have S1 := Lib.hid hs1; clear hk1 hb1 hs1; (try simp only [Act.put, List.setIfInBounds_toArray, List.set_cons_zero, List.set_cons_succ]))
    | ((with_reducible refine atDst 4 ?_); refine wpList_new rfl 24 rfl i1 _ (wds zs) hi1 HY0.out rfl B1.out B1.out.size ?_; intro w2 hk2 hb2 hs2 ho2; have M2 := Lib.hid hk2; have B2 := Lib.hid hb2; have S2 := Lib.hid hs2; have K2 := Lib.hid (show Blk w2 w.heap.size 27 z from (ho2 _ K1.out.lt).trans K1.out); clear hk2 hb2 hs2 ho2; (try simp only [Act.put, List.setIfInBounds_toArray, List.set_cons_zero, List.set_cons_succ])))
  refine (refFlat_any 5 l v w2 (D := fun k => k < w.heap.size) (fun k hk => Nat.lt_of_lt_of_le hk B2.out.size) (R.out.below B2.out).rowD (by have := HN.out; omega)).mono ?_
  rintro e w3 ⟨v3, rfl, ho3, hb3⟩
  have B3 := Lib.hid (B2.out.trans (hb3.mono B2.out.size))
  have K3 := Lib.hid (K2.out.below hb3 K2.out.lt)
  have M3 := Lib.hid (M2.out.below hb3 M2.out.lt)
  obtain ⟨F, hF⟩ : ∃ F, F = flatT 5 l := ⟨_, rfl⟩
  have HAT := Lib.hid (show altT l = wrapT 5 noneT (sortU (itemsT (withoutT 1 F))) by rw [hF]; rfl)
  have HEN := Lib.hid (show nodesL F ≤ 549755813887 by rw [hF]; have h2 := HFN.out; have h3 := HN.out; omega)
  rw [← hF] at ho3
  have R3 := Lib.hid (ho3.rowD.mono (D' := fun k => k ≠ w.heap.size ∧ k ≠ w1.heap.size ∧ k < w3.heap.size) fun k hk => by
    have h1 := S1.out
    have h2 := S2.out
    rcases hk.1 with h | h
    · exact ⟨by omega, by omega, hk.2⟩
    · exact ⟨by omega, by omega, hk.2⟩)
  clear ho3 hb3 hF
  have HLE := Lib.hid (len_nodes F)
  obtain ⟨A, cap, f, rfl, h1, h2, h0, h3, h4⟩ := R3.out
  have H3 := Lib.hid h3
  have H4 := Lib.hid h4
  have G3 := Lib.hid K3.out.lt
  have GM := Lib.hid M3.out.lt
  have HKM := Lib.hid (show w.heap.size ≠ w1.heap.size by have := S1.out; omega)
  have HWM := Lib.hid (show w.heap.size ≤ w1.heap.size by have := S1.out; omega)
  clear h1 h2 h0 h3 h4
  go_wp2_with fail
  go_loopw [3, 6] (fun v i wl => ∃ (v1 : Value) (j : Nat), v1 = v ∧ j ≤ F.length ∧ i = .int .i64 (j : Int) ∧ RowD (fun k => w3.heap.size ≤ k ∧ k < wl.heap.size) wl v1 (sortU (othJ F j)) ∧ (sortU (othJ F j) = [] → v1 = .slice none 0 0) ∧ Blk wl w1.heap.size 24 (wds (orJ F j)) ∧ w3.grownBy wl (some w1.heap.size)) (fun _ i _ => F.length - (intOf i).toNat)
  case atStart =>
    refine ⟨_, 0, rfl, by omega, by simp, ⟨none, 0, fun _ => [], rfl, Nat.le_refl _, Nat.zero_le _, fun _ => rfl, fun h => absurd rfl h, fun i t h => by simp [othJ, withoutT, sortU] at h⟩, fun _ => rfl, ?_, World.grownBy.refl _ _⟩
    have : orJ F 0 = zs := by rw [HZS.out]; rfl
    rw [this]
    exact M3.out
  case round =>
    obtain ⟨v1, j, rfl, hj, rfl, ho, hnn, hm, hg⟩ := hrel
    have HO := Lib.hid ho
    have HNN := Lib.hid hnn
    have HM := Lib.hid hm
    have HG := Lib.hid hg
    have HB := Lib.hid (B3.out.grown hg B3.out.size (fun q hq => by have h1 := Option.some.inj hq; have h2 := HWM.out; omega))
    have KR := Lib.hid (show Blk wr w.heap.size 27 z from (hg.block _ K3.out.lt (fun e => HKM.out (Option.some.inj e))).trans K3.out)
    have HSW := Lib.hid hg.size
    have HNO := Lib.hid (Nat.le_trans (sortU_nodes (othJ F j)) (othJ_nodes F j))
    clear ho hnn hm hg
    by_cases hjl : j < F.length
    · have j1 : (j : Int) < (F.length : Int) := Int.ofNat_lt.2 hjl
      obtain ⟨b, off, rfl, hb, hrng⟩ := H3.out (by rintro rfl; simp at hjl)
      obtain ⟨u, hu⟩ : ∃ u, F[j]? = some u := ⟨_, List.getElem?_eq_getElem hjl⟩
      have HBB := Lib.hid hb
      have HV := Lib.hid ((H4.out j u hu).stay (w' := wr) fun k hk => HG.out.block k hk.2.2 (fun e => hk.2.1 (Option.some.inj e)))
      have HRG := Lib.hid (range_heap (hrng j hjl) (HG.out.block b hb.2.2 (fun e => hb.2.1 (Option.some.inj e))))
      obtain ⟨Au, cu, hsp, hru⟩ := HV.out.split
      have HV6 := Lib.hid HV.out.length
      have HSP := Lib.hid hsp
      have SR := Lib.hid (range_set HRG.out hsp)
      have a0 := range_cell0 HRG.out (show (f j)[0]? = some (.int .i64 u.kind) by rw [hsp]; rfl)
      have HU := Lib.hid hu
      have hj62 : j ≤ 4611686018427387904 := by have := HEN.out; have := HLE.out; omega
      have e3 := wrap_one j hj62
      have e4 := wrap_one' j hj62
      have HNX := Lib.hid (othJ_next F j u hu)
      have HOX := Lib.hid (orJ_next F j u hu)
      have HUN := Lib.hid (show u.nodes ≤ 1099511627776 by have h1 := nodes_mem (List.mem_of_getElem? hu); have h2 := HEN.out; omega)
      have HJ1 := Lib.hid (sub_next hjl)
      have HJ2 := Lib.hid (show j + 1 ≤ F.length from hjl)
      obtain ⟨cur, hcur⟩ : ∃ cur, cur = othJ F j := ⟨_, rfl⟩
      obtain ⟨o1, ho1⟩ : ∃ o1, o1 = orJ F j := ⟨_, rfl⟩
      rw [← hcur] at HO HNN HNX HNO
      rw [← ho1] at HM HOX
      clear hrng hu hj62 hb hsp hru hcur ho1
      by_cases hk1 : u.kind = 1
      · have hkb : (u.kind == 1) = true := by simpa using hk1
        have HE := Lib.hid (show othJ F (j + 1) = cur by rw [HNX.out, if_pos (.inl hk1), List.append_nil])
        have HEO := Lib.hid (show orJ F (j + 1) = o1 by rw [HOX.out]; funext b; simp [hk1])
        clear hk1
        go_wp2_with fail
        refine ⟨⟨_, j + 1, rfl, HJ2.out, by congr 1, by rw [HE.out]; exact HO.out, by rw [HE.out]; exact HNN.out, by rw [HEO.out]; exact HM.out, HG.out⟩, by simpa [intOf] using HJ1.out⟩
      · have hkb : (u.kind == 1) = false := by simpa using hk1
        by_cases hk3 : u.kind = 3
        · have hkc : (u.kind == 3) = true := by simpa using hk3
          have HE := Lib.hid (show othJ F (j + 1) = cur by rw [HNX.out, if_pos (.inr hk3), List.append_nil])
          have HEO := Lib.hid (show orJ F (j + 1) = fun b => o1 b || u.set b by rw [HOX.out]; funext b; simp [hk3])
          clear hk1 hk3
          go_wp2_with fail
          refine sxs_start (S := fun W => wr.grownBy W (some w1.heap.size)) (by kernel_rfl) (fun wd hwd => ?_)
          have hS : wr.grownBy wd (some w1.heap.size) := by rw [hwd]; exact ⟨rfl, rfl, rfl, Nat.le_refl _, fun k hk hne => rfl⟩
          have HMd := Lib.hid (show Blk wd w1.heap.size 24 (wds o1) by rw [hwd]; exact HM.out)
          have Bd := Lib.hid (show Below wr.heap.size wr wd by rw [hwd]; exact (Below.refl wr.heap.size wr).drew)
          clear hwd
          refine sxs_take (i := 1) (oi := ⟨some 32, _, _, _, _, _⟩) (v := ?_) rfl (by kernel_rfl) (by kernel_rfl) (by kernel_rfl) (fun _ _ _ h => h) rfl hS ?_ ?_; rotate_left; (intro W hW; go_simp; try with_reducible rfl); simp only [Act.put, List.setIfInBounds_toArray, List.set_cons_zero, List.set_cons_succ]
          refine sxs_take (i := 2) (oi := ⟨some 33, _, _, _, _, _⟩) (v := ?_) rfl (by kernel_rfl) (by kernel_rfl) (by kernel_rfl) (fun _ _ _ h => h) rfl hS ?_ ?_; rotate_left; (intro W hW; go_simp; try with_reducible rfl); simp only [Act.put, List.setIfInBounds_toArray, List.set_cons_zero, List.set_cons_succ]
          refine sxs_take (i := 3) (oi := ⟨some 34, _, _, _, _, _⟩) (v := ?_) rfl (by kernel_rfl) (by kernel_rfl) (by kernel_rfl) (fun _ _ _ h => h) rfl hS ?_ ?_; rotate_left; (intro W hW; go_simp; try with_reducible rfl); simp only [Act.put, List.setIfInBounds_toArray, List.set_cons_zero, List.set_cons_succ]
          refine sxs_take (i := 4) (oi := ⟨some 35, _, _, _, _, _⟩) (v := ?_) rfl (by kernel_rfl) (by kernel_rfl) (by kernel_rfl) (fun _ _ _ h => h) rfl hS ?_ ?_; rotate_left; (intro W hW; go_simp; try with_reducible rfl); simp only [Act.put, List.setIfInBounds_toArray, List.set_cons_zero, List.set_cons_succ]
          refine sxs_take (i := 5) (oi := ⟨some 36, _, _, _, _, _⟩) (v := .agg (wds u.set).toArray) rfl (by kernel_rfl) (by kernel_rfl) (by kernel_rfl) (fun _ _ _ h => h) rfl hS (fun W hW => ld_keep 24 _ rfl b (off + j * 6 + 1) rfl _ _ SR.out (hW.block b (Nat.lt_of_lt_of_le HBB.out.2.2 HSW.out) (fun e => HBB.out.2.1 (Option.some.inj e))) Tryd.underlying24 rfl (size_set u.set)) ?_; simp only [Act.put, List.setIfInBounds_toArray, List.set_cons_zero, List.set_cons_succ]
          refine sxs_act (i := 0) (o := ⟨some 31, _, _, _, _, _⟩) rfl (by kernel_rfl) rfl (fun K hK => ?_)
          refine wp_load_row 24 _ rfl w1.heap.size rfl 24 (wds o1).toArray (0, 0) _ HMd.out Tryd.underlying24 rfl (by simpa using size_set o1) ?_
          refine hK _ _ hS ?_
          clear hK K
          (try simp only [Act.put, List.setIfInBounds_toArray, List.set_cons_zero, List.set_cons_succ])
          refine sxs_act (i := 6) (o := ⟨some 37, _, _, _, _, _⟩) rfl (by kernel_rfl) rfl (fun K hK => ?_)
          go_wp2_with fail
          refine (refOr_any o1 u.set wd).mono ?_
          rintro e w7 ⟨rfl, hb7⟩
          have hS7 : wr.grownBy w7 (some w1.heap.size) := grown_below hS hb7 (Nat.le_refl _)
          have M7 := Lib.hid (HMd.out.below hb7 HMd.out.lt)
          have C7 := Lib.hid (Bd.out.trans (hb7.mono Bd.out.size))
          have B7 := Lib.hid (HB.out.trans (C7.out.mono HB.out.size))
          refine hK _ _ hS7 ?_
          clear hK K hb7 hS
          (try simp only [Act.put, List.setIfInBounds_toArray, List.set_cons_zero, List.set_cons_succ])
          refine sxs_act (i := 7) (o := ⟨none, _, _, _, _, _⟩) rfl (by kernel_rfl) rfl (fun K hK => ?_)
          refine wp_stBlk 24 _ _ rfl w1.heap.size (wds fun b => o1 b || u.set b) rfl rfl 24 _ M7.out (size_set _) rfl (wds_all _) B7.out HWM.out ?_
          intro w8 hk8 hb8 hs8 ho8 _
          have hS8 : wr.grownBy w8 (some w1.heap.size) := grown_at hS7 B7.out hb8 (by rw [hs8]; exact Nat.le_refl _) ho8
          refine hK _ _ hS8 ?_
          clear hK K
          refine wpAnyH_done (by kernel_rfl) ?_ _
          have M8 := Lib.hid hk8
          have G8 := Lib.hid (show w3.grownBy w8 (some w1.heap.size) from ⟨hS8.os.trans HG.out.os, hS8.tape.trans HG.out.tape, hS8.output.trans HG.out.output, Nat.le_trans HG.out.size hS8.size, fun k hk hne => (hS8.block k (Nat.lt_of_lt_of_le hk HG.out.size) hne).trans (HG.out.block k hk hne)⟩)
          have R8 := Lib.hid ((HO.out.stay (w' := w8) fun k hk => hS8.block k hk.2 (fun e => by have h1 := Option.some.inj e; have h2 := hk.1; have h3 := GM.out; omega)).mono (D' := fun k => w3.heap.size ≤ k ∧ k < w8.heap.size) fun k hk => ⟨hk.1, Nat.lt_of_lt_of_le hk.2 hS8.size⟩)
          clear hS8 hS7 hk8 hb8 hs8 ho8
          go_wp2_with fail
          refine ⟨⟨_, j + 1, rfl, HJ2.out, by congr 1, by rw [HE.out]; exact R8.out, by rw [HE.out]; exact HNN.out, by rw [HEO.out]; exact M8.out, G8.out⟩, by simpa [intOf] using HJ1.out⟩
        · have hkc : (u.kind == 3) = false := by simpa using hk3
          have HE := Lib.hid (show othJ F (j + 1) = cur ++ [u] by rw [HNX.out, if_neg (by rintro (h | h); exact hk1 h; exact hk3 h)])
          have HEO := Lib.hid (show orJ F (j + 1) = o1 by rw [HOX.out]; funext b; simp [hk3])
          clear hk1 hk3
          go_wp2_with ((with_reducible refine atDst 24 ?_); refine wpList_load_mid rfl 27 _ rfl b (off + j * 6) rfl (f j) _ HRG.out Tryd.underlying27 rfl (size_rx HV6.out) ?_; (try simp only [Act.put, List.setIfInBounds_toArray, List.set_cons_zero, List.set_cons_succ]))
          refine (refCopy_any _ u (Nat.le_refl _) HUN.out (f j) wr (RxD.mono HV.out fun k hk => Nat.lt_of_lt_of_le hk.2.2 HSW.out)).mono ?_
          rintro e w6 ⟨ds, rfl, hds, hb6⟩
          have HDS := Lib.hid (RxD.mono hds (D' := fun k => w3.heap.size ≤ k ∧ k < w6.heap.size) fun k hk => ⟨Nat.le_trans HSW.out hk.1, hk.2⟩)
          have O6 := Lib.hid ((HO.out.keep hb6 fun k hk => hk.2).mono (D' := fun k => w3.heap.size ≤ k ∧ k < w6.heap.size) fun k hk => ⟨hk.1, Nat.lt_of_lt_of_le hk.2 hb6.size⟩)
          have C6 := Lib.hid hb6
          have M6 := Lib.hid (HM.out.below hb6 HM.out.lt)
          clear hds hb6
          go_wp2_with fail
          refine (refInsert_any (sortU cur) u v1 ds w6 (fun k hk => hk.2) O6.out HNN.out HDS.out (by have h1 := HNO.out; have h2 := HEN.out; omega) HUN.out).mono ?_
          rintro e w7 ⟨v7, rfl, hr7, hb7⟩
          have R7 := Lib.hid (hr7.mono (D' := fun k => w3.heap.size ≤ k ∧ k < w7.heap.size) fun k hk => by
            have h1 := hb7.size
            have h2 := HSW.out
            have h3 := C6.out.size
            rcases hk with h | h
            · exact ⟨h.1, Nat.lt_of_lt_of_le h.2 h1⟩
            · exact ⟨by have := h.1; omega, h.2⟩)
          have M7 := Lib.hid (M6.out.below hb7 M6.out.lt)
          have G7 := Lib.hid (grown_below HG.out (C6.out.trans (hb7.mono C6.out.size)) (Nat.le_refl _))
          clear hr7 hb7
          go_wp2_with fail
          refine ⟨⟨_, j + 1, rfl, HJ2.out, by congr 1, by rw [HE.out, sortU_snoc]; exact R7.out, fun h => by rw [HE.out, sortU_snoc] at h; exact absurd h (sortU_cons_ne _ _), by rw [HEO.out]; exact M7.out, G7.out⟩, by simpa [intOf] using HJ1.out⟩
    · obtain rfl : j = F.length := by omega
      have j1 : ¬ ((F.length : Int) < (F.length : Int)) := by omega
      obtain ⟨E, hE⟩ : ∃ E, E = withoutT 1 F := ⟨_, rfl⟩
      have ho := HO.out
      have hnn := HNN.out
      have hm := HM.out
      have eo : othJ F F.length = withoutT 3 E := by rw [hE]; unfold othJ; rw [List.take_length]
      have er : orJ F F.length = orT E := by rw [hE]; unfold orJ; rw [List.take_length]
      rw [eo] at ho hnn
      rw [er] at hm
      have HNO2 := HNO.out
      rw [eo] at HNO2
      have HNP := Lib.hid HNO2
      have O9 := Lib.hid ho
      have N9 := Lib.hid hnn
      have M9 := Lib.hid hm
      have HAE := Lib.hid (show altT l = wrapT 5 noneT (sortU (itemsT E)) by rw [HAT.out, hE])
      clear ho hnn hm HO HM HNN HNO2 eo er hE
      cases hs : eqS (orT E) zs with
      | true =>
        have HNE := Lib.hid (show (!eqS (orT E) zs) = false by rw [hs]; rfl)
        have HI := Lib.hid (show itemsT E = withoutT 3 E by unfold itemsT; rw [← HZS.out, hs, if_pos rfl, List.append_nil])
        obtain ⟨P, hP⟩ : ∃ P, P = sortU (withoutT 3 E) := ⟨_, rfl⟩
        have HC0 := Lib.hid (show altT l = wrapT 5 noneT P by rw [HAE.out, HI.out, hP])
        have RX := Lib.hid (show RowD (fun k => w3.heap.size ≤ k ∧ k < wr.heap.size) wr v1 P by rw [hP]; exact O9.out)
        clear hs hP
        match P, RX, HC0 with
        | [], R9, HC0 =>
          have HC := Lib.hid (show altT l = noneT from HC0.out)
          obtain ⟨A3, cap3, f3, rfl, _⟩ := R9.out
          go_wp2_with (first
            | ((with_reducible refine atDst 38 ?_); refine wpList_ldArr rfl 24 _ rfl w1.heap.size rfl 24 _ _ M9.out Tryd.underlying24 rfl (size_set _) ?_; (try simp only [Act.put, List.setIfInBounds_toArray, List.set_cons_zero, List.set_cons_succ]))
            | ((with_reducible refine atDst 39 ?_); refine wpList_bld rfl 24 _ rfl (wds zs) HBS.out ?_; (try simp only [Act.put, List.setIfInBounds_toArray, List.set_cons_zero, List.set_cons_succ]))
            | ((with_reducible refine atDst 40 ?_); refine wpList_neSetG rfl HNE.out 24 22 (.tmp 38) (.tmp 39) 24 rfl guardSet Tryd.underlying24 Tryd.underlying22 sizeU64 rfl rfl ?_; (try simp only [Act.put, List.setIfInBounds_toArray, List.set_cons_zero, List.set_cons_succ])))
          refine (refNone_any wr).mono ?_
          rintro e w39 ⟨dx, rfl, hd9, hb9⟩
          have DA := Lib.hid (hd9 fun _ => False)
          have D6 := Lib.hid (hd9 fun _ => False).length
          have D1 := Lib.hid (show dx.all (·.oneCell') = true from List.all_eq_true.2 (hd9 fun _ => False).one)
          have B39 := Lib.hid (HB.out.trans (hb9.mono HB.out.size))
          have K39 := Lib.hid (KR.out.below hb9 KR.out.lt)
          clear hd9 hb9
          go_wp2_with ((with_reducible refine atStore 27 2 48 ?_); refine wpList_stBlk rfl 27 _ _ rfl w.heap.size dx rfl rfl 27 _ K39.out (size_rx D6.out) (by rw [HZL.out, D6.out]) D1.out B39.out (Nat.le_refl _) ?_; intro w40 hk10 hb10 hs10 ho10; have K40 := Lib.hid hk10; have B40 := Lib.hid hb10; clear hk10 hb10 hs10 ho10; (try simp only [Act.put, List.setIfInBounds_toArray, List.set_cons_zero, List.set_cons_succ]))
          refine bodyPost_ret (results_blk rfl _ _ w.heap.size 27 _ _ rfl K40.out Tryd.underlying27 rfl (size_rx D6.out)) rfl ?_
          exact ⟨dx, rfl, by rw [HC.out]; exact RxD.mono (DA.out.stay fun k hk => absurd hk id) fun k hk => absurd hk id, B40.out⟩
        | [t], R9, HC0 =>
          have HC := Lib.hid (show altT l = t from HC0.out)
          obtain ⟨A3, c3, f3, rfl, m1, m2, m3, m4, m5⟩ := R9.out
          obtain ⟨g3, o3, rfl, m6, m7⟩ := m4 (by simp)
          have HX := Lib.hid (m5 0 t rfl)
          have D6 := Lib.hid HX.out.length
          have D1 := Lib.hid (show (f3 0).all (·.oneCell') = true from List.all_eq_true.2 HX.out.one)
          have HR0 := Lib.hid (show wr.rangeAt g3 o3 (f3 0) from by have := m7 0 (by simp); simpa using this)
          obtain ⟨n1, hn1⟩ : ∃ n1, n1 = ([t] : List T).length := ⟨_, rfl⟩
          rw [← hn1]
          have n0 : ((n1 : Int) == 0) = false := by rw [hn1]; rfl
          have n2 : ((n1 : Int) == 1) = true := by rw [hn1]; rfl
          have n3 : (0 : Int) < (n1 : Int) := by rw [hn1]; simp
          clear m1 m2 m3 m4 m5 m6 m7 hn1
          go_wp2_with (first
            | ((with_reducible refine atDst 38 ?_); refine wpList_ldArr rfl 24 _ rfl w1.heap.size rfl 24 _ _ M9.out Tryd.underlying24 rfl (size_set _) ?_; (try simp only [Act.put, List.setIfInBounds_toArray, List.set_cons_zero, List.set_cons_succ]))
            | ((with_reducible refine atDst 39 ?_); refine wpList_bld rfl 24 _ rfl (wds zs) HBS.out ?_; (try simp only [Act.put, List.setIfInBounds_toArray, List.set_cons_zero, List.set_cons_succ]))
            | ((with_reducible refine atDst 40 ?_); refine wpList_neSetG rfl HNE.out 24 22 (.tmp 38) (.tmp 39) 24 rfl guardSet Tryd.underlying24 Tryd.underlying22 sizeU64 rfl rfl ?_; (try simp only [Act.put, List.setIfInBounds_toArray, List.set_cons_zero, List.set_cons_succ]))
            | ((with_reducible refine atDst 54 ?_); refine wpList_load_mid rfl 27 _ rfl g3 o3 rfl (f3 0) _ HR0.out Tryd.underlying27 rfl (size_rx D6.out) ?_; (try simp only [Act.put, List.setIfInBounds_toArray, List.set_cons_zero, List.set_cons_succ]))
            | ((with_reducible refine atStore 27 2 54 ?_); refine wpList_stBlk rfl 27 _ _ rfl w.heap.size (f3 0) rfl rfl 27 _ KR.out (size_rx D6.out) (by rw [HZL.out, D6.out]) D1.out HB.out (Nat.le_refl _) ?_; intro w40 hk10 hb10 hs10 ho10; have K40 := Lib.hid hk10; have B40 := Lib.hid hb10; have D10 := Lib.hid (RxD.mono (HX.out.stay (w' := w40) fun k hk => ho10 k (by have h1 := hk.1; have h2 := G3.out; omega)) (D' := fun k => w.heap.size ≤ k ∧ k < w40.heap.size) fun k hk => ⟨by have h1 := hk.1; have h2 := G3.out; omega, by have h1 := hk.2; omega⟩); clear hk10 hb10 hs10 ho10; (try simp only [Act.put, List.setIfInBounds_toArray, List.set_cons_zero, List.set_cons_succ])))
          refine bodyPost_ret (results_blk rfl _ _ w.heap.size 27 _ _ rfl K40.out Tryd.underlying27 rfl (size_rx D6.out)) rfl ?_
          exact ⟨f3 0, rfl, by rw [HC.out]; exact D10.out, B40.out⟩
        | t :: u :: r, R9, HC0 =>
          obtain ⟨m, hm⟩ : ∃ m, m = t :: u :: r := ⟨_, rfl⟩
          have HM2 := Lib.hid (show 2 ≤ m.length by rw [hm]; simp)
          rw [← hm] at R9 HC0
          have HC := Lib.hid (show altT l = .node 5 zeroS m by rw [HC0.out, wrapT_many 5 _ m HM2.out])
          have R9' := Lib.hid R9.out
          obtain ⟨A3, c3, f3, rfl, _⟩ := R9.out
          obtain ⟨c, hc⟩ : ∃ c, c = rxc 5 zeroS (.slice A3 m.length c3) := ⟨_, rfl⟩
          have HCB := Lib.hid (show Tryd.prog.built 27 [(0, .int .i64 5), (2, .slice A3 m.length c3)] = some c.toArray by rw [hc]; exact built02 5 _ A3 m.length c3 rfl)
          have D6 := Lib.hid (show c.length = 6 by rw [hc]; rfl)
          have D1 := Lib.hid (show c.all (·.oneCell') = true by rw [hc]; rfl)
          have HX := Lib.hid (show RxD (fun b => w3.heap.size ≤ b ∧ b < wr.heap.size) wr c (.node 5 zeroS m) by rw [hc]; exact R9'.out.rx 5 zeroS)
          have m0 : ((m.length : Int) == 0) = false := by rw [beq_eq_false_iff_ne]; have := HM2.out; omega
          have m1 : ((m.length : Int) == 1) = false := by rw [beq_eq_false_iff_ne]; have := HM2.out; omega
          clear hm hc
          go_wp2_with (first
            | ((with_reducible refine atDst 38 ?_); refine wpList_ldArr rfl 24 _ rfl w1.heap.size rfl 24 _ _ M9.out Tryd.underlying24 rfl (size_set _) ?_; (try simp only [Act.put, List.setIfInBounds_toArray, List.set_cons_zero, List.set_cons_succ]))
            | ((with_reducible refine atDst 39 ?_); refine wpList_bld rfl 24 _ rfl (wds zs) HBS.out ?_; (try simp only [Act.put, List.setIfInBounds_toArray, List.set_cons_zero, List.set_cons_succ]))
            | ((with_reducible refine atDst 40 ?_); refine wpList_neSetG rfl HNE.out 24 22 (.tmp 38) (.tmp 39) 24 rfl guardSet Tryd.underlying24 Tryd.underlying22 sizeU64 rfl rfl ?_; (try simp only [Act.put, List.setIfInBounds_toArray, List.set_cons_zero, List.set_cons_succ]))
            | ((with_reducible refine atDst 56 ?_); refine wpList_bld rfl 27 _ rfl c HCB.out ?_; (try simp only [Act.put, List.setIfInBounds_toArray, List.set_cons_zero, List.set_cons_succ]))
            | ((with_reducible refine atStore 27 2 56 ?_); refine wpList_stBlk rfl 27 _ _ rfl w.heap.size c rfl rfl 27 _ KR.out (size_rx D6.out) (by rw [HZL.out, D6.out]) D1.out HB.out (Nat.le_refl _) ?_; intro w40 hk10 hb10 hs10 ho10; have K40 := Lib.hid hk10; have B40 := Lib.hid hb10; have D10 := Lib.hid (RxD.mono (HX.out.stay (w' := w40) fun k hk => ho10 k (by have h1 := hk.1; have h2 := G3.out; omega)) (D' := fun k => w.heap.size ≤ k ∧ k < w40.heap.size) fun k hk => ⟨by have h1 := hk.1; have h2 := G3.out; omega, by have h1 := hk.2; omega⟩); clear hk10 hb10 hs10 ho10; (try simp only [Act.put, List.setIfInBounds_toArray, List.set_cons_zero, List.set_cons_succ])))
          refine bodyPost_ret (results_blk rfl _ _ w.heap.size 27 _ _ rfl K40.out Tryd.underlying27 rfl (size_rx D6.out)) rfl ?_
          exact ⟨c, rfl, by rw [HC.out]; exact D10.out, B40.out⟩
      | false =>
        have HNE := Lib.hid (show (!eqS (orT E) zs) = true by rw [hs]; rfl)
        have HBT := Lib.hid (show bytesT (orT E) = .node 3 (orT E) [] by unfold bytesT; rw [← HZS.out, hs]; rfl)
        have HI := Lib.hid (show itemsT E = withoutT 3 E ++ [.node 3 (orT E) []] by unfold itemsT; rw [← HZS.out, hs]; rfl)
        clear hs
        go_wp2_with (first
          | ((with_reducible refine atDst 38 ?_); refine wpList_ldArr rfl 24 _ rfl w1.heap.size rfl 24 _ _ M9.out Tryd.underlying24 rfl (size_set _) ?_; (try simp only [Act.put, List.setIfInBounds_toArray, List.set_cons_zero, List.set_cons_succ]))
          | ((with_reducible refine atDst 39 ?_); refine wpList_bld rfl 24 _ rfl (wds zs) HBS.out ?_; (try simp only [Act.put, List.setIfInBounds_toArray, List.set_cons_zero, List.set_cons_succ]))
          | ((with_reducible refine atDst 40 ?_); refine wpList_neSetG rfl HNE.out 24 22 (.tmp 38) (.tmp 39) 24 rfl guardSet Tryd.underlying24 Tryd.underlying22 sizeU64 rfl rfl ?_; (try simp only [Act.put, List.setIfInBounds_toArray, List.set_cons_zero, List.set_cons_succ]))
          | ((with_reducible refine atDst 42 ?_); refine wpList_ldArr rfl 24 _ rfl w1.heap.size rfl 24 _ _ M9.out Tryd.underlying24 rfl (size_set _) ?_; (try simp only [Act.put, List.setIfInBounds_toArray, List.set_cons_zero, List.set_cons_succ])))
        refine (refBytes_any (orT E) wr).mono ?_
        rintro e w10 ⟨ds, rfl, hd10, hb10⟩
        rw [HBT.out] at hd10
        have D10 := Lib.hid (hd10 fun k => w3.heap.size ≤ k ∧ k < w10.heap.size)
        have O10 := Lib.hid ((O9.out.keep hb10 fun k hk => hk.2).mono (D' := fun k => w3.heap.size ≤ k ∧ k < w10.heap.size) fun k hk => ⟨hk.1, Nat.lt_of_lt_of_le hk.2 hb10.size⟩)
        have B10 := Lib.hid (HB.out.trans (hb10.mono HB.out.size))
        have K10 := Lib.hid (KR.out.below hb10 KR.out.lt)
        have S10 := Lib.hid (Nat.le_trans HSW.out hb10.size)
        clear hd10 hb10
        go_wp2_with fail
        refine (refInsert_any (sortU (withoutT 3 E)) (.node 3 (orT E) []) v1 ds w10 (fun k hk => hk.2) O10.out N9.out D10.out (by have h1 := HNP.out; have h2 := HEN.out; omega) (by simp [T.nodes, nodesL])).mono ?_
        rintro e w11 ⟨v11, rfl, hr11, hb11⟩
        obtain ⟨P, hP⟩ : ∃ P, P = insT (.node 3 (orT E) []) (sortU (withoutT 3 E)) := ⟨_, rfl⟩
        have HC0 := Lib.hid (show altT l = wrapT 5 noneT P by rw [HAE.out, HI.out, sortU_snoc, hP])
        rw [← hP] at hr11
        have RX := Lib.hid (hr11.mono (D' := fun k => w3.heap.size ≤ k ∧ k < w11.heap.size) fun k hk => by
          have h1 := hb11.size
          have h2 := S10.out
          rcases hk with h | h
          · exact ⟨h.1, Nat.lt_of_lt_of_le h.2 h1⟩
          · exact ⟨by have := h.1; omega, h.2⟩)
        have BX := Lib.hid (B10.out.trans (hb11.mono B10.out.size))
        have KX := Lib.hid (K10.out.below hb11 K10.out.lt)
        clear hr11 hb11 hP
        match P, RX, HC0 with
        | [], R9, HC0 =>
          have HC := Lib.hid (show altT l = noneT from HC0.out)
          obtain ⟨A3, cap3, f3, rfl, _⟩ := R9.out
          go_wp2_with (first
            | ((with_reducible refine atDst 38 ?_); refine wpList_ldArr rfl 24 _ rfl w1.heap.size rfl 24 _ _ M9.out Tryd.underlying24 rfl (size_set _) ?_; (try simp only [Act.put, List.setIfInBounds_toArray, List.set_cons_zero, List.set_cons_succ]))
            | ((with_reducible refine atDst 39 ?_); refine wpList_bld rfl 24 _ rfl (wds zs) HBS.out ?_; (try simp only [Act.put, List.setIfInBounds_toArray, List.set_cons_zero, List.set_cons_succ]))
            | ((with_reducible refine atDst 40 ?_); refine wpList_neSetG rfl HNE.out 24 22 (.tmp 38) (.tmp 39) 24 rfl guardSet Tryd.underlying24 Tryd.underlying22 sizeU64 rfl rfl ?_; (try simp only [Act.put, List.setIfInBounds_toArray, List.set_cons_zero, List.set_cons_succ])))
          refine (refNone_any w11).mono ?_
          rintro e w39 ⟨dx, rfl, hd9, hb9⟩
          have DA := Lib.hid (hd9 fun _ => False)
          have D6 := Lib.hid (hd9 fun _ => False).length
          have D1 := Lib.hid (show dx.all (·.oneCell') = true from List.all_eq_true.2 (hd9 fun _ => False).one)
          have B39 := Lib.hid (BX.out.trans (hb9.mono BX.out.size))
          have K39 := Lib.hid (KX.out.below hb9 KX.out.lt)
          clear hd9 hb9
          go_wp2_with ((with_reducible refine atStore 27 2 48 ?_); refine wpList_stBlk rfl 27 _ _ rfl w.heap.size dx rfl rfl 27 _ K39.out (size_rx D6.out) (by rw [HZL.out, D6.out]) D1.out B39.out (Nat.le_refl _) ?_; intro w40 hk10 hb10 hs10 ho10; have K40 := Lib.hid hk10; have B40 := Lib.hid hb10; clear hk10 hb10 hs10 ho10; (try simp only [Act.put, List.setIfInBounds_toArray, List.set_cons_zero, List.set_cons_succ]))
          refine bodyPost_ret (results_blk rfl _ _ w.heap.size 27 _ _ rfl K40.out Tryd.underlying27 rfl (size_rx D6.out)) rfl ?_
          exact ⟨dx, rfl, by rw [HC.out]; exact RxD.mono (DA.out.stay fun k hk => absurd hk id) fun k hk => absurd hk id, B40.out⟩
        | [t], R9, HC0 =>
          have HC := Lib.hid (show altT l = t from HC0.out)
          obtain ⟨A3, c3, f3, rfl, m1, m2, m3, m4, m5⟩ := R9.out
          obtain ⟨g3, o3, rfl, m6, m7⟩ := m4 (by simp)
          have HX := Lib.hid (m5 0 t rfl)
          have D6 := Lib.hid HX.out.length
          have D1 := Lib.hid (show (f3 0).all (·.oneCell') = true from List.all_eq_true.2 HX.out.one)
          have HR0 := Lib.hid (show w11.rangeAt g3 o3 (f3 0) from by have := m7 0 (by simp); simpa using this)
          obtain ⟨n1, hn1⟩ : ∃ n1, n1 = ([t] : List T).length := ⟨_, rfl⟩
          rw [← hn1]
          have n0 : ((n1 : Int) == 0) = false := by rw [hn1]; rfl
          have n2 : ((n1 : Int) == 1) = true := by rw [hn1]; rfl
          have n3 : (0 : Int) < (n1 : Int) := by rw [hn1]; simp
          clear m1 m2 m3 m4 m5 m6 m7 hn1
          go_wp2_with (first
            | ((with_reducible refine atDst 38 ?_); refine wpList_ldArr rfl 24 _ rfl w1.heap.size rfl 24 _ _ M9.out Tryd.underlying24 rfl (size_set _) ?_; (try simp only [Act.put, List.setIfInBounds_toArray, List.set_cons_zero, List.set_cons_succ]))
            | ((with_reducible refine atDst 39 ?_); refine wpList_bld rfl 24 _ rfl (wds zs) HBS.out ?_; (try simp only [Act.put, List.setIfInBounds_toArray, List.set_cons_zero, List.set_cons_succ]))
            | ((with_reducible refine atDst 40 ?_); refine wpList_neSetG rfl HNE.out 24 22 (.tmp 38) (.tmp 39) 24 rfl guardSet Tryd.underlying24 Tryd.underlying22 sizeU64 rfl rfl ?_; (try simp only [Act.put, List.setIfInBounds_toArray, List.set_cons_zero, List.set_cons_succ]))
            | ((with_reducible refine atDst 54 ?_); refine wpList_load_mid rfl 27 _ rfl g3 o3 rfl (f3 0) _ HR0.out Tryd.underlying27 rfl (size_rx D6.out) ?_; (try simp only [Act.put, List.setIfInBounds_toArray, List.set_cons_zero, List.set_cons_succ]))
            | ((with_reducible refine atStore 27 2 54 ?_); refine wpList_stBlk rfl 27 _ _ rfl w.heap.size (f3 0) rfl rfl 27 _ KX.out (size_rx D6.out) (by rw [HZL.out, D6.out]) D1.out BX.out (Nat.le_refl _) ?_; intro w40 hk10 hb10 hs10 ho10; have K40 := Lib.hid hk10; have B40 := Lib.hid hb10; have D10 := Lib.hid (RxD.mono (HX.out.stay (w' := w40) fun k hk => ho10 k (by have h1 := hk.1; have h2 := G3.out; omega)) (D' := fun k => w.heap.size ≤ k ∧ k < w40.heap.size) fun k hk => ⟨by have h1 := hk.1; have h2 := G3.out; omega, by have h1 := hk.2; omega⟩); clear hk10 hb10 hs10 ho10; (try simp only [Act.put, List.setIfInBounds_toArray, List.set_cons_zero, List.set_cons_succ])))
          refine bodyPost_ret (results_blk rfl _ _ w.heap.size 27 _ _ rfl K40.out Tryd.underlying27 rfl (size_rx D6.out)) rfl ?_
          exact ⟨f3 0, rfl, by rw [HC.out]; exact D10.out, B40.out⟩
        | t :: u :: r, R9, HC0 =>
          obtain ⟨m, hm⟩ : ∃ m, m = t :: u :: r := ⟨_, rfl⟩
          have HM2 := Lib.hid (show 2 ≤ m.length by rw [hm]; simp)
          rw [← hm] at R9 HC0
          have HC := Lib.hid (show altT l = .node 5 zeroS m by rw [HC0.out, wrapT_many 5 _ m HM2.out])
          have R9' := Lib.hid R9.out
          obtain ⟨A3, c3, f3, rfl, _⟩ := R9.out
          obtain ⟨c, hc⟩ : ∃ c, c = rxc 5 zeroS (.slice A3 m.length c3) := ⟨_, rfl⟩
          have HCB := Lib.hid (show Tryd.prog.built 27 [(0, .int .i64 5), (2, .slice A3 m.length c3)] = some c.toArray by rw [hc]; exact built02 5 _ A3 m.length c3 rfl)
          have D6 := Lib.hid (show c.length = 6 by rw [hc]; rfl)
          have D1 := Lib.hid (show c.all (·.oneCell') = true by rw [hc]; rfl)
          have HX := Lib.hid (show RxD (fun b => w3.heap.size ≤ b ∧ b < w11.heap.size) w11 c (.node 5 zeroS m) by rw [hc]; exact R9'.out.rx 5 zeroS)
          have m0 : ((m.length : Int) == 0) = false := by rw [beq_eq_false_iff_ne]; have := HM2.out; omega
          have m1 : ((m.length : Int) == 1) = false := by rw [beq_eq_false_iff_ne]; have := HM2.out; omega
          clear hm hc
          go_wp2_with (first
            | ((with_reducible refine atDst 38 ?_); refine wpList_ldArr rfl 24 _ rfl w1.heap.size rfl 24 _ _ M9.out Tryd.underlying24 rfl (size_set _) ?_; (try simp only [Act.put, List.setIfInBounds_toArray, List.set_cons_zero, List.set_cons_succ]))
            | ((with_reducible refine atDst 39 ?_); refine wpList_bld rfl 24 _ rfl (wds zs) HBS.out ?_; (try simp only [Act.put, List.setIfInBounds_toArray, List.set_cons_zero, List.set_cons_succ]))
            | ((with_reducible refine atDst 40 ?_); refine wpList_neSetG rfl HNE.out 24 22 (.tmp 38) (.tmp 39) 24 rfl guardSet Tryd.underlying24 Tryd.underlying22 sizeU64 rfl rfl ?_; (try simp only [Act.put, List.setIfInBounds_toArray, List.set_cons_zero, List.set_cons_succ]))
            | ((with_reducible refine atDst 56 ?_); refine wpList_bld rfl 27 _ rfl c HCB.out ?_; (try simp only [Act.put, List.setIfInBounds_toArray, List.set_cons_zero, List.set_cons_succ]))
            | ((with_reducible refine atStore 27 2 56 ?_); refine wpList_stBlk rfl 27 _ _ rfl w.heap.size c rfl rfl 27 _ KX.out (size_rx D6.out) (by rw [HZL.out, D6.out]) D1.out BX.out (Nat.le_refl _) ?_; intro w40 hk10 hb10 hs10 ho10; have K40 := Lib.hid hk10; have B40 := Lib.hid hb10; have D10 := Lib.hid (RxD.mono (HX.out.stay (w' := w40) fun k hk => ho10 k (by have h1 := hk.1; have h2 := G3.out; omega)) (D' := fun k => w.heap.size ≤ k ∧ k < w40.heap.size) fun k hk => ⟨by have h1 := hk.1; have h2 := G3.out; omega, by have h1 := hk.2; omega⟩); clear hk10 hb10 hs10 ho10; (try simp only [Act.put, List.setIfInBounds_toArray, List.set_cons_zero, List.set_cons_succ])))
          refine bodyPost_ret (results_blk rfl _ _ w.heap.size 27 _ _ rfl K40.out Tryd.underlying27 rfl (size_rx D6.out)) rfl ?_
          exact ⟨c, rfl, by rw [HC.out]; exact D10.out, B40.out⟩
end Go.Proofs.YtmlojjgddmnbmaaDoor
namespace Go.Proofs.YtmlojjgddmnbmaaDoor
open Go.RowKit
set_option linter.unusedSimpArgs false
set_option linter.unusedVariables false

/-- Any number of one that is no choice with the empty word. -/
def star1T (x : T) : T := if x.kind = 6 then x else if x.kind = 1 ∨ x.kind = 2 then emptyT else .node 6 zeroS [x]
def starT (r : T) : T := if r.kind = 5 ∧ anyK 2 r.args = true then star1T (altT (withoutT 2 r.args)) else star1T r
theorem without_all {k : Int} {l : List T} (h : anyK k l = false) : withoutT k l = l := by
  unfold withoutT
  rw [List.filter_eq_self]
  intro t ht
  unfold anyK at h
  have := List.any_eq_false.1 h t ht
  simpa using this
theorem without_less {k : Int} {l : List T} (h : anyK k l = true) : (withoutT k l).length < l.length := by
  obtain ⟨t, ht, hk⟩ := List.any_eq_true.1 h
  unfold withoutT
  rw [List.length_filter_lt_length_iff_exists]
  exact ⟨t, ht, by simpa using hk⟩
theorem refEmpty_fr (w : World) : Calls Tryd.prog 22 #[] w fun e w' => ∃ ds, e = .returned (.agg ds.toArray) ∧ RxD (fun k => w.heap.size ≤ k ∧ k < w'.heap.size) w' ds emptyT ∧ Below w.heap.size w w' :=
  (refEmpty_any w).mono fun _ _ ⟨ds, h1, h2, h3⟩ => ⟨ds, h1, h2 _, h3⟩
/-- What alternatives of none that are empty come to. -/
theorem alt_no2 {l : List T} (hg : ∀ t ∈ l, good t) (h : ∀ t ∈ l, t.kind ≠ 2 ∧ t.kind ≠ 5) : ¬ ((altT l).kind = 5 ∧ anyK 2 (altT l).args = true) := by
  have hfl : flatT 5 l = l := by
    unfold flatT
    have : ∀ m : List T, (∀ t ∈ m, t.kind ≠ 5) → m.flatMap (fun t => if t.kind = 5 then t.args else [t]) = m := by
      intro m
      induction m with
      | nil => intro _; rfl
      | cons a r ih =>
        intro hm
        rw [List.flatMap_cons, if_neg (hm a (by simp)), ih (fun t ht => hm t (by simp [ht]))]
        rfl
    exact this l fun t ht => (h t ht).2
  have hE : ∀ t ∈ withoutT 1 l, good t := good_without hg
  have hmem : ∀ t ∈ sortU (itemsT (withoutT 1 l)), t.kind ≠ 2 ∧ t.kind ≠ 5 := by
    intro t ht
    rw [sortU_mem (good_items hE)] at ht
    unfold itemsT at ht
    rcases List.mem_append.1 ht with h1 | h1
    · exact h t (List.mem_filter.1 (List.mem_filter.1 h1).1).1
    · split at h1
      · simp at h1
      · obtain rfl : t = .node 3 (orT (withoutT 1 l)) [] := by simpa using h1
        simp [T.kind]
  unfold altT
  rw [hfl]
  match hS : sortU (itemsT (withoutT 1 l)) with
  | [] => simp [wrapT, noneT, T.kind]
  | [t] =>
    have := hmem t (by rw [hS]; simp)
    rintro ⟨h1, _⟩
    exact this.2 h1
  | a :: b :: r =>
    rintro ⟨_, h2⟩
    unfold anyK at h2
    obtain ⟨t, ht, hk⟩ := List.any_eq_true.1 h2
    have : t ∈ sortU (itemsT (withoutT 1 l)) := by rw [hS]; exact ht
    exact (hmem t this).1 (by simpa using hk)
set_option maxHeartbeats 8000000 in
set_option maxRecDepth 100000 in
theorem refStar_flat (r : T) (cs : List Value) (w : World) {D : Nat → Prop} (hD : ∀ k, D k → k < w.heap.size) (hv : RxD D w cs r) (hM : r.nodes ≤ 549755813888) (hns : ¬ (r.kind = 5 ∧ anyK 2 r.args = true)) :
    Calls Tryd.prog 21 #[.agg cs.toArray] w fun e w' => ∃ ds, e = .returned (.agg ds.toArray) ∧ RxD (fun k => w.heap.size ≤ k ∧ k < w'.heap.size) w' ds (star1T r) ∧ Below w.heap.size w w' := by
  have HV := Lib.hid hv
  have HD := Lib.hid hD
  have HM := Lib.hid hM
  have HC6 := Lib.hid hv.length
  obtain ⟨Au, cu, hsp, hru⟩ := hv.split
  have HC0 := Lib.hid (show cs[0]? = some (.int .i64 r.kind) by rw [hsp]; rfl)
  have HC5 := Lib.hid (show cs[5]? = some (.slice Au r.args.length cu) by rw [hsp]; rfl)
  have HRU := Lib.hid hru
  have HNA := Lib.hid (show nodesL r.args + 1 ≤ r.nodes by cases r with | node k s l => simp only [T.args, T.nodes]; omega)
  obtain ⟨i0, hi0, hz0, hz1, hz2⟩ := inf_rx'
  obtain ⟨z, hz⟩ : ∃ z, z = rxc 0 zeroS (.slice none 0 0) := ⟨_, rfl⟩
  have HZL := Lib.hid (show z.length = 6 by rw [hz]; rfl)
  have HZ0 := Lib.hid (show i0.zero = some (.agg z.toArray) by rw [hz]; exact hz0)
  have HZ1 := Lib.hid hz0
  clear hv hD hM hsp hru hz hz0
  by_cases h6 : r.kind = 6
  · have k6 : (r.kind == 6) = true := by simpa using h6
    have HF := Lib.hid (show star1T r = r by unfold star1T; rw [if_pos h6])
    clear h6 hns
    go_enter Tryd.func21, Tryd.ntmps21
    go_wp2_with (first
      | ((with_reducible refine atDst 1 ?_); refine wpList_box rfl 27 _ rfl cs rfl (Below.refl w.heap.size w) (Nat.le_refl _) ?_; intro w1 hk1 hb1 hs1 _; have K1 := Lib.hid hk1; have B1 := Lib.hid hb1; clear hk1 hb1 hs1; (try simp only [Act.put, List.setIfInBounds_toArray, List.set_cons_zero, List.set_cons_succ]))
      | ((with_reducible refine atDst 2 ?_); refine wpList_new rfl 27 rfl i0 _ z hi0 HZ0.out rfl B1.out B1.out.size ?_; intro w2 hk2 hb2 hs2 ho2; have M2 := Lib.hid hk2; have B2 := Lib.hid hb2; have K2 := Lib.hid (show Blk w2 w.heap.size 27 cs from (ho2 _ K1.out.lt).trans K1.out); have G12 := Lib.hid K1.out.lt; have a0 := K2.out.cell 0; rw [HC0.out] at a0; have a5 := K2.out.cell 5; rw [HC5.out] at a5; clear hk2 hb2 hs2 ho2; (try simp only [Act.put, List.setIfInBounds_toArray, List.set_cons_zero, List.set_cons_succ]))
      | ((with_reducible refine atDst 9 ?_); refine wpList_ldArr rfl 27 _ rfl w.heap.size rfl 27 _ _ K2.out Tryd.underlying27 rfl (size_rx HC6.out) ?_; (try simp only [Act.put, List.setIfInBounds_toArray, List.set_cons_zero, List.set_cons_succ]))
      | ((with_reducible refine atDst 48 ?_); refine wpList_ldArr rfl 27 _ rfl w.heap.size rfl 27 _ _ K2.out Tryd.underlying27 rfl (size_rx HC6.out) ?_; (try simp only [Act.put, List.setIfInBounds_toArray, List.set_cons_zero, List.set_cons_succ])))
    refine (refCopy_any _ r (Nat.le_refl _) (by have := HM.out; omega) cs w2 (RxD.mono (HV.out.keep B2.out HD.out) fun k hk => Nat.lt_of_lt_of_le (HD.out k hk) B2.out.size)).mono ?_
    rintro e w9 ⟨ds, rfl, hds, hb9⟩
    have DX := Lib.hid (RxD.mono hds (D' := fun k => w2.heap.size ≤ k ∧ k < w9.heap.size) (fun k hk => hk))
    have D6 := Lib.hid hds.length
    have D1 := Lib.hid (show ds.all (·.oneCell') = true from List.all_eq_true.2 hds.one)
    have B9 := Lib.hid (B2.out.trans (hb9.mono B2.out.size))
    have M9 := Lib.hid (M2.out.below hb9 M2.out.lt)
    have GM := Lib.hid M2.out.lt
    clear hds hb9
    go_wp2_with ((with_reducible refine atStore 27 2 10 ?_); refine wpList_stBlk rfl 27 _ _ rfl w1.heap.size ds rfl rfl 27 _ M9.out (size_rx D6.out) (by rw [HZL.out, D6.out]) D1.out B9.out (Nat.le_of_lt G12.out) ?_; intro w10 hk10 hb10 hs10 ho10; have K10 := Lib.hid hk10; have B10 := Lib.hid hb10; have D10 := Lib.hid (RxD.mono (DX.out.stay (w' := w10) fun k hk => ho10 k (by have h1 := hk.1; have h2 := GM.out; omega)) (D' := fun k => w.heap.size ≤ k ∧ k < w10.heap.size) fun k hk => ⟨by have h1 := hk.1; have h2 := GM.out; have h3 := G12.out; omega, by have h1 := hk.2; omega⟩); clear hk10 hb10 hs10 ho10; (try simp only [Act.put, List.setIfInBounds_toArray, List.set_cons_zero, List.set_cons_succ]))
    refine bodyPost_ret (results_blk rfl _ _ w1.heap.size 27 _ _ rfl K10.out Tryd.underlying27 rfl (size_rx D6.out)) rfl ?_
    exact ⟨ds, rfl, by rw [HF.out]; exact D10.out, B10.out⟩
  · have k6 : (r.kind == 6) = false := by simpa using h6
    by_cases h1 : r.kind = 1 ∨ r.kind = 2
    · have HF := Lib.hid (show star1T r = emptyT by unfold star1T; rw [if_neg h6, if_pos h1])
      clear h6 hns
      rcases h1 with h1 | h1
      · have k1 : (r.kind == 1) = true := by simpa using h1
        clear h1
        go_enter Tryd.func21, Tryd.ntmps21
        go_wp2_with (first
          | ((with_reducible refine atDst 1 ?_); refine wpList_box rfl 27 _ rfl cs rfl (Below.refl w.heap.size w) (Nat.le_refl _) ?_; intro w1 hk1 hb1 hs1 _; have K1 := Lib.hid hk1; have B1 := Lib.hid hb1; clear hk1 hb1 hs1; (try simp only [Act.put, List.setIfInBounds_toArray, List.set_cons_zero, List.set_cons_succ]))
          | ((with_reducible refine atDst 2 ?_); refine wpList_new rfl 27 rfl i0 _ z hi0 HZ0.out rfl B1.out B1.out.size ?_; intro w2 hk2 hb2 hs2 ho2; have M2 := Lib.hid hk2; have B2 := Lib.hid hb2; have K2 := Lib.hid (show Blk w2 w.heap.size 27 cs from (ho2 _ K1.out.lt).trans K1.out); have G12 := Lib.hid K1.out.lt; have a0 := K2.out.cell 0; rw [HC0.out] at a0; have a5 := K2.out.cell 5; rw [HC5.out] at a5; clear hk2 hb2 hs2 ho2; (try simp only [Act.put, List.setIfInBounds_toArray, List.set_cons_zero, List.set_cons_succ]))
          | ((with_reducible refine atDst 9 ?_); refine wpList_ldArr rfl 27 _ rfl w.heap.size rfl 27 _ _ K2.out Tryd.underlying27 rfl (size_rx HC6.out) ?_; (try simp only [Act.put, List.setIfInBounds_toArray, List.set_cons_zero, List.set_cons_succ]))
          | ((with_reducible refine atDst 48 ?_); refine wpList_ldArr rfl 27 _ rfl w.heap.size rfl 27 _ _ K2.out Tryd.underlying27 rfl (size_rx HC6.out) ?_; (try simp only [Act.put, List.setIfInBounds_toArray, List.set_cons_zero, List.set_cons_succ])))
        refine (refEmpty_fr w2).mono ?_
        rintro e w9 ⟨ds, rfl, hds, hb9⟩
        have DX := Lib.hid (RxD.mono hds (D' := fun k => w2.heap.size ≤ k ∧ k < w9.heap.size) (fun k hk => hk))
        have D6 := Lib.hid hds.length
        have D1 := Lib.hid (show ds.all (·.oneCell') = true from List.all_eq_true.2 hds.one)
        have B9 := Lib.hid (B2.out.trans (hb9.mono B2.out.size))
        have M9 := Lib.hid (M2.out.below hb9 M2.out.lt)
        have GM := Lib.hid M2.out.lt
        clear hds hb9
        go_wp2_with ((with_reducible refine atStore 27 2 14 ?_); refine wpList_stBlk rfl 27 _ _ rfl w1.heap.size ds rfl rfl 27 _ M9.out (size_rx D6.out) (by rw [HZL.out, D6.out]) D1.out B9.out (Nat.le_of_lt G12.out) ?_; intro w10 hk10 hb10 hs10 ho10; have K10 := Lib.hid hk10; have B10 := Lib.hid hb10; have D10 := Lib.hid (RxD.mono (DX.out.stay (w' := w10) fun k hk => ho10 k (by have h1 := hk.1; have h2 := GM.out; omega)) (D' := fun k => w.heap.size ≤ k ∧ k < w10.heap.size) fun k hk => ⟨by have h1 := hk.1; have h2 := GM.out; have h3 := G12.out; omega, by have h1 := hk.2; omega⟩); clear hk10 hb10 hs10 ho10; (try simp only [Act.put, List.setIfInBounds_toArray, List.set_cons_zero, List.set_cons_succ]))
        refine bodyPost_ret (results_blk rfl _ _ w1.heap.size 27 _ _ rfl K10.out Tryd.underlying27 rfl (size_rx D6.out)) rfl ?_
        exact ⟨ds, rfl, by rw [HF.out]; exact D10.out, B10.out⟩
      · have k1 : (r.kind == 1) = false := by rw [h1]; rfl
        have k2 : (r.kind == 2) = true := by simpa using h1
        clear h1
        go_enter Tryd.func21, Tryd.ntmps21
        go_wp2_with (first
          | ((with_reducible refine atDst 1 ?_); refine wpList_box rfl 27 _ rfl cs rfl (Below.refl w.heap.size w) (Nat.le_refl _) ?_; intro w1 hk1 hb1 hs1 _; have K1 := Lib.hid hk1; have B1 := Lib.hid hb1; clear hk1 hb1 hs1; (try simp only [Act.put, List.setIfInBounds_toArray, List.set_cons_zero, List.set_cons_succ]))
          | ((with_reducible refine atDst 2 ?_); refine wpList_new rfl 27 rfl i0 _ z hi0 HZ0.out rfl B1.out B1.out.size ?_; intro w2 hk2 hb2 hs2 ho2; have M2 := Lib.hid hk2; have B2 := Lib.hid hb2; have K2 := Lib.hid (show Blk w2 w.heap.size 27 cs from (ho2 _ K1.out.lt).trans K1.out); have G12 := Lib.hid K1.out.lt; have a0 := K2.out.cell 0; rw [HC0.out] at a0; have a5 := K2.out.cell 5; rw [HC5.out] at a5; clear hk2 hb2 hs2 ho2; (try simp only [Act.put, List.setIfInBounds_toArray, List.set_cons_zero, List.set_cons_succ]))
          | ((with_reducible refine atDst 9 ?_); refine wpList_ldArr rfl 27 _ rfl w.heap.size rfl 27 _ _ K2.out Tryd.underlying27 rfl (size_rx HC6.out) ?_; (try simp only [Act.put, List.setIfInBounds_toArray, List.set_cons_zero, List.set_cons_succ]))
          | ((with_reducible refine atDst 48 ?_); refine wpList_ldArr rfl 27 _ rfl w.heap.size rfl 27 _ _ K2.out Tryd.underlying27 rfl (size_rx HC6.out) ?_; (try simp only [Act.put, List.setIfInBounds_toArray, List.set_cons_zero, List.set_cons_succ])))
        refine (refEmpty_fr w2).mono ?_
        rintro e w9 ⟨ds, rfl, hds, hb9⟩
        have DX := Lib.hid (RxD.mono hds (D' := fun k => w2.heap.size ≤ k ∧ k < w9.heap.size) (fun k hk => hk))
        have D6 := Lib.hid hds.length
        have D1 := Lib.hid (show ds.all (·.oneCell') = true from List.all_eq_true.2 hds.one)
        have B9 := Lib.hid (B2.out.trans (hb9.mono B2.out.size))
        have M9 := Lib.hid (M2.out.below hb9 M2.out.lt)
        have GM := Lib.hid M2.out.lt
        clear hds hb9
        go_wp2_with ((with_reducible refine atStore 27 2 14 ?_); refine wpList_stBlk rfl 27 _ _ rfl w1.heap.size ds rfl rfl 27 _ M9.out (size_rx D6.out) (by rw [HZL.out, D6.out]) D1.out B9.out (Nat.le_of_lt G12.out) ?_; intro w10 hk10 hb10 hs10 ho10; have K10 := Lib.hid hk10; have B10 := Lib.hid hb10; have D10 := Lib.hid (RxD.mono (DX.out.stay (w' := w10) fun k hk => ho10 k (by have h1 := hk.1; have h2 := GM.out; omega)) (D' := fun k => w.heap.size ≤ k ∧ k < w10.heap.size) fun k hk => ⟨by have h1 := hk.1; have h2 := GM.out; have h3 := G12.out; omega, by have h1 := hk.2; omega⟩); clear hk10 hb10 hs10 ho10; (try simp only [Act.put, List.setIfInBounds_toArray, List.set_cons_zero, List.set_cons_succ]))
        refine bodyPost_ret (results_blk rfl _ _ w1.heap.size 27 _ _ rfl K10.out Tryd.underlying27 rfl (size_rx D6.out)) rfl ?_
        exact ⟨ds, rfl, by rw [HF.out]; exact D10.out, B10.out⟩
    · have HF := Lib.hid (show star1T r = .node 6 zeroS [r] by unfold star1T; rw [if_neg h6, if_neg h1])
      have k1 : (r.kind == 1) = false := by simpa using fun h => h1 (.inl h)
      have k2 : (r.kind == 2) = false := by simpa using fun h => h1 (.inr h)
      by_cases h5 : r.kind = 5
      · have k5 : (r.kind == 5) = true := by simpa using h5
        have HWA := Lib.hid (show withoutT 2 r.args = r.args from without_all (by
          cases ha : anyK 2 r.args with
          | false => rfl
          | true => exact absurd ⟨h5, ha⟩ hns))
        clear h6 h1 h5 hns
        go_enter Tryd.func21, Tryd.ntmps21
        go_wp2_with (first
          | ((with_reducible refine atDst 1 ?_); refine wpList_box rfl 27 _ rfl cs rfl (Below.refl w.heap.size w) (Nat.le_refl _) ?_; intro w1 hk1 hb1 hs1 _; have K1 := Lib.hid hk1; have B1 := Lib.hid hb1; clear hk1 hb1 hs1; (try simp only [Act.put, List.setIfInBounds_toArray, List.set_cons_zero, List.set_cons_succ]))
          | ((with_reducible refine atDst 2 ?_); refine wpList_new rfl 27 rfl i0 _ z hi0 HZ0.out rfl B1.out B1.out.size ?_; intro w2 hk2 hb2 hs2 ho2; have M2 := Lib.hid hk2; have B2 := Lib.hid hb2; have K2 := Lib.hid (show Blk w2 w.heap.size 27 cs from (ho2 _ K1.out.lt).trans K1.out); have G12 := Lib.hid K1.out.lt; have a0 := K2.out.cell 0; rw [HC0.out] at a0; have a5 := K2.out.cell 5; rw [HC5.out] at a5; clear hk2 hb2 hs2 ho2; (try simp only [Act.put, List.setIfInBounds_toArray, List.set_cons_zero, List.set_cons_succ]))
          | ((with_reducible refine atDst 9 ?_); refine wpList_ldArr rfl 27 _ rfl w.heap.size rfl 27 _ _ K2.out Tryd.underlying27 rfl (size_rx HC6.out) ?_; (try simp only [Act.put, List.setIfInBounds_toArray, List.set_cons_zero, List.set_cons_succ]))
          | ((with_reducible refine atDst 48 ?_); refine wpList_ldArr rfl 27 _ rfl w.heap.size rfl 27 _ _ K2.out Tryd.underlying27 rfl (size_rx HC6.out) ?_; (try simp only [Act.put, List.setIfInBounds_toArray, List.set_cons_zero, List.set_cons_succ])))
        go_loopw [3, 4] (fun v i wl => ∃ (v1 : Value) (j : Nat), v1 = v ∧ j ≤ r.args.length ∧ i = .int .i64 (j : Int) ∧ OwnT D w2.heap.size wl v1 (withoutT 2 (r.args.take j)) ∧ Below w2.heap.size w2 wl) (fun _ i _ => r.args.length - (intOf i).toNat)
        case atStart => exact ⟨_, 0, rfl, by omega, by simp, OwnT.nil _ _ _, Below.refl _ _⟩
        case round =>
          obtain ⟨v1, j, rfl, hj, rfl, ho, hb⟩ := hrel
          have HO := Lib.hid ho
          have HBw := Lib.hid hb
          have HB := Lib.hid (B2.out.trans (hb.mono B2.out.size))
          have KR := Lib.hid (K2.out.below hb K2.out.lt)
          have MR := Lib.hid (M2.out.below hb M2.out.lt)
          have r5 := KR.out.cell 5
          rw [HC5.out] at r5
          have HSW := Lib.hid hb.size
          clear ho hb
          by_cases hjl : j < r.args.length
          · have j1 : (j : Int) < (r.args.length : Int) := Int.ofNat_lt.2 hjl
            obtain ⟨Ax, cx, f, hex, h1, h2, h0, h3, h4⟩ := HRU.out
            injection hex with hex1 hex2 hex3
            subst hex1 hex3
            obtain ⟨b, off, rfl, hb, hrng⟩ := h3 (by intro he; rw [he] at hjl; simp at hjl)
            obtain ⟨u, hu⟩ : ∃ u, r.args[j]? = some u := ⟨_, List.getElem?_eq_getElem hjl⟩
            have HX := Lib.hid (h4 j u hu)
            have HVU := Lib.hid (HX.out.keep HB.out HD.out)
            have HRG := Lib.hid (range_below (hrng j hjl) HB.out (HD.out b hb))
            obtain ⟨Aw, cw, hsw, hrw⟩ := HVU.out.split
            have HV6 := Lib.hid HVU.out.length
            have c0 := range_cell0 HRG.out (show (f j)[0]? = some (.int .i64 u.kind) by rw [hsw]; rfl)
            have HLA := Lib.hid (len_nodes r.args)
            have hj62 : j ≤ 4611686018427387904 := by have := HLA.out; have := HNA.out; have := HM.out; omega
            have e3 := wrap_one j hj62
            have e4 := wrap_one' j hj62
            have HNX := Lib.hid (withoutT_next 2 r.args j u hu)
            have HNL := Lib.hid (Nat.le_trans (withoutT_len 2 (r.args.take j)) (List.length_take_le j r.args))
            have HJ1 := Lib.hid (sub_next hjl)
            have HJ2 := Lib.hid (show j + 1 ≤ r.args.length from hjl)
            obtain ⟨cur, hcur⟩ : ∃ cur, cur = withoutT 2 (r.args.take j) := ⟨_, rfl⟩
            rw [← hcur] at HO HNX HNL
            have HLC := Lib.hid (show cur.length + 1 ≤ 1099511627776 by have h1 := HNL.out; have h2 := HLA.out; have h3 := HNA.out; have h4 := HM.out; omega)
            clear hex2 h1 h2 h0 h3 h4 hrng hu hj62 hb hsw hrw hcur
            by_cases hk2 : u.kind = 2
            · have hkc : (u.kind != 2) = false := by simpa using hk2
              have HE := Lib.hid (show withoutT 2 (r.args.take (j + 1)) = cur by rw [HNX.out, if_pos hk2, List.append_nil])
              clear hk2
              go_wp2_with fail
              refine ⟨⟨_, j + 1, rfl, HJ2.out, by congr 1, by rw [HE.out]; exact HO.out, HBw.out⟩, by simpa [intOf] using HJ1.out⟩
            · have hkc : (u.kind != 2) = true := by simpa using hk2
              have HE := Lib.hid (show withoutT 2 (r.args.take (j + 1)) = cur ++ [u] by rw [HNX.out, if_neg hk2])
              clear hk2
              go_wp2_with (first
                | ((with_reducible refine atDst 36 ?_); refine wpList_load_mid rfl 27 _ rfl b (off + j * 6) rfl (f j) _ HRG.out Tryd.underlying27 rfl (size_rx HV6.out) ?_; (try simp only [Act.put, List.setIfInBounds_toArray, List.set_cons_zero, List.set_cons_succ]))
                | ((with_reducible refine atDst 37 ?_); refine wpList_bldT1 rfl 25 27 (.tmp 36) rfl i0 Tryd.underlying25 hi0 HZ1.out hz1 (f j) HV6.out rfl ?_; intro w4 hk4 hb4 hs4; have K4 := Lib.hid hk4; have O4 := Lib.hid (HO.out.stay hb4); have B4 := Lib.hid (HBw.out.trans (hb4.mono HBw.out.size)); have V4 := Lib.hid (RxD.mono (HX.out.keep (HB.out.trans (hb4.mono HB.out.size)) HD.out) (D' := fun k => D k ∧ k < w4.heap.size ∧ some k ≠ v1.ownBlock) fun k hk => ⟨hk, by have h1 := HB.out.size; have h2 := hb4.size; have h3 := HD.out k hk; omega, fun he => by have h1 := HO.out.ge k he.symm; have h2 := B2.out.size; have h3 := HD.out k hk; omega⟩); clear hk4 hb4 hs4; (try simp only [Act.put, List.setIfInBounds_toArray, List.set_cons_zero, List.set_cons_succ]))
                | ((with_reducible refine atDst 38 ?_); refine wpList_appT (D := D) (base := w2.heap.size) rfl (.tmp 31) (.tmp 37) rfl i0 hi0 HZ1.out hz1 hz2 v1 _ rfl O4.out wr.heap.size 1 27 (f j) u rfl K4.out V4.out HLC.out B4.out.size ?_; intro v5 w5 ho5 hg5; have O5 := Lib.hid ho5; have B5 := Lib.hid (B4.out.grown hg5 B4.out.size (fun q hq => O4.out.ge q hq)); clear ho5 hg5; (try simp only [Act.put, List.setIfInBounds_toArray, List.set_cons_zero, List.set_cons_succ])))
              refine ⟨⟨_, j + 1, rfl, HJ2.out, by congr 1, by rw [HE.out]; exact O5.out, B5.out⟩, by simpa [intOf] using HJ1.out⟩
          · obtain rfl : j = r.args.length := by omega
            have j1 : ¬ ((r.args.length : Int) < (r.args.length : Int)) := by omega
            have ho := HO.out
            rw [List.take_length] at ho
            have O9 := Lib.hid ho
            obtain ⟨A9, c9, rfl⟩ := ho.slice
            clear ho HO
            have hlt : ¬ (((withoutT 2 r.args).length : Int) < (r.args.length : Int)) := by rw [HWA.out]; omega
            go_wp2_with ((with_reducible refine atDst 48 ?_); refine wpList_ldArr rfl 27 _ rfl w.heap.size rfl 27 _ _ KR.out Tryd.underlying27 rfl (size_rx HC6.out) ?_; (try simp only [Act.put, List.setIfInBounds_toArray, List.set_cons_zero, List.set_cons_succ]))
            refine (refCopy_any _ r (Nat.le_refl _) (by have := HM.out; omega) cs wr (RxD.mono (HV.out.keep HB.out HD.out) fun k hk => Nat.lt_of_lt_of_le (HD.out k hk) HB.out.size)).mono ?_
            rintro e w9 ⟨ds, rfl, hds, hb9⟩
            have DX := Lib.hid (RxD.mono hds (D' := fun k => w2.heap.size ≤ k ∧ k < w9.heap.size) fun k hk => ⟨Nat.le_trans HSW.out hk.1, hk.2⟩)
            have D6 := Lib.hid hds.length
            have B9 := Lib.hid (HB.out.trans (hb9.mono HB.out.size))
            have M9 := Lib.hid (MR.out.below hb9 MR.out.lt)
            have GM := Lib.hid M2.out.lt
            have S9 := Lib.hid (Nat.le_trans HSW.out hb9.size)
            clear hds hb9
            obtain ⟨c, hc⟩ : ∃ c, c = rxc 6 zeroS (.slice (some ⟨w9.heap.size, 0, none⟩) 1 1) := ⟨_, rfl⟩
            have HCB := Lib.hid (show Tryd.prog.built 27 [(0, .int .i64 6), (2, .slice (some ⟨w9.heap.size, 0, none⟩) 1 1)] = some c.toArray by rw [hc]; exact built02 6 _ _ 1 1 rfl)
            have E6 := Lib.hid (show c.length = 6 by rw [hc]; rfl)
            have E1 := Lib.hid (show c.all (·.oneCell') = true by rw [hc]; rfl)
            have HCC := Lib.hid hc
            clear hc
            go_wp2_with (first
              | ((with_reducible refine atDst 50 ?_); refine wpList_bldT1 rfl 25 27 (.tmp 49) rfl i0 Tryd.underlying25 hi0 HZ1.out hz1 ds D6.out rfl ?_; intro w11 hk11 hb11 hs11; have K11 := Lib.hid hk11; have B11 := Lib.hid (B9.out.trans (hb11.mono B9.out.size)); have M11 := Lib.hid (M9.out.below hb11 M9.out.lt); have D11 := Lib.hid (RxD.mono (DX.out.stay (w' := w11) fun k hk => hb11.block k hk.2) (D' := fun k => w2.heap.size ≤ k ∧ k < w11.heap.size) fun k hk => ⟨hk.1, by have h1 := hk.2; omega⟩); have S11 := Lib.hid hs11; clear hk11 hb11 hs11; (try simp only [Act.put, List.setIfInBounds_toArray, List.set_cons_zero, List.set_cons_succ]))
              | ((with_reducible refine atDst 51 ?_); refine wpList_bld rfl 27 _ rfl c HCB.out ?_; (try simp only [Act.put, List.setIfInBounds_toArray, List.set_cons_zero, List.set_cons_succ]))
              | ((with_reducible refine atStore 27 2 51 ?_); refine wpList_stBlk rfl 27 _ _ rfl w1.heap.size c rfl rfl 27 _ M11.out (size_rx E6.out) (by rw [HZL.out, E6.out]) E1.out B11.out (Nat.le_of_lt G12.out) ?_; intro w10 hk10 hb10 hs10 ho10; have K10 := Lib.hid hk10; have B10 := Lib.hid hb10; have D10 := Lib.hid (RxD.mono (D11.out.stay (w' := w10) fun k hk => ho10 k (by have h1 := hk.1; have h2 := GM.out; omega)) (D' := fun k => w.heap.size ≤ k ∧ k < w10.heap.size) fun k hk => ⟨by have h1 := hk.1; have h2 := GM.out; have h3 := G12.out; omega, by have h1 := hk.2; omega⟩); have R10 := Lib.hid (show w10.rangeAt w9.heap.size (0 + 0 * 6) ds from fun i u hu => by have h1 := (show Blk w10 w9.heap.size 27 ds from (ho10 _ (by have h2 := GM.out; have h3 := S9.out; omega)).trans K11.out).cell (0 + 0 * 6 + i); rw [h1]; simpa using hu); have L10 := Lib.hid (show w.heap.size ≤ w9.heap.size ∧ w9.heap.size < w10.heap.size from ⟨by have h2 := GM.out; have h3 := S9.out; have h4 := G12.out; omega, by have h1 := S11.out; omega⟩); clear hk10 hb10 hs10 ho10; (try simp only [Act.put, List.setIfInBounds_toArray, List.set_cons_zero, List.set_cons_succ])))
            refine bodyPost_ret (results_blk rfl _ _ w1.heap.size 27 _ _ rfl K10.out Tryd.underlying27 rfl (size_rx E6.out)) rfl ?_
            refine ⟨c, rfl, ?_, B10.out⟩
            rw [HF.out, HCC.out]
            refine RxD.node (l := [r]) (cap := 1) (fun _ => ds) (Nat.le_refl _) (show 1 ≤ maxLen from by unfold maxLen; omega) (fun h => by cases h) (fun _ => ⟨w9.heap.size, 0, rfl, L10.out, fun i hi => ?_⟩) (fun i t ht => ?_)
            · have : i = 0 := by simpa using hi
              subst this
              exact R10.out
            · have hi := (List.getElem?_eq_some_iff.1 ht).1
              have : i = 0 := by simpa using hi
              subst this
              obtain rfl : r = t := by simpa using ht
              exact D10.out
      · have k5 : (r.kind == 5) = false := by simpa using h5
        have HSW := Lib.hid (Nat.le_refl w.heap.size)
        clear h6 h1 h5 hns
        go_enter Tryd.func21, Tryd.ntmps21
        go_wp2_with (first
          | ((with_reducible refine atDst 1 ?_); refine wpList_box rfl 27 _ rfl cs rfl (Below.refl w.heap.size w) (Nat.le_refl _) ?_; intro w1 hk1 hb1 hs1 _; have K1 := Lib.hid hk1; have B1 := Lib.hid hb1; clear hk1 hb1 hs1; (try simp only [Act.put, List.setIfInBounds_toArray, List.set_cons_zero, List.set_cons_succ]))
          | ((with_reducible refine atDst 2 ?_); refine wpList_new rfl 27 rfl i0 _ z hi0 HZ0.out rfl B1.out B1.out.size ?_; intro w2 hk2 hb2 hs2 ho2; have M2 := Lib.hid hk2; have B2 := Lib.hid hb2; have K2 := Lib.hid (show Blk w2 w.heap.size 27 cs from (ho2 _ K1.out.lt).trans K1.out); have G12 := Lib.hid K1.out.lt; have a0 := K2.out.cell 0; rw [HC0.out] at a0; have a5 := K2.out.cell 5; rw [HC5.out] at a5; clear hk2 hb2 hs2 ho2; (try simp only [Act.put, List.setIfInBounds_toArray, List.set_cons_zero, List.set_cons_succ]))
          | ((with_reducible refine atDst 9 ?_); refine wpList_ldArr rfl 27 _ rfl w.heap.size rfl 27 _ _ K2.out Tryd.underlying27 rfl (size_rx HC6.out) ?_; (try simp only [Act.put, List.setIfInBounds_toArray, List.set_cons_zero, List.set_cons_succ]))
          | ((with_reducible refine atDst 48 ?_); refine wpList_ldArr rfl 27 _ rfl w.heap.size rfl 27 _ _ K2.out Tryd.underlying27 rfl (size_rx HC6.out) ?_; (try simp only [Act.put, List.setIfInBounds_toArray, List.set_cons_zero, List.set_cons_succ])))
        have HSX := Lib.hid (Nat.le_refl w2.heap.size)
        refine (refCopy_any _ r (Nat.le_refl _) (by have := HM.out; omega) cs w2 (RxD.mono (HV.out.keep B2.out HD.out) fun k hk => Nat.lt_of_lt_of_le (HD.out k hk) B2.out.size)).mono ?_
        rintro e w9 ⟨ds, rfl, hds, hb9⟩
        have DX := Lib.hid (RxD.mono hds (D' := fun k => w2.heap.size ≤ k ∧ k < w9.heap.size) fun k hk => ⟨Nat.le_trans HSX.out hk.1, hk.2⟩)
        have D6 := Lib.hid hds.length
        have B9 := Lib.hid (B2.out.trans (hb9.mono B2.out.size))
        have M9 := Lib.hid (M2.out.below hb9 M2.out.lt)
        have GM := Lib.hid M2.out.lt
        have S9 := Lib.hid (Nat.le_trans HSX.out hb9.size)
        clear hds hb9
        obtain ⟨c, hc⟩ : ∃ c, c = rxc 6 zeroS (.slice (some ⟨w9.heap.size, 0, none⟩) 1 1) := ⟨_, rfl⟩
        have HCB := Lib.hid (show Tryd.prog.built 27 [(0, .int .i64 6), (2, .slice (some ⟨w9.heap.size, 0, none⟩) 1 1)] = some c.toArray by rw [hc]; exact built02 6 _ _ 1 1 rfl)
        have E6 := Lib.hid (show c.length = 6 by rw [hc]; rfl)
        have E1 := Lib.hid (show c.all (·.oneCell') = true by rw [hc]; rfl)
        have HCC := Lib.hid hc
        clear hc
        go_wp2_with (first
          | ((with_reducible refine atDst 50 ?_); refine wpList_bldT1 rfl 25 27 (.tmp 49) rfl i0 Tryd.underlying25 hi0 HZ1.out hz1 ds D6.out rfl ?_; intro w11 hk11 hb11 hs11; have K11 := Lib.hid hk11; have B11 := Lib.hid (B9.out.trans (hb11.mono B9.out.size)); have M11 := Lib.hid (M9.out.below hb11 M9.out.lt); have D11 := Lib.hid (RxD.mono (DX.out.stay (w' := w11) fun k hk => hb11.block k hk.2) (D' := fun k => w2.heap.size ≤ k ∧ k < w11.heap.size) fun k hk => ⟨hk.1, by have h1 := hk.2; omega⟩); have S11 := Lib.hid hs11; clear hk11 hb11 hs11; (try simp only [Act.put, List.setIfInBounds_toArray, List.set_cons_zero, List.set_cons_succ]))
          | ((with_reducible refine atDst 51 ?_); refine wpList_bld rfl 27 _ rfl c HCB.out ?_; (try simp only [Act.put, List.setIfInBounds_toArray, List.set_cons_zero, List.set_cons_succ]))
          | ((with_reducible refine atStore 27 2 51 ?_); refine wpList_stBlk rfl 27 _ _ rfl w1.heap.size c rfl rfl 27 _ M11.out (size_rx E6.out) (by rw [HZL.out, E6.out]) E1.out B11.out (Nat.le_of_lt G12.out) ?_; intro w10 hk10 hb10 hs10 ho10; have K10 := Lib.hid hk10; have B10 := Lib.hid hb10; have D10 := Lib.hid (RxD.mono (D11.out.stay (w' := w10) fun k hk => ho10 k (by have h1 := hk.1; have h2 := GM.out; omega)) (D' := fun k => w.heap.size ≤ k ∧ k < w10.heap.size) fun k hk => ⟨by have h1 := hk.1; have h2 := GM.out; have h3 := G12.out; omega, by have h1 := hk.2; omega⟩); have R10 := Lib.hid (show w10.rangeAt w9.heap.size (0 + 0 * 6) ds from fun i u hu => by have h1 := (show Blk w10 w9.heap.size 27 ds from (ho10 _ (by have h2 := GM.out; have h3 := S9.out; omega)).trans K11.out).cell (0 + 0 * 6 + i); rw [h1]; simpa using hu); have L10 := Lib.hid (show w.heap.size ≤ w9.heap.size ∧ w9.heap.size < w10.heap.size from ⟨by have h2 := GM.out; have h3 := S9.out; have h4 := G12.out; omega, by have h1 := S11.out; omega⟩); clear hk10 hb10 hs10 ho10; (try simp only [Act.put, List.setIfInBounds_toArray, List.set_cons_zero, List.set_cons_succ])))
        refine bodyPost_ret (results_blk rfl _ _ w1.heap.size 27 _ _ rfl K10.out Tryd.underlying27 rfl (size_rx E6.out)) rfl ?_
        refine ⟨c, rfl, ?_, B10.out⟩
        rw [HF.out, HCC.out]
        refine RxD.node (l := [r]) (cap := 1) (fun _ => ds) (Nat.le_refl _) (show 1 ≤ maxLen from by unfold maxLen; omega) (fun h => by cases h) (fun _ => ⟨w9.heap.size, 0, rfl, L10.out, fun i hi => ?_⟩) (fun i t ht => ?_)
        · have : i = 0 := by simpa using hi
          subst this
          exact R10.out
        · have hi := (List.getElem?_eq_some_iff.1 ht).1
          have : i = 0 := by simpa using hi
          subst this
          obtain rfl : r = t := by simpa using ht
          exact D10.out
set_option maxHeartbeats 8000000 in
set_option maxRecDepth 100000 in
theorem refStar_any (r : T) (cs : List Value) (w : World) {D : Nat → Prop} (hD : ∀ k, D k → k < w.heap.size) (hv : RxD D w cs r) (hM : r.nodes ≤ 274877906944) (hg : good r) :
    Calls Tryd.prog 21 #[.agg cs.toArray] w fun e w' => ∃ ds, e = .returned (.agg ds.toArray) ∧ RxD (fun k => w.heap.size ≤ k ∧ k < w'.heap.size) w' ds (starT r) ∧ Below w.heap.size w w' := by
  by_cases hns : r.kind = 5 ∧ anyK 2 r.args = true
  · have HF := Lib.hid (show starT r = star1T (altT (withoutT 2 r.args)) by unfold starT; rw [if_pos hns])
    have HWL := Lib.hid (without_less hns.2)
    have k6 : (r.kind == 6) = false := by rw [hns.1]; rfl
    have k1 : (r.kind == 1) = false := by rw [hns.1]; rfl
    have k2 : (r.kind == 2) = false := by rw [hns.1]; rfl
    have k5 : (r.kind == 5) = true := by rw [hns.1]; rfl
    have HGA := Lib.hid (show ∀ t ∈ r.args, good t ∧ t.kind ≠ 5 by
      cases r with
      | node k s l =>
        obtain ⟨g1, g2, g3, g4, g5, g6⟩ := good_node.1 hg
        intro t ht
        refine ⟨g2 t ht, fun h5 => ?_⟩
        have h1 := g5 t ht
        have h2 : k = 5 := hns.1
        rw [h5, h2] at h1
        simp [fitsT] at h1)
    have HNS := Lib.hid (alt_no2 (l := withoutT 2 r.args) (fun t ht => (HGA.out t (List.mem_filter.1 ht).1).1) (fun t ht => ⟨by simpa using (List.mem_filter.1 ht).2, (HGA.out t (List.mem_filter.1 ht).1).2⟩))
    have HM' := Lib.hid hM
    replace hM : r.nodes ≤ 549755813888 := by omega
    clear hns hg
    have HV := Lib.hid hv
    have HD := Lib.hid hD
    have HM := Lib.hid hM
    have HC6 := Lib.hid hv.length
    obtain ⟨Au, cu, hsp, hru⟩ := hv.split
    have HC0 := Lib.hid (show cs[0]? = some (.int .i64 r.kind) by rw [hsp]; rfl)
    have HC5 := Lib.hid (show cs[5]? = some (.slice Au r.args.length cu) by rw [hsp]; rfl)
    have HRU := Lib.hid hru
    have HNA := Lib.hid (show nodesL r.args + 1 ≤ r.nodes by cases r with | node k s l => simp only [T.args, T.nodes]; omega)
    obtain ⟨i0, hi0, hz0, hz1, hz2⟩ := inf_rx'
    obtain ⟨z, hz⟩ : ∃ z, z = rxc 0 zeroS (.slice none 0 0) := ⟨_, rfl⟩
    have HZL := Lib.hid (show z.length = 6 by rw [hz]; rfl)
    have HZ0 := Lib.hid (show i0.zero = some (.agg z.toArray) by rw [hz]; exact hz0)
    have HZ1 := Lib.hid hz0
    clear hv hD hM hsp hru hz hz0
    go_enter Tryd.func21, Tryd.ntmps21
    go_wp2_with (first
      | ((with_reducible refine atDst 1 ?_); refine wpList_box rfl 27 _ rfl cs rfl (Below.refl w.heap.size w) (Nat.le_refl _) ?_; intro w1 hk1 hb1 hs1 _; have K1 := Lib.hid hk1; have B1 := Lib.hid hb1; clear hk1 hb1 hs1; (try simp only [Act.put, List.setIfInBounds_toArray, List.set_cons_zero, List.set_cons_succ]))
      | ((with_reducible refine atDst 2 ?_); refine wpList_new rfl 27 rfl i0 _ z hi0 HZ0.out rfl B1.out B1.out.size ?_; intro w2 hk2 hb2 hs2 ho2; have M2 := Lib.hid hk2; have B2 := Lib.hid hb2; have K2 := Lib.hid (show Blk w2 w.heap.size 27 cs from (ho2 _ K1.out.lt).trans K1.out); have G12 := Lib.hid K1.out.lt; have a0 := K2.out.cell 0; rw [HC0.out] at a0; have a5 := K2.out.cell 5; rw [HC5.out] at a5; clear hk2 hb2 hs2 ho2; (try simp only [Act.put, List.setIfInBounds_toArray, List.set_cons_zero, List.set_cons_succ]))
      | ((with_reducible refine atDst 9 ?_); refine wpList_ldArr rfl 27 _ rfl w.heap.size rfl 27 _ _ K2.out Tryd.underlying27 rfl (size_rx HC6.out) ?_; (try simp only [Act.put, List.setIfInBounds_toArray, List.set_cons_zero, List.set_cons_succ]))
      | ((with_reducible refine atDst 48 ?_); refine wpList_ldArr rfl 27 _ rfl w.heap.size rfl 27 _ _ K2.out Tryd.underlying27 rfl (size_rx HC6.out) ?_; (try simp only [Act.put, List.setIfInBounds_toArray, List.set_cons_zero, List.set_cons_succ])))
    go_loopw [3, 4] (fun v i wl => ∃ (v1 : Value) (j : Nat), v1 = v ∧ j ≤ r.args.length ∧ i = .int .i64 (j : Int) ∧ OwnT D w2.heap.size wl v1 (withoutT 2 (r.args.take j)) ∧ Below w2.heap.size w2 wl) (fun _ i _ => r.args.length - (intOf i).toNat)
    case atStart => exact ⟨_, 0, rfl, by omega, by simp, OwnT.nil _ _ _, Below.refl _ _⟩
    case round =>
      obtain ⟨v1, j, rfl, hj, rfl, ho, hb⟩ := hrel
      have HO := Lib.hid ho
      have HBw := Lib.hid hb
      have HB := Lib.hid (B2.out.trans (hb.mono B2.out.size))
      have KR := Lib.hid (K2.out.below hb K2.out.lt)
      have MR := Lib.hid (M2.out.below hb M2.out.lt)
      have r5 := KR.out.cell 5
      rw [HC5.out] at r5
      have HSW := Lib.hid hb.size
      clear ho hb
      by_cases hjl : j < r.args.length
      · have j1 : (j : Int) < (r.args.length : Int) := Int.ofNat_lt.2 hjl
        obtain ⟨Ax, cx, f, hex, h1, h2, h0, h3, h4⟩ := HRU.out
        injection hex with hex1 hex2 hex3
        subst hex1 hex3
        obtain ⟨b, off, rfl, hb, hrng⟩ := h3 (by intro he; rw [he] at hjl; simp at hjl)
        obtain ⟨u, hu⟩ : ∃ u, r.args[j]? = some u := ⟨_, List.getElem?_eq_getElem hjl⟩
        have HX := Lib.hid (h4 j u hu)
        have HVU := Lib.hid (HX.out.keep HB.out HD.out)
        have HRG := Lib.hid (range_below (hrng j hjl) HB.out (HD.out b hb))
        obtain ⟨Aw, cw, hsw, hrw⟩ := HVU.out.split
        have HV6 := Lib.hid HVU.out.length
        have c0 := range_cell0 HRG.out (show (f j)[0]? = some (.int .i64 u.kind) by rw [hsw]; rfl)
        have HLA := Lib.hid (len_nodes r.args)
        have hj62 : j ≤ 4611686018427387904 := by have := HLA.out; have := HNA.out; have := HM.out; omega
        have e3 := wrap_one j hj62
        have e4 := wrap_one' j hj62
        have HNX := Lib.hid (withoutT_next 2 r.args j u hu)
        have HNL := Lib.hid (Nat.le_trans (withoutT_len 2 (r.args.take j)) (List.length_take_le j r.args))
        have HJ1 := Lib.hid (sub_next hjl)
        have HJ2 := Lib.hid (show j + 1 ≤ r.args.length from hjl)
        obtain ⟨cur, hcur⟩ : ∃ cur, cur = withoutT 2 (r.args.take j) := ⟨_, rfl⟩
        rw [← hcur] at HO HNX HNL
        have HLC := Lib.hid (show cur.length + 1 ≤ 1099511627776 by have h1 := HNL.out; have h2 := HLA.out; have h3 := HNA.out; have h4 := HM.out; omega)
        clear hex2 h1 h2 h0 h3 h4 hrng hu hj62 hb hsw hrw hcur
        by_cases hk2 : u.kind = 2
        · have hkc : (u.kind != 2) = false := by simpa using hk2
          have HE := Lib.hid (show withoutT 2 (r.args.take (j + 1)) = cur by rw [HNX.out, if_pos hk2, List.append_nil])
          clear hk2
          go_wp2_with fail
          refine ⟨⟨_, j + 1, rfl, HJ2.out, by congr 1, by rw [HE.out]; exact HO.out, HBw.out⟩, by simpa [intOf] using HJ1.out⟩
        · have hkc : (u.kind != 2) = true := by simpa using hk2
          have HE := Lib.hid (show withoutT 2 (r.args.take (j + 1)) = cur ++ [u] by rw [HNX.out, if_neg hk2])
          clear hk2
          go_wp2_with (first
            | ((with_reducible refine atDst 36 ?_); refine wpList_load_mid rfl 27 _ rfl b (off + j * 6) rfl (f j) _ HRG.out Tryd.underlying27 rfl (size_rx HV6.out) ?_; (try simp only [Act.put, List.setIfInBounds_toArray, List.set_cons_zero, List.set_cons_succ]))
            | ((with_reducible refine atDst 37 ?_); refine wpList_bldT1 rfl 25 27 (.tmp 36) rfl i0 Tryd.underlying25 hi0 HZ1.out hz1 (f j) HV6.out rfl ?_; intro w4 hk4 hb4 hs4; have K4 := Lib.hid hk4; have O4 := Lib.hid (HO.out.stay hb4); have B4 := Lib.hid (HBw.out.trans (hb4.mono HBw.out.size)); have V4 := Lib.hid (RxD.mono (HX.out.keep (HB.out.trans (hb4.mono HB.out.size)) HD.out) (D' := fun k => D k ∧ k < w4.heap.size ∧ some k ≠ v1.ownBlock) fun k hk => ⟨hk, by have h1 := HB.out.size; have h2 := hb4.size; have h3 := HD.out k hk; omega, fun he => by have h1 := HO.out.ge k he.symm; have h2 := B2.out.size; have h3 := HD.out k hk; omega⟩); clear hk4 hb4 hs4; (try simp only [Act.put, List.setIfInBounds_toArray, List.set_cons_zero, List.set_cons_succ]))
            | ((with_reducible refine atDst 38 ?_); refine wpList_appT (D := D) (base := w2.heap.size) rfl (.tmp 31) (.tmp 37) rfl i0 hi0 HZ1.out hz1 hz2 v1 _ rfl O4.out wr.heap.size 1 27 (f j) u rfl K4.out V4.out HLC.out B4.out.size ?_; intro v5 w5 ho5 hg5; have O5 := Lib.hid ho5; have B5 := Lib.hid (B4.out.grown hg5 B4.out.size (fun q hq => O4.out.ge q hq)); clear ho5 hg5; (try simp only [Act.put, List.setIfInBounds_toArray, List.set_cons_zero, List.set_cons_succ])))
          refine ⟨⟨_, j + 1, rfl, HJ2.out, by congr 1, by rw [HE.out]; exact O5.out, B5.out⟩, by simpa [intOf] using HJ1.out⟩
      · obtain rfl : j = r.args.length := by omega
        have j1 : ¬ ((r.args.length : Int) < (r.args.length : Int)) := by omega
        have ho := HO.out
        rw [List.take_length] at ho
        have O9 := Lib.hid ho
        obtain ⟨A9, c9, rfl⟩ := ho.slice
        clear ho HO
        have hlt : ((withoutT 2 r.args).length : Int) < (r.args.length : Int) := by have := HWL.out; omega
        go_wp2_with fail
        refine (refAlt_any (withoutT 2 r.args) _ wr (O9.out.rowD.mono fun k hk => hk.2) (by have h1 := withoutT_nodes 2 r.args; have h2 := HNA.out; have h3 := HM'.out; omega)).mono ?_
        rintro e w7 ⟨cs7, rfl, hd7, hb7⟩
        have B7 := Lib.hid (HB.out.trans (hb7.mono HB.out.size))
        have M7 := Lib.hid (MR.out.below hb7 MR.out.lt)
        have D7 := Lib.hid hd7
        have HN7 := Lib.hid (show (altT (withoutT 2 r.args)).nodes ≤ 549755813888 by have h1 := altT_nodes (withoutT 2 r.args); have h2 := withoutT_nodes 2 r.args; have h3 := HNA.out; have h4 := HM'.out; omega)
        have S7 := Lib.hid (Nat.le_trans HSW.out hb7.size)
        clear hd7 hb7
        go_wp2_with fail
        refine (refStar_flat (altT (withoutT 2 r.args)) cs7 w7 (fun k hk => hk.2) D7.out HN7.out HNS.out).mono ?_
        rintro e w9 ⟨ds, rfl, hds, hb9⟩
        have DX := Lib.hid (RxD.mono hds (D' := fun k => w2.heap.size ≤ k ∧ k < w9.heap.size) (fun k hk => ⟨Nat.le_trans S7.out hk.1, hk.2⟩))
        have D6 := Lib.hid hds.length
        have D1 := Lib.hid (show ds.all (·.oneCell') = true from List.all_eq_true.2 hds.one)
        have B9 := Lib.hid (B7.out.trans (hb9.mono B7.out.size))
        have M9 := Lib.hid (M7.out.below hb9 M7.out.lt)
        have GM := Lib.hid M2.out.lt
        clear hds hb9
        go_wp2_with ((with_reducible refine atStore 27 2 47 ?_); refine wpList_stBlk rfl 27 _ _ rfl w1.heap.size ds rfl rfl 27 _ M9.out (size_rx D6.out) (by rw [HZL.out, D6.out]) D1.out B9.out (Nat.le_of_lt G12.out) ?_; intro w10 hk10 hb10 hs10 ho10; have K10 := Lib.hid hk10; have B10 := Lib.hid hb10; have D10 := Lib.hid (RxD.mono (DX.out.stay (w' := w10) fun k hk => ho10 k (by have h1 := hk.1; have h2 := GM.out; omega)) (D' := fun k => w.heap.size ≤ k ∧ k < w10.heap.size) fun k hk => ⟨by have h1 := hk.1; have h2 := GM.out; have h3 := G12.out; omega, by have h1 := hk.2; omega⟩); clear hk10 hb10 hs10 ho10; (try simp only [Act.put, List.setIfInBounds_toArray, List.set_cons_zero, List.set_cons_succ]))
        refine bodyPost_ret (results_blk rfl _ _ w1.heap.size 27 _ _ rfl K10.out Tryd.underlying27 rfl (size_rx D6.out)) rfl ?_
        exact ⟨ds, rfl, by rw [HF.out]; exact D10.out, B10.out⟩
  · have h := refStar_flat r cs w hD hv (by omega) hns
    have HF : starT r = star1T r := by unfold starT; rw [if_neg hns]
    rw [HF]
    exact h
end Go.Proofs.YtmlojjgddmnbmaaDoor
