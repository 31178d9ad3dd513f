/-
  The walk of ShowBack: what numbers make is shown, and read again; texts are the same just where expressions are. No statement is proved here.
-/
import Derived.Test.YtmlojjgddmnbmaaDoorMPb
import Derived.Test.YtmlojjgddmnbmaaDoorMJb
import Derived.Test.YtmlojjgddmnbmaaDoorMKb
namespace Go.Proofs.YtmlojjgddmnbmaaDoor
open Go.RowKit
set_option linter.unusedSimpArgs false
set_option linter.unusedVariables false

theorem text_same {t u : T} (ht : neat t) (hu : neat u) : (textT t == textT u) = sameT t u := by
  cases h : sameT t u with
  | true => rw [sameT_eq t u ht.1.1 hu.1.1 h]; simp
  | false =>
    rw [beq_eq_false_iff_ne]
    intro he
    rw [text_inj ht hu he, sameT_self] at h
    cases h
set_option maxHeartbeats 8000000 in
set_option maxRecDepth 1000000 in
theorem showBack_walk (C : ShowC) (V U : Value) (ps qs : List UInt8) (w : World) (hr : Row w V (bvs ps)) (hr2 : Row w U (bvs qs)) (hT : Tb w) :
    Calls Tryd.prog 5 #[V, U] w fun e w' => e = .returned (.bool true) ∧ Below w.heap.size w w' := by
  have HC := Lib.hid C
  have HTB := Lib.hid hT
  have R := Lib.hid hr
  have R2 := Lib.hid hr2
  obtain ⟨A, cap, rfl, _⟩ := hr
  obtain ⟨A2, cap2, rfl, _⟩ := hr2
  have hbl : (bvs ps).length = ps.length := bvs_length ps
  have hbl2 : (bvs qs).length = qs.length := bvs_length qs
  rw [hbl] at R ⊢
  rw [hbl2] at R2 ⊢
  clear C hbl hbl2 hT
  by_cases h80 : 80 < ps.length
  · have i1 : (80 : Int) < (ps.length : Int) := by omega
    clear h80
    go_enter Tryd.func5, Tryd.ntmps5
    go_wp2_with fail
    refine (begun_any HC.out w HTB.out).mono ?_
    rintro e w1 ⟨rfl, hb⟩
    have B1 := Lib.hid hb
    clear hb
    go_wp2_with fail
    go_ret
    exact ⟨rfl, B1.out⟩
  have i1 : ¬ ((80 : Int) < (ps.length : Int)) := by omega
  by_cases h81 : 80 < qs.length
  · have i2 : (80 : Int) < (qs.length : Int) := by omega
    clear h81
    go_enter Tryd.func5, Tryd.ntmps5
    go_wp2_with fail
    refine (begun_any HC.out w HTB.out).mono ?_
    rintro e w1 ⟨rfl, hb⟩
    have B1 := Lib.hid hb
    clear hb
    go_wp2_with fail
    go_ret
    exact ⟨rfl, B1.out⟩
  have i2 : ¬ ((80 : Int) < (qs.length : Int)) := by omega
  have HL := Lib.hid (show ps.length ≤ 80 by omega)
  have HL2 := Lib.hid (show qs.length ≤ 80 by omega)
  clear h80 h81
  obtain ⟨t, ht⟩ : ∃ t, t = madeT ps := ⟨_, rfl⟩
  obtain ⟨u, hu⟩ : ∃ u, u = madeT qs := ⟨_, rfl⟩
  have HT := Lib.hid ht
  have HU := Lib.hid hu
  have HG := Lib.hid (show neat t ∧ t.depth ≤ 21 by rw [ht]; exact madeT_ok ps)
  have HG2 := Lib.hid (show neat u ∧ u.depth ≤ 21 by rw [hu]; exact madeT_ok qs)
  have HM := Lib.hid (show t.nodes ≤ 1048576 by rw [ht]; have := madeT_nodes ps; omega)
  have HM2 := Lib.hid (show u.nodes ≤ 1048576 by rw [hu]; have := madeT_nodes qs; omega)
  have HX1 := Lib.hid (show showT t = textT t by rw [ht]; exact (madeT_shown ps (by have := HL.out; omega)).1)
  have HX2 := Lib.hid (show showT u = textT u by rw [hu]; exact (madeT_shown qs (by have := HL2.out; omega)).1)
  obtain ⟨b, hb0⟩ : ∃ b, b = sameT t u := ⟨_, rfl⟩
  have HSB := Lib.hid hb0
  have HB := Lib.hid (show (showT t == showT u) = b by rw [HX1.out, HX2.out, hb0]; exact text_same HG.out.1 HG2.out.1)
  obtain ⟨S1, hS1⟩ : ∃ Z : ByteArray, Z = ⟨(showT t).toArray⟩ := ⟨_, rfl⟩
  obtain ⟨S2, hS2⟩ : ∃ Z : ByteArray, Z = ⟨(showT u).toArray⟩ := ⟨_, rfl⟩
  have HS1 := Lib.hid hS1
  have HS2 := Lib.hid hS2
  obtain ⟨i0, hi0, hz0, hz1, hz2⟩ := inf_rx'
  obtain ⟨z, hz⟩ : ∃ z, z = rxc 0 zeroS (.slice none 0 0) := ⟨_, rfl⟩
  have HZL := Lib.hid (show z.length = 6 by rw [hz]; rfl)
  have HZ0 := Lib.hid (show i0.zero = some (.agg z.toArray) by rw [hz]; exact hz0)
  clear hz hz0 hS1 hS2 ht hu hb0
  go_enter Tryd.func5, Tryd.ntmps5
  go_wp2_with fail
  refine (begun_any HC.out w HTB.out).mono ?_
  rintro e w1 ⟨rfl, hb⟩
  have B1 := Lib.hid hb
  clear hb
  go_wp2_with fail
  refine (made_any _ ps w1 (R.out.below B1.out) (by have := HL.out; omega)).mono ?_
  rintro e w2 ⟨rfl, hb, hp⟩
  have P2 := Lib.hid hp
  have B2 := Lib.hid (B1.out.trans (hb.mono B1.out.size))
  have S1w := Lib.hid B1.out.size
  clear hb hp
  go_wp2_with fail
  refine (pickRx_any w1.heap.size _ ps w2 P2.out).mono ?_
  rintro e w3 ⟨cs, rfl, hcs, hg⟩
  have B3 := Lib.hid (B2.out.trans ((grown_belowG hg P2.out.blk.lt).mono S1w.out))
  rw [← HT.out] at hcs
  have C6 := Lib.hid hcs.length
  have C1 := Lib.hid (show cs.all (·.oneCell') = true from List.all_eq_true.2 (RxD.one hcs))
  have X3 := Lib.hid (show RxV w3.heap.size w3 cs t from RxD.mono hcs fun k hk => hk.2)
  clear hcs hg P2 S1w
  go_wp2_with fail
  refine (made_any _ qs w3 (R2.out.below B3.out) (by have := HL2.out; omega)).mono ?_
  rintro e w4 ⟨rfl, hb, hp⟩
  have P4 := Lib.hid hp
  have B4 := Lib.hid hb
  clear hb hp
  go_wp2_with fail
  refine (pickRx_any w3.heap.size _ qs w4 P4.out).mono ?_
  rintro e w5 ⟨ds, rfl, hds, hg⟩
  have G5 := Lib.hid (B4.out.trans (grown_belowG hg P4.out.blk.lt))
  have B5 := Lib.hid (B3.out.trans (G5.out.mono B3.out.size))
  rw [← HU.out] at hds
  have D6 := Lib.hid hds.length
  have D1 := Lib.hid (show ds.all (·.oneCell') = true from List.all_eq_true.2 (RxD.one hds))
  have Y5 := Lib.hid (show RxV w5.heap.size w5 ds u from RxD.mono hds fun k hk => hk.2)
  have X5 := Lib.hid (RxV.mono (X3.out.stay G5.out) G5.out.size)
  clear hds hg P4
  go_wp2_with (first
    | ((with_reducible refine atDst 5 ?_); refine wpList_new rfl 27 rfl i0 _ z hi0 HZ0.out rfl (Below.refl w5.heap.size w5) (Nat.le_refl _) ?_; intro w6 hk hb hs ho; have L6 := Lib.hid hk; have B6 := Lib.hid hb; clear hk hb hs ho; (try simp only [Act.put, List.setIfInBounds_toArray, List.set_cons_zero, List.set_cons_succ]))
    | ((with_reducible refine atDst 6 ?_); refine wpList_new rfl 27 rfl i0 _ z hi0 HZ0.out rfl (Below.refl w6.heap.size w6) (Nat.le_refl _) ?_; intro w7 hk hb hs ho; have M7 := Lib.hid hk; have L7 := Lib.hid (L6.out.below hb L6.out.lt); have B7 := Lib.hid (B6.out.trans (hb.mono B6.out.size)); have NE := Lib.hid (show w5.heap.size ≠ w6.heap.size from Nat.ne_of_lt L6.out.lt); clear hk hb hs ho; (try simp only [Act.put, List.setIfInBounds_toArray, List.set_cons_zero, List.set_cons_succ]))
    | ((with_reducible refine atStore 27 5 22 ?_); refine wpList_stBlk rfl 27 _ _ rfl w5.heap.size cs rfl rfl 27 _ L7.out (size_rx C6.out) (by rw [HZL.out, C6.out]) C1.out B7.out (Nat.le_refl _) ?_; intro w8 hk hb hs ho; have L8 := Lib.hid hk; have B8 := Lib.hid hb; have M8 := Lib.hid (show Blk w8 w6.heap.size 27 z from (ho _ (Ne.symm NE.out)).trans M7.out); clear hk hb hs ho; (try simp only [Act.put, List.setIfInBounds_toArray, List.set_cons_zero, List.set_cons_succ]))
    | ((with_reducible refine atStore 27 6 25 ?_); refine wpList_stBlk rfl 27 _ _ rfl w6.heap.size ds rfl rfl 27 _ M8.out (size_rx D6.out) (by rw [HZL.out, D6.out]) D1.out B8.out (Nat.le_of_lt L6.out.lt) ?_; intro w9 hk hb hs ho; have M9 := Lib.hid hk; have L9 := Lib.hid (show Blk w9 w5.heap.size 27 cs from (ho _ NE.out).trans L8.out); have B9 := Lib.hid (B5.out.trans (hb.mono B5.out.size)); have X9 := Lib.hid (RxV.mono (X5.out.stay hb) hb.size); have Y9 := Lib.hid (RxV.mono (Y5.out.stay hb) hb.size); clear hk hb hs ho; (try simp only [Act.put, List.setIfInBounds_toArray, List.set_cons_zero, List.set_cons_succ]))
    | ((with_reducible refine atDst 27 ?_); refine wpList_ldArr rfl 27 _ rfl w5.heap.size rfl 27 _ _ L9.out Tryd.underlying27 rfl (size_rx C6.out) ?_; (try simp only [Act.put, List.setIfInBounds_toArray, List.set_cons_zero, List.set_cons_succ])))
  refine (HC.out t cs w9 S1 HM.out HG.out.1.1.1 X9.out (HTB.out.below B9.out (Nat.le_refl _)) HS1.out).mono ?_
  rintro e w12 ⟨rfl, hb⟩
  have B12 := Lib.hid (B9.out.trans (hb.mono B9.out.size))
  have X12 := Lib.hid (RxV.mono (X9.out.stay hb) hb.size)
  have Y12 := Lib.hid (RxV.mono (Y9.out.stay hb) hb.size)
  have L12 := Lib.hid (L9.out.below hb L9.out.lt)
  have M12 := Lib.hid (M9.out.below hb M9.out.lt)
  clear hb
  go_wp2_with fail
  by_cases hlong : 200 < (textT t).length
  · refine (parse_long (textT t) S1 (by rw [HS1.out, HX1.out]) hlong w12).mono ?_
    clear hlong
    rintro e w13 ⟨es, rfl, hv, hb⟩
    have B13 := Lib.hid (B12.out.trans (hb.mono B12.out.size))
    have X13 := Lib.hid (RxV.mono (X12.out.stay hb) hb.size)
    have Y13 := Lib.hid (RxV.mono (Y12.out.stay hb) hb.size)
    have L13 := Lib.hid (L12.out.below hb L12.out.lt)
    have M13 := Lib.hid (M12.out.below hb M12.out.lt)
    have V13 := Lib.hid hv
    have E6 := Lib.hid hv.length
    have E1 := Lib.hid (show es.all (·.oneCell') = true from List.all_eq_true.2 (RxD.one hv))
    clear hv hb
    go_wp2_with (first
      | ((with_reducible refine atDst 7 ?_); refine wpList_new rfl 27 rfl i0 _ z hi0 HZ0.out rfl (Below.refl w13.heap.size w13) (Nat.le_refl _) ?_; intro w14 hk hb hs ho; have N14 := Lib.hid hk; have B14 := Lib.hid hb; clear hk hb hs ho; (try simp only [Act.put, List.setIfInBounds_toArray, List.set_cons_zero, List.set_cons_succ]))
      | ((with_reducible refine atStore 27 7 30 ?_); refine wpList_stBlk rfl 27 _ _ rfl w13.heap.size es rfl rfl 27 _ N14.out (size_rx E6.out) (by rw [HZL.out, E6.out]) E1.out B14.out (Nat.le_refl _) ?_; intro w15 hk hb hs ho; have N15 := Lib.hid hk; have B15 := Lib.hid (B13.out.trans (hb.mono B13.out.size)); have L15 := Lib.hid (L13.out.below hb L13.out.lt); have M15 := Lib.hid (M13.out.below hb M13.out.lt); have X15 := Lib.hid (RxV.mono (X13.out.stay hb) hb.size); have Y15 := Lib.hid (RxV.mono (Y13.out.stay hb) hb.size); have Z15 := Lib.hid (RxV.mono (V13.out.stay hb) hb.size); clear hk hb hs ho; (try simp only [Act.put, List.setIfInBounds_toArray, List.set_cons_zero, List.set_cons_succ])))
    refine sx_startB (B := w15.heap.size) (w0 := w15) (by kernel_rfl) (Below.refl _ _) (fun wd hwd hX => ?_)
    clear hwd
    refine sx_take (i := 0) (oi := ⟨some 33, _, _, _, _, _⟩) (v := .agg cs.toArray) rfl (by kernel_rfl) (by kernel_rfl) (by kernel_rfl) (fun _ _ _ h => h) rfl hX (ld_blk 27 _ rfl w5.heap.size rfl 27 _ _ L15.out L15.out.lt Tryd.underlying27 rfl (size_rx C6.out)) ?_; simp only [Act.put, List.setIfInBounds_toArray, List.set_cons_zero, List.set_cons_succ]
    refine sx_take (i := 2) (oi := ⟨some 35, _, _, _, _, _⟩) (v := .agg ds.toArray) rfl (by kernel_rfl) (by kernel_rfl) (by kernel_rfl) (fun _ _ _ h => h) rfl hX (ld_blk 27 _ rfl w6.heap.size rfl 27 _ _ M15.out M15.out.lt Tryd.underlying27 rfl (size_rx D6.out)) ?_; simp only [Act.put, List.setIfInBounds_toArray, List.set_cons_zero, List.set_cons_succ]
    refine sx_take (i := 5) (oi := ⟨some 38, _, _, _, _, _⟩) (v := .agg cs.toArray) rfl (by kernel_rfl) (by kernel_rfl) (by kernel_rfl) (fun _ _ _ h => h) rfl hX (ld_blk 27 _ rfl w5.heap.size rfl 27 _ _ L15.out L15.out.lt Tryd.underlying27 rfl (size_rx C6.out)) ?_; simp only [Act.put, List.setIfInBounds_toArray, List.set_cons_zero, List.set_cons_succ]
    refine sx_take (i := 6) (oi := ⟨some 39, _, _, _, _, _⟩) (v := .agg ds.toArray) rfl (by kernel_rfl) (by kernel_rfl) (by kernel_rfl) (fun _ _ _ h => h) rfl hX (ld_blk 27 _ rfl w6.heap.size rfl 27 _ _ M15.out M15.out.lt Tryd.underlying27 rfl (size_rx D6.out)) ?_; simp only [Act.put, List.setIfInBounds_toArray, List.set_cons_zero, List.set_cons_succ]
    refine sx_actB (i := 1) (o := ⟨some 34, _, _, _, _, _⟩) rfl (by kernel_rfl) rfl hX (fun K hK => ?_)
    go_wp2_with fail
    refine (HC.out t cs wd S1 HM.out HG.out.1.1.1 ((X15.out.stay hX).mono hX.size) (HTB.out.below (B15.out.trans (hX.mono B15.out.size)) (Nat.le_refl _)) HS1.out).mono ?_
    rintro e w16 ⟨rfl, hb⟩
    go_wp2_with fail
    refine hK _ _ (hb.mono hX.size) ?_
    clear hK K
    replace hX := hX.trans (hb.mono hX.size)
    clear hb
    refine sx_actB (i := 3) (o := ⟨some 36, _, _, _, _, _⟩) rfl (by kernel_rfl) rfl hX (fun K hK => ?_)
    go_wp2_with fail
    refine (HC.out u ds w16 S2 HM2.out HG2.out.1.1.1 ((Y15.out.stay hX).mono hX.size) (HTB.out.below (B15.out.trans (hX.mono B15.out.size)) (Nat.le_refl _)) HS2.out).mono ?_
    rintro e w17 ⟨rfl, hb⟩
    go_wp2_with fail
    refine hK _ _ (hb.mono hX.size) ?_
    clear hK K
    replace hX := hX.trans (hb.mono hX.size)
    clear hb
    refine sx_take (i := 4) (oi := ⟨some 37, _, _, _, _, _⟩) (v := .bool b) rfl (by kernel_rfl) (by kernel_rfl) (by kernel_rfl) (fun _ _ _ h => h) rfl hX (fun W _ => ex_eqS 9 (.tmp 34) (.tmp 36) _ Tryd.underlying9 rfl rfl rfl HS1.out HS2.out HB.out W) ?_; simp only [Act.put, List.setIfInBounds_toArray, List.set_cons_zero, List.set_cons_succ]
    refine sx_actB (i := 7) (o := ⟨some 40, _, _, _, _, _⟩) rfl (by kernel_rfl) rfl hX (fun K hK => ?_)
    go_wp2_with fail
    refine (refSame_any _ t u (Nat.le_refl _) (by have := HM.out; omega) cs ds w17 ((X15.out.stay hX).mono hX.size) ((Y15.out.stay hX).mono hX.size)).mono ?_
    rw [← HSB.out]
    rintro e w18 ⟨rfl, hb⟩
    go_wp2_with fail
    refine hK _ _ (hb.mono hX.size) ?_
    clear hK K
    replace hX := hX.trans (hb.mono hX.size)
    clear hb
    refine sx_take (i := 8) (oi := ⟨some 41, _, _, _, _, _⟩) (v := .bool true) rfl (by kernel_rfl) (by kernel_rfl) (by kernel_rfl) (fun _ _ _ h => h) rfl hX (fun W _ => by go_simp) ?_; simp only [Act.put, List.setIfInBounds_toArray, List.set_cons_zero, List.set_cons_succ]
    refine sx_take (i := 9) (oi := ⟨some 42, _, _, _, _, _⟩) (v := ?_) rfl (by kernel_rfl) (by kernel_rfl) (by kernel_rfl) (fun _ _ _ h => h) rfl hX ?_ ?_; rotate_left; (intro W hW; go_simp; try with_reducible rfl); simp only [Act.put, List.setIfInBounds_toArray, List.set_cons_zero, List.set_cons_succ]
    refine sx_take (i := 10) (oi := ⟨some 43, _, _, _, _, _⟩) (v := ?_) rfl (by kernel_rfl) (by kernel_rfl) (by kernel_rfl) (fun _ _ _ h => h) rfl hX ?_ ?_; rotate_left; (intro W hW; go_simp; try with_reducible rfl); simp only [Act.put, List.setIfInBounds_toArray, List.set_cons_zero, List.set_cons_succ]
    refine sx_take (i := 11) (oi := ⟨some 44, _, _, _, _, _⟩) (v := ?_) rfl (by kernel_rfl) (by kernel_rfl) (by kernel_rfl) (fun _ _ _ h => h) rfl hX ?_ ?_; rotate_left; (intro W hW; go_simp; try with_reducible rfl); simp only [Act.put, List.setIfInBounds_toArray, List.set_cons_zero, List.set_cons_succ]
    refine sx_take (i := 12) (oi := ⟨some 45, _, _, _, _, _⟩) (v := ?_) rfl (by kernel_rfl) (by kernel_rfl) (by kernel_rfl) (fun _ _ _ h => h) rfl hX ?_ ?_; rotate_left; (intro W hW; go_simp; try with_reducible rfl); simp only [Act.put, List.setIfInBounds_toArray, List.set_cons_zero, List.set_cons_succ]
    refine sx_skip (i := 13) (oi := ⟨some 46, _, _, _, _, _⟩) rfl (by kernel_rfl) (by kernel_rfl) (by kernel_rfl) (fun _ _ _ h => h) rfl hX ?_; simp only [Act.put, List.setIfInBounds_toArray, List.set_cons_zero, List.set_cons_succ]
    refine sx_skip (i := 14) (oi := ⟨some 47, _, _, _, _, _⟩) rfl (by kernel_rfl) (by kernel_rfl) (by kernel_rfl) (fun _ _ _ h => h) rfl hX ?_; simp only [Act.put, List.setIfInBounds_toArray, List.set_cons_zero, List.set_cons_succ]
    refine sx_skip (i := 15) (oi := ⟨some 48, _, _, _, _, _⟩) rfl (by kernel_rfl) (by kernel_rfl) (by kernel_rfl) (fun _ _ _ h => h) rfl hX ?_; simp only [Act.put, List.setIfInBounds_toArray, List.set_cons_zero, List.set_cons_succ]
    refine sx_skip (i := 16) (oi := ⟨some 49, _, _, _, _, _⟩) rfl (by kernel_rfl) (by kernel_rfl) (by kernel_rfl) (fun _ _ _ h => h) rfl hX ?_; simp only [Act.put, List.setIfInBounds_toArray, List.set_cons_zero, List.set_cons_succ]
    refine sx_skip (i := 17) (oi := ⟨some 50, _, _, _, _, _⟩) rfl (by kernel_rfl) (by kernel_rfl) (by kernel_rfl) (fun _ _ _ h => h) rfl hX ?_; simp only [Act.put, List.setIfInBounds_toArray, List.set_cons_zero, List.set_cons_succ]
    refine sx_skip (i := 18) (oi := ⟨some 51, _, _, _, _, _⟩) rfl (by kernel_rfl) (by kernel_rfl) (by kernel_rfl) (fun _ _ _ h => h) rfl hX ?_; simp only [Act.put, List.setIfInBounds_toArray, List.set_cons_zero, List.set_cons_succ]
    refine sx_skip (i := 19) (oi := ⟨some 52, _, _, _, _, _⟩) rfl (by kernel_rfl) (by kernel_rfl) (by kernel_rfl) (fun _ _ _ h => h) rfl hX ?_; simp only [Act.put, List.setIfInBounds_toArray, List.set_cons_zero, List.set_cons_succ]
    refine sx_take (i := 20) (oi := ⟨some 53, _, _, _, _, _⟩) (v := ?_) rfl (by kernel_rfl) (by kernel_rfl) (by kernel_rfl) (fun _ _ _ h => h) rfl hX ?_ ?_; rotate_left; (intro W hW; go_simp; try with_reducible rfl); simp only [Act.put, List.setIfInBounds_toArray, List.set_cons_zero, List.set_cons_succ]
    refine sx_take (i := 21) (oi := ⟨some 54, _, _, _, _, _⟩) (v := ?_) rfl (by kernel_rfl) (by kernel_rfl) (by kernel_rfl) (fun _ _ _ h => h) rfl hX ?_ ?_; rotate_left; (intro W hW; go_simp; try with_reducible rfl); simp only [Act.put, List.setIfInBounds_toArray, List.set_cons_zero, List.set_cons_succ]
    refine sx_take (i := 22) (oi := ⟨some 4, _, _, _, _, _⟩) (v := ?_) rfl (by kernel_rfl) (by kernel_rfl) (by kernel_rfl) (fun _ _ _ h => h) rfl hX ?_ ?_; rotate_left; (intro W hW; go_simp; try with_reducible rfl); simp only [Act.put, List.setIfInBounds_toArray, List.set_cons_zero, List.set_cons_succ]
    refine wpAnyH_done (by kernel_rfl) ?_ _
    have BZ := Lib.hid (B15.out.trans (hX.mono B15.out.size))
    go_wp2_with fail
    go_ret
    exact ⟨rfl, BZ.out⟩
  · have HF := Lib.hid (show fine t from ⟨HG.out.1.1, by have := short_text t HG.out.1.1; omega, by have := HG.out.2; omega⟩)
    refine (parse_text t HG.out.1 HF.out (textT t) S1 (by rw [HS1.out, HX1.out]) (by omega) rfl w12).mono ?_
    clear hlong
    rintro e w13 ⟨es, rfl, hv, hb⟩
    have B13 := Lib.hid (B12.out.trans (hb.mono B12.out.size))
    have X13 := Lib.hid (RxV.mono (X12.out.stay hb) hb.size)
    have Y13 := Lib.hid (RxV.mono (Y12.out.stay hb) hb.size)
    have L13 := Lib.hid (L12.out.below hb L12.out.lt)
    have M13 := Lib.hid (M12.out.below hb M12.out.lt)
    have V13 := Lib.hid hv
    have E6 := Lib.hid hv.length
    have E1 := Lib.hid (show es.all (·.oneCell') = true from List.all_eq_true.2 (RxD.one hv))
    clear hv hb
    go_wp2_with (first
      | ((with_reducible refine atDst 7 ?_); refine wpList_new rfl 27 rfl i0 _ z hi0 HZ0.out rfl (Below.refl w13.heap.size w13) (Nat.le_refl _) ?_; intro w14 hk hb hs ho; have N14 := Lib.hid hk; have B14 := Lib.hid hb; clear hk hb hs ho; (try simp only [Act.put, List.setIfInBounds_toArray, List.set_cons_zero, List.set_cons_succ]))
      | ((with_reducible refine atStore 27 7 30 ?_); refine wpList_stBlk rfl 27 _ _ rfl w13.heap.size es rfl rfl 27 _ N14.out (size_rx E6.out) (by rw [HZL.out, E6.out]) E1.out B14.out (Nat.le_refl _) ?_; intro w15 hk hb hs ho; have N15 := Lib.hid hk; have B15 := Lib.hid (B13.out.trans (hb.mono B13.out.size)); have L15 := Lib.hid (L13.out.below hb L13.out.lt); have M15 := Lib.hid (M13.out.below hb M13.out.lt); have X15 := Lib.hid (RxV.mono (X13.out.stay hb) hb.size); have Y15 := Lib.hid (RxV.mono (Y13.out.stay hb) hb.size); have Z15 := Lib.hid (RxV.mono (V13.out.stay hb) hb.size); clear hk hb hs ho; (try simp only [Act.put, List.setIfInBounds_toArray, List.set_cons_zero, List.set_cons_succ])))
    refine sx_startB (B := w15.heap.size) (w0 := w15) (by kernel_rfl) (Below.refl _ _) (fun wd hwd hX => ?_)
    clear hwd
    refine sx_take (i := 0) (oi := ⟨some 33, _, _, _, _, _⟩) (v := .agg cs.toArray) rfl (by kernel_rfl) (by kernel_rfl) (by kernel_rfl) (fun _ _ _ h => h) rfl hX (ld_blk 27 _ rfl w5.heap.size rfl 27 _ _ L15.out L15.out.lt Tryd.underlying27 rfl (size_rx C6.out)) ?_; simp only [Act.put, List.setIfInBounds_toArray, List.set_cons_zero, List.set_cons_succ]
    refine sx_take (i := 2) (oi := ⟨some 35, _, _, _, _, _⟩) (v := .agg ds.toArray) rfl (by kernel_rfl) (by kernel_rfl) (by kernel_rfl) (fun _ _ _ h => h) rfl hX (ld_blk 27 _ rfl w6.heap.size rfl 27 _ _ M15.out M15.out.lt Tryd.underlying27 rfl (size_rx D6.out)) ?_; simp only [Act.put, List.setIfInBounds_toArray, List.set_cons_zero, List.set_cons_succ]
    refine sx_take (i := 5) (oi := ⟨some 38, _, _, _, _, _⟩) (v := .agg cs.toArray) rfl (by kernel_rfl) (by kernel_rfl) (by kernel_rfl) (fun _ _ _ h => h) rfl hX (ld_blk 27 _ rfl w5.heap.size rfl 27 _ _ L15.out L15.out.lt Tryd.underlying27 rfl (size_rx C6.out)) ?_; simp only [Act.put, List.setIfInBounds_toArray, List.set_cons_zero, List.set_cons_succ]
    refine sx_take (i := 6) (oi := ⟨some 39, _, _, _, _, _⟩) (v := .agg ds.toArray) rfl (by kernel_rfl) (by kernel_rfl) (by kernel_rfl) (fun _ _ _ h => h) rfl hX (ld_blk 27 _ rfl w6.heap.size rfl 27 _ _ M15.out M15.out.lt Tryd.underlying27 rfl (size_rx D6.out)) ?_; simp only [Act.put, List.setIfInBounds_toArray, List.set_cons_zero, List.set_cons_succ]
    refine sx_actB (i := 1) (o := ⟨some 34, _, _, _, _, _⟩) rfl (by kernel_rfl) rfl hX (fun K hK => ?_)
    go_wp2_with fail
    refine (HC.out t cs wd S1 HM.out HG.out.1.1.1 ((X15.out.stay hX).mono hX.size) (HTB.out.below (B15.out.trans (hX.mono B15.out.size)) (Nat.le_refl _)) HS1.out).mono ?_
    rintro e w16 ⟨rfl, hb⟩
    go_wp2_with fail
    refine hK _ _ (hb.mono hX.size) ?_
    clear hK K
    replace hX := hX.trans (hb.mono hX.size)
    clear hb
    refine sx_actB (i := 3) (o := ⟨some 36, _, _, _, _, _⟩) rfl (by kernel_rfl) rfl hX (fun K hK => ?_)
    go_wp2_with fail
    refine (HC.out u ds w16 S2 HM2.out HG2.out.1.1.1 ((Y15.out.stay hX).mono hX.size) (HTB.out.below (B15.out.trans (hX.mono B15.out.size)) (Nat.le_refl _)) HS2.out).mono ?_
    rintro e w17 ⟨rfl, hb⟩
    go_wp2_with fail
    refine hK _ _ (hb.mono hX.size) ?_
    clear hK K
    replace hX := hX.trans (hb.mono hX.size)
    clear hb
    refine sx_take (i := 4) (oi := ⟨some 37, _, _, _, _, _⟩) (v := .bool b) rfl (by kernel_rfl) (by kernel_rfl) (by kernel_rfl) (fun _ _ _ h => h) rfl hX (fun W _ => ex_eqS 9 (.tmp 34) (.tmp 36) _ Tryd.underlying9 rfl rfl rfl HS1.out HS2.out HB.out W) ?_; simp only [Act.put, List.setIfInBounds_toArray, List.set_cons_zero, List.set_cons_succ]
    refine sx_actB (i := 7) (o := ⟨some 40, _, _, _, _, _⟩) rfl (by kernel_rfl) rfl hX (fun K hK => ?_)
    go_wp2_with fail
    refine (refSame_any _ t u (Nat.le_refl _) (by have := HM.out; omega) cs ds w17 ((X15.out.stay hX).mono hX.size) ((Y15.out.stay hX).mono hX.size)).mono ?_
    rw [← HSB.out]
    rintro e w18 ⟨rfl, hb⟩
    go_wp2_with fail
    refine hK _ _ (hb.mono hX.size) ?_
    clear hK K
    replace hX := hX.trans (hb.mono hX.size)
    clear hb
    refine sx_take (i := 8) (oi := ⟨some 41, _, _, _, _, _⟩) (v := .bool true) rfl (by kernel_rfl) (by kernel_rfl) (by kernel_rfl) (fun _ _ _ h => h) rfl hX (fun W _ => by go_simp) ?_; simp only [Act.put, List.setIfInBounds_toArray, List.set_cons_zero, List.set_cons_succ]
    refine sx_take (i := 9) (oi := ⟨some 42, _, _, _, _, _⟩) (v := ?_) rfl (by kernel_rfl) (by kernel_rfl) (by kernel_rfl) (fun _ _ _ h => h) rfl hX ?_ ?_; rotate_left; (intro W hW; go_simp; try with_reducible rfl); simp only [Act.put, List.setIfInBounds_toArray, List.set_cons_zero, List.set_cons_succ]
    refine sx_take (i := 10) (oi := ⟨some 43, _, _, _, _, _⟩) (v := ?_) rfl (by kernel_rfl) (by kernel_rfl) (by kernel_rfl) (fun _ _ _ h => h) rfl hX ?_ ?_; rotate_left; (intro W hW; go_simp; try with_reducible rfl); simp only [Act.put, List.setIfInBounds_toArray, List.set_cons_zero, List.set_cons_succ]
    refine sx_take (i := 11) (oi := ⟨some 44, _, _, _, _, _⟩) (v := ?_) rfl (by kernel_rfl) (by kernel_rfl) (by kernel_rfl) (fun _ _ _ h => h) rfl hX ?_ ?_; rotate_left; (intro W hW; go_simp; try with_reducible rfl); simp only [Act.put, List.setIfInBounds_toArray, List.set_cons_zero, List.set_cons_succ]
    refine sx_take (i := 12) (oi := ⟨some 45, _, _, _, _, _⟩) (v := ?_) rfl (by kernel_rfl) (by kernel_rfl) (by kernel_rfl) (fun _ _ _ h => h) rfl hX ?_ ?_; rotate_left; (intro W hW; go_simp; try with_reducible rfl); simp only [Act.put, List.setIfInBounds_toArray, List.set_cons_zero, List.set_cons_succ]
    refine sx_take (i := 13) (oi := ⟨some 46, _, _, _, _, _⟩) (v := ?_) rfl (by kernel_rfl) (by kernel_rfl) (by kernel_rfl) (fun _ _ _ h => h) rfl hX ?_ ?_; rotate_left; (intro W hW; go_simp; try with_reducible rfl); simp only [Act.put, List.setIfInBounds_toArray, List.set_cons_zero, List.set_cons_succ]
    refine sx_take (i := 14) (oi := ⟨some 47, _, _, _, _, _⟩) (v := ?_) rfl (by kernel_rfl) (by kernel_rfl) (by kernel_rfl) (fun _ _ _ h => h) rfl hX ?_ ?_; rotate_left; (intro W hW; go_simp; try with_reducible rfl); simp only [Act.put, List.setIfInBounds_toArray, List.set_cons_zero, List.set_cons_succ]
    refine sx_take (i := 15) (oi := ⟨some 48, _, _, _, _, _⟩) (v := ?_) rfl (by kernel_rfl) (by kernel_rfl) (by kernel_rfl) (fun _ _ _ h => h) rfl hX ?_ ?_; rotate_left; (intro W hW; go_simp; try with_reducible rfl); simp only [Act.put, List.setIfInBounds_toArray, List.set_cons_zero, List.set_cons_succ]
    refine sx_take (i := 16) (oi := ⟨some 49, _, _, _, _, _⟩) (v := .agg es.toArray) rfl (by kernel_rfl) (by kernel_rfl) (by kernel_rfl) (fun _ _ _ h => h) rfl hX (ld_blk 27 _ rfl w13.heap.size rfl 27 _ _ N15.out N15.out.lt Tryd.underlying27 rfl (size_rx E6.out)) ?_; simp only [Act.put, List.setIfInBounds_toArray, List.set_cons_zero, List.set_cons_succ]
    refine sx_take (i := 17) (oi := ⟨some 50, _, _, _, _, _⟩) (v := .agg cs.toArray) rfl (by kernel_rfl) (by kernel_rfl) (by kernel_rfl) (fun _ _ _ h => h) rfl hX (ld_blk 27 _ rfl w5.heap.size rfl 27 _ _ L15.out L15.out.lt Tryd.underlying27 rfl (size_rx C6.out)) ?_; simp only [Act.put, List.setIfInBounds_toArray, List.set_cons_zero, List.set_cons_succ]
    refine sx_actB (i := 18) (o := ⟨some 51, _, _, _, _, _⟩) rfl (by kernel_rfl) rfl hX (fun K hK => ?_)
    go_wp2_with fail
    refine (refSame_any _ t t (Nat.le_refl _) (by have := HM.out; omega) es cs w18 ((Z15.out.stay hX).mono hX.size) ((X15.out.stay hX).mono hX.size)).mono ?_
    rw [sameT_self]
    rintro e w19 ⟨rfl, hb⟩
    go_wp2_with fail
    refine hK _ _ (hb.mono hX.size) ?_
    clear hK K
    replace hX := hX.trans (hb.mono hX.size)
    clear hb
    refine sx_take (i := 19) (oi := ⟨some 52, _, _, _, _, _⟩) (v := ?_) rfl (by kernel_rfl) (by kernel_rfl) (by kernel_rfl) (fun _ _ _ h => h) rfl hX ?_ ?_; rotate_left; (intro W hW; go_simp; try with_reducible rfl); simp only [Act.put, List.setIfInBounds_toArray, List.set_cons_zero, List.set_cons_succ]
    refine sx_take (i := 20) (oi := ⟨some 53, _, _, _, _, _⟩) (v := ?_) rfl (by kernel_rfl) (by kernel_rfl) (by kernel_rfl) (fun _ _ _ h => h) rfl hX ?_ ?_; rotate_left; (intro W hW; go_simp; try with_reducible rfl); simp only [Act.put, List.setIfInBounds_toArray, List.set_cons_zero, List.set_cons_succ]
    refine sx_take (i := 21) (oi := ⟨some 54, _, _, _, _, _⟩) (v := ?_) rfl (by kernel_rfl) (by kernel_rfl) (by kernel_rfl) (fun _ _ _ h => h) rfl hX ?_ ?_; rotate_left; (intro W hW; go_simp; try with_reducible rfl); simp only [Act.put, List.setIfInBounds_toArray, List.set_cons_zero, List.set_cons_succ]
    refine sx_take (i := 22) (oi := ⟨some 4, _, _, _, _, _⟩) (v := ?_) rfl (by kernel_rfl) (by kernel_rfl) (by kernel_rfl) (fun _ _ _ h => h) rfl hX ?_ ?_; rotate_left; (intro W hW; go_simp; try with_reducible rfl); simp only [Act.put, List.setIfInBounds_toArray, List.set_cons_zero, List.set_cons_succ]
    refine wpAnyH_done (by kernel_rfl) ?_ _
    have BZ := Lib.hid (B15.out.trans (hX.mono B15.out.size))
    go_wp2_with fail
    go_ret
    exact ⟨rfl, BZ.out⟩
end Go.Proofs.YtmlojjgddmnbmaaDoor
