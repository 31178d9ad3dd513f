/-
  What package byteset (split) answers and leaves. No statement is proved here.
-/
import Derived.Test.YtaobeconjdeenaaDoorBsH
namespace Go.Proofs.YtaobeconjdeenaaDoor
open Go.RowKit
set_option linter.unusedSimpArgs false
set_option linter.unusedVariables false

theorem own4Other {w w' : World} {base n k : Nat} {e : TypeId} {v : Value} {xs : List Value} (h : w.ownsRow base e k v n xs) (hb : ∀ j, v.ownBlock = some j → w'.heap[j]? = w.heap[j]?) : w'.ownsRow base e k v n xs := by
  refine ⟨h.1, ?_⟩
  rcases h.2 with h0 | ⟨g, cap, cur, rfl, hb2, hg, h3⟩
  · exact .inl h0
  · exact .inr ⟨g, cap, cur, rfl, hb2, (hb g rfl).trans hg, h3⟩
set_option maxHeartbeats 8000000 in
set_option maxRecDepth 100000 in
theorem bsSplit_any (v : Value) (ps : List (Nat → Bool)) (s : Nat → Bool) (w : World) (hr : RowS w v ps) (hl : ps.length ≤ 256) :
    Calls Tryd.prog 34 #[v, .agg (wds s).toArray] w fun e w' => ∃ v', e = .returned v' ∧ w'.ownsRow w.heap.size 24 4 v' (splitS ps s).length (sets (splitS ps s)) ∧ Below w.heap.size w w' := by
  have R0 := Lib.hid hr
  obtain ⟨A, cap, rfl, a1, a2, a0, a3⟩ := hr
  clear a3 a0 a2
  obtain ⟨i0, hi0, hz0⟩ := info_set
  obtain ⟨i1, hi1, hy0, hy1, hy2⟩ := infoP inf_set
  obtain ⟨z, hz⟩ : ∃ z : Nat → Bool, z = fun _ => false := ⟨_, rfl⟩
  rw [← hz] at hz0
  have HZ := Lib.hid hz
  have HZB := Lib.hid (show Tryd.prog.built 24 [] = some (wds z).toArray by rw [hz]; exact zeroB)
  clear hz
  obtain ⟨sn, hsn⟩ : ∃ sn : Nat → Bool, sn = fun b => !s b := ⟨_, rfl⟩
  have HSN := Lib.hid hsn
  clear hsn
  go_enter Tryd.func34, Tryd.ntmps34
  go_wp2_with ((with_reducible refine atDst 3 ?_); refine wpList_box rfl 24 _ rfl (wds s) rfl (Below.refl w.heap.size w) (Nat.le_refl _) ?_; intro w1 hk1 hb1 hs1 _; have K1 := Lib.hid hk1; have B1 := Lib.hid hb1; clear hk1 hb1 hs1)
  go_loopw [4, 11] (fun v i wl => ∃ j : Nat, j ≤ ps.length ∧ i = .int .i64 (j : Int) ∧ wl.ownsRow w1.heap.size 24 4 v (splitS (ps.take j) s).length (sets (splitS (ps.take j) s)) ∧ Below w1.heap.size w1 wl) (fun _ i _ => ps.length - (intOf i).toNat)
  case atStart => exact ⟨0, by omega, by simp, own4N _ _ _, Below.refl _ _⟩
  case round =>
    obtain ⟨j, hj, rfl, ho, hb⟩ := hrel
    have HO := Lib.hid ho
    have HB := Lib.hid hb
    clear ho hb
    obtain ⟨wo, hwo⟩ : ∃ wo : World, wo = wr := ⟨_, rfl⟩
    subst hwo
    by_cases hjl : j < ps.length
    · have j1 : (j : Int) < (ps.length : Int) := by omega
      obtain ⟨b0, off, rfl, hb0, hrng⟩ := (R0.out.below (B1.out.trans (HB.out.mono B1.out.size))).at_ (by omega)
      obtain ⟨p, hp⟩ : ∃ p, p = ps[j] := ⟨_, rfl⟩
      have HRG := Lib.hid (hrng j p (by rw [hp]; exact List.getElem?_eq_getElem hjl))
      have HNX := Lib.hid (splitS_next ps s j hjl)
      rw [← hp] at HNX
      obtain ⟨cur, hcur⟩ : ∃ cur, cur = splitS (ps.take j) s := ⟨_, rfl⟩
      have HCL := Lib.hid (show cur.length ≤ 512 by rw [hcur]; have := splitS_len s (ps.take j); rw [List.length_take] at this; omega)
      rw [← hcur] at HO HNX
      clear hp hrng hcur
      go_wp2_with (first
        | ((with_reducible refine atDst 14 ?_); refine wpList_ldMid rfl 24 _ rfl b0 (off + j * 4) rfl (wds p) _ HRG.out Tryd.underlying24 rfl (size_set p) ?_)
        | ((with_reducible refine atDst 6 ?_); refine wpList_new rfl 24 rfl i0 _ (wds z) hi0 hz0 rfl (Below.refl wo.heap.size wo) (Nat.le_refl _) ?_; intro w2 hk2 hb2 hs2 ho2; have K2 := Lib.hid hk2; have B2 := Lib.hid hb2; clear hk2 hb2 hs2 ho2)
        | ((with_reducible refine atStore 24 6 14 ?_); refine wpList_stBlk rfl 24 _ _ rfl wo.heap.size (wds p) rfl rfl 24 _ K2.out (size_set p) rfl (wds_all _) B2.out (Nat.le_refl _) ?_; intro w3 hk3 hb3 hs3 _; have K3 := Lib.hid hk3; have B3 := Lib.hid hb3; clear hk3 hb3 hs3))
      have HBO := Lib.hid (HB.out.trans (B3.out.mono HB.out.size))
      have O3 := Lib.hid (own4Below HO.out B3.out (Nat.le_refl _))
      have L3 := Lib.hid (K1.out.below HBO.out K1.out.lt)
      refine sx_startB (B := w3.heap.size) (w0 := w3) (by kernel_rfl) (Below.refl _ _) (fun wd hwd hX => ?_)
      have SZ := Lib.hid hX.size
      clear hwd
      refine sx_take (i := 0) (oi := ⟨some 15, _, _, _, _, _⟩) (v := .agg (wds p).toArray) rfl (by kernel_rfl) (by kernel_rfl) (by kernel_rfl) (fun _ _ _ h => h) rfl hX (ld_blk 24 _ rfl wo.heap.size rfl 24 _ _ K3.out K3.out.lt Tryd.underlying24 rfl (size_set p)) ?_
      simp only [Act.put, List.setIfInBounds_toArray, List.set_cons_zero, List.set_cons_succ]
      refine sx_take (i := 1) (oi := ⟨some 16, _, _, _, _, _⟩) (v := .agg (wds s).toArray) rfl (by kernel_rfl) (by kernel_rfl) (by kernel_rfl) (fun _ _ _ h => h) rfl hX (ld_blk 24 _ rfl w.heap.size rfl 24 _ _ L3.out L3.out.lt Tryd.underlying24 rfl (size_set s)) ?_
      simp only [Act.put, List.setIfInBounds_toArray, List.set_cons_zero, List.set_cons_succ]
      refine sx_take (i := 3) (oi := ⟨some 18, _, _, _, _, _⟩) (v := .agg (wds p).toArray) rfl (by kernel_rfl) (by kernel_rfl) (by kernel_rfl) (fun _ _ _ h => h) rfl hX (ld_blk 24 _ rfl wo.heap.size rfl 24 _ _ K3.out K3.out.lt Tryd.underlying24 rfl (size_set p)) ?_
      simp only [Act.put, List.setIfInBounds_toArray, List.set_cons_zero, List.set_cons_succ]
      refine sx_take (i := 4) (oi := ⟨some 19, _, _, _, _, _⟩) (v := .agg (wds s).toArray) rfl (by kernel_rfl) (by kernel_rfl) (by kernel_rfl) (fun _ _ _ h => h) rfl hX (ld_blk 24 _ rfl w.heap.size rfl 24 _ _ L3.out L3.out.lt Tryd.underlying24 rfl (size_set s)) ?_
      simp only [Act.put, List.setIfInBounds_toArray, List.set_cons_zero, List.set_cons_succ]
      refine sx_take (i := 8) (oi := ⟨some 23, _, _, _, _, _⟩) (v := ?_) rfl (by kernel_rfl) (by kernel_rfl) (by kernel_rfl) (fun _ _ _ h => h) rfl hX ?_ ?_; rotate_left; (intro W hW; go_simp; try with_reducible rfl); simp only [Act.put, List.setIfInBounds_toArray, List.set_cons_zero, List.set_cons_succ]
      refine sx_actB (i := 2) (o := ⟨some 17, _, _, _, _, _⟩) rfl (by kernel_rfl) rfl hX (fun K hK => ?_)
      obtain ⟨q1, hq1⟩ : ∃ q1 : Nat → Bool, q1 = fun b => p b && s b := ⟨_, rfl⟩
      obtain ⟨q2, hq2⟩ : ∃ q2 : Nat → Bool, q2 = fun b => p b && sn b := ⟨_, rfl⟩
      have HPC := Lib.hid (show pieces p s = [q1, q2] by rw [hq1, hq2, HSN.out]; rfl)
      have HQ1 := Lib.hid hq1
      have HQ2 := Lib.hid hq2
      clear hq1 hq2
      go_wp2_with fail
      refine (bsAnd_any p s wd).mono ?_
      rintro e w4 ⟨rfl, hb⟩
      rw [show (fun b => Bool.and (p b) (s b)) = q1 from HQ1.out.symm]
      refine hK _ _ (hb.mono SZ.out) ?_
      clear hK K
      replace hX := hX.trans (hb.mono SZ.out)
      replace SZ := Lib.hid (Nat.le_trans SZ.out hb.size)
      clear hb
      refine sx_actB (i := 5) (o := ⟨some 20, _, _, _, _, _⟩) rfl (by kernel_rfl) rfl hX (fun K hK => ?_)
      go_wp2_with fail
      refine (bsNot_any s w4).mono ?_
      rintro e w5 ⟨rfl, hb⟩
      rw [← HSN.out]
      refine hK _ _ (hb.mono SZ.out) ?_
      clear hK K
      replace hX := hX.trans (hb.mono SZ.out)
      replace SZ := Lib.hid (Nat.le_trans SZ.out hb.size)
      clear hb
      refine sx_actB (i := 6) (o := ⟨some 21, _, _, _, _, _⟩) rfl (by kernel_rfl) rfl hX (fun K hK => ?_)
      go_wp2_with fail
      refine (bsAnd_any p sn w5).mono ?_
      rintro e w6 ⟨rfl, hb⟩
      rw [show (fun b => Bool.and (p b) (sn b)) = q2 from HQ2.out.symm]
      refine hK _ _ (hb.mono SZ.out) ?_
      clear hK K
      replace hX := hX.trans (hb.mono SZ.out)
      replace SZ := Lib.hid (Nat.le_trans SZ.out hb.size)
      clear hb
      refine sx_take (i := 7) (oi := ⟨some 22, _, _, _, _, _⟩) (v := .agg (wds q1 ++ wds q2).toArray) rfl (by kernel_rfl) (by kernel_rfl) (by kernel_rfl) (fun _ _ _ h => h) rfl hX (fun W _ => by have h := runTwo q1 q2 W; simp [execOp]; exact congrArg (fun r => r.andThen fun a w2 => Result.ok (Next.value a) w2) h) ?_
      simp only [Act.put, List.setIfInBounds_toArray, List.set_cons_zero, List.set_cons_succ]
      refine wpAnyH_done (by kernel_rfl) ?_ _
      have HB6 := Lib.hid hX
      have O6 := Lib.hid (own4Below O3.out hX (Nat.le_refl _))
      have BO6 := Lib.hid (HBO.out.trans (hX.mono HBO.out.size))
      clear hX SZ
      have HP2 := Lib.hid (pieces_next p s)
      rw [HPC.out] at HP2
      go_wp2_with fail
      go_loopw [4, 23] (fun v i wl => ∃ k : Nat, k ≤ 2 ∧ i = .int .i64 (k : Int) ∧ wl.ownsRow w1.heap.size 24 4 v (cur ++ ([q1, q2].take k).filter nonE).length (sets (cur ++ ([q1, q2].take k).filter nonE)) ∧ Below w1.heap.size w1 wl) (fun _ i _ => 2 - (intOf i).toNat)
      case atStart => exact ⟨0, by omega, by simp, by simpa using O6.out, BO6.out⟩
      case round =>
        obtain ⟨k, hk, rfl, ho, hb⟩ := hrel
        have HO2 := Lib.hid ho
        have HB2 := Lib.hid hb
        clear ho hb HO HB
        by_cases hk2 : k < 2
        · have k1 : (k : Int) < 2 := by omega
          obtain ⟨q, hq⟩ : ∃ q, [q1, q2][k]? = some q := ⟨_, List.getElem?_eq_getElem hk2⟩
          have hix : ∀ w : World, (Instr.index 54 (.agg (wds q1 ++ wds q2).toArray) (.int .i64 (k : Int))).run Tryd.prog w = .ok (.agg (wds q).toArray) w := by
            intro w
            match k, hk2 with
            | 0, _ => obtain rfl : q1 = q := by simpa using hq
                      exact idxP0 _ _ w
            | 1, _ => obtain rfl : q2 = q := by simpa using hq
                      exact idxP1 _ _ w
          have HK2 := Lib.hid (HP2.out k q hq)
          obtain ⟨c2, hc2⟩ : ∃ c2, c2 = cur ++ ([q1, q2].take k).filter nonE := ⟨_, rfl⟩
          have HCL2 := Lib.hid (show c2.length ≤ 514 by
            rw [hc2, List.length_append]
            have h1 := HCL.out
            have h2 := List.length_filter_le nonE ([q1, q2].take k)
            rw [List.length_take] at h2
            omega)
          rw [← hc2] at HO2
          have HC3 := Lib.hid (show cur ++ ([q1, q2].take (k + 1)).filter nonE = c2 ++ if nonE q then [q] else [] by rw [HK2.out, ← List.append_assoc, ← hc2])
          have HSB := Lib.hid HB2.out.size
          clear hc2 hq
          cases hne : nonE q with
          | false =>
            have HNE := Lib.hid (show (!eqS q z) = false by rw [HZ.out]; exact hne)
            rw [hne] at HC3
            clear hne
            go_wp2_with (first
              | ((with_reducible refine atDst 8 ?_); refine wpList_new rfl 24 rfl i0 _ (wds z) hi0 hz0 rfl HB2.out HSB.out ?_; intro w7 hk7 hb7 hs7 ho7; have K7 := Lib.hid hk7; have B7 := Lib.hid hb7; have O7 := Lib.hid (own4Below HO2.out (show Below wr.heap.size wr w7 from ⟨(hb7.os.trans HB2.out.os.symm), (hb7.tape.trans HB2.out.tape.symm), (hb7.output.trans HB2.out.output.symm), by omega, fun k hk => ho7 k hk⟩) (Nat.le_refl _)); clear hk7 hb7 hs7 ho7)
              | ((with_reducible refine atStore 24 8 25 ?_); refine wpList_stBlk rfl 24 _ _ rfl wr.heap.size (wds q) rfl rfl 24 _ K7.out (size_set q) rfl (wds_all _) B7.out HSB.out ?_; intro w8 hk8 hb8 hs8 ho8; have K8 := Lib.hid hk8; have B8 := Lib.hid hb8; have SB8 := Lib.hid hb8.size; have O8 := Lib.hid (own4Other O7.out (fun j hj => ho8 j (by have := own4_lt HO2.out j hj; omega))); clear hk8 hb8 ho8)
              | ((with_reducible refine atDst 26 ?_); refine wpList_ldArr rfl 24 _ rfl wr.heap.size rfl 24 _ _ K8.out Tryd.underlying24 rfl (size_set q) ?_)
              | ((with_reducible refine atDst 27 ?_); refine wpList_bld rfl 24 #[] rfl (wds z) HZB.out ?_)
              | ((with_reducible refine atDst 28 ?_); refine wpList_neSet_is rfl HNE.out 24 22 (.tmp 26) (.tmp 27) 24 rfl guard_set Tryd.underlying24 Tryd.underlying22 size_u64 rfl rfl ?_))
            refine ⟨⟨k + 1, by omega, by congr 1, ?_, B8.out⟩, by simp [intOf] <;> omega⟩
            rw [HC3.out]
            simpa using O8.out
          | true =>
            have HNE := Lib.hid (show (!eqS q z) = true by rw [HZ.out]; exact hne)
            rw [hne] at HC3
            clear hne
            go_wp2_with (first
              | ((with_reducible refine atDst 8 ?_); refine wpList_new rfl 24 rfl i0 _ (wds z) hi0 hz0 rfl HB2.out HSB.out ?_; intro w7 hk7 hb7 hs7 ho7; have K7 := Lib.hid hk7; have B7 := Lib.hid hb7; have O7 := Lib.hid (own4Below HO2.out (show Below wr.heap.size wr w7 from ⟨(hb7.os.trans HB2.out.os.symm), (hb7.tape.trans HB2.out.tape.symm), (hb7.output.trans HB2.out.output.symm), by omega, fun k hk => ho7 k hk⟩) (Nat.le_refl _)); clear hk7 hb7 hs7 ho7)
              | ((with_reducible refine atStore 24 8 25 ?_); refine wpList_stBlk rfl 24 _ _ rfl wr.heap.size (wds q) rfl rfl 24 _ K7.out (size_set q) rfl (wds_all _) B7.out HSB.out ?_; intro w8 hk8 hb8 hs8 ho8; have K8 := Lib.hid hk8; have B8 := Lib.hid hb8; have SB8 := Lib.hid hb8.size; have O8 := Lib.hid (own4Other O7.out (fun j hj => ho8 j (by have := own4_lt HO2.out j hj; omega))); clear hk8 hb8 ho8)
              | ((with_reducible refine atDst 26 ?_); refine wpList_ldArr rfl 24 _ rfl wr.heap.size rfl 24 _ _ K8.out Tryd.underlying24 rfl (size_set q) ?_)
              | ((with_reducible refine atDst 27 ?_); refine wpList_bld rfl 24 #[] rfl (wds z) HZB.out ?_)
              | ((with_reducible refine atDst 28 ?_); refine wpList_neSet_is rfl HNE.out 24 22 (.tmp 26) (.tmp 27) 24 rfl guard_set Tryd.underlying24 Tryd.underlying22 size_u64 rfl rfl ?_)
              | ((with_reducible refine atDst 30 ?_); refine wpList_ldArr rfl 24 _ rfl wr.heap.size rfl 24 _ _ K8.out Tryd.underlying24 rfl (size_set q) ?_)
              | ((with_reducible refine atDst 31 ?_); refine wpList_bldSet1 rfl 36 24 (.tmp 30) rfl i1 Tryd.underlying36 hi1 hy0 hy1 q rfl ?_; intro w9 hk9 hb9; have K9 := Lib.hid hk9; have O9 := Lib.hid (own4Below O8.out hb9 (Nat.le_refl _)); have B9 := Lib.hid (B8.out.trans (hb9.mono SB8.out)); have S9 := Lib.hid (Nat.le_trans SB8.out hb9.size); clear hk9 hb9)
              | ((with_reducible refine atDst 32 ?_); refine wpList_appS (base := w1.heap.size) rfl (.tmp 29) (.tmp 31) 36 rfl 24 i1 Tryd.underlying36 hi1 hy0 hy1 hy2 _ c2 rfl O9.out w8.heap.size 1 24 [q] rfl K9.out (by have := HCL2.out; simp; omega) S9.out ?_; intro v10 w10 ho10 hg10; have O10 := Lib.hid ho10; have B10 := Lib.hid (B9.out.grown hg10 S9.out (own4_above O9.out)); clear ho10 hg10))
            refine ⟨⟨k + 1, by omega, by congr 1, ?_, B10.out⟩, by simp [intOf] <;> omega⟩
            rw [HC3.out]
            exact O10.out
        · obtain rfl : k = 2 := by omega
          have k1 : ¬ ((2 : Int) < 2) := by omega
          have HOO := Lib.hid (show wr.ownsRow w1.heap.size 24 4 _ _ _ from HO2.out)
          have HNN := Lib.hid (show splitS (List.take (j + 1) ps) s = cur ++ ([q1, q2].take 2).filter nonE by rw [HNX.out, HPC.out]; rfl)
          clear HO2
          go_wp2_with fail
          refine ⟨⟨j + 1, by omega, by congr 1, ?_, HB2.out⟩, by simp [intOf] <;> omega⟩
          rw [HNN.out]
          exact HOO.out
    · obtain rfl : j = ps.length := by omega
      have j1 : ¬ ((ps.length : Int) < (ps.length : Int)) := by omega
      have o9 := HO.out
      rw [List.take_length] at o9
      have O9 := Lib.hid (show wo.ownsRow w.heap.size 24 4 _ _ _ from ⟨o9.1, o9.2.imp id fun ⟨g, cap, cur, h1, h2, h3⟩ => ⟨g, cap, cur, h1, Nat.le_trans B1.out.size h2, h3⟩⟩)
      have B9 := Lib.hid (B1.out.trans (HB.out.mono B1.out.size))
      clear o9 HO
      go_wp2_with fail
      go_ret
      exact ⟨_, rfl, O9.out, B9.out⟩
end Go.Proofs.YtaobeconjdeenaaDoor
