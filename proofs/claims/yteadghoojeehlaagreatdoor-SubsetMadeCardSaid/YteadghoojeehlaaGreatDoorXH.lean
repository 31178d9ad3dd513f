/-
  Texts of this proof, put together: RxRi. No statement is proved here.
-/
import Derived.Test.YteadghoojeehlaaGreatDoorXG
namespace Go.Proofs.YteadghoojeehlaaGreatDoor
open Go.RowKit
set_option linter.unusedSimpArgs false
set_option linter.unusedVariables false
set_option maxHeartbeats 16000000 in
set_option maxRecDepth 100000 in
theorem refInsert_some (l : List T) (r : T) (v : Value) (rs : List Value) (w : World) {D : Nat → Prop} (hD : ∀ k, D k → k < w.heap.size) (hr : RowD D w v l) (hne : l ≠ []) (hv : RxD D w rs r) (hn : nodesL l ≤ 549755813888) (hM : r.nodes ≤ 1099511627776) :
  Calls Tryz.prog 85 #[v, .agg rs.toArray] w fun e w' => ∃ v', e = .returned v' ∧ RowD (fun k => D k ∨ (w.heap.size ≤ k ∧ k < w'.heap.size)) w' v' (insT r l) ∧ Below w.heap.size w w' := by
 have HV := qH hv
 have HD := qH hD
 have HR := qH hr
 have HM := qH hM
 have HR6 := qH hv.length
 have HNM := qH (fun (t : T) (ht : t ∈ l) => show t.nodes ≤ 1099511627776 by have := nodes_mem ht; omega)
 obtain ⟨A, cap, f, rfl, h1, h2, h0, h3, h4⟩ := hr
 obtain ⟨b, off, rfl, hb, hrng⟩ := h3 hne
 have H4 := qH h4
 have HBD := qH hb
 have HRG := qH hrng
 obtain ⟨i0, hi0, hz0, hz1, hz2⟩ := inf_rx'
 have HZ1 := qH hz0
 obtain ⟨n, hnl⟩ : ∃ n, n = l.length := ⟨_, rfl⟩
 have HNL := qH hnl
 have HN := qH (show n ≤ 549755813888 by have := len_nodes l; omega)
 have HN0 := qH (show 0 < n by rw [hnl]; exact List.length_pos_iff.2 hne)
 have hcl : (n : Int) ≤ (cap : Int) := by omega
 have HCM := qH h2
 rw [← hnl] at HR HRG ⊢
 clear hv hD hz0 hn hM h1 h2 h0 h3 h4 hb hrng hnl hne
 go_enter Tryz.func85, Tryz.ntmps85
 go_wp2_with ((with_reducible refine atDst 3 ?_); refine wpList_box rfl 46 _ rfl rs rfl (Below.refl w.heap.size w) (Nat.le_refl _) ?_; intro w1 hk1 hb1 hs1 _; have K1 := qH hk1; have B1 := qH hb1; clear hk1 hb1 hs1; (try simp only [Act.put, qA, qB, qC]))
 go_loopw [5] (fun i wl => ∃ k : Nat, k ≤ n ∧ i = .int .i64 (k : Int) ∧ (∀ i, i < k → cmpT (nthT l i) r < 0) ∧ Below w1.heap.size w1 wl) (fun i _ => n - (intOf i).toNat)
 case atStart => exact ⟨0, by omega, by simp, fun i hi => by omega, Below.refl _ _⟩
 case round =>
  obtain ⟨k, hk, rfl, hlt, hb⟩ := hrel
  have HLS := qH hlt
  have HBw := qH hb
  have Br := qH (B1.out.trans (hb.mono B1.out.size))
  have Kr := qH (K1.out.below hb K1.out.lt)
  clear hlt hb
  by_cases hkn : k < n
  ·have j1 : (k : Int) < (n : Int) := Int.ofNat_lt.2 hkn
   have hk62 : k ≤ 4611686018427387904 := by have := HN.out; omega
   have e3 := wrap_one k hk62
   have e4 := wrap_one' k hk62
   have I1 := qH (show k + 1 ≤ n from hkn)
   have I2 := qH (sub_next hkn)
   have HLK := qH (show k < l.length by rw [← HNL.out]; exact hkn)
   have HXK := qH ((H4.out k _ (nthT_some HLK.out)).keep Br.out HD.out)
   have HX6 := qH HXK.out.length
   have HRK := qH (range_below (HRG.out k hkn) Br.out (HD.out b HBD.out))
   have HGS := qH (Nat.lt_of_lt_of_le (HD.out b HBD.out) Br.out.size)
   have HMK := qH (HNM.out (nthT l k) (List.mem_of_getElem? (nthT_some HLK.out)))
   clear hk62
   go_wp2_with fail
   refine sx_startB (B := wr.heap.size) (w0 := wr) (by kernel_rfl) (Below.refl _ _) (fun wd hwd hX => ?_)
   have SZ := qH hX.size
   clear hwd
   refine sx_take (i := 0) (oi := ⟨some 6, _, _, _, _, _⟩) (v := ?_) rfl (by kernel_rfl) (by kernel_rfl) (by kernel_rfl) (fun _ _ _ h => h) rfl hX ?_ ?_; rotate_left; (intro W hW; go_simp; try with_reducible rfl); simp only [Act.put, qA, qB, qC]
   refine sx_take (i := 1) (oi := ⟨some 7, _, _, _, _, _⟩) (v := ?_) rfl (by kernel_rfl) (by kernel_rfl) (by kernel_rfl) (fun _ _ _ h => h) rfl hX ?_ ?_; rotate_left; (intro W hW; go_simp; try with_reducible rfl); simp only [Act.put, qA, qB, qC]
   refine sx_take (i := 2) (oi := ⟨some 8, _, _, _, _, _⟩) (v := ?_) rfl (by kernel_rfl) (by kernel_rfl) (by kernel_rfl) (fun _ _ _ h => h) rfl hX ?_ ?_; rotate_left; (intro W hW; go_simp; try with_reducible rfl); simp only [Act.put, qA, qB, qC]
   refine sx_take (i := 3) (oi := ⟨some 9, _, _, _, _, _⟩) (v := ?_) rfl (by kernel_rfl) (by kernel_rfl) (by kernel_rfl) (fun _ _ _ h => h) rfl hX ?_ ?_; rotate_left; (intro W hW; go_simp; try with_reducible rfl); simp only [Act.put, qA, qB, qC]
   refine sx_take (i := 4) (oi := ⟨some 10, _, _, _, _, _⟩) (v := ?_) rfl (by kernel_rfl) (by kernel_rfl) (by kernel_rfl) (fun _ _ _ h => h) rfl hX ?_ ?_; rotate_left; (intro W hW; go_simp; try with_reducible rfl); simp only [Act.put, qA, qB, qC]
   refine sx_take (i := 5) (oi := ⟨some 11, _, _, _, _, _⟩) (v := ?_) rfl (by kernel_rfl) (by kernel_rfl) (by kernel_rfl) (fun _ _ _ h => h) rfl hX ?_ ?_; rotate_left; (intro W hW; go_simp; try with_reducible rfl); simp only [Act.put, qA, qB, qC]
   refine sx_take (i := 6) (oi := ⟨some 12, _, _, _, _, _⟩) (v := ?_) rfl (by kernel_rfl) (by kernel_rfl) (by kernel_rfl) (fun _ _ _ h => h) rfl hX ?_ ?_; rotate_left; (intro W hW; go_simp; try with_reducible rfl); simp only [Act.put, qA, qB, qC]
   refine sx_take (i := 7) (oi := ⟨some 13, _, _, _, _, _⟩) (v := ?_) rfl (by kernel_rfl) (by kernel_rfl) (by kernel_rfl) (fun _ _ _ h => h) rfl hX ?_ ?_; rotate_left; (intro W hW; go_simp; try with_reducible rfl); simp only [Act.put, qA, qB, qC]
   refine sx_take (i := 8) (oi := ⟨some 14, _, _, _, _, _⟩) (v := .agg (f k).toArray) rfl (by kernel_rfl) (by kernel_rfl) (by kernel_rfl) (fun _ _ _ h => h) rfl hX (ld_mid 46 _ rfl b (off + k * 6) rfl _ _ HRK.out HGS.out Tryz.underlying46 rfl (size_rx HX6.out)) ?_; simp only [Act.put, qA, qB, qC]
   refine sx_take (i := 9) (oi := ⟨some 15, _, _, _, _, _⟩) (v := .agg rs.toArray) rfl (by kernel_rfl) (by kernel_rfl) (by kernel_rfl) (fun _ _ _ h => h) rfl hX (ld_blk 46 _ rfl w.heap.size rfl 46 _ _ Kr.out Kr.out.lt Tryz.underlying46 rfl (size_rx HR6.out)) ?_; simp only [Act.put, qA, qB, qC]
   refine sx_actB (i := 10) (o := ⟨some 16, _, _, _, _, _⟩) rfl (by kernel_rfl) rfl hX (fun K hK => ?_)
   go_wp2_with fail
   refine (refCompare_any _ (nthT l k) r (Nat.le_refl _) HMK.out (f k) rs wd (RxD.mono (HXK.out.keep hX fun q hq => Nat.lt_of_lt_of_le (HD.out q hq) Br.out.size) fun q hq => Nat.lt_of_lt_of_le (HD.out q hq) (Nat.le_trans Br.out.size SZ.out)) (RxD.mono ((HV.out.keep Br.out HD.out).keep hX fun q hq => Nat.lt_of_lt_of_le (HD.out q hq) Br.out.size) fun q hq => Nat.lt_of_lt_of_le (HD.out q hq) (Nat.le_trans Br.out.size SZ.out))).mono ?_
   rintro e w6 ⟨rfl, hb⟩
   obtain ⟨x, hx⟩ : ∃ x, cmpT (nthT l k) r = x := ⟨_, rfl⟩
   rw [hx]
   have HXX := qH hx
   refine hK _ _ (hb.mono SZ.out) ?_
   clear hK K hx
   replace hX := hX.trans (hb.mono SZ.out)
   clear hb
   refine sx_take (i := 11) (oi := ⟨some 17, _, _, _, _, _⟩) (v := ?_) rfl (by kernel_rfl) (by kernel_rfl) (by kernel_rfl) (fun _ _ _ h => h) rfl hX ?_ ?_; rotate_left; (intro W hW; go_simp; try with_reducible rfl); simp only [Act.put, qA, qB, qC]
   refine sx_take (i := 12) (oi := ⟨some 18, _, _, _, _, _⟩) (v := ?_) rfl (by kernel_rfl) (by kernel_rfl) (by kernel_rfl) (fun _ _ _ h => h) rfl hX ?_ ?_; rotate_left; (intro W hW; go_simp; try with_reducible rfl); simp only [Act.put, qA, qB, qC]
   refine wpAnyH_done (by kernel_rfl) ?_ _
   have Ba := qH (Br.out.trans (hX.mono Br.out.size))
   have Bc := qH (HBw.out.trans (hX.mono HBw.out.size))
   have Ka := qH (Kr.out.below hX Kr.out.lt)
   have HRa := qH (range_below HRK.out hX HGS.out)
   have HGa := qH (Nat.lt_of_lt_of_le HGS.out hX.size)
   clear hX SZ
   obtain ⟨wa, hwa⟩ : ∃ wa, wa = w6 := ⟨_, rfl⟩
   subst hwa
   by_cases hx0 : x < 0
   ·have HX0 := qH hx0
    go_wp2_with fail
    refine ⟨⟨k + 1, I1.out, by congr 1, fun i hi => ?_, Bc.out⟩, by simpa [intOf] using I2.out⟩
    by_cases hik : i = k
    ·rw [hik, HXX.out]; exact HX0.out
    ·exact HLS.out i (lt_of_ne hi hik)
   ·have HX0 := qH hx0
    go_wp2_with fail
    refine sx_startB (B := wa.heap.size) (w0 := wa) (by kernel_rfl) (Below.refl _ _) (fun wd2 hwd hX => ?_)
    have SZ := qH hX.size
    clear hwd
    refine sx_take (i := 0) (oi := ⟨some 21, _, _, _, _, _⟩) (v := ?_) rfl (by kernel_rfl) (by kernel_rfl) (by kernel_rfl) (fun _ _ _ h => h) rfl hX ?_ ?_; rotate_left; (intro W hW; go_simp; try with_reducible rfl); simp only [Act.put, qA, qB, qC]
    refine sx_take (i := 1) (oi := ⟨some 22, _, _, _, _, _⟩) (v := ?_) rfl (by kernel_rfl) (by kernel_rfl) (by kernel_rfl) (fun _ _ _ h => h) rfl hX ?_ ?_; rotate_left; (intro W hW; go_simp; try with_reducible rfl); simp only [Act.put, qA, qB, qC]
    refine sx_take (i := 2) (oi := ⟨some 23, _, _, _, _, _⟩) (v := ?_) rfl (by kernel_rfl) (by kernel_rfl) (by kernel_rfl) (fun _ _ _ h => h) rfl hX ?_ ?_; rotate_left; (intro W hW; go_simp; try with_reducible rfl); simp only [Act.put, qA, qB, qC]
    refine sx_take (i := 3) (oi := ⟨some 24, _, _, _, _, _⟩) (v := ?_) rfl (by kernel_rfl) (by kernel_rfl) (by kernel_rfl) (fun _ _ _ h => h) rfl hX ?_ ?_; rotate_left; (intro W hW; go_simp; try with_reducible rfl); simp only [Act.put, qA, qB, qC]
    refine sx_take (i := 4) (oi := ⟨some 25, _, _, _, _, _⟩) (v := ?_) rfl (by kernel_rfl) (by kernel_rfl) (by kernel_rfl) (fun _ _ _ h => h) rfl hX ?_ ?_; rotate_left; (intro W hW; go_simp; try with_reducible rfl); simp only [Act.put, qA, qB, qC]
    refine sx_take (i := 5) (oi := ⟨some 26, _, _, _, _, _⟩) (v := ?_) rfl (by kernel_rfl) (by kernel_rfl) (by kernel_rfl) (fun _ _ _ h => h) rfl hX ?_ ?_; rotate_left; (intro W hW; go_simp; try with_reducible rfl); simp only [Act.put, qA, qB, qC]
    refine sx_take (i := 6) (oi := ⟨some 27, _, _, _, _, _⟩) (v := ?_) rfl (by kernel_rfl) (by kernel_rfl) (by kernel_rfl) (fun _ _ _ h => h) rfl hX ?_ ?_; rotate_left; (intro W hW; go_simp; try with_reducible rfl); simp only [Act.put, qA, qB, qC]
    refine sx_take (i := 7) (oi := ⟨some 28, _, _, _, _, _⟩) (v := ?_) rfl (by kernel_rfl) (by kernel_rfl) (by kernel_rfl) (fun _ _ _ h => h) rfl hX ?_ ?_; rotate_left; (intro W hW; go_simp; try with_reducible rfl); simp only [Act.put, qA, qB, qC]
    refine sx_take (i := 8) (oi := ⟨some 29, _, _, _, _, _⟩) (v := .agg (f k).toArray) rfl (by kernel_rfl) (by kernel_rfl) (by kernel_rfl) (fun _ _ _ h => h) rfl hX (ld_mid 46 _ rfl b (off + k * 6) rfl _ _ HRa.out HGa.out Tryz.underlying46 rfl (size_rx HX6.out)) ?_; simp only [Act.put, qA, qB, qC]
    refine sx_take (i := 9) (oi := ⟨some 30, _, _, _, _, _⟩) (v := .agg rs.toArray) rfl (by kernel_rfl) (by kernel_rfl) (by kernel_rfl) (fun _ _ _ h => h) rfl hX (ld_blk 46 _ rfl w.heap.size rfl 46 _ _ Ka.out Ka.out.lt Tryz.underlying46 rfl (size_rx HR6.out)) ?_; simp only [Act.put, qA, qB, qC]
    refine sx_actB (i := 10) (o := ⟨some 31, _, _, _, _, _⟩) rfl (by kernel_rfl) rfl hX (fun K hK => ?_)
    go_wp2_with fail
    refine (refEqual_any (nthT l k) r HMK.out (f k) rs wd2 (RxD.mono (((H4.out k _ (nthT_some HLK.out)).keep Ba.out HD.out).keep hX fun q hq => Nat.lt_of_lt_of_le (HD.out q hq) Ba.out.size) fun q hq => Nat.lt_of_lt_of_le (HD.out q hq) (Nat.le_trans Ba.out.size SZ.out)) (RxD.mono ((HV.out.keep Ba.out HD.out).keep hX fun q hq => Nat.lt_of_lt_of_le (HD.out q hq) Ba.out.size) fun q hq => Nat.lt_of_lt_of_le (HD.out q hq) (Nat.le_trans Ba.out.size SZ.out))).mono ?_
    rintro e w7 ⟨rfl, hb⟩
    rw [HXX.out]
    refine hK _ _ (hb.mono SZ.out) ?_
    clear hK K
    replace hX := hX.trans (hb.mono SZ.out)
    clear hb
    refine sx_take (i := 11) (oi := ⟨some 32, _, _, _, _, _⟩) (v := ?_) rfl (by kernel_rfl) (by kernel_rfl) (by kernel_rfl) (fun _ _ _ h => h) rfl hX ?_ ?_; rotate_left; (intro W hW; go_simp; try with_reducible rfl); simp only [Act.put, qA, qB, qC]
    refine wpAnyH_done (by kernel_rfl) ?_ _
    have Bb := qH (Ba.out.trans (hX.mono Ba.out.size))
    have KW := qH (Ka.out.below hX Ka.out.lt)
    clear hX SZ
    obtain ⟨wb, hwb⟩ : ∃ wb, wb = w7 := ⟨_, rfl⟩
    subst hwb
    have HIA := qH (insT_at r l k HLS.out (Nat.le_of_lt HLK.out) (fun _ => by rw [HXX.out]; have := HX0.out; omega))
    by_cases hxe : x = 0
    ·have hxb : (x == 0) = true := by simpa using hxe
     have HINS := qH (show insT r l = l by rw [HIA.out, if_pos ⟨HLK.out, HXX.out.trans hxe⟩])
     clear hx0 hxe
     go_wp2_with fail
     go_ret
     refine ⟨_, rfl, ?_, Bb.out⟩
     rw [HINS.out]
     exact (HR.out.keep Bb.out HD.out).mono fun k hk => .inl hk
    ·have hxb : (x == 0) = false := by simpa using hxe
     have HINS := qH (show insT r l = l.take k ++ [r] ++ l.drop k by rw [HIA.out, if_neg (fun h => hxe (HXX.out.symm.trans h.2))])
     have hkc : (k : Int) < (cap : Int) := by omega
     have hkd : (k : Int) ≤ (cap : Int) := by omega
     have hck : ¬ (cap = k) := by omega
     have hke : (k : Int) ≤ (n : Int) := by omega
     have hk0 : (0 : Int) ≤ (k : Int) := by omega
     have HVR := qH (HV.out.keep Bb.out HD.out)
     have HRW := qH (HR.out.keep Bb.out HD.out)
     have PR := qH (HRW.out.take k (by rw [← HNL.out]; omega))
     have HLT := qH (show (l.take k).length = k by rw [List.length_take, ← HNL.out]; omega)
     have HL1 := qH (show (l.take k).length ≤ 1099511627776 by have h1 := HLT.out; have h2 := HN.out; omega)
     have HL2 := qH (show (l.take k).length + 1 ≤ 1099511627776 by have h1 := HLT.out; have h2 := HN.out; omega)
     have HL3 := qH (show (l.take k ++ [r]).length + (l.drop k).length ≤ 1099511627776 by rw [List.length_append, List.length_drop, ← HNL.out]; have h1 := HLT.out; have h2 := HN.out; simp only [List.length_cons, List.length_nil]; omega)
     obtain ⟨b2, off2, he2, hs2⟩ := HRW.out.drop k HLK.out
     injection he2 with he2
     injection he2 with he2 he3
     subst he2 he3
     have SR := qH hs2
     clear hx0 hxe hs2
     go_wp2_with fail
     have HDW := qH (fun k (hk : D k) => Nat.lt_of_lt_of_le (HD.out k hk) Bb.out.size)
     refine sx_startB (B := wb.heap.size) (w0 := wb) (by kernel_rfl) (Below.refl _ _) (fun wd hwd hX => ?_)
     have SZ := qH hX.size
     clear hwd
     refine sx_take (i := 1) (oi := ⟨some 35, _, _, _, _, _⟩) (v := ?_) rfl (by kernel_rfl) (by kernel_rfl) (by kernel_rfl) (fun _ _ _ h => h) rfl hX ?_ ?_; rotate_left; (intro W hW; go_simp; try with_reducible rfl); simp only [Act.put, qA, qB, qC]
     refine sx_take (i := 2) (oi := ⟨some 36, _, _, _, _, _⟩) (v := ?_) rfl (by kernel_rfl) (by kernel_rfl) (by kernel_rfl) (fun _ _ _ h => h) rfl hX ?_ ?_; rotate_left; (intro W hW; go_simp; try with_reducible rfl); simp only [Act.put, qA, qB, qC]
     refine sx_take (i := 3) (oi := ⟨some 37, _, _, _, _, _⟩) (v := ?_) rfl (by kernel_rfl) (by kernel_rfl) (by kernel_rfl) (fun _ _ _ h => h) rfl hX ?_ ?_; rotate_left; (intro W hW; go_simp; try with_reducible rfl); simp only [Act.put, qA, qB, qC]
     refine sx_take (i := 5) (oi := ⟨some 39, _, _, _, _, _⟩) (v := .agg rs.toArray) rfl (by kernel_rfl) (by kernel_rfl) (by kernel_rfl) (fun _ _ _ h => h) rfl hX (ld_blk 46 _ rfl w.heap.size rfl 46 _ _ KW.out KW.out.lt Tryz.underlying46 rfl (size_rx HR6.out)) ?_; simp only [Act.put, qA, qB, qC]
     refine sx_take (i := 8) (oi := ⟨some 42, _, _, _, _, _⟩) (v := ?_) rfl (by kernel_rfl) (by kernel_rfl) (by kernel_rfl) (fun _ _ _ h => h) rfl hX ?_ ?_; rotate_left; (intro W hW; go_simp; try with_reducible rfl); simp only [Act.put, qA, qB, qC]
     refine sx_take (i := 9) (oi := ⟨some 43, _, _, _, _, _⟩) (v := ?_) rfl (by kernel_rfl) (by kernel_rfl) (by kernel_rfl) (fun _ _ _ h => h) rfl hX ?_ ?_; rotate_left; (intro W hW; go_simp; try with_reducible rfl); simp only [Act.put, qA, qB, qC]
     refine sx_take (i := 10) (oi := ⟨some 44, _, _, _, _, _⟩) (v := ?_) rfl (by kernel_rfl) (by kernel_rfl) (by kernel_rfl) (fun _ _ _ h => h) rfl hX ?_ ?_; rotate_left; (intro W hW; go_simp; try first | with_reducible rfl | (simp only [if_neg hck]; with_reducible rfl)); simp only [Act.put, qA, qB, qC]
     refine sx_two (i := 0) (j := 6) (oi := ⟨some 34, _, _, _, _, _⟩) (oj := ⟨some 40, _, _, _, _, _⟩) rfl rfl (by kernel_rfl) rfl rfl hX (fun K hK => ?_) (fun K hK => ?_)
     focus
      refine wp_bldT0 rfl ?_
      intro v34 w34 ho34 hb34
      have O34 := qH (ho34 D)
      refine hK _ _ (hb34.mono SZ.out) ?_
      clear hK K
      replace hX := hX.trans (hb34.mono SZ.out)
      have S34 := qH (Nat.le_trans SZ.out hb34.size)
      clear ho34
      have O := qH (O34.out.low SZ.out)
      refine sx_two (i := 4) (j := 6) (oi := ⟨some 38, _, _, _, _, _⟩) (oj := ⟨some 40, _, _, _, _, _⟩) rfl rfl (by kernel_rfl) rfl rfl hX (fun K hK => ?_) (fun K hK => ?_)
      focus
       refine wp_appTs (D := D) (D' := D) (base := wb.heap.size) (.tmp 34) (.tmp 37) rfl i0 hi0 HZ1.out hz1 hz2 v34 [] rfl O.out _ (l.take k) rfl (PR.out.keep hX HDW.out) (fun q hq => ⟨hq, Nat.lt_of_lt_of_le (HDW.out q hq) hX.size, fun he => by have h1 := O.out.ge q he.symm; have h2 := HDW.out q hq; omega⟩) (by have h1 := HL1.out; simpa using h1) hX.size ?_
       intro v38 w38 ho38 hg38
       have B38 := qH ((Below.refl wb.heap.size w34).grown hg38 hX.size (fun q hq => O.out.ge q hq))
       refine hK _ _ B38.out ?_
       clear hK K
       replace hX := hX.trans B38.out
       have O38 := qH (show OwnT D wb.heap.size w38 v38 (l.take k) by have h1 := ho38; rwa [List.nil_append] at h1)
       refine sx_actB (i := 6) (o := ⟨some 40, _, _, _, _, _⟩) rfl (by kernel_rfl) rfl hX (fun K hK => ?_)
       refine wp_bldT1 44 46 (.tmp 39) rfl i0 Tryz.underlying44 hi0 HZ1.out hz1 rs HR6.out rfl ?_
       intro w40 hk40 hb40 hs40
       refine hK _ _ (hb40.mono hX.size) ?_
       clear hK K
       replace hX := hX.trans (hb40.mono hX.size)
       have K40 := qH hk40
       have O41 := qH (O38.out.stay hb40)
       have K41 := qH hk40
       obtain ⟨WW, hWW⟩ : ∃ WW, WW = w40 := ⟨_, rfl⟩
       subst hWW
      rotate_left
      focus
       refine wp_bldT1 44 46 (.tmp 39) rfl i0 Tryz.underlying44 hi0 HZ1.out hz1 rs HR6.out rfl ?_
       intro w40 hk40 hb40 hs40
       refine hK _ _ (hb40.mono hX.size) ?_
       clear hK K
       replace hX := hX.trans (hb40.mono hX.size)
       have K40 := qH hk40
       have O := qH (O.out.stay hb40)
       have LT34 := qH (fun q (hq : v34.ownBlock = some q) => O34.out.lt q hq)
       refine sx_actB (i := 4) (o := ⟨some 38, _, _, _, _, _⟩) rfl (by kernel_rfl) rfl hX (fun K hK => ?_)
       refine wp_appTs (D := D) (D' := D) (base := wb.heap.size) (.tmp 34) (.tmp 37) rfl i0 hi0 HZ1.out hz1 hz2 v34 [] rfl O.out _ (l.take k) rfl (PR.out.keep hX HDW.out) (fun q hq => ⟨hq, Nat.lt_of_lt_of_le (HDW.out q hq) hX.size, fun he => by have h1 := O.out.ge q he.symm; have h2 := HDW.out q hq; omega⟩) (by have h1 := HL1.out; simpa using h1) hX.size ?_
       intro v38 w38 ho38 hg38
       have B38 := qH ((Below.refl wb.heap.size w40).grown hg38 hX.size (fun q hq => O.out.ge q hq))
       refine hK _ _ B38.out ?_
       clear hK K
       replace hX := hX.trans B38.out
       have O38 := qH (show OwnT D wb.heap.size w38 v38 (l.take k) by have h1 := ho38; rwa [List.nil_append] at h1)
       have K41 := qH ((hg38.block _ K40.out.lt (fun e => by have h1 := LT34.out _ e.symm; omega)).trans K40.out)
       have O41 := O38
       obtain ⟨WW, hWW⟩ : ∃ WW, WW = w38 := ⟨_, rfl⟩
       subst hWW
      rotate_left
     rotate_left
     rotate_left
     focus
      refine wp_bldT1 44 46 (.tmp 39) rfl i0 Tryz.underlying44 hi0 HZ1.out hz1 rs HR6.out rfl ?_
      intro w40 hk40 hb40 hs40
      refine hK _ _ (hb40.mono SZ.out) ?_
      clear hK K
      replace hX := hX.trans (hb40.mono SZ.out)
      have K40 := qH hk40
      have SZ' := qH (Nat.le_trans SZ.out hb40.size)
      refine sx_actB (i := 0) (o := ⟨some 34, _, _, _, _, _⟩) rfl (by kernel_rfl) rfl hX (fun K hK => ?_)
      refine wp_bldT0 rfl ?_
      intro v34 w34 ho34 hb34
      have O34 := qH (ho34 D)
      refine hK _ _ (hb34.mono SZ'.out) ?_
      clear hK K
      replace hX := hX.trans (hb34.mono SZ'.out)
      have S34 := qH (Nat.le_trans SZ'.out hb34.size)
      clear ho34
      have O := qH (O34.out.low SZ'.out)
      have GE34 := qH (fun q (hq : v34.ownBlock = some q) => O34.out.ge q hq)
      have K41' := qH (K40.out.below hb34 K40.out.lt)
      have LT40 := qH K40.out.lt
      refine sx_actB (i := 4) (o := ⟨some 38, _, _, _, _, _⟩) rfl (by kernel_rfl) rfl hX (fun K hK => ?_)
      refine wp_appTs (D := D) (D' := D) (base := wb.heap.size) (.tmp 34) (.tmp 37) rfl i0 hi0 HZ1.out hz1 hz2 v34 [] rfl O.out _ (l.take k) rfl (PR.out.keep hX HDW.out) (fun q hq => ⟨hq, Nat.lt_of_lt_of_le (HDW.out q hq) hX.size, fun he => by have h1 := O.out.ge q he.symm; have h2 := HDW.out q hq; omega⟩) (by have h1 := HL1.out; simpa using h1) hX.size ?_
      intro v38 w38 ho38 hg38
      have B38 := qH ((Below.refl wb.heap.size w34).grown hg38 hX.size (fun q hq => O.out.ge q hq))
      refine hK _ _ B38.out ?_
      clear hK K
      replace hX := hX.trans B38.out
      have O38 := qH (show OwnT D wb.heap.size w38 v38 (l.take k) by have h1 := ho38; rwa [List.nil_append] at h1)
      have K41 := qH ((hg38.block _ K41'.out.lt (fun e => by have h1 := GE34.out _ e.symm; have h2 := LT40.out; omega)).trans K41'.out)
      have O41 := O38
      obtain ⟨WW, hWW⟩ : ∃ WW, WW = w38 := ⟨_, rfl⟩
      subst hWW
     all_goals
      refine sx_actB (i := 7) (o := ⟨some 41, _, _, _, _, _⟩) rfl (by kernel_rfl) rfl hX (fun K hK => ?_)
      have V41 := qH (RxD.mono (HVR.out.keep hX HDW.out) (D' := fun k => D k ∧ k < WW.heap.size ∧ some k ≠ v38.ownBlock) fun k hk => ⟨hk, Nat.lt_of_lt_of_le (HDW.out k hk) hX.size, fun he => by have h1 := O41.out.ge k he.symm; have h2 := HDW.out k hk; omega⟩)
      refine wp_appT (D := D) (base := wb.heap.size) (.tmp 38) (.tmp 40) rfl i0 hi0 HZ1.out hz1 hz2 v38 _ rfl O41.out _ 1 46 rs r rfl K41.out V41.out HL2.out hX.size ?_
      intro v42 w42 ho42 hg42
      have B42 := qH ((Below.refl wb.heap.size WW).grown hg42 hX.size (fun q hq => O41.out.ge q hq))
      refine hK _ _ B42.out ?_
      clear hK K
      replace hX := hX.trans B42.out
      have O42 := qH ho42
      clear ho42 hg42
      refine sx_actB (i := 11) (o := ⟨some 45, _, _, _, _, _⟩) rfl (by kernel_rfl) rfl hX (fun K hK => ?_)
      refine wp_appTs (D := D) (D' := D) (base := wb.heap.size) (.tmp 41) (.tmp 44) rfl i0 hi0 HZ1.out hz1 hz2 v42 _ rfl O42.out _ (l.drop k) rfl (SR.out.keep hX HDW.out) (fun q hq => ⟨hq, Nat.lt_of_lt_of_le (HDW.out q hq) hX.size, fun he => by have h1 := O42.out.ge q he.symm; have h2 := HDW.out q hq; omega⟩) HL3.out hX.size ?_
      intro v45 w45 ho45 hg45
      have B45 := qH ((Below.refl wb.heap.size w42).grown hg45 hX.size (fun q hq => O42.out.ge q hq))
      refine hK _ _ B45.out ?_
      clear hK K
      replace hX := hX.trans B45.out
      have O45 := qH ho45
      clear ho45 hg45
      refine sx_take (i := 12) (oi := ⟨some 4, _, _, _, _, _⟩) (v := ?_) rfl (by kernel_rfl) (by kernel_rfl) (by kernel_rfl) (fun _ _ _ h => h) rfl hX ?_ ?_; rotate_left; (intro W hW; go_simp; try with_reducible rfl); simp only [Act.put, qA, qB, qC]
      refine wpAnyH_done (by kernel_rfl) ?_ _
      have B9 := qH (Bb.out.trans (hX.mono Bb.out.size))
      go_wp2_with fail
      go_ret
      refine ⟨_, rfl, ?_, B9.out⟩
      rw [HINS.out]
      exact O45.out.rowD.mono fun k hk => by have h1 := Bb.out.size; rcases hk.1 with h | h; exact .inl h; exact .inr ⟨Nat.le_trans h1 h, hk.2⟩
  ·obtain rfl : k = n := by omega
   have j1 : ¬ ((k : Int) < (k : Int)) := by omega
   have HINS := qH (show insT r l = l.take k ++ [r] ++ l.drop k by
    rw [insT_at r l k HLS.out (by rw [HNL.out]; exact Nat.le_refl _) (fun h => by rw [HNL.out] at h; omega), if_neg (fun h => by have := h.1; rw [HNL.out] at this; omega)])
   have HDN := qH (show l.drop k = [] by rw [HNL.out]; simp)
   go_wp2_with fail
   refine sx_startB (B := wr.heap.size) (w0 := wr) (by kernel_rfl) (Below.refl _ _) (fun wd hwd hX => ?_)
   clear hwd
   refine sx_take (i := 0) (oi := ⟨some 6, _, _, _, _, _⟩) (v := ?_) rfl (by kernel_rfl) (by kernel_rfl) (by kernel_rfl) (fun _ _ _ h => h) rfl hX ?_ ?_; rotate_left; (intro W hW; go_simp; try with_reducible rfl); simp only [Act.put, qA, qB, qC]
   refine sx_take (i := 1) (oi := ⟨some 7, _, _, _, _, _⟩) (v := ?_) rfl (by kernel_rfl) (by kernel_rfl) (by kernel_rfl) (fun _ _ _ h => h) rfl hX ?_ ?_; rotate_left; (intro W hW; go_simp; try with_reducible rfl); simp only [Act.put, qA, qB, qC]
   refine sx_take (i := 2) (oi := ⟨some 8, _, _, _, _, _⟩) (v := ?_) rfl (by kernel_rfl) (by kernel_rfl) (by kernel_rfl) (fun _ _ _ h => h) rfl hX ?_ ?_; rotate_left; (intro W hW; go_simp; try with_reducible rfl); simp only [Act.put, qA, qB, qC]
   refine sx_take (i := 3) (oi := ⟨some 9, _, _, _, _, _⟩) (v := ?_) rfl (by kernel_rfl) (by kernel_rfl) (by kernel_rfl) (fun _ _ _ h => h) rfl hX ?_ ?_; rotate_left; (intro W hW; go_simp; try with_reducible rfl); simp only [Act.put, qA, qB, qC]
   refine sx_take (i := 4) (oi := ⟨some 10, _, _, _, _, _⟩) (v := ?_) rfl (by kernel_rfl) (by kernel_rfl) (by kernel_rfl) (fun _ _ _ h => h) rfl hX ?_ ?_; rotate_left; (intro W hW; go_simp; try with_reducible rfl); simp only [Act.put, qA, qB, qC]
   refine sx_skip (i := 5) (oi := ⟨some 11, _, _, _, _, _⟩) rfl (by kernel_rfl) (by kernel_rfl) (by kernel_rfl) (fun _ _ _ h => h) rfl hX ?_; simp only [Act.put, qA, qB, qC]
   refine sx_skip (i := 6) (oi := ⟨some 12, _, _, _, _, _⟩) rfl (by kernel_rfl) (by kernel_rfl) (by kernel_rfl) (fun _ _ _ h => h) rfl hX ?_; simp only [Act.put, qA, qB, qC]
   refine sx_skip (i := 7) (oi := ⟨some 13, _, _, _, _, _⟩) rfl (by kernel_rfl) (by kernel_rfl) (by kernel_rfl) (fun _ _ _ h => h) rfl hX ?_; simp only [Act.put, qA, qB, qC]
   refine sx_skip (i := 8) (oi := ⟨some 14, _, _, _, _, _⟩) rfl (by kernel_rfl) (by kernel_rfl) (by kernel_rfl) (fun _ _ _ h => h) rfl hX ?_; simp only [Act.put, qA, qB, qC]
   refine sx_skip (i := 9) (oi := ⟨some 15, _, _, _, _, _⟩) rfl (by kernel_rfl) (by kernel_rfl) (by kernel_rfl) (fun _ _ _ h => h) rfl hX ?_; simp only [Act.put, qA, qB, qC]
   refine sx_skip (i := 10) (oi := ⟨some 16, _, _, _, _, _⟩) rfl (by kernel_rfl) (by kernel_rfl) (by kernel_rfl) (fun _ _ _ h => h) rfl hX ?_; simp only [Act.put, qA, qB, qC]
   refine sx_skip (i := 11) (oi := ⟨some 17, _, _, _, _, _⟩) rfl (by kernel_rfl) (by kernel_rfl) (by kernel_rfl) (fun _ _ _ h => h) rfl hX ?_; simp only [Act.put, qA, qB, qC]
   refine sx_take (i := 12) (oi := ⟨some 18, _, _, _, _, _⟩) (v := ?_) rfl (by kernel_rfl) (by kernel_rfl) (by kernel_rfl) (fun _ _ _ h => h) rfl hX ?_ ?_; rotate_left; (intro W hW; go_simp; try with_reducible rfl); simp only [Act.put, qA, qB, qC]
   refine wpAnyH_done (by kernel_rfl) ?_ _
   have Ba := qH (Br.out.trans (hX.mono Br.out.size))
   have Ka := qH (Kr.out.below hX Kr.out.lt)
   clear hX
   obtain ⟨wa, hwa⟩ : ∃ wa, wa = wd := ⟨_, rfl⟩
   subst hwa
   go_wp2_with fail
   refine sx_startB (B := wa.heap.size) (w0 := wa) (by kernel_rfl) (Below.refl _ _) (fun wd hwd hX => ?_)
   clear hwd
   refine sx_take (i := 0) (oi := ⟨some 21, _, _, _, _, _⟩) (v := ?_) rfl (by kernel_rfl) (by kernel_rfl) (by kernel_rfl) (fun _ _ _ h => h) rfl hX ?_ ?_; rotate_left; (intro W hW; go_simp; try with_reducible rfl); simp only [Act.put, qA, qB, qC]
   refine sx_take (i := 1) (oi := ⟨some 22, _, _, _, _, _⟩) (v := ?_) rfl (by kernel_rfl) (by kernel_rfl) (by kernel_rfl) (fun _ _ _ h => h) rfl hX ?_ ?_; rotate_left; (intro W hW; go_simp; try with_reducible rfl); simp only [Act.put, qA, qB, qC]
   refine sx_take (i := 2) (oi := ⟨some 23, _, _, _, _, _⟩) (v := ?_) rfl (by kernel_rfl) (by kernel_rfl) (by kernel_rfl) (fun _ _ _ h => h) rfl hX ?_ ?_; rotate_left; (intro W hW; go_simp; try with_reducible rfl); simp only [Act.put, qA, qB, qC]
   refine sx_take (i := 3) (oi := ⟨some 24, _, _, _, _, _⟩) (v := ?_) rfl (by kernel_rfl) (by kernel_rfl) (by kernel_rfl) (fun _ _ _ h => h) rfl hX ?_ ?_; rotate_left; (intro W hW; go_simp; try with_reducible rfl); simp only [Act.put, qA, qB, qC]
   refine sx_take (i := 4) (oi := ⟨some 25, _, _, _, _, _⟩) (v := ?_) rfl (by kernel_rfl) (by kernel_rfl) (by kernel_rfl) (fun _ _ _ h => h) rfl hX ?_ ?_; rotate_left; (intro W hW; go_simp; try with_reducible rfl); simp only [Act.put, qA, qB, qC]
   refine sx_skip (i := 5) (oi := ⟨some 26, _, _, _, _, _⟩) rfl (by kernel_rfl) (by kernel_rfl) (by kernel_rfl) (fun _ _ _ h => h) rfl hX ?_; simp only [Act.put, qA, qB, qC]
   refine sx_skip (i := 6) (oi := ⟨some 27, _, _, _, _, _⟩) rfl (by kernel_rfl) (by kernel_rfl) (by kernel_rfl) (fun _ _ _ h => h) rfl hX ?_; simp only [Act.put, qA, qB, qC]
   refine sx_skip (i := 7) (oi := ⟨some 28, _, _, _, _, _⟩) rfl (by kernel_rfl) (by kernel_rfl) (by kernel_rfl) (fun _ _ _ h => h) rfl hX ?_; simp only [Act.put, qA, qB, qC]
   refine sx_skip (i := 8) (oi := ⟨some 29, _, _, _, _, _⟩) rfl (by kernel_rfl) (by kernel_rfl) (by kernel_rfl) (fun _ _ _ h => h) rfl hX ?_; simp only [Act.put, qA, qB, qC]
   refine sx_skip (i := 9) (oi := ⟨some 30, _, _, _, _, _⟩) rfl (by kernel_rfl) (by kernel_rfl) (by kernel_rfl) (fun _ _ _ h => h) rfl hX ?_; simp only [Act.put, qA, qB, qC]
   refine sx_skip (i := 10) (oi := ⟨some 31, _, _, _, _, _⟩) rfl (by kernel_rfl) (by kernel_rfl) (by kernel_rfl) (fun _ _ _ h => h) rfl hX ?_; simp only [Act.put, qA, qB, qC]
   refine sx_take (i := 11) (oi := ⟨some 32, _, _, _, _, _⟩) (v := ?_) rfl (by kernel_rfl) (by kernel_rfl) (by kernel_rfl) (fun _ _ _ h => h) rfl hX ?_ ?_; rotate_left; (intro W hW; go_simp; try with_reducible rfl); simp only [Act.put, qA, qB, qC]
   refine wpAnyH_done (by kernel_rfl) ?_ _
   have Bb := qH (Ba.out.trans (hX.mono Ba.out.size))
   have KW := qH (Ka.out.below hX Ka.out.lt)
   clear hX
   obtain ⟨wb, hwb⟩ : ∃ wb, wb = wd := ⟨_, rfl⟩
   subst hwb
   have hk0 : (0 : Int) ≤ (k : Int) := by omega
   have HVR := qH (HV.out.keep Bb.out HD.out)
   have HRW := qH (HR.out.keep Bb.out HD.out)
   have PR := qH (HRW.out.take k (by rw [← HNL.out]; omega))
   have HLT := qH (show (l.take k).length = k by rw [List.length_take, ← HNL.out]; omega)
   have HL1 := qH (show (l.take k).length ≤ 1099511627776 by have h1 := HLT.out; have h2 := HN.out; omega)
   have HL2 := qH (show (l.take k).length + 1 ≤ 1099511627776 by have h1 := HLT.out; have h2 := HN.out; omega)
   have HL3 := qH (show (l.take k ++ [r]).length + (l.drop k).length ≤ 1099511627776 by rw [List.length_append, List.length_drop, ← HNL.out]; have h1 := HLT.out; have h2 := HN.out; simp only [List.length_cons, List.length_nil]; omega)
   by_cases hkc0 : k < cap
   focus
    have hkc : (k : Int) < (cap : Int) := by omega
    have hck : ¬ (cap = k) := by omega
    have SR := qH (show RowD D wb (.slice (some ⟨b, off + k * 6, none⟩) 0 (cap - k)) (l.drop k) by
     rw [HDN.out]
     exact ⟨_, _, fun _ => [], rfl, Nat.zero_le _, by have := HCM.out; omega, fun h => (by cases h), fun h => absurd rfl h, fun i t h => by simp at h⟩)
    clear hkc0
   rotate_left
   focus
    have hkc : (k : Int) = (cap : Int) := by omega
    obtain rfl : k = cap := by omega
    have SR := qH (show RowD D wb (.slice (some ⟨b, off, none⟩) 0 0) (l.drop k) by
     rw [HDN.out]
     exact ⟨_, _, fun _ => [], rfl, Nat.zero_le _, Nat.zero_le _, fun h => (by cases h), fun h => absurd rfl h, fun i t h => by simp at h⟩)
    clear hkc0
   all_goals
    go_wp2_with fail
    have HDW := qH (fun k (hk : D k) => Nat.lt_of_lt_of_le (HD.out k hk) Bb.out.size)
    refine sx_startB (B := wb.heap.size) (w0 := wb) (by kernel_rfl) (Below.refl _ _) (fun wd hwd hX => ?_)
    have SZ := qH hX.size
    clear hwd
    refine sx_take (i := 1) (oi := ⟨some 35, _, _, _, _, _⟩) (v := ?_) rfl (by kernel_rfl) (by kernel_rfl) (by kernel_rfl) (fun _ _ _ h => h) rfl hX ?_ ?_; rotate_left; (intro W hW; go_simp; try with_reducible rfl); simp only [Act.put, qA, qB, qC]
    refine sx_take (i := 2) (oi := ⟨some 36, _, _, _, _, _⟩) (v := ?_) rfl (by kernel_rfl) (by kernel_rfl) (by kernel_rfl) (fun _ _ _ h => h) rfl hX ?_ ?_; rotate_left; (intro W hW; go_simp; try with_reducible rfl); simp only [Act.put, qA, qB, qC]
    refine sx_take (i := 3) (oi := ⟨some 37, _, _, _, _, _⟩) (v := ?_) rfl (by kernel_rfl) (by kernel_rfl) (by kernel_rfl) (fun _ _ _ h => h) rfl hX ?_ ?_; rotate_left; (intro W hW; go_simp; try with_reducible rfl); simp only [Act.put, qA, qB, qC]
    refine sx_take (i := 5) (oi := ⟨some 39, _, _, _, _, _⟩) (v := .agg rs.toArray) rfl (by kernel_rfl) (by kernel_rfl) (by kernel_rfl) (fun _ _ _ h => h) rfl hX (ld_blk 46 _ rfl w.heap.size rfl 46 _ _ KW.out KW.out.lt Tryz.underlying46 rfl (size_rx HR6.out)) ?_; simp only [Act.put, qA, qB, qC]
    refine sx_take (i := 8) (oi := ⟨some 42, _, _, _, _, _⟩) (v := ?_) rfl (by kernel_rfl) (by kernel_rfl) (by kernel_rfl) (fun _ _ _ h => h) rfl hX ?_ ?_; rotate_left; (intro W hW; go_simp; try with_reducible rfl); simp only [Act.put, qA, qB, qC]
    refine sx_take (i := 9) (oi := ⟨some 43, _, _, _, _, _⟩) (v := ?_) rfl (by kernel_rfl) (by kernel_rfl) (by kernel_rfl) (fun _ _ _ h => h) rfl hX ?_ ?_; rotate_left; (intro W hW; go_simp; try with_reducible rfl); simp only [Act.put, qA, qB, qC]
    refine sx_take (i := 10) (oi := ⟨some 44, _, _, _, _, _⟩) (v := ?_) rfl (by kernel_rfl) (by kernel_rfl) (by kernel_rfl) (fun _ _ _ h => h) rfl hX ?_ ?_; rotate_left; (intro W hW; go_simp; try first | with_reducible rfl | (simp only [if_neg hck]; with_reducible rfl)); simp only [Act.put, qA, qB, qC]
    refine sx_two (i := 0) (j := 6) (oi := ⟨some 34, _, _, _, _, _⟩) (oj := ⟨some 40, _, _, _, _, _⟩) rfl rfl (by kernel_rfl) rfl rfl hX (fun K hK => ?_) (fun K hK => ?_)
    focus
     refine wp_bldT0 rfl ?_
     intro v34 w34 ho34 hb34
     have O34 := qH (ho34 D)
     refine hK _ _ (hb34.mono SZ.out) ?_
     clear hK K
     replace hX := hX.trans (hb34.mono SZ.out)
     have S34 := qH (Nat.le_trans SZ.out hb34.size)
     clear ho34
     have O := qH (O34.out.low SZ.out)
     refine sx_two (i := 4) (j := 6) (oi := ⟨some 38, _, _, _, _, _⟩) (oj := ⟨some 40, _, _, _, _, _⟩) rfl rfl (by kernel_rfl) rfl rfl hX (fun K hK => ?_) (fun K hK => ?_)
     focus
      refine wp_appTs (D := D) (D' := D) (base := wb.heap.size) (.tmp 34) (.tmp 37) rfl i0 hi0 HZ1.out hz1 hz2 v34 [] rfl O.out _ (l.take k) rfl (PR.out.keep hX HDW.out) (fun q hq => ⟨hq, Nat.lt_of_lt_of_le (HDW.out q hq) hX.size, fun he => by have h1 := O.out.ge q he.symm; have h2 := HDW.out q hq; omega⟩) (by have h1 := HL1.out; simpa using h1) hX.size ?_
      intro v38 w38 ho38 hg38
      have B38 := qH ((Below.refl wb.heap.size w34).grown hg38 hX.size (fun q hq => O.out.ge q hq))
      refine hK _ _ B38.out ?_
      clear hK K
      replace hX := hX.trans B38.out
      have O38 := qH (show OwnT D wb.heap.size w38 v38 (l.take k) by have h1 := ho38; rwa [List.nil_append] at h1)
      refine sx_actB (i := 6) (o := ⟨some 40, _, _, _, _, _⟩) rfl (by kernel_rfl) rfl hX (fun K hK => ?_)
      refine wp_bldT1 44 46 (.tmp 39) rfl i0 Tryz.underlying44 hi0 HZ1.out hz1 rs HR6.out rfl ?_
      intro w40 hk40 hb40 hs40
      refine hK _ _ (hb40.mono hX.size) ?_
      clear hK K
      replace hX := hX.trans (hb40.mono hX.size)
      have K40 := qH hk40
      have O41 := qH (O38.out.stay hb40)
      have K41 := qH hk40
      obtain ⟨WW, hWW⟩ : ∃ WW, WW = w40 := ⟨_, rfl⟩
      subst hWW
     rotate_left
     focus
      refine wp_bldT1 44 46 (.tmp 39) rfl i0 Tryz.underlying44 hi0 HZ1.out hz1 rs HR6.out rfl ?_
      intro w40 hk40 hb40 hs40
      refine hK _ _ (hb40.mono hX.size) ?_
      clear hK K
      replace hX := hX.trans (hb40.mono hX.size)
      have K40 := qH hk40
      have O := qH (O.out.stay hb40)
      have LT34 := qH (fun q (hq : v34.ownBlock = some q) => O34.out.lt q hq)
      refine sx_actB (i := 4) (o := ⟨some 38, _, _, _, _, _⟩) rfl (by kernel_rfl) rfl hX (fun K hK => ?_)
      refine wp_appTs (D := D) (D' := D) (base := wb.heap.size) (.tmp 34) (.tmp 37) rfl i0 hi0 HZ1.out hz1 hz2 v34 [] rfl O.out _ (l.take k) rfl (PR.out.keep hX HDW.out) (fun q hq => ⟨hq, Nat.lt_of_lt_of_le (HDW.out q hq) hX.size, fun he => by have h1 := O.out.ge q he.symm; have h2 := HDW.out q hq; omega⟩) (by have h1 := HL1.out; simpa using h1) hX.size ?_
      intro v38 w38 ho38 hg38
      have B38 := qH ((Below.refl wb.heap.size w40).grown hg38 hX.size (fun q hq => O.out.ge q hq))
      refine hK _ _ B38.out ?_
      clear hK K
      replace hX := hX.trans B38.out
      have O38 := qH (show OwnT D wb.heap.size w38 v38 (l.take k) by have h1 := ho38; rwa [List.nil_append] at h1)
      have K41 := qH ((hg38.block _ K40.out.lt (fun e => by have h1 := LT34.out _ e.symm; omega)).trans K40.out)
      have O41 := O38
      obtain ⟨WW, hWW⟩ : ∃ WW, WW = w38 := ⟨_, rfl⟩
      subst hWW
     rotate_left
    rotate_left
    rotate_left
    focus
     refine wp_bldT1 44 46 (.tmp 39) rfl i0 Tryz.underlying44 hi0 HZ1.out hz1 rs HR6.out rfl ?_
     intro w40 hk40 hb40 hs40
     refine hK _ _ (hb40.mono SZ.out) ?_
     clear hK K
     replace hX := hX.trans (hb40.mono SZ.out)
     have K40 := qH hk40
     have SZ' := qH (Nat.le_trans SZ.out hb40.size)
     refine sx_actB (i := 0) (o := ⟨some 34, _, _, _, _, _⟩) rfl (by kernel_rfl) rfl hX (fun K hK => ?_)
     refine wp_bldT0 rfl ?_
     intro v34 w34 ho34 hb34
     have O34 := qH (ho34 D)
     refine hK _ _ (hb34.mono SZ'.out) ?_
     clear hK K
     replace hX := hX.trans (hb34.mono SZ'.out)
     have S34 := qH (Nat.le_trans SZ'.out hb34.size)
     clear ho34
     have O := qH (O34.out.low SZ'.out)
     have GE34 := qH (fun q (hq : v34.ownBlock = some q) => O34.out.ge q hq)
     have K41' := qH (K40.out.below hb34 K40.out.lt)
     have LT40 := qH K40.out.lt
     refine sx_actB (i := 4) (o := ⟨some 38, _, _, _, _, _⟩) rfl (by kernel_rfl) rfl hX (fun K hK => ?_)
     refine wp_appTs (D := D) (D' := D) (base := wb.heap.size) (.tmp 34) (.tmp 37) rfl i0 hi0 HZ1.out hz1 hz2 v34 [] rfl O.out _ (l.take k) rfl (PR.out.keep hX HDW.out) (fun q hq => ⟨hq, Nat.lt_of_lt_of_le (HDW.out q hq) hX.size, fun he => by have h1 := O.out.ge q he.symm; have h2 := HDW.out q hq; omega⟩) (by have h1 := HL1.out; simpa using h1) hX.size ?_
     intro v38 w38 ho38 hg38
     have B38 := qH ((Below.refl wb.heap.size w34).grown hg38 hX.size (fun q hq => O.out.ge q hq))
     refine hK _ _ B38.out ?_
     clear hK K
     replace hX := hX.trans B38.out
     have O38 := qH (show OwnT D wb.heap.size w38 v38 (l.take k) by have h1 := ho38; rwa [List.nil_append] at h1)
     have K41 := qH ((hg38.block _ K41'.out.lt (fun e => by have h1 := GE34.out _ e.symm; have h2 := LT40.out; omega)).trans K41'.out)
     have O41 := O38
     obtain ⟨WW, hWW⟩ : ∃ WW, WW = w38 := ⟨_, rfl⟩
     subst hWW
    all_goals
     refine sx_actB (i := 7) (o := ⟨some 41, _, _, _, _, _⟩) rfl (by kernel_rfl) rfl hX (fun K hK => ?_)
     have V41 := qH (RxD.mono (HVR.out.keep hX HDW.out) (D' := fun k => D k ∧ k < WW.heap.size ∧ some k ≠ v38.ownBlock) fun k hk => ⟨hk, Nat.lt_of_lt_of_le (HDW.out k hk) hX.size, fun he => by have h1 := O41.out.ge k he.symm; have h2 := HDW.out k hk; omega⟩)
     refine wp_appT (D := D) (base := wb.heap.size) (.tmp 38) (.tmp 40) rfl i0 hi0 HZ1.out hz1 hz2 v38 _ rfl O41.out _ 1 46 rs r rfl K41.out V41.out HL2.out hX.size ?_
     intro v42 w42 ho42 hg42
     have B42 := qH ((Below.refl wb.heap.size WW).grown hg42 hX.size (fun q hq => O41.out.ge q hq))
     refine hK _ _ B42.out ?_
     clear hK K
     replace hX := hX.trans B42.out
     have O42 := qH ho42
     clear ho42 hg42
     refine sx_actB (i := 11) (o := ⟨some 45, _, _, _, _, _⟩) rfl (by kernel_rfl) rfl hX (fun K hK => ?_)
     refine wp_appTs (D := D) (D' := D) (base := wb.heap.size) (.tmp 41) (.tmp 44) rfl i0 hi0 HZ1.out hz1 hz2 v42 _ rfl O42.out _ (l.drop k) rfl (SR.out.keep hX HDW.out) (fun q hq => ⟨hq, Nat.lt_of_lt_of_le (HDW.out q hq) hX.size, fun he => by have h1 := O42.out.ge q he.symm; have h2 := HDW.out q hq; omega⟩) HL3.out hX.size ?_
     intro v45 w45 ho45 hg45
     have B45 := qH ((Below.refl wb.heap.size w42).grown hg45 hX.size (fun q hq => O42.out.ge q hq))
     refine hK _ _ B45.out ?_
     clear hK K
     replace hX := hX.trans B45.out
     have O45 := qH ho45
     clear ho45 hg45
     refine sx_take (i := 12) (oi := ⟨some 4, _, _, _, _, _⟩) (v := ?_) rfl (by kernel_rfl) (by kernel_rfl) (by kernel_rfl) (fun _ _ _ h => h) rfl hX ?_ ?_; rotate_left; (intro W hW; go_simp; try with_reducible rfl); simp only [Act.put, qA, qB, qC]
     refine wpAnyH_done (by kernel_rfl) ?_ _
     have B9 := qH (Bb.out.trans (hX.mono Bb.out.size))
     go_wp2_with fail
     go_ret
     refine ⟨_, rfl, ?_, B9.out⟩
     rw [HINS.out]
     exact O45.out.rowD.mono fun k hk => by have h1 := Bb.out.size; rcases hk.1 with h | h; exact .inl h; exact .inr ⟨Nat.le_trans h1 h, hk.2⟩
end Go.Proofs.YteadghoojeehlaaGreatDoor
