/-
  Texts of this proof, put together: RxM. No statement is proved here.
-/
import Derived.Test.YtopnpdobcagcgaaGreatMV
import Derived.Test.YtopnpdobcagcgaaGreatME
namespace Go.Proofs.YtopnpdobcagcgaaGreat
open Go.RowKit
set_option linter.unusedSimpArgs false
set_option linter.unusedVariables false
abbrev eqV : Value := .func (.func 92) #[] #[]
set_option maxHeartbeats 8000000 in
set_option maxRecDepth 100000 in
theorem compactT_any {D : Nat → Prop} (base : Nat) (v : Value) (l : List T) (w : World) (h : OwnT D base w v l) (hl : l.length ≤ 1099511627776) (hM : ∀ t ∈ l, t.nodes ≤ 1099511627776) :
  Calls Tryz.prog 91 #[v, eqV] w fun e w' => ∃ v', e = .returned v' ∧
   RowD (fun k => (D k ∨ base ≤ k) ∧ k < w'.heap.size) w' v' (ddU l l.length) ∧ w.grownBy w' v.ownBlock := by
 have HO := qH h
 by_cases h2 : l.length < 2
 ·have h2i : (l.length : Int) < 2 := by omega
  have HE := qH (show ddU l l.length = l by
   have := ddU_all l l.length (Nat.le_refl _) (fun j h0 hj => by omega)
   rw [this, List.take_length])
  obtain ⟨A, cap, rfl⟩ := h.slice
  clear h h2
  go_enter Tryz.func91, Tryz.ntmps91
  go_wp2_with fail
  go_ret
  exact ⟨_, rfl, by rw [HE.out]; exact HO.out.rowD, World.grownBy.refl _ _⟩
 ·have h2i : ¬ (l.length : Int) < 2 := by omega
  obtain ⟨g, cap, f, rfl, m1, m2, m3, m4, m5, m6, m7⟩ := h.mid (by omega)
  have HB0 := qH m1
  have HG := qH m2
  have HCL := qH m3
  have HCM := qH m4
  have HT := qH m5
  have HR := qH m6
  have HX := qH m7
  have HL := qH hl
  have HM := qH hM
  have HN2 := qH h2
  obtain ⟨n, hn⟩ : ∃ n, n = l.length := ⟨_, rfl⟩
  have HN := qH hn
  rw [← hn] at h2i HCL HT HR HL HN2 ⊢
  have hcl : (n : Int) ≤ (cap : Int) := by have := HCL.out; omega
  clear h m1 m2 m3 m4 m5 m6 m7 hl hM h2 hn HO
  go_enter Tryz.func91, Tryz.ntmps91
  go_wp2_with fail
  go_loopw [5] (fun i wl => ∃ k : Nat, 1 ≤ k ∧ k ≤ n ∧ i = .int .i64 (k : Int) ∧ (∀ j, 0 < j → j < k → cmpT (nthT l j) (nthT l (j - 1)) ≠ 0) ∧ Below w.heap.size w wl) (fun i _ => n - (intOf i).toNat)
  case atStart => exact ⟨1, by omega, by have := HN2.out; omega, by simp, fun j h0 hj => by omega, Below.refl _ _⟩
  case round =>
   obtain ⟨k, hk1, hk, rfl, hne, hb⟩ := hrel
   have HNE := qH hne
   have HB := qH hb
   clear hne hb
   by_cases hkn : k < n
   ·have j1 : (k : Int) < (n : Int) := Int.ofNat_lt.2 hkn
    obtain ⟨p, hp⟩ : ∃ p, k = p + 1 := ⟨k - 1, by omega⟩
    have HP := qH hp
    have p1 : (p : Int) < (n : Int) := by omega
    have hk62 : k ≤ 4611686018427387904 := by have := HL.out; omega
    have e1 : wrap64 ((k : Int) - 1) = (p : Int) := by rw [hp]; simp only [Int.natCast_add, Int.cast_ofNat_Int, Int.add_sub_cancel]; exact IntWalk.wrap64_in _ (by omega)
    have e2 : IntKind.i64.wrap ((k : Int) - 1) = (p : Int) := by rw [hp]; simp only [Int.natCast_add, Int.cast_ofNat_Int, Int.add_sub_cancel]; exact IntWalk.i64_in _ (by omega)
    have e3 := wrap_one k hk62
    have e4 := wrap_one' k hk62
    have HXK := qH ((HX.out k _ (nthT_some (by rw [← HN.out]; exact hkn))).keep HB.out fun q hq => hq.2.1)
    have HXP := qH ((HX.out p _ (nthT_some (by rw [← HN.out]; omega))).keep HB.out fun q hq => hq.2.1)
    have HRK := qH (range_below (HR.out k hkn) HB.out HG.out)
    have HRP := qH (range_below (HR.out p (by omega)) HB.out HG.out)
    have HGS := qH (Nat.lt_of_lt_of_le HG.out HB.out.size)
    have HMK := qH (HM.out (nthT l k) (List.mem_of_getElem? (nthT_some (by rw [← HN.out]; exact hkn))))
    obtain ⟨wo, hwo⟩ : ∃ wo : World, wo = wr := ⟨_, rfl⟩
    subst hwo
    clear hp hk62
    go_wp2_with fail
    refine sx_startB (B := wo.heap.size) (w0 := wo) (by kernel_rfl) (Below.refl _ _) (fun wd hwd hX => ?_)
    have SZ := qH hX.size
    clear hwd
    refine sx_take (i := 0) (oi := ⟨some 18, _, _, _, _, _⟩) (v := ?_) rfl (by kernel_rfl) (by kernel_rfl) (by kernel_rfl) (fun _ _ _ h => h) rfl hX ?_ ?_; rotate_left; (intro W hW; go_simp; try with_reducible rfl); simp only [Act.put, qA, qB, qC]
    refine sx_take (i := 1) (oi := ⟨some 19, _, _, _, _, _⟩) (v := ?_) rfl (by kernel_rfl) (by kernel_rfl) (by kernel_rfl) (fun _ _ _ h => h) rfl hX ?_ ?_; rotate_left; (intro W hW; go_simp; try with_reducible rfl); simp only [Act.put, qA, qB, qC]
    refine sx_take (i := 2) (oi := ⟨some 20, _, _, _, _, _⟩) (v := ?_) rfl (by kernel_rfl) (by kernel_rfl) (by kernel_rfl) (fun _ _ _ h => h) rfl hX ?_ ?_; rotate_left; (intro W hW; go_simp; try with_reducible rfl); simp only [Act.put, qA, qB, qC]
    refine sx_take (i := 3) (oi := ⟨some 21, _, _, _, _, _⟩) (v := ?_) rfl (by kernel_rfl) (by kernel_rfl) (by kernel_rfl) (fun _ _ _ h => h) rfl hX ?_ ?_; rotate_left; (intro W hW; go_simp; try with_reducible rfl); simp only [Act.put, qA, qB, qC]
    refine sx_take (i := 4) (oi := ⟨some 22, _, _, _, _, _⟩) (v := .agg (f k).toArray) rfl (by kernel_rfl) (by kernel_rfl) (by kernel_rfl) (fun _ _ _ h => h) rfl hX (ld_mid 29 _ rfl g (k * 6) rfl _ _ HRK.out HGS.out Tryz.underlying29 rfl (size_rx HXK.out.length)) ?_; simp only [Act.put, qA, qB, qC]
    refine sx_take (i := 5) (oi := ⟨some 23, _, _, _, _, _⟩) (v := ?_) rfl (by kernel_rfl) (by kernel_rfl) (by kernel_rfl) (fun _ _ _ h => h) rfl hX ?_ ?_; rotate_left; (intro W hW; go_simp; try with_reducible rfl); simp only [Act.put, qA, qB, qC]
    refine sx_take (i := 6) (oi := ⟨some 24, _, _, _, _, _⟩) (v := ?_) rfl (by kernel_rfl) (by kernel_rfl) (by kernel_rfl) (fun _ _ _ h => h) rfl hX ?_ ?_; rotate_left; (intro W hW; go_simp; try with_reducible rfl); simp only [Act.put, qA, qB, qC]
    refine sx_take (i := 7) (oi := ⟨some 25, _, _, _, _, _⟩) (v := ?_) rfl (by kernel_rfl) (by kernel_rfl) (by kernel_rfl) (fun _ _ _ h => h) rfl hX ?_ ?_; rotate_left; (intro W hW; go_simp; try with_reducible rfl); simp only [Act.put, qA, qB, qC]
    refine sx_take (i := 8) (oi := ⟨some 26, _, _, _, _, _⟩) (v := ?_) rfl (by kernel_rfl) (by kernel_rfl) (by kernel_rfl) (fun _ _ _ h => h) rfl hX ?_ ?_; rotate_left; (intro W hW; go_simp; try with_reducible rfl); simp only [Act.put, qA, qB, qC]
    refine sx_take (i := 9) (oi := ⟨some 27, _, _, _, _, _⟩) (v := .agg (f p).toArray) rfl (by kernel_rfl) (by kernel_rfl) (by kernel_rfl) (fun _ _ _ h => h) rfl hX (ld_mid 29 _ rfl g (p * 6) rfl _ _ HRP.out HGS.out Tryz.underlying29 rfl (size_rx HXP.out.length)) ?_; simp only [Act.put, qA, qB, qC]
    refine sx_actB (i := 10) (o := ⟨some 28, _, _, _, _, _⟩) rfl (by kernel_rfl) rfl hX (fun K hK => ?_)
    go_wp2_with fail
    refine (rxEqual_gr (nthT l k) (nthT l p) HMK.out (f k) (f p) wd (RxD.mono (HXK.out.keep hX fun q hq => Nat.lt_of_lt_of_le hq.2.1 HB.out.size) fun q hq => Nat.lt_of_lt_of_le hq.2.1 (Nat.le_trans HB.out.size SZ.out)) (RxD.mono (HXP.out.keep hX fun q hq => Nat.lt_of_lt_of_le hq.2.1 HB.out.size) fun q hq => Nat.lt_of_lt_of_le hq.2.1 (Nat.le_trans HB.out.size SZ.out))).mono ?_
    rintro e w6 ⟨rfl, hg⟩
    have hb := hg.below
    obtain ⟨x, hx⟩ : ∃ x, (cmpT (nthT l k) (nthT l p) == 0) = x := ⟨_, rfl⟩
    rw [hx]
    have HXX := qH hx
    refine hK _ _ (hb.mono SZ.out) ?_
    clear hK K hx hg
    replace hX := hX.trans (hb.mono SZ.out)
    clear hb
    refine wpAnyH_done (by kernel_rfl) ?_ _
    have B6 := qH (HB.out.trans (hX.mono HB.out.size))
    clear hX SZ
    cases x with
    | false =>
     have HC := qH (show cmpT (nthT l k) (nthT l p) ≠ 0 by have := HXX.out; simpa using this)
     go_wp2_with fail
     refine ⟨⟨k + 1, by omega, by omega, by congr 1, fun j h0 hj => ?_, B6.out⟩, by simp [intOf] <;> omega⟩
     by_cases hjk : j < k
     ·exact HNE.out j h0 hjk
     ·obtain rfl : j = k := by omega
      rw [show j - 1 = p by have := HP.out; omega]
      exact HC.out
    | true =>
     have HC := qH (show cmpT (nthT l k) (nthT l p) = 0 by have := HXX.out; simpa using this)
     have hkc : (k : Int) ≤ (cap : Int) := by omega
     have hk0 : (0 : Int) ≤ (k : Int) := by omega
     obtain ⟨m, hm⟩ : ∃ m, m = n - k := ⟨_, rfl⟩
     have HMN := qH (show n = k + m by omega)
     have HM1 := qH (show 1 ≤ m by omega)
     obtain ⟨c2, hc2⟩ : ∃ c2, c2 = cap - k := ⟨_, rfl⟩
     have HC2 := qH (show cap = k + c2 by omega)
     have HD0 := qH (ddU_all l k (by rw [← HN.out]; omega) HNE.out)
     have HD1 := qH (show ddU l (k + 1) = l.take k by
      rw [ddU_next, HD0.out, if_neg (by rw [show k - 1 = p by have := HP.out; omega]; rintro (h | h); omega; exact h HC.out), List.append_nil])
     have HLK := qH (show (l.take k).length = k by rw [List.length_take, ← HN.out]; omega)
     go_wp2_with fail
     rw [← hm, ← hc2]
     clear hm hc2 hkc hk0 hkn hk j1 p1 e1 e2 e3 e4
     have HK1 := qH hk1
     clear hk1
     go_loopw [5, 7] (fun kk qq wl => ∃ (a q : Nat) (ys : Nat → List Value), kk = .int .i64 (a : Int) ∧ qq = .int .i64 (q : Int) ∧ 1 ≤ q ∧ q ≤ m ∧ a = (ddU l (k + q)).length ∧ a + 1 ≤ k + q ∧ (∀ j, j < a → wl.rangeAt g (j * 6) (ys j)) ∧
      (∀ j t, (ddU l (k + q))[j]? = some t → RxD (fun k => D k ∧ k < w.heap.size ∧ k ≠ g) w (ys j) t) ∧ (∀ j, k + q ≤ j + 1 → j < n → wl.rangeAt g (j * 6) (f j)) ∧ ThereT wl g n ∧ w.grownBy wl (some g)) (fun _ qq _ => m - (intOf qq).toNat)
     case atStart =>
      refine ⟨k, 1, f, by simp, by simp, by omega, HM1.out, by rw [HD1.out, HLK.out], by omega, fun j hj => range_below (HR.out j (by have := HMN.out; omega)) B6.out HG.out, fun j t ht => ?_, fun j _ hj => range_below (HR.out j hj) B6.out HG.out, fun j hj => there_below (HT.out j hj) B6.out HG.out, ⟨B6.out.os, B6.out.tape, B6.out.output, B6.out.size, fun q hq _ => B6.out.block q hq⟩⟩
      rw [HD1.out] at ht
      have hj : j < k := by have := (List.getElem?_eq_some_iff.1 ht).1; rw [HLK.out] at this; exact this
      rw [List.getElem?_take, if_pos hj] at ht
      exact HX.out j t ht
     case round =>
      obtain ⟨a, q, ys, rfl, rfl, hq1, hqm, ha, hai, hys, hyt, hfr, hth, hgr⟩ := hrel
      have HAL := qH ha
      have HYS := qH hys
      have HYT := qH hyt
      have HFR := qH hfr
      have HTH := qH hth
      have HGR := qH hgr
      have HSW := qH hgr.size
      have HAI := qH hai
      have hn62 : n ≤ 4611686018427387904 := by have := HL.out; omega
      have HNX := qH (ddU_next l (k + q))
      clear ha hys hyt hfr hth hgr hai
      by_cases hqm' : q < m
      ·have j1 : (q : Int) < (m : Int) := Int.ofNat_lt.2 hqm'
       obtain ⟨r, hr⟩ : ∃ r, q = r + 1 := ⟨q - 1, by omega⟩
       have HRQ := qH hr
       have r1 : (r : Int) < (m : Int) := by omega
       have a1 : (a : Int) < (n : Int) := by have := HAI.out; have := HMN.out; omega
       have hq62 : q ≤ 4611686018427387904 := by have := HMN.out; omega
       have ha62 : a ≤ 4611686018427387904 := by have := HAI.out; have := HMN.out; omega
       have e1 : wrap64 ((q : Int) - 1) = (r : Int) := by rw [hr]; simp only [Int.natCast_add, Int.cast_ofNat_Int, Int.add_sub_cancel]; exact IntWalk.wrap64_in _ (by omega)
       have e2 : IntKind.i64.wrap ((q : Int) - 1) = (r : Int) := by rw [hr]; simp only [Int.natCast_add, Int.cast_ofNat_Int, Int.add_sub_cancel]; exact IntWalk.i64_in _ (by omega)
       have e3 := wrap_one q hq62
       have e4 := wrap_one' q hq62
       have e5 := wrap_one a ha62
       have e6 := wrap_one' a ha62
       have HQN := qH (show k + q < n by have := HMN.out; omega)
       have HRK := qH (show wr.rangeAt g (k * 6 + q * 6) (f (k + q)) by
        have := HFR.out (k + q) (by omega) HQN.out
        rwa [Nat.add_mul] at this)
       have HRP := qH (show wr.rangeAt g (k * 6 + r * 6) (f (k + r)) by
        have := HFR.out (k + r) (by omega) (by have := HQN.out; omega)
        rwa [Nat.add_mul] at this)
       have HGS := qH (Nat.lt_of_lt_of_le HG.out HSW.out)
       have key := fun (j : Nat) (hj : j < n) => (HX.out j _ (nthT_some (by rw [← HN.out]; exact hj))).stay (w' := wr) fun q hq => HGR.out.block q hq.2.1 (fun e => hq.2.2 (Option.some.inj e))
       have HXK := qH (key (k + q) HQN.out)
       have HXP := qH (key (k + r) (by have := HQN.out; omega))
       have HMK := qH (HM.out (nthT l (k + q)) (List.mem_of_getElem? (nthT_some (by rw [← HN.out]; exact HQN.out))))
       have HQ1 := qH hq1
       have I1 := qH (show 1 ≤ q + 1 from Nat.le_add_left 1 q)
       have I2 := qH (show q + 1 ≤ m from hqm')
       have I3 := qH (show a + 1 ≤ k + (q + 1) from Nat.le_succ_of_le HAI.out)
       have I4 := qH (sub_next hqm')
       have I5 := qH (pred_add (k := k) hr)
       have I6 := qH (below_n HAI.out HQN.out)
       have I7 := qH (show a + 1 + 1 ≤ k + (q + 1) from Nat.succ_le_succ HAI.out)
       have I8 := qH (sum_ne (q := q) HK1.out)
       clear hr hq62 ha62 key hn62 hq1 hqm hqm'
       go_wp2_with fail
       refine sx_startB (B := wr.heap.size) (w0 := wr) (by kernel_rfl) (Below.refl _ _) (fun wd hwd hX => ?_)
       have SZ := qH hX.size
       clear hwd
       refine sx_take (i := 0) (oi := ⟨some 38, _, _, _, _, _⟩) (v := ?_) rfl (by kernel_rfl) (by kernel_rfl) (by kernel_rfl) (fun _ _ _ h => h) rfl hX ?_ ?_; rotate_left; (intro W hW; go_simp; try with_reducible rfl); simp only [Act.put, qA, qB, qC]
       refine sx_take (i := 1) (oi := ⟨some 39, _, _, _, _, _⟩) (v := ?_) rfl (by kernel_rfl) (by kernel_rfl) (by kernel_rfl) (fun _ _ _ h => h) rfl hX ?_ ?_; rotate_left; (intro W hW; go_simp; try with_reducible rfl); simp only [Act.put, qA, qB, qC]
       refine sx_take (i := 2) (oi := ⟨some 40, _, _, _, _, _⟩) (v := ?_) rfl (by kernel_rfl) (by kernel_rfl) (by kernel_rfl) (fun _ _ _ h => h) rfl hX ?_ ?_; rotate_left; (intro W hW; go_simp; try with_reducible rfl); simp only [Act.put, qA, qB, qC]
       refine sx_take (i := 3) (oi := ⟨some 41, _, _, _, _, _⟩) (v := ?_) rfl (by kernel_rfl) (by kernel_rfl) (by kernel_rfl) (fun _ _ _ h => h) rfl hX ?_ ?_; rotate_left; (intro W hW; go_simp; try with_reducible rfl); simp only [Act.put, qA, qB, qC]
       refine sx_take (i := 4) (oi := ⟨some 42, _, _, _, _, _⟩) (v := .agg (f (k + q)).toArray) rfl (by kernel_rfl) (by kernel_rfl) (by kernel_rfl) (fun _ _ _ h => h) rfl hX (ld_mid 29 _ rfl g (k * 6 + q * 6) rfl _ _ HRK.out HGS.out Tryz.underlying29 rfl (size_rx HXK.out.length)) ?_; simp only [Act.put, qA, qB, qC]
       refine sx_take (i := 5) (oi := ⟨some 43, _, _, _, _, _⟩) (v := ?_) rfl (by kernel_rfl) (by kernel_rfl) (by kernel_rfl) (fun _ _ _ h => h) rfl hX ?_ ?_; rotate_left; (intro W hW; go_simp; try with_reducible rfl); simp only [Act.put, qA, qB, qC]
       refine sx_take (i := 6) (oi := ⟨some 44, _, _, _, _, _⟩) (v := ?_) rfl (by kernel_rfl) (by kernel_rfl) (by kernel_rfl) (fun _ _ _ h => h) rfl hX ?_ ?_; rotate_left; (intro W hW; go_simp; try with_reducible rfl); simp only [Act.put, qA, qB, qC]
       refine sx_take (i := 7) (oi := ⟨some 45, _, _, _, _, _⟩) (v := ?_) rfl (by kernel_rfl) (by kernel_rfl) (by kernel_rfl) (fun _ _ _ h => h) rfl hX ?_ ?_; rotate_left; (intro W hW; go_simp; try with_reducible rfl); simp only [Act.put, qA, qB, qC]
       refine sx_take (i := 8) (oi := ⟨some 46, _, _, _, _, _⟩) (v := ?_) rfl (by kernel_rfl) (by kernel_rfl) (by kernel_rfl) (fun _ _ _ h => h) rfl hX ?_ ?_; rotate_left; (intro W hW; go_simp; try with_reducible rfl); simp only [Act.put, qA, qB, qC]
       refine sx_take (i := 9) (oi := ⟨some 47, _, _, _, _, _⟩) (v := .agg (f (k + r)).toArray) rfl (by kernel_rfl) (by kernel_rfl) (by kernel_rfl) (fun _ _ _ h => h) rfl hX (ld_mid 29 _ rfl g (k * 6 + r * 6) rfl _ _ HRP.out HGS.out Tryz.underlying29 rfl (size_rx HXP.out.length)) ?_; simp only [Act.put, qA, qB, qC]
       refine sx_actB (i := 10) (o := ⟨some 48, _, _, _, _, _⟩) rfl (by kernel_rfl) rfl hX (fun K hK => ?_)
       go_wp2_with fail
       refine (rxEqual_gr (nthT l (k + q)) (nthT l (k + r)) HMK.out (f (k + q)) (f (k + r)) wd (RxD.mono (HXK.out.keep hX fun q hq => Nat.lt_of_lt_of_le hq.2.1 HSW.out) fun q hq => Nat.lt_of_lt_of_le hq.2.1 (Nat.le_trans HSW.out SZ.out)) (RxD.mono (HXP.out.keep hX fun q hq => Nat.lt_of_lt_of_le hq.2.1 HSW.out) fun q hq => Nat.lt_of_lt_of_le hq.2.1 (Nat.le_trans HSW.out SZ.out))).mono ?_
       rintro e w7 ⟨rfl, hg⟩
       have hb := hg.below
       obtain ⟨x, hx⟩ : ∃ x, (cmpT (nthT l (k + q)) (nthT l (k + r)) == 0) = x := ⟨_, rfl⟩
       rw [hx]
       have HXY := qH hx
       refine hK _ _ (hb.mono SZ.out) ?_
       clear hK K hx hg
       replace hX := hX.trans (hb.mono SZ.out)
       clear hb
       refine sx_take (i := 11) (oi := ⟨some 49, _, _, _, _, _⟩) (v := ?_) rfl (by kernel_rfl) (by kernel_rfl) (by kernel_rfl) (fun _ _ _ h => h) rfl hX ?_ ?_; rotate_left; (intro W hW; go_simp; try with_reducible rfl); simp only [Act.put, qA, qB, qC]
       refine wpAnyH_done (by kernel_rfl) ?_ _
       have B7 := qH hX
       have G7 := qH (grown_below HGR.out hX (Nat.le_refl _))
       have R7 := qH (range_below HRK.out hX HGS.out)
       have T7 := qH (show ThereT w7 g n from fun j hj => there_below (HTH.out j hj) hX HGS.out)
       clear hX SZ
       cases x with
       | true =>
        have HE := qH (show ddU l (k + q + 1) = ddU l (k + q) by
         have h1 := HNX.out
         have h2 := HXY.out
         rw [I5.out, if_neg (by rintro (h | h); exact I8.out h; exact h (by simpa using h2)), List.append_nil] at h1
         exact h1)
        go_wp2_with fail
        refine ⟨⟨a, q + 1, ys, rfl, by congr 1, I1.out, I2.out, by rw [← Nat.add_assoc, HE.out]; exact HAL.out, I3.out, fun j hj => range_below (HYS.out j hj) B7.out HGS.out, fun j t ht => ?_, fun j hj hjn => range_below (HFR.out j (back_one hj) hjn) B7.out HGS.out, T7.out, G7.out⟩, by simpa [intOf] using I4.out⟩
        rw [← Nat.add_assoc, HE.out] at ht
        exact HYT.out j t ht
       | false =>
        have HE := qH (show ddU l (k + q + 1) = ddU l (k + q) ++ [nthT l (k + q)] by
         have h1 := HNX.out
         have h2 := HXY.out
         rw [I5.out, if_pos (.inr (by simpa using h2))] at h1
         exact h1)
        have HF6 := qH HXK.out.length
        have HF1 := qH (show (f (k + q)).toArray.all (·.oneCell') = true from all_oneCell_toArray HXK.out.one)
        have TA := qH (show w7.there g (a * 6) (f (k + q)).toArray.size by
         have := T7.out a I6.out
         rw [List.size_toArray, HF6.out]
         exact this)
        go_wp2_with (first
         | ((with_reducible refine atDst 55 ?_); refine wpList_load_mid rfl 29 _ rfl g (k * 6 + q * 6) rfl (f (k + q)) _ R7.out Tryz.underlying29 rfl (size_rx HF6.out) ?_; (try simp only [Act.put, qA, qB, qC]))
         | ((with_reducible refine atStore 29 56 55 ?_); refine wpList_store_mid rfl 29 _ _ rfl g (a * 6) (f (k + q)).toArray rfl rfl TA.out (by rw [List.size_toArray]; exact size_rx HF6.out) HF1.out ?_; (generalize hw8 : World.setCells _ _ _ _ = w8); have W8 := qH hw8.symm; clear hw8; (try simp only [Act.put, qA, qB, qC])))
        have W8' := qH (show w8 = w7.setCells g (a * 6) (f (k + q)) from W8.out)
        have apart : ∀ (j : Nat) (cs : List Value), cs.length = 6 → j ≠ a → w7.rangeAt g (j * 6) cs → w8.rangeAt g (j * 6) cs := fun j cs hcs hja h => by
         rw [W8'.out]
         exact World.rangeAt_setCells_apart h g (a * 6) _ (.inr (six_apart hcs HF6.out hja))
        refine ⟨⟨a + 1, q + 1, fun j => if j = a then f (k + q) else ys j, by congr 1, by congr 1, I1.out, I2.out, by rw [← Nat.add_assoc, HE.out, List.length_append, ← HAL.out]; rfl, I7.out, fun j hj => ?_, fun j t ht => ?_, fun j hj hjn => ?_, ?_, ?_⟩, by simpa [intOf] using I4.out⟩
        ·dsimp only
         by_cases hja : j = a
         ·subst hja
          rw [if_pos rfl, W8'.out]
          exact World.rangeAt_setCells_same _ _ _ _ (by have h := TA.out; rwa [List.size_toArray] at h)
         ·rw [if_neg hja]
          have hj2 : j < (ddU l (k + q)).length := by rw [← HAL.out]; exact lt_of_ne hj hja
          exact apart j _ (HYT.out j _ (List.getElem?_eq_getElem hj2)).length hja (range_below (HYS.out j (lt_of_ne hj hja)) B7.out HGS.out)
        ·dsimp only
         rw [← Nat.add_assoc, HE.out] at ht
         by_cases hja : j = a
         ·subst hja
          rw [if_pos rfl]
          rw [List.getElem?_append_right (by rw [← HAL.out]; exact Nat.le_refl _), ← HAL.out, Nat.sub_self] at ht
          obtain rfl : nthT l (k + q) = t := by simpa using ht
          exact HX.out (k + q) _ (nthT_some (by rw [← HN.out]; exact HQN.out))
         ·rw [if_neg hja]
          rw [List.getElem?_append_left (last_one HAL.out ht hja)] at ht
          exact HYT.out j t ht
        ·exact apart j _ (HX.out j _ (nthT_some (by rw [← HN.out]; exact hjn))).length (not_at hj HAI.out) (range_below (HFR.out j (back_one hj) hjn) B7.out HGS.out)
        ·intro j hj
         rw [W8'.out]
         exact World.there_setCells (T7.out j hj) _ _ _
        ·rw [W8'.out]
         exact grown_setCells G7.out _ _
      ·obtain rfl : q = m := by omega
       have j1 : ¬ ((q : Int) < (q : Int)) := by omega
       have hac : (a : Int) < (cap : Int) := by have := HAI.out; have := HMN.out; omega
       have han : (a : Int) < (n : Int) := by have := HAI.out; have := HMN.out; omega
       have ha0 : (0 : Int) ≤ (a : Int) := by omega
       have HS0 := qH (show 0 < n - a by have := HAI.out; have := HMN.out; omega)
       have HTA := qH (HTH.out.all (a * 6) ((n - a) * 6) (by have := HAI.out; have := HMN.out; omega))
       clear hn62
       have hnn : (n - a : Nat) = n - a := rfl
       obtain ⟨s0, hs0⟩ : ∃ s0, s0 = n - a := ⟨_, rfl⟩
       obtain ⟨c3, hc3⟩ : ∃ c3, c3 = cap - a := ⟨_, rfl⟩
       have HFN := qH (show k + q = n from HMN.out.symm)
       have HAC := qH (show a ≤ cap by omega)
       clear hnn
       go_wp2_with ((with_reducible refine atClear 61 ?_); refine wpList_clearT rfl (.tmp 61) rfl g (a * 6) (n - a) (cap - a) rfl HS0.out HTA.out ?_; intro zs hzs; (generalize hw8 : World.setCells _ _ _ _ = w8); have W8 := qH hw8.symm; have HZS := qH hzs; clear hw8 hzs; (try simp only [Act.put, qA, qB, qC]))
       go_ret
       have G8 := qH (show w.grownBy w8 (some g) by rw [W8.out]; exact grown_setCells HGR.out _ _)
       have hal := HAL.out
       rw [HFN.out] at hal
       have hyt := HYT.out
       rw [HFN.out] at hyt
       refine ⟨_, rfl, ⟨some ⟨g, 0, none⟩, cap, ys, by rw [← hal]; rfl, by rw [← hal]; exact HAC.out, HCM.out, (fun h => by cases h), fun _ => ⟨g, 0, rfl, ⟨.inr HB0.out, Nat.lt_of_lt_of_le HG.out G8.out.size⟩, fun i hi => ?_⟩, fun i t ht => ?_⟩, G8.out⟩
       ·rw [Nat.zero_add, W8.out]
        rw [← hal] at hi
        have h6 := (hyt i _ (List.getElem?_eq_getElem (by rw [← hal]; exact hi))).length
        exact World.rangeAt_setCells_apart (HYS.out i hi) g (a * 6) _ (.inr (.inl (six_below h6 hi)))
       ·exact ((hyt i t ht).stay fun q hq => G8.out.block q hq.2.1 (fun e => hq.2.2 (Option.some.inj e))).mono fun q hq => ⟨.inl hq.1, Nat.lt_of_lt_of_le hq.2.1 G8.out.size⟩
   ·obtain rfl : k = n := by omega
    have j1 : ¬ ((k : Int) < (k : Int)) := by omega
    have HE := qH (show ddU l k = l by
     have := ddU_all l k (by rw [← HN.out]; exact Nat.le_refl _) HNE.out
     rw [this, HN.out, List.take_length])
    have HLT := qH HG.out
    go_wp2_with fail
    go_ret
    refine ⟨_, rfl, ?_, ⟨HB.out.os, HB.out.tape, HB.out.output, HB.out.size, fun q hq _ => HB.out.block q hq⟩⟩
    rw [HE.out]
    refine ⟨some ⟨g, 0, none⟩, cap, f, (by rw [HN.out]; rfl), by rw [← HN.out]; exact HCL.out, HCM.out, (fun h => by cases h), fun _ => ⟨g, 0, rfl, ⟨.inr HB0.out, Nat.lt_of_lt_of_le HG.out HB.out.size⟩, fun i hi => ?_⟩, fun i t ht => ?_⟩
    ·rw [Nat.zero_add]
     exact range_below (HR.out i (by rw [HN.out]; exact hi)) HB.out HG.out
    ·exact ((HX.out i t ht).keep HB.out fun q hq => hq.2.1).mono fun q hq => ⟨.inl hq.1, Nat.lt_of_lt_of_le hq.2.1 HB.out.size⟩
end Go.Proofs.YtopnpdobcagcgaaGreat
