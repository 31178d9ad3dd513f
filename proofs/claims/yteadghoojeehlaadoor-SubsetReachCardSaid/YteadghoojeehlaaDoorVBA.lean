/-
  Texts of this proof, put together: ScC. No statement is proved here.
-/
import Derived.Test.YteadghoojeehlaaDoorVZ
import Derived.Test.YteadghoojeehlaaDoorVM
namespace Go.Proofs.YteadghoojeehlaaDoor
open Go.RowKit
set_option linter.unusedSimpArgs false
set_option linter.unusedVariables false
def runD (D : Dm) (w : List UInt8) : Bool := D.ends.getD (toD D 0 w) false
theorem runD_get {D : Dm} (h : MayD D) (hl : D.cl.length = 256) (w : List UInt8) : D.ends[toD D 0 w]? = some (runD D w) := by
 have h1 := toD_lt h hl w 0 (by have := h.pos; omega)
 have h2 : toD D 0 w < D.ends.length := by rw [h.ends]; exact h1
 unfold runD
 rw [List.getD_eq_getElem?_getD, List.getElem?_eq_getElem h2]
 rfl
theorem runD_machN {S : List St} {a z : Int} {n : Nat} (h : FitN S a n) (hm : MayN S a z) (w : List UInt8) : runD (machN S a z n) w = runB S a z w := by
 have h0 : (LN S a n)[0]? = some (clsN S [a]) := Lq_zero n
 have h1 := toD_machN (z := z) h w 0 _ h0
 have hlt : toD (machN S a z n) 0 w < n := by
  have h2 := (List.getElem?_eq_some_iff.1 h1).1
  rwa [show (LN S a n).length = n from h] at h2
 unfold runD
 rw [List.getD_eq_getElem?_getD, machN_end h1 hlt, runB_yes (mayNB_yes hm), List.take_length]
 rfl
theorem machN_cl {S : List St} {a z : Int} {n : Nat} : (machN S a z n).cl.length = 256 := ctab_length _ _
set_option maxHeartbeats 8000000 in
set_option maxRecDepth 1000000 in
theorem refRun11_any (D : Dm) (W : List UInt8) (cs : List Value) (V : Value) (w : World) (hv : DfaV w cs D) (hm : MayD D) (hw : Row w V (bvs W)) :
  Calls Tryd.prog 12 #[.agg cs.toArray, V] w fun e w' => e = .returned (.bool (runD D W)) ∧ Below w.heap.size w w' := by
 have V0 := qH hv
 have HM := qH hm
 have HDS := qH hv.size
 have W0 := qH hw
 obtain ⟨An, Ae, cn, ce, vf, hl, hcs, hn, hr, he⟩ := hv.form
 have HCS := qH hcs
 have HL := qH hl
 have HRG := qH (runD_get hm hl W)
 have HNP := qH (show 0 < D.next.length by have := hm.pos; omega)
 have HE := qH he
 obtain ⟨p, hp⟩ : ∃ p, p = toD D 0 W := ⟨_, rfl⟩
 obtain ⟨y, hy⟩ : ∃ y, y = runD D W := ⟨_, rfl⟩
 obtain ⟨k, hk⟩ : ∃ k, k = D.ends.length := ⟨_, rfl⟩
 have HP := qH (show toD D 0 W = p from hp.symm)
 rw [← hp, ← hy] at HRG
 rw [← hy]
 rw [← hk] at HCS HE
 have HPK := qH (show p < k by rw [hk]; exact (List.getElem?_eq_some_iff.1 HRG.out).1)
 have p1 : (p : Int) < (k : Int) := Int.ofNat_lt.2 HPK.out
 have p2 : decide ((0 : Int) ≤ (p : Int)) = true := decide_eq_true (Int.natCast_nonneg p)
 clear hv hm hw hl hcs hn hr he hp hy hk
 go_enter Tryd.func12, Tryd.ntmps12
 go_wp2_with (first
  | ((with_reducible refine atDst 2 ?_); refine wpList_box rfl 32 _ rfl cs rfl (Below.refl w.heap.size w) (Nat.le_refl _) ?_; intro w1 hk1 hb1 hs1 _; have K1 := qH hk1; have B1 := qH hb1; clear hk1 hb1 hs1; (try simp only [Act.put, qA, qB, qC]))
  | ((with_reducible refine atDst 6 ?_); refine wpList_ldArr rfl 32 _ rfl w.heap.size rfl 32 _ _ K1.out Tryd.underlying32 rfl HDS.out ?_; (try simp only [Act.put, qA, qB, qC])))
 refine (refTo11_any D 0 W cs V w1 (V0.out.below B1.out) HM.out HNP.out (W0.out.below B1.out)).mono ?_
 rintro e w2 ⟨rfl, hb⟩
 rw [HP.out]
 have K2 := qH (K1.out.below hb K1.out.lt)
 have B2 := qH (B1.out.trans (hb.mono B1.out.size))
 clear hb
 have c257 : w2.cell? ⟨w.heap.size, 257, none⟩ = some (.slice Ae k ce) := by rw [K2.out.cell 257, HCS.out]; exact dcl_e HL.out
 obtain ⟨be, oe, rfl, hbe, hce⟩ := (HE.out.below B2.out).at_ (by rw [bools_length]; exact Nat.lt_of_le_of_lt (Nat.zero_le _) (List.getElem?_eq_some_iff.1 HRG.out).1)
 have hcp : w2.cell? ⟨be, oe + p, none⟩ = some (.bool y) := hce p _ (by simp [bools, HRG.out])
 clear hbe hce
 go_wp2_with fail
 go_ret
 exact ⟨rfl, B2.out⟩
theorem mkN_case (S : List St) (a z most : Int) {D : Dm} {er : Int} (h : mkN S a z most = (D, er)) :
  (er = 3 ∧ ¬ MayN S a z) ∨ (er = 7) ∨ (er = 0 ∧ ∃ n : Nat, MayN S a z ∧ FitN S a n ∧ (n : Int) ≤ most ∧ D = machN S a z n) := by
 rcases mkN_is S a z most with ⟨h0, h1⟩ | ⟨h0, n, h1, h2, h3⟩ | ⟨_, _, h1⟩
 ·rw [h] at h1
  injection h1 with _ h1
  exact .inl ⟨h1, h0⟩
 ·rw [h] at h3
  injection h3 with h3 h4
  exact .inr (.inr ⟨h4, n, h0, h1, h2, h3⟩)
 ·rw [h] at h1
  injection h1 with _ h1
  exact .inr (.inl h1)
set_option maxHeartbeats 8000000 in
set_option maxRecDepth 1000000 in
theorem subruns_walk (S : List St) (a z : Int) (W : List UInt8) (cs : List Value) (U : Value) (w : World) (hv : NfaV w cs S a z) (hw : Row w U (bvs W)) (hlo : ∀ s ∈ S, -9223372036854775808 ≤ s.to) (hT : Tb w) :
  Calls Tryd.prog 3 #[.agg cs.toArray, U] w fun e w' => e = .returned (.bool true) ∧ Below w.heap.size w w' := by
 have N0 := qH hv
 have W0 := qH hw
 have HLO := qH hlo
 have HT := qH hT
 obtain ⟨A, cap, rfl, hlc, hcm, hA0⟩ := hv.len
 obtain ⟨A2, cap2, rfl, _⟩ := hw
 rw [bvs_length] at W0 ⊢
 obtain ⟨id, d0, hid, hdz, hdl⟩ := zero_dfa
 have HDZ := qH hdz
 have HDL := qH hdl
 clear hv hlo hT hlc hcm hA0 hdz hdl
 go_enter Tryd.func3, Tryd.ntmps3
 go_wp2_with ((with_reducible refine atDst 2 ?_); refine wpList_box rfl 24 _ rfl [.slice A S.length cap, .int .i64 a, .int .i64 z] rfl (Below.refl w.heap.size w) (Nat.le_refl _) ?_; intro w1 hk1 hb1 hs1 _; have K1 := qH hk1; have B1 := qH hb1; clear hk1 hb1 hs1; (try simp only [Act.put, qA, qB, qC]))
 refine (begun10_any w1 (HT.out.belowG B1.out HT.out.lt)).mono ?_
 rintro e w2 ⟨rfl, hb⟩
 have K2 := qH (K1.out.below hb K1.out.lt)
 have B2 := qH (B1.out.trans (hb.mono B1.out.size))
 clear hb
 go_wp2_with ((with_reducible refine atDst 9 ?_); refine wpList_ldArr rfl 24 _ rfl w.heap.size rfl 24 _ _ K2.out Tryd.underlying24 rfl (size_nfa rfl) ?_; (try simp only [Act.put, qA, qB, qC]))
 refine (lightN_any S a z 12 _ w2 (N0.out.below B2.out)).mono ?_
 rintro e w3 ⟨rfl, hb⟩
 have K3 := qH (K2.out.below hb K2.out.lt)
 have B3 := qH (B2.out.trans (hb.mono B2.out.size))
 clear hb
 obtain ⟨lt, hlt⟩ : ∃ m, lightB S 12 = m := ⟨_, rfl⟩
 rw [hlt]
 clear hlt
 cases lt with
 | false =>
  go_wp2_with fail
  go_ret
  exact ⟨rfl, B3.out⟩
 | true =>
  by_cases hw12 : (12 : Int) < (W.length : Int)
  ·have hd12 : decide ((12 : Int) < (W.length : Int)) = true := decide_eq_true hw12
   go_wp2_with fail
   go_ret
   exact ⟨rfl, B3.out⟩
  have hd12 : decide ((12 : Int) < (W.length : Int)) = false := decide_eq_false hw12
  go_wp2_with ((with_reducible refine atDst 18 ?_); refine wpList_ldArr rfl 24 _ rfl w.heap.size rfl 24 _ _ K3.out Tryd.underlying24 rfl (size_nfa rfl) ?_; (try simp only [Act.put, qA, qB, qC]))
  clear hd12 hw12
  have hmk := sbMake_any S a z 60 _ w3 (N0.out.below B3.out) HLO.out (by decide) (HT.out.belowG B3.out HT.out.lt)
  refine hmk.mono ?_
  clear hmk
  rintro e w4 ⟨c4, rfl, hd, hb⟩
  have K4 := qH (K3.out.below hb K3.out.lt)
  have B4 := qH (B3.out.trans (hb.mono B3.out.size))
  have V4 := qH hd
  clear hd hb
  obtain ⟨D, hD⟩ : ∃ D, D = (mkN S a z 60).1 := ⟨_, rfl⟩
  obtain ⟨er, her⟩ : ∃ er, er = (mkN S a z 60).2 := ⟨_, rfl⟩
  rw [← hD] at V4
  rw [← her]
  have HQ := qH (mkN_case S a z 60 (show mkN S a z 60 = (D, er) by rw [hD, her]))
  clear hD her
  rcases HQ.out with ⟨rfl, hnm⟩ | rfl | ⟨rfl, n, hm, hf, hn, hdm⟩
  ·have HNM := qH (mayNB_no hnm)
   clear hnm
   go_wp2_with (first
    | ((with_reducible refine atDst 5 ?_); refine wpList_new rfl 32 rfl id _ d0 hid HDZ.out rfl (Below.refl w4.heap.size w4) (Nat.le_refl _) ?_; intro w5 hk hb hs ho; have L5 := qH hk; have B5 := qH hb; clear hk hb hs ho; (try simp only [Act.put, qA, qB, qC]))
    | ((with_reducible refine atStore 32 5 20 ?_); refine wpList_stBlk rfl 32 _ _ rfl w4.heap.size c4 rfl rfl 32 _ L5.out V4.out.size (by rw [HDL.out, V4.out.length]) V4.out.one B5.out (Nat.le_refl _) ?_; intro w6 hk hb hs ho; have K6 := qH (K4.out.below hb K4.out.lt); have B6 := qH (B4.out.trans (hb.mono B4.out.size)); clear hk hb hs ho; (try simp only [Act.put, qA, qB, qC]))
    | ((with_reducible refine atDst 30 ?_); refine wpList_ldArr rfl 24 _ rfl w.heap.size rfl 24 _ _ K6.out Tryd.underlying24 rfl (size_nfa rfl) ?_; (try simp only [Act.put, qA, qB, qC])))
   refine (refMayN_any S a z _ w6 (N0.out.below B6.out)).mono ?_
   rintro e w7 ⟨rfl, hb⟩
   have B7 := qH (B6.out.trans (hb.mono B6.out.size))
   clear hb
   rw [HNM.out]
   go_wp2_with fail
   go_ret
   exact ⟨rfl, B7.out⟩
  ·go_wp2_with (first
    | ((with_reducible refine atDst 5 ?_); refine wpList_new rfl 32 rfl id _ d0 hid HDZ.out rfl (Below.refl w4.heap.size w4) (Nat.le_refl _) ?_; intro w5 hk hb hs ho; have L5 := qH hk; have B5 := qH hb; clear hk hb hs ho; (try simp only [Act.put, qA, qB, qC]))
    | ((with_reducible refine atStore 32 5 20 ?_); refine wpList_stBlk rfl 32 _ _ rfl w4.heap.size c4 rfl rfl 32 _ L5.out V4.out.size (by rw [HDL.out, V4.out.length]) V4.out.one B5.out (Nat.le_refl _) ?_; intro w6 hk hb hs ho; have B6 := qH (B4.out.trans (hb.mono B4.out.size)); clear hk hb hs ho; (try simp only [Act.put, qA, qB, qC])))
   go_ret
   exact ⟨rfl, B6.out⟩
  ·have HM := qH hm
   have HMD := qH (show MayD D by rw [hdm]; exact machN_may hf (by omega))
   have HRD := qH (show runD D W = runB S a z W by rw [hdm]; exact runD_machN hf hm W)
   clear hm hf hn hdm
   go_wp2_with (first
    | ((with_reducible refine atDst 5 ?_); refine wpList_new rfl 32 rfl id _ d0 hid HDZ.out rfl (Below.refl w4.heap.size w4) (Nat.le_refl _) ?_; intro w5 hk hb hs ho; have L5 := qH hk; have B5 := qH hb; clear hk hb hs ho; (try simp only [Act.put, qA, qB, qC]))
    | ((with_reducible refine atStore 32 5 20 ?_); refine wpList_stBlk rfl 32 _ _ rfl w4.heap.size c4 rfl rfl 32 _ L5.out V4.out.size (by rw [HDL.out, V4.out.length]) V4.out.one B5.out (Nat.le_refl _) ?_; intro w6 hk hb hs ho; have L6 := qH hk; have V6 := qH (V4.out.below hb); have K6 := qH (K4.out.below hb K4.out.lt); have B6 := qH (B4.out.trans (hb.mono B4.out.size)); clear hk hb hs ho; (try simp only [Act.put, qA, qB, qC])))
   have N6 := qH (N0.out.below B6.out)
   have W6 := qH (W0.out.below B6.out)
   have HSZ := qH V6.out.size
   refine sx_startB (B := w6.heap.size) (w0 := w6) (by kernel_rfl) (Below.refl _ _) (fun wd hwd hX => ?_)
   clear hwd
   refine sx_take (i := 0) (oi := ⟨some 35, _, _, _, _, _⟩) (v := .agg c4.toArray) rfl (by kernel_rfl) (by kernel_rfl) (by kernel_rfl) (fun _ _ _ h => h) rfl hX (ld_blk 32 _ rfl w4.heap.size rfl 32 c4 _ L6.out L6.out.lt Tryd.underlying32 rfl HSZ.out) ?_; simp only [Act.put, qA, qB, qC]
   refine sx_actB (i := 1) (o := ⟨some 36, _, _, _, _, _⟩) rfl (by kernel_rfl) rfl hX (fun K hK => ?_)
   go_wp2_with fail
   refine (refMay11_any D c4 wd (V6.out.below hX) HMD.out).mono ?_
   rintro e w7 ⟨rfl, hb⟩
   go_wp2_with fail
   refine hK _ _ (hb.mono hX.size) ?_
   clear hK K
   (try simp only [Act.put, qA, qB, qC])
   replace hX := hX.trans (hb.mono hX.size)
   clear hb
   refine sx_take (i := 2) (oi := ⟨some 37, _, _, _, _, _⟩) (v := ?_) rfl (by kernel_rfl) (by kernel_rfl) (by kernel_rfl) (fun _ _ _ h => h) rfl hX ?_ ?_; rotate_left; (intro W hW; go_simp; try with_reducible rfl); simp only [Act.put, qA, qB, qC]
   refine sx_take (i := 3) (oi := ⟨some 38, _, _, _, _, _⟩) (v := .agg c4.toArray) rfl (by kernel_rfl) (by kernel_rfl) (by kernel_rfl) (fun _ _ _ h => h) rfl hX (ld_blk 32 _ rfl w4.heap.size rfl 32 c4 _ L6.out L6.out.lt Tryd.underlying32 rfl HSZ.out) ?_; simp only [Act.put, qA, qB, qC]
   refine sx_take (i := 4) (oi := ⟨some 39, _, _, _, _, _⟩) (v := ?_) rfl (by kernel_rfl) (by kernel_rfl) (by kernel_rfl) (fun _ _ _ h => h) rfl hX ?_ ?_; rotate_left; (intro W hW; go_simp; try with_reducible rfl); simp only [Act.put, qA, qB, qC]
   refine sx_take (i := 6) (oi := ⟨some 41, _, _, _, _, _⟩) (v := .agg #[.slice A S.length cap, .int .i64 a, .int .i64 z]) rfl (by kernel_rfl) (by kernel_rfl) (by kernel_rfl) (fun _ _ _ h => h) rfl hX (ld_blk 24 _ rfl w.heap.size rfl 24 [.slice A S.length cap, .int .i64 a, .int .i64 z] _ K6.out K6.out.lt Tryd.underlying24 rfl (size_nfa rfl)) ?_; simp only [Act.put, qA, qB, qC]
   refine sx_take (i := 7) (oi := ⟨some 42, _, _, _, _, _⟩) (v := ?_) rfl (by kernel_rfl) (by kernel_rfl) (by kernel_rfl) (fun _ _ _ h => h) rfl hX ?_ ?_; rotate_left; (intro W hW; go_simp; try with_reducible rfl); simp only [Act.put, qA, qB, qC]
   refine sx_actB (i := 5) (o := ⟨some 40, _, _, _, _, _⟩) rfl (by kernel_rfl) rfl hX (fun K hK => ?_)
   go_wp2_with fail
   refine (refRun11_any D W c4 _ w7 (V6.out.below hX) HMD.out (W6.out.below hX)).mono ?_
   rintro e w8 ⟨rfl, hb⟩
   go_wp2_with fail
   refine hK _ _ (hb.mono hX.size) ?_
   clear hK K
   (try simp only [Act.put, qA, qB, qC])
   replace hX := hX.trans (hb.mono hX.size)
   clear hb
   refine sx_actB (i := 8) (o := ⟨some 43, _, _, _, _, _⟩) rfl (by kernel_rfl) rfl hX (fun K hK => ?_)
   go_wp2_with fail
   refine (refRunN_any S a z _ W _ w8 (N6.out.below hX) (W6.out.below hX)).mono ?_
   rintro e w9 ⟨rfl, hb⟩
   go_wp2_with fail
   refine hK _ _ (hb.mono hX.size) ?_
   clear hK K
   (try simp only [Act.put, qA, qB, qC])
   replace hX := hX.trans (hb.mono hX.size)
   clear hb
   rw [HRD.out]
   refine sx_take (i := 9) (oi := ⟨some 44, _, _, _, _, _⟩) (v := ?_) rfl (by kernel_rfl) (by kernel_rfl) (by kernel_rfl) (fun _ _ _ h => h) rfl hX ?_ ?_; rotate_left; (intro W hW; go_simp; try with_reducible rfl); simp only [Act.put, qA, qB, qC]
   refine sx_take (i := 10) (oi := ⟨some 45, _, _, _, _, _⟩) (v := ?_) rfl (by kernel_rfl) (by kernel_rfl) (by kernel_rfl) (fun _ _ _ h => h) rfl hX ?_ ?_; rotate_left; (intro W hW; go_simp; try with_reducible rfl); simp only [Act.put, qA, qB, qC]
   refine sx_take (i := 11) (oi := ⟨some 4, _, _, _, _, _⟩) (v := ?_) rfl (by kernel_rfl) (by kernel_rfl) (by kernel_rfl) (fun _ _ _ h => h) rfl hX ?_ ?_; rotate_left; (intro W hW; go_simp; try with_reducible rfl); simp only [Act.put, qA, qB, qC]
   refine wpAnyH_done (by kernel_rfl) ?_ _
   have BD := qH (B6.out.trans (hX.mono B6.out.size))
   clear hX
   go_wp2_with fail
   go_ret
   exact ⟨rfl, BD.out⟩
end Go.Proofs.YteadghoojeehlaaDoor
