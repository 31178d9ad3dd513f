/-
  Texts of this proof, put together: LkZ, LqR. No statement is proved here.
-/
import Derived.Test.YtlohehcfplkjbaaZBD
import Derived.Test.YtlohehcfplkjbaaZBE
import Derived.Test.YtlohehcfplkjbaaZR
import Derived.Test.YtlohehcfplkjbaaZN
import Derived.Test.YtlohehcfplkjbaaZJ
import Derived.Test.YtlohehcfplkjbaaZE
import Derived.Test.YtlohehcfplkjbaaZM
namespace Go.Proofs.Ytlohehcfplkjbaa
open Go.RowKit
set_option linter.unusedSimpArgs false
set_option linter.unusedVariables false
theorem Row.past {w w' : World} {v : Value} {xs : List Value} {g : Nat} {t : TypeId} {old : List Value} (h : Row w v xs) (hk : Blk w g t old) (ho : Off (fun k => k = g) w w') (hx : ∀ u ∈ xs, u ∉ old) : Row w' v xs := by
 obtain ⟨A, cap, rfl, h1, h2, h0, h3⟩ := h
 refine ⟨A, cap, rfl, h1, h2, h0, fun hne => ?_⟩
 obtain ⟨b, off, rfl, hb, hc⟩ := h3 hne
 have hbg : ¬ b = g := fun e => by
  subst e
  obtain ⟨u, hu⟩ : ∃ u, xs[0]? = some u := ⟨_, List.getElem?_eq_getElem (by first | exact hne | exact List.length_pos_iff.2 hne)⟩
  have h4 := (hk.cell (off + 0)).symm.trans (hc 0 u hu)
  exact hx u (List.mem_of_getElem? hu) (List.mem_of_getElem? h4)
 exact ⟨b, off, rfl, Nat.lt_of_lt_of_le hb ho.size, fun i u hu => ho.cell hb hbg (hc i u hu)⟩
theorem mem_d0 {u : Value} (h : u ∈ dcl (ctab [] 0) (.slice none 0 0) (.slice none 0 0)) : (∃ k, u = .int .u8 k) ∨ u = .slice none 0 0 := by
 unfold dcl at h
 rcases List.mem_append.1 h with h | h
 ·unfold bvs at h
  obtain ⟨b, _, rfl⟩ := List.mem_map.1 h
  exact .inl ⟨_, rfl⟩
 ·simp only [List.mem_cons, List.mem_nil_iff, or_false, or_self] at h
  exact .inr h
theorem DfaV.past {w w' : World} {cs : List Value} {D : Dm} {g : Nat} {t : TypeId} (h : DfaV w cs D) (hm : MayD D) (hk : Blk w g t (dcl (ctab [] 0) (.slice none 0 0) (.slice none 0 0))) (ho : Off (fun k => k = g) w w') : DfaV w' cs D := by
 obtain ⟨hl, vn, ve, vf, h1, h2, h3, h4⟩ := h
 refine ⟨hl, vn, ve, vf, h1, h2.past hk ho fun u hu hd => ?_, fun i r hr => (h3 i r hr).past hk ho fun u hu hd => ?_, h4.past hk ho fun u hu hd => ?_⟩
 ·obtain ⟨i, hi, rfl⟩ := List.mem_map.1 hu
  obtain ⟨r, hr⟩ : ∃ r, D.next[i]? = some r := ⟨_, List.getElem?_eq_getElem (List.mem_range.1 hi)⟩
  obtain ⟨A, cap, he, _⟩ := h3 i r hr
  have hrl := hm.rows r (List.mem_of_getElem? hr)
  have hcp : 0 < clsA D.cl := Nat.lt_of_le_of_lt (Nat.zero_le _) (clsA_lt hl (j := 0) (List.getElem?_eq_getElem (by rw [hl]; decide)))
  rcases mem_d0 hd with ⟨k, e⟩ | e
  ·rw [he] at e
   cases e
  ·rw [he] at e
   injection e with e1 e2
   rw [nums_length, hrl] at e2
   omega
 ·unfold nums at hu
  obtain ⟨x, _, rfl⟩ := List.mem_map.1 hu
  rcases mem_d0 hd with ⟨k, e⟩ | e <;> cases e
 ·unfold bools at hu
  obtain ⟨x, _, rfl⟩ := List.mem_map.1 hu
  rcases mem_d0 hd with ⟨k, e⟩ | e <;> cases e
set_option maxHeartbeats 8000000 in
set_option maxRecDepth 1000000 in
theorem lLeast_any (D : Dm) (cs : List Value) (w : World) (hv : DfaV w cs D) (hm : MayD D) : Calls Try.prog 13 #[.agg cs.toArray] w fun e w' => ∃ cs', e = .returned (.agg cs'.toArray) ∧ DfaV w' cs' (lstD D) ∧ Below w.heap.size w w' := by
 have V0 := qH hv
 have HM := qH hm
 have HL := qH hv.1
 have HSA := qH hv.size
 obtain ⟨d0, hd0⟩ : ∃ d0, d0 = dcl (ctab [] 0) (.slice none 0 0) (.slice none 0 0) := ⟨_, rfl⟩
 have HDL := qH (show d0.length = 258 by rw [hd0]; exact dcl_len (ctab_length _ _))
 obtain ⟨id, hid, hdz⟩ := Option.map_eq_some_iff.1 inf_dfa
 rw [← hd0] at hdz
 have HD0 := qH hd0
 clear hv hm hd0
 go_enter Try.func13, Try.ntmps13
 go_wp2_with (first
  | ((with_reducible refine atDst 1 ?_); refine wpList_box rfl 28 _ rfl cs rfl (Below.refl w.heap.size w) (Nat.le_refl _) ?_; intro w1 hk1 hb1 hs1 _; have K1 := qH hk1; have B1 := qH hb1; clear hk1 hb1 hs1; (try simp only [Act.put, qA, qB, qC]))
  | ((with_reducible refine atDst 2 ?_); refine wpList_new rfl 28 rfl id _ d0 hid hdz rfl (Below.refl w1.heap.size w1) (Nat.le_refl _) ?_; intro w2 hk hb hs _; have R2 := qH hk; have K2 := qH (K1.out.below hb K1.out.lt); have B12 := qH hb; have B2 := qH (B1.out.trans (hb.mono B1.out.size)); clear hk hb hs; (try simp only [Act.put, qA, qB, qC]))
  | ((with_reducible refine atDst 3 ?_); refine wpList_ldArr rfl 28 _ rfl w.heap.size rfl 28 _ _ K2.out Try.underlying28 rfl HSA.out ?_; (try simp only [Act.put, qA, qB, qC])))
 refine (mMay_any D cs w2 (V0.out.below B2.out)).mono ?_
 rintro e w3 ⟨rfl, hb⟩
 rw [mayDB_yes HM.out]
 have B13 := qH (show Below w1.heap.size w1 w3 from B12.out.trans (hb.mono B12.out.size))
 have R3 := qH (R2.out.below hb R2.out.lt)
 have B1G := qH (show w.heap.size ≤ w1.heap.size from B1.out.size)
 have V1 := qH (V0.out.below B1.out)
 clear hb
 go_wp2_with fail
 refine mc_start (fun V => Below w1.heap.size w1 V) (fun _ => True) 6 (by kernel_rfl) (fun wd hwd => ?_)
 have hD : Below w3.heap.size w3 wd := by rw [hwd]; exact (Below.refl _ _).drew
 have RD := qH (R3.out.below hD R3.out.lt)
 have hX : Below w1.heap.size w1 wd := B13.out.trans (hD.mono B13.out.size)
 have hY : True := trivial
 clear hwd hD
 refine mc_take (i := 0) (oi := ⟨some 7, _, _, _, _, _⟩) (v := .agg cs.toArray) rfl (by kernel_rfl) (by kernel_rfl) (by kernel_rfl) (fun _ _ _ h => h) rfl hX (fun V hT => ld_blk 28 (.tmp 1) rfl w.heap.size rfl 28 cs _ K1.out K1.out.lt Try.underlying28 rfl HSA.out V hT) ?_; simp only [Act.put, qA, qB, qC]
 refine mc_take (i := 1) (oi := ⟨some 8, _, _, _, _, _⟩) (v := .agg cs.toArray) rfl (by kernel_rfl) (by kernel_rfl) (by kernel_rfl) (fun _ _ _ h => h) rfl hX (fun V hT => ld_blk 28 (.tmp 1) rfl w.heap.size rfl 28 cs _ K1.out K1.out.lt Try.underlying28 rfl HSA.out V hT) ?_; simp only [Act.put, qA, qB, qC]
 refine mc_actB (i := 2) (o := ⟨some 9, _, _, _, _, _⟩) rfl (by kernel_rfl) rfl (fun K hK => ?_)
 have Y1 := qH hX
 go_wp2_with fail
 refine (lParts_any D cs wd (V1.out.below hX) HM.out).mono ?_
 rintro e v1 ⟨pv, rfl, hr, hb⟩
 have RP := qH hr
 have RD1 := qH (RD.out.below hb RD.out.lt)
 have hX2 := Y1.out.trans (hb.mono Y1.out.size)
 clear hb hr
 go_wp2_with fail
 refine hK _ _ hX2 trivial ?_
 clear hK K hX
 have hX := hX2
 clear hX2
 (try simp only [Act.put, qA, qB, qC])
 refine mc_actB (i := 3) (o := ⟨some 10, _, _, _, _, _⟩) rfl (by kernel_rfl) rfl (fun K hK => ?_)
 have Y2 := qH hX
 go_wp2_with fail
 refine (lNumbered_any D cs pv v1 (V1.out.below hX) HM.out RP.out).mono ?_
 rintro e v2 ⟨xs, rfl, ⟨i, hi, hd⟩, hb⟩
 have VX := qH hd
 have HQ := qH hi
 have RD2 := qH (RD1.out.below hb RD1.out.lt)
 have hX2 := Y2.out.trans (hb.mono Y2.out.size)
 clear hb hd hi
 go_wp2_with fail
 refine hK _ _ hX2 trivial ?_
 clear hK K hX
 have hX := hX2
 clear hX2
 (try simp only [Act.put, qA, qB, qC])
 refine mc_actB (i := 4) (o := ⟨some 11, _, _, _, _, _⟩) rfl (by kernel_rfl) rfl (fun K hK => ?_)
 have Y3 := qH hX
 go_wp2_with fail
 refine (lMerged_any (numD D i) xs i (usU D.cl 256).length v2 VX.out (numD_sh HM.out HL.out HQ.out)).mono ?_
 rw [mrg_num HL.out HQ.out]
 rintro e v3 ⟨ys, rfl, hd, hb⟩
 have VY := qH hd
 have RD3 := qH (RD2.out.below hb RD2.out.lt)
 have hX2 := Y3.out.trans (hb.mono Y3.out.size)
 have HXS := qH hd.size
 obtain ⟨Bn, Be, dn, de, uf, hl2, hes, _⟩ := hd.form
 have HXL := qH (show ys.length = 258 by rw [hes]; exact dcl_len hl2)
 have HXO := qH (show ys.all (·.oneCell') = true by rw [hes]; exact dcl_one)
 clear hb hd hes hl2
 go_wp2_with fail
 refine hK _ _ hX2 trivial ?_
 clear hK K hX
 have hX := hX2
 clear hX2
 (try simp only [Act.put, qA, qB, qC])
 refine mc_actB (i := 5) (o := ⟨none, _, _, _, _, _⟩) rfl (by kernel_rfl) rfl (fun K hK => ?_)
 refine wp_stBlk 28 (.tmp 2) (.tmp 11) rfl w1.heap.size ys rfl rfl 28 _ RD3.out HXS.out (by rw [HDL.out, HXL.out]) HXO.out hX (Nat.le_refl _) ?_
 intro v4 hk hb hs ho hbb
 have KZ := qH hk
 have BZ := qH hb
 have HO := qH ho
 have HS := qH hs
 refine hK _ _ hb trivial ?_
 have HLM := qH (lst_may HM.out HL.out)
 have OZ := qH (show Off (fun k => k = w1.heap.size) v3 v4 from Off.put (hbb w1.heap.size (Nat.le_refl _)) ho (.inr rfl))
 have VZ := qH (DfaV.past VY.out HLM.out (by rw [← HD0.out]; exact RD3.out) OZ.out)
 clear hK K hX hY hk hb hs ho hbb
 (try simp only [Act.put, qA, qB, qC])
 refine wpAnyC_done (by kernel_rfl) ?_ _
 go_wp2_with fail
 refine bodyPost_ret (results_blk rfl _ _ w1.heap.size 28 _ _ rfl KZ.out Try.underlying28 rfl HXS.out) rfl ?_
 exact ⟨ys, rfl, VZ.out, B1.out.trans (BZ.out.mono B1.out.size)⟩
set_option maxHeartbeats 8000000 in
set_option maxRecDepth 1000000 in
theorem lIs_any (D : Dm) (cs : List Value) (w : World) (hv : DfaV w cs D) (hm : MayD D) : Calls Try.prog 21 #[.agg cs.toArray] w fun e w' => e = .returned (.bool (@decide (D = lstD D) (Classical.propDecidable _))) ∧ Below w.heap.size w w' := by
 have V0 := qH hv
 have HM := qH hm
 have HSA := qH hv.size
 have HDE := qH (show decide (D = lstD D) = @decide (D = lstD D) (Classical.propDecidable _) by
  by_cases h : D = lstD D
  ·rw [@decide_eq_true _ (Classical.propDecidable _) h]
   exact decide_eq_true h
  ·rw [@decide_eq_false _ (Classical.propDecidable _) h]
   exact decide_eq_false h)
 clear hv hm
 go_enter Try.func21, Try.ntmps21
 go_wp2_with ((with_reducible refine atDst 1 ?_); refine wpList_box rfl 28 _ rfl cs rfl (Below.refl w.heap.size w) (Nat.le_refl _) ?_; intro w1 hk1 hb1 hs1 _; have K1 := qH hk1; have B1 := qH hb1; clear hk1 hb1 hs1; (try simp only [Act.put, qA, qB, qC]))
 have V1 := qH (V0.out.below B1.out)
 refine mc_start (fun V => Below w1.heap.size w1 V) (fun _ => True) 9 (by kernel_rfl) (fun wd hwd => ?_)
 have hX : Below w1.heap.size w1 wd := by rw [hwd]; exact (Below.refl _ _).drew
 have hY : True := trivial
 clear hwd
 refine mc_take (i := 0) (oi := ⟨some 3, _, _, _, _, _⟩) (v := .agg cs.toArray) rfl (by kernel_rfl) (by kernel_rfl) (by kernel_rfl) (fun _ _ _ h => h) rfl hX (fun V hT => ld_blk 28 (.tmp 1) rfl w.heap.size rfl 28 cs _ K1.out K1.out.lt Try.underlying28 rfl HSA.out V hT) ?_; simp only [Act.put, qA, qB, qC]
 refine mc_actB (i := 1) (o := ⟨some 4, _, _, _, _, _⟩) rfl (by kernel_rfl) rfl (fun K hK => ?_)
 have Y1 := qH hX
 go_wp2_with fail
 refine (mMay_any D cs wd (V1.out.below hX)).mono ?_
 rintro e v1 ⟨rfl, hb⟩
 rw [mayDB_yes HM.out]
 have hX2 := Y1.out.trans (hb.mono Y1.out.size)
 clear hb
 go_wp2_with fail
 refine hK _ _ hX2 trivial ?_
 clear hK K hX
 have hX := hX2
 clear hX2
 (try simp only [Act.put, qA, qB, qC])
 refine mc_take (i := 2) (oi := ⟨some 5, _, _, _, _, _⟩) (v := ?_) rfl (by kernel_rfl) (by kernel_rfl) (by kernel_rfl) (fun _ _ _ h => h) rfl hX ?_ ?_; rotate_left; (intro W hW; go_simp; try with_reducible rfl); simp only [Act.put, qA, qB, qC]
 refine mc_take (i := 3) (oi := ⟨some 6, _, _, _, _, _⟩) (v := .agg cs.toArray) rfl (by kernel_rfl) (by kernel_rfl) (by kernel_rfl) (fun _ _ _ h => h) rfl hX (fun V hT => ld_blk 28 (.tmp 1) rfl w.heap.size rfl 28 cs _ K1.out K1.out.lt Try.underlying28 rfl HSA.out V hT) ?_; simp only [Act.put, qA, qB, qC]
 refine mc_take (i := 4) (oi := ⟨some 7, _, _, _, _, _⟩) (v := .agg cs.toArray) rfl (by kernel_rfl) (by kernel_rfl) (by kernel_rfl) (fun _ _ _ h => h) rfl hX (fun V hT => ld_blk 28 (.tmp 1) rfl w.heap.size rfl 28 cs _ K1.out K1.out.lt Try.underlying28 rfl HSA.out V hT) ?_; simp only [Act.put, qA, qB, qC]
 refine mc_actB (i := 5) (o := ⟨some 8, _, _, _, _, _⟩) rfl (by kernel_rfl) rfl (fun K hK => ?_)
 have Y2 := qH hX
 go_wp2_with fail
 refine (lLeast_any D cs v1 (V1.out.below hX) HM.out).mono ?_
 rintro e v2 ⟨xs, rfl, hd, hb⟩
 have VX := qH hd
 have hX2 := Y2.out.trans (hb.mono Y2.out.size)
 clear hb hd
 go_wp2_with fail
 refine hK _ _ hX2 trivial ?_
 clear hK K hX
 have hX := hX2
 clear hX2
 (try simp only [Act.put, qA, qB, qC])
 refine mc_actB (i := 6) (o := ⟨some 9, _, _, _, _, _⟩) rfl (by kernel_rfl) rfl (fun K hK => ?_)
 have Y3 := qH hX
 go_wp2_with fail
 refine (mSame_any D (lstD D) cs xs v2 (V1.out.below hX) VX.out HM.out.few (by rw [HM.out.ends]; exact HM.out.few) (fun r hr => by rw [HM.out.rows r hr]; exact Nat.le_trans (clsA_le _) (by decide))).mono ?_
 rintro e v3 ⟨rfl, hb⟩
 rw [HDE.out]
 have hX2 := Y3.out.trans (hb.mono Y3.out.size)
 clear hb
 go_wp2_with fail
 refine hK _ _ hX2 trivial ?_
 clear hK K hX
 have hX := hX2
 clear hX2
 (try simp only [Act.put, qA, qB, qC])
 refine mc_take (i := 7) (oi := ⟨some 10, _, _, _, _, _⟩) (v := ?_) rfl (by kernel_rfl) (by kernel_rfl) (by kernel_rfl) (fun _ _ _ h => h) rfl hX ?_ ?_; rotate_left; (intro W hW; go_simp; try with_reducible rfl); simp only [Act.put, qA, qB, qC]
 refine mc_take (i := 8) (oi := ⟨some 2, _, _, _, _, _⟩) (v := ?_) rfl (by kernel_rfl) (by kernel_rfl) (by kernel_rfl) (fun _ _ _ h => h) rfl hX ?_ ?_; rotate_left; (intro W hW; go_simp; try with_reducible rfl); simp only [Act.put, qA, qB, qC]
 refine wpAnyC_done (by kernel_rfl) ?_ _
 have BE := qH (B1.out.trans (hX.mono B1.out.size))
 clear hX hY
 go_wp2_with fail
 go_ret
 exact ⟨rfl, BE.out⟩
theorem lstC : LstC := ⟨fun D cs w hv hm _ => lLeast_any D cs w hv hm, fun D cs w hv hm _ => lParts_any D cs w hv hm, fun D cs w hv hm _ => lIs_any D cs w hv hm⟩
set_option maxHeartbeats 8000000 in
set_option maxRecDepth 1000000 in
theorem least_runs_walk (C : LstC) (n c : Nat) (V V2 : Value) (ps W : List UInt8) (w : World) (hn : n < 256) (hc : c < 256) (hr : Row w V (bvs ps)) (hw : Row w V2 (bvs W)) :
  Calls Try.prog 4 #[.int .u8 (n : Int), .int .u8 (c : Int), V, V2] w fun e w' => e = .returned (.bool true) ∧ Below w.heap.size w w' := by
 have HCC := qH C
 clear C
 have R := qH hr
 have RW := qH hw
 obtain ⟨A, cap, rfl, _⟩ := hr
 obtain ⟨A2, cap2, rfl, _⟩ := hw
 rw [bvs_length] at R
 rw [bvs_length] at RW
 rw [bvs_length, bvs_length]
 have HN := qH hn
 have HC := qH hc
 obtain ⟨d0, hd0⟩ : ∃ d0, d0 = dcl (ctab [] 0) (.slice none 0 0) (.slice none 0 0) := ⟨_, rfl⟩
 have HDL := qH (show d0.length = 258 by rw [hd0]; exact dcl_len (ctab_length _ _))
 obtain ⟨id, hid, hdz⟩ := Option.map_eq_some_iff.1 inf_dfa
 rw [← hd0] at hdz
 have HDZ := qH hdz
 clear hd0 hdz hn hc
 go_enter Try.func4, Try.ntmps4
 go_wp2_with fail
 refine (begun12_any HCC.out w).mono ?_
 rintro e w1 ⟨rfl, hb⟩
 have B1 := qH hb
 clear hb
 by_cases hl : 60 < ps.length
 ·have x1 : (60 : Int) < (ps.length : Int) := Int.ofNat_lt.2 hl
  clear hl
  go_wp2_with fail
  go_ret
  exact ⟨rfl, B1.out⟩
 have x1 : ¬ (60 : Int) < (ps.length : Int) := fun h => hl (Int.ofNat_lt.1 h)
 have HL := qH (Nat.le_of_not_lt hl)
 clear hl
 by_cases hl2 : 40 < W.length
 ·have x2 : (40 : Int) < (W.length : Int) := Int.ofNat_lt.2 hl2
  clear hl2
  go_wp2_with fail
  go_ret
  exact ⟨rfl, B1.out⟩
 have x2 : ¬ (40 : Int) < (W.length : Int) := fun h => hl2 (Int.ofNat_lt.1 h)
 clear hl2
 go_wp2_with fail
 refine (playDfa_any n c ps _ w1 HN.out HC.out (R.out.below B1.out) HL.out).mono ?_
 rintro e w2 ⟨cs, rfl, hd, hb⟩
 obtain ⟨D, hD⟩ : ∃ D, D = dfaQ n c ps := ⟨_, rfl⟩
 rw [← hD] at hd
 have HM := qH (show MayD D by rw [hD]; exact dfaQ_may n c ps)
 have HK8 := qH (show D.next.length ≤ 8 by rw [hD, dfaQ_len]; exact k8L n)
 have HAC := qH (show AllC D by rw [hD]; exact dfaQ_allC n c ps)
 clear hD
 have VA := qH hd.dfa
 obtain ⟨An, Ae, cn, ce, vf, hcl, hcs, _⟩ := VA.out.form
 have HCS := qH hcs
 have HCLN := qH hcl
 have HLA := qH (show cs.length = 258 by rw [hcs]; exact dcl_len hcl)
 have HOA := qH (show cs.all (·.oneCell') = true by rw [hcs]; exact dcl_one)
 have HSA := qH (show (Try.prog.info? 28).map (·.size) = some cs.length from VA.out.size)
 have B2 := qH (B1.out.trans (hb.mono B1.out.size))
 clear hd hb hcl hcs
 go_wp2_with (first
  | ((with_reducible refine atDst 9 ?_); refine wpList_new rfl 28 rfl id _ d0 hid HDZ.out rfl (Below.refl w2.heap.size w2) (Nat.le_refl _) ?_; intro w3 hk hb hs _; have K3 := qH hk; have B23 := qH hb; clear hk hb hs; (try simp only [Act.put, qA, qB, qC]))
  | ((with_reducible refine atStore 28 9 24 ?_); refine wpList_stBlk rfl 28 _ _ rfl w2.heap.size cs rfl rfl 28 _ K3.out HSA.out (by rw [HDL.out, HLA.out]) HOA.out B23.out (Nat.le_refl _) ?_; intro w4 hk hb hs ho; have K4 := qH hk; have V4 := qH (VA.out.below hb); have B4 := qH (B2.out.trans (hb.mono B2.out.size)); clear hk hb hs ho; (try simp only [Act.put, qA, qB, qC]))
  | ((with_reducible refine atDst 25 ?_); refine wpList_ldArr rfl 28 _ rfl w2.heap.size rfl 28 _ _ K4.out Try.underlying28 rfl HSA.out ?_; (try simp only [Act.put, qA, qB, qC])))
 have HCL2 := qH (show D.cl.length = 256 from HCLN.out)
 obtain ⟨gd, hgd⟩ : ∃ g, g = w2.heap.size := ⟨_, rfl⟩
 rw [← hgd] at K4
 rw [← hgd]
 clear hgd K3 B23 VA
 refine (HCC.out.least D cs w4 V4.out HM.out HAC.out).mono ?_
 rintro e w5 ⟨xs, rfl, hx, hb⟩
 obtain ⟨E, hE⟩ : ∃ E, E = lstD D := ⟨_, rfl⟩
 rw [← hE] at hx
 have HEE := qH hE
 have ME := qH (show MayD E by rw [hE]; exact lst_may HM.out HCL2.out)
 have AE := qH (show AllC E by rw [hE]; exact lst_allC HM.out HCL2.out)
 have HTE := qH (show E = lstD E by rw [hE]; exact (lst_twice HM.out HCL2.out).symm)
 have X5 := qH hx
 obtain ⟨Bn, Be, dn, de, uf, hl2, hes, hxn, hxr, hxe⟩ := hx.form
 have HXL := qH (show xs.length = 258 by rw [hes]; exact dcl_len hl2)
 have HXO := qH (show xs.all (·.oneCell') = true by rw [hes]; exact dcl_one)
 have HXS := qH (show (Try.prog.info? 28).map (·.size) = some xs.length from X5.out.size)
 have HES := qH hes
 have HLE2 := qH hl2
 have K5 := qH (K4.out.below hb K4.out.lt)
 have V5 := qH (V4.out.below hb)
 have B5 := qH (B4.out.trans (hb.mono B4.out.size))
 clear hx hb hE hes hl2 hxn hxr hxe
 go_wp2_with (first
  | ((with_reducible refine atDst 10 ?_); refine wpList_new rfl 28 rfl id _ d0 hid HDZ.out rfl (Below.refl w5.heap.size w5) (Nat.le_refl _) ?_; intro w6 hk hb hs _; have L6 := qH hk; have B56 := qH hb; clear hk hb hs; (try simp only [Act.put, qA, qB, qC]))
  | ((with_reducible refine atStore 28 10 26 ?_); refine wpList_stBlk rfl 28 _ _ rfl w5.heap.size xs rfl rfl 28 _ L6.out HXS.out (by rw [HDL.out, HXL.out]) HXO.out B56.out (Nat.le_refl _) ?_; intro w7 hk hb hs ho; have L7 := qH hk; have K7 := qH (K5.out.below hb K5.out.lt); have V7 := qH (V5.out.below hb); have X7 := qH (X5.out.below hb); have B7 := qH (B5.out.trans (hb.mono B5.out.size)); clear hk hb hs ho; (try simp only [Act.put, qA, qB, qC])))
 obtain ⟨gx, hgx⟩ : ∃ g, g = w5.heap.size := ⟨_, rfl⟩
 rw [← hgx] at L7
 rw [← hgx]
 clear hgx L6 B56 K5 V5 X5
 have RW7 := qH (RW.out.below B7.out)
 obtain ⟨rb, hrb⟩ : ∃ b, b = runD D W := ⟨_, rfl⟩
 have HR1 := qH (show runD D W = rb from hrb.symm)
 have HR2 := qH (show runD E W = rb by rw [hrb, HEE.out]; exact congrFun (lst_acc HM.out HCL2.out) W)
 have HBB := qH (show (rb == rb) = true by cases rb <;> rfl)
 obtain ⟨m, hm⟩ : ∃ m, m = D.next.length := ⟨_, rfl⟩
 obtain ⟨m2, hm2⟩ : ∃ m, m = E.next.length := ⟨_, rfl⟩
 obtain ⟨k, hk⟩ : ∃ m, m = clsA D.cl := ⟨_, rfl⟩
 obtain ⟨k2, hk2⟩ : ∃ m, m = clsA E.cl := ⟨_, rfl⟩
 have y1 : (m2 : Int) ≤ (m : Int) := by rw [hm, hm2, HEE.out]; exact Int.ofNat_le.2 (lst_len HM.out HCL2.out)
 have y2 : (k2 : Int) ≤ (k : Int) := by rw [hk, hk2, HEE.out]; exact Int.ofNat_le.2 (lst_cls HM.out HCL2.out)
 have HK := qH hk.symm
 have HK2 := qH hk2.symm
 have C40 := qH (show w7.cell? ⟨gx, 256, none⟩ = some (.slice Bn m2 dn) by rw [L7.out.cell 256, HES.out, hm2]; exact dcl_n HLE2.out)
 have C43 := qH (show w7.cell? ⟨gd, 256, none⟩ = some (.slice An m cn) by rw [K7.out.cell 256, HCS.out, hm]; exact dcl_n HCL2.out)
 have HEX := qH (show @decide (E = lstD E) (Classical.propDecidable _) = true from @decide_eq_true _ (Classical.propDecidable _) HTE.out)
 clear hrb hm hm2 hk hk2
 go_wp2_with fail
 refine mc_start (fun V => Below w7.heap.size w7 V) (fun _ => True) 38 (by kernel_rfl) (fun wd hwd => ?_)
 have hX : Below w7.heap.size w7 wd := by rw [hwd]; exact (Below.refl _ _).drew
 have hY : True := trivial
 clear hwd
 refine mc_take (i := 0) (oi := ⟨some 27, _, _, _, _, _⟩) (v := .agg xs.toArray) rfl (by kernel_rfl) (by kernel_rfl) (by kernel_rfl) (fun _ _ _ h => h) rfl hX (fun V hT => ld_blk 28 (.tmp 10) rfl gx rfl 28 xs _ L7.out L7.out.lt Try.underlying28 rfl HXS.out V hT) ?_; simp only [Act.put, qA, qB, qC]
 refine mc_actB (i := 1) (o := ⟨some 28, _, _, _, _, _⟩) rfl (by kernel_rfl) rfl (fun K hK => ?_)
 have Y1 := qH hX
 go_wp2_with fail
 refine (refMay11_any E xs wd (X7.out.below hX) ME.out).mono ?_
 rintro e v1 ⟨rfl, hb⟩
 have hX2 := Y1.out.trans (hb.mono Y1.out.size)
 clear hb
 go_wp2_with fail
 refine hK _ _ hX2 trivial ?_
 clear hK K hX
 have hX := hX2
 clear hX2
 (try simp only [Act.put, qA, qB, qC])
 refine mc_take (i := 2) (oi := ⟨some 29, _, _, _, _, _⟩) (v := ?_) rfl (by kernel_rfl) (by kernel_rfl) (by kernel_rfl) (fun _ _ _ h => h) rfl hX ?_ ?_; rotate_left; (intro W hW; go_simp; try with_reducible rfl); simp only [Act.put, qA, qB, qC]
 refine mc_take (i := 3) (oi := ⟨some 30, _, _, _, _, _⟩) (v := .agg xs.toArray) rfl (by kernel_rfl) (by kernel_rfl) (by kernel_rfl) (fun _ _ _ h => h) rfl hX (fun V hT => ld_blk 28 (.tmp 10) rfl gx rfl 28 xs _ L7.out L7.out.lt Try.underlying28 rfl HXS.out V hT) ?_; simp only [Act.put, qA, qB, qC]
 refine mc_take (i := 4) (oi := ⟨some 31, _, _, _, _, _⟩) (v := ?_) rfl (by kernel_rfl) (by kernel_rfl) (by kernel_rfl) (fun _ _ _ h => h) rfl hX ?_ ?_; rotate_left; (intro W hW; go_simp; try with_reducible rfl); simp only [Act.put, qA, qB, qC]
 refine mc_take (i := 6) (oi := ⟨some 33, _, _, _, _, _⟩) (v := .agg cs.toArray) rfl (by kernel_rfl) (by kernel_rfl) (by kernel_rfl) (fun _ _ _ h => h) rfl hX (fun V hT => ld_blk 28 (.tmp 9) rfl gd rfl 28 cs _ K7.out K7.out.lt Try.underlying28 rfl HSA.out V hT) ?_; simp only [Act.put, qA, qB, qC]
 refine mc_take (i := 7) (oi := ⟨some 34, _, _, _, _, _⟩) (v := ?_) rfl (by kernel_rfl) (by kernel_rfl) (by kernel_rfl) (fun _ _ _ h => h) rfl hX ?_ ?_; rotate_left; (intro W hW; go_simp; try with_reducible rfl); simp only [Act.put, qA, qB, qC]
 refine mc_actB (i := 5) (o := ⟨some 32, _, _, _, _, _⟩) rfl (by kernel_rfl) rfl (fun K hK => ?_)
 have Y2 := qH hX
 go_wp2_with fail
 refine (refRun11_any E W xs _ v1 (X7.out.below hX) ME.out (RW7.out.below hX)).mono ?_
 rintro e v2 ⟨rfl, hb⟩
 rw [HR2.out]
 have hX2 := Y2.out.trans (hb.mono Y2.out.size)
 clear hb
 go_wp2_with fail
 refine hK _ _ hX2 trivial ?_
 clear hK K hX
 have hX := hX2
 clear hX2
 (try simp only [Act.put, qA, qB, qC])
 refine mc_actB (i := 8) (o := ⟨some 35, _, _, _, _, _⟩) rfl (by kernel_rfl) rfl (fun K hK => ?_)
 have Y3 := qH hX
 go_wp2_with fail
 refine (refRun11_any D W cs _ v2 (V7.out.below hX) HM.out (RW7.out.below hX)).mono ?_
 rintro e v3 ⟨rfl, hb⟩
 rw [HR1.out]
 have hX2 := Y3.out.trans (hb.mono Y3.out.size)
 clear hb
 go_wp2_with fail
 refine hK _ _ hX2 trivial ?_
 clear hK K hX
 have hX := hX2
 clear hX2
 (try simp only [Act.put, qA, qB, qC])
 refine mc_take (i := 9) (oi := ⟨some 36, _, _, _, _, _⟩) (v := .bool true) rfl (by kernel_rfl) (by kernel_rfl) (by kernel_rfl) (fun _ _ _ h => h) rfl hX (fun V _ => ex_eqBL (.tmp 32) (.tmp 35) rfl rfl rfl HBB.out V) ?_; simp only [Act.put, qA, qB, qC]
 refine mc_take (i := 10) (oi := ⟨some 37, _, _, _, _, _⟩) (v := ?_) rfl (by kernel_rfl) (by kernel_rfl) (by kernel_rfl) (fun _ _ _ h => h) rfl hX ?_ ?_; rotate_left; (intro W hW; go_simp; try with_reducible rfl); simp only [Act.put, qA, qB, qC]
 refine mc_take (i := 11) (oi := ⟨some 38, _, _, _, _, _⟩) (v := ?_) rfl (by kernel_rfl) (by kernel_rfl) (by kernel_rfl) (fun _ _ _ h => h) rfl hX ?_ ?_; rotate_left; (intro W hW; go_simp; try with_reducible rfl); simp only [Act.put, qA, qB, qC]
 refine mc_take (i := 12) (oi := ⟨some 39, _, _, _, _, _⟩) (v := ?_) rfl (by kernel_rfl) (by kernel_rfl) (by kernel_rfl) (fun _ _ _ h => h) rfl hX ?_ ?_; rotate_left; (intro W hW; go_simp; try with_reducible rfl); simp only [Act.put, qA, qB, qC]
 refine mc_take (i := 13) (oi := ⟨some 40, _, _, _, _, _⟩) (v := .slice Bn m2 dn) rfl (by kernel_rfl) (by kernel_rfl) (by kernel_rfl) (fun _ _ _ h => h) rfl hX (fun V hV => ld_inss (.tmp 39) rfl rfl ((hV.cell (p := ⟨gx, 256, none⟩) L7.out.lt).trans C40.out)) ?_; simp only [Act.put, qA, qB, qC]
 refine mc_take (i := 14) (oi := ⟨some 41, _, _, _, _, _⟩) (v := ?_) rfl (by kernel_rfl) (by kernel_rfl) (by kernel_rfl) (fun _ _ _ h => h) rfl hX ?_ ?_; rotate_left; (intro W hW; go_simp; try with_reducible rfl); simp only [Act.put, qA, qB, qC]
 refine mc_take (i := 15) (oi := ⟨some 42, _, _, _, _, _⟩) (v := ?_) rfl (by kernel_rfl) (by kernel_rfl) (by kernel_rfl) (fun _ _ _ h => h) rfl hX ?_ ?_; rotate_left; (intro W hW; go_simp; try with_reducible rfl); simp only [Act.put, qA, qB, qC]
 refine mc_take (i := 16) (oi := ⟨some 43, _, _, _, _, _⟩) (v := .slice An m cn) rfl (by kernel_rfl) (by kernel_rfl) (by kernel_rfl) (fun _ _ _ h => h) rfl hX (fun V hV => ld_inss (.tmp 42) rfl rfl ((hV.cell (p := ⟨gd, 256, none⟩) K7.out.lt).trans C43.out)) ?_; simp only [Act.put, qA, qB, qC]
 refine mc_take (i := 17) (oi := ⟨some 44, _, _, _, _, _⟩) (v := ?_) rfl (by kernel_rfl) (by kernel_rfl) (by kernel_rfl) (fun _ _ _ h => h) rfl hX ?_ ?_; rotate_left; (intro W hW; go_simp; try with_reducible rfl); simp only [Act.put, qA, qB, qC]
 refine mc_take (i := 18) (oi := ⟨some 45, _, _, _, _, _⟩) (v := ?_) rfl (by kernel_rfl) (by kernel_rfl) (by kernel_rfl) (fun _ _ _ h => h) rfl hX ?_ ?_; rotate_left; (intro W hW; go_simp; try with_reducible rfl); simp only [Act.put, qA, qB, qC]
 refine mc_take (i := 19) (oi := ⟨some 46, _, _, _, _, _⟩) (v := ?_) rfl (by kernel_rfl) (by kernel_rfl) (by kernel_rfl) (fun _ _ _ h => h) rfl hX ?_ ?_; rotate_left; (intro W hW; go_simp; try with_reducible rfl); simp only [Act.put, qA, qB, qC]
 refine mc_take (i := 20) (oi := ⟨some 47, _, _, _, _, _⟩) (v := ?_) rfl (by kernel_rfl) (by kernel_rfl) (by kernel_rfl) (fun _ _ _ h => h) rfl hX ?_ ?_; rotate_left; (intro W hW; go_simp; try with_reducible rfl); simp only [Act.put, qA, qB, qC]
 refine mc_take (i := 21) (oi := ⟨some 48, _, _, _, _, _⟩) (v := .agg xs.toArray) rfl (by kernel_rfl) (by kernel_rfl) (by kernel_rfl) (fun _ _ _ h => h) rfl hX (fun V hT => ld_blk 28 (.tmp 10) rfl gx rfl 28 xs _ L7.out L7.out.lt Try.underlying28 rfl HXS.out V hT) ?_; simp only [Act.put, qA, qB, qC]
 refine mc_take (i := 23) (oi := ⟨some 50, _, _, _, _, _⟩) (v := .agg cs.toArray) rfl (by kernel_rfl) (by kernel_rfl) (by kernel_rfl) (fun _ _ _ h => h) rfl hX (fun V hT => ld_blk 28 (.tmp 9) rfl gd rfl 28 cs _ K7.out K7.out.lt Try.underlying28 rfl HSA.out V hT) ?_; simp only [Act.put, qA, qB, qC]
 refine mc_actB (i := 22) (o := ⟨some 49, _, _, _, _, _⟩) rfl (by kernel_rfl) rfl (fun K hK => ?_)
 have Y4 := qH hX
 go_wp2_with fail
 refine (refClasses11_any E xs v3 (X7.out.below hX)).mono ?_
 rintro e v4 ⟨rfl, hb⟩
 rw [HK2.out]
 have hX2 := Y4.out.trans (hb.mono Y4.out.size)
 clear hb
 go_wp2_with fail
 refine hK _ _ hX2 trivial ?_
 clear hK K hX
 have hX := hX2
 clear hX2
 (try simp only [Act.put, qA, qB, qC])
 refine mc_actB (i := 24) (o := ⟨some 51, _, _, _, _, _⟩) rfl (by kernel_rfl) rfl (fun K hK => ?_)
 have Y5 := qH hX
 go_wp2_with fail
 refine (refClasses11_any D cs v4 (V7.out.below hX)).mono ?_
 rintro e v5 ⟨rfl, hb⟩
 rw [HK.out]
 have hX2 := Y5.out.trans (hb.mono Y5.out.size)
 clear hb
 go_wp2_with fail
 refine hK _ _ hX2 trivial ?_
 clear hK K hX
 have hX := hX2
 clear hX2
 (try simp only [Act.put, qA, qB, qC])
 refine mc_take (i := 25) (oi := ⟨some 52, _, _, _, _, _⟩) (v := ?_) rfl (by kernel_rfl) (by kernel_rfl) (by kernel_rfl) (fun _ _ _ h => h) rfl hX ?_ ?_; rotate_left; (intro W hW; go_simp; try with_reducible rfl); simp only [Act.put, qA, qB, qC]
 refine mc_take (i := 26) (oi := ⟨some 53, _, _, _, _, _⟩) (v := ?_) rfl (by kernel_rfl) (by kernel_rfl) (by kernel_rfl) (fun _ _ _ h => h) rfl hX ?_ ?_; rotate_left; (intro W hW; go_simp; try with_reducible rfl); simp only [Act.put, qA, qB, qC]
 refine mc_take (i := 27) (oi := ⟨some 54, _, _, _, _, _⟩) (v := ?_) rfl (by kernel_rfl) (by kernel_rfl) (by kernel_rfl) (fun _ _ _ h => h) rfl hX ?_ ?_; rotate_left; (intro W hW; go_simp; try with_reducible rfl); simp only [Act.put, qA, qB, qC]
 refine mc_take (i := 28) (oi := ⟨some 55, _, _, _, _, _⟩) (v := .agg xs.toArray) rfl (by kernel_rfl) (by kernel_rfl) (by kernel_rfl) (fun _ _ _ h => h) rfl hX (fun V hT => ld_blk 28 (.tmp 10) rfl gx rfl 28 xs _ L7.out L7.out.lt Try.underlying28 rfl HXS.out V hT) ?_; simp only [Act.put, qA, qB, qC]
 refine mc_actB (i := 29) (o := ⟨some 56, _, _, _, _, _⟩) rfl (by kernel_rfl) rfl (fun K hK => ?_)
 have Y6 := qH hX
 go_wp2_with fail
 refine (HCC.out.is_ E xs v5 (X7.out.below hX) ME.out AE.out).mono ?_
 rintro e v6 ⟨rfl, hb⟩
 rw [HEX.out]
 have hX2 := Y6.out.trans (hb.mono Y6.out.size)
 clear hb
 go_wp2_with fail
 refine hK _ _ hX2 trivial ?_
 clear hK K hX
 have hX := hX2
 clear hX2
 (try simp only [Act.put, qA, qB, qC])
 refine mc_take (i := 30) (oi := ⟨some 57, _, _, _, _, _⟩) (v := ?_) rfl (by kernel_rfl) (by kernel_rfl) (by kernel_rfl) (fun _ _ _ h => h) rfl hX ?_ ?_; rotate_left; (intro W hW; go_simp; try with_reducible rfl); simp only [Act.put, qA, qB, qC]
 refine mc_take (i := 31) (oi := ⟨some 58, _, _, _, _, _⟩) (v := ?_) rfl (by kernel_rfl) (by kernel_rfl) (by kernel_rfl) (fun _ _ _ h => h) rfl hX ?_ ?_; rotate_left; (intro W hW; go_simp; try with_reducible rfl); simp only [Act.put, qA, qB, qC]
 refine mc_take (i := 32) (oi := ⟨some 59, _, _, _, _, _⟩) (v := .agg xs.toArray) rfl (by kernel_rfl) (by kernel_rfl) (by kernel_rfl) (fun _ _ _ h => h) rfl hX (fun V hT => ld_blk 28 (.tmp 10) rfl gx rfl 28 xs _ L7.out L7.out.lt Try.underlying28 rfl HXS.out V hT) ?_; simp only [Act.put, qA, qB, qC]
 refine mc_take (i := 34) (oi := ⟨some 61, _, _, _, _, _⟩) (v := .agg xs.toArray) rfl (by kernel_rfl) (by kernel_rfl) (by kernel_rfl) (fun _ _ _ h => h) rfl hX (fun V hT => ld_blk 28 (.tmp 10) rfl gx rfl 28 xs _ L7.out L7.out.lt Try.underlying28 rfl HXS.out V hT) ?_; simp only [Act.put, qA, qB, qC]
 refine mc_actB (i := 33) (o := ⟨some 60, _, _, _, _, _⟩) rfl (by kernel_rfl) rfl (fun K hK => ?_)
 have Y7 := qH hX
 go_wp2_with fail
 refine (HCC.out.least E xs v6 (X7.out.below hX) ME.out AE.out).mono ?_
 rintro e v7 ⟨ys, rfl, hd, hb⟩
 rw [← HTE.out] at hd
 have VY := qH hd
 clear hd
 have hX2 := Y7.out.trans (hb.mono Y7.out.size)
 clear hb
 go_wp2_with fail
 refine hK _ _ hX2 trivial ?_
 clear hK K hX
 have hX := hX2
 clear hX2
 (try simp only [Act.put, qA, qB, qC])
 refine mc_actB (i := 35) (o := ⟨some 62, _, _, _, _, _⟩) rfl (by kernel_rfl) rfl (fun K hK => ?_)
 have Y8 := qH hX
 go_wp2_with fail
 refine (refSame11_self E ys xs v7 (VY.out.below (Below.refl _ _)) (X7.out.below hX) (by rw [ME.out.ends]; exact ME.out.few) ME.out.few (fun r hr => by rw [ME.out.rows r hr]; exact Nat.le_trans (clsA_le _) (by decide))).mono ?_
 rintro e v8 ⟨rfl, hb⟩
 have hX2 := Y8.out.trans (hb.mono Y8.out.size)
 clear hb
 go_wp2_with fail
 refine hK _ _ hX2 trivial ?_
 clear hK K hX
 have hX := hX2
 clear hX2
 (try simp only [Act.put, qA, qB, qC])
 refine mc_take (i := 36) (oi := ⟨some 63, _, _, _, _, _⟩) (v := ?_) rfl (by kernel_rfl) (by kernel_rfl) (by kernel_rfl) (fun _ _ _ h => h) rfl hX ?_ ?_; rotate_left; (intro W hW; go_simp; try with_reducible rfl); simp only [Act.put, qA, qB, qC]
 refine mc_take (i := 37) (oi := ⟨some 8, _, _, _, _, _⟩) (v := ?_) rfl (by kernel_rfl) (by kernel_rfl) (by kernel_rfl) (fun _ _ _ h => h) rfl hX ?_ ?_; rotate_left; (intro W hW; go_simp; try with_reducible rfl); simp only [Act.put, qA, qB, qC]
 refine wpAnyC_done (by kernel_rfl) ?_ _
 have BE := qH (B7.out.trans (hX.mono B7.out.size))
 clear hX hY
 go_wp2_with fail
 go_ret
 exact ⟨rfl, BE.out⟩
end Go.Proofs.Ytlohehcfplkjbaa
