/-
  Texts of this proof, put together: FlM, PgM, LvA, PmM. No statement is proved here.
-/
import Derived.Test.YtbbodfpnneifgaaYY
import Derived.Test.YtbbodfpnneifgaaYV
import Derived.Test.YtbbodfpnneifgaaYF
import Derived.Test.YtbbodfpnneifgaaYH
import Derived.Test.YtbbodfpnneifgaaYE
namespace Go.Proofs.Ytbbodfpnneifgaa
open Go.RowKit
set_option linter.unusedSimpArgs false
set_option linter.unusedVariables false
theorem k8 (n : Nat) : 1 + n % 8 ≤ 8 := by omega
set_option maxHeartbeats 8000000 in
set_option maxRecDepth 1000000 in
theorem flips_walk (n c : Nat) (V : Value) (ps : List UInt8) (w : World) (hn : n < 256) (hc : c < 256) (hr : Row w V (bvs ps)) :
  Calls Try.prog 5 #[.int .u8 (n : Int), .int .u8 (c : Int), V] w fun e w' => e = .returned (.bool true) ∧ Below w.heap.size w w' := by
 have R := qH hr
 obtain ⟨A, cap, rfl, _⟩ := hr
 rw [bvs_length] at R ⊢
 have HN := qH hn
 have HC := qH hc
 obtain ⟨d0, hd0⟩ : ∃ d0, d0 = dcl (ctab [] 0) (.slice none 0 0) (.slice none 0 0) := ⟨_, rfl⟩
 have HDL := qH (show d0.length = 258 by rw [hd0]; exact dcl_len (ctab_length _ _))
 obtain ⟨id, hid, hdz⟩ := Option.map_eq_some_iff.1 inf_dfa
 rw [← hd0] at hdz
 have HDZ := qH hdz
 clear hd0 hdz hn hc
 go_enter Try.func5, Try.ntmps5
 go_wp2_with fail
 refine (begun11_any w).mono ?_
 rintro e w1 ⟨rfl, hb⟩
 have B1 := qH hb
 clear hb
 by_cases hl : 60 < ps.length
 ·have x1 : (60 : Int) < (ps.length : Int) := Int.ofNat_lt.2 hl
  clear hl
  go_wp2_with fail
  go_ret
  exact ⟨rfl, B1.out⟩
 have x1 : ¬ (60 : Int) < (ps.length : Int) := fun h => hl (Int.ofNat_lt.1 h)
 have HL := qH (Nat.le_of_not_lt hl)
 clear hl
 go_wp2_with fail
 refine (playDfa_any n c ps _ w1 HN.out HC.out (R.out.below B1.out) HL.out).mono ?_
 rintro e w2 ⟨cs, rfl, hd, hb⟩
 obtain ⟨D, hD⟩ : ∃ D, D = dfaQ n c ps := ⟨_, rfl⟩
 rw [← hD] at hd
 have HM := qH (show MayD D by rw [hD]; exact dfaQ_may n c ps)
 have HK8 := qH (show D.next.length ≤ 8 by rw [hD, dfaQ_len]; exact k8 n)
 clear hD
 have VA := qH hd.dfa
 obtain ⟨An, Ae, cn, ce, vf, hcl, hcs, _⟩ := VA.out.form
 have HCS := qH hcs
 have HCLN := qH hcl
 have HLA := qH (show cs.length = 258 by rw [hcs]; exact dcl_len hcl)
 have HOA := qH (show cs.all (·.oneCell') = true by rw [hcs]; exact dcl_one)
 have HSA := qH (show (Try.prog.info? 28).map (·.size) = some cs.length from VA.out.size)
 have B2 := qH (B1.out.trans (hb.mono B1.out.size))
 clear hd hb hcl hcs
 go_wp2_with (first
  | ((with_reducible refine atDst 7 ?_); refine wpList_new rfl 28 rfl id _ d0 hid HDZ.out rfl (Below.refl w2.heap.size w2) (Nat.le_refl _) ?_; intro w3 hk hb hs _; have K3 := qH hk; have B23 := qH hb; clear hk hb hs; (try simp only [Act.put, qA, qB, qC]))
  | ((with_reducible refine atStore 28 7 20 ?_); refine wpList_stBlk rfl 28 _ _ rfl w2.heap.size cs rfl rfl 28 _ K3.out HSA.out (by rw [HDL.out, HLA.out]) HOA.out B23.out (Nat.le_refl _) ?_; intro w4 hk hb hs ho; have K4 := qH hk; have V4 := qH (VA.out.below hb); have B4 := qH (B2.out.trans (hb.mono B2.out.size)); clear hk hb hs ho; (try simp only [Act.put, qA, qB, qC]))
  | ((with_reducible refine atDst 21 ?_); refine wpList_ldArr rfl 28 _ rfl w2.heap.size rfl 28 _ _ K4.out Try.underlying28 rfl HSA.out ?_; (try simp only [Act.put, qA, qB, qC])))
 refine (mFlip_any D cs w4 V4.out).mono ?_
 rintro e w5 ⟨fs, rfl, hd, hb⟩
 rw [flipG_of HM.out] at hd
 obtain ⟨F, hF⟩ : ∃ F, F = flipD D := ⟨_, rfl⟩
 rw [← hF] at hd
 have HF := qH hF
 have HMF := qH (show MayD F by rw [hF]; exact flipD_may HM.out)
 have HFL := qH (show F.next.length = D.next.length by rw [hF]; rfl)
 have HFF := qH (show flipG F = D by rw [flipG_of HMF.out, hF]; exact flipD_twice D)
 have HFN := qH (show decide (F = D) = false by rw [hF]; exact flip_not HM.out)
 have HFC := qH (show clsG F = clsG D by rw [hF]; exact clsG_flip HM.out)
 have HFR := qH (show rchG F = rchG D by rw [hF]; exact rchG_flip HM.out)
 have HOR := qH (show ∀ i, i < D.next.length → livM D i = true ∨ livM F i = true from fun i hi => by rw [hF]; exact liv_or HM.out hi)
 have VF5 := qH hd
 obtain ⟨An2, Ae2, cn2, ce2, vf2, hcl, hcs, _⟩ := hd.form
 have HLF := qH (show fs.length = 258 by rw [hcs]; exact dcl_len hcl)
 have HOF := qH (show fs.all (·.oneCell') = true by rw [hcs]; exact dcl_one)
 have HSF := qH (show (Try.prog.info? 28).map (·.size) = some fs.length from VF5.out.size)
 have K5 := qH (K4.out.below hb K4.out.lt)
 have V5 := qH (V4.out.below hb)
 have B5 := qH (B4.out.trans (hb.mono B4.out.size))
 clear hd hb hcl hcs hF
 go_wp2_with (first
  | ((with_reducible refine atDst 8 ?_); refine wpList_new rfl 28 rfl id _ d0 hid HDZ.out rfl (Below.refl w5.heap.size w5) (Nat.le_refl _) ?_; intro w6 hk hb hs _; have K6 := qH hk; have B56 := qH hb; clear hk hb hs; (try simp only [Act.put, qA, qB, qC]))
  | ((with_reducible refine atStore 28 8 22 ?_); refine wpList_stBlk rfl 28 _ _ rfl w5.heap.size fs rfl rfl 28 _ K6.out HSF.out (by rw [HDL.out, HLF.out]) HOF.out B56.out (Nat.le_refl _) ?_; intro w7 hk hb hs ho; have K7 := qH hk; have J7 := qH (K5.out.below hb K5.out.lt); have V7 := qH (V5.out.below hb); have F7 := qH (VF5.out.below hb); have B7 := qH (B5.out.trans (hb.mono B5.out.size)); clear hk hb hs ho; (try simp only [Act.put, qA, qB, qC])))
 obtain ⟨gd, hgd⟩ : ∃ g, g = w2.heap.size := ⟨_, rfl⟩
 obtain ⟨gf, hgf⟩ : ∃ g, g = w5.heap.size := ⟨_, rfl⟩
 rw [← hgd] at J7
 rw [← hgf] at K7
 rw [← hgd, ← hgf]
 clear hgd hgf K4 K5 K6 K3 B23 B56 V4 V5 VF5 VA
 refine mc_start (fun V => Below w7.heap.size w7 V) (fun _ => True) 6 (by kernel_rfl) (fun wd hwd => ?_)
 have hX : Below w7.heap.size w7 wd := by rw [hwd]; exact (Below.refl _ _).drew
 have hY : True := trivial
 clear hwd
 refine mc_take (i := 0) (oi := ⟨some 23, _, _, _, _, _⟩) (v := .agg cs.toArray) rfl (by kernel_rfl) (by kernel_rfl) (by kernel_rfl) (fun _ _ _ h => h) rfl hX (fun V hT => ld_blk 28 (.tmp 7) rfl gd rfl 28 cs _ J7.out J7.out.lt Try.underlying28 rfl HSA.out V hT) ?_; simp only [Act.put, qA, qB, qC]
 refine mc_take (i := 2) (oi := ⟨some 25, _, _, _, _, _⟩) (v := .agg fs.toArray) rfl (by kernel_rfl) (by kernel_rfl) (by kernel_rfl) (fun _ _ _ h => h) rfl hX (fun V hT => ld_blk 28 (.tmp 8) rfl gf rfl 28 fs _ K7.out K7.out.lt Try.underlying28 rfl HSF.out V hT) ?_; simp only [Act.put, qA, qB, qC]
 refine mc_actB (i := 1) (o := ⟨some 24, _, _, _, _, _⟩) rfl (by kernel_rfl) rfl (fun K hK => ?_)
 have Y1 := qH hX
 go_wp2_with fail
 refine (mcLive_any D cs wd (V7.out.below hX)).mono ?_
 rintro e v1 ⟨za, rfl, hr, hb⟩
 have hr0 := hr
 obtain ⟨A1, c1, hza, _⟩ := hr0
 rw [bools_length, lvgG_len HM.out] at hza
 subst hza
 have RA := qH hr
 clear hr
 have hX2 := Y1.out.trans (hb.mono Y1.out.size)
 clear hb
 go_wp2_with fail
 refine hK _ _ hX2 trivial ?_
 clear hK K hX
 have hX := hX2
 clear hX2
 (try simp only [Act.put, qA, qB, qC])
 refine mc_actB (i := 3) (o := ⟨some 26, _, _, _, _, _⟩) rfl (by kernel_rfl) rfl (fun K hK => ?_)
 have Y2 := qH hX
 go_wp2_with fail
 refine (mcLive_any F fs v1 (F7.out.below hX)).mono ?_
 rintro e v2 ⟨zb, rfl, hr, hb⟩
 have hr0 := hr
 obtain ⟨A2, c2, hzb, _⟩ := hr0
 rw [bools_length, lvgG_len HMF.out, HFL.out] at hzb
 subst hzb
 have RB := qH hr
 have RA2 := qH (RA.out.below hb)
 clear hr
 have hX2 := Y2.out.trans (hb.mono Y2.out.size)
 clear hb
 go_wp2_with fail
 refine hK _ _ hX2 trivial ?_
 clear hK K hX
 have hX := hX2
 clear hX2
 (try simp only [Act.put, qA, qB, qC])
 refine mc_take (i := 4) (oi := ⟨some 9, _, _, _, _, _⟩) (v := ?_) rfl (by kernel_rfl) (by kernel_rfl) (by kernel_rfl) (fun _ _ _ h => h) rfl hX ?_ ?_; rotate_left; (intro W hW; go_simp; try with_reducible rfl); simp only [Act.put, qA, qB, qC]
 refine mc_take (i := 5) (oi := ⟨some 10, _, _, _, _, _⟩) (v := ?_) rfl (by kernel_rfl) (by kernel_rfl) (by kernel_rfl) (fun _ _ _ h => h) rfl hX ?_ ?_; rotate_left; (intro W hW; go_simp; try with_reducible rfl); simp only [Act.put, qA, qB, qC]
 refine wpAnyC_done (by kernel_rfl) ?_ _
 have J8 := qH (J7.out.below hX J7.out.lt)
 have K8 := qH (K7.out.below hX K7.out.lt)
 have V8 := qH (V7.out.below hX)
 have F8 := qH (F7.out.below hX)
 have B8 := qH (B7.out.trans (hX.mono B7.out.size))
 obtain ⟨w8, hw8⟩ : ∃ v : World, v = v2 := ⟨_, rfl⟩
 subst hw8
 clear hX hY
 obtain ⟨m, hm⟩ : ∃ m, m = D.next.length := ⟨_, rfl⟩
 have HMD := qH hm
 rw [← hm] at RA2 HCS HK8 HOR RB RA ⊢
 have c256 : w8.cell? ⟨gd, 256, none⟩ = some (.slice An m cn) := by rw [J8.out.cell 256, HCS.out]; exact dcl_n HCLN.out
 have x2 : ((m : Int) != (m : Int)) = false := by simp
 clear hm
 go_wp2_with fail
 clear c256
 go_loopw [11] (fun v wl => ∃ i : Nat, i ≤ m ∧ v = .int .i64 (i : Int) ∧ Below w8.heap.size w8 wl) (fun v _ => m - (intOf v).toNat)
 case atStart => exact ⟨0, Nat.zero_le _, rfl, Below.refl _ _⟩
 obtain ⟨i, hi, rfl, hb⟩ := hrel
 have HI := qH hi
 have HB := qH hb
 clear hi hb
 by_cases him : i < m
 ·have y1 : (i : Int) < (m : Int) := Int.ofNat_lt.2 him
  have HIM := qH him
  have HMI := qH (sub_next him)
  have e3 := wrap_one i (lt_bigN him (Nat.le_trans HK8.out (by decide)))
  have e4 := wrap_one' i (lt_bigN him (Nat.le_trans HK8.out (by decide)))
  obtain ⟨b1, o1, rfl, hb1, hc1⟩ := (RA2.out.below HB.out).at_ (by rw [bools_length, lvgG_len HM.out, ← HMD.out]; exact Nat.lt_of_le_of_lt (Nat.zero_le _) him)
  obtain ⟨b2, o2, rfl, hb2, hc2⟩ := (RB.out.below HB.out).at_ (by rw [bools_length, lvgG_len HMF.out, HFL.out, ← HMD.out]; exact Nat.lt_of_le_of_lt (Nat.zero_le _) him)
  obtain ⟨p, hp⟩ : ∃ b, livM D i = b := ⟨_, rfl⟩
  obtain ⟨q, hq⟩ : ∃ b, livM F i = b := ⟨_, rfl⟩
  have k1 : wr.cell? ⟨b1, o1 + i, none⟩ = some (.bool p) := hc1 i _ (by rw [bools, List.getElem?_map, lvgG_at HM.out (by rw [← HMD.out]; exact him), hp]; rfl)
  have k2 : wr.cell? ⟨b2, o2 + i, none⟩ = some (.bool q) := hc2 i _ (by rw [bools, List.getElem?_map, lvgG_at HMF.out (by rw [HFL.out, ← HMD.out]; exact him), hq]; rfl)
  have hpq := HOR.out i him
  rw [hp, hq] at hpq
  have HPQ := qH hpq
  clear him hb1 hc1 hb2 hc2 hp hq hpq
  cases p with
  | true =>
   go_wp2_with fail
   exact ⟨⟨i + 1, HIM.out, by congr 1, HB.out⟩, by simpa [intOf] using HMI.out⟩
  | false =>
   cases q with
   | true =>
    go_wp2_with fail
    exact ⟨⟨i + 1, HIM.out, by congr 1, HB.out⟩, by simpa [intOf] using HMI.out⟩
   | false => exact absurd HPQ.out (by simp)
 ·obtain rfl : i = m := Nat.le_antisymm HI.out (Nat.le_of_not_lt him)
  have y1 : ¬ ((i : Int) < (i : Int)) := Int.lt_irrefl _
  have JR := qH (J8.out.below HB.out J8.out.lt)
  have KR := qH (K8.out.below HB.out K8.out.lt)
  have VR := qH (V8.out.below HB.out)
  have FR := qH (F8.out.below HB.out)
  have BR := qH (B8.out.trans (HB.out.mono B8.out.size))
  have HD2 := qH (show D.next.length ≤ 2000 ∧ D.ends.length ≤ 2000 ∧ ∀ r ∈ D.next, r.length ≤ 2000 from ⟨HM.out.few, by rw [HM.out.ends]; exact HM.out.few, fun r hr => by rw [HM.out.rows r hr]; exact Nat.le_trans (clsA_le _) (by decide)⟩)
  have HF2 := qH (show F.next.length ≤ 2000 ∧ F.ends.length ≤ 2000 ∧ ∀ r ∈ F.next, r.length ≤ 2000 from ⟨HMF.out.few, by rw [HMF.out.ends]; exact HMF.out.few, fun r hr => by rw [HMF.out.rows r hr]; exact Nat.le_trans (clsA_le _) (by decide)⟩)
  obtain ⟨w9, hw9⟩ : ∃ v : World, v = wr := ⟨_, rfl⟩
  subst hw9
  clear him
  go_wp2_with fail
  refine mc_start (fun V => Below w9.heap.size w9 V) (fun _ => True) 25 (by kernel_rfl) (fun wd hwd => ?_)
  have hX : Below w9.heap.size w9 wd := by rw [hwd]; exact (Below.refl _ _).drew
  have hY : True := trivial
  clear hwd
  refine mc_take (i := 0) (oi := ⟨some 58, _, _, _, _, _⟩) (v := .agg fs.toArray) rfl (by kernel_rfl) (by kernel_rfl) (by kernel_rfl) (fun _ _ _ h => h) rfl hX (fun V hT => ld_blk 28 (.tmp 8) rfl gf rfl 28 fs _ KR.out KR.out.lt Try.underlying28 rfl HSF.out V hT) ?_; simp only [Act.put, qA, qB, qC]
  refine mc_take (i := 2) (oi := ⟨some 60, _, _, _, _, _⟩) (v := .agg cs.toArray) rfl (by kernel_rfl) (by kernel_rfl) (by kernel_rfl) (fun _ _ _ h => h) rfl hX (fun V hT => ld_blk 28 (.tmp 7) rfl gd rfl 28 cs _ JR.out JR.out.lt Try.underlying28 rfl HSA.out V hT) ?_; simp only [Act.put, qA, qB, qC]
  refine mc_actB (i := 1) (o := ⟨some 59, _, _, _, _, _⟩) rfl (by kernel_rfl) rfl (fun K hK => ?_)
  have Y3 := qH hX
  go_wp2_with fail
  refine (mFlip_any F fs wd (FR.out.below hX)).mono ?_
  rintro e v3 ⟨gs, rfl, hd, hb⟩
  rw [HFF.out] at hd
  have VG := qH hd
  clear hd
  have hX2 := Y3.out.trans (hb.mono Y3.out.size)
  clear hb
  go_wp2_with fail
  refine hK _ _ hX2 trivial ?_
  clear hK K hX
  have hX := hX2
  clear hX2
  (try simp only [Act.put, qA, qB, qC])
  refine mc_actB (i := 3) (o := ⟨some 61, _, _, _, _, _⟩) rfl (by kernel_rfl) rfl (fun K hK => ?_)
  have Y4 := qH hX
  go_wp2_with fail
  refine (mSame_any D D gs cs v3 VG.out (VR.out.below hX) HD2.out.1 HD2.out.2.1 HD2.out.2.2).mono ?_
  rintro e v4 ⟨rfl, hb⟩
  rw [decide_eq_true rfl]
  have hX2 := Y4.out.trans (hb.mono Y4.out.size)
  clear hb
  go_wp2_with fail
  refine hK _ _ hX2 trivial ?_
  clear hK K hX
  have hX := hX2
  clear hX2
  (try simp only [Act.put, qA, qB, qC])
  refine mc_take (i := 4) (oi := ⟨some 62, _, _, _, _, _⟩) (v := ?_) rfl (by kernel_rfl) (by kernel_rfl) (by kernel_rfl) (fun _ _ _ h => h) rfl hX ?_ ?_; rotate_left; (intro W hW; go_simp; try with_reducible rfl); simp only [Act.put, qA, qB, qC]
  refine mc_take (i := 5) (oi := ⟨some 63, _, _, _, _, _⟩) (v := .agg fs.toArray) rfl (by kernel_rfl) (by kernel_rfl) (by kernel_rfl) (fun _ _ _ h => h) rfl hX (fun V hT => ld_blk 28 (.tmp 8) rfl gf rfl 28 fs _ KR.out KR.out.lt Try.underlying28 rfl HSF.out V hT) ?_; simp only [Act.put, qA, qB, qC]
  refine mc_take (i := 6) (oi := ⟨some 64, _, _, _, _, _⟩) (v := .agg cs.toArray) rfl (by kernel_rfl) (by kernel_rfl) (by kernel_rfl) (fun _ _ _ h => h) rfl hX (fun V hT => ld_blk 28 (.tmp 7) rfl gd rfl 28 cs _ JR.out JR.out.lt Try.underlying28 rfl HSA.out V hT) ?_; simp only [Act.put, qA, qB, qC]
  refine mc_actB (i := 7) (o := ⟨some 65, _, _, _, _, _⟩) rfl (by kernel_rfl) rfl (fun K hK => ?_)
  have Y5 := qH hX
  go_wp2_with fail
  refine (mSame_any F D fs cs v4 (FR.out.below hX) (VR.out.below hX) HF2.out.1 HF2.out.2.1 HF2.out.2.2).mono ?_
  rintro e v5 ⟨rfl, hb⟩
  rw [HFN.out]
  have hX2 := Y5.out.trans (hb.mono Y5.out.size)
  clear hb
  go_wp2_with fail
  refine hK _ _ hX2 trivial ?_
  clear hK K hX
  have hX := hX2
  clear hX2
  (try simp only [Act.put, qA, qB, qC])
  refine mc_take (i := 8) (oi := ⟨some 66, _, _, _, _, _⟩) (v := ?_) rfl (by kernel_rfl) (by kernel_rfl) (by kernel_rfl) (fun _ _ _ h => h) rfl hX ?_ ?_; rotate_left; (intro W hW; go_simp; try with_reducible rfl); simp only [Act.put, qA, qB, qC]
  refine mc_take (i := 9) (oi := ⟨some 67, _, _, _, _, _⟩) (v := ?_) rfl (by kernel_rfl) (by kernel_rfl) (by kernel_rfl) (fun _ _ _ h => h) rfl hX ?_ ?_; rotate_left; (intro W hW; go_simp; try with_reducible rfl); simp only [Act.put, qA, qB, qC]
  refine mc_take (i := 10) (oi := ⟨some 68, _, _, _, _, _⟩) (v := ?_) rfl (by kernel_rfl) (by kernel_rfl) (by kernel_rfl) (fun _ _ _ h => h) rfl hX ?_ ?_; rotate_left; (intro W hW; go_simp; try with_reducible rfl); simp only [Act.put, qA, qB, qC]
  refine mc_take (i := 11) (oi := ⟨some 69, _, _, _, _, _⟩) (v := .agg fs.toArray) rfl (by kernel_rfl) (by kernel_rfl) (by kernel_rfl) (fun _ _ _ h => h) rfl hX (fun V hT => ld_blk 28 (.tmp 8) rfl gf rfl 28 fs _ KR.out KR.out.lt Try.underlying28 rfl HSF.out V hT) ?_; simp only [Act.put, qA, qB, qC]
  refine mc_take (i := 13) (oi := ⟨some 71, _, _, _, _, _⟩) (v := .agg cs.toArray) rfl (by kernel_rfl) (by kernel_rfl) (by kernel_rfl) (fun _ _ _ h => h) rfl hX (fun V hT => ld_blk 28 (.tmp 7) rfl gd rfl 28 cs _ JR.out JR.out.lt Try.underlying28 rfl HSA.out V hT) ?_; simp only [Act.put, qA, qB, qC]
  refine mc_actB (i := 12) (o := ⟨some 70, _, _, _, _, _⟩) rfl (by kernel_rfl) rfl (fun K hK => ?_)
  have Y6 := qH hX
  go_wp2_with fail
  refine (mClasses_any F fs v5 (FR.out.below hX)).mono ?_
  rintro e v6 ⟨rfl, hb⟩
  rw [HFC.out]
  have hX2 := Y6.out.trans (hb.mono Y6.out.size)
  clear hb
  go_wp2_with fail
  refine hK _ _ hX2 trivial ?_
  clear hK K hX
  have hX := hX2
  clear hX2
  (try simp only [Act.put, qA, qB, qC])
  refine mc_actB (i := 14) (o := ⟨some 72, _, _, _, _, _⟩) rfl (by kernel_rfl) rfl (fun K hK => ?_)
  have Y7 := qH hX
  go_wp2_with fail
  refine (mClasses_any D cs v6 (VR.out.below hX)).mono ?_
  rintro e v7 ⟨rfl, hb⟩
  have z9 : ((clsG D : Int) == (clsG D : Int)) = true := by simp
  have hX2 := Y7.out.trans (hb.mono Y7.out.size)
  clear hb
  go_wp2_with fail
  refine hK _ _ hX2 trivial ?_
  clear hK K hX
  have hX := hX2
  clear hX2
  (try simp only [Act.put, qA, qB, qC])
  refine mc_take (i := 15) (oi := ⟨some 73, _, _, _, _, _⟩) (v := ?_) rfl (by kernel_rfl) (by kernel_rfl) (by kernel_rfl) (fun _ _ _ h => h) rfl hX ?_ ?_; rotate_left; (intro W hW; go_simp; try with_reducible rfl); simp only [Act.put, qA, qB, qC]
  refine mc_take (i := 16) (oi := ⟨some 74, _, _, _, _, _⟩) (v := ?_) rfl (by kernel_rfl) (by kernel_rfl) (by kernel_rfl) (fun _ _ _ h => h) rfl hX ?_ ?_; rotate_left; (intro W hW; go_simp; try with_reducible rfl); simp only [Act.put, qA, qB, qC]
  refine mc_take (i := 17) (oi := ⟨some 75, _, _, _, _, _⟩) (v := ?_) rfl (by kernel_rfl) (by kernel_rfl) (by kernel_rfl) (fun _ _ _ h => h) rfl hX ?_ ?_; rotate_left; (intro W hW; go_simp; try with_reducible rfl); simp only [Act.put, qA, qB, qC]
  refine mc_take (i := 18) (oi := ⟨some 76, _, _, _, _, _⟩) (v := .agg fs.toArray) rfl (by kernel_rfl) (by kernel_rfl) (by kernel_rfl) (fun _ _ _ h => h) rfl hX (fun V hT => ld_blk 28 (.tmp 8) rfl gf rfl 28 fs _ KR.out KR.out.lt Try.underlying28 rfl HSF.out V hT) ?_; simp only [Act.put, qA, qB, qC]
  refine mc_take (i := 20) (oi := ⟨some 78, _, _, _, _, _⟩) (v := .agg cs.toArray) rfl (by kernel_rfl) (by kernel_rfl) (by kernel_rfl) (fun _ _ _ h => h) rfl hX (fun V hT => ld_blk 28 (.tmp 7) rfl gd rfl 28 cs _ JR.out JR.out.lt Try.underlying28 rfl HSA.out V hT) ?_; simp only [Act.put, qA, qB, qC]
  refine mc_actB (i := 19) (o := ⟨some 77, _, _, _, _, _⟩) rfl (by kernel_rfl) rfl (fun K hK => ?_)
  have Y8 := qH hX
  go_wp2_with fail
  refine (mcReach_any F fs v7 (FR.out.below hX)).mono ?_
  rintro e v8 ⟨zr, rfl, hr, hb⟩
  rw [HFR.out] at hr
  have RR := qH hr
  clear hr
  have hX2 := Y8.out.trans (hb.mono Y8.out.size)
  clear hb
  go_wp2_with fail
  refine hK _ _ hX2 trivial ?_
  clear hK K hX
  have hX := hX2
  clear hX2
  (try simp only [Act.put, qA, qB, qC])
  refine mc_actB (i := 21) (o := ⟨some 79, _, _, _, _, _⟩) rfl (by kernel_rfl) rfl (fun K hK => ?_)
  have Y9 := qH hX
  go_wp2_with fail
  refine (mcReach_any D cs v8 (VR.out.below hX)).mono ?_
  rintro e v9 ⟨zs, rfl, hr, hb⟩
  have RS := qH hr
  have RR2 := qH (RR.out.below hb)
  clear hr
  have hX2 := Y9.out.trans (hb.mono Y9.out.size)
  clear hb
  go_wp2_with fail
  refine hK _ _ hX2 trivial ?_
  clear hK K hX
  have hX := hX2
  clear hX2
  (try simp only [Act.put, qA, qB, qC])
  refine mc_actB (i := 22) (o := ⟨some 80, _, _, _, _, _⟩) rfl (by kernel_rfl) rfl (fun K hK => ?_)
  have Y10 := qH hX
  go_wp2_with fail
  refine (sameBools_any (rchG D) (rchG D) zr zs v9 RR2.out RS.out (by rw [rchG_len HM.out]; exact HM.out.few)).mono ?_
  rintro e v10 ⟨rfl, hb⟩
  rw [decide_eq_true rfl]
  have hX2 := Y10.out.trans (hb.mono Y10.out.size)
  clear hb
  go_wp2_with fail
  refine hK _ _ hX2 trivial ?_
  clear hK K hX
  have hX := hX2
  clear hX2
  (try simp only [Act.put, qA, qB, qC])
  refine mc_take (i := 23) (oi := ⟨some 81, _, _, _, _, _⟩) (v := ?_) rfl (by kernel_rfl) (by kernel_rfl) (by kernel_rfl) (fun _ _ _ h => h) rfl hX ?_ ?_; rotate_left; (intro W hW; go_simp; try with_reducible rfl); simp only [Act.put, qA, qB, qC]
  refine mc_take (i := 24) (oi := ⟨some 6, _, _, _, _, _⟩) (v := ?_) rfl (by kernel_rfl) (by kernel_rfl) (by kernel_rfl) (fun _ _ _ h => h) rfl hX ?_ ?_; rotate_left; (intro W hW; go_simp; try with_reducible rfl); simp only [Act.put, qA, qB, qC]
  refine wpAnyC_done (by kernel_rfl) ?_ _
  have BE := qH (BR.out.trans (hX.mono BR.out.size))
  clear hX hY
  go_wp2_with fail
  go_ret
  exact ⟨rfl, BE.out⟩
theorem stD_in {D : Dm} (hm : MayD D) (hl : D.cl.length = 256) {i : Nat} (hi : i < D.next.length) (b : UInt8) : (stD D i b : Int) ∈ stpL D D.cl i := by
 have hb : b.toNat < D.cl.length := by rw [hl]; exact UInt8.toNat_lt b
 have h1 : D.cl.getD b.toNat 0 ∈ D.cl := by
  rw [List.getD_eq_getElem?_getD, List.getElem?_eq_getElem hb]
  exact List.getElem_mem hb
 have h2 : (nxt D i)[(D.cl.getD b.toNat 0).toNat]?.getD 0 ∈ stpL D D.cl i := List.mem_map.2 ⟨_, h1, rfl⟩
 have h3 := (stpL_rng hm hl (fun _ => Iff.rfl) hi _ h2).1
 have h4 : (stD D i b : Int) = (nxt D i)[(D.cl.getD b.toNat 0).toNat]?.getD 0 := by
  unfold stD
  rw [List.getD_eq_getElem?_getD]
  exact Int.toNat_of_nonneg h3
 rw [h4]
 exact h2
theorem stD_ltM {D : Dm} (hm : MayD D) (hl : D.cl.length = 256) {i : Nat} (hi : i < D.next.length) (b : UInt8) : stD D i b < D.next.length :=
 Int.ofNat_lt.1 (stpL_rng hm hl (fun _ => Iff.rfl) hi _ (stD_in hm hl hi b)).2
theorem rea_zero (D : Dm) : reaM D 0 = true := sprB_iff.2 (.base (List.mem_singleton.2 rfl))
theorem rea_to {D : Dm} (hm : MayD D) (hl : D.cl.length = 256) : ∀ (w : List UInt8) (i : Nat), i < D.next.length → reaM D i = true → reaM D (toD D i w) = true
 | [], _, _, h => h
 | b :: w, i, hi, h => rea_to hm hl w (stD D i b) (stD_ltM hm hl hi b) (sprB_iff.2 (.go (sprB_iff.1 h) (stD_in hm hl hi b)))
theorem liv_to {D : Dm} (hm : MayD D) (hl : D.cl.length = 256) : ∀ (w : List UInt8) (i : Nat), i < D.next.length → D.ends[toD D i w]? = some true → livM D i = true
 | [], _, _, h => liv_base h
 | b :: w, i, hi, h => sprB_iff.2 (.go (sprB_iff.1 (liv_to hm hl w (stD D i b) (stD_ltM hm hl hi b) h)) ((trI_mem _).2 ⟨i, hi, rfl, stD_in hm hl hi b⟩))
theorem toG_inM {D : Dm} (hm : MayD D) {i : Nat} (hi : i < D.next.length) (w : List UInt8) : toG D (i : Int) w = (toD D i w : Int) := by
 unfold toG
 rw [if_pos ⟨mayDB_yes hm, Int.natCast_nonneg _, Int.ofNat_lt.2 hi⟩, Int.toNat_natCast]
theorem rchG_at {D : Dm} (h : MayD D) {i : Nat} (hi : i < D.next.length) : (rchG D)[i]? = some (reaM D i) := by
 rw [rchG_of h, List.getElem?_map, List.getElem?_range hi]
 rfl
theorem bools_bcs {E : List Bool} {n : Nat} (h : E.length = n) : bools E = bcs n fun q => E[q]?.getD false := by
 apply List.ext_getElem?
 intro q
 unfold bools bcs
 by_cases hq : q < n
 ·simp [hq, List.getElem?_eq_getElem (show q < E.length by omega)]
 ·rw [List.getElem?_eq_none (by simp; omega), List.getElem?_eq_none (by simp; omega)]
theorem pw_first {D : Dm} {n : Nat} {t0 : Nat → Bool} (h : t0 = fun q => D.ends[q]?.getD false) : Pw D n true t0 := by
 subst h
 refine ⟨fun q _ h => by simp only [h]; rfl, fun q _ h => .base ?_, fun h => (by cases h)⟩
 cases he : D.ends[q]? with
 | none => rw [he] at h; cases h
 | some b => rw [he] at h; rw [show b = true from h]
theorem Pw.liv {D : Dm} {n : Nat} {t : Nat → Bool} (h : Pw D n false t) : bcs n t = bcs n (livB D) :=
 bcs_congr fun q hq => by rw [Bool.eq_iff_iff, livB_iff]; exact h.done rfl q hq
theorem unm_own {w : World} {B g n cap : Nat} {t : Nat → Bool} (h : w.ownsRow B 4 1 (.slice (some ⟨g, 0, none⟩) n cap) n (bcs n t)) : unm n (cellB w g) = unm n t :=
 unm_congr fun q hq => by
  unfold cellB
  rw [(own_cell h (bcs_get t hq)).1]
theorem pv_far {D : Dm} {n g cap B : Nat} {t0 t : Nat → Bool} {ag : Bool} {i kk : Nat} {w w' : World} (h : Pv D n t0 ag i kk t) (h0 : w.ownsRow B 4 1 (.slice (some ⟨g, 0, none⟩) n cap) n (bcs n t0)) (h1 : w'.ownsRow B 4 1 (.slice (some ⟨g, 0, none⟩) n cap) n (bcs n t)) :
  farW g n (.bool ag) w' < farW g n (.bool true) w := by
 unfold farW
 rw [unm_own h0, unm_own h1]
 cases ag with
 | true =>
  have := h.less
  show 2 * unm n t + 1 < 2 * unm n t0 + 1
  omega
 | false =>
  have := unm_congr (h.still rfl)
  show 2 * unm n t + 0 < 2 * unm n t0 + 1
  omega
set_option maxHeartbeats 8000000 in
set_option maxRecDepth 1000000 in
theorem refLive11_any (D : Dm) (cs : List Value) (w : World) (hv : DfaV w cs D) (hm : MayD D) :
  Calls Try.prog 17 #[.agg cs.toArray] w fun e w' => ∃ v, e = .returned v ∧ Row w' v (bcs D.next.length (livB D)) ∧ Below w.heap.size w w' := by
 have V0 := qH hv
 have HM := qH hm
 have HDS := qH hv.size
 obtain ⟨An, Ae, cn, ce, vf, hl, hcs, hn, hr, he⟩ := hv.form
 have HL := qH hl
 obtain ⟨n, hnn⟩ : ∃ n, n = D.next.length := ⟨_, rfl⟩
 have HN := qH hnn
 have HEN := qH (show D.ends.length = n by rw [hnn]; exact hm.ends)
 rw [hm.ends, ← hnn] at hcs
 rw [← hnn] at hn ⊢
 have HCS := qH hcs
 have HRN := qH hn
 have HR := qH hr
 rw [hm.ends, ← hnn] at he
 have HE := qH he
 have HNP := qH (show 1 ≤ n by rw [hnn]; exact hm.pos)
 have HNF := qH (show n ≤ 2000 by rw [hnn]; exact hm.few)
 obtain ⟨k, hk⟩ : ∃ k, k = clsA D.cl := ⟨_, rfl⟩
 have HK := qH hk
 have HK2 := qH (show k ≤ 256 by rw [hk]; exact clsA_le _)
 clear hv hm hl hcs hn hr he hnn hk
 obtain ⟨i2, hi2, hz2, hs2, hy2⟩ := infoP inf_bool
 have HZ2 := qH (And.intro hz2 (And.intro hs2 hy2))
 clear hy2
 go_enter Try.func17, Try.ntmps17
 go_wp2_with (first
  | ((with_reducible refine atDst 1 ?_); refine wpList_box rfl 28 _ rfl cs rfl (Below.refl w.heap.size w) (Nat.le_refl _) ?_; intro w1 hk1 hb1 hs1 _; have K1 := qH hk1; have B1 := qH hb1; clear hk1 hb1 hs1; (try simp only [Act.put, qA, qB, qC]))
  | ((with_reducible refine atDst 7 ?_); refine wpList_ldArr rfl 28 _ rfl w.heap.size rfl 28 _ _ K1.out Try.underlying28 rfl HDS.out ?_; (try simp only [Act.put, qA, qB, qC])))
 refine (refMay11_any D cs w1 (V0.out.below B1.out) HM.out).mono ?_
 rintro e w2 ⟨rfl, hb⟩
 have K2 := qH (K1.out.below hb K1.out.lt)
 have BW2 := qH (B1.out.trans (hb.mono B1.out.size))
 clear hb
 have c256 : w2.cell? ⟨w.heap.size, 256, none⟩ = some (.slice An n cn) := by rw [K2.out.cell 256, HCS.out]; exact dcl_n HL.out
 have C256 := qH c256
 have HT1 := qH (show w.heap.size < w2.heap.size from K2.out.lt)
 have HRN2 := qH (HRN.out.below BW2.out)
 have HR2 := qH (fun i r h => (HR.out i r h).below BW2.out)
 have HE2 := qH (HE.out.below BW2.out)
 have p0 : (0 : Int) < (n : Int) := Int.ofNat_lt.2 HNP.out
 obtain ⟨t0, ht0⟩ : ∃ t0 : Nat → Bool, t0 = fun q => D.ends[q]?.getD false := ⟨_, rfl⟩
 have HT0 := qH ht0
 have HEB := qH (show bools D.ends = bcs n t0 by rw [ht0]; exact bools_bcs HEN.out)
 clear hz2 hs2 ht0 c256
 go_wp2_with (first
  | ((with_reducible refine atDst 10 ?_); refine wpList_bld0 rfl 26 4 rfl i2 Try.underlying26 hi2 (.bool false) HZ2.out.1 HZ2.out.2.1 ?_; intro w3 ho hb; have O3 := qH ho; have B3 := qH hb; have c257 : w3.cell? ⟨w.heap.size, 257, none⟩ = some (.slice Ae n ce) := (by rw [(K2.out.below hb K2.out.lt).cell 257, HCS.out]; exact dcl_e HL.out); clear ho hb; (try simp only [Act.put, qA, qB, qC]))
  | ((with_reducible refine atDst 13 ?_); refine wpList_appR (w0 := w2) rfl (.tmp 10) (.tmp 12) 26 rfl 4 i2 (.bool false) 1 Try.underlying26 hi2 HZ2.out.1 HZ2.out.2.1 HZ2.out.2.2 rfl _ 0 [] rfl O3.out _ (bools D.ends) rfl (HE2.out.below B3.out) (bools_one _) (by rw [HEB.out, bcs_len, Nat.zero_add]; exact Nat.le_trans HNF.out (by decide)) (by decide) B3.out ?_; intro v4 w4 ho hr hb _; have O4 := qH (show w4.ownsRow w2.heap.size 4 1 v4 n (bcs n t0) by (rw [HEB.out, Nat.zero_add, bcs_len, List.nil_append] at ho; exact ho)); have B4 := qH hb; obtain ⟨g, cap, rfl, _⟩ := own_form O4.out (Nat.lt_of_lt_of_le Nat.zero_lt_one HNP.out); clear ho hr hb; (try simp only [Act.put, qA, qB, qC])))
 have HGE := qH (own6_lt O4.out g rfl).2
 go_loopw [4] (fun v wl => ∃ (ag : Bool) (t : Nat → Bool), v = .bool ag ∧ Pw D n ag t ∧ wl.ownsRow w2.heap.size 4 1 (.slice (some ⟨g, 0, none⟩) n cap) n (bcs n t) ∧ Below w2.heap.size w2 wl) (fun v wl => farW g n v wl)
 case atStart => exact ⟨true, _, rfl, pw_first HT0.out, O4.out, B4.out⟩
 clear O3 B3 O4 B4
 obtain ⟨ag, t, rfl, hp, ht, hb⟩ := hrel
 have PQ := qH hp
 have TQ := qH ht
 have BQ := qH hb
 clear hp ht hb
 obtain ⟨wp, hwp⟩ : ∃ v : World, v = wr := ⟨_, rfl⟩
 subst hwp
 cases ag with
 | false =>
  have BE := qH (BW2.out.trans (BQ.out.mono BW2.out.size))
  have RE := qH (show Row wp (.slice (some ⟨g, 0, none⟩) n cap) (bcs n (livB D)) by
   rw [← PQ.out.liv]
   exact Row.of_own TQ.out)
  go_wp2_with fail
  go_ret
  exact ⟨_, rfl, RE.out, BE.out⟩
 | true =>
  go_wp2_with fail
  go_loopw [4, 5] (fun v iv wl => ∃ (ag : Bool) (i : Nat) (u : Nat → Bool), i ≤ n ∧ v = .bool ag ∧ iv = .int .i64 (i : Int) ∧ Pv D n t ag i 0 u ∧ wl.ownsRow w2.heap.size 4 1 (.slice (some ⟨g, 0, none⟩) n cap) n (bcs n u) ∧ Below w2.heap.size w2 wl) (fun _ iv _ => n - (intOf iv).toNat)
  case atStart => exact ⟨false, 0, t, Nat.zero_le _, rfl, by simp, Pv.start PQ.out.seeds PQ.out.sound, TQ.out, BQ.out⟩
  obtain ⟨ag, i, u, hi, rfl, rfl, hp, ht, hb⟩ := hrel
  have PR := qH hp
  have TR := qH ht
  have BR := qH hb
  clear hp ht hb
  obtain ⟨wi, hwi⟩ : ∃ v : World, v = wr := ⟨_, rfl⟩
  subst hwi
  by_cases hin : i < n
  ·have x1 : (i : Int) < (n : Int) := Int.ofNat_lt.2 hin
   have HI := qH hin
   have HMI := qH (sub_next hin)
   have e3 := wrap_one i (lt_bigN HI.out HNF.out)
   have e4 := wrap_one' i (lt_bigN HI.out HNF.out)
   obtain ⟨r, hr⟩ : ∃ r, D.next[i]? = some r := ⟨_, List.getElem?_eq_getElem (by rw [← HN.out]; exact hin)⟩
   have HRM := qH (List.mem_of_getElem? hr)
   have HS := qH hr
   have HRL := qH (show r.length = k by rw [HM.out.rows r HRM.out, HK.out])
   have HRI2 := qH (HR2.out i r hr)
   obtain ⟨Ar, cr, hvr, _⟩ := HR2.out i r hr
   rw [nums_length, HRL.out] at hvr
   obtain ⟨bn, on, rfl, hbn, hcn⟩ := HRN2.out.at_ (by rw [List.length_map, List.length_range]; exact HNP.out)
   have HCI2 := qH (show w2.cell? ⟨bn, on + i, none⟩ = some (.slice Ar k cr) from hcn i _ (by simp [hin, hvr]))
   have HBN := qH hbn
   rw [hvr] at HRI2
   clear hi hin hr hbn hcn hvr
   go_wp2_with fail
   go_loopw [4, 6] (fun v kv wl => ∃ (ag : Bool) (j : Nat) (u : Nat → Bool), j ≤ k ∧ v = .bool ag ∧ kv = .int .i64 (j : Int) ∧ Pv D n t ag i j u ∧ wl.ownsRow w2.heap.size 4 1 (.slice (some ⟨g, 0, none⟩) n cap) n (bcs n u) ∧ Below w2.heap.size w2 wl) (fun _ kv _ => k - (intOf kv).toNat)
   case atStart => exact ⟨ag, 0, u, Nat.zero_le _, rfl, by simp, PR.out, TR.out, BR.out⟩
   clear PR TR BR
   obtain ⟨ag, j, u, hj, rfl, rfl, hp, ht, hb⟩ := hrel
   have PR := qH hp
   have TR := qH ht
   have BR := qH hb
   have c256 := (BR.out.cell (p := ⟨w.heap.size, 256, none⟩) HT1.out).trans C256.out
   have hci := (BR.out.cell (p := ⟨bn, on + i, none⟩) HBN.out).trans HCI2.out
   have RX := qH (HRI2.out.below hb)
   have hti := (own_cell TR.out (bcs_get u HI.out)).1
   clear hp ht hb
   by_cases hjk : j < k
   ·have y1 : (j : Int) < (k : Int) := Int.ofNat_lt.2 hjk
    have HJ := qH hjk
    have HMJ := qH (sub_next hjk)
    have f3 := wrap_one j (lt_k256 hjk HK2.out)
    have f4 := wrap_one' j (lt_k256 hjk HK2.out)
    obtain ⟨x, hx⟩ : ∃ x, r[j]? = some x := ⟨_, List.getElem?_eq_getElem (by rw [HRL.out]; exact hjk)⟩
    have HX := qH hx
    obtain ⟨x0, xn⟩ := HM.out.to r HRM.out x (List.mem_of_getElem? hx)
    obtain ⟨p, rfl⟩ : ∃ p : Nat, x = (p : Int) := ⟨x.toNat, by omega⟩
    have HP := qH (show p < n by have := HN.out; omega)
    have p1 : (p : Int) < (n : Int) := Int.ofNat_lt.2 HP.out
    obtain ⟨br, or, rfl, hbr, hcr⟩ := RX.out.at_ (by rw [nums_length, HRL.out]; exact Nat.lt_of_le_of_lt (Nat.zero_le _) hjk)
    have hcx : wr.cell? ⟨br, or + j, none⟩ = some (.int .i64 (p : Int)) := hcr j _ (by simp [nums, hx])
    obtain ⟨y, hy⟩ : ∃ y, u i = y := ⟨_, rfl⟩
    rw [hy] at hti
    have HYI := qH hy
    clear hj hjk hx hbr hcr hy x0 xn
    cases y with
    | false =>
     have htp := (own_cell TR.out (bcs_get u HP.out)).1
     obtain ⟨c, hc⟩ : ∃ c, u p = c := ⟨_, rfl⟩
     rw [hc] at htp
     have HCC := qH hc
     clear hc
     cases c with
     | true =>
      have hfz := (own_cell TR.out (bcs_get u HI.out)).2
      have TE := qH (show (wr.setCell ⟨g, i, none⟩ (.bool true)).ownsRow w2.heap.size 4 1 (.slice (some ⟨g, 0, none⟩) n cap) n (bcs n (updB u i true)) by
       have := own_set TR.out (j := i) (by rw [bcs_len]; exact HI.out) (.bool true)
       rw [bcs_set] at this
       exact this)
      have BE := qH (BR.out.setCell (p := ⟨g, i, none⟩) HGE.out (Value.bool true))
      have PE := qH (PR.out.mark HS.out HI.out HYI.out HX.out (Int.natCast_nonneg _) p1 (by rw [Int.toNat_natCast]; exact HCC.out))
      go_wp2_with fail
      exact ⟨⟨true, j + 1, _, HJ.out, rfl, by congr 1, PE.out, TE.out, BE.out⟩, by simpa [intOf] using HMJ.out⟩
     | false =>
      have PE := qH (PR.out.skip HS.out HX.out (by rw [Int.toNat_natCast]; exact HCC.out))
      go_wp2_with fail
      exact ⟨⟨ag, j + 1, _, HJ.out, rfl, by congr 1, PE.out, TR.out, BR.out⟩, by simpa [intOf] using HMJ.out⟩
    | true =>
     have PE := qH (PR.out.next HS.out (.inr HYI.out))
     go_wp2_with fail
     exact ⟨⟨ag, i + 1, _, HI.out, rfl, by congr 1, PE.out, TR.out, BR.out⟩, by simpa [intOf] using HMI.out⟩
   ·obtain rfl : j = k := by omega
    have y1 : ¬ ((j : Int) < (j : Int)) := Int.lt_irrefl _
    have PE := qH (PR.out.next HS.out (.inl HRL.out.symm))
    clear hj hjk
    go_wp2_with fail
    exact ⟨⟨ag, i + 1, _, HI.out, rfl, by congr 1, PE.out, TR.out, BR.out⟩, by simpa [intOf] using HMI.out⟩
  ·obtain rfl : i = n := by omega
   have x1 : ¬ ((i : Int) < (i : Int)) := Int.lt_irrefl _
   have PA := qH (show Pw D i ag u from PR.out.all HN.out HEN.out (by have := HM.out.to; rw [← HN.out] at this; exact this))
   have PF := qH (pv_far PR.out TQ.out TR.out)
   clear hi hin
   go_wp2_with fail
   exact ⟨⟨ag, _, rfl, PA.out, TR.out, BR.out⟩, PF.out⟩
def FullD (D : Dm) : Prop := ∀ k, k < clsA D.cl → ∃ c, c ∈ D.cl ∧ c.toNat = k
theorem dfaQ_full (n c : Nat) (ps : List UInt8) : FullD (dfaQ n c ps) := by
 intro k hk
 rw [dfaQ_cls] at hk
 refine ⟨UInt8.ofNat (clsQ (1 + c % 4) (97 + k)), List.mem_of_getElem? (tabQ_at (m := 1 + c % 4) (N := 256) (i := 97 + k) (by omega) (by omega)), ?_⟩
 have h1 : clsQ (1 + c % 4) (97 + k) = k := by
  unfold clsQ
  rw [if_pos (by omega)]
  omega
 rw [h1, toNat_ofNatQ (by omega)]
theorem stpL_row {D : Dm} (hm : MayD D) (hl : D.cl.length = 256) (hf : FullD D) {i : Nat} {r : List Int} (hr : D.next[i]? = some r) (x : Int) : x ∈ stpL D D.cl i ↔ x ∈ r := by
 have hlen := hm.rows r (List.mem_of_getElem? hr)
 unfold stpL
 rw [nxt_at hr]
 constructor
 ·intro h
  obtain ⟨c, hc, rfl⟩ := List.mem_map.1 h
  obtain ⟨j, hj⟩ := List.mem_iff_getElem?.1 hc
  have h1 : c.toNat < r.length := by rw [hlen]; exact clsA_lt hl hj
  rw [List.getElem?_eq_getElem h1]
  exact List.getElem_mem h1
 ·intro h
  obtain ⟨k, hk, hx⟩ := List.getElem_of_mem h
  obtain ⟨c, hc, hck⟩ := hf k (by rw [← hlen]; exact hk)
  refine List.mem_map.2 ⟨c, hc, ?_⟩
  rw [hck, List.getElem?_eq_getElem hk, hx]
  rfl
theorem rea_full {D : Dm} (hm : MayD D) (hl : D.cl.length = 256) (hf : FullD D) : reaM D = reaB D := by
 funext j
 unfold reaM reaB
 rw [Bool.eq_iff_iff, sprB_iff, rcB_iff]
 constructor
 ·intro h
  induction h with
  | @base i h =>
   have h1 := List.mem_singleton.1 h
   obtain rfl : i = 0 := Int.ofNat.inj h1
   exact .base h (by rw [stsD_len]; exact hm.pos)
  | @go i j _ h ih =>
   have hi : i < D.next.length := by rw [← stsD_len]; exact ih.lt
   have hr := List.getElem?_eq_getElem hi
   have h1 := (stpL_row hm hl hf hr _).1 h
   have h2 := (hm.to _ (List.mem_of_getElem? hr) _ h1).2
   exact .go ih (stsD_get hr) h1 (by rw [stsD_len]; exact Int.ofNat_lt.1 h2)
 ·intro h
  induction h with
  | base h _ => exact .base h
  | @go i j s h0 hs hj _ ih =>
   have hi : i < D.next.length := by rw [← stsD_len]; exact (List.getElem?_eq_some_iff.1 hs).1
   have hr := List.getElem?_eq_getElem hi
   rw [stsD_get hr] at hs
   have e := Option.some.inj hs
   subst e
   exact .go ih ((stpL_row hm hl hf hr _).2 hj)
theorem liv_full {D : Dm} (hm : MayD D) (hl : D.cl.length = 256) (hf : FullD D) : livM D = livB D := by
 funext j
 unfold livM
 rw [Bool.eq_iff_iff, sprB_iff, livB_iff]
 constructor
 ·intro h
  induction h with
  | @base i h =>
   obtain ⟨q, _, h1, h2⟩ := (endI_mem _).1 h
   obtain rfl : i = q := Int.ofNat.inj h1
   exact .base h2
  | @go i j _ h ih =>
   obtain ⟨q, hq, h1, h2⟩ := (trI_mem _).1 h
   obtain rfl : j = q := Int.ofNat.inj h1
   have hr := List.getElem?_eq_getElem hq
   exact .go hr ((stpL_row hm hl hf hr _).1 h2) ih
 ·intro h
  induction h with
  | base h => exact .base ((endI_mem _).2 ⟨_, (List.getElem?_eq_some_iff.1 h).1, rfl, h⟩)
  | @go i j r hr hj _ ih => exact .go ih ((trI_mem _).2 ⟨i, (List.getElem?_eq_some_iff.1 hr).1, rfl, (stpL_row hm hl hf hr _).2 hj⟩)
theorem bools_range (n : Nat) (f : Nat → Bool) : bools ((List.range n).map f) = bcs n f := by simp [bools, bcs]
theorem rch_full {D : Dm} (hm : MayD D) (hl : D.cl.length = 256) (hf : FullD D) : bcs D.next.length (reaB D) = bools (rchG D) := by rw [rchG_of hm, rea_full hm hl hf, bools_range]
theorem lvg_full {D : Dm} (hm : MayD D) (hl : D.cl.length = 256) (hf : FullD D) : bcs D.next.length (livB D) = bools (lvgG D) := by rw [lvgG_of hm, liv_full hm hl hf, bools_range]
theorem toD_flipM (D : Dm) : ∀ (w : List UInt8) (s : Nat), toD (flipD D) s w = toD D s w
 | [], _ => rfl
 | b :: w, s => toD_flipM D w (stD D s b)
theorem runG_flip {D : Dm} (hm : MayD D) (hl : D.cl.length = 256) (W : List UInt8) : runG (flipD D) W = !(runG D W) := by
 rw [runG_yes hm, runG_yes (flipD_may hm)]
 unfold runD
 rw [toD_flipM]
 have h1 := toD_lt hm hl W 0 hm.pos
 have h2 : toD D 0 W < D.ends.length := by rw [hm.ends]; exact h1
 show (D.ends.map fun b => !b).getD (toD D 0 W) false = _
 rw [List.getD_eq_getElem?_getD, List.getD_eq_getElem?_getD, List.getElem?_map, List.getElem?_eq_getElem h2]
 rfl
end Go.Proofs.Ytbbodfpnneifgaa
