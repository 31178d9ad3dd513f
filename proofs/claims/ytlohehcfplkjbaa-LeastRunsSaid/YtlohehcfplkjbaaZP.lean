/-
  Texts of this proof, put together: LpH, LqM, LkA. No statement is proved here.
-/
import Derived.Test.YtlohehcfplkjbaaZJ
import Derived.Test.YtlohehcfplkjbaaZN
import Derived.Test.YtlohehcfplkjbaaZO
import Derived.Test.YtlohehcfplkjbaaZM
import Derived.Test.YtlohehcfplkjbaaZG
namespace Go.Proofs.Ytlohehcfplkjbaa
open Go.RowKit
set_option linter.unusedSimpArgs false
set_option linter.unusedVariables false
theorem take_eqI {A B : List Int} {i : Nat} (h : A.take i = B.take i) {a : Int} (ha : A[i]? = some a) (hb : B[i]? = some a) : A.take (i + 1) = B.take (i + 1) := by
 rw [List.take_add_one, List.take_add_one, h, ha, hb]
set_option maxHeartbeats 8000000 in
set_option maxRecDepth 1000000 in
theorem sameInts_any (A B : List Int) (V1 V2 : Value) (w : World) (h1 : Row w V1 (nums .i64 A)) (h2 : Row w V2 (nums .i64 B)) (hl : A.length ≤ 2000) :
  Calls Try.prog 15 #[V1, V2] w fun e w' => e = .returned (.bool (decide (A = B))) ∧ Below w.heap.size w w' := by
 have R1 := qH h1
 have R2 := qH h2
 obtain ⟨A1, c1, rfl, _⟩ := h1
 obtain ⟨A2, c2, rfl, _⟩ := h2
 rw [nums_length] at R1
 rw [nums_length] at R2
 rw [nums_length, nums_length]
 obtain ⟨n, hn⟩ : ∃ n, n = A.length := ⟨_, rfl⟩
 obtain ⟨m, hm⟩ : ∃ m, m = B.length := ⟨_, rfl⟩
 have HN := qH hn
 have HM := qH hm
 have HNF := qH (show n ≤ 2000 by rw [hn]; exact hl)
 rw [← hn] at R1 ⊢
 rw [← hm] at R2 ⊢
 clear hn hm hl
 obtain ⟨bz, hbz⟩ : ∃ b, decide (A = B) = b := ⟨_, rfl⟩
 have HBZ := qH hbz
 rw [hbz]
 clear hbz
 go_enter Try.func15, Try.ntmps15
 by_cases hnm : n = m
 ·obtain rfl := hnm
  have x0 : ((n : Int) != (n : Int)) = false := by simp
  go_wp2_with fail
  go_loopw [5] (fun v wl => ∃ i : Nat, i ≤ n ∧ v = .int .i64 (i : Int) ∧ A.take i = B.take i ∧ Below w.heap.size w wl) (fun v _ => n - (intOf v).toNat)
  case atStart => exact ⟨0, Nat.zero_le _, rfl, by rw [List.take_zero, List.take_zero], Below.refl _ _⟩
  obtain ⟨i, hi, rfl, ht, hb⟩ := hrel
  have HI := qH hi
  have HT := qH ht
  have HB := qH hb
  clear hi ht hb
  by_cases hin : i < n
  ·have x1 : (i : Int) < (n : Int) := Int.ofNat_lt.2 hin
   have HIN := qH hin
   have HMI := qH (sub_next hin)
   have e3 := wrap_one i (lt_bigN hin HNF.out)
   have e4 := wrap_one' i (lt_bigN hin HNF.out)
   obtain ⟨a, ha⟩ : ∃ a, A[i]? = some a := ⟨_, List.getElem?_eq_getElem (by rw [← HN.out]; exact hin)⟩
   obtain ⟨b, hb⟩ : ∃ b, B[i]? = some b := ⟨_, List.getElem?_eq_getElem (by rw [← HM.out]; exact hin)⟩
   have HA := qH ha
   have HBI := qH hb
   obtain ⟨b1, o1, rfl, hb1, hc1⟩ := (R1.out.below HB.out).at_ (by rw [nums_length, ← HN.out]; exact Nat.lt_of_le_of_lt (Nat.zero_le _) hin)
   obtain ⟨b2, o2, rfl, hb2, hc2⟩ := (R2.out.below HB.out).at_ (by rw [nums_length, ← HM.out]; exact Nat.lt_of_le_of_lt (Nat.zero_le _) hin)
   have C1 := qH (show wr.cell? ⟨b1, o1 + i, none⟩ = some (.int .i64 a) from hc1 i _ (by rw [nums, List.getElem?_map, ha]; rfl))
   have C2 := qH (show wr.cell? ⟨b2, o2 + i, none⟩ = some (.int .i64 b) from hc2 i _ (by rw [nums, List.getElem?_map, hb]; rfl))
   have L1 := qH hb1
   have L2 := qH hb2
   obtain ⟨c, hc⟩ : ∃ c, (a != b) = c := ⟨_, rfl⟩
   have HC := qH hc
   obtain ⟨wi, hwi⟩ : ∃ v : World, v = wr := ⟨_, rfl⟩
   subst hwi
   clear hin ha hb hb1 hc1 hb2 hc2 hc
   go_wp2_with fail
   refine mc_start (fun V => Below wi.heap.size wi V) (fun _ => True) 9 (by kernel_rfl) (fun wd hwd => ?_)
   have hX : Below wi.heap.size wi wd := by rw [hwd]; exact (Below.refl _ _).drew
   clear hwd
   refine mc_take (i := 0) (oi := ⟨some 17, _, _, _, _, _⟩) (v := ?_) rfl (by kernel_rfl) (by kernel_rfl) (by kernel_rfl) (fun _ _ _ h => h) rfl hX ?_ ?_; rotate_left; (intro W hW; go_simp; try with_reducible rfl); simp only [Act.put, qA, qB, qC]
   refine mc_take (i := 1) (oi := ⟨some 18, _, _, _, _, _⟩) (v := ?_) rfl (by kernel_rfl) (by kernel_rfl) (by kernel_rfl) (fun _ _ _ h => h) rfl hX ?_ ?_; rotate_left; (intro W hW; go_simp; try with_reducible rfl); simp only [Act.put, qA, qB, qC]
   refine mc_take (i := 2) (oi := ⟨some 19, _, _, _, _, _⟩) (v := ?_) rfl (by kernel_rfl) (by kernel_rfl) (by kernel_rfl) (fun _ _ _ h => h) rfl hX ?_ ?_; rotate_left; (intro W hW; go_simp; try with_reducible rfl); simp only [Act.put, qA, qB, qC]
   refine mc_take (i := 3) (oi := ⟨some 20, _, _, _, _, _⟩) (v := .int .i64 a) rfl (by kernel_rfl) (by kernel_rfl) (by kernel_rfl) (fun _ _ _ h => h) rfl hX (fun V hV => ld_int9 (.tmp 19) rfl rfl ((hV.cell (p := ⟨b1, o1 + i, none⟩) L1.out).trans C1.out)) ?_; simp only [Act.put, qA, qB, qC]
   refine mc_take (i := 4) (oi := ⟨some 21, _, _, _, _, _⟩) (v := ?_) rfl (by kernel_rfl) (by kernel_rfl) (by kernel_rfl) (fun _ _ _ h => h) rfl hX ?_ ?_; rotate_left; (intro W hW; go_simp; try with_reducible rfl); simp only [Act.put, qA, qB, qC]
   refine mc_take (i := 5) (oi := ⟨some 22, _, _, _, _, _⟩) (v := ?_) rfl (by kernel_rfl) (by kernel_rfl) (by kernel_rfl) (fun _ _ _ h => h) rfl hX ?_ ?_; rotate_left; (intro W hW; go_simp; try with_reducible rfl); simp only [Act.put, qA, qB, qC]
   refine mc_take (i := 6) (oi := ⟨some 23, _, _, _, _, _⟩) (v := ?_) rfl (by kernel_rfl) (by kernel_rfl) (by kernel_rfl) (fun _ _ _ h => h) rfl hX ?_ ?_; rotate_left; (intro W hW; go_simp; try with_reducible rfl); simp only [Act.put, qA, qB, qC]
   refine mc_take (i := 7) (oi := ⟨some 24, _, _, _, _, _⟩) (v := .int .i64 b) rfl (by kernel_rfl) (by kernel_rfl) (by kernel_rfl) (fun _ _ _ h => h) rfl hX (fun V hV => ld_int9 (.tmp 23) rfl rfl ((hV.cell (p := ⟨b2, o2 + i, none⟩) L2.out).trans C2.out)) ?_; simp only [Act.put, qA, qB, qC]
   refine mc_take (i := 8) (oi := ⟨some 25, _, _, _, _, _⟩) (v := .bool c) rfl (by kernel_rfl) (by kernel_rfl) (by kernel_rfl) (fun _ _ _ h => h) rfl hX (fun V _ => ex_neJ (.tmp 20) (.tmp 24) rfl rfl rfl HC.out V) ?_; simp only [Act.put, qA, qB, qC]
   refine wpAnyC_done (by kernel_rfl) ?_ _
   have BE := qH (HB.out.trans (hX.mono HB.out.size))
   clear hX
   cases c with
   | true =>
    have HF := qH (show bz = false by
     rw [← HBZ.out]
     refine decide_eq_false fun e => ?_
     have h1 := HA.out
     rw [e, HBI.out] at h1
     have h2 := HC.out
     rw [Option.some.inj h1] at h2
     simp at h2)
    go_wp2_with fail
    go_ret
    rw [HF.out]
    exact ⟨rfl, BE.out⟩
   | false =>
    have HE := qH (show a = b by
     have h2 := HC.out
     simpa using h2)
    go_wp2_with fail
    exact ⟨⟨i + 1, HIN.out, by congr 1, take_eqI HT.out HA.out (by rw [HE.out]; exact HBI.out), BE.out⟩, by simpa [intOf] using HMI.out⟩
  ·obtain rfl : i = n := Nat.le_antisymm HI.out (Nat.le_of_not_lt hin)
   have x1 : ¬ ((i : Int) < (i : Int)) := Int.lt_irrefl _
   have HF := qH (show bz = true by
    rw [← HBZ.out]
    have h1 := HT.out
    rw [HN.out, List.take_length, ← HN.out, HM.out, List.take_length] at h1
    exact decide_eq_true h1)
   clear hin
   go_wp2_with fail
   go_ret
   rw [HF.out]
   exact ⟨rfl, HB.out⟩
 ·have x0 : ((n : Int) != (m : Int)) = true := by rw [bne_iff_ne]; exact fun e => hnm (Int.ofNat.inj e)
  have HF := qH (show bz = false by
   rw [← HBZ.out]
   exact decide_eq_false fun e => hnm (by rw [HN.out, HM.out, e]))
  clear hnm
  go_wp2_with fail
  go_ret
  rw [HF.out]
  exact ⟨rfl, Below.refl _ _⟩
set_option maxHeartbeats 8000000 in
set_option maxRecDepth 1000000 in
theorem least_made_walk (C : LstC) (n c : Nat) (V : Value) (ps : List UInt8) (w : World) (hn : n < 256) (hc : c < 256) (hr : Row w V (bvs ps)) :
  Calls Try.prog 3 #[.int .u8 (n : Int), .int .u8 (c : Int), V] w fun e w' => e = .returned (.bool true) ∧ Below w.heap.size w w' := by
 have HCC := qH C
 clear C
 have R := qH hr
 obtain ⟨A, cap, rfl, _⟩ := hr
 rw [bvs_length] at R
 rw [bvs_length]
 have HN := qH hn
 have HC := qH hc
 obtain ⟨d0, hd0⟩ : ∃ d0, d0 = dcl (ctab [] 0) (.slice none 0 0) (.slice none 0 0) := ⟨_, rfl⟩
 have HDL := qH (show d0.length = 258 by rw [hd0]; exact dcl_len (ctab_length _ _))
 obtain ⟨id, hid, hdz⟩ := Option.map_eq_some_iff.1 inf_dfa
 rw [← hd0] at hdz
 have HDZ := qH hdz
 clear hd0 hdz hn hc
 go_enter Try.func3, Try.ntmps3
 go_wp2_with fail
 refine (begun12_any HCC.out w).mono ?_
 rintro e w1 ⟨rfl, hb⟩
 have B1 := qH hb
 clear hb
 by_cases hl : 60 < ps.length
 ·have x1 : (60 : Int) < (ps.length : Int) := Int.ofNat_lt.2 hl
  clear hl
  go_wp2_with fail
  go_ret
  exact ⟨rfl, B1.out⟩
 have x1 : ¬ (60 : Int) < (ps.length : Int) := fun h => hl (Int.ofNat_lt.1 h)
 have HL := qH (Nat.le_of_not_lt hl)
 clear hl
 go_wp2_with fail
 refine (playDfa_any n c ps _ w1 HN.out HC.out (R.out.below B1.out) HL.out).mono ?_
 rintro e w2 ⟨cs, rfl, hd, hb⟩
 obtain ⟨D, hD⟩ : ∃ D, D = dfaQ n c ps := ⟨_, rfl⟩
 rw [← hD] at hd
 have HM := qH (show MayD D by rw [hD]; exact dfaQ_may n c ps)
 have HK8 := qH (show D.next.length ≤ 8 by rw [hD, dfaQ_len]; exact k8L n)
 have HAC := qH (show AllC D by rw [hD]; exact dfaQ_allC n c ps)
 clear hD
 have VA := qH hd.dfa
 obtain ⟨An, Ae, cn, ce, vf, hcl, hcs, _⟩ := VA.out.form
 have HCS := qH hcs
 have HCLN := qH hcl
 have HLA := qH (show cs.length = 258 by rw [hcs]; exact dcl_len hcl)
 have HOA := qH (show cs.all (·.oneCell') = true by rw [hcs]; exact dcl_one)
 have HSA := qH (show (Try.prog.info? 28).map (·.size) = some cs.length from VA.out.size)
 have B2 := qH (B1.out.trans (hb.mono B1.out.size))
 clear hd hb hcl hcs
 go_wp2_with (first
  | ((with_reducible refine atDst 7 ?_); refine wpList_new rfl 28 rfl id _ d0 hid HDZ.out rfl (Below.refl w2.heap.size w2) (Nat.le_refl _) ?_; intro w3 hk hb hs _; have K3 := qH hk; have B23 := qH hb; clear hk hb hs; (try simp only [Act.put, qA, qB, qC]))
  | ((with_reducible refine atStore 28 7 16 ?_); refine wpList_stBlk rfl 28 _ _ rfl w2.heap.size cs rfl rfl 28 _ K3.out HSA.out (by rw [HDL.out, HLA.out]) HOA.out B23.out (Nat.le_refl _) ?_; intro w4 hk hb hs ho; have K4 := qH hk; have V4 := qH (VA.out.below hb); have B4 := qH (B2.out.trans (hb.mono B2.out.size)); clear hk hb hs ho; (try simp only [Act.put, qA, qB, qC])))
 have HCL2 := qH (show D.cl.length = 256 from HCLN.out)
 obtain ⟨gd, hgd⟩ : ∃ g, g = w2.heap.size := ⟨_, rfl⟩
 rw [← hgd] at K4
 rw [← hgd]
 clear hgd K3 B23 VA
 have HLM := qH (show MayD (lstD D) from lst_may HM.out HCL2.out)
 go_wp2_with fail
 refine mc_start (fun V => Below w4.heap.size w4 V) (fun _ => True) 13 (by kernel_rfl) (fun wd hwd => ?_)
 have hX : Below w4.heap.size w4 wd := by rw [hwd]; exact (Below.refl _ _).drew
 have hY : True := trivial
 clear hwd
 refine mc_take (i := 0) (oi := ⟨some 17, _, _, _, _, _⟩) (v := .agg cs.toArray) rfl (by kernel_rfl) (by kernel_rfl) (by kernel_rfl) (fun _ _ _ h => h) rfl hX (fun V hT => ld_blk 28 (.tmp 7) rfl gd rfl 28 cs _ K4.out K4.out.lt Try.underlying28 rfl HSA.out V hT) ?_; simp only [Act.put, qA, qB, qC]
 refine mc_take (i := 2) (oi := ⟨some 19, _, _, _, _, _⟩) (v := .agg cs.toArray) rfl (by kernel_rfl) (by kernel_rfl) (by kernel_rfl) (fun _ _ _ h => h) rfl hX (fun V hT => ld_blk 28 (.tmp 7) rfl gd rfl 28 cs _ K4.out K4.out.lt Try.underlying28 rfl HSA.out V hT) ?_; simp only [Act.put, qA, qB, qC]
 refine mc_actB (i := 1) (o := ⟨some 18, _, _, _, _, _⟩) rfl (by kernel_rfl) rfl (fun K hK => ?_)
 have Y1 := qH hX
 go_wp2_with fail
 refine (HCC.out.least D cs wd (V4.out.below hX) HM.out HAC.out).mono ?_
 rintro e v1 ⟨xs, rfl, hd, hb⟩
 have VX := qH hd
 clear hd
 have hX2 := Y1.out.trans (hb.mono Y1.out.size)
 clear hb
 go_wp2_with fail
 refine hK _ _ hX2 trivial ?_
 clear hK K hX
 have hX := hX2
 clear hX2
 (try simp only [Act.put, qA, qB, qC])
 refine mc_actB (i := 3) (o := ⟨some 20, _, _, _, _, _⟩) rfl (by kernel_rfl) rfl (fun K hK => ?_)
 have Y2 := qH hX
 go_wp2_with fail
 refine (refLeast11_any D cs v1 (V4.out.below hX) HM.out HAC.out).mono ?_
 rintro e v2 ⟨ys, rfl, hd, hb⟩
 have VY := qH hd
 have VX2 := qH (VX.out.below hb)
 clear hd
 have hX2 := Y2.out.trans (hb.mono Y2.out.size)
 clear hb
 go_wp2_with fail
 refine hK _ _ hX2 trivial ?_
 clear hK K hX
 have hX := hX2
 clear hX2
 (try simp only [Act.put, qA, qB, qC])
 refine mc_actB (i := 4) (o := ⟨some 21, _, _, _, _, _⟩) rfl (by kernel_rfl) rfl (fun K hK => ?_)
 have Y3 := qH hX
 go_wp2_with fail
 refine (refSame11_self (lstD D) xs ys v2 VX2.out VY.out (by rw [HLM.out.ends]; exact HLM.out.few) HLM.out.few (fun r hr => by rw [HLM.out.rows r hr]; exact Nat.le_trans (clsA_le _) (by decide))).mono ?_
 rintro e v3 ⟨rfl, hb⟩
 have hX2 := Y3.out.trans (hb.mono Y3.out.size)
 clear hb
 go_wp2_with fail
 refine hK _ _ hX2 trivial ?_
 clear hK K hX
 have hX := hX2
 clear hX2
 (try simp only [Act.put, qA, qB, qC])
 refine mc_take (i := 5) (oi := ⟨some 22, _, _, _, _, _⟩) (v := ?_) rfl (by kernel_rfl) (by kernel_rfl) (by kernel_rfl) (fun _ _ _ h => h) rfl hX ?_ ?_; rotate_left; (intro W hW; go_simp; try with_reducible rfl); simp only [Act.put, qA, qB, qC]
 refine mc_take (i := 6) (oi := ⟨some 23, _, _, _, _, _⟩) (v := .agg cs.toArray) rfl (by kernel_rfl) (by kernel_rfl) (by kernel_rfl) (fun _ _ _ h => h) rfl hX (fun V hT => ld_blk 28 (.tmp 7) rfl gd rfl 28 cs _ K4.out K4.out.lt Try.underlying28 rfl HSA.out V hT) ?_; simp only [Act.put, qA, qB, qC]
 refine mc_take (i := 8) (oi := ⟨some 25, _, _, _, _, _⟩) (v := .agg cs.toArray) rfl (by kernel_rfl) (by kernel_rfl) (by kernel_rfl) (fun _ _ _ h => h) rfl hX (fun V hT => ld_blk 28 (.tmp 7) rfl gd rfl 28 cs _ K4.out K4.out.lt Try.underlying28 rfl HSA.out V hT) ?_; simp only [Act.put, qA, qB, qC]
 refine mc_actB (i := 7) (o := ⟨some 24, _, _, _, _, _⟩) rfl (by kernel_rfl) rfl (fun K hK => ?_)
 have Y4 := qH hX
 go_wp2_with fail
 refine (HCC.out.parts D cs v3 (V4.out.below hX) HM.out HAC.out).mono ?_
 rintro e v4 ⟨pv, rfl, hr, hb⟩
 have RP := qH hr
 clear hr
 have hX2 := Y4.out.trans (hb.mono Y4.out.size)
 clear hb
 go_wp2_with fail
 refine hK _ _ hX2 trivial ?_
 clear hK K hX
 have hX := hX2
 clear hX2
 (try simp only [Act.put, qA, qB, qC])
 refine mc_actB (i := 9) (o := ⟨some 26, _, _, _, _, _⟩) rfl (by kernel_rfl) rfl (fun K hK => ?_)
 have Y5 := qH hX
 go_wp2_with fail
 refine (refParts11_any D cs v4 (V4.out.below hX) HM.out HAC.out).mono ?_
 rintro e v5 ⟨qv, rfl, hr, hb⟩
 have RQ := qH hr
 have RP2 := qH (RP.out.below hb)
 clear hr
 have hX2 := Y5.out.trans (hb.mono Y5.out.size)
 clear hb
 go_wp2_with fail
 refine hK _ _ hX2 trivial ?_
 clear hK K hX
 have hX := hX2
 clear hX2
 (try simp only [Act.put, qA, qB, qC])
 refine mc_actB (i := 10) (o := ⟨some 27, _, _, _, _, _⟩) rfl (by kernel_rfl) rfl (fun K hK => ?_)
 have Y6 := qH hX
 go_wp2_with fail
 refine (sameInts_any ((List.range D.next.length).map fun q => (parD D q : Int)) ((List.range D.next.length).map fun q => (parD D q : Int)) pv qv v5 (by rw [← ncs_nums]; exact RP2.out) (by rw [← ncs_nums]; exact RQ.out) (by rw [List.length_map, List.length_range]; exact HM.out.few)).mono ?_
 rintro e v6 ⟨rfl, hb⟩
 rw [decide_eq_true rfl]
 have hX2 := Y6.out.trans (hb.mono Y6.out.size)
 clear hb
 go_wp2_with fail
 refine hK _ _ hX2 trivial ?_
 clear hK K hX
 have hX := hX2
 clear hX2
 (try simp only [Act.put, qA, qB, qC])
 refine mc_take (i := 11) (oi := ⟨some 28, _, _, _, _, _⟩) (v := ?_) rfl (by kernel_rfl) (by kernel_rfl) (by kernel_rfl) (fun _ _ _ h => h) rfl hX ?_ ?_; rotate_left; (intro W hW; go_simp; try with_reducible rfl); simp only [Act.put, qA, qB, qC]
 refine mc_take (i := 12) (oi := ⟨some 6, _, _, _, _, _⟩) (v := ?_) rfl (by kernel_rfl) (by kernel_rfl) (by kernel_rfl) (fun _ _ _ h => h) rfl hX ?_ ?_; rotate_left; (intro W hW; go_simp; try with_reducible rfl); simp only [Act.put, qA, qB, qC]
 refine wpAnyC_done (by kernel_rfl) ?_ _
 have BE := qH (B4.out.trans (hX.mono B4.out.size))
 clear hX hY
 go_wp2_with fail
 go_ret
 exact ⟨rfl, BE.out⟩
def prt (n : Nat) (a : Nat → Nat) (k : Nat) : List Nat := (List.range n).filter fun s => a s == k
theorem prt_mem {n k s : Nat} {a : Nat → Nat} : s ∈ prt n a k ↔ s < n ∧ a s = k := by
 unfold prt
 rw [List.mem_filter, List.mem_range, beq_iff_eq]
theorem prt_nodup (n : Nat) (a : Nat → Nat) (k : Nat) : (prt n a k).Nodup := List.nodup_range.filter _
theorem prt_le (n : Nat) (a : Nat → Nat) (k : Nat) : (prt n a k).length ≤ n := by
 have := List.length_filter_le (fun s => a s == k) (List.range n)
 rwa [List.length_range] at this
theorem prt_congr {n k : Nat} {a b : Nat → Nat} (h : ∀ s, s < n → (a s = k ↔ b s = k)) : prt n a k = prt n b k := by
 unfold prt
 apply List.filter_congr
 intro s hs
 have := h s (List.mem_range.1 hs)
 rw [Bool.eq_iff_iff, beq_iff_eq, beq_iff_eq]
 exact this
theorem prt_sorted (n : Nat) (a : Nat → Nat) (k : Nat) : (prt n a k).Pairwise (· < ·) := List.pairwise_lt_range.filter _
theorem prt_first {n k f s : Nat} {a : Nat → Nat} (h : (prt n a k)[0]? = some f) (hs : s < n) (hk : a s = k) : f ≤ s := by
 have h1 := prt_sorted n a k
 have h2 : s ∈ prt n a k := prt_mem.2 ⟨hs, hk⟩
 cases hp : prt n a k with
 | nil => rw [hp] at h2; cases h2
 | cons x r =>
  rw [hp] at h h1 h2
  have h : some x = some f := h
  obtain rfl := Option.some.inj h
  rcases List.mem_cons.1 h2 with rfl | h2
  ·exact Nat.le_refl _
  ·exact Nat.le_of_lt ((List.pairwise_cons.1 h1).1 s h2)
structure Pn (n m : Nat) (a : Nat → Nat) : Prop where
 lt : ∀ s, s < n → a s < m
 onto : ∀ k, k < m → ∃ s, s < n ∧ a s = k
theorem Pn.le {n m : Nat} {a : Nat → Nat} (h : Pn n m a) : m ≤ n := by
 have h1 := nodup_sub (List.range m) ((List.range n).map a) List.nodup_range fun k hk => by
  obtain ⟨s, h1, h2⟩ := h.onto k (List.mem_range.1 hk)
  exact List.mem_map.2 ⟨s, List.mem_range.2 h1, h2⟩
 rwa [List.length_range, List.length_map, List.length_range] at h1
def inP (n : Nat) (a : Nat → Nat) (I : Nat → Bool) (k : Nat) (b : Bool) : List Nat := (prt n a k).filter fun s => I s == b
theorem inP_mem {n k s : Nat} {a : Nat → Nat} {I : Nat → Bool} {b : Bool} : s ∈ inP n a I k b ↔ s < n ∧ a s = k ∧ I s = b := by
 unfold inP
 rw [List.mem_filter, prt_mem, beq_iff_eq, and_assoc]
theorem inP_le (n : Nat) (a : Nat → Nat) (I : Nat → Bool) (k : Nat) (b : Bool) : (inP n a I k b).length ≤ n :=
 Nat.le_trans (List.length_filter_le _ _) (prt_le n a k)
def lsB (n : Nat) (a : Nat → Nat) (I : Nat → Bool) (k : Nat) : Bool := !decide ((inP n a I k false).length < (inP n a I k true).length)
def spl (a : Nat → Nat) (I : Nat → Bool) (k m : Nat) (b : Bool) : Nat → Nat := fun s => if a s = k ∧ I s = b then m else a s
section
variable {n m k : Nat} {a : Nat → Nat} {I : Nat → Bool} {b : Bool}
theorem spl_yes {s : Nat} (h : a s = k) (hi : I s = b) : spl a I k m b s = m := if_pos ⟨h, hi⟩
theorem spl_no {s : Nat} (h : ¬ (a s = k ∧ I s = b)) : spl a I k m b s = a s := if_neg h
theorem prt_new (h : Pn n m a) : prt n (spl a I k m b) m = inP n a I k b := by
 unfold inP prt
 rw [List.filter_filter]
 apply List.filter_congr
 intro s hs
 have h1 := h.lt s (List.mem_range.1 hs)
 rw [Bool.eq_iff_iff, beq_iff_eq, Bool.and_eq_true, beq_iff_eq, beq_iff_eq]
 unfold spl
 by_cases hc : a s = k ∧ I s = b
 ·rw [if_pos hc]
  exact ⟨fun _ => ⟨hc.2, hc.1⟩, fun _ => rfl⟩
 ·rw [if_neg hc]
  exact ⟨fun e => by omega, fun e => absurd ⟨e.2, e.1⟩ hc⟩
theorem prt_old (hk : k < m) : prt n (spl a I k m b) k = inP n a I k (!b) := by
 unfold inP prt
 rw [List.filter_filter]
 apply List.filter_congr
 intro s hs
 rw [Bool.eq_iff_iff, beq_iff_eq, Bool.and_eq_true, beq_iff_eq, beq_iff_eq]
 unfold spl
 by_cases hc : a s = k ∧ I s = b
 ·rw [if_pos hc]
  exact ⟨fun e => by omega, fun e => by rw [hc.2] at e; cases b <;> simp at e⟩
 ·rw [if_neg hc]
  refine ⟨fun e => ⟨?_, e⟩, fun e => e.2⟩
  have h2 : ¬ I s = b := fun h => hc ⟨e, h⟩
  cases hI : I s <;> cases b <;> simp_all
theorem prt_else {j : Nat} (hj : j < m) (hne : j ≠ k) : prt n (spl a I k m b) j = prt n a j := prt_congr fun s _ => by
 unfold spl
 by_cases hc : a s = k ∧ I s = b
 ·rw [if_pos hc, hc.1]
  exact ⟨fun e => by omega, fun e => absurd e.symm hne⟩
 ·rw [if_neg hc]
theorem spl_pn (h : Pn n m a) (hk : k < m) (hy : ∃ s, s < n ∧ a s = k ∧ I s = b) (hn : ∃ s, s < n ∧ a s = k ∧ I s = !b) : Pn n (m + 1) (spl a I k m b) := by
 refine ⟨fun s hs => ?_, fun j hj => ?_⟩
 ·have := h.lt s hs
  unfold spl
  split <;> omega
 ·by_cases e : j = m
  ·obtain ⟨s, h1, h2, h3⟩ := hy
   exact ⟨s, h1, by rw [spl_yes h2 h3, e]⟩
  ·by_cases e2 : j = k
   ·obtain ⟨s, h1, h2, h3⟩ := hn
    exact ⟨s, h1, by rw [spl_no (fun hc => by rw [hc.2] at h3; cases b <;> simp at h3), h2, e2]⟩
   ·obtain ⟨s, h1, h2⟩ := h.onto j (by omega)
    exact ⟨s, h1, by rw [spl_no (fun hc => e2 (by rw [← h2, hc.1])), h2]⟩
theorem spl_iff (h : Pn n m a) {s t : Nat} (hs : s < n) (ht : t < n) : spl a I k m b s = spl a I k m b t ↔ a s = a t ∧ (a s = k → I s = I t) := by
 have h1 := h.lt s hs
 have h2 := h.lt t ht
 unfold spl
 by_cases hc : a s = k ∧ I s = b
 ·rw [if_pos hc]
  by_cases hd : a t = k ∧ I t = b
  ·rw [if_pos hd]
   exact ⟨fun _ => ⟨by rw [hc.1, hd.1], fun _ => by rw [hc.2, hd.2]⟩, fun _ => rfl⟩
  ·rw [if_neg hd]
   exact ⟨fun e => by omega, fun e => absurd ⟨by rw [← e.1, hc.1], by rw [← e.2 hc.1, hc.2]⟩ hd⟩
 ·rw [if_neg hc]
  by_cases hd : a t = k ∧ I t = b
  ·rw [if_pos hd]
   exact ⟨fun e => by omega, fun e => absurd ⟨by rw [e.1, hd.1], by rw [e.2 (by rw [e.1, hd.1]), hd.2]⟩ hc⟩
  ·rw [if_neg hd]
   refine ⟨fun e => ⟨e, fun ek => ?_⟩, fun e => e.1⟩
   have x1 : I s ≠ b := fun x => hc ⟨ek, x⟩
   have x2 : I t ≠ b := fun x => hd ⟨by rw [← e, ek], x⟩
   cases hI : I s <;> cases hJ : I t <;> cases b <;> simp_all
end
/-! ### a cut: the parts that are touched, one by one -/
def tchL (a : Nat → Nat) (l : List Nat) : List Nat := extL [] (l.map a)
theorem tchL_nodup (a : Nat → Nat) (l : List Nat) : (tchL a l).Nodup := extL_nodup _ _ List.nodup_nil
theorem tchL_mem {a : Nat → Nat} {l : List Nat} {k : Nat} : k ∈ tchL a l ↔ ∃ s ∈ l, a s = k := by
 unfold tchL
 rw [extL_mem, List.mem_map]
 simp
theorem tchL_le {n m : Nat} {a : Nat → Nat} {l : List Nat} (h : Pn n m a) (hl : ∀ s ∈ l, s < n) : (tchL a l).length ≤ m := by
 have h1 := nodup_sub (tchL a l) (List.range m) (tchL_nodup a l) fun k hk => by
  obtain ⟨s, h1, h2⟩ := tchL_mem.1 hk
  exact List.mem_range.2 (by rw [← h2]; exact h.lt s (hl s h1))
 rwa [List.length_range] at h1
theorem tchL_take {a : Nat → Nat} {l : List Nat} {i s : Nat} (h : l[i]? = some s) : tchL a (l.take (i + 1)) = extL (tchL a (l.take i)) [a s] := by
 unfold tchL
 rw [List.map_take, List.map_take]
 exact extL_take (by rw [List.getElem?_map, h]; rfl)
def cntK (a : Nat → Nat) (l : List Nat) (k : Nat) : Nat := (l.map a).count k
theorem cntK_take {a : Nat → Nat} {l : List Nat} {i s : Nat} (h : l[i]? = some s) (k : Nat) : cntK a (l.take (i + 1)) k = if k = a s then cntK a (l.take i) k + 1 else cntK a (l.take i) k := by
 obtain ⟨hi, he⟩ := List.getElem?_eq_some_iff.1 h
 unfold cntK
 rw [List.take_succ_eq_append_getElem hi, he, List.map_append, List.count_append]
 by_cases hk : k = a s
 ·rw [if_pos hk, hk]; simp
 ·rw [if_neg hk]
  have : List.count k (List.map a [s]) = 0 := List.count_eq_zero.2 fun hm => hk (by simpa using hm)
  rw [this, Nat.add_zero]
theorem cntK_zero {a : Nat → Nat} {l : List Nat} {k : Nat} : cntK a l k = 0 ↔ k ∉ tchL a l := by
 unfold cntK
 rw [List.count_eq_zero, tchL_mem, List.mem_map]
theorem cntK_le (a : Nat → Nat) (l : List Nat) (k : Nat) : cntK a l k ≤ l.length := by
 have := List.count_le_length (a := k) (l := l.map a)
 rwa [List.length_map] at this
theorem cntK_len {a : Nat → Nat} {l : List Nat} {k : Nat} : cntK a l k = (l.filter fun s => a s == k).length := by
 unfold cntK
 rw [List.count_eq_countP, List.countP_map, List.countP_eq_length_filter]
 rfl
theorem cntK_few {n k : Nat} {a : Nat → Nat} {l : List Nat} (hl : ∀ s ∈ l, s < n) (hd : l.Nodup) (h : cntK a l k < (prt n a k).length) : ∃ s, s < n ∧ a s = k ∧ s ∉ l :=
 Classical.byContradiction fun hno => by
  have h1 := nodup_sub (prt n a k) (l.filter fun s => a s == k) (prt_nodup n a k) fun s hs => by
   obtain ⟨h1, h2⟩ := prt_mem.1 hs
   refine List.mem_filter.2 ⟨Classical.byContradiction fun hm => hno ⟨s, h1, h2, hm⟩, ?_⟩
   rw [h2]
   exact beq_self_eq_true k
  rw [← cntK_len] at h1
  omega
theorem cntK_all {n k : Nat} {a : Nat → Nat} {l : List Nat} (hl : ∀ s ∈ l, s < n) (hd : l.Nodup) (h : ¬ cntK a l k < (prt n a k).length) {s : Nat} (hs : s < n) (hk : a s = k) : s ∈ l :=
 Classical.byContradiction fun hm => by
  have h1 := nodup_sub (s :: l.filter fun s => a s == k) (prt n a k) (List.nodup_cons.2 ⟨fun h => hm (List.mem_filter.1 h).1, hd.filter _⟩) fun t ht => by
   rcases List.mem_cons.1 ht with rfl | ht
   ·exact prt_mem.2 ⟨hs, hk⟩
   ·obtain ⟨h1, h2⟩ := List.mem_filter.1 ht
    exact prt_mem.2 ⟨hl t h1, by simpa using h2⟩
  rw [List.length_cons, ← cntK_len] at h1
  omega
structure CutJ (n : Nat) (l : List Nat) (m : Nat) (a : Nat → Nat) (T : List Nat) (j m' : Nat) (a' : Nat → Nat) : Prop where
 pn : Pn n m' a'
 le : m ≤ m'
 keep : ∀ s, s < n → a' s < m → a' s = a s
 new : ∀ s, s < n → m ≤ a' s → a s ∈ T.take j
 iff : ∀ s t, s < n → t < n → (a' s = a' t ↔ a s = a t ∧ (a s ∈ T.take j → (s ∈ l ↔ t ∈ l)))
structure CutP (n : Nat) (l : List Nat) (m : Nat) (a : Nat → Nat) (m' : Nat) (a' : Nat → Nat) : Prop where
 pn : Pn n m' a'
 le : m ≤ m'
 keep : ∀ s, s < n → a' s < m → a' s = a s
 iff : ∀ s t, s < n → t < n → (a' s = a' t ↔ a s = a t ∧ (s ∈ l ↔ t ∈ l))
section
variable {n m m' j k : Nat} {l T : List Nat} {a a' : Nat → Nat}
theorem CutJ.zero (h : Pn n m a) : CutJ n l m a T 0 m a :=
 ⟨h, Nat.le_refl _, fun _ _ _ => rfl, fun s hs he => absurd (h.lt s hs) (Nat.not_lt.2 he), fun s t _ _ => by simp⟩
theorem mem_take_succ {T : List Nat} {j k x : Nat} (h : T[j]? = some k) : x ∈ T.take (j + 1) ↔ x ∈ T.take j ∨ x = k := by
 obtain ⟨hj, he⟩ := List.getElem?_eq_some_iff.1 h
 rw [List.take_succ_eq_append_getElem hj, he, List.mem_append, List.mem_singleton]
theorem not_mem_take {T : List Nat} {j k : Nat} (hd : T.Nodup) (h : T[j]? = some k) : k ∉ T.take j := fun hm => by
 obtain ⟨i, hi, he⟩ := List.getElem_of_mem hm
 rw [List.length_take] at hi
 rw [List.getElem_take] at he
 obtain ⟨hj, hk⟩ := List.getElem?_eq_some_iff.1 h
 have h1 := idx_is hd h
 have h2 := idx_is (i := i) hd (by rw [List.getElem?_eq_getElem (by omega), he])
 omega
theorem CutJ.same (h : CutJ n l m a T j m' a') (hk : k < m) (hn : k ∉ T.take j) {s : Nat} (hs : s < n) : a' s = k ↔ a s = k := by
 constructor
 ·intro e
  rw [← h.keep s hs (by omega), e]
 ·intro e
  have h1 : ¬ m ≤ a' s := fun hle => hn (by rw [← e]; exact h.new s hs hle)
  rw [h.keep s hs (by omega), e]
theorem CutJ.prt (h : CutJ n l m a T j m' a') (hk : k < m) (hn : k ∉ T.take j) : prt n a' k = prt n a k := prt_congr fun s hs => h.same hk hn hs
theorem CutJ.skip (h : CutJ n l m a T j m' a') (hj : T[j]? = some k) (hall : ∀ s, s < n → a s = k → s ∈ l) : CutJ n l m a T (j + 1) m' a' := by
 refine ⟨h.pn, h.le, h.keep, fun s hs he => (mem_take_succ hj).2 (.inl (h.new s hs he)), fun s t hs ht => ?_⟩
 rw [h.iff s t hs ht]
 constructor
 ·rintro ⟨h1, h2⟩
  refine ⟨h1, fun hm => ?_⟩
  rcases (mem_take_succ hj).1 hm with hm | hm
  ·exact h2 hm
  ·exact ⟨fun _ => hall t ht (by rw [← h1, hm]), fun _ => hall s hs hm⟩
 ·rintro ⟨h1, h2⟩
  exact ⟨h1, fun hm => h2 ((mem_take_succ hj).2 (.inl hm))⟩
theorem CutJ.next (h : CutJ n l m a T j m' a') (hd : T.Nodup) (hj : T[j]? = some k) (hk : k < m) {I : Nat → Bool} (hI : ∀ s, s < n → (I s = true ↔ s ∈ l)) (b : Bool) (hy : ∃ s, s < n ∧ a s = k ∧ I s = b) (hn : ∃ s, s < n ∧ a s = k ∧ I s = !b) :
  CutJ n l m a T (j + 1) (m' + 1) (spl a' I k m' b) := by
 have hnt := not_mem_take hd hj
 have hkm : k < m' := Nat.lt_of_lt_of_le hk h.le
 have hy2 : ∃ s, s < n ∧ a' s = k ∧ I s = b := by
  obtain ⟨s, h1, h2, h3⟩ := hy
  exact ⟨s, h1, (h.same hk hnt h1).2 h2, h3⟩
 have hn2 : ∃ s, s < n ∧ a' s = k ∧ I s = !b := by
  obtain ⟨s, h1, h2, h3⟩ := hn
  exact ⟨s, h1, (h.same hk hnt h1).2 h2, h3⟩
 have hle := h.le
 refine ⟨spl_pn h.pn hkm hy2 hn2, by omega, fun s hs he => ?_, fun s hs he => ?_, fun s t hs ht => ?_⟩
 ·by_cases hc : a' s = k ∧ I s = b
  ·rw [spl_yes hc.1 hc.2] at he
   omega
  ·rw [spl_no hc] at he ⊢
   exact h.keep s hs he
 ·by_cases hc : a' s = k ∧ I s = b
  ·exact (mem_take_succ hj).2 (.inr ((h.same hk hnt hs).1 hc.1))
  ·rw [spl_no hc] at he
   exact (mem_take_succ hj).2 (.inl (h.new s hs he))
 ·rw [spl_iff h.pn hs ht, h.iff s t hs ht]
  have e1 : (a' s = k → I s = I t) ↔ (a s = k → I s = I t) := by rw [h.same hk hnt hs]
  have e2 : I s = I t ↔ (s ∈ l ↔ t ∈ l) := by rw [Bool.eq_iff_iff, hI s hs, hI t ht]
  rw [e1, e2]
  constructor
  ·rintro ⟨⟨h1, h2⟩, h3⟩
   refine ⟨h1, fun hm => ?_⟩
   rcases (mem_take_succ hj).1 hm with hm | hm
   ·exact h2 hm
   ·exact h3 hm
  ·rintro ⟨h1, h2⟩
   exact ⟨⟨h1, fun hm => h2 ((mem_take_succ hj).2 (.inl hm))⟩, fun e => h2 ((mem_take_succ hj).2 (.inr e))⟩
theorem CutJ.done (h : CutJ n l m a (tchL a l) j m' a') (hj : (tchL a l).length ≤ j) : CutP n l m a m' a' := by
 refine ⟨h.pn, h.le, h.keep, fun s t hs ht => ?_⟩
 rw [h.iff s t hs ht, List.take_of_length_le hj]
 constructor
 ·rintro ⟨h1, h2⟩
  refine ⟨h1, ?_⟩
  by_cases hm : a s ∈ tchL a l
  ·exact h2 hm
  ·exact ⟨fun x => absurd (tchL_mem.2 ⟨s, x, rfl⟩) hm, fun x => absurd (tchL_mem.2 ⟨t, x, h1.symm⟩) hm⟩
 ·rintro ⟨h1, h2⟩
  exact ⟨h1, fun _ => h2⟩
end
/-! ### cut by cut, until no cut tells more apart -/
def turnY (t ci x i : Nat) : Prop := t < x ∨ (x = t ∧ ci ≤ i)
structure HopI (D : Dm) (cs : List Nat) (t ci m : Nat) (a : Nat → Nat) : Prop where
 pn : Pn D.next.length m a
 ends : ∀ s q, s < D.next.length → q < D.next.length → a s = a q → D.ends.getD s false = D.ends.getD q false
 co : ∀ s q, s < D.next.length → q < D.next.length → accD D s = accD D q → a s = a q
 inv : ∀ i c s q, cs[i]? = some c → s < D.next.length → q < D.next.length → a s = a q → a (stC D s c) ≠ a (stC D q c) → turnY t ci (a (stC D s c)) i ∨ turnY t ci (a (stC D q c)) i
structure ClsC (D : Dm) (cs : List Nat) : Prop where
 byte : ∀ c ∈ cs, ∃ b : UInt8, c = (D.cl.getD b.toNat 0).toNat
 all : ∀ b : UInt8, (D.cl.getD b.toNat 0).toNat ∈ cs
theorem ClsC.lt {D : Dm} {cs : List Nat} (h : ClsC D cs) (hl : D.cl.length = 256) {c : Nat} (hc : c ∈ cs) : c < clsA D.cl := by
 obtain ⟨b, rfl⟩ := h.byte c hc
 exact clsW_lt hl [b] _ (by simp [clsW])
theorem ClsC.acc {D : Dm} {cs : List Nat} (h : ClsC D cs) {c : Nat} (hc : c ∈ cs) {s q : Nat} (he : accD D s = accD D q) : accD D (stC D s c) = accD D (stC D q c) := by
 obtain ⟨b, rfl⟩ := h.byte c hc
 rw [← stD_stC, ← stD_stC]
 funext w
 exact congrFun he (b :: w)
section
variable {D : Dm} {cs : List Nat} {t ci m m' : Nat} {a a' : Nat → Nat} {l : List Nat}
theorem HopI.zero (hm : MayD D) (h : CutP D.next.length l 1 (fun _ => 0) m' a') (hl : ∀ s, s ∈ l ↔ s < D.next.length ∧ D.ends.getD s false = true) : HopI D cs 0 0 m' a' := by
 have key : ∀ s q, s < D.next.length → q < D.next.length → (a' s = a' q ↔ D.ends.getD s false = D.ends.getD q false) := fun s q hs hq => by
  rw [h.iff s q hs hq, Bool.eq_iff_iff, hl, hl]
  exact ⟨fun k => ⟨fun e => (k.2.1 ⟨hs, e⟩).2, fun e => (k.2.2 ⟨hq, e⟩).2⟩, fun k => ⟨rfl, fun e => ⟨hq, k.1 e.2⟩, fun e => ⟨hs, k.2 e.2⟩⟩⟩
 refine ⟨h.pn, fun s q hs hq => (key s q hs hq).1, fun s q hs hq he => (key s q hs hq).2 (congrFun he []), fun i c s q _ _ _ _ hne => ?_⟩
 unfold turnY
 omega
theorem HopI.step (h : HopI D cs t ci m a) (hm : MayD D) (hl : D.cl.length = 256) (hc : ClsC D cs) {c : Nat} (hci : cs[ci]? = some c) (ht : t < m) (k : CutP D.next.length l m a m' a') (hx : ∀ s, s < D.next.length → (s ∈ l ↔ a (stC D s c) = t)) : HopI D cs t (ci + 1) m' a' := by
 have hmc := List.mem_of_getElem? hci
 have up : ∀ s q, s < D.next.length → q < D.next.length → a' s = a' q → a s = a q := fun s q hs hq e => ((k.iff s q hs hq).1 e).1
 refine ⟨k.pn, fun s q hs hq e => h.ends s q hs hq (up s q hs hq e), fun s q hs hq e => ?_, fun i d s q hi hs hq e hne => ?_⟩
 ·rw [k.iff s q hs hq]
  refine ⟨h.co s q hs hq e, ?_⟩
  rw [hx s hs, hx q hq, h.co _ _ (stC_lt hm hs c (hc.lt hl hmc)) (stC_lt hm hq c (hc.lt hl hmc)) (hc.acc hmc e)]
 ·have hmd := List.mem_of_getElem? hi
  have hs2 := stC_lt hm hs d (hc.lt hl hmd)
  have hq2 := stC_lt hm hq d (hc.lt hl hmd)
  obtain ⟨e1, e2⟩ := (k.iff s q hs hq).1 e
  by_cases hxy : a (stC D s d) = a (stC D q d)
  ·-- split by this cut
   have : m ≤ a' (stC D s d) ∨ m ≤ a' (stC D q d) := Classical.byContradiction fun hno => by
    rw [not_or] at hno
    exact hne (by rw [k.keep _ hs2 (by omega), k.keep _ hq2 (by omega), hxy])
   unfold turnY
   omega
  ·have hold := h.inv i d s q hi hs hq e1 hxy
   have mv : ∀ u, u < D.next.length → turnY t ci (a u) i → (i = ci → a u ≠ t) → turnY t (ci + 1) (a' u) i := fun u hu hy hno => by
    by_cases hlt : a' u < m
    ·rw [k.keep u hu hlt]
     unfold turnY at hy ⊢
     rcases hy with hy | ⟨hy, hz⟩
     ·exact .inl hy
     ·by_cases hic : i = ci
      ·exact absurd hy (hno hic)
      ·exact .inr ⟨hy, by omega⟩
    ·unfold turnY
     omega
   have dc : i = ci → d = c := fun e3 => by
    rw [e3, hci] at hi
    exact (Option.some.inj hi).symm
   rcases hold with hold | hold
   ·refine .inl (mv _ hs2 hold fun e3 e4 => ?_)
    have e5 := dc e3
    subst e5
    rw [hx s hs, hx q hq] at e2
    exact hxy (by rw [e4, e2.1 e4])
   ·refine .inr (mv _ hq2 hold fun e3 e4 => ?_)
    have e5 := dc e3
    subst e5
    rw [hx s hs, hx q hq] at e2
    exact hxy (by rw [e4, e2.2 e4])
theorem HopI.next (h : HopI D cs t ci m a) (hci : cs.length ≤ ci) : HopI D cs (t + 1) 0 m a :=
 ⟨h.pn, h.ends, h.co, fun i c s q hi hs hq e hne => by
  have h1 := h.inv i c s q hi hs hq e hne
  have h2 := (List.getElem?_eq_some_iff.1 hi).1
  unfold turnY at h1 ⊢
  omega⟩
theorem HopI.done (h : HopI D cs t ci m a) (hm : MayD D) (hl : D.cl.length = 256) (hc : ClsC D cs) (ht : m ≤ t) {s q : Nat} (hs : s < D.next.length) (hq : q < D.next.length) : a s = a q ↔ accD D s = accD D q := by
 refine ⟨fun e => ?_, h.co s q hs hq⟩
 have st : ∀ s q, s < D.next.length → q < D.next.length → a s = a q → ∀ b : UInt8, a (stD D s b) = a (stD D q b) := fun s q hs hq e b => by
  rw [stD_stC, stD_stC]
  obtain ⟨i, hi, he⟩ := List.getElem_of_mem (hc.all b)
  refine Classical.byContradiction fun hne => ?_
  have h1 := h.inv i _ s q (by rw [List.getElem?_eq_getElem hi, he]) hs hq e hne
  have h2 := h.pn.lt _ (stC_lt hm hs _ (hc.lt hl (hc.all b)))
  have h3 := h.pn.lt _ (stC_lt hm hq _ (hc.lt hl (hc.all b)))
  unfold turnY at h1
  omega
 have key : ∀ (w : List UInt8) (s q : Nat), s < D.next.length → q < D.next.length → a s = a q → accD D s w = accD D q w := by
  intro w
  induction w with
  | nil => exact fun s q hs hq e => h.ends s q hs hq e
  | cons b w ih =>
   intro s q hs hq e
   exact ih _ _ (toD_ltA hm hl [b] s hs) (toD_ltA hm hl [b] q hq) (st s q hs hq e b)
 funext w
 exact key w s q hs hq e
theorem HopI.par (h : HopI D cs t ci m a) (hm : MayD D) (hl : D.cl.length = 256) (hc : ClsC D cs) (ht : m ≤ t) {s f : Nat} (hs : s < D.next.length) (hf : (prt D.next.length a (a s))[0]? = some f) : parD D s = f := by
 obtain ⟨h1, h2⟩ := prt_mem.1 (List.mem_of_getElem? hf)
 obtain ⟨p1, p2, p3⟩ := parD_spec D s
 have hps : parD D s < D.next.length := Nat.lt_of_le_of_lt p2 hs
 apply Nat.le_antisymm
 ·refine Nat.le_of_not_lt fun hlt => p3 f hlt ?_
  exact (h.done hm hl hc ht h1 hs).1 h2
 ·exact prt_first hf hps ((h.done hm hl hc ht hps hs).2 p1)
end
end Go.Proofs.Ytlohehcfplkjbaa
