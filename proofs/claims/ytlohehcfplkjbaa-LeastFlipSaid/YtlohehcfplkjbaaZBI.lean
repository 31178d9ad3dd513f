/-
  Texts of this proof, put together: LpK, LqF. No statement is proved here.
-/
import Derived.Test.YtlohehcfplkjbaaZV
import Derived.Test.YtlohehcfplkjbaaZG
import Derived.Test.YtlohehcfplkjbaaZN
import Derived.Test.YtlohehcfplkjbaaZM
namespace Go.Proofs.Ytlohehcfplkjbaa
open Go.RowKit
set_option linter.unusedSimpArgs false
set_option linter.unusedVariables false
theorem l21 (n : Nat) : 1 < 2 + n := by omega
theorem ne_21 (j : Nat) : j + 2 ≠ 1 := by omega
def flJ (l : List Bool) (i : Nat) : List Bool := (l.take i).map (fun b => !b) ++ l.drop i
theorem flJ_zero (l : List Bool) : flJ l 0 = l := by simp [flJ]
theorem flJ_all (l : List Bool) {i : Nat} (h : l.length ≤ i) : flJ l i = l.map fun b => !b := by
 unfold flJ
 rw [List.take_of_length_le h, List.drop_of_length_le h, List.append_nil]
theorem flJ_len (l : List Bool) (i : Nat) : (flJ l i).length = l.length := by simp [flJ]; omega
theorem flJ_at {l : List Bool} {i : Nat} (h : i < l.length) : (flJ l i)[i]? = l[i]? := by
 unfold flJ
 rw [List.getElem?_append_right (by simp; omega)]
 simp
 congr 1
 omega
theorem flJ_set {l : List Bool} {i : Nat} {b : Bool} (h : l[i]? = some b) : (flJ l i).set i (!b) = flJ l (i + 1) := by
 obtain ⟨hi, hb⟩ := List.getElem?_eq_some_iff.1 h
 unfold flJ
 rw [List.set_append_right _ _ (by simp; omega), List.drop_eq_getElem_cons hi, List.take_succ_eq_append_getElem hi, hb]
 simp [Nat.min_eq_left (Nat.le_of_lt hi)]
theorem bools_setJ (l : List Bool) (j : Nat) (b : Bool) : (bools l).set j (.bool b) = bools (l.set j b) := by simp [bools, List.map_set]
set_option maxHeartbeats 8000000 in
set_option maxRecDepth 1000000 in
theorem refFlip11_any (D : Dm) (cs : List Value) (w : World) (hv : DfaV w cs D) (hm : MayD D) :
  Calls Try.prog 25 #[.agg cs.toArray] w fun e w' => ∃ cs', e = .returned (.agg cs'.toArray) ∧ DfaV w' cs' (flipD D) ∧ Below w.heap.size w w' := by
 have V0 := qH hv
 have HM := qH hm
 have HDS := qH hv.size
 obtain ⟨d0, hd0⟩ : ∃ d0, d0 = dcl (ctab [] 0) (.slice none 0 0) (.slice none 0 0) := ⟨_, rfl⟩
 have HDL := qH (show d0.length = 258 by rw [hd0]; exact dcl_len (ctab_length _ _))
 obtain ⟨id, hid, hdz⟩ := Option.map_eq_some_iff.1 inf_dfa
 rw [← hd0] at hdz
 clear hv hm hd0
 go_enter Try.func25, Try.ntmps25
 go_wp2_with (first
  | ((with_reducible refine atDst 1 ?_); refine wpList_box rfl 28 _ rfl cs rfl (Below.refl w.heap.size w) (Nat.le_refl _) ?_; intro w1 hk1 hb1 hs1 _; have K1 := qH hk1; have B1 := qH hb1; clear hk1 hb1 hs1; (try simp only [Act.put, qA, qB, qC]))
  | ((with_reducible refine atDst 2 ?_); refine wpList_new rfl 28 rfl id _ d0 hid hdz rfl (Below.refl w1.heap.size w1) (Nat.le_refl _) ?_; intro w2 hk hb hs _; have R2 := qH hk; have K2 := qH (K1.out.below hb K1.out.lt); have B2 := qH (B1.out.trans (hb.mono B1.out.size)); clear hk hb hs; (try simp only [Act.put, qA, qB, qC]))
  | ((with_reducible refine atDst 5 ?_); refine wpList_ldArr rfl 28 _ rfl w.heap.size rfl 28 _ _ K2.out Try.underlying28 rfl HDS.out ?_; (try simp only [Act.put, qA, qB, qC])))
 refine (refMay11_any D cs w2 (V0.out.below B2.out) HM.out).mono ?_
 rintro e w3 ⟨rfl, hb⟩
 have K3 := qH (K2.out.below hb K2.out.lt)
 have R3 := qH (R2.out.below hb R2.out.lt)
 have B3 := qH (B2.out.trans (hb.mono B2.out.size))
 clear hb
 go_wp2_with ((with_reducible refine atDst 9 ?_); refine wpList_ldArr rfl 28 _ rfl w.heap.size rfl 28 _ _ K3.out Try.underlying28 rfl HDS.out ?_; (try simp only [Act.put, qA, qB, qC]))
 refine (refCopy11_any D cs w3 (V0.out.below B3.out) HM.out).mono ?_
 rintro e w4 ⟨cc, rfl, hd, hb⟩
 have HCS4 := qH hd.dfa.size
 obtain ⟨U, X, hl, hcc, ha, h0, h1, hr⟩ := hd
 obtain ⟨n, hnn⟩ : ∃ n, n = D.next.length := ⟨_, rfl⟩
 have HN := qH hnn
 have HEL := qH (show D.ends.length = n by rw [hnn]; exact HM.out.ends)
 have HNP := qH (show 0 < n by rw [hnn]; exact HM.out.pos)
 have HNF := qH (show n ≤ 2000 by rw [hnn]; exact HM.out.few)
 rw [← hnn] at ha
 have o1 := ha.own 1 (by omega)
 have ex1 : (X 1).length = n := by rw [h1, bools_length, HEL.out]
 rw [ex1] at o1
 obtain ⟨g1, c1, hu1, _, _, hg1, hg1b⟩ := own_in o1 HNP.out
 have o0 := ha.own 0 (by omega)
 obtain ⟨AN, cN, hu0⟩ := ownC_slice o0
 have HL := qH hl
 have HU1 := qH hu1
 have HX1 := qH h1
 have HX0 := qH h0
 have HXR := qH hr
 have HG1 := qH hg1
 have HG1B := qH hg1b
 have HCC := qH hcc
 have HCL := qH (show cc.length = 258 by rw [hcc]; exact dcl_len hl)
 have HCO := qH (show cc.all (·.oneCell') = true by rw [hcc, hu0, hu1]; exact dcl_one)
 have A4 := qH (show Apt w4 w3.heap.size (2 + n) U (putX X 1 (bools (flJ D.ends 0))) by
  have e : putX X 1 (bools (flJ D.ends 0)) = X := by
   funext i
   unfold putX
   by_cases hi : i = 1
   ·rw [if_pos hi, flJ_zero, hi, h1]
   ·rw [if_neg hi]
  rw [e]
  exact ha)
 have R4 := qH (R3.out.below hb R3.out.lt)
 have B34 := qH hb
 have B4 := qH (B3.out.trans (hb.mono B3.out.size))
 have HR3 := qH (show w1.heap.size < w3.heap.size from R3.out.lt)
 clear hl hcc ha h0 h1 hr hnn o1 ex1 hu1 hg1 hg1b o0 hu0 hb
 go_wp2_with (first
  | ((with_reducible refine atDst 3 ?_); refine wpList_new rfl 28 rfl id _ d0 hid hdz rfl (Below.refl w4.heap.size w4) (Nat.le_refl _) ?_; intro w5 hk hb hs _; have G5 := qH hk; have B45 := qH hb; clear hk hb hs; (try simp only [Act.put, qA, qB, qC]))
  | ((with_reducible refine atStore 28 3 10 ?_); refine wpList_stBlk rfl 28 _ _ rfl w4.heap.size cc rfl rfl 28 _ G5.out HCS4.out (by rw [HDL.out, HCL.out]) HCO.out B45.out (Nat.le_refl _) ?_; intro w6 hk hb hs ho; have G6 := qH hk; have B46 := qH hb; clear hk hb hs ho; (try simp only [Act.put, qA, qB, qC])))
 obtain ⟨gd, hgd⟩ : ∃ g, g = w4.heap.size := ⟨_, rfl⟩
 rw [← hgd] at G6
 rw [← hgd]
 have HGD := qH hgd
 have A6 := qH (A4.out.below B46.out)
 have B36 := qH (B34.out.trans (B46.out.mono B34.out.size))
 clear hgd
 go_loopw [4] (fun v wl => ∃ i : Nat, i ≤ n ∧ v = .int .i64 (i : Int) ∧ Apt wl w3.heap.size (2 + n) U (putX X 1 (bools (flJ D.ends i))) ∧ Blk wl gd 28 cc ∧ Below w3.heap.size w3 wl) (fun v _ => n - (intOf v).toNat)
 case atStart => exact ⟨0, Nat.zero_le _, rfl, A6.out, G6.out, B36.out⟩
 clear A6 G6 B36 A4 B46 G5 B45
 obtain ⟨i, hi, rfl, ha, hg, hb⟩ := hrel
 have HI := qH hi
 have AI := qH ha
 have GI := qH hg
 have BI := qH hb
 have C257 := qH (show wr.cell? ⟨gd, 257, none⟩ = some (.slice (some ⟨g1, 0, none⟩) n c1) by rw [hg.cell 257, HCC.out, ← HU1.out]; exact dcl_e HL.out)
 have c257 := C257.out
 clear hi ha hg hb
 by_cases hin : i < n
 ·have x1 : (i : Int) < (n : Int) := Int.ofNat_lt.2 hin
  have HIN := qH hin
  have HMI := qH (sub_next hin)
  have e3 := wrap_one i (lt_bigN hin HNF.out)
  have e4 := wrap_one' i (lt_bigN hin HNF.out)
  obtain ⟨b, hb⟩ : ∃ b, D.ends[i]? = some b := ⟨_, List.getElem?_eq_getElem (by rw [HEL.out]; exact hin)⟩
  have HB := qH hb
  have hcl := own_cell (j := i) (u := .bool b) (show wr.ownsRow w3.heap.size 4 1 (.slice (some ⟨g1, 0, none⟩) n c1) n (bools (flJ D.ends i)) by
   have h1 := AI.out.own 1 (l21 n)
   rw [putX_at, bools_length, flJ_len, HEL.out, HU1.out] at h1
   exact h1) (by unfold bools; rw [List.getElem?_map, flJ_at (by rw [HEL.out]; exact hin), hb]; rfl)
  have HC1 := qH hcl.1
  have HC2 := qH hcl.2
  have HGR := qH (show gd < wr.heap.size from GI.out.lt)
  have HG1R := qH (show g1 < wr.heap.size from Nat.lt_trans (by rw [HGD.out]; exact HG1.out) HGR.out)
  clear hin hb hcl
  go_wp2_with fail
  clear c257
  refine mc_start (fun _ => True) (fun V => Below wr.heap.size wr V) 10 (by kernel_rfl) (fun wd hwd => ?_)
  have hX : True := trivial
  have hY : Below wr.heap.size wr wd := by rw [hwd]; exact (Below.refl _ _).drew
  clear hwd
  refine mc_take (i := 0) (oi := ⟨some 18, _, _, _, _, _⟩) (v := ?_) rfl (by kernel_rfl) (by kernel_rfl) (by kernel_rfl) (fun _ _ _ h => h) rfl hX ?_ ?_; rotate_left; (intro W hW; go_simp; try with_reducible rfl); simp only [Act.put, qA, qB, qC]
  refine mc_takeS (i := 1) (oi := ⟨some 19, _, _, _, _, _⟩) (v := .slice (some ⟨g1, 0, none⟩) n c1) rfl (by kernel_rfl) (by kernel_rfl) (by kernel_rfl) (fun _ _ _ h => h) rfl hX hY (fun V _ hV => ld_bls (.tmp 18) rfl rfl ((hV.cell (p := ⟨gd, 257, none⟩) HGR.out).trans C257.out)) ?_; simp only [Act.put, qA, qB, qC]
  refine mc_take (i := 2) (oi := ⟨some 20, _, _, _, _, _⟩) (v := ?_) rfl (by kernel_rfl) (by kernel_rfl) (by kernel_rfl) (fun _ _ _ h => h) rfl hX ?_ ?_; rotate_left; (intro W hW; go_simp; try with_reducible rfl); simp only [Act.put, qA, qB, qC]
  refine mc_take (i := 3) (oi := ⟨some 21, _, _, _, _, _⟩) (v := ?_) rfl (by kernel_rfl) (by kernel_rfl) (by kernel_rfl) (fun _ _ _ h => h) rfl hX ?_ ?_; rotate_left; (intro W hW; go_simp; try with_reducible rfl); simp only [Act.put, qA, qB, qC]
  refine mc_takeS (i := 4) (oi := ⟨some 22, _, _, _, _, _⟩) (v := .slice (some ⟨g1, 0, none⟩) n c1) rfl (by kernel_rfl) (by kernel_rfl) (by kernel_rfl) (fun _ _ _ h => h) rfl hX hY (fun V _ hV => ld_bls (.tmp 21) rfl rfl ((hV.cell (p := ⟨gd, 257, none⟩) HGR.out).trans C257.out)) ?_; simp only [Act.put, qA, qB, qC]
  refine mc_take (i := 5) (oi := ⟨some 23, _, _, _, _, _⟩) (v := ?_) rfl (by kernel_rfl) (by kernel_rfl) (by kernel_rfl) (fun _ _ _ h => h) rfl hX ?_ ?_; rotate_left; (intro W hW; go_simp; try with_reducible rfl); simp only [Act.put, qA, qB, qC]
  refine mc_take (i := 6) (oi := ⟨some 24, _, _, _, _, _⟩) (v := ?_) rfl (by kernel_rfl) (by kernel_rfl) (by kernel_rfl) (fun _ _ _ h => h) rfl hX ?_ ?_; rotate_left; (intro W hW; go_simp; try with_reducible rfl); simp only [Act.put, qA, qB, qC]
  refine mc_takeS (i := 7) (oi := ⟨some 25, _, _, _, _, _⟩) (v := .bool b) rfl (by kernel_rfl) (by kernel_rfl) (by kernel_rfl) (fun _ _ _ h => h) rfl hX hY (fun V _ hV => ld_b (.tmp 24) rfl rfl ((hV.cell (p := ⟨g1, i, none⟩) HG1R.out).trans HC1.out)) ?_; simp only [Act.put, qA, qB, qC]
  refine mc_take (i := 8) (oi := ⟨some 26, _, _, _, _, _⟩) (v := ?_) rfl (by kernel_rfl) (by kernel_rfl) (by kernel_rfl) (fun _ _ _ h => h) rfl hX ?_ ?_; rotate_left; (intro W hW; go_simp; try with_reducible rfl); simp only [Act.put, qA, qB, qC]
  refine mc_take (i := 9) (oi := ⟨some 27, _, _, _, _, _⟩) (v := ?_) rfl (by kernel_rfl) (by kernel_rfl) (by kernel_rfl) (fun _ _ _ h => h) rfl hX ?_ ?_; rotate_left; (intro W hW; go_simp; try with_reducible rfl); simp only [Act.put, qA, qB, qC]
  refine mc_last (i := 10) (o := ⟨none, _, _, _, _, _⟩) rfl (by kernel_rfl) rfl (fun K hK => ?_)
  have AD := qH (AI.out.below hY)
  have GDD := qH (GI.out.below hY GI.out.lt)
  have BD := qH (BI.out.trans (hY.mono BI.out.size))
  have HCD := qH ((hY.cell (p := ⟨g1, i, none⟩) HG1R.out).trans HC1.out)
  have HFD := qH (own_cell (j := i) (u := .bool b) (show wd.ownsRow w3.heap.size 4 1 (.slice (some ⟨g1, 0, none⟩) n c1) n (bools (flJ D.ends i)) by
   have h1 := AD.out.own 1 (l21 n)
   rw [putX_at, bools_length, flJ_len, HEL.out, HU1.out] at h1
   exact h1) (by unfold bools; rw [List.getElem?_map, flJ_at (by rw [HEL.out]; exact HIN.out), HB.out]; rfl)).2
  clear hY
  refine wp_stB (.tmp 27) (.tmp 26) rfl g1 i rfl (!b) rfl _ HCD.out HFD.out ?_
  refine hK _ _ trivial ?_
  clear hK K hX
  (try simp only [Act.put, qA, qB, qC])
  refine wpAnyC_done (by kernel_rfl) ?_ _
  have AS := qH (show Apt (wd.setCell ⟨g1, i, none⟩ (.bool (!b))) w3.heap.size (2 + n) U (putX X 1 (bools (flJ D.ends (i + 1)))) by
   have h1 := AD.out.set (s := 1) (l21 n) HU1.out (q := i) (by rw [putX_at, bools_length, flJ_len, HEL.out]; exact HIN.out) (.bool (!b))
   rw [putX_at, bools_setJ, flJ_set HB.out, putX_putX] at h1
   exact h1)
  have GS := qH (show Blk (wd.setCell ⟨g1, i, none⟩ (.bool (!b))) gd 28 cc from (Below.heap_setCell wd ⟨g1, i, none⟩ _ gd (by rw [HGD.out]; exact Nat.ne_of_gt HG1.out)).trans GDD.out)
  have BS := qH (BD.out.setCell (p := ⟨g1, i, none⟩) HG1B.out (Value.bool (!b)))
  go_wp2_with fail
  exact ⟨⟨i + 1, HIN.out, by congr 1, AS.out, GS.out, BS.out⟩, by simpa [intOf] using HMI.out⟩
 ·obtain rfl : n = i := Nat.le_antisymm (Nat.le_of_not_lt hin) HI.out
  have x1 : ¬ ((n : Int) < (n : Int)) := Int.lt_irrefl _
  have KR := qH (show Blk wr w1.heap.size 28 d0 from (BI.out.block w1.heap.size HR3.out).trans R3.out)
  have B1G := qH (show w.heap.size ≤ w1.heap.size from B1.out.size)
  clear hin
  go_wp2_with (first
   | ((with_reducible refine atDst 28 ?_); refine wpList_ldArr rfl 28 _ rfl gd rfl 28 _ _ GI.out Try.underlying28 rfl HCS4.out ?_; (try simp only [Act.put, qA, qB, qC]))
   | ((with_reducible refine atStore 28 2 28 ?_); refine wpList_stBlk rfl 28 _ _ rfl w1.heap.size cc rfl rfl 28 _ KR.out HCS4.out (by rw [HDL.out, HCL.out]) HCO.out (Below.refl w1.heap.size wr) (Nat.le_refl _) ?_; intro wz hk hb hs ho; have KZ := qH hk; have HO9 := qH ho; have BZ := qH hb; clear hk hb hs ho; (try simp only [Act.put, qA, qB, qC])))
  refine bodyPost_ret (results_blk rfl _ _ w1.heap.size 28 _ _ rfl KZ.out Try.underlying28 rfl HCS4.out) rfl ?_
  have az : Apt wz w3.heap.size (2 + n) U (putX X 1 (bools (flJ D.ends n))) := AI.out.stay fun q hq _ => HO9.out q (Nat.ne_of_gt (Nat.lt_of_lt_of_le HR3.out hq))
  have fin : flJ D.ends n = (flipD D).ends := flJ_all D.ends (by rw [HEL.out]; exact Nat.le_refl _)
  refine ⟨cc, rfl, DfaA.dfa (H := w3.heap.size) ⟨U, putX X 1 (bools (flJ D.ends n)), HL.out, HCC.out, by rw [show (flipD D).next.length = n from HN.out.symm]; exact az, ?_, by rw [putX_at, fin], fun j r hr => ?_⟩, (B3.out.trans (BI.out.mono B3.out.size)).trans (BZ.out.mono B1G.out)⟩
  ·rw [putX_ne (by decide)]
   exact HX0.out
  ·rw [putX_ne (ne_21 j)]
   exact HXR.out j r hr
set_option maxHeartbeats 8000000 in
set_option maxRecDepth 1000000 in
theorem least_flip_walk (C : LstC) (n c : Nat) (V : Value) (ps : List UInt8) (w : World) (hn : n < 256) (hc : c < 256) (hr : Row w V (bvs ps)) :
  Calls Try.prog 9 #[.int .u8 (n : Int), .int .u8 (c : Int), V] w fun e w' => e = .returned (.bool true) ∧ Below w.heap.size w w' := by
 have HCC := qH C
 clear C
 have R := qH hr
 obtain ⟨A, cap, rfl, _⟩ := hr
 rw [bvs_length] at R
 rw [bvs_length]
 have HN := qH hn
 have HC := qH hc
 obtain ⟨d0, hd0⟩ : ∃ d0, d0 = dcl (ctab [] 0) (.slice none 0 0) (.slice none 0 0) := ⟨_, rfl⟩
 have HDL := qH (show d0.length = 258 by rw [hd0]; exact dcl_len (ctab_length _ _))
 obtain ⟨id, hid, hdz⟩ := Option.map_eq_some_iff.1 inf_dfa
 rw [← hd0] at hdz
 have HDZ := qH hdz
 clear hd0 hdz hn hc
 go_enter Try.func9, Try.ntmps9
 go_wp2_with fail
 refine (begun12_any HCC.out w).mono ?_
 rintro e w1 ⟨rfl, hb⟩
 have B1 := qH hb
 clear hb
 by_cases hl : 60 < ps.length
 ·have x1 : (60 : Int) < (ps.length : Int) := Int.ofNat_lt.2 hl
  clear hl
  go_wp2_with fail
  go_ret
  exact ⟨rfl, B1.out⟩
 have x1 : ¬ (60 : Int) < (ps.length : Int) := fun h => hl (Int.ofNat_lt.1 h)
 have HL := qH (Nat.le_of_not_lt hl)
 clear hl
 go_wp2_with fail
 refine (playDfa_any n c ps _ w1 HN.out HC.out (R.out.below B1.out) HL.out).mono ?_
 rintro e w2 ⟨cs, rfl, hd, hb⟩
 obtain ⟨D, hD⟩ : ∃ D, D = dfaQ n c ps := ⟨_, rfl⟩
 rw [← hD] at hd
 have HM := qH (show MayD D by rw [hD]; exact dfaQ_may n c ps)
 have HK8 := qH (show D.next.length ≤ 8 by rw [hD, dfaQ_len]; exact k8L n)
 have HAC := qH (show AllC D by rw [hD]; exact dfaQ_allC n c ps)
 clear hD
 have VA := qH hd.dfa
 obtain ⟨An, Ae, cn, ce, vf, hcl, hcs, _⟩ := VA.out.form
 have HCS := qH hcs
 have HCLN := qH hcl
 have HLA := qH (show cs.length = 258 by rw [hcs]; exact dcl_len hcl)
 have HOA := qH (show cs.all (·.oneCell') = true by rw [hcs]; exact dcl_one)
 have HSA := qH (show (Try.prog.info? 28).map (·.size) = some cs.length from VA.out.size)
 have B2 := qH (B1.out.trans (hb.mono B1.out.size))
 clear hd hb hcl hcs
 go_wp2_with (first
  | ((with_reducible refine atDst 7 ?_); refine wpList_new rfl 28 rfl id _ d0 hid HDZ.out rfl (Below.refl w2.heap.size w2) (Nat.le_refl _) ?_; intro w3 hk hb hs _; have K3 := qH hk; have B23 := qH hb; clear hk hb hs; (try simp only [Act.put, qA, qB, qC]))
  | ((with_reducible refine atStore 28 7 16 ?_); refine wpList_stBlk rfl 28 _ _ rfl w2.heap.size cs rfl rfl 28 _ K3.out HSA.out (by rw [HDL.out, HLA.out]) HOA.out B23.out (Nat.le_refl _) ?_; intro w4 hk hb hs ho; have K4 := qH hk; have V4 := qH (VA.out.below hb); have B4 := qH (B2.out.trans (hb.mono B2.out.size)); clear hk hb hs ho; (try simp only [Act.put, qA, qB, qC])))
 have HCL2 := qH (show D.cl.length = 256 from HCLN.out)
 obtain ⟨gd, hgd⟩ : ∃ g, g = w2.heap.size := ⟨_, rfl⟩
 rw [← hgd] at K4
 rw [← hgd]
 clear hgd K3 B23 VA
 have HFM := qH (show MayD (flipD D) from flipD_may HM.out)
 have HFA := qH (show AllC (flipD D) from HAC.out)
 have HFL := qH (lst_flip HM.out HCL2.out)
 have HLM := qH (show MayD (lstD D) from lst_may HM.out HCL2.out)
 have HLF := qH (show MayD (flipD (lstD D)) from flipD_may HLM.out)
 go_wp2_with fail
 refine mc_start (fun V => Below w4.heap.size w4 V) (fun _ => True) 8 (by kernel_rfl) (fun wd hwd => ?_)
 have hX : Below w4.heap.size w4 wd := by rw [hwd]; exact (Below.refl _ _).drew
 have hY : True := trivial
 clear hwd
 refine mc_take (i := 0) (oi := ⟨some 17, _, _, _, _, _⟩) (v := .agg cs.toArray) rfl (by kernel_rfl) (by kernel_rfl) (by kernel_rfl) (fun _ _ _ h => h) rfl hX (fun V hT => ld_blk 28 (.tmp 7) rfl gd rfl 28 cs _ K4.out K4.out.lt Try.underlying28 rfl HSA.out V hT) ?_; simp only [Act.put, qA, qB, qC]
 refine mc_take (i := 3) (oi := ⟨some 20, _, _, _, _, _⟩) (v := .agg cs.toArray) rfl (by kernel_rfl) (by kernel_rfl) (by kernel_rfl) (fun _ _ _ h => h) rfl hX (fun V hT => ld_blk 28 (.tmp 7) rfl gd rfl 28 cs _ K4.out K4.out.lt Try.underlying28 rfl HSA.out V hT) ?_; simp only [Act.put, qA, qB, qC]
 refine mc_actB (i := 1) (o := ⟨some 18, _, _, _, _, _⟩) rfl (by kernel_rfl) rfl (fun K hK => ?_)
 have Y1 := qH hX
 go_wp2_with fail
 refine (refFlip11_any D cs wd (V4.out.below hX) HM.out).mono ?_
 rintro e v1 ⟨fs, rfl, hd, hb⟩
 have VF := qH hd
 clear hd
 have hX2 := Y1.out.trans (hb.mono Y1.out.size)
 clear hb
 go_wp2_with fail
 refine hK _ _ hX2 trivial ?_
 clear hK K hX
 have hX := hX2
 clear hX2
 (try simp only [Act.put, qA, qB, qC])
 refine mc_actB (i := 2) (o := ⟨some 19, _, _, _, _, _⟩) rfl (by kernel_rfl) rfl (fun K hK => ?_)
 have Y2 := qH hX
 go_wp2_with fail
 refine (HCC.out.least (flipD D) fs v1 VF.out HFM.out HFA.out).mono ?_
 rintro e v2 ⟨xs, rfl, hd, hb⟩
 rw [HFL.out] at hd
 have VX := qH hd
 clear hd
 have hX2 := Y2.out.trans (hb.mono Y2.out.size)
 clear hb
 go_wp2_with fail
 refine hK _ _ hX2 trivial ?_
 clear hK K hX
 have hX := hX2
 clear hX2
 (try simp only [Act.put, qA, qB, qC])
 refine mc_actB (i := 4) (o := ⟨some 21, _, _, _, _, _⟩) rfl (by kernel_rfl) rfl (fun K hK => ?_)
 have Y3 := qH hX
 go_wp2_with fail
 refine (HCC.out.least D cs v2 (V4.out.below hX) HM.out HAC.out).mono ?_
 rintro e v3 ⟨ys, rfl, hd, hb⟩
 have VY := qH hd
 have VX2 := qH (VX.out.below hb)
 clear hd
 have hX2 := Y3.out.trans (hb.mono Y3.out.size)
 clear hb
 go_wp2_with fail
 refine hK _ _ hX2 trivial ?_
 clear hK K hX
 have hX := hX2
 clear hX2
 (try simp only [Act.put, qA, qB, qC])
 refine mc_actB (i := 5) (o := ⟨some 22, _, _, _, _, _⟩) rfl (by kernel_rfl) rfl (fun K hK => ?_)
 have Y4 := qH hX
 go_wp2_with fail
 refine (refFlip11_any (lstD D) ys v3 VY.out HLM.out).mono ?_
 rintro e v4 ⟨zs, rfl, hd, hb⟩
 have VZ := qH hd
 have VX3 := qH (VX2.out.below hb)
 clear hd
 have hX2 := Y4.out.trans (hb.mono Y4.out.size)
 clear hb
 go_wp2_with fail
 refine hK _ _ hX2 trivial ?_
 clear hK K hX
 have hX := hX2
 clear hX2
 (try simp only [Act.put, qA, qB, qC])
 refine mc_actB (i := 6) (o := ⟨some 23, _, _, _, _, _⟩) rfl (by kernel_rfl) rfl (fun K hK => ?_)
 have Y5 := qH hX
 go_wp2_with fail
 refine (refSame11_self (flipD (lstD D)) xs zs v4 VX3.out VZ.out (by rw [HLF.out.ends]; exact HLF.out.few) HLF.out.few (fun r hr => by rw [HLF.out.rows r hr]; exact Nat.le_trans (clsA_le _) (by decide))).mono ?_
 rintro e v5 ⟨rfl, hb⟩
 have hX2 := Y5.out.trans (hb.mono Y5.out.size)
 clear hb
 go_wp2_with fail
 refine hK _ _ hX2 trivial ?_
 clear hK K hX
 have hX := hX2
 clear hX2
 (try simp only [Act.put, qA, qB, qC])
 refine mc_take (i := 7) (oi := ⟨some 6, _, _, _, _, _⟩) (v := ?_) rfl (by kernel_rfl) (by kernel_rfl) (by kernel_rfl) (fun _ _ _ h => h) rfl hX ?_ ?_; rotate_left; (intro W hW; go_simp; try with_reducible rfl); simp only [Act.put, qA, qB, qC]
 refine wpAnyC_done (by kernel_rfl) ?_ _
 have BE := qH (B4.out.trans (hX.mono B4.out.size))
 clear hX hY
 go_wp2_with fail
 go_ret
 exact ⟨rfl, BE.out⟩
end Go.Proofs.Ytlohehcfplkjbaa
