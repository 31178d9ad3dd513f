/-
  Texts of this proof, put together: LqP, LqS. No statement is proved here.
-/
import Derived.Test.YtlohehcfplkjbaaZN
import Derived.Test.YtlohehcfplkjbaaZJ
import Derived.Test.YtlohehcfplkjbaaZK
import Derived.Test.YtlohehcfplkjbaaZM
namespace Go.Proofs.Ytlohehcfplkjbaa
open Go.RowKit
set_option linter.unusedSimpArgs false
set_option linter.unusedVariables false
theorem ex_lsJ {ev : Operand → Value} {o : Oper} (x y : Operand) {r : TypeId} (ho : o.op = .binOp .lss 3 x y r) {p q : Int} (hx : ev x = .int .i64 p) (hy : ev y = .int .i64 q) {b : Bool} (hb : decide (p < q) = b) (W : World) : (execOp ev o).run Try.prog W = .ok (.value (.bool b)) W := by
 simp only [execOp, ho, hx, hy]
 subst hb
 go_simp
theorem ex_gtJ {ev : Operand → Value} {o : Oper} (x y : Operand) {r : TypeId} (ho : o.op = .binOp .gtr 3 x y r) {p q : Int} (hx : ev x = .int .i64 p) (hy : ev y = .int .i64 q) {b : Bool} (hb : decide (q < p) = b) (W : World) : (execOp ev o).run Try.prog W = .ok (.value (.bool b)) W := by
 simp only [execOp, ho, hx, hy]
 subst hb
 go_simp
theorem par_to {D : Dm} (h : MayD D) (hl : D.cl.length = 256) (ha : AllC D) {i j : Nat} (hj : j < clsA D.cl) : parD D (stC D i j) = parD D (stC D (parD D i) j) := by
 obtain ⟨b, hb⟩ := ha j hj
 have h1 := parD_step (parD_spec D i).1 b
 rw [stD_stC, stD_stC, hb] at h1
 exact (parD_same h1).symm
set_option maxHeartbeats 8000000 in
set_option maxRecDepth 1000000 in
theorem least_parts_walk (C : LstC) (n c : Nat) (V : Value) (ps : List UInt8) (w : World) (hn : n < 256) (hc : c < 256) (hr : Row w V (bvs ps)) :
  Calls Try.prog 8 #[.int .u8 (n : Int), .int .u8 (c : Int), V] w fun e w' => e = .returned (.bool true) ∧ Below w.heap.size w w' := by
 have HCC := qH C
 clear C
 have R := qH hr
 obtain ⟨A, cap, rfl, _⟩ := hr
 rw [bvs_length] at R
 rw [bvs_length]
 have HN := qH hn
 have HC := qH hc
 obtain ⟨d0, hd0⟩ : ∃ d0, d0 = dcl (ctab [] 0) (.slice none 0 0) (.slice none 0 0) := ⟨_, rfl⟩
 have HDL := qH (show d0.length = 258 by rw [hd0]; exact dcl_len (ctab_length _ _))
 obtain ⟨id, hid, hdz⟩ := Option.map_eq_some_iff.1 inf_dfa
 rw [← hd0] at hdz
 have HDZ := qH hdz
 clear hd0 hdz hn hc
 go_enter Try.func8, Try.ntmps8
 go_wp2_with fail
 refine (begun12_any HCC.out w).mono ?_
 rintro e w1 ⟨rfl, hb⟩
 have B1 := qH hb
 clear hb
 by_cases hl : 60 < ps.length
 ·have x1 : (60 : Int) < (ps.length : Int) := Int.ofNat_lt.2 hl
  clear hl
  go_wp2_with fail
  go_ret
  exact ⟨rfl, B1.out⟩
 have x1 : ¬ (60 : Int) < (ps.length : Int) := fun h => hl (Int.ofNat_lt.1 h)
 have HL := qH (Nat.le_of_not_lt hl)
 clear hl
 go_wp2_with fail
 refine (playDfa_any n c ps _ w1 HN.out HC.out (R.out.below B1.out) HL.out).mono ?_
 rintro e w2 ⟨cs, rfl, hd, hb⟩
 obtain ⟨D, hD⟩ : ∃ D, D = dfaQ n c ps := ⟨_, rfl⟩
 rw [← hD] at hd
 have HM := qH (show MayD D by rw [hD]; exact dfaQ_may n c ps)
 have HK8 := qH (show D.next.length ≤ 8 by rw [hD, dfaQ_len]; exact k8L n)
 have HAC := qH (show AllC D by rw [hD]; exact dfaQ_allC n c ps)
 clear hD
 have VA := qH hd.dfa
 obtain ⟨An, Ae, cn, ce, vf, hcl, hcs, _⟩ := VA.out.form
 have HCS := qH hcs
 have HCLN := qH hcl
 have HLA := qH (show cs.length = 258 by rw [hcs]; exact dcl_len hcl)
 have HOA := qH (show cs.all (·.oneCell') = true by rw [hcs]; exact dcl_one)
 have HSA := qH (show (Try.prog.info? 28).map (·.size) = some cs.length from VA.out.size)
 have B2 := qH (B1.out.trans (hb.mono B1.out.size))
 clear hd hb hcl hcs
 go_wp2_with (first
  | ((with_reducible refine atDst 7 ?_); refine wpList_new rfl 28 rfl id _ d0 hid HDZ.out rfl (Below.refl w2.heap.size w2) (Nat.le_refl _) ?_; intro w3 hk hb hs _; have K3 := qH hk; have B23 := qH hb; clear hk hb hs; (try simp only [Act.put, qA, qB, qC]))
  | ((with_reducible refine atStore 28 7 20 ?_); refine wpList_stBlk rfl 28 _ _ rfl w2.heap.size cs rfl rfl 28 _ K3.out HSA.out (by rw [HDL.out, HLA.out]) HOA.out B23.out (Nat.le_refl _) ?_; intro w4 hk hb hs ho; have K4 := qH hk; have V4 := qH (VA.out.below hb); have B4 := qH (B2.out.trans (hb.mono B2.out.size)); clear hk hb hs ho; (try simp only [Act.put, qA, qB, qC]))
  | ((with_reducible refine atDst 21 ?_); refine wpList_ldArr rfl 28 _ rfl w2.heap.size rfl 28 _ _ K4.out Try.underlying28 rfl HSA.out ?_; (try simp only [Act.put, qA, qB, qC])))
 have HCL2 := qH (show D.cl.length = 256 from HCLN.out)
 obtain ⟨gd, hgd⟩ : ∃ g, g = w2.heap.size := ⟨_, rfl⟩
 rw [← hgd] at K4
 rw [← hgd]
 clear hgd K3 B23 VA
 refine (HCC.out.parts D cs w4 V4.out HM.out HAC.out).mono ?_
 rintro e w5 ⟨pv, rfl, hr, hb⟩
 obtain ⟨m, hm⟩ : ∃ m, m = D.next.length := ⟨_, rfl⟩
 rw [← hm] at hr HK8
 have HMD := qH hm
 have HMP := qH (show 0 < m by rw [hm]; exact HM.out.pos)
 have HMF := qH (show m ≤ 2000 by rw [hm]; exact HM.out.few)
 obtain ⟨bp, op, cp, rfl, hbp, hcp⟩ := row_ncs hr HMP.out
 have HBP := qH hbp
 have CP := qH hcp
 have HCS2 := qH (show cs = dcl D.cl (.slice An m cn) (.slice Ae m ce) by rw [HCS.out, HM.out.ends, ← hm])
 have K5 := qH (K4.out.below hb K4.out.lt)
 have V5 := qH (V4.out.below hb)
 have B5 := qH (B4.out.trans (hb.mono B4.out.size))
 obtain ⟨kd, hkd⟩ : ∃ k, k = clsA D.cl := ⟨_, rfl⟩
 have HKD := qH hkd
 have HKD2 := qH (show kd ≤ 256 by rw [hkd]; exact clsA_le _)
 clear hb hr hbp hcp hm hkd
 obtain ⟨_, vn, ve, vf2, hdc, hdn, hdr, hde⟩ := V5.out
 have hdd := List.append_cancel_left (HCS2.out.symm.trans hdc)
 injection hdd with hd1 hd2
 injection hd2 with hd2 _
 subst hd1 hd2
 obtain ⟨bn, on, rfl, hbn, hcn⟩ := hdn.at_ (by rw [List.length_map, List.length_range, ← HMD.out]; exact HMP.out)
 obtain ⟨be, oe, rfl, hbe, hce⟩ := hde.at_ (by rw [bools_length, HM.out.ends, ← HMD.out]; exact HMP.out)
 have HBN := qH hbn
 have HBE := qH hbe
 have CE := qH (show ∀ q, q < m → w5.cell? ⟨be, oe + q, none⟩ = some (.bool (D.ends.getD q false)) from fun q hq => hce q _ (by
  rw [bools, List.getElem?_map, List.getElem?_eq_getElem (by rw [HM.out.ends, ← HMD.out]; exact hq), List.getD_eq_getElem?_getD, List.getElem?_eq_getElem (by rw [HM.out.ends, ← HMD.out]; exact hq)]; rfl))
 have ROW := qH (show ∀ s, s < m → ∃ r Ar cr, D.next[s]? = some r ∧ r.length = kd ∧ w5.cell? ⟨bn, on + s, none⟩ = some (.slice Ar kd cr) ∧ Row w5 (.slice Ar kd cr) (nums .i64 r) from fun s hs => by
  obtain ⟨r, h1⟩ : ∃ r, D.next[s]? = some r := ⟨_, List.getElem?_eq_getElem (by rw [← HMD.out]; exact hs)⟩
  have h2 : r.length = kd := by rw [HKD.out]; exact HM.out.rows r (List.mem_of_getElem? h1)
  have h3 := hdr s r h1
  have h3c := h3
  obtain ⟨Ar, cr, hvr, _⟩ := h3c
  rw [nums_length, h2] at hvr
  rw [hvr] at h3
  exact ⟨r, Ar, cr, h1, h2, hcn s _ (by rw [← HMD.out]; simp [hs, hvr]), h3⟩)
 clear hdc hdn hdr hde hbn hcn hbe hce
 have C256 := qH (show ∀ V, Below w5.heap.size w5 V → V.cell? ⟨gd, 256, none⟩ = some (.slice (some ⟨bn, on, none⟩) m cn) from fun V hV => ((K5.out.below hV K5.out.lt).cell 256).trans (by rw [HCS2.out]; exact dcl_n HCL2.out))
 have C257 := qH (show ∀ V, Below w5.heap.size w5 V → V.cell? ⟨gd, 257, none⟩ = some (.slice (some ⟨be, oe, none⟩) m ce) from fun V hV => ((K5.out.below hV K5.out.lt).cell 257).trans (by rw [HCS2.out]; exact dcl_e HCL2.out))
 have c256 := C256.out w5 (Below.refl _ _)
 have x0 : ((m : Int) != (m : Int)) = false := by simp
 go_wp2_with fail
 clear c256 x0
 go_loopw [9] (fun v wl => ∃ i : Nat, i ≤ m ∧ v = .int .i64 (i : Int) ∧ Below w5.heap.size w5 wl) (fun v _ => m - (intOf v).toNat)
 case atStart => exact ⟨0, Nat.zero_le _, rfl, Below.refl _ _⟩
 obtain ⟨i, hi, rfl, hb⟩ := hrel
 have HI := qH hi
 have BI := qH hb
 obtain ⟨wi, hwi⟩ : ∃ v : World, v = wr := ⟨_, rfl⟩
 subst hwi
 clear hi hb
 by_cases him : i < m
 ·have y1 : (i : Int) < (m : Int) := Int.ofNat_lt.2 him
  have HIM := qH him
  have HMI := qH (sub_next him)
  have e3 := wrap_one i (lt_bigN him HMF.out)
  have e4 := wrap_one' i (lt_bigN him HMF.out)
  obtain ⟨k, hk⟩ : ∃ k, parD D i = k := ⟨_, rfl⟩
  have HKE := qH hk
  have HKI := qH (show k ≤ i by rw [← hk]; exact (parD_spec D i).2.1)
  have HKM := qH (Nat.lt_of_le_of_lt HKI.out him)
  have HPK := qH (show parD D k = k by rw [← hk]; exact parD_twice D i)
  have hpi : wi.cell? ⟨bp, op + i, none⟩ = some (.int .i64 (k : Int)) := (BI.out.cell (p := ⟨bp, op + i, none⟩) HBP.out).trans (by rw [← hk]; exact CP.out i him)
  have HPKC := qH (show wi.cell? ⟨bp, op + k, none⟩ = some (.int .i64 (k : Int)) from (BI.out.cell (p := ⟨bp, op + k, none⟩) HBP.out).trans (by have := CP.out k HKM.out; rw [HPK.out] at this; exact this))
  obtain ⟨z, hz⟩ : ∃ z, D.ends.getD i false = z := ⟨_, rfl⟩
  have CEI := qH (show wi.cell? ⟨be, oe + i, none⟩ = some (.bool z) from (BI.out.cell (p := ⟨be, oe + i, none⟩) HBE.out).trans (by rw [← hz]; exact CE.out i him))
  have CEK := qH (show wi.cell? ⟨be, oe + k, none⟩ = some (.bool z) from (BI.out.cell (p := ⟨be, oe + k, none⟩) HBE.out).trans (by rw [← hz, ← parD_end (parD_spec D i).1, hk]; exact CE.out k HKM.out))
  have HZZ := qH (show (z != z) = false by cases z <;> rfl)
  have HBPI := qH (Nat.lt_of_lt_of_le HBP.out BI.out.size)
  have HBEI := qH (Nat.lt_of_lt_of_le HBE.out BI.out.size)
  have Y2 := qH (show decide ((k : Int) < 0) = false from decide_eq_false (Int.not_lt.2 (Int.natCast_nonneg k)))
  have Y3 := qH (show decide ((i : Int) < (k : Int)) = false from decide_eq_false (Int.not_lt.2 (Int.ofNat_le.2 HKI.out)))
  have y4 : (k : Int) < (m : Int) := Int.ofNat_lt.2 HKM.out
  have HKK := qH (show ((k : Int) != (k : Int)) = false by simp)
  clear him hk hz
  go_wp2_with fail
  clear hpi
  refine mc_start (fun V => Below wi.heap.size wi V) (fun _ => True) 28 (by kernel_rfl) (fun wd hwd => ?_)
  have hX : Below wi.heap.size wi wd := by rw [hwd]; exact (Below.refl _ _).drew
  clear hwd
  have TO := qH (show ∀ V, Below wi.heap.size wi V → Below w5.heap.size w5 V from fun V hV => BI.out.trans (hV.mono BI.out.size))
  refine mc_take (i := 0) (oi := ⟨some 39, _, _, _, _, _⟩) (v := ?_) rfl (by kernel_rfl) (by kernel_rfl) (by kernel_rfl) (fun _ _ _ h => h) rfl hX ?_ ?_; rotate_left; (intro W hW; go_simp; try with_reducible rfl); simp only [Act.put, qA, qB, qC]
  refine mc_take (i := 1) (oi := ⟨some 40, _, _, _, _, _⟩) (v := .bool false) rfl (by kernel_rfl) (by kernel_rfl) (by kernel_rfl) (fun _ _ _ h => h) rfl hX (fun V _ => ex_lsJ (.tmp 39) (.const (.int .i64 0)) rfl rfl rfl Y2.out V) ?_; simp only [Act.put, qA, qB, qC]
  refine mc_take (i := 2) (oi := ⟨some 41, _, _, _, _, _⟩) (v := ?_) rfl (by kernel_rfl) (by kernel_rfl) (by kernel_rfl) (fun _ _ _ h => h) rfl hX ?_ ?_; rotate_left; (intro W hW; go_simp; try with_reducible rfl); simp only [Act.put, qA, qB, qC]
  refine mc_take (i := 3) (oi := ⟨some 42, _, _, _, _, _⟩) (v := ?_) rfl (by kernel_rfl) (by kernel_rfl) (by kernel_rfl) (fun _ _ _ h => h) rfl hX ?_ ?_; rotate_left; (intro W hW; go_simp; try with_reducible rfl); simp only [Act.put, qA, qB, qC]
  refine mc_take (i := 4) (oi := ⟨some 43, _, _, _, _, _⟩) (v := ?_) rfl (by kernel_rfl) (by kernel_rfl) (by kernel_rfl) (fun _ _ _ h => h) rfl hX ?_ ?_; rotate_left; (intro W hW; go_simp; try with_reducible rfl); simp only [Act.put, qA, qB, qC]
  refine mc_take (i := 5) (oi := ⟨some 44, _, _, _, _, _⟩) (v := .bool false) rfl (by kernel_rfl) (by kernel_rfl) (by kernel_rfl) (fun _ _ _ h => h) rfl hX (fun V _ => ex_gtJ (.tmp 42) (.tmp 43) rfl rfl rfl Y3.out V) ?_; simp only [Act.put, qA, qB, qC]
  refine mc_take (i := 6) (oi := ⟨some 45, _, _, _, _, _⟩) (v := ?_) rfl (by kernel_rfl) (by kernel_rfl) (by kernel_rfl) (fun _ _ _ h => h) rfl hX ?_ ?_; rotate_left; (intro W hW; go_simp; try with_reducible rfl); simp only [Act.put, qA, qB, qC]
  refine mc_take (i := 7) (oi := ⟨some 46, _, _, _, _, _⟩) (v := ?_) rfl (by kernel_rfl) (by kernel_rfl) (by kernel_rfl) (fun _ _ _ h => h) rfl hX ?_ ?_; rotate_left; (intro W hW; go_simp; try with_reducible rfl); simp only [Act.put, qA, qB, qC]
  refine mc_take (i := 8) (oi := ⟨some 47, _, _, _, _, _⟩) (v := ?_) rfl (by kernel_rfl) (by kernel_rfl) (by kernel_rfl) (fun _ _ _ h => h) rfl hX ?_ ?_; rotate_left; (intro W hW; go_simp; try with_reducible rfl); simp only [Act.put, qA, qB, qC]
  refine mc_take (i := 9) (oi := ⟨some 48, _, _, _, _, _⟩) (v := ?_) rfl (by kernel_rfl) (by kernel_rfl) (by kernel_rfl) (fun _ _ _ h => h) rfl hX ?_ ?_; rotate_left; (intro W hW; go_simp; try with_reducible rfl); simp only [Act.put, qA, qB, qC]
  refine mc_take (i := 10) (oi := ⟨some 49, _, _, _, _, _⟩) (v := ?_) rfl (by kernel_rfl) (by kernel_rfl) (by kernel_rfl) (fun _ _ _ h => h) rfl hX ?_ ?_; rotate_left; (intro W hW; go_simp; try with_reducible rfl); simp only [Act.put, qA, qB, qC]
  refine mc_take (i := 11) (oi := ⟨some 50, _, _, _, _, _⟩) (v := .int .i64 (k : Int)) rfl (by kernel_rfl) (by kernel_rfl) (by kernel_rfl) (fun _ _ _ h => h) rfl hX (fun V hV => ld_int9 (.tmp 49) rfl rfl ((hV.cell (p := ⟨bp, op + k, none⟩) HBPI.out).trans HPKC.out)) ?_; simp only [Act.put, qA, qB, qC]
  refine mc_take (i := 12) (oi := ⟨some 51, _, _, _, _, _⟩) (v := ?_) rfl (by kernel_rfl) (by kernel_rfl) (by kernel_rfl) (fun _ _ _ h => h) rfl hX ?_ ?_; rotate_left; (intro W hW; go_simp; try with_reducible rfl); simp only [Act.put, qA, qB, qC]
  refine mc_take (i := 13) (oi := ⟨some 52, _, _, _, _, _⟩) (v := .bool false) rfl (by kernel_rfl) (by kernel_rfl) (by kernel_rfl) (fun _ _ _ h => h) rfl hX (fun V _ => ex_neJ (.tmp 50) (.tmp 51) rfl rfl rfl HKK.out V) ?_; simp only [Act.put, qA, qB, qC]
  refine mc_take (i := 14) (oi := ⟨some 53, _, _, _, _, _⟩) (v := ?_) rfl (by kernel_rfl) (by kernel_rfl) (by kernel_rfl) (fun _ _ _ h => h) rfl hX ?_ ?_; rotate_left; (intro W hW; go_simp; try with_reducible rfl); simp only [Act.put, qA, qB, qC]
  refine mc_take (i := 15) (oi := ⟨some 54, _, _, _, _, _⟩) (v := ?_) rfl (by kernel_rfl) (by kernel_rfl) (by kernel_rfl) (fun _ _ _ h => h) rfl hX ?_ ?_; rotate_left; (intro W hW; go_simp; try with_reducible rfl); simp only [Act.put, qA, qB, qC]
  refine mc_take (i := 16) (oi := ⟨some 55, _, _, _, _, _⟩) (v := ?_) rfl (by kernel_rfl) (by kernel_rfl) (by kernel_rfl) (fun _ _ _ h => h) rfl hX ?_ ?_; rotate_left; (intro W hW; go_simp; try with_reducible rfl); simp only [Act.put, qA, qB, qC]
  refine mc_take (i := 17) (oi := ⟨some 56, _, _, _, _, _⟩) (v := .slice (some ⟨be, oe, none⟩) m ce) rfl (by kernel_rfl) (by kernel_rfl) (by kernel_rfl) (fun _ _ _ h => h) rfl hX (fun V hV => ld_bls (.tmp 55) rfl rfl (C257.out V (TO.out V hV))) ?_; simp only [Act.put, qA, qB, qC]
  refine mc_take (i := 18) (oi := ⟨some 57, _, _, _, _, _⟩) (v := ?_) rfl (by kernel_rfl) (by kernel_rfl) (by kernel_rfl) (fun _ _ _ h => h) rfl hX ?_ ?_; rotate_left; (intro W hW; go_simp; try with_reducible rfl); simp only [Act.put, qA, qB, qC]
  refine mc_take (i := 19) (oi := ⟨some 58, _, _, _, _, _⟩) (v := ?_) rfl (by kernel_rfl) (by kernel_rfl) (by kernel_rfl) (fun _ _ _ h => h) rfl hX ?_ ?_; rotate_left; (intro W hW; go_simp; try with_reducible rfl); simp only [Act.put, qA, qB, qC]
  refine mc_take (i := 20) (oi := ⟨some 59, _, _, _, _, _⟩) (v := .bool z) rfl (by kernel_rfl) (by kernel_rfl) (by kernel_rfl) (fun _ _ _ h => h) rfl hX (fun V hV => ld_b (.tmp 58) rfl rfl ((hV.cell (p := ⟨be, oe + k, none⟩) HBEI.out).trans CEK.out)) ?_; simp only [Act.put, qA, qB, qC]
  refine mc_take (i := 21) (oi := ⟨some 60, _, _, _, _, _⟩) (v := ?_) rfl (by kernel_rfl) (by kernel_rfl) (by kernel_rfl) (fun _ _ _ h => h) rfl hX ?_ ?_; rotate_left; (intro W hW; go_simp; try with_reducible rfl); simp only [Act.put, qA, qB, qC]
  refine mc_take (i := 22) (oi := ⟨some 61, _, _, _, _, _⟩) (v := .slice (some ⟨be, oe, none⟩) m ce) rfl (by kernel_rfl) (by kernel_rfl) (by kernel_rfl) (fun _ _ _ h => h) rfl hX (fun V hV => ld_bls (.tmp 60) rfl rfl (C257.out V (TO.out V hV))) ?_; simp only [Act.put, qA, qB, qC]
  refine mc_take (i := 23) (oi := ⟨some 62, _, _, _, _, _⟩) (v := ?_) rfl (by kernel_rfl) (by kernel_rfl) (by kernel_rfl) (fun _ _ _ h => h) rfl hX ?_ ?_; rotate_left; (intro W hW; go_simp; try with_reducible rfl); simp only [Act.put, qA, qB, qC]
  refine mc_take (i := 24) (oi := ⟨some 63, _, _, _, _, _⟩) (v := ?_) rfl (by kernel_rfl) (by kernel_rfl) (by kernel_rfl) (fun _ _ _ h => h) rfl hX ?_ ?_; rotate_left; (intro W hW; go_simp; try with_reducible rfl); simp only [Act.put, qA, qB, qC]
  refine mc_take (i := 25) (oi := ⟨some 64, _, _, _, _, _⟩) (v := .bool z) rfl (by kernel_rfl) (by kernel_rfl) (by kernel_rfl) (fun _ _ _ h => h) rfl hX (fun V hV => ld_b (.tmp 63) rfl rfl ((hV.cell (p := ⟨be, oe + i, none⟩) HBEI.out).trans CEI.out)) ?_; simp only [Act.put, qA, qB, qC]
  refine mc_take (i := 26) (oi := ⟨some 65, _, _, _, _, _⟩) (v := .bool false) rfl (by kernel_rfl) (by kernel_rfl) (by kernel_rfl) (fun _ _ _ h => h) rfl hX (fun V _ => ex_neP (.tmp 59) (.tmp 64) rfl rfl rfl HZZ.out V) ?_; simp only [Act.put, qA, qB, qC]
  refine mc_take (i := 27) (oi := ⟨some 66, _, _, _, _, _⟩) (v := ?_) rfl (by kernel_rfl) (by kernel_rfl) (by kernel_rfl) (fun _ _ _ h => h) rfl hX ?_ ?_; rotate_left; (intro W hW; go_simp; try with_reducible rfl); simp only [Act.put, qA, qB, qC]
  refine wpAnyC_done (by kernel_rfl) ?_ _
  have BD := qH (TO.out _ hX)
  clear hX
  obtain ⟨ri, Ai, ci, hi1, hi2, hi3, hi4⟩ := ROW.out i HIM.out
  obtain ⟨rk, Ak, ck, hk1, hk2, hk3, hk4⟩ := ROW.out k HKM.out
  have I1 := qH hi1
  have I2 := qH hi2
  have I3 := qH hi3
  have I4 := qH hi4
  have J1 := qH hk1
  have J2 := qH hk2
  have J3 := qH hk3
  have J4 := qH hk4
  clear hi1 hi2 hi3 hi4 hk1 hk2 hk3 hk4
  go_wp2_with fail
  go_loopw [11] (fun v wl => ∃ j : Nat, j ≤ kd ∧ v = .int .i64 (j : Int) ∧ Below w5.heap.size w5 wl) (fun v _ => kd - (intOf v).toNat)
  case atStart => exact ⟨0, Nat.zero_le _, rfl, BD.out⟩
  obtain ⟨j, hj, rfl, hb⟩ := hrel
  have HJ := qH hj
  have BJ := qH hb
  obtain ⟨wj, hwj⟩ : ∃ v : World, v = wr := ⟨_, rfl⟩
  subst hwj
  clear hj hb
  have c256 := C256.out wj BJ.out
  have cri : wj.cell? ⟨bn, on + i, none⟩ = some (.slice Ai kd ci) := (BJ.out.cell (p := ⟨bn, on + i, none⟩) HBN.out).trans I3.out
  by_cases hjk : j < kd
  ·have z1 : (j : Int) < (kd : Int) := Int.ofNat_lt.2 hjk
   have HJK := qH hjk
   have HMJ := qH (sub_next hjk)
   have f3 := wrap_one j (lt_k256 hjk HKD2.out)
   have f4 := wrap_one' j (lt_k256 hjk HKD2.out)
   have cell : ∀ (s u : Nat) (r : List Int) (Ar : Option Addr) (cr : Nat), s < m → stC D s j = u → D.next[s]? = some r → r.length = kd → Row w5 (.slice Ar kd cr) (nums .i64 r) → u < m ∧ ∃ b o, Ar = some ⟨b, o, none⟩ ∧ b < w5.heap.size ∧ w5.cell? ⟨b, o + j, none⟩ = some (.int .i64 (u : Int)) := fun s u r Ar cr hs hu h1 h2 h3 => by
    obtain ⟨r', e1, _, e3, e4⟩ := may_cell HM.out (s := s) (k := j) (by rw [← HMD.out]; exact hs) (by rw [← HKD.out]; exact hjk)
    obtain rfl : r' = r := Option.some.inj (e1.symm.trans h1)
    obtain ⟨b, o, rfl, h4, h5⟩ := h3.at_ (by rw [nums_length, h2]; exact Nat.lt_of_le_of_lt (Nat.zero_le _) hjk)
    rw [hu] at e3 e4
    exact ⟨by rw [HMD.out]; exact e4, b, o, rfl, h4, h5 j _ (by simp [nums, e3])⟩
   obtain ⟨u, hu⟩ : ∃ u, stC D i j = u := ⟨_, rfl⟩
   obtain ⟨v, hv⟩ : ∃ v, stC D k j = v := ⟨_, rfl⟩
   obtain ⟨hun, b1, o1, rfl, l1, c1⟩ := cell i u ri Ai ci HIM.out hu I1.out I2.out I4.out
   obtain ⟨hvn, b2, o2, rfl, l2, c2⟩ := cell k v rk Ak ck HKM.out hv J1.out J2.out J4.out
   obtain ⟨s, hs⟩ : ∃ s, parD D u = s := ⟨_, rfl⟩
   have hs2 : parD D v = s := by
    rw [← hs, ← hu, ← hv, ← HKE.out]
    exact (par_to HM.out HCL2.out HAC.out (by rw [← HKD.out]; exact hjk)).symm
   have L1 := qH l1
   have L2 := qH l2
   have C1 := qH c1
   have C2 := qH c2
   have yu : (u : Int) < (m : Int) := Int.ofNat_lt.2 hun
   have yv : (v : Int) < (m : Int) := Int.ofNat_lt.2 hvn
   have CU := qH (show w5.cell? ⟨bp, op + u, none⟩ = some (.int .i64 (s : Int)) by rw [← hs]; exact CP.out u hun)
   have CV := qH (show w5.cell? ⟨bp, op + v, none⟩ = some (.int .i64 (s : Int)) by rw [← hs2]; exact CP.out v hvn)
   have HSS := qH (show ((s : Int) != (s : Int)) = false by simp)
   clear hu hv cell l1 l2 c1 c2 hun hvn hs hs2 hjk
   go_wp2_with fail
   clear c256 cri
   refine mc_start (fun V => Below wj.heap.size wj V) (fun _ => True) 23 (by kernel_rfl) (fun wd2 hwd => ?_)
   have hX : Below wj.heap.size wj wd2 := by rw [hwd]; exact (Below.refl _ _).drew
   clear hwd
   have TOJ := qH (show ∀ V, Below wj.heap.size wj V → Below w5.heap.size w5 V from fun V hV => BJ.out.trans (hV.mono BJ.out.size))
   refine mc_take (i := 0) (oi := ⟨some 77, _, _, _, _, _⟩) (v := ?_) rfl (by kernel_rfl) (by kernel_rfl) (by kernel_rfl) (fun _ _ _ h => h) rfl hX ?_ ?_; rotate_left; (intro W hW; go_simp; try with_reducible rfl); simp only [Act.put, qA, qB, qC]
   refine mc_take (i := 1) (oi := ⟨some 78, _, _, _, _, _⟩) (v := ?_) rfl (by kernel_rfl) (by kernel_rfl) (by kernel_rfl) (fun _ _ _ h => h) rfl hX ?_ ?_; rotate_left; (intro W hW; go_simp; try with_reducible rfl); simp only [Act.put, qA, qB, qC]
   refine mc_take (i := 2) (oi := ⟨some 79, _, _, _, _, _⟩) (v := .slice (some ⟨bn, on, none⟩) m cn) rfl (by kernel_rfl) (by kernel_rfl) (by kernel_rfl) (fun _ _ _ h => h) rfl hX (fun V hV => ld_inss (.tmp 78) rfl rfl (C256.out V (TOJ.out V hV))) ?_; simp only [Act.put, qA, qB, qC]
   refine mc_take (i := 3) (oi := ⟨some 80, _, _, _, _, _⟩) (v := ?_) rfl (by kernel_rfl) (by kernel_rfl) (by kernel_rfl) (fun _ _ _ h => h) rfl hX ?_ ?_; rotate_left; (intro W hW; go_simp; try with_reducible rfl); simp only [Act.put, qA, qB, qC]
   refine mc_take (i := 4) (oi := ⟨some 81, _, _, _, _, _⟩) (v := ?_) rfl (by kernel_rfl) (by kernel_rfl) (by kernel_rfl) (fun _ _ _ h => h) rfl hX ?_ ?_; rotate_left; (intro W hW; go_simp; try with_reducible rfl); simp only [Act.put, qA, qB, qC]
   refine mc_take (i := 5) (oi := ⟨some 82, _, _, _, _, _⟩) (v := .slice (some ⟨b1, o1, none⟩) kd ci) rfl (by kernel_rfl) (by kernel_rfl) (by kernel_rfl) (fun _ _ _ h => h) rfl hX (fun V hV => ld_ints9 (.tmp 81) rfl rfl (((TOJ.out V hV).cell (p := ⟨bn, on + i, none⟩) HBN.out).trans I3.out)) ?_; simp only [Act.put, qA, qB, qC]
   refine mc_take (i := 6) (oi := ⟨some 83, _, _, _, _, _⟩) (v := ?_) rfl (by kernel_rfl) (by kernel_rfl) (by kernel_rfl) (fun _ _ _ h => h) rfl hX ?_ ?_; rotate_left; (intro W hW; go_simp; try with_reducible rfl); simp only [Act.put, qA, qB, qC]
   refine mc_take (i := 7) (oi := ⟨some 84, _, _, _, _, _⟩) (v := ?_) rfl (by kernel_rfl) (by kernel_rfl) (by kernel_rfl) (fun _ _ _ h => h) rfl hX ?_ ?_; rotate_left; (intro W hW; go_simp; try with_reducible rfl); simp only [Act.put, qA, qB, qC]
   refine mc_take (i := 8) (oi := ⟨some 85, _, _, _, _, _⟩) (v := .int .i64 (u : Int)) rfl (by kernel_rfl) (by kernel_rfl) (by kernel_rfl) (fun _ _ _ h => h) rfl hX (fun V hV => ld_int9 (.tmp 84) rfl rfl (((TOJ.out V hV).cell (p := ⟨b1, o1 + j, none⟩) L1.out).trans C1.out)) ?_; simp only [Act.put, qA, qB, qC]
   refine mc_take (i := 9) (oi := ⟨some 86, _, _, _, _, _⟩) (v := ?_) rfl (by kernel_rfl) (by kernel_rfl) (by kernel_rfl) (fun _ _ _ h => h) rfl hX ?_ ?_; rotate_left; (intro W hW; go_simp; try with_reducible rfl); simp only [Act.put, qA, qB, qC]
   refine mc_take (i := 10) (oi := ⟨some 87, _, _, _, _, _⟩) (v := .int .i64 (s : Int)) rfl (by kernel_rfl) (by kernel_rfl) (by kernel_rfl) (fun _ _ _ h => h) rfl hX (fun V hV => ld_int9 (.tmp 86) rfl rfl (((TOJ.out V hV).cell (p := ⟨bp, op + u, none⟩) HBP.out).trans CU.out)) ?_; simp only [Act.put, qA, qB, qC]
   refine mc_take (i := 11) (oi := ⟨some 88, _, _, _, _, _⟩) (v := ?_) rfl (by kernel_rfl) (by kernel_rfl) (by kernel_rfl) (fun _ _ _ h => h) rfl hX ?_ ?_; rotate_left; (intro W hW; go_simp; try with_reducible rfl); simp only [Act.put, qA, qB, qC]
   refine mc_take (i := 12) (oi := ⟨some 89, _, _, _, _, _⟩) (v := ?_) rfl (by kernel_rfl) (by kernel_rfl) (by kernel_rfl) (fun _ _ _ h => h) rfl hX ?_ ?_; rotate_left; (intro W hW; go_simp; try with_reducible rfl); simp only [Act.put, qA, qB, qC]
   refine mc_take (i := 13) (oi := ⟨some 90, _, _, _, _, _⟩) (v := .slice (some ⟨bn, on, none⟩) m cn) rfl (by kernel_rfl) (by kernel_rfl) (by kernel_rfl) (fun _ _ _ h => h) rfl hX (fun V hV => ld_inss (.tmp 89) rfl rfl (C256.out V (TOJ.out V hV))) ?_; simp only [Act.put, qA, qB, qC]
   refine mc_take (i := 14) (oi := ⟨some 91, _, _, _, _, _⟩) (v := ?_) rfl (by kernel_rfl) (by kernel_rfl) (by kernel_rfl) (fun _ _ _ h => h) rfl hX ?_ ?_; rotate_left; (intro W hW; go_simp; try with_reducible rfl); simp only [Act.put, qA, qB, qC]
   refine mc_take (i := 15) (oi := ⟨some 92, _, _, _, _, _⟩) (v := ?_) rfl (by kernel_rfl) (by kernel_rfl) (by kernel_rfl) (fun _ _ _ h => h) rfl hX ?_ ?_; rotate_left; (intro W hW; go_simp; try with_reducible rfl); simp only [Act.put, qA, qB, qC]
   refine mc_take (i := 16) (oi := ⟨some 93, _, _, _, _, _⟩) (v := .slice (some ⟨b2, o2, none⟩) kd ck) rfl (by kernel_rfl) (by kernel_rfl) (by kernel_rfl) (fun _ _ _ h => h) rfl hX (fun V hV => ld_ints9 (.tmp 92) rfl rfl (((TOJ.out V hV).cell (p := ⟨bn, on + k, none⟩) HBN.out).trans J3.out)) ?_; simp only [Act.put, qA, qB, qC]
   refine mc_take (i := 17) (oi := ⟨some 94, _, _, _, _, _⟩) (v := ?_) rfl (by kernel_rfl) (by kernel_rfl) (by kernel_rfl) (fun _ _ _ h => h) rfl hX ?_ ?_; rotate_left; (intro W hW; go_simp; try with_reducible rfl); simp only [Act.put, qA, qB, qC]
   refine mc_take (i := 18) (oi := ⟨some 95, _, _, _, _, _⟩) (v := ?_) rfl (by kernel_rfl) (by kernel_rfl) (by kernel_rfl) (fun _ _ _ h => h) rfl hX ?_ ?_; rotate_left; (intro W hW; go_simp; try with_reducible rfl); simp only [Act.put, qA, qB, qC]
   refine mc_take (i := 19) (oi := ⟨some 96, _, _, _, _, _⟩) (v := .int .i64 (v : Int)) rfl (by kernel_rfl) (by kernel_rfl) (by kernel_rfl) (fun _ _ _ h => h) rfl hX (fun V hV => ld_int9 (.tmp 95) rfl rfl (((TOJ.out V hV).cell (p := ⟨b2, o2 + j, none⟩) L2.out).trans C2.out)) ?_; simp only [Act.put, qA, qB, qC]
   refine mc_take (i := 20) (oi := ⟨some 97, _, _, _, _, _⟩) (v := ?_) rfl (by kernel_rfl) (by kernel_rfl) (by kernel_rfl) (fun _ _ _ h => h) rfl hX ?_ ?_; rotate_left; (intro W hW; go_simp; try with_reducible rfl); simp only [Act.put, qA, qB, qC]
   refine mc_take (i := 21) (oi := ⟨some 98, _, _, _, _, _⟩) (v := .int .i64 (s : Int)) rfl (by kernel_rfl) (by kernel_rfl) (by kernel_rfl) (fun _ _ _ h => h) rfl hX (fun V hV => ld_int9 (.tmp 97) rfl rfl (((TOJ.out V hV).cell (p := ⟨bp, op + v, none⟩) HBP.out).trans CV.out)) ?_; simp only [Act.put, qA, qB, qC]
   refine mc_take (i := 22) (oi := ⟨some 99, _, _, _, _, _⟩) (v := .bool false) rfl (by kernel_rfl) (by kernel_rfl) (by kernel_rfl) (fun _ _ _ h => h) rfl hX (fun V _ => ex_neJ (.tmp 87) (.tmp 98) rfl rfl rfl HSS.out V) ?_; simp only [Act.put, qA, qB, qC]
   refine wpAnyC_done (by kernel_rfl) ?_ _
   have BE := qH (TOJ.out _ hX)
   clear hX
   go_wp2_with fail
   exact ⟨⟨j + 1, HJK.out, by congr 1, BE.out⟩, by simpa [intOf] using HMJ.out⟩
  ·obtain rfl : kd = j := Nat.le_antisymm (Nat.le_of_not_lt hjk) HJ.out
   have z1 : ¬ ((kd : Int) < (kd : Int)) := Int.lt_irrefl _
   clear hjk
   go_wp2_with fail
   exact ⟨⟨i + 1, HIM.out, by congr 1, BJ.out⟩, by simpa [intOf] using HMI.out⟩
 ·obtain rfl : m = i := Nat.le_antisymm (Nat.le_of_not_lt him) HI.out
  have y1 : ¬ ((m : Int) < (m : Int)) := Int.lt_irrefl _
  have BE := qH (B5.out.trans (BI.out.mono B5.out.size))
  clear him
  go_wp2_with fail
  go_ret
  exact ⟨rfl, BE.out⟩
structure Rdx (E : Dm) (k r i j x : Nat) (f : Nat → Nat → Bool) : Prop where
 snd : ∀ a b, a < k → b < k → f a b = true → accD E a ≠ accD E b
 cmp : ∀ a b, a < k → b < k → ¬ eqC E r a b → f a b = true
 done : ∀ a b, a < k → b < k → (a < i ∨ (a = i ∧ b < j)) → ¬ eqC E (r + 1) a b → f a b = true
 cur : ∀ y, y < x → ¬ eqC E r (stC E i y) (stC E j y) → f i j = true
theorem upd2_at (f : Nat → Nat → Bool) (p q : Nat) (b : Bool) : upd2 f p q b p q = b := by unfold upd2 updB; rw [if_pos rfl, if_pos rfl]
theorem upd2_up {f : Nat → Nat → Bool} {p q a b : Nat} {v : Bool} (h : f a b = true) (hv : f p q = true → v = true) : upd2 f p q v a b = true := by
 unfold upd2 updB
 by_cases h1 : a = p
 ·subst h1
  rw [if_pos rfl]
  by_cases h2 : b = q
  ·subst h2
   rw [if_pos rfl]
   exact hv h
  ·rw [if_neg h2]
   exact h
 ·rw [if_neg h1]
  exact h
theorem upd2_is {f : Nat → Nat → Bool} {p q a b : Nat} {v : Bool} (h : upd2 f p q v a b = true) : f a b = true ∨ (a = p ∧ b = q ∧ v = true) := by
 unfold upd2 updB at h
 by_cases h1 : a = p
 ·subst h1
  rw [if_pos rfl] at h
  by_cases h2 : b = q
  ·subst h2
   rw [if_pos rfl] at h
   exact .inr ⟨rfl, rfl, h⟩
  ·rw [if_neg h2] at h
   exact .inl h
 ·rw [if_neg h1] at h
  exact .inl h
section
variable {E : Dm} {k r i j x : Nat} {f : Nat → Nat → Bool}
theorem Rdx.step (h : Rdx E k r i j x f) (hM : MayD E) (hl : E.cl.length = 256) (ha : AllC E) (hk : k = E.next.length) (hi : i < k) (hj : j < k) (hx : x < clsA E.cl) {u v : Nat} (hu : stC E i x = u) (hv : stC E j x = v) (hun : u < k) (hvn : v < k) :
  Rdx E k r i j (x + 1) (upd2 f i j (f i j || f u v)) := by
 have up : ∀ a b, f a b = true → upd2 f i j (f i j || f u v) a b = true := fun a b hab => upd2_up hab fun h0 => by rw [h0]; rfl
 refine ⟨fun a b ha' hb' hab => ?_, fun a b ha' hb' hab => up a b (h.cmp a b ha' hb' hab), fun a b ha' hb' ho hab => up a b (h.done a b ha' hb' ho hab), fun y hy hn => ?_⟩
 ·rcases upd2_is hab with h1 | ⟨rfl, rfl, h1⟩
  ·exact h.snd a b ha' hb' h1
  ·rw [Bool.or_eq_true] at h1
   rcases h1 with h1 | h1
   ·exact h.snd _ _ ha' hb' h1
   ·intro he
    obtain ⟨c, hc⟩ := ha x hx
    have h2 := parD_step he c
    rw [stD_stC, stD_stC, hc, hu, hv] at h2
    exact h.snd u v hun hvn h1 h2
 ·by_cases e : y = x
  ·subst e
   rw [upd2_at, Bool.or_eq_true]
   right
   rw [hu, hv] at hn
   exact h.cmp u v hun hvn hn
  ·exact up i j (h.cur y (by omega) hn)
theorem Rdx.nextj (h : Rdx E k r i j x f) (hx : ¬ x < clsA E.cl) (hi : i < k) (hj : j < k) : Rdx E k r i (j + 1) 0 f := by
 refine ⟨h.snd, h.cmp, fun a b ha' hb' ho hab => ?_, fun y hy => absurd hy (Nat.not_lt_zero y)⟩
 by_cases e : a = i ∧ b = j
 ·obtain ⟨rfl, rfl⟩ := e
  rw [eqC_succ] at hab
  by_cases he : E.ends.getD a false = E.ends.getD b false
  ·have h1 : ∃ y, y < clsA E.cl ∧ ¬ eqC E r (stC E a y) (stC E b y) := by
    refine Classical.byContradiction fun hno => hab ⟨he, fun y hy => Classical.byContradiction fun hn => hno ⟨y, hy, hn⟩⟩
   obtain ⟨y, hy, hn⟩ := h1
   exact h.cur y (by omega) hn
  ·refine h.cmp a b ha' hb' fun h1 => he ?_
   exact eqC_zero.1 (h1.less (Nat.zero_le r))
 ·refine h.done a b ha' hb' ?_ hab
  rcases ho with h1 | ⟨h1, h2⟩
  ·exact .inl h1
  ·right
   refine ⟨h1, ?_⟩
   have : b ≠ j := fun e2 => e ⟨h1, e2⟩
   omega
theorem Rdx.nexti (h : Rdx E k r i j x f) (hj : ¬ j < k) : Rdx E k r (i + 1) 0 0 f := by
 refine ⟨h.snd, h.cmp, fun a b ha' hb' ho hab => ?_, fun y hy => absurd hy (Nat.not_lt_zero y)⟩
 refine h.done a b ha' hb' ?_ hab
 rcases ho with h1 | ⟨_, h2⟩
 ·rcases Nat.lt_succ_iff_lt_or_eq.1 h1 with h3 | h3
  ·exact .inl h3
  ·exact .inr ⟨h3, by omega⟩
 ·exact absurd h2 (Nat.not_lt_zero b)
theorem Rdx.nextr (h : Rdx E k r i j x f) (hi : ¬ i < k) : Rdx E k (r + 1) 0 0 0 f :=
 ⟨h.snd, fun a b ha' hb' hab => h.done a b ha' hb' (.inl (by omega)) hab, fun a b _ _ ho => by
  rcases ho with h1 | ⟨_, h2⟩
  ·exact absurd h1 (Nat.not_lt_zero a)
  ·exact absurd h2 (Nat.not_lt_zero b), fun y hy => absurd hy (Nat.not_lt_zero y)⟩
theorem Rdx.zero (hM : MayD E) (hl : E.cl.length = 256) (ha : AllC E) (he : ∀ a b, a < k → b < k → f a b = (E.ends.getD a false != E.ends.getD b false)) : Rdx E k 0 0 0 0 f :=
 ⟨fun a b ha' hb' hab => by
  rw [he a b ha' hb', bne_iff_ne] at hab
  exact fun e => hab (parD_end e), fun a b ha' hb' hab => by
  rw [he a b ha' hb', bne_iff_ne]
  exact fun e => hab (eqC_zero.2 e), fun a b _ _ ho => by
  rcases ho with h1 | ⟨_, h2⟩
  ·exact absurd h1 (Nat.not_lt_zero a)
  ·exact absurd h2 (Nat.not_lt_zero b), fun y hy => absurd hy (Nat.not_lt_zero y)⟩
theorem Rdx.all (h : Rdx E k k 0 0 0 f) (hM : MayD E) (hl : E.cl.length = 256) (ha : AllC E) (hk : k = E.next.length) (hap : ∀ a b, a < k → b < k → accD E a = accD E b → a = b) {a b : Nat} (ha' : a < k) (hb' : b < k) : f a b = (decide (a ≠ b)) := by
 rw [Bool.eq_iff_iff, decide_eq_true_iff]
 constructor
 ·intro h1 e
  exact h.snd a b ha' hb' h1 (by rw [e])
 ·intro hne
  refine h.cmp a b ha' hb' fun h1 => hne (hap a b ha' hb' ?_)
  rw [acc_eq ha hl]
  rw [hk] at h1 ha' hb'
  exact eqC_all hM ha' hb' h1
end
theorem lst_apart {D : Dm} (h : MayD D) (hl : D.cl.length = 256) {a b : Nat} (ha : a < (lstD D).next.length) (hb : b < (lstD D).next.length) (he : accD (lstD D) a = accD (lstD D) b) : a = b := by
 obtain ⟨n, _, h2, h3⟩ := lst_is h hl
 rw [h3] at ha hb he
 rw [canN_len h2] at ha hb
 exact canN_apart h2 ha hb he
end Go.Proofs.Ytlohehcfplkjbaa
