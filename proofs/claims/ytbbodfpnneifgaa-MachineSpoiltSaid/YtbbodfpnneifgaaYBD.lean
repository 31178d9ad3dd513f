/-
  Texts of this proof, put together: SpM. No statement is proved here.
-/
import Derived.Test.YtbbodfpnneifgaaYBC
import Derived.Test.YtbbodfpnneifgaaYBA
import Derived.Test.YtbbodfpnneifgaaYE
namespace Go.Proofs.Ytbbodfpnneifgaa
open Go.RowKit
set_option linter.unusedSimpArgs false
set_option linter.unusedVariables false
theorem rem_5 (h q : Nat) (e : h % 5 = q) : (h : Int).tmod 5 = (q : Int) := by
 subst e
 rfl
theorem rchG_no {D : Dm} (h : mayDB D = false) : rchG D = [] := by unfold rchG; rw [h]; rfl
theorem lvgG_no {D : Dm} (h : mayDB D = false) : lvgG D = [] := by unfold lvgG; rw [h]; rfl
theorem clsG_no {D : Dm} (h : mayDB D = false) : clsG D = 0 := by unfold clsG; rw [h]; rfl
theorem flipG_no {D : Dm} (h : mayDB D = false) : flipG D = noDm := by unfold flipG; rw [h]; rfl
theorem cls_lt (n c : Nat) (ps : List UInt8) : 0 < clsA (dfaQ n c ps).cl ∧ clsA (dfaQ n c ps).cl < 256 := by
 rw [dfaQ_cls]
 omega
theorem ex_bldD {ev : Operand → Value} {o : Oper} (ho : o.op = .build 28 #[]) {d0 : List Value} (h : Try.prog.built 28 [] = some d0.toArray) (W : World) : (execOp ev o).run Try.prog W = .ok (.value (.agg d0.toArray)) W := by
 simp only [execOp, ho]
 go_simp
 exact Option.some.inj (Eq.trans (by kernel_rfl) h)
set_option maxHeartbeats 8000000 in
set_option maxRecDepth 1000000 in
theorem spoilt_walk (n c h : Nat) (V V2 : Value) (ps W : List UInt8) (w : World) (hn : n < 256) (hc : c < 256) (hh : h < 256) (hr : Row w V (bvs ps)) (hw : Row w V2 (bvs W)) :
  Calls Try.prog 6 #[.int .u8 (n : Int), .int .u8 (c : Int), V, .int .u8 (h : Int), V2] w fun e w' => e = .returned (.bool true) ∧ Below w.heap.size w w' := by
 have R := qH hr
 have RW := qH hw
 obtain ⟨A, cap, rfl, _⟩ := hr
 obtain ⟨A2, cap2, rfl, _⟩ := hw
 rw [bvs_length] at R
 rw [bvs_length] at RW
 rw [bvs_length, bvs_length]
 have HN := qH hn
 have HC := qH hc
 have HH := qH hh
 obtain ⟨d0, hd0⟩ : ∃ d0, d0 = dcl (ctab [] 0) (.slice none 0 0) (.slice none 0 0) := ⟨_, rfl⟩
 have HD0 := qH hd0
 have HDL := qH (show d0.length = 258 by rw [hd0]; exact dcl_len (ctab_length _ _))
 have HDB := qH (show Try.prog.built 28 [] = some d0.toArray by rw [hd0]; exact built_d0)
 obtain ⟨id, hid, hdz⟩ := Option.map_eq_some_iff.1 inf_dfa
 rw [← hd0] at hdz
 have HDZ := qH hdz
 clear hd0 hdz hn hc hh
 go_enter Try.func6, Try.ntmps6
 go_wp2_with fail
 refine (begun11_any w).mono ?_
 rintro e w1 ⟨rfl, hb⟩
 have B1 := qH hb
 clear hb
 by_cases hl : 60 < ps.length
 ·have x1 : (60 : Int) < (ps.length : Int) := Int.ofNat_lt.2 hl
  clear hl
  go_wp2_with fail
  go_ret
  exact ⟨rfl, B1.out⟩
 have x1 : ¬ (60 : Int) < (ps.length : Int) := fun h => hl (Int.ofNat_lt.1 h)
 have HL := qH (Nat.le_of_not_lt hl)
 clear hl
 by_cases hl2 : 20 < W.length
 ·have x2 : (20 : Int) < (W.length : Int) := Int.ofNat_lt.2 hl2
  clear hl2
  go_wp2_with fail
  go_ret
  exact ⟨rfl, B1.out⟩
 have x2 : ¬ (20 : Int) < (W.length : Int) := fun h => hl2 (Int.ofNat_lt.1 h)
 clear hl2
 go_wp2_with fail
 refine (playDfa_any n c ps _ w1 HN.out HC.out (R.out.below B1.out) HL.out).mono ?_
 rintro e w2 ⟨cs, rfl, hd, hb⟩
 obtain ⟨D, hD⟩ : ∃ D, D = dfaQ n c ps := ⟨_, rfl⟩
 rw [← hD] at hd
 have HM := qH (show MayD D by rw [hD]; exact dfaQ_may n c ps)
 have HK8 := qH (show D.next.length ≤ 8 by rw [hD, dfaQ_len]; exact k8M n)
 have HCA := qH (show 0 < clsA D.cl ∧ clsA D.cl < 256 by rw [hD]; exact cls_lt n c ps)
 clear hD
 have HDA := qH hd
 have VA := qH hd.dfa
 obtain ⟨An, Ae, cn, ce, vf, hcl, hcs, _, _, hen⟩ := VA.out.form
 have HCS := qH hcs
 have HCE := qH (show D.ends.length ≤ ce ∧ ce ≤ maxLen from ⟨hen.len.2.1, hen.len.2.2.1⟩)
 have HCLN := qH (show D.cl.length = 256 from hcl)
 have HLA := qH (show cs.length = 258 by rw [hcs]; exact dcl_len hcl)
 have HOA := qH (show cs.all (·.oneCell') = true by rw [hcs]; exact dcl_one)
 have HSA := qH (show (Try.prog.info? 28).map (·.size) = some cs.length from VA.out.size)
 have B2 := qH (B1.out.trans (hb.mono B1.out.size))
 have S12 := qH (show w.heap.size ≤ w1.heap.size from B1.out.size)
 have S24 := qH (show w1.heap.size ≤ w2.heap.size from hb.size)
 clear hd hb hcl hcs hen
 obtain ⟨k, hk⟩ : ∃ k, D.next.length = k + 1 := ⟨D.next.length - 1, by have := HM.out.pos; omega⟩
 obtain ⟨m, hm⟩ : ∃ m, m = D.next.length := ⟨_, rfl⟩
 have HMD := qH hm
 have HMK := qH (show m = k + 1 by rw [hm, hk])
 have HEL := qH (show D.ends.length = m by rw [hm]; exact HM.out.ends)
 rw [← hm] at HCS HK8
 rw [HEL.out] at HCS HCE
 obtain ⟨p, hp⟩ : ∃ p, p = clsA D.cl := ⟨_, rfl⟩
 have HPC := qH hp
 rw [← hp] at HCA
 obtain ⟨j, hj⟩ : ∃ j, p = j + 1 := ⟨p - 1, by have := HCA.out.1; omega⟩
 have HPJ := qH hj
 obtain ⟨kk, hkk⟩ : ∃ x, x = (k : Int) := ⟨_, rfl⟩
 have z1 : IntKind.i64.wrap ((m : Int) - 1) = kk := by rw [HMK.out, hkk]; have h8 := HK8.out; rw [HMK.out] at h8; rw [show ((k + 1 : Nat) : Int) - 1 = (k : Int) by omega]; exact k64S k (by omega)
 have z2 : wrap64 ((m : Int) - 1) = kk := by rw [HMK.out, hkk]; have h8 := HK8.out; rw [HMK.out] at h8; rw [show ((k + 1 : Nat) : Int) - 1 = (k : Int) by omega]; exact w64S k (by omega)
 subst hkk
 clear hk hm hp hj
 obtain ⟨q, hq, hq5⟩ : ∃ q, h % 5 = q ∧ q < 5 := ⟨_, rfl, Nat.mod_lt _ (by decide)⟩
 have z3 := rem_5 h q hq
 clear hq
 have hqs : q = 0 ∨ q = 1 ∨ q = 2 ∨ q = 3 ∨ q = 4 := by omega
 clear hq5
 rcases hqs with rfl | rfl | rfl | rfl | rfl
 focus
  have y1 : (k : Int) ≤ (ce : Int) := Int.ofNat_le.2 (Nat.le_trans (by rw [HMK.out]; exact Nat.le_succ k) HCE.out.1)
  go_wp2_with (first
   | ((with_reducible refine atDst 11 ?_); refine wpList_new rfl 28 rfl id _ d0 hid HDZ.out rfl (Below.refl w2.heap.size w2) (Nat.le_refl _) ?_; intro w3 hk hb hs _; have K3 := qH hk; have B23 := qH hb; clear hk hb hs; (try simp only [Act.put, qA, qB, qC]))
   | ((with_reducible refine atStore 28 11 26 ?_); refine wpList_stBlk rfl 28 _ _ rfl w2.heap.size cs rfl rfl 28 _ K3.out HSA.out (by rw [HDL.out, HLA.out]) HOA.out B23.out (Nat.le_refl _) ?_; intro w4 hk hb hs ho; have K4 := qH hk; have BB4 := qH hb; clear hk hb hs ho; (try simp only [Act.put, qA, qB, qC]); obtain ⟨gd, hgd⟩ : ∃ g, g = w2.heap.size := ⟨_, rfl⟩; have HGD := qH hgd; rw [← hgd] at K4; rw [← hgd]; clear hgd; have c256 : w4.cell? ⟨gd, 256, none⟩ = some (.slice An m cn) := (by rw [K4.out.cell 256, HCS.out]; exact dcl_n HCLN.out); have c257 : w4.cell? ⟨gd, 257, none⟩ = some (.slice Ae m ce) := (by rw [K4.out.cell 257, HCS.out]; exact dcl_e HCLN.out))
   | ((with_reducible refine atStore 26 41 40 ?_); refine wpList_plain rfl fun K hK => wp_stBls (.tmp 41) (.tmp 40) rfl rfl (A := Ae) (n := k) (c := ce) rfl c257 (Blk.frozen K4.out 257) ?_; refine hK _ _ ?_; clear hK K; generalize hwv : World.setCell w4 ⟨gd, 257, none⟩ (.slice Ae k ce) = wv; have hKT : ∃ cs', Blk wv gd 28 cs' ∧ ∃ D', DfaV wv cs' D' ∧ mayDB D' = false := (by rw [← hwv]; exact ⟨_, K4.out.set 257 (.slice Ae k ce), _, (show DfaV (w4.setCell ⟨gd, 257, none⟩ (.slice Ae k ce)) (cs.set 257 (.slice Ae k ce)) ⟨D.cl, D.next, D.ends.take k⟩ by rw [HCS.out, dcl_sete HCLN.out]; exact (VA.out.below (BB4.out.setCell (p := ⟨gd, 257, none⟩) (Nat.le_of_eq HGD.out.symm) _)).cutE HCS.out (by rw [HMK.out]; exact Nat.le_succ k)), bad_cut HM.out (by rw [← HMD.out, HMK.out]; exact Nat.lt_succ_self k)⟩); have BT := qH (show Below w.heap.size w wv by rw [← hwv]; exact (B2.out.trans (BB4.out.mono B2.out.size)).setCell (p := ⟨gd, 257, none⟩) (by rw [HGD.out]; exact B2.out.size) _); obtain ⟨cs', hKT, D', hVT, hNT⟩ := hKT; have KT := qH hKT; have VT := qH hVT; have NT := qH hNT; clear hKT hVT hNT hwv; (try simp only [Act.put, qA, qB, qC]); clear c256 c257))
 rotate_left
 focus
  have y1 : (k : Int) < (m : Int) := by rw [HMK.out]; exact Int.ofNat_lt.2 (Nat.lt_succ_self k)
  have y2 : (0 : Int) < (p : Int) := Int.ofNat_lt.2 HCA.out.1
  have y3 : IntKind.i64.wrap ((k : Int) + 1) = ((k : Int) + 1) := k64S (k + 1) (by have h8 := HK8.out; rw [HMK.out] at h8; omega)
  have y4 : wrap64 ((k : Int) + 1) = ((k : Int) + 1) := w64S (k + 1) (by have h8 := HK8.out; rw [HMK.out] at h8; omega)
  have y5 : (0 : Int) < (m : Int) := by rw [HMK.out]; exact Int.ofNat_lt.2 (Nat.succ_pos k)
  go_wp2_with (first
   | ((with_reducible refine atDst 11 ?_); refine wpList_new rfl 28 rfl id _ d0 hid HDZ.out rfl (Below.refl w2.heap.size w2) (Nat.le_refl _) ?_; intro w3 hk hb hs _; have K3 := qH hk; have B23 := qH hb; clear hk hb hs; (try simp only [Act.put, qA, qB, qC]))
   | ((with_reducible refine atStore 28 11 26 ?_); refine wpList_stBlk rfl 28 _ _ rfl w2.heap.size cs rfl rfl 28 _ K3.out HSA.out (by rw [HDL.out, HLA.out]) HOA.out B23.out (Nat.le_refl _) ?_; intro w4 hk hb hs ho; have K4 := qH hk; have BB4 := qH hb; clear hk hb hs ho; (try simp only [Act.put, qA, qB, qC]); obtain ⟨gd, hgd⟩ : ∃ g, g = w2.heap.size := ⟨_, rfl⟩; have HGD := qH hgd; rw [← hgd] at K4; rw [← hgd]; clear hgd; obtain ⟨g0, c0, g, cc, Ve, hG⟩ := HDA.out.gets HM.out HPC.out HCA.out.1 HMD.out (i := k) (by rw [HMK.out]; exact Nat.lt_succ_self k); have GA := qH hG; have G := qH (hG w4 BB4.out); clear hG; have c256 : w4.cell? ⟨gd, 256, none⟩ = some (.slice (some ⟨g0, 0, none⟩) m c0) := (by rw [K4.out.cell 256, G.out.is_]; exact dcl_n HCLN.out); have c48 : w4.cell? ⟨g0, k, none⟩ = some (.slice (some ⟨g, 0, none⟩) p cc) := G.out.at0; obtain ⟨u0, hu0⟩ := G.out.at_; have HU := qH hu0; clear hu0)
   | ((with_reducible refine atStore 3 51 50 ?_); refine wpList_plain rfl fun K hK => wp_stI (.tmp 51) (.tmp 50) rfl g 0 rfl ((k : Int) + 1) rfl u0 HU.out G.out.fr ?_; refine hK _ _ ?_; clear hK K; generalize hwv : World.setCell w4 ⟨g, 0, none⟩ (.int .i64 ((k : Int) + 1)) = wv; have hKT : ∃ cs', Blk wv gd 28 cs' ∧ ∃ D', DfaV wv cs' D' ∧ mayDB D' = false := (by rw [← hwv]; exact ⟨_, (show Blk (w4.setCell ⟨g, 0, none⟩ (.int .i64 ((k : Int) + 1))) gd 28 cs from (Below.heap_setCell w4 ⟨g, 0, none⟩ _ gd (by rw [HGD.out]; exact Nat.ne_of_gt G.out.hi)).trans K4.out), _, (G.out.way _ (List.getElem?_eq_getElem (by rw [← HMD.out, HMK.out]; exact Nat.lt_succ_self k)) ((k : Int) + 1)), bad_set (List.getElem?_eq_getElem (by rw [← HMD.out, HMK.out]; exact Nat.lt_succ_self k)) (by rw [HM.out.rows _ (List.getElem_mem ..), ← HPC.out]; exact HCA.out.1) (x := (k : Int) + 1) (by rw [← HMD.out, HMK.out]; omega)⟩); have BT := qH (show Below w.heap.size w wv by rw [← hwv]; exact (B2.out.trans (BB4.out.mono B2.out.size)).setCell (p := ⟨g, 0, none⟩) (Nat.le_trans S12.out G.out.lo) _); obtain ⟨cs', hKT, D', hVT, hNT⟩ := hKT; have KT := qH hKT; have VT := qH hVT; have NT := qH hNT; clear hKT hVT hNT hwv; (try simp only [Act.put, qA, qB, qC]); clear c256 c48))
 rotate_left
 focus
  have y1 : (k : Int) < (m : Int) := by rw [HMK.out]; exact Int.ofNat_lt.2 (Nat.lt_succ_self k)
  have y2 : (0 : Int) < (p : Int) := Int.ofNat_lt.2 HCA.out.1
  have y3 : IntKind.i64.wrap ((k : Int) + 1) = ((k : Int) + 1) := k64S (k + 1) (by have h8 := HK8.out; rw [HMK.out] at h8; omega)
  have y4 : wrap64 ((k : Int) + 1) = ((k : Int) + 1) := w64S (k + 1) (by have h8 := HK8.out; rw [HMK.out] at h8; omega)
  have y5 : (0 : Int) < (m : Int) := by rw [HMK.out]; exact Int.ofNat_lt.2 (Nat.succ_pos k)
  go_wp2_with (first
   | ((with_reducible refine atDst 11 ?_); refine wpList_new rfl 28 rfl id _ d0 hid HDZ.out rfl (Below.refl w2.heap.size w2) (Nat.le_refl _) ?_; intro w3 hk hb hs _; have K3 := qH hk; have B23 := qH hb; clear hk hb hs; (try simp only [Act.put, qA, qB, qC]))
   | ((with_reducible refine atStore 28 11 26 ?_); refine wpList_stBlk rfl 28 _ _ rfl w2.heap.size cs rfl rfl 28 _ K3.out HSA.out (by rw [HDL.out, HLA.out]) HOA.out B23.out (Nat.le_refl _) ?_; intro w4 hk hb hs ho; have K4 := qH hk; have BB4 := qH hb; clear hk hb hs ho; (try simp only [Act.put, qA, qB, qC]); obtain ⟨gd, hgd⟩ : ∃ g, g = w2.heap.size := ⟨_, rfl⟩; have HGD := qH hgd; rw [← hgd] at K4; rw [← hgd]; clear hgd; obtain ⟨g0, c0, g, cc, Ve, hG⟩ := HDA.out.gets HM.out HPC.out HCA.out.1 HMD.out (i := 0) (by rw [HMK.out]; exact Nat.succ_pos k); have GA := qH hG; have G := qH (hG w4 BB4.out); clear hG; have c256 : w4.cell? ⟨gd, 256, none⟩ = some (.slice (some ⟨g0, 0, none⟩) m c0) := (by rw [K4.out.cell 256, G.out.is_]; exact dcl_n HCLN.out); have c48 : w4.cell? ⟨g0, 0, none⟩ = some (.slice (some ⟨g, 0, none⟩) p cc) := G.out.at0; obtain ⟨u0, hu0⟩ := G.out.at_; have HU := qH hu0; clear hu0)
   | ((with_reducible refine atStoreC 3 58 ?_); refine wpList_plain rfl fun K hK => wp_stI (.tmp 58) (.const (.int .i64 (-1))) rfl g 0 rfl (-1) rfl u0 HU.out G.out.fr ?_; refine hK _ _ ?_; clear hK K; generalize hwv : World.setCell w4 ⟨g, 0, none⟩ (.int .i64 (-1)) = wv; have hKT : ∃ cs', Blk wv gd 28 cs' ∧ ∃ D', DfaV wv cs' D' ∧ mayDB D' = false := (by rw [← hwv]; exact ⟨_, (show Blk (w4.setCell ⟨g, 0, none⟩ (.int .i64 (-1))) gd 28 cs from (Below.heap_setCell w4 ⟨g, 0, none⟩ _ gd (by rw [HGD.out]; exact Nat.ne_of_gt G.out.hi)).trans K4.out), _, (G.out.way _ (List.getElem?_eq_getElem (by rw [← HMD.out, HMK.out]; exact Nat.succ_pos k)) (-1)), bad_set (List.getElem?_eq_getElem (by rw [← HMD.out, HMK.out]; exact Nat.succ_pos k)) (by rw [HM.out.rows _ (List.getElem_mem ..), ← HPC.out]; exact HCA.out.1) (x := -1) (by omega)⟩); have BT := qH (show Below w.heap.size w wv by rw [← hwv]; exact (B2.out.trans (BB4.out.mono B2.out.size)).setCell (p := ⟨g, 0, none⟩) (Nat.le_trans S12.out G.out.lo) _); obtain ⟨cs', hKT, D', hVT, hNT⟩ := hKT; have KT := qH hKT; have VT := qH hVT; have NT := qH hNT; clear hKT hVT hNT hwv; (try simp only [Act.put, qA, qB, qC]); clear c256 c48))
 rotate_left
 focus
  have y1 : (k : Int) < (m : Int) := by rw [HMK.out]; exact Int.ofNat_lt.2 (Nat.lt_succ_self k)
  have y2 : (0 : Int) < (p : Int) := Int.ofNat_lt.2 HCA.out.1
  have y3 : IntKind.i64.wrap ((k : Int) + 1) = ((k : Int) + 1) := k64S (k + 1) (by have h8 := HK8.out; rw [HMK.out] at h8; omega)
  have y4 : wrap64 ((k : Int) + 1) = ((k : Int) + 1) := w64S (k + 1) (by have h8 := HK8.out; rw [HMK.out] at h8; omega)
  have y5 : (0 : Int) < (m : Int) := by rw [HMK.out]; exact Int.ofNat_lt.2 (Nat.succ_pos k)
  have y6 : IntKind.i64.wrap ((p : Int) - 1) = (j : Int) := by have h8 := HCA.out.2; rw [HPJ.out] at h8 ⊢; rw [show ((j + 1 : Nat) : Int) - 1 = (j : Int) by omega]; exact k64S j (by omega)
  have y7 : wrap64 ((p : Int) - 1) = (j : Int) := by have h8 := HCA.out.2; rw [HPJ.out] at h8 ⊢; rw [show ((j + 1 : Nat) : Int) - 1 = (j : Int) by omega]; exact w64S j (by omega)
  go_wp2_with (first
   | ((with_reducible refine atDst 11 ?_); refine wpList_new rfl 28 rfl id _ d0 hid HDZ.out rfl (Below.refl w2.heap.size w2) (Nat.le_refl _) ?_; intro w3 hk hb hs _; have K3 := qH hk; have B23 := qH hb; clear hk hb hs; (try simp only [Act.put, qA, qB, qC]))
   | ((with_reducible refine atStore 28 11 26 ?_); refine wpList_stBlk rfl 28 _ _ rfl w2.heap.size cs rfl rfl 28 _ K3.out HSA.out (by rw [HDL.out, HLA.out]) HOA.out B23.out (Nat.le_refl _) ?_; intro w4 hk hb hs ho; have K4 := qH hk; have BB4 := qH hb; clear hk hb hs ho; (try simp only [Act.put, qA, qB, qC]); obtain ⟨gd, hgd⟩ : ∃ g, g = w2.heap.size := ⟨_, rfl⟩; have HGD := qH hgd; rw [← hgd] at K4; rw [← hgd]; clear hgd; obtain ⟨g0, c0, g, cc, Ve, hG⟩ := HDA.out.gets HM.out HPC.out HCA.out.1 HMD.out (i := k) (by rw [HMK.out]; exact Nat.lt_succ_self k); have GA := qH hG; have G := qH (hG w4 BB4.out); clear hG; have c256 : w4.cell? ⟨gd, 256, none⟩ = some (.slice (some ⟨g0, 0, none⟩) m c0) := (by rw [K4.out.cell 256, G.out.is_]; exact dcl_n HCLN.out)))
  have y8 : (j : Int) ≤ (cc : Int) := Int.ofNat_le.2 (Nat.le_trans (by rw [HPJ.out]; exact Nat.le_succ j) G.out.mc)
  have C256 := qH c256
  have C48 := qH G.out.at0
  have HG0 := qH (show g0 < w4.heap.size from Nat.lt_of_lt_of_le G.out.hi0 BB4.out.size)
  have HGL := qH (show gd < w4.heap.size from K4.out.lt)
  clear c256
  refine mc_start (fun V => Below w1.heap.size w4 V) (fun V => Below w4.heap.size w4 V) 17 (by kernel_rfl) (fun wd hwd => ?_)
  have hY : Below w4.heap.size w4 wd := by rw [hwd]; exact (Below.refl _ _).drew
  have hX : Below w1.heap.size w4 wd := hY.mono (Nat.le_trans S24.out BB4.out.size)
  clear hwd
  refine mc_take (i := 0) (oi := ⟨some 61, _, _, _, _, _⟩) (v := ?_) rfl (by kernel_rfl) (by kernel_rfl) (by kernel_rfl) (fun _ _ _ h => h) rfl hX ?_ ?_; rotate_left; (intro W hW; go_simp; try with_reducible rfl); simp only [Act.put, qA, qB, qC]
  refine mc_takeS (i := 1) (oi := ⟨some 62, _, _, _, _, _⟩) (v := .slice (some ⟨g0, 0, none⟩) m c0) rfl (by kernel_rfl) (by kernel_rfl) (by kernel_rfl) (fun _ _ _ h => h) rfl hX hY (fun V _ hV => ld_inss (.tmp 61) rfl rfl ((hV.cell (p := ⟨gd, 256, none⟩) HGL.out).trans C256.out)) ?_; simp only [Act.put, qA, qB, qC]
  refine mc_take (i := 2) (oi := ⟨some 63, _, _, _, _, _⟩) (v := ?_) rfl (by kernel_rfl) (by kernel_rfl) (by kernel_rfl) (fun _ _ _ h => h) rfl hX ?_ ?_; rotate_left; (intro W hW; go_simp; try with_reducible rfl); simp only [Act.put, qA, qB, qC]
  refine mc_take (i := 3) (oi := ⟨some 64, _, _, _, _, _⟩) (v := ?_) rfl (by kernel_rfl) (by kernel_rfl) (by kernel_rfl) (fun _ _ _ h => h) rfl hX ?_ ?_; rotate_left; (intro W hW; go_simp; try with_reducible rfl); simp only [Act.put, qA, qB, qC]
  refine mc_takeS (i := 4) (oi := ⟨some 65, _, _, _, _, _⟩) (v := .slice (some ⟨g0, 0, none⟩) m c0) rfl (by kernel_rfl) (by kernel_rfl) (by kernel_rfl) (fun _ _ _ h => h) rfl hX hY (fun V _ hV => ld_inss (.tmp 64) rfl rfl ((hV.cell (p := ⟨gd, 256, none⟩) HGL.out).trans C256.out)) ?_; simp only [Act.put, qA, qB, qC]
  refine mc_take (i := 5) (oi := ⟨some 66, _, _, _, _, _⟩) (v := ?_) rfl (by kernel_rfl) (by kernel_rfl) (by kernel_rfl) (fun _ _ _ h => h) rfl hX ?_ ?_; rotate_left; (intro W hW; go_simp; try with_reducible rfl); simp only [Act.put, qA, qB, qC]
  refine mc_take (i := 6) (oi := ⟨some 67, _, _, _, _, _⟩) (v := ?_) rfl (by kernel_rfl) (by kernel_rfl) (by kernel_rfl) (fun _ _ _ h => h) rfl hX ?_ ?_; rotate_left; (intro W hW; go_simp; try with_reducible rfl); simp only [Act.put, qA, qB, qC]
  refine mc_takeS (i := 7) (oi := ⟨some 68, _, _, _, _, _⟩) (v := .slice (some ⟨g, 0, none⟩) p cc) rfl (by kernel_rfl) (by kernel_rfl) (by kernel_rfl) (fun _ _ _ h => h) rfl hX hY (fun V _ hV => ld_ints9 (.tmp 67) rfl rfl ((hV.cell (p := ⟨g0, k, none⟩) HG0.out).trans C48.out)) ?_; simp only [Act.put, qA, qB, qC]
  refine mc_take (i := 8) (oi := ⟨some 69, _, _, _, _, _⟩) (v := ?_) rfl (by kernel_rfl) (by kernel_rfl) (by kernel_rfl) (fun _ _ _ h => h) rfl hX ?_ ?_; rotate_left; (intro W hW; go_simp; try with_reducible rfl); simp only [Act.put, qA, qB, qC]
  refine mc_takeS (i := 9) (oi := ⟨some 70, _, _, _, _, _⟩) (v := .slice (some ⟨g0, 0, none⟩) m c0) rfl (by kernel_rfl) (by kernel_rfl) (by kernel_rfl) (fun _ _ _ h => h) rfl hX hY (fun V _ hV => ld_inss (.tmp 69) rfl rfl ((hV.cell (p := ⟨gd, 256, none⟩) HGL.out).trans C256.out)) ?_; simp only [Act.put, qA, qB, qC]
  refine mc_take (i := 10) (oi := ⟨some 71, _, _, _, _, _⟩) (v := ?_) rfl (by kernel_rfl) (by kernel_rfl) (by kernel_rfl) (fun _ _ _ h => h) rfl hX ?_ ?_; rotate_left; (intro W hW; go_simp; try with_reducible rfl); simp only [Act.put, qA, qB, qC]
  refine mc_take (i := 11) (oi := ⟨some 72, _, _, _, _, _⟩) (v := ?_) rfl (by kernel_rfl) (by kernel_rfl) (by kernel_rfl) (fun _ _ _ h => h) rfl hX ?_ ?_; rotate_left; (intro W hW; go_simp; try with_reducible rfl); simp only [Act.put, qA, qB, qC]
  refine mc_takeS (i := 12) (oi := ⟨some 73, _, _, _, _, _⟩) (v := .slice (some ⟨g, 0, none⟩) p cc) rfl (by kernel_rfl) (by kernel_rfl) (by kernel_rfl) (fun _ _ _ h => h) rfl hX hY (fun V _ hV => ld_ints9 (.tmp 72) rfl rfl ((hV.cell (p := ⟨g0, k, none⟩) HG0.out).trans C48.out)) ?_; simp only [Act.put, qA, qB, qC]
  refine mc_take (i := 13) (oi := ⟨some 74, _, _, _, _, _⟩) (v := ?_) rfl (by kernel_rfl) (by kernel_rfl) (by kernel_rfl) (fun _ _ _ h => h) rfl hX ?_ ?_; rotate_left; (intro W hW; go_simp; try with_reducible rfl); simp only [Act.put, qA, qB, qC]
  refine mc_take (i := 14) (oi := ⟨some 75, _, _, _, _, _⟩) (v := ?_) rfl (by kernel_rfl) (by kernel_rfl) (by kernel_rfl) (fun _ _ _ h => h) rfl hX ?_ ?_; rotate_left; (intro W hW; go_simp; try with_reducible rfl); simp only [Act.put, qA, qB, qC]
  refine mc_take (i := 15) (oi := ⟨some 76, _, _, _, _, _⟩) (v := ?_) rfl (by kernel_rfl) (by kernel_rfl) (by kernel_rfl) (fun _ _ _ h => h) rfl hX ?_ ?_; rotate_left; (intro W hW; go_simp; try with_reducible rfl); simp only [Act.put, qA, qB, qC]
  refine mc_take (i := 16) (oi := ⟨some 77, _, _, _, _, _⟩) (v := ?_) rfl (by kernel_rfl) (by kernel_rfl) (by kernel_rfl) (fun _ _ _ h => h) rfl hX ?_ ?_; rotate_left; (intro W hW; go_simp; try with_reducible rfl); simp only [Act.put, qA, qB, qC]
  refine mc_last (i := 17) (o := ⟨none, _, _, _, _, _⟩) rfl (by kernel_rfl) rfl (fun K hK => ?_)
  have GD := qH (GA.out wd (BB4.out.trans (hY.mono BB4.out.size)))
  have KD := qH (K4.out.below hY HGL.out)
  have BD := qH ((B2.out.trans (BB4.out.mono B2.out.size)).trans (hY.mono (Nat.le_trans B2.out.size BB4.out.size)))
  clear hY
  refine wp_stL (.tmp 77) (.tmp 76) rfl g0 k rfl (some ⟨g, 0, none⟩) j cc rfl _ GD.out.at0 GD.out.fr0 ?_
  have hT : Below w1.heap.size w4 (wd.setCell ⟨g0, k, none⟩ (.slice (some ⟨g, 0, none⟩) j cc)) := hX.setCell (p := ⟨g0, k, none⟩) GD.out.lo0 _
  refine hK _ _ hT ?_
  clear hK K hX hT
  generalize hwv : World.setCell wd ⟨g0, k, none⟩ (.slice (some ⟨g, 0, none⟩) j cc) = wv; have hKT : ∃ cs', Blk wv gd 28 cs' ∧ ∃ D', DfaV wv cs' D' ∧ mayDB D' = false := (by rw [← hwv]; exact ⟨_, (show Blk (wd.setCell ⟨g0, k, none⟩ (.slice (some ⟨g, 0, none⟩) j cc)) gd 28 cs from (Below.heap_setCell wd ⟨g0, k, none⟩ _ gd (by rw [HGD.out]; exact Nat.ne_of_gt GD.out.hi0)).trans KD.out), _, (GD.out.cut _ (List.getElem?_eq_getElem (by rw [← HMD.out, HMK.out]; exact Nat.lt_succ_self k)) j (by rw [HPJ.out]; exact Nat.le_succ j)), bad_take HM.out (List.getElem?_eq_getElem (by rw [← HMD.out, HMK.out]; exact Nat.lt_succ_self k)) (by rw [← HPC.out, HPJ.out]; exact Nat.lt_succ_self j)⟩); have BT := qH (show Below w.heap.size w wv by rw [← hwv]; exact BD.out.setCell (p := ⟨g0, k, none⟩) (Nat.le_trans S12.out GD.out.lo0) _); obtain ⟨cs', hKT, D', hVT, hNT⟩ := hKT; have KT := qH hKT; have VT := qH hVT; have NT := qH hNT; clear hKT hVT hNT hwv
  (try simp only [Act.put, qA, qB, qC])
  refine wpAnyC_done (by kernel_rfl) ?_ _
  go_wp2_with fail
 rotate_left
 focus
  go_wp2_with (first
   | ((with_reducible refine atDst 11 ?_); refine wpList_new rfl 28 rfl id _ d0 hid HDZ.out rfl (Below.refl w2.heap.size w2) (Nat.le_refl _) ?_; intro w3 hk hb hs _; have K3 := qH hk; have B23 := qH hb; clear hk hb hs; (try simp only [Act.put, qA, qB, qC]))
   | ((with_reducible refine atStore 28 11 26 ?_); refine wpList_stBlk rfl 28 _ _ rfl w2.heap.size cs rfl rfl 28 _ K3.out HSA.out (by rw [HDL.out, HLA.out]) HOA.out B23.out (Nat.le_refl _) ?_; intro w4 hk hb hs ho; have K4 := qH hk; have BB4 := qH hb; clear hk hb hs ho; (try simp only [Act.put, qA, qB, qC]); obtain ⟨gd, hgd⟩ : ∃ g, g = w2.heap.size := ⟨_, rfl⟩; have HGD := qH hgd; rw [← hgd] at K4; rw [← hgd]; clear hgd; have c256 : w4.cell? ⟨gd, 256, none⟩ = some (.slice An m cn) := (by rw [K4.out.cell 256, HCS.out]; exact dcl_n HCLN.out); obtain ⟨u0, hu0⟩ : ∃ u, w4.cell? ⟨gd, 122, none⟩ = some u := ⟨_, (K4.out.cell 122).trans (List.getElem?_eq_getElem (by rw [HLA.out]; decide))⟩; have HU := qH hu0; clear hu0)
   | ((with_reducible refine atStoreC 5 34 ?_); refine wpList_plain rfl fun K hK => wp_stY (.tmp 34) (.const (.int .u8 255)) rfl gd 122 rfl 255 rfl u0 HU.out (Blk.frozen K4.out 122) ?_; refine hK _ _ ?_; clear hK K; generalize hwv : World.setCell w4 ⟨gd, 122, none⟩ (bv 255) = wv; have hKT : ∃ cs', Blk wv gd 28 cs' ∧ ∃ D', DfaV wv cs' D' ∧ mayDB D' = false := (by rw [← hwv]; exact ⟨_, K4.out.set 122 (bv 255), _, (VA.out.below (BB4.out.setCell (p := ⟨gd, 122, none⟩) (Nat.le_of_eq HGD.out.symm) _)).setC (by decide) 255, bad_cls HM.out HCLN.out (by rw [← HPC.out]; exact HCA.out.2)⟩); have BT := qH (show Below w.heap.size w wv by rw [← hwv]; exact (B2.out.trans (BB4.out.mono B2.out.size)).setCell (p := ⟨gd, 122, none⟩) (by rw [HGD.out]; exact B2.out.size) _); obtain ⟨cs', hKT, D', hVT, hNT⟩ := hKT; have KT := qH hKT; have VT := qH hVT; have NT := qH hNT; clear hKT hVT hNT hwv; (try simp only [Act.put, qA, qB, qC]); clear c256))
 rotate_left
 all_goals
  have HST := qH (show (Try.prog.info? 28).map (·.size) = some cs'.length from VT.out.size)
  have RWT := qH (RW.out.below BT.out)
  refine mc_start (fun V => Below wv.heap.size wv V) (fun _ => True) 35 (by kernel_rfl) (fun wd hwd => ?_)
  have hX : Below wv.heap.size wv wd := by rw [hwd]; exact (Below.refl _ _).drew
  have hY : True := trivial
  clear hwd
  refine mc_take (i := 0) (oi := ⟨some 78, _, _, _, _, _⟩) (v := .agg cs'.toArray) rfl (by kernel_rfl) (by kernel_rfl) (by kernel_rfl) (fun _ _ _ h => h) rfl hX (fun V hT => ld_blk 28 (.tmp 11) rfl gd rfl 28 cs' _ KT.out KT.out.lt Try.underlying28 rfl HST.out V hT) ?_; simp only [Act.put, qA, qB, qC]
  refine mc_actB (i := 1) (o := ⟨some 79, _, _, _, _, _⟩) rfl (by kernel_rfl) rfl (fun K hK => ?_)
  have Y1 := qH hX
  go_wp2_with fail
  refine (mMay_any D' cs' wd (VT.out.below hX)).mono ?_
  rintro e v1 ⟨rfl, hb⟩
  rw [NT.out]
  have hX2 := Y1.out.trans (hb.mono Y1.out.size)
  clear hb
  go_wp2_with fail
  refine hK _ _ hX2 trivial ?_
  clear hK K hX
  have hX := hX2
  clear hX2
  (try simp only [Act.put, qA, qB, qC])
  refine mc_take (i := 2) (oi := ⟨some 80, _, _, _, _, _⟩) (v := ?_) rfl (by kernel_rfl) (by kernel_rfl) (by kernel_rfl) (fun _ _ _ h => h) rfl hX ?_ ?_; rotate_left; (intro W hW; go_simp; try with_reducible rfl); simp only [Act.put, qA, qB, qC]
  refine mc_take (i := 3) (oi := ⟨some 81, _, _, _, _, _⟩) (v := ?_) rfl (by kernel_rfl) (by kernel_rfl) (by kernel_rfl) (fun _ _ _ h => h) rfl hX ?_ ?_; rotate_left; (intro W hW; go_simp; try with_reducible rfl); simp only [Act.put, qA, qB, qC]
  refine mc_take (i := 4) (oi := ⟨some 82, _, _, _, _, _⟩) (v := .agg cs'.toArray) rfl (by kernel_rfl) (by kernel_rfl) (by kernel_rfl) (fun _ _ _ h => h) rfl hX (fun V hT => ld_blk 28 (.tmp 11) rfl gd rfl 28 cs' _ KT.out KT.out.lt Try.underlying28 rfl HST.out V hT) ?_; simp only [Act.put, qA, qB, qC]
  refine mc_take (i := 5) (oi := ⟨some 83, _, _, _, _, _⟩) (v := ?_) rfl (by kernel_rfl) (by kernel_rfl) (by kernel_rfl) (fun _ _ _ h => h) rfl hX ?_ ?_; rotate_left; (intro W hW; go_simp; try with_reducible rfl); simp only [Act.put, qA, qB, qC]
  refine mc_actB (i := 6) (o := ⟨some 84, _, _, _, _, _⟩) rfl (by kernel_rfl) rfl (fun K hK => ?_)
  have Y2 := qH hX
  go_wp2_with fail
  refine (mRun_any D' W cs' _ v1 (VT.out.below hX) (RWT.out.below hX)).mono ?_
  rintro e v2 ⟨rfl, hb⟩
  rw [runG_no NT.out]
  have hX2 := Y2.out.trans (hb.mono Y2.out.size)
  clear hb
  go_wp2_with fail
  refine hK _ _ hX2 trivial ?_
  clear hK K hX
  have hX := hX2
  clear hX2
  (try simp only [Act.put, qA, qB, qC])
  refine mc_take (i := 7) (oi := ⟨some 85, _, _, _, _, _⟩) (v := ?_) rfl (by kernel_rfl) (by kernel_rfl) (by kernel_rfl) (fun _ _ _ h => h) rfl hX ?_ ?_; rotate_left; (intro W hW; go_simp; try with_reducible rfl); simp only [Act.put, qA, qB, qC]
  refine mc_take (i := 8) (oi := ⟨some 86, _, _, _, _, _⟩) (v := ?_) rfl (by kernel_rfl) (by kernel_rfl) (by kernel_rfl) (fun _ _ _ h => h) rfl hX ?_ ?_; rotate_left; (intro W hW; go_simp; try with_reducible rfl); simp only [Act.put, qA, qB, qC]
  refine mc_take (i := 9) (oi := ⟨some 87, _, _, _, _, _⟩) (v := ?_) rfl (by kernel_rfl) (by kernel_rfl) (by kernel_rfl) (fun _ _ _ h => h) rfl hX ?_ ?_; rotate_left; (intro W hW; go_simp; try with_reducible rfl); simp only [Act.put, qA, qB, qC]
  refine mc_take (i := 10) (oi := ⟨some 88, _, _, _, _, _⟩) (v := .agg cs'.toArray) rfl (by kernel_rfl) (by kernel_rfl) (by kernel_rfl) (fun _ _ _ h => h) rfl hX (fun V hT => ld_blk 28 (.tmp 11) rfl gd rfl 28 cs' _ KT.out KT.out.lt Try.underlying28 rfl HST.out V hT) ?_; simp only [Act.put, qA, qB, qC]
  refine mc_take (i := 11) (oi := ⟨some 89, _, _, _, _, _⟩) (v := ?_) rfl (by kernel_rfl) (by kernel_rfl) (by kernel_rfl) (fun _ _ _ h => h) rfl hX ?_ ?_; rotate_left; (intro W hW; go_simp; try with_reducible rfl); simp only [Act.put, qA, qB, qC]
  refine mc_actB (i := 12) (o := ⟨some 90, _, _, _, _, _⟩) rfl (by kernel_rfl) rfl (fun K hK => ?_)
  have Y3 := qH hX
  go_wp2_with fail
  refine (mTo_any D' 0 W cs' _ v2 (VT.out.below hX) (RWT.out.below hX)).mono ?_
  rintro e v3 ⟨rfl, hb⟩
  rw [toG_may NT.out]
  have hX2 := Y3.out.trans (hb.mono Y3.out.size)
  clear hb
  go_wp2_with fail
  refine hK _ _ hX2 trivial ?_
  clear hK K hX
  have hX := hX2
  clear hX2
  (try simp only [Act.put, qA, qB, qC])
  refine mc_take (i := 13) (oi := ⟨some 91, _, _, _, _, _⟩) (v := ?_) rfl (by kernel_rfl) (by kernel_rfl) (by kernel_rfl) (fun _ _ _ h => h) rfl hX ?_ ?_; rotate_left; (intro W hW; go_simp; try with_reducible rfl); simp only [Act.put, qA, qB, qC]
  refine mc_take (i := 14) (oi := ⟨some 92, _, _, _, _, _⟩) (v := ?_) rfl (by kernel_rfl) (by kernel_rfl) (by kernel_rfl) (fun _ _ _ h => h) rfl hX ?_ ?_; rotate_left; (intro W hW; go_simp; try with_reducible rfl); simp only [Act.put, qA, qB, qC]
  refine mc_take (i := 15) (oi := ⟨some 93, _, _, _, _, _⟩) (v := ?_) rfl (by kernel_rfl) (by kernel_rfl) (by kernel_rfl) (fun _ _ _ h => h) rfl hX ?_ ?_; rotate_left; (intro W hW; go_simp; try with_reducible rfl); simp only [Act.put, qA, qB, qC]
  refine mc_take (i := 16) (oi := ⟨some 94, _, _, _, _, _⟩) (v := .agg cs'.toArray) rfl (by kernel_rfl) (by kernel_rfl) (by kernel_rfl) (fun _ _ _ h => h) rfl hX (fun V hT => ld_blk 28 (.tmp 11) rfl gd rfl 28 cs' _ KT.out KT.out.lt Try.underlying28 rfl HST.out V hT) ?_; simp only [Act.put, qA, qB, qC]
  refine mc_take (i := 19) (oi := ⟨some 97, _, _, _, _, _⟩) (v := .agg cs'.toArray) rfl (by kernel_rfl) (by kernel_rfl) (by kernel_rfl) (fun _ _ _ h => h) rfl hX (fun V hT => ld_blk 28 (.tmp 11) rfl gd rfl 28 cs' _ KT.out KT.out.lt Try.underlying28 rfl HST.out V hT) ?_; simp only [Act.put, qA, qB, qC]
  refine mc_take (i := 23) (oi := ⟨some 101, _, _, _, _, _⟩) (v := .agg cs'.toArray) rfl (by kernel_rfl) (by kernel_rfl) (by kernel_rfl) (fun _ _ _ h => h) rfl hX (fun V hT => ld_blk 28 (.tmp 11) rfl gd rfl 28 cs' _ KT.out KT.out.lt Try.underlying28 rfl HST.out V hT) ?_; simp only [Act.put, qA, qB, qC]
  refine mc_actB (i := 17) (o := ⟨some 95, _, _, _, _, _⟩) rfl (by kernel_rfl) rfl (fun K hK => ?_)
  have Y4 := qH hX
  go_wp2_with fail
  refine (mcReach_any D' cs' v3 (VT.out.below hX)).mono ?_
  rintro e v4 ⟨za, rfl, hr, hb⟩
  rw [rchG_no NT.out] at hr
  obtain ⟨A3, c3, hza, _⟩ := hr
  rw [show (bools []).length = 0 from rfl] at hza
  subst hza
  have hX2 := Y4.out.trans (hb.mono Y4.out.size)
  clear hb
  go_wp2_with fail
  refine hK _ _ hX2 trivial ?_
  clear hK K hX
  have hX := hX2
  clear hX2
  (try simp only [Act.put, qA, qB, qC])
  refine mc_take (i := 18) (oi := ⟨some 96, _, _, _, _, _⟩) (v := ?_) rfl (by kernel_rfl) (by kernel_rfl) (by kernel_rfl) (fun _ _ _ h => h) rfl hX ?_ ?_; rotate_left; (intro W hW; go_simp; try with_reducible rfl); simp only [Act.put, qA, qB, qC]
  refine mc_actB (i := 20) (o := ⟨some 98, _, _, _, _, _⟩) rfl (by kernel_rfl) rfl (fun K hK => ?_)
  have Y5 := qH hX
  go_wp2_with fail
  refine (mcLive_any D' cs' v4 (VT.out.below hX)).mono ?_
  rintro e v5 ⟨zb, rfl, hr, hb⟩
  rw [lvgG_no NT.out] at hr
  obtain ⟨A4, c4, hzb, _⟩ := hr
  rw [show (bools []).length = 0 from rfl] at hzb
  subst hzb
  have hX2 := Y5.out.trans (hb.mono Y5.out.size)
  clear hb
  go_wp2_with fail
  refine hK _ _ hX2 trivial ?_
  clear hK K hX
  have hX := hX2
  clear hX2
  (try simp only [Act.put, qA, qB, qC])
  refine mc_take (i := 21) (oi := ⟨some 99, _, _, _, _, _⟩) (v := ?_) rfl (by kernel_rfl) (by kernel_rfl) (by kernel_rfl) (fun _ _ _ h => h) rfl hX ?_ ?_; rotate_left; (intro W hW; go_simp; try with_reducible rfl); simp only [Act.put, qA, qB, qC]
  refine mc_take (i := 22) (oi := ⟨some 100, _, _, _, _, _⟩) (v := ?_) rfl (by kernel_rfl) (by kernel_rfl) (by kernel_rfl) (fun _ _ _ h => h) rfl hX ?_ ?_; rotate_left; (intro W hW; go_simp; try with_reducible rfl); simp only [Act.put, qA, qB, qC]
  refine mc_actB (i := 24) (o := ⟨some 102, _, _, _, _, _⟩) rfl (by kernel_rfl) rfl (fun K hK => ?_)
  have Y6 := qH hX
  go_wp2_with fail
  refine (mClasses_any D' cs' v5 (VT.out.below hX)).mono ?_
  rintro e v6 ⟨rfl, hb⟩
  rw [clsG_no NT.out]
  have hX2 := Y6.out.trans (hb.mono Y6.out.size)
  clear hb
  go_wp2_with fail
  refine hK _ _ hX2 trivial ?_
  clear hK K hX
  have hX := hX2
  clear hX2
  (try simp only [Act.put, qA, qB, qC])
  refine mc_take (i := 25) (oi := ⟨some 103, _, _, _, _, _⟩) (v := ?_) rfl (by kernel_rfl) (by kernel_rfl) (by kernel_rfl) (fun _ _ _ h => h) rfl hX ?_ ?_; rotate_left; (intro W hW; go_simp; try with_reducible rfl); simp only [Act.put, qA, qB, qC]
  refine mc_take (i := 26) (oi := ⟨some 104, _, _, _, _, _⟩) (v := ?_) rfl (by kernel_rfl) (by kernel_rfl) (by kernel_rfl) (fun _ _ _ h => h) rfl hX ?_ ?_; rotate_left; (intro W hW; go_simp; try with_reducible rfl); simp only [Act.put, qA, qB, qC]
  refine mc_take (i := 27) (oi := ⟨some 105, _, _, _, _, _⟩) (v := ?_) rfl (by kernel_rfl) (by kernel_rfl) (by kernel_rfl) (fun _ _ _ h => h) rfl hX ?_ ?_; rotate_left; (intro W hW; go_simp; try with_reducible rfl); simp only [Act.put, qA, qB, qC]
  refine mc_take (i := 28) (oi := ⟨some 106, _, _, _, _, _⟩) (v := ?_) rfl (by kernel_rfl) (by kernel_rfl) (by kernel_rfl) (fun _ _ _ h => h) rfl hX ?_ ?_; rotate_left; (intro W hW; go_simp; try with_reducible rfl); simp only [Act.put, qA, qB, qC]
  refine mc_take (i := 29) (oi := ⟨some 107, _, _, _, _, _⟩) (v := .agg cs'.toArray) rfl (by kernel_rfl) (by kernel_rfl) (by kernel_rfl) (fun _ _ _ h => h) rfl hX (fun V hT => ld_blk 28 (.tmp 11) rfl gd rfl 28 cs' _ KT.out KT.out.lt Try.underlying28 rfl HST.out V hT) ?_; simp only [Act.put, qA, qB, qC]
  refine mc_take (i := 31) (oi := ⟨some 109, _, _, _, _, _⟩) (v := .agg d0.toArray) rfl (by kernel_rfl) (by kernel_rfl) (by kernel_rfl) (fun _ _ _ h => h) rfl hX (fun V _ => ex_bldD rfl HDB.out V) ?_; simp only [Act.put, qA, qB, qC]
  refine mc_actB (i := 30) (o := ⟨some 108, _, _, _, _, _⟩) rfl (by kernel_rfl) rfl (fun K hK => ?_)
  have Y7 := qH hX
  go_wp2_with fail
  refine (mFlip_any D' cs' v6 (VT.out.below hX)).mono ?_
  rintro e v7 ⟨fs, rfl, hd, hb⟩
  rw [flipG_no NT.out] at hd
  have VF := qH hd
  clear hd
  have hX2 := Y7.out.trans (hb.mono Y7.out.size)
  clear hb
  go_wp2_with fail
  refine hK _ _ hX2 trivial ?_
  clear hK K hX
  have hX := hX2
  clear hX2
  (try simp only [Act.put, qA, qB, qC])
  refine mc_actB (i := 32) (o := ⟨some 110, _, _, _, _, _⟩) rfl (by kernel_rfl) rfl (fun K hK => ?_)
  have Y8 := qH hX
  go_wp2_with fail
  refine (refSame11_self noDm fs d0 v7 VF.out (by rw [HD0.out]; exact dfaV_no _) (by decide) (by decide) (by intro r hr; cases hr)).mono ?_
  rintro e v8 ⟨rfl, hb⟩
  have hX2 := Y8.out.trans (hb.mono Y8.out.size)
  clear hb
  go_wp2_with fail
  refine hK _ _ hX2 trivial ?_
  clear hK K hX
  have hX := hX2
  clear hX2
  (try simp only [Act.put, qA, qB, qC])
  refine mc_take (i := 33) (oi := ⟨some 111, _, _, _, _, _⟩) (v := ?_) rfl (by kernel_rfl) (by kernel_rfl) (by kernel_rfl) (fun _ _ _ h => h) rfl hX ?_ ?_; rotate_left; (intro W hW; go_simp; try with_reducible rfl); simp only [Act.put, qA, qB, qC]
  refine mc_take (i := 34) (oi := ⟨some 10, _, _, _, _, _⟩) (v := ?_) rfl (by kernel_rfl) (by kernel_rfl) (by kernel_rfl) (fun _ _ _ h => h) rfl hX ?_ ?_; rotate_left; (intro W hW; go_simp; try with_reducible rfl); simp only [Act.put, qA, qB, qC]
  refine wpAnyC_done (by kernel_rfl) ?_ _
  have BE := qH (BT.out.trans (hX.mono BT.out.size))
  clear hX hY
  go_wp2_with fail
  go_ret
  exact ⟨rfl, BE.out⟩
end Go.Proofs.Ytbbodfpnneifgaa
