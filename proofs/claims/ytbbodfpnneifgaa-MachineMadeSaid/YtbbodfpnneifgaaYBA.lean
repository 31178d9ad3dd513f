/-
  Texts of this proof, put together: MmM. No statement is proved here.
-/
import Derived.Test.YtbbodfpnneifgaaYZ
import Derived.Test.YtbbodfpnneifgaaYF
namespace Go.Proofs.Ytbbodfpnneifgaa
open Go.RowKit
set_option linter.unusedSimpArgs false
set_option linter.unusedVariables false
theorem k8M (n : Nat) : 1 + n % 8 ≤ 8 := by omega
theorem ex_eqB {ev : Operand → Value} {o : Oper} (x y : Operand) {r : TypeId} (ho : o.op = .binOp .eql 4 x y r) {p q : Bool} (hx : ev x = .bool p) (hy : ev y = .bool q) {b : Bool} (hb : (p == q) = b) (W : World) : (execOp ev o).run Try.prog W = .ok (.value (.bool b)) W := by
 simp only [execOp, ho, hx, hy]
 subst hb
 cases p <;> cases q <;> go_simp
set_option maxHeartbeats 8000000 in
set_option maxRecDepth 1000000 in
theorem made11_walk (n c : Nat) (V V2 : Value) (ps W : List UInt8) (w : World) (hn : n < 256) (hc : c < 256) (hr : Row w V (bvs ps)) (hw : Row w V2 (bvs W)) :
  Calls Try.prog 3 #[.int .u8 (n : Int), .int .u8 (c : Int), V, V2] w fun e w' => e = .returned (.bool true) ∧ Below w.heap.size w w' := by
 have R := qH hr
 have RW := qH hw
 obtain ⟨A, cap, rfl, _⟩ := hr
 obtain ⟨A2, cap2, rfl, _⟩ := hw
 rw [bvs_length] at R
 rw [bvs_length] at RW
 rw [bvs_length, bvs_length]
 have HN := qH hn
 have HC := qH hc
 obtain ⟨d0, hd0⟩ : ∃ d0, d0 = dcl (ctab [] 0) (.slice none 0 0) (.slice none 0 0) := ⟨_, rfl⟩
 have HDL := qH (show d0.length = 258 by rw [hd0]; exact dcl_len (ctab_length _ _))
 obtain ⟨id, hid, hdz⟩ := Option.map_eq_some_iff.1 inf_dfa
 rw [← hd0] at hdz
 have HDZ := qH hdz
 clear hd0 hdz hn hc
 go_enter Try.func3, Try.ntmps3
 go_wp2_with fail
 refine (begun11_any w).mono ?_
 rintro e w1 ⟨rfl, hb⟩
 have B1 := qH hb
 clear hb
 by_cases hl : 60 < ps.length
 ·have x1 : (60 : Int) < (ps.length : Int) := Int.ofNat_lt.2 hl
  clear hl
  go_wp2_with fail
  go_ret
  exact ⟨rfl, B1.out⟩
 have x1 : ¬ (60 : Int) < (ps.length : Int) := fun h => hl (Int.ofNat_lt.1 h)
 have HL := qH (Nat.le_of_not_lt hl)
 clear hl
 by_cases hl2 : 40 < W.length
 ·have x2 : (40 : Int) < (W.length : Int) := Int.ofNat_lt.2 hl2
  clear hl2
  go_wp2_with fail
  go_ret
  exact ⟨rfl, B1.out⟩
 have x2 : ¬ (40 : Int) < (W.length : Int) := fun h => hl2 (Int.ofNat_lt.1 h)
 clear hl2
 go_wp2_with fail
 refine (playDfa_any n c ps _ w1 HN.out HC.out (R.out.below B1.out) HL.out).mono ?_
 rintro e w2 ⟨cs, rfl, hd, hb⟩
 obtain ⟨D, hD⟩ : ∃ D, D = dfaQ n c ps := ⟨_, rfl⟩
 rw [← hD] at hd
 have HM := qH (show MayD D by rw [hD]; exact dfaQ_may n c ps)
 have HK8 := qH (show D.next.length ≤ 8 by rw [hD, dfaQ_len]; exact k8M n)
 have HFU := qH (show FullD D by rw [hD]; exact dfaQ_full n c ps)
 clear hD
 have VA := qH hd.dfa
 obtain ⟨An, Ae, cn, ce, vf, hcl, hcs, _⟩ := VA.out.form
 have HCS := qH hcs
 have HCLN := qH hcl
 have HLA := qH (show cs.length = 258 by rw [hcs]; exact dcl_len hcl)
 have HOA := qH (show cs.all (·.oneCell') = true by rw [hcs]; exact dcl_one)
 have HSA := qH (show (Try.prog.info? 28).map (·.size) = some cs.length from VA.out.size)
 have B2 := qH (B1.out.trans (hb.mono B1.out.size))
 clear hd hb hcl hcs
 go_wp2_with (first
  | ((with_reducible refine atDst 9 ?_); refine wpList_new rfl 28 rfl id _ d0 hid HDZ.out rfl (Below.refl w2.heap.size w2) (Nat.le_refl _) ?_; intro w3 hk hb hs _; have K3 := qH hk; have B23 := qH hb; clear hk hb hs; (try simp only [Act.put, qA, qB, qC]))
  | ((with_reducible refine atStore 28 9 23 ?_); refine wpList_stBlk rfl 28 _ _ rfl w2.heap.size cs rfl rfl 28 _ K3.out HSA.out (by rw [HDL.out, HLA.out]) HOA.out B23.out (Nat.le_refl _) ?_; intro w4 hk hb hs ho; have K4 := qH hk; have V4 := qH (VA.out.below hb); have B4 := qH (B2.out.trans (hb.mono B2.out.size)); clear hk hb hs ho; (try simp only [Act.put, qA, qB, qC])))
 have HCL2 := qH (show D.cl.length = 256 from HCLN.out)
 obtain ⟨rb, hrb⟩ : ∃ b, b = runG D W := ⟨_, rfl⟩
 have HRD := qH (show runD D W = rb by rw [hrb, runG_yes HM.out])
 have HRG := qH (show runG D W = rb from hrb.symm)
 have HRF := qH (show runG (flipD D) W = !rb by rw [hrb]; exact runG_flip HM.out HCL2.out W)
 have HRE := qH (rch_full HM.out HCL2.out HFU.out)
 have HLI := qH (lvg_full HM.out HCL2.out HFU.out)
 have HE1 := qH (show (rb == rb) = true by simp)
 have HE2 := qH (show ((!rb) != rb) = true by cases rb <;> rfl)
 have RW4 := qH (RW.out.below B4.out)
 clear hrb
 obtain ⟨gd, hgd⟩ : ∃ g, g = w2.heap.size := ⟨_, rfl⟩
 rw [← hgd] at K4
 rw [← hgd]
 clear hgd K3 B23 VA
 go_wp2_with fail
 refine mc_start (fun V => Below w4.heap.size w4 V) (fun _ => True) 36 (by kernel_rfl) (fun wd hwd => ?_)
 have hX : Below w4.heap.size w4 wd := by rw [hwd]; exact (Below.refl _ _).drew
 have hY : True := trivial
 clear hwd
 refine mc_take (i := 0) (oi := ⟨some 24, _, _, _, _, _⟩) (v := .agg cs.toArray) rfl (by kernel_rfl) (by kernel_rfl) (by kernel_rfl) (fun _ _ _ h => h) rfl hX (fun V hT => ld_blk 28 (.tmp 9) rfl gd rfl 28 cs _ K4.out K4.out.lt Try.underlying28 rfl HSA.out V hT) ?_; simp only [Act.put, qA, qB, qC]
 refine mc_actB (i := 1) (o := ⟨some 25, _, _, _, _, _⟩) rfl (by kernel_rfl) rfl (fun K hK => ?_)
 have Y1 := qH hX
 go_wp2_with fail
 refine (mMay_any D cs wd (V4.out.below hX)).mono ?_
 rintro e v1 ⟨rfl, hb⟩
 rw [mayDB_yes HM.out]
 have hX2 := Y1.out.trans (hb.mono Y1.out.size)
 clear hb
 go_wp2_with fail
 refine hK _ _ hX2 trivial ?_
 clear hK K hX
 have hX := hX2
 clear hX2
 (try simp only [Act.put, qA, qB, qC])
 refine mc_take (i := 2) (oi := ⟨some 26, _, _, _, _, _⟩) (v := ?_) rfl (by kernel_rfl) (by kernel_rfl) (by kernel_rfl) (fun _ _ _ h => h) rfl hX ?_ ?_; rotate_left; (intro W hW; go_simp; try with_reducible rfl); simp only [Act.put, qA, qB, qC]
 refine mc_take (i := 3) (oi := ⟨some 27, _, _, _, _, _⟩) (v := .agg cs.toArray) rfl (by kernel_rfl) (by kernel_rfl) (by kernel_rfl) (fun _ _ _ h => h) rfl hX (fun V hT => ld_blk 28 (.tmp 9) rfl gd rfl 28 cs _ K4.out K4.out.lt Try.underlying28 rfl HSA.out V hT) ?_; simp only [Act.put, qA, qB, qC]
 refine mc_take (i := 4) (oi := ⟨some 28, _, _, _, _, _⟩) (v := ?_) rfl (by kernel_rfl) (by kernel_rfl) (by kernel_rfl) (fun _ _ _ h => h) rfl hX ?_ ?_; rotate_left; (intro W hW; go_simp; try with_reducible rfl); simp only [Act.put, qA, qB, qC]
 refine mc_take (i := 6) (oi := ⟨some 30, _, _, _, _, _⟩) (v := .agg cs.toArray) rfl (by kernel_rfl) (by kernel_rfl) (by kernel_rfl) (fun _ _ _ h => h) rfl hX (fun V hT => ld_blk 28 (.tmp 9) rfl gd rfl 28 cs _ K4.out K4.out.lt Try.underlying28 rfl HSA.out V hT) ?_; simp only [Act.put, qA, qB, qC]
 refine mc_take (i := 7) (oi := ⟨some 31, _, _, _, _, _⟩) (v := ?_) rfl (by kernel_rfl) (by kernel_rfl) (by kernel_rfl) (fun _ _ _ h => h) rfl hX ?_ ?_; rotate_left; (intro W hW; go_simp; try with_reducible rfl); simp only [Act.put, qA, qB, qC]
 refine mc_actB (i := 5) (o := ⟨some 29, _, _, _, _, _⟩) rfl (by kernel_rfl) rfl (fun K hK => ?_)
 have Y2 := qH hX
 go_wp2_with fail
 refine (mRun_any D W cs _ v1 (V4.out.below hX) (RW4.out.below hX)).mono ?_
 rintro e v2 ⟨rfl, hb⟩
 rw [HRG.out]
 have hX2 := Y2.out.trans (hb.mono Y2.out.size)
 clear hb
 go_wp2_with fail
 refine hK _ _ hX2 trivial ?_
 clear hK K hX
 have hX := hX2
 clear hX2
 (try simp only [Act.put, qA, qB, qC])
 refine mc_actB (i := 8) (o := ⟨some 32, _, _, _, _, _⟩) rfl (by kernel_rfl) rfl (fun K hK => ?_)
 have Y3 := qH hX
 go_wp2_with fail
 refine (refRun11_any D W cs _ v2 (V4.out.below hX) HM.out (RW4.out.below hX)).mono ?_
 rintro e v3 ⟨rfl, hb⟩
 rw [HRD.out]
 have hX2 := Y3.out.trans (hb.mono Y3.out.size)
 clear hb
 go_wp2_with fail
 refine hK _ _ hX2 trivial ?_
 clear hK K hX
 have hX := hX2
 clear hX2
 (try simp only [Act.put, qA, qB, qC])
 refine mc_take (i := 9) (oi := ⟨some 33, _, _, _, _, _⟩) (v := .bool true) rfl (by kernel_rfl) (by kernel_rfl) (by kernel_rfl) (fun _ _ _ h => h) rfl hX (fun V _ => ex_eqB (.tmp 29) (.tmp 32) rfl rfl rfl HE1.out V) ?_; simp only [Act.put, qA, qB, qC]
 refine mc_take (i := 10) (oi := ⟨some 34, _, _, _, _, _⟩) (v := ?_) rfl (by kernel_rfl) (by kernel_rfl) (by kernel_rfl) (fun _ _ _ h => h) rfl hX ?_ ?_; rotate_left; (intro W hW; go_simp; try with_reducible rfl); simp only [Act.put, qA, qB, qC]
 refine mc_take (i := 11) (oi := ⟨some 35, _, _, _, _, _⟩) (v := ?_) rfl (by kernel_rfl) (by kernel_rfl) (by kernel_rfl) (fun _ _ _ h => h) rfl hX ?_ ?_; rotate_left; (intro W hW; go_simp; try with_reducible rfl); simp only [Act.put, qA, qB, qC]
 refine mc_take (i := 12) (oi := ⟨some 36, _, _, _, _, _⟩) (v := .agg cs.toArray) rfl (by kernel_rfl) (by kernel_rfl) (by kernel_rfl) (fun _ _ _ h => h) rfl hX (fun V hT => ld_blk 28 (.tmp 9) rfl gd rfl 28 cs _ K4.out K4.out.lt Try.underlying28 rfl HSA.out V hT) ?_; simp only [Act.put, qA, qB, qC]
 refine mc_take (i := 14) (oi := ⟨some 38, _, _, _, _, _⟩) (v := ?_) rfl (by kernel_rfl) (by kernel_rfl) (by kernel_rfl) (fun _ _ _ h => h) rfl hX ?_ ?_; rotate_left; (intro W hW; go_simp; try with_reducible rfl); simp only [Act.put, qA, qB, qC]
 refine mc_take (i := 16) (oi := ⟨some 40, _, _, _, _, _⟩) (v := .agg cs.toArray) rfl (by kernel_rfl) (by kernel_rfl) (by kernel_rfl) (fun _ _ _ h => h) rfl hX (fun V hT => ld_blk 28 (.tmp 9) rfl gd rfl 28 cs _ K4.out K4.out.lt Try.underlying28 rfl HSA.out V hT) ?_; simp only [Act.put, qA, qB, qC]
 refine mc_take (i := 17) (oi := ⟨some 41, _, _, _, _, _⟩) (v := ?_) rfl (by kernel_rfl) (by kernel_rfl) (by kernel_rfl) (fun _ _ _ h => h) rfl hX ?_ ?_; rotate_left; (intro W hW; go_simp; try with_reducible rfl); simp only [Act.put, qA, qB, qC]
 refine mc_actB (i := 13) (o := ⟨some 37, _, _, _, _, _⟩) rfl (by kernel_rfl) rfl (fun K hK => ?_)
 have Y4 := qH hX
 go_wp2_with fail
 refine (mFlip_any D cs v3 (V4.out.below hX)).mono ?_
 rintro e v4 ⟨fs, rfl, hd, hb⟩
 rw [flipG_of HM.out] at hd
 have VF := qH hd
 clear hd
 have hX2 := Y4.out.trans (hb.mono Y4.out.size)
 clear hb
 go_wp2_with fail
 refine hK _ _ hX2 trivial ?_
 clear hK K hX
 have hX := hX2
 clear hX2
 (try simp only [Act.put, qA, qB, qC])
 refine mc_actB (i := 15) (o := ⟨some 39, _, _, _, _, _⟩) rfl (by kernel_rfl) rfl (fun K hK => ?_)
 have Y5 := qH hX
 go_wp2_with fail
 refine (mRun_any (flipD D) W fs _ v4 VF.out (RW4.out.below hX)).mono ?_
 rintro e v5 ⟨rfl, hb⟩
 rw [HRF.out]
 have hX2 := Y5.out.trans (hb.mono Y5.out.size)
 clear hb
 go_wp2_with fail
 refine hK _ _ hX2 trivial ?_
 clear hK K hX
 have hX := hX2
 clear hX2
 (try simp only [Act.put, qA, qB, qC])
 refine mc_actB (i := 18) (o := ⟨some 42, _, _, _, _, _⟩) rfl (by kernel_rfl) rfl (fun K hK => ?_)
 have Y6 := qH hX
 go_wp2_with fail
 refine (mRun_any D W cs _ v5 (V4.out.below hX) (RW4.out.below hX)).mono ?_
 rintro e v6 ⟨rfl, hb⟩
 rw [HRG.out]
 have hX2 := Y6.out.trans (hb.mono Y6.out.size)
 clear hb
 go_wp2_with fail
 refine hK _ _ hX2 trivial ?_
 clear hK K hX
 have hX := hX2
 clear hX2
 (try simp only [Act.put, qA, qB, qC])
 refine mc_take (i := 19) (oi := ⟨some 43, _, _, _, _, _⟩) (v := .bool true) rfl (by kernel_rfl) (by kernel_rfl) (by kernel_rfl) (fun _ _ _ h => h) rfl hX (fun V _ => ex_neB (.tmp 39) (.tmp 42) rfl rfl rfl HE2.out V) ?_; simp only [Act.put, qA, qB, qC]
 refine mc_take (i := 20) (oi := ⟨some 44, _, _, _, _, _⟩) (v := ?_) rfl (by kernel_rfl) (by kernel_rfl) (by kernel_rfl) (fun _ _ _ h => h) rfl hX ?_ ?_; rotate_left; (intro W hW; go_simp; try with_reducible rfl); simp only [Act.put, qA, qB, qC]
 refine mc_take (i := 21) (oi := ⟨some 45, _, _, _, _, _⟩) (v := ?_) rfl (by kernel_rfl) (by kernel_rfl) (by kernel_rfl) (fun _ _ _ h => h) rfl hX ?_ ?_; rotate_left; (intro W hW; go_simp; try with_reducible rfl); simp only [Act.put, qA, qB, qC]
 refine mc_take (i := 22) (oi := ⟨some 46, _, _, _, _, _⟩) (v := .agg cs.toArray) rfl (by kernel_rfl) (by kernel_rfl) (by kernel_rfl) (fun _ _ _ h => h) rfl hX (fun V hT => ld_blk 28 (.tmp 9) rfl gd rfl 28 cs _ K4.out K4.out.lt Try.underlying28 rfl HSA.out V hT) ?_; simp only [Act.put, qA, qB, qC]
 refine mc_take (i := 24) (oi := ⟨some 48, _, _, _, _, _⟩) (v := .agg cs.toArray) rfl (by kernel_rfl) (by kernel_rfl) (by kernel_rfl) (fun _ _ _ h => h) rfl hX (fun V hT => ld_blk 28 (.tmp 9) rfl gd rfl 28 cs _ K4.out K4.out.lt Try.underlying28 rfl HSA.out V hT) ?_; simp only [Act.put, qA, qB, qC]
 refine mc_actB (i := 23) (o := ⟨some 47, _, _, _, _, _⟩) rfl (by kernel_rfl) rfl (fun K hK => ?_)
 have Y7 := qH hX
 go_wp2_with fail
 refine (mcReach_any D cs v6 (V4.out.below hX)).mono ?_
 rintro e v7 ⟨zr, rfl, hr, hb⟩
 have RR := qH hr
 clear hr
 have hX2 := Y7.out.trans (hb.mono Y7.out.size)
 clear hb
 go_wp2_with fail
 refine hK _ _ hX2 trivial ?_
 clear hK K hX
 have hX := hX2
 clear hX2
 (try simp only [Act.put, qA, qB, qC])
 refine mc_actB (i := 25) (o := ⟨some 49, _, _, _, _, _⟩) rfl (by kernel_rfl) rfl (fun K hK => ?_)
 have Y8 := qH hX
 go_wp2_with fail
 refine (refReach11_any D cs v7 (V4.out.below hX) HM.out).mono ?_
 rintro e v8 ⟨zs, rfl, hr, hb⟩
 rw [HRE.out] at hr
 have RS := qH hr
 have RR2 := qH (RR.out.below hb)
 clear hr
 have hX2 := Y8.out.trans (hb.mono Y8.out.size)
 clear hb
 go_wp2_with fail
 refine hK _ _ hX2 trivial ?_
 clear hK K hX
 have hX := hX2
 clear hX2
 (try simp only [Act.put, qA, qB, qC])
 refine mc_actB (i := 26) (o := ⟨some 50, _, _, _, _, _⟩) rfl (by kernel_rfl) rfl (fun K hK => ?_)
 have Y9 := qH hX
 go_wp2_with fail
 refine (sameBools_any (rchG D) (rchG D) zr zs v8 RR2.out RS.out (by rw [rchG_len HM.out]; exact HM.out.few)).mono ?_
 rintro e v9 ⟨rfl, hb⟩
 rw [decide_eq_true rfl]
 have hX2 := Y9.out.trans (hb.mono Y9.out.size)
 clear hb
 go_wp2_with fail
 refine hK _ _ hX2 trivial ?_
 clear hK K hX
 have hX := hX2
 clear hX2
 (try simp only [Act.put, qA, qB, qC])
 refine mc_take (i := 27) (oi := ⟨some 51, _, _, _, _, _⟩) (v := ?_) rfl (by kernel_rfl) (by kernel_rfl) (by kernel_rfl) (fun _ _ _ h => h) rfl hX ?_ ?_; rotate_left; (intro W hW; go_simp; try with_reducible rfl); simp only [Act.put, qA, qB, qC]
 refine mc_take (i := 28) (oi := ⟨some 52, _, _, _, _, _⟩) (v := ?_) rfl (by kernel_rfl) (by kernel_rfl) (by kernel_rfl) (fun _ _ _ h => h) rfl hX ?_ ?_; rotate_left; (intro W hW; go_simp; try with_reducible rfl); simp only [Act.put, qA, qB, qC]
 refine mc_take (i := 29) (oi := ⟨some 53, _, _, _, _, _⟩) (v := .agg cs.toArray) rfl (by kernel_rfl) (by kernel_rfl) (by kernel_rfl) (fun _ _ _ h => h) rfl hX (fun V hT => ld_blk 28 (.tmp 9) rfl gd rfl 28 cs _ K4.out K4.out.lt Try.underlying28 rfl HSA.out V hT) ?_; simp only [Act.put, qA, qB, qC]
 refine mc_take (i := 31) (oi := ⟨some 55, _, _, _, _, _⟩) (v := .agg cs.toArray) rfl (by kernel_rfl) (by kernel_rfl) (by kernel_rfl) (fun _ _ _ h => h) rfl hX (fun V hT => ld_blk 28 (.tmp 9) rfl gd rfl 28 cs _ K4.out K4.out.lt Try.underlying28 rfl HSA.out V hT) ?_; simp only [Act.put, qA, qB, qC]
 refine mc_actB (i := 30) (o := ⟨some 54, _, _, _, _, _⟩) rfl (by kernel_rfl) rfl (fun K hK => ?_)
 have Y10 := qH hX
 go_wp2_with fail
 refine (mcLive_any D cs v9 (V4.out.below hX)).mono ?_
 rintro e v10 ⟨zl, rfl, hr, hb⟩
 have RL := qH hr
 clear hr
 have hX2 := Y10.out.trans (hb.mono Y10.out.size)
 clear hb
 go_wp2_with fail
 refine hK _ _ hX2 trivial ?_
 clear hK K hX
 have hX := hX2
 clear hX2
 (try simp only [Act.put, qA, qB, qC])
 refine mc_actB (i := 32) (o := ⟨some 56, _, _, _, _, _⟩) rfl (by kernel_rfl) rfl (fun K hK => ?_)
 have Y11 := qH hX
 go_wp2_with fail
 refine (refLive11_any D cs v10 (V4.out.below hX) HM.out).mono ?_
 rintro e v11 ⟨zm, rfl, hr, hb⟩
 rw [HLI.out] at hr
 have RM := qH hr
 have RL2 := qH (RL.out.below hb)
 clear hr
 have hX2 := Y11.out.trans (hb.mono Y11.out.size)
 clear hb
 go_wp2_with fail
 refine hK _ _ hX2 trivial ?_
 clear hK K hX
 have hX := hX2
 clear hX2
 (try simp only [Act.put, qA, qB, qC])
 refine mc_actB (i := 33) (o := ⟨some 57, _, _, _, _, _⟩) rfl (by kernel_rfl) rfl (fun K hK => ?_)
 have Y12 := qH hX
 go_wp2_with fail
 refine (sameBools_any (lvgG D) (lvgG D) zl zm v11 RL2.out RM.out (by rw [lvgG_len HM.out]; exact HM.out.few)).mono ?_
 rintro e v12 ⟨rfl, hb⟩
 rw [decide_eq_true rfl]
 have hX2 := Y12.out.trans (hb.mono Y12.out.size)
 clear hb
 go_wp2_with fail
 refine hK _ _ hX2 trivial ?_
 clear hK K hX
 have hX := hX2
 clear hX2
 (try simp only [Act.put, qA, qB, qC])
 refine mc_take (i := 34) (oi := ⟨some 58, _, _, _, _, _⟩) (v := ?_) rfl (by kernel_rfl) (by kernel_rfl) (by kernel_rfl) (fun _ _ _ h => h) rfl hX ?_ ?_; rotate_left; (intro W hW; go_simp; try with_reducible rfl); simp only [Act.put, qA, qB, qC]
 refine mc_take (i := 35) (oi := ⟨some 8, _, _, _, _, _⟩) (v := ?_) rfl (by kernel_rfl) (by kernel_rfl) (by kernel_rfl) (fun _ _ _ h => h) rfl hX ?_ ?_; rotate_left; (intro W hW; go_simp; try with_reducible rfl); simp only [Act.put, qA, qB, qC]
 refine wpAnyC_done (by kernel_rfl) ?_ _
 have BE := qH (B4.out.trans (hX.mono B4.out.size))
 clear hX hY
 go_wp2_with fail
 go_ret
 exact ⟨rfl, BE.out⟩
end Go.Proofs.Ytbbodfpnneifgaa
