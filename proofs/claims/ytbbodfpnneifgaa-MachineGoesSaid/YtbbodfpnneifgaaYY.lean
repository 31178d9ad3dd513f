/-
  Texts of this proof, put together: BgM, SaM, PfM. No statement is proved here.
-/
import Derived.Test.YtbbodfpnneifgaaYW
import Derived.Test.YtbbodfpnneifgaaYX
namespace Go.Proofs.Ytbbodfpnneifgaa
open Go.RowKit
set_option linter.unusedSimpArgs false
set_option linter.unusedVariables false
def oneD : Dm := ⟨ctab [] 0, [[0]], [true]⟩
theorem oneD_cl : oneD.cl.length = 256 := ctab_length _ _
theorem oneD_cls : clsA oneD.cl = 1 := by
 apply Nat.le_antisymm
 ·refine clsA_upQ fun c hc => ?_
  obtain ⟨j, hj, rfl⟩ := List.getElem_of_mem hc
  show (ctab [] 0)[j].toNat + 1 ≤ 1
  simp [ctab]
 ·exact Nat.lt_of_le_of_lt (Nat.zero_le _) (clsA_lt oneD_cl (j := 0) (List.getElem?_eq_getElem (by rw [oneD_cl]; decide)))
theorem oneD_may : MayD oneD :=
 ⟨Nat.le_refl _, by decide, rfl, fun r hr => by rw [oneD_cls, List.mem_singleton.1 hr]; rfl, fun r hr x hx => by
  rw [List.mem_singleton.1 hr] at hx
  rw [List.mem_singleton.1 hx]
  exact ⟨Int.le_refl _, by decide⟩⟩
theorem oneD_to : toG oneD 0 [97] = 0 := by
 have h1 := toD_lt oneD_may oneD_cl [97] 0 (Nat.zero_lt_one)
 unfold toG
 rw [if_pos ⟨mayDB_yes oneD_may, Int.le_refl _, by decide⟩]
 have h2 : toD oneD 0 [97] = 0 := Nat.lt_one_iff.1 h1
 exact congrArg Int.ofNat h2
theorem oneD_run : runG oneD [] = true := by rw [runG_yes oneD_may]; rfl
theorem oneD_flip : flipG oneD = flipD oneD := by unfold flipG; rw [if_pos (mayDB_yes oneD_may)]
theorem oneD_runF : runG (flipD oneD) [] = false := by rw [runG_yes (flipD_may oneD_may)]; rfl
theorem oneD_cG : clsG oneD = 1 := by unfold clsG; rw [if_pos (mayDB_yes oneD_may), oneD_cls]
theorem oneD_rG : (rchG oneD).length = 1 := by unfold rchG; rw [if_pos (mayDB_yes oneD_may), List.length_map, List.length_range]; rfl
theorem oneD_lG : (lvgG oneD).length = 1 := by unfold lvgG; rw [if_pos (mayDB_yes oneD_may), List.length_map, List.length_range]; rfl
theorem one_max {v : Value} : [v].length ≤ maxLen := by
 show 1 ≤ maxLen
 decide
theorem built_nx (A : Option Addr) (n c : Nat) (A' : Option Addr) (n' c' : Nat) : Try.prog.built 28 [(1, .slice A n c), (2, .slice A' n' c')] = some (dcl (ctab [] 0) (.slice A n c) (.slice A' n' c')).toArray := by kernel_rfl
set_option maxHeartbeats 8000000 in
set_option maxRecDepth 1000000 in
theorem begun11_any (w : World) : Calls Try.prog 7 #[] w fun e w' => e = .returned (.bool true) ∧ Below w.heap.size w w' := by
 obtain ⟨D, hD⟩ : ∃ D, D = oneD := ⟨_, rfl⟩
 have HD := qH hD
 have HM := qH (show MayD D by rw [hD]; exact oneD_may)
 have HMB := qH (mayDB_yes HM.out)
 have HTO := qH (show toG D 0 [97] = 0 by rw [hD]; exact oneD_to)
 have HRN := qH (show runG D [] = true by rw [hD]; exact oneD_run)
 obtain ⟨F, hF⟩ : ∃ F, F = flipG D := ⟨_, rfl⟩
 have HF := qH hF
 have HRF := qH (show runG F [] = false by rw [hF, hD, oneD_flip]; exact oneD_runF)
 have HCG := qH (show clsG D = 1 by rw [hD]; exact oneD_cG)
 have HRG := qH (show (rchG D).length = 1 by rw [hD]; exact oneD_rG)
 have HLG := qH (show (lvgG D).length = 1 by rw [hD]; exact oneD_lG)
 have HNL := qH (show D.next = [[0]] ∧ D.ends = [true] ∧ D.cl = ctab [] 0 by rw [hD]; exact ⟨rfl, rfl, rfl⟩)
 obtain ⟨d0, hd0⟩ : ∃ d0, d0 = dcl (ctab [] 0) (.slice none 0 0) (.slice none 0 0) := ⟨_, rfl⟩
 have HDL := qH (show d0.length = 258 by rw [hd0]; exact dcl_len (ctab_length _ _))
 obtain ⟨id, hid, hdz⟩ := Option.map_eq_some_iff.1 inf_dfa
 rw [← hd0] at hdz
 have HDZ := qH hdz
 obtain ⟨i1, hi1, hy0, hy1, hy2⟩ := infoP inf_int
 obtain ⟨i2, hi2, hb0, hb1, hb2⟩ := infoP inf_bool
 obtain ⟨il, hil, hl0, hl1, hl2⟩ := infoP inf_sl
 clear hD hd0 hdz hF
 go_enter Try.func7, Try.ntmps7
 go_wp2_with (first
  | ((with_reducible refine atDst 2 ?_); refine wpList_plain rfl fun K hK => wp_bldVk 41 3 (.const (.int .i64 0)) rfl i1 (.int .i64 0) Try.underlying41 hi1 hy0 hy1 rfl (.int .i64 0) rfl rfl ?_; intro w1 hk hb; have K1 := qH hk; have B1 := qH hb; clear hk hb; refine hK _ _ ?_; clear hK K; (try simp only [Act.put, qA, qB, qC]))
  | ((with_reducible refine atDst 3 ?_); refine wpList_plain rfl fun K hK => wp_bldVk 25 41 (.tmp 2) rfl il (.slice none 0 0) Try.underlying25 hil hl0 hl1 rfl (.slice (some ⟨w.heap.size, 0, none⟩) 1 1) rfl rfl ?_; intro w2 hk hb; have K2 := qH hk; have J1 := qH (K1.out.below hb K1.out.lt); have B2 := qH (B1.out.trans (hb.mono B1.out.size)); clear hk hb; refine hK _ _ ?_; clear hK K; (try simp only [Act.put, qA, qB, qC]))
  | ((with_reducible refine atDst 4 ?_); refine wpList_plain rfl fun K hK => wp_bldVk 26 4 (.const (.bool true)) rfl i2 (.bool false) Try.underlying26 hi2 hb0 hb1 rfl (.bool true) rfl rfl ?_; intro w3 hk hb; have K3 := qH hk; have J2 := qH (K2.out.below hb K2.out.lt); have I1 := qH (J1.out.below hb J1.out.lt); have B3 := qH (B2.out.trans (hb.mono B2.out.size)); clear hk hb; refine hK _ _ ?_; clear hK K; obtain ⟨d1, hd1⟩ : ∃ d1, d1 = dcl (ctab [] 0) (.slice (some ⟨w1.heap.size, 0, none⟩) 1 1) (.slice (some ⟨w2.heap.size, 0, none⟩) 1 1) := ⟨_, rfl⟩; have HD1 := qH hd1; have HBL := qH (show Try.prog.built 28 [(1, .slice (some ⟨w1.heap.size, 0, none⟩) 1 1), (2, .slice (some ⟨w2.heap.size, 0, none⟩) 1 1)] = some d1.toArray by (rw [hd1]; exact built_nx _ _ _ _ _ _)); have HDLa := qH (show d1.length = 258 by (rw [hd1]; exact dcl_len (ctab_length _ _))); have HDOa := qH (show d1.all (·.oneCell') = true by (rw [hd1]; exact dcl_one)); have HDSa := qH (show (Try.prog.info? 28).map (·.size) = some d1.length by (rw [hd1]; exact size_dfa (ctab_length _ _))); clear hd1; (try simp only [Act.put, qA, qB, qC]))
  | ((with_reducible refine atDst 5 ?_); refine wpList_bld rfl 28 _ rfl d1 HBL.out ?_; (try simp only [Act.put, qA, qB, qC]))
  | ((with_reducible refine atDst 1 ?_); refine wpList_new rfl 28 rfl id _ d0 hid HDZ.out rfl (Below.refl w3.heap.size w3) (Nat.le_refl _) ?_; intro w4 hk hb hs _; have K4 := qH hk; have B34 := qH hb; clear hk hb hs; (try simp only [Act.put, qA, qB, qC]))
  | ((with_reducible refine atStore 28 1 5 ?_); refine wpList_stBlk rfl 28 _ _ rfl w3.heap.size d1 rfl rfl 28 _ K4.out HDSa.out (by rw [HDL.out, HDLa.out]) HDOa.out B34.out (Nat.le_refl _) ?_; intro w5 hk hb hs ho; have K5 := qH hk; have B35 := qH hb; clear hk hb hs ho; (try simp only [Act.put, qA, qB, qC])))
 have V5 := qH (show DfaV w5 d1 D from ⟨by rw [HNL.out.2.2]; exact ctab_length _ _, .slice (some ⟨w1.heap.size, 0, none⟩) 1 1, .slice (some ⟨w2.heap.size, 0, none⟩) 1 1, fun _ => .slice (some ⟨w.heap.size, 0, none⟩) 1 1, by rw [HNL.out.2.2]; exact HD1.out, by
  rw [HNL.out.1]
  exact Row.of_own ((J2.out.below B35.out J2.out.lt).own (Nat.zero_le _) one_max), fun i r hr => by
  rw [HNL.out.1] at hr
  have h := List.mem_of_getElem? hr
  rw [List.mem_singleton.1 h]
  exact Row.of_own ((I1.out.below B35.out I1.out.lt).own (Nat.zero_le _) one_max), by
  rw [HNL.out.2.1]
  exact Row.of_own ((K3.out.below B35.out K3.out.lt).own (Nat.zero_le _) one_max)⟩)
 have B5 := qH (B3.out.trans (B35.out.mono B3.out.size))
 have HS35 := qH (show w3.heap.size ≤ w5.heap.size from B35.out.size)
 refine mc_start (fun V => Below w5.heap.size w5 V) (fun _ => True) 43 (by kernel_rfl) (fun wd hwd => ?_)
 have hX : Below w5.heap.size w5 wd := by rw [hwd]; exact (Below.refl _ _).drew
 have hY : True := trivial
 clear hwd
 refine mc_take (i := 0) (oi := ⟨some 6, _, _, _, _, _⟩) (v := .agg d1.toArray) rfl (by kernel_rfl) (by kernel_rfl) (by kernel_rfl) (fun _ _ _ h => h) rfl hX (fun V hT => ld_blk 28 (.tmp 1) rfl w3.heap.size rfl 28 d1 _ K5.out K5.out.lt Try.underlying28 rfl HDSa.out V hT) ?_; simp only [Act.put, qA, qB, qC]
 refine mc_actB (i := 1) (o := ⟨some 7, _, _, _, _, _⟩) rfl (by kernel_rfl) rfl (fun K hK => ?_)
 have X1 := qH hX
 go_wp2_with fail
 refine (mMay_any D d1 wd (V5.out.below hX)).mono ?_
 rintro e v1 ⟨rfl, hb⟩
 rw [HMB.out]
 have hX2 := X1.out.trans (hb.mono X1.out.size)
 clear hb
 go_wp2_with fail
 refine hK _ _ hX2 trivial ?_
 clear hK K hX
 have hX := hX2
 clear hX2
 (try simp only [Act.put, qA, qB, qC])
 refine mc_take (i := 2) (oi := ⟨some 8, _, _, _, _, _⟩) (v := ?_) rfl (by kernel_rfl) (by kernel_rfl) (by kernel_rfl) (fun _ _ _ h => h) rfl hX ?_ ?_; rotate_left; (intro W hW; go_simp; try with_reducible rfl); simp only [Act.put, qA, qB, qC]
 refine mc_take (i := 3) (oi := ⟨some 9, _, _, _, _, _⟩) (v := .agg d1.toArray) rfl (by kernel_rfl) (by kernel_rfl) (by kernel_rfl) (fun _ _ _ h => h) rfl hX (fun V hT => ld_blk 28 (.tmp 1) rfl w3.heap.size rfl 28 d1 _ K5.out K5.out.lt Try.underlying28 rfl HDSa.out V hT) ?_; simp only [Act.put, qA, qB, qC]
 refine mc_actB (i := 4) (o := ⟨some 10, _, _, _, _, _⟩) rfl (by kernel_rfl) rfl (fun K hK => ?_)
 have X2 := qH hX
 go_wp2_with fail
 refine (mClasses_any D d1 v1 (V5.out.below hX)).mono ?_
 rintro e v2 ⟨rfl, hb⟩
 rw [HCG.out]
 have hX2 := X2.out.trans (hb.mono X2.out.size)
 clear hb
 go_wp2_with fail
 refine hK _ _ hX2 trivial ?_
 clear hK K hX
 have hX := hX2
 clear hX2
 (try simp only [Act.put, qA, qB, qC])
 refine mc_take (i := 5) (oi := ⟨some 11, _, _, _, _, _⟩) (v := ?_) rfl (by kernel_rfl) (by kernel_rfl) (by kernel_rfl) (fun _ _ _ h => h) rfl hX ?_ ?_; rotate_left; (intro W hW; go_simp; try with_reducible rfl); simp only [Act.put, qA, qB, qC]
 refine mc_take (i := 6) (oi := ⟨some 12, _, _, _, _, _⟩) (v := ?_) rfl (by kernel_rfl) (by kernel_rfl) (by kernel_rfl) (fun _ _ _ h => h) rfl hX ?_ ?_; rotate_left; (intro W hW; go_simp; try with_reducible rfl); simp only [Act.put, qA, qB, qC]
 refine mc_take (i := 7) (oi := ⟨some 13, _, _, _, _, _⟩) (v := ?_) rfl (by kernel_rfl) (by kernel_rfl) (by kernel_rfl) (fun _ _ _ h => h) rfl hX ?_ ?_; rotate_left; (intro W hW; go_simp; try with_reducible rfl); simp only [Act.put, qA, qB, qC]
 refine mc_take (i := 8) (oi := ⟨some 14, _, _, _, _, _⟩) (v := .agg d1.toArray) rfl (by kernel_rfl) (by kernel_rfl) (by kernel_rfl) (fun _ _ _ h => h) rfl hX (fun V hT => ld_blk 28 (.tmp 1) rfl w3.heap.size rfl 28 d1 _ K5.out K5.out.lt Try.underlying28 rfl HDSa.out V hT) ?_; simp only [Act.put, qA, qB, qC]
 refine mc_actB (i := 9) (o := ⟨some 15, _, _, _, _, _⟩) rfl (by kernel_rfl) rfl (fun K hK => ?_)
 have X3 := qH hX
 go_wp2_with fail
 refine (mRun_any D [] d1 (.slice none 0 0) v2 (V5.out.below hX) (Row.nil _)).mono ?_
 rintro e v3 ⟨rfl, hb⟩
 rw [HRN.out]
 have hX2 := X3.out.trans (hb.mono X3.out.size)
 clear hb
 go_wp2_with fail
 refine hK _ _ hX2 trivial ?_
 clear hK K hX
 have hX := hX2
 clear hX2
 (try simp only [Act.put, qA, qB, qC])
 refine mc_take (i := 10) (oi := ⟨some 16, _, _, _, _, _⟩) (v := ?_) rfl (by kernel_rfl) (by kernel_rfl) (by kernel_rfl) (fun _ _ _ h => h) rfl hX ?_ ?_; rotate_left; (intro W hW; go_simp; try with_reducible rfl); simp only [Act.put, qA, qB, qC]
 refine mc_take (i := 11) (oi := ⟨some 17, _, _, _, _, _⟩) (v := ?_) rfl (by kernel_rfl) (by kernel_rfl) (by kernel_rfl) (fun _ _ _ h => h) rfl hX ?_ ?_; rotate_left; (intro W hW; go_simp; try with_reducible rfl); simp only [Act.put, qA, qB, qC]
 refine mc_take (i := 12) (oi := ⟨some 18, _, _, _, _, _⟩) (v := .agg d1.toArray) rfl (by kernel_rfl) (by kernel_rfl) (by kernel_rfl) (fun _ _ _ h => h) rfl hX (fun V hT => ld_blk 28 (.tmp 1) rfl w3.heap.size rfl 28 d1 _ K5.out K5.out.lt Try.underlying28 rfl HDSa.out V hT) ?_; simp only [Act.put, qA, qB, qC]
 refine mc_actB (i := 13) (o := ⟨some 19, _, _, _, _, _⟩) rfl (by kernel_rfl) rfl (fun K hK => ?_)
 have X4 := qH hX
 go_wp2_with fail
 refine (mFlip_any D d1 v3 (V5.out.below hX)).mono ?_
 rintro e v4 ⟨df, rfl, hd, hb⟩
 rw [← HF.out] at hd
 have VF := qH hd
 clear hd
 have hX2 := X4.out.trans (hb.mono X4.out.size)
 clear hb
 go_wp2_with fail
 refine hK _ _ hX2 trivial ?_
 clear hK K hX
 have hX := hX2
 clear hX2
 (try simp only [Act.put, qA, qB, qC])
 refine mc_actB (i := 14) (o := ⟨some 20, _, _, _, _, _⟩) rfl (by kernel_rfl) rfl (fun K hK => ?_)
 have X5 := qH hX
 go_wp2_with fail
 refine (mRun_any F [] df (.slice none 0 0) v4 VF.out (Row.nil _)).mono ?_
 rintro e v5 ⟨rfl, hb⟩
 rw [HRF.out]
 have hX2 := X5.out.trans (hb.mono X5.out.size)
 clear hb
 go_wp2_with fail
 refine hK _ _ hX2 trivial ?_
 clear hK K hX
 have hX := hX2
 clear hX2
 (try simp only [Act.put, qA, qB, qC])
 refine mc_take (i := 15) (oi := ⟨some 21, _, _, _, _, _⟩) (v := ?_) rfl (by kernel_rfl) (by kernel_rfl) (by kernel_rfl) (fun _ _ _ h => h) rfl hX ?_ ?_; rotate_left; (intro W hW; go_simp; try with_reducible rfl); simp only [Act.put, qA, qB, qC]
 refine mc_take (i := 16) (oi := ⟨some 22, _, _, _, _, _⟩) (v := ?_) rfl (by kernel_rfl) (by kernel_rfl) (by kernel_rfl) (fun _ _ _ h => h) rfl hX ?_ ?_; rotate_left; (intro W hW; go_simp; try with_reducible rfl); simp only [Act.put, qA, qB, qC]
 refine mc_take (i := 17) (oi := ⟨some 23, _, _, _, _, _⟩) (v := ?_) rfl (by kernel_rfl) (by kernel_rfl) (by kernel_rfl) (fun _ _ _ h => h) rfl hX ?_ ?_; rotate_left; (intro W hW; go_simp; try with_reducible rfl); simp only [Act.put, qA, qB, qC]
 refine mc_take (i := 18) (oi := ⟨some 24, _, _, _, _, _⟩) (v := .agg d1.toArray) rfl (by kernel_rfl) (by kernel_rfl) (by kernel_rfl) (fun _ _ _ h => h) rfl hX (fun V hT => ld_blk 28 (.tmp 1) rfl w3.heap.size rfl 28 d1 _ K5.out K5.out.lt Try.underlying28 rfl HDSa.out V hT) ?_; simp only [Act.put, qA, qB, qC]
 refine mc_actB (i := 19) (o := ⟨some 25, _, _, _, _, _⟩) rfl (by kernel_rfl) rfl (fun K hK => ?_)
 go_wp2_with fail
 have X5b := qH hX
 have X6 := qH (X5b.out.alloc X5b.out.size (.cells #[.int .u8 97] 5))
 refine hK _ _ X6.out trivial ?_
 clear hK K hX
 have hX := X6.out
 (try simp only [Act.put, qA, qB, qC])
 refine mc_actB (i := 20) (o := ⟨some 26, _, _, _, _, _⟩) rfl (by kernel_rfl) rfl (fun K hK => ?_)
 have kc := fun (w : World) (C : Array Value) (n c : Nat) => Lib.run_convert_bytes_const (P := Try.prog) w 22 5 C n c Try.underlying22 Try.underlying5
 go_wp2_with fail
 obtain ⟨w7, hw7⟩ : ∃ w7, w7 = v5.alloc (.cells #[.int .u8 97] 5 (1, 2)) := ⟨_, rfl⟩
 have R7 := qH (show Row w7 (.slice (some ⟨v5.heap.size, 0, none⟩) 1 1) (bvs [97]) from by rw [hw7]; exact row_mark9 (heap_alloc_new v5 _) rfl (by decide))
 have X7 := qH (show Below w5.heap.size w5 w7 by rw [hw7]; exact X5b.out.alloc X5b.out.size _)
 rw [← hw7]
 clear hw7 kc
 refine hK _ _ X7.out trivial ?_
 clear hK K hX
 have hX := X7.out
 (try simp only [Act.put, qA, qB, qC])
 refine mc_actB (i := 21) (o := ⟨some 27, _, _, _, _, _⟩) rfl (by kernel_rfl) rfl (fun K hK => ?_)
 have Y7 := qH hX
 go_wp2_with fail
 refine (mTo_any D 0 [97] d1 _ w7 (V5.out.below hX) R7.out).mono ?_
 rintro e v7 ⟨rfl, hb⟩
 rw [HTO.out]
 have hX2 := Y7.out.trans (hb.mono Y7.out.size)
 clear hb
 go_wp2_with fail
 refine hK _ _ hX2 trivial ?_
 clear hK K hX
 have hX := hX2
 clear hX2
 (try simp only [Act.put, qA, qB, qC])
 refine mc_take (i := 22) (oi := ⟨some 28, _, _, _, _, _⟩) (v := ?_) rfl (by kernel_rfl) (by kernel_rfl) (by kernel_rfl) (fun _ _ _ h => h) rfl hX ?_ ?_; rotate_left; (intro W hW; go_simp; try with_reducible rfl); simp only [Act.put, qA, qB, qC]
 refine mc_take (i := 23) (oi := ⟨some 29, _, _, _, _, _⟩) (v := ?_) rfl (by kernel_rfl) (by kernel_rfl) (by kernel_rfl) (fun _ _ _ h => h) rfl hX ?_ ?_; rotate_left; (intro W hW; go_simp; try with_reducible rfl); simp only [Act.put, qA, qB, qC]
 refine mc_take (i := 24) (oi := ⟨some 30, _, _, _, _, _⟩) (v := ?_) rfl (by kernel_rfl) (by kernel_rfl) (by kernel_rfl) (fun _ _ _ h => h) rfl hX ?_ ?_; rotate_left; (intro W hW; go_simp; try with_reducible rfl); simp only [Act.put, qA, qB, qC]
 refine mc_take (i := 25) (oi := ⟨some 31, _, _, _, _, _⟩) (v := .agg d1.toArray) rfl (by kernel_rfl) (by kernel_rfl) (by kernel_rfl) (fun _ _ _ h => h) rfl hX (fun V hT => ld_blk 28 (.tmp 1) rfl w3.heap.size rfl 28 d1 _ K5.out K5.out.lt Try.underlying28 rfl HDSa.out V hT) ?_; simp only [Act.put, qA, qB, qC]
 refine mc_actB (i := 26) (o := ⟨some 32, _, _, _, _, _⟩) rfl (by kernel_rfl) rfl (fun K hK => ?_)
 have Y8 := qH hX
 go_wp2_with fail
 refine (mcReach_any D d1 v7 (V5.out.below hX)).mono ?_
 rintro e v8 ⟨zr, rfl, hr, hb⟩
 obtain ⟨Ar, cr, rfl, _⟩ := hr
 rw [bools_length, HRG.out]
 have hX2 := Y8.out.trans (hb.mono Y8.out.size)
 clear hb
 go_wp2_with fail
 refine hK _ _ hX2 trivial ?_
 clear hK K hX
 have hX := hX2
 clear hX2
 (try simp only [Act.put, qA, qB, qC])
 refine mc_take (i := 27) (oi := ⟨some 33, _, _, _, _, _⟩) (v := ?_) rfl (by kernel_rfl) (by kernel_rfl) (by kernel_rfl) (fun _ _ _ h => h) rfl hX ?_ ?_; rotate_left; (intro W hW; go_simp; try with_reducible rfl); simp only [Act.put, qA, qB, qC]
 refine mc_take (i := 28) (oi := ⟨some 34, _, _, _, _, _⟩) (v := ?_) rfl (by kernel_rfl) (by kernel_rfl) (by kernel_rfl) (fun _ _ _ h => h) rfl hX ?_ ?_; rotate_left; (intro W hW; go_simp; try with_reducible rfl); simp only [Act.put, qA, qB, qC]
 refine mc_take (i := 29) (oi := ⟨some 35, _, _, _, _, _⟩) (v := ?_) rfl (by kernel_rfl) (by kernel_rfl) (by kernel_rfl) (fun _ _ _ h => h) rfl hX ?_ ?_; rotate_left; (intro W hW; go_simp; try with_reducible rfl); simp only [Act.put, qA, qB, qC]
 refine mc_take (i := 30) (oi := ⟨some 36, _, _, _, _, _⟩) (v := ?_) rfl (by kernel_rfl) (by kernel_rfl) (by kernel_rfl) (fun _ _ _ h => h) rfl hX ?_ ?_; rotate_left; (intro W hW; go_simp; try with_reducible rfl); simp only [Act.put, qA, qB, qC]
 refine mc_take (i := 31) (oi := ⟨some 37, _, _, _, _, _⟩) (v := .agg d1.toArray) rfl (by kernel_rfl) (by kernel_rfl) (by kernel_rfl) (fun _ _ _ h => h) rfl hX (fun V hT => ld_blk 28 (.tmp 1) rfl w3.heap.size rfl 28 d1 _ K5.out K5.out.lt Try.underlying28 rfl HDSa.out V hT) ?_; simp only [Act.put, qA, qB, qC]
 refine mc_actB (i := 32) (o := ⟨some 38, _, _, _, _, _⟩) rfl (by kernel_rfl) rfl (fun K hK => ?_)
 have Y9 := qH hX
 go_wp2_with fail
 refine (mcLive_any D d1 v8 (V5.out.below hX)).mono ?_
 rintro e v9 ⟨zl, rfl, hr, hb⟩
 obtain ⟨Al, cl, rfl, _⟩ := hr
 rw [bools_length, HLG.out]
 have hX2 := Y9.out.trans (hb.mono Y9.out.size)
 clear hb
 go_wp2_with fail
 refine hK _ _ hX2 trivial ?_
 clear hK K hX
 have hX := hX2
 clear hX2
 (try simp only [Act.put, qA, qB, qC])
 refine mc_take (i := 33) (oi := ⟨some 39, _, _, _, _, _⟩) (v := ?_) rfl (by kernel_rfl) (by kernel_rfl) (by kernel_rfl) (fun _ _ _ h => h) rfl hX ?_ ?_; rotate_left; (intro W hW; go_simp; try with_reducible rfl); simp only [Act.put, qA, qB, qC]
 refine mc_take (i := 34) (oi := ⟨some 40, _, _, _, _, _⟩) (v := ?_) rfl (by kernel_rfl) (by kernel_rfl) (by kernel_rfl) (fun _ _ _ h => h) rfl hX ?_ ?_; rotate_left; (intro W hW; go_simp; try with_reducible rfl); simp only [Act.put, qA, qB, qC]
 refine mc_take (i := 35) (oi := ⟨some 41, _, _, _, _, _⟩) (v := ?_) rfl (by kernel_rfl) (by kernel_rfl) (by kernel_rfl) (fun _ _ _ h => h) rfl hX ?_ ?_; rotate_left; (intro W hW; go_simp; try with_reducible rfl); simp only [Act.put, qA, qB, qC]
 refine mc_take (i := 36) (oi := ⟨some 42, _, _, _, _, _⟩) (v := ?_) rfl (by kernel_rfl) (by kernel_rfl) (by kernel_rfl) (fun _ _ _ h => h) rfl hX ?_ ?_; rotate_left; (intro W hW; go_simp; try with_reducible rfl); simp only [Act.put, qA, qB, qC]
 refine mc_take (i := 37) (oi := ⟨some 43, _, _, _, _, _⟩) (v := .agg d1.toArray) rfl (by kernel_rfl) (by kernel_rfl) (by kernel_rfl) (fun _ _ _ h => h) rfl hX (fun V hT => ld_blk 28 (.tmp 1) rfl w3.heap.size rfl 28 d1 _ K5.out K5.out.lt Try.underlying28 rfl HDSa.out V hT) ?_; simp only [Act.put, qA, qB, qC]
 refine mc_take (i := 38) (oi := ⟨some 44, _, _, _, _, _⟩) (v := .agg d1.toArray) rfl (by kernel_rfl) (by kernel_rfl) (by kernel_rfl) (fun _ _ _ h => h) rfl hX (fun V hT => ld_blk 28 (.tmp 1) rfl w3.heap.size rfl 28 d1 _ K5.out K5.out.lt Try.underlying28 rfl HDSa.out V hT) ?_; simp only [Act.put, qA, qB, qC]
 refine mc_actB (i := 39) (o := ⟨some 45, _, _, _, _, _⟩) rfl (by kernel_rfl) rfl (fun K hK => ?_)
 have Y10 := qH hX
 go_wp2_with fail
 refine (mCopy_any D d1 v9 (V5.out.below hX) HM.out.pos (by rw [HM.out.ends]; exact HM.out.pos) HM.out.few (by rw [HM.out.ends]; exact HM.out.few) (fun r hr => by rw [HM.out.rows r hr]; exact Nat.le_trans (clsA_le _) (by decide))).mono ?_
 rintro e v10 ⟨dc, rfl, hd, hb⟩
 have VC := qH hd.dfa
 clear hd
 have hX2 := Y10.out.trans (hb.mono Y10.out.size)
 clear hb
 go_wp2_with fail
 refine hK _ _ hX2 trivial ?_
 clear hK K hX
 have hX := hX2
 clear hX2
 (try simp only [Act.put, qA, qB, qC])
 refine mc_actB (i := 40) (o := ⟨some 46, _, _, _, _, _⟩) rfl (by kernel_rfl) rfl (fun K hK => ?_)
 have Y11 := qH hX
 go_wp2_with fail
 refine (mSame_any D D d1 dc v10 (V5.out.below hX) VC.out HM.out.few (by rw [HM.out.ends]; exact HM.out.few) (fun r hr => by rw [HM.out.rows r hr]; exact Nat.le_trans (clsA_le _) (by decide))).mono ?_
 rintro e v11 ⟨rfl, hb⟩
 rw [decide_eq_true rfl]
 have hX2 := Y11.out.trans (hb.mono Y11.out.size)
 clear hb
 go_wp2_with fail
 refine hK _ _ hX2 trivial ?_
 clear hK K hX
 have hX := hX2
 clear hX2
 (try simp only [Act.put, qA, qB, qC])
 refine mc_take (i := 41) (oi := ⟨some 47, _, _, _, _, _⟩) (v := ?_) rfl (by kernel_rfl) (by kernel_rfl) (by kernel_rfl) (fun _ _ _ h => h) rfl hX ?_ ?_; rotate_left; (intro W hW; go_simp; try with_reducible rfl); simp only [Act.put, qA, qB, qC]
 refine mc_take (i := 42) (oi := ⟨some 0, _, _, _, _, _⟩) (v := ?_) rfl (by kernel_rfl) (by kernel_rfl) (by kernel_rfl) (fun _ _ _ h => h) rfl hX ?_ ?_; rotate_left; (intro W hW; go_simp; try with_reducible rfl); simp only [Act.put, qA, qB, qC]
 refine wpAnyC_done (by kernel_rfl) ?_ _
 have XE := qH hX
 clear hX hY
 go_wp2_with fail
 go_ret
 exact ⟨rfl, B5.out.trans (XE.out.mono B5.out.size)⟩
theorem take_eqS {A B : List Bool} {i : Nat} (h : A.take i = B.take i) {a : Bool} (ha : A[i]? = some a) (hb : B[i]? = some a) : A.take (i + 1) = B.take (i + 1) := by
 rw [take_nextS ha, take_nextS hb, h]
theorem ex_neB {ev : Operand → Value} {o : Oper} (x y : Operand) {r : TypeId} (ho : o.op = .binOp .neq 4 x y r) {p q : Bool} (hx : ev x = .bool p) (hy : ev y = .bool q) {b : Bool} (hb : (p != q) = b) (W : World) : (execOp ev o).run Try.prog W = .ok (.value (.bool b)) W := by
 simp only [execOp, ho, hx, hy]
 subst hb
 cases p <;> cases q <;> go_simp
theorem ld_bool9 {ev : Operand → Value} {o : Oper} (x : Operand) (ho : o.op = .load 4 x) {p : Addr} (hx : ev x = .pointer (some p)) {k : Bool} {W : World} (hc : W.cell? p = some (.bool k)) : (execOp ev o).run Try.prog W = .ok (.value (.bool k)) W := by
 simp only [execOp, ho, hx]
 go_simp
set_option maxHeartbeats 8000000 in
set_option maxRecDepth 1000000 in
theorem sameBools_any (A B : List Bool) (V1 V2 : Value) (w : World) (h1 : Row w V1 (bools A)) (h2 : Row w V2 (bools B)) (hl : A.length ≤ 2000) :
  Calls Try.prog 13 #[V1, V2] w fun e w' => e = .returned (.bool (decide (A = B))) ∧ Below w.heap.size w w' := by
 have R1 := qH h1
 have R2 := qH h2
 obtain ⟨A1, c1, rfl, _⟩ := h1
 obtain ⟨A2, c2, rfl, _⟩ := h2
 rw [bools_length] at R1
 rw [bools_length] at R2
 rw [bools_length, bools_length]
 obtain ⟨n, hn⟩ : ∃ n, n = A.length := ⟨_, rfl⟩
 obtain ⟨m, hm⟩ : ∃ m, m = B.length := ⟨_, rfl⟩
 have HN := qH hn
 have HM := qH hm
 have HNF := qH (show n ≤ 2000 by rw [hn]; exact hl)
 rw [← hn] at R1 ⊢
 rw [← hm] at R2 ⊢
 clear hn hm hl
 obtain ⟨bz, hbz⟩ : ∃ b, decide (A = B) = b := ⟨_, rfl⟩
 have HBZ := qH hbz
 rw [hbz]
 clear hbz
 go_enter Try.func13, Try.ntmps13
 by_cases hnm : n = m
 ·obtain rfl := hnm
  have x0 : ((n : Int) != (n : Int)) = false := by simp
  go_wp2_with fail
  go_loopw [5] (fun v wl => ∃ i : Nat, i ≤ n ∧ v = .int .i64 (i : Int) ∧ A.take i = B.take i ∧ Below w.heap.size w wl) (fun v _ => n - (intOf v).toNat)
  case atStart => exact ⟨0, Nat.zero_le _, rfl, by rw [List.take_zero, List.take_zero], Below.refl _ _⟩
  obtain ⟨i, hi, rfl, ht, hb⟩ := hrel
  have HI := qH hi
  have HT := qH ht
  have HB := qH hb
  clear hi ht hb
  by_cases hin : i < n
  ·have x1 : (i : Int) < (n : Int) := Int.ofNat_lt.2 hin
   have HIN := qH hin
   have HMI := qH (sub_next hin)
   have e3 := wrap_one i (lt_bigN hin HNF.out)
   have e4 := wrap_one' i (lt_bigN hin HNF.out)
   obtain ⟨a, ha⟩ : ∃ a, A[i]? = some a := ⟨_, List.getElem?_eq_getElem (by rw [← HN.out]; exact hin)⟩
   obtain ⟨b, hb⟩ : ∃ b, B[i]? = some b := ⟨_, List.getElem?_eq_getElem (by rw [← HM.out]; exact hin)⟩
   have HA := qH ha
   have HBI := qH hb
   obtain ⟨b1, o1, rfl, hb1, hc1⟩ := (R1.out.below HB.out).at_ (by rw [bools_length, ← HN.out]; exact Nat.lt_of_le_of_lt (Nat.zero_le _) hin)
   obtain ⟨b2, o2, rfl, hb2, hc2⟩ := (R2.out.below HB.out).at_ (by rw [bools_length, ← HM.out]; exact Nat.lt_of_le_of_lt (Nat.zero_le _) hin)
   have C1 := qH (show wr.cell? ⟨b1, o1 + i, none⟩ = some (.bool a) from hc1 i _ (by rw [bools, List.getElem?_map, ha]; rfl))
   have C2 := qH (show wr.cell? ⟨b2, o2 + i, none⟩ = some (.bool b) from hc2 i _ (by rw [bools, List.getElem?_map, hb]; rfl))
   have L1 := qH hb1
   have L2 := qH hb2
   obtain ⟨c, hc⟩ : ∃ c, (a != b) = c := ⟨_, rfl⟩
   have HC := qH hc
   obtain ⟨wi, hwi⟩ : ∃ v : World, v = wr := ⟨_, rfl⟩
   subst hwi
   clear hin ha hb hb1 hc1 hb2 hc2 hc
   go_wp2_with fail
   refine mc_start (fun V => Below wi.heap.size wi V) (fun _ => True) 9 (by kernel_rfl) (fun wd hwd => ?_)
   have hX : Below wi.heap.size wi wd := by rw [hwd]; exact (Below.refl _ _).drew
   clear hwd
   refine mc_take (i := 0) (oi := ⟨some 17, _, _, _, _, _⟩) (v := ?_) rfl (by kernel_rfl) (by kernel_rfl) (by kernel_rfl) (fun _ _ _ h => h) rfl hX ?_ ?_; rotate_left; (intro W hW; go_simp; try with_reducible rfl); simp only [Act.put, qA, qB, qC]
   refine mc_take (i := 1) (oi := ⟨some 18, _, _, _, _, _⟩) (v := ?_) rfl (by kernel_rfl) (by kernel_rfl) (by kernel_rfl) (fun _ _ _ h => h) rfl hX ?_ ?_; rotate_left; (intro W hW; go_simp; try with_reducible rfl); simp only [Act.put, qA, qB, qC]
   refine mc_take (i := 2) (oi := ⟨some 19, _, _, _, _, _⟩) (v := ?_) rfl (by kernel_rfl) (by kernel_rfl) (by kernel_rfl) (fun _ _ _ h => h) rfl hX ?_ ?_; rotate_left; (intro W hW; go_simp; try with_reducible rfl); simp only [Act.put, qA, qB, qC]
   refine mc_take (i := 3) (oi := ⟨some 20, _, _, _, _, _⟩) (v := .bool a) rfl (by kernel_rfl) (by kernel_rfl) (by kernel_rfl) (fun _ _ _ h => h) rfl hX (fun V hV => ld_bool9 (.tmp 19) rfl rfl ((hV.cell (p := ⟨b1, o1 + i, none⟩) L1.out).trans C1.out)) ?_; simp only [Act.put, qA, qB, qC]
   refine mc_take (i := 4) (oi := ⟨some 21, _, _, _, _, _⟩) (v := ?_) rfl (by kernel_rfl) (by kernel_rfl) (by kernel_rfl) (fun _ _ _ h => h) rfl hX ?_ ?_; rotate_left; (intro W hW; go_simp; try with_reducible rfl); simp only [Act.put, qA, qB, qC]
   refine mc_take (i := 5) (oi := ⟨some 22, _, _, _, _, _⟩) (v := ?_) rfl (by kernel_rfl) (by kernel_rfl) (by kernel_rfl) (fun _ _ _ h => h) rfl hX ?_ ?_; rotate_left; (intro W hW; go_simp; try with_reducible rfl); simp only [Act.put, qA, qB, qC]
   refine mc_take (i := 6) (oi := ⟨some 23, _, _, _, _, _⟩) (v := ?_) rfl (by kernel_rfl) (by kernel_rfl) (by kernel_rfl) (fun _ _ _ h => h) rfl hX ?_ ?_; rotate_left; (intro W hW; go_simp; try with_reducible rfl); simp only [Act.put, qA, qB, qC]
   refine mc_take (i := 7) (oi := ⟨some 24, _, _, _, _, _⟩) (v := .bool b) rfl (by kernel_rfl) (by kernel_rfl) (by kernel_rfl) (fun _ _ _ h => h) rfl hX (fun V hV => ld_bool9 (.tmp 23) rfl rfl ((hV.cell (p := ⟨b2, o2 + i, none⟩) L2.out).trans C2.out)) ?_; simp only [Act.put, qA, qB, qC]
   refine mc_take (i := 8) (oi := ⟨some 25, _, _, _, _, _⟩) (v := .bool c) rfl (by kernel_rfl) (by kernel_rfl) (by kernel_rfl) (fun _ _ _ h => h) rfl hX (fun V _ => ex_neB (.tmp 20) (.tmp 24) rfl rfl rfl HC.out V) ?_; simp only [Act.put, qA, qB, qC]
   refine wpAnyC_done (by kernel_rfl) ?_ _
   have BE := qH (HB.out.trans (hX.mono HB.out.size))
   clear hX
   cases c with
   | true =>
    have HF := qH (show bz = false by
     rw [← HBZ.out]
     refine decide_eq_false fun e => ?_
     have h1 := HA.out
     rw [e, HBI.out] at h1
     have h2 := HC.out
     rw [Option.some.inj h1] at h2
     simp at h2)
    go_wp2_with fail
    go_ret
    rw [HF.out]
    exact ⟨rfl, BE.out⟩
   | false =>
    have HE := qH (show a = b by
     have h2 := HC.out
     revert h2
     cases a <;> cases b <;> decide)
    go_wp2_with fail
    exact ⟨⟨i + 1, HIN.out, by congr 1, take_eqS HT.out HA.out (by rw [HE.out]; exact HBI.out), BE.out⟩, by simpa [intOf] using HMI.out⟩
  ·obtain rfl : i = n := Nat.le_antisymm HI.out (Nat.le_of_not_lt hin)
   have x1 : ¬ ((i : Int) < (i : Int)) := Int.lt_irrefl _
   have HF := qH (show bz = true by
    rw [← HBZ.out]
    have h1 := HT.out
    rw [HN.out, List.take_length, ← HN.out, HM.out, List.take_length] at h1
    exact decide_eq_true h1)
   clear hin
   go_wp2_with fail
   go_ret
   rw [HF.out]
   exact ⟨rfl, HB.out⟩
 ·have x0 : ((n : Int) != (m : Int)) = true := by rw [bne_iff_ne]; exact fun e => hnm (Int.ofNat.inj e)
  have HF := qH (show bz = false by
   rw [← HBZ.out]
   exact decide_eq_false fun e => hnm (by rw [HN.out, HM.out, e]))
  clear hnm
  go_wp2_with fail
  go_ret
  rw [HF.out]
  exact ⟨rfl, Below.refl _ _⟩
theorem flipG_of {D : Dm} (h : MayD D) : flipG D = flipD D := by unfold flipG; rw [if_pos (mayDB_yes h)]
theorem clsG_of {D : Dm} (h : MayD D) : clsG D = clsA D.cl := by unfold clsG; rw [if_pos (mayDB_yes h)]
theorem rchG_of {D : Dm} (h : MayD D) : rchG D = (List.range D.next.length).map (reaM D) := by unfold rchG; rw [if_pos (mayDB_yes h)]
theorem lvgG_of {D : Dm} (h : MayD D) : lvgG D = (List.range D.next.length).map (livM D) := by unfold lvgG; rw [if_pos (mayDB_yes h)]
theorem rchG_len {D : Dm} (h : MayD D) : (rchG D).length = D.next.length := by rw [rchG_of h, List.length_map, List.length_range]
theorem lvgG_len {D : Dm} (h : MayD D) : (lvgG D).length = D.next.length := by rw [lvgG_of h, List.length_map, List.length_range]
theorem lvgG_at {D : Dm} (h : MayD D) {i : Nat} (hi : i < D.next.length) : (lvgG D)[i]? = some (livM D i) := by
 rw [lvgG_of h, List.getElem?_map, List.getElem?_range hi]
 rfl
theorem rchG_flip {D : Dm} (h : MayD D) : rchG (flipD D) = rchG D := by
 rw [rchG_of h, rchG_of (flipD_may h)]
 rfl
theorem clsG_flip {D : Dm} (h : MayD D) : clsG (flipD D) = clsG D := by
 rw [clsG_of h, clsG_of (flipD_may h)]
 rfl
theorem flip_not {D : Dm} (h : MayD D) : decide (flipD D = D) = false := by
 refine decide_eq_false fun e => ?_
 have h1 : D.ends.map (fun b => !b) = D.ends := congrArg Dm.ends e
 have h2 : 0 < D.ends.length := by rw [h.ends]; exact h.pos
 have h3 : (D.ends.map fun b => !b)[0]? = D.ends[0]? := by rw [h1]
 rw [List.getElem?_map, List.getElem?_eq_getElem h2, Option.map_some] at h3
 have h4 := Option.some.inj h3
 cases hb : D.ends[0] <;> rw [hb] at h4 <;> cases h4
theorem liv_base {D : Dm} {i : Nat} (h : D.ends[i]? = some true) : livM D i = true :=
 sprB_iff.2 (.base ((endI_mem _).2 ⟨i, (List.getElem?_eq_some_iff.1 h).1, rfl, h⟩))
theorem liv_or {D : Dm} (h : MayD D) {i : Nat} (hi : i < D.next.length) : livM D i = true ∨ livM (flipD D) i = true := by
 have h1 := List.getElem?_eq_getElem (show i < D.ends.length by rw [h.ends]; exact hi)
 cases hb : D.ends[i]'(by rw [h.ends]; exact hi) with
 | true => rw [hb] at h1; exact .inl (liv_base h1)
 | false =>
  refine .inr (liv_base ?_)
  show (D.ends.map fun b => !b)[i]? = some true
  rw [List.getElem?_map, h1, hb]
  rfl
end Go.Proofs.Ytbbodfpnneifgaa
