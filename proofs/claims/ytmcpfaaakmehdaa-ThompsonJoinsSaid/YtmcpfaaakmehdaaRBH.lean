/-
  Texts of this proof, put together: ThW, LxMp, LxBp. No statement is proved here.
-/
import Derived.Test.YtmcpfaaakmehdaaRBB
import Derived.Test.YtmcpfaaakmehdaaRBD
import Derived.Test.YtmcpfaaakmehdaaRBG
import Derived.Test.YtmcpfaaakmehdaaRM
import Derived.Test.YtmcpfaaakmehdaaRN
import Derived.Test.YtmcpfaaakmehdaaRR
import Derived.Test.YtmcpfaaakmehdaaRK
namespace Go.Proofs.Ytmcpfaaakmehdaa
open Go.RowKit
set_option linter.unusedSimpArgs false
set_option linter.unusedVariables false
theorem built_run {t : T} (h : mayE t = 0) (W : List UInt8) : runB (fragT t 0 []) 0 1 W = lgB t W := by
 have hok := mayE_ok h
 unfold runB
 rw [mayNB_yes (frag_may hok.1), Bool.true_and, Bool.eq_iff_iff, frag_runB hok.1 hok.2.2, lgB_iff]
theorem built_len {t : T} (h : mayE t = 0) : (fragT t 0 []).length ≤ 2 * t.nodes + (t.nodes - 1) + 2 := by
 have := szT_nodes t
 have := nodes_pos t
 rw [fragT_len]
 omega
theorem ex_eqB {ev : Operand → Value} {o : Oper} (x y : Operand) (ho : o.op = .binOp .eql 4 x y 4) {b : Bool} (hx : ev x = .bool b) (hy : ev y = .bool b) (W : World) : (execOp ev o).run Try.prog W = .ok (.value (.bool true)) W := by
 simp only [execOp, ho, hx, hy]
 cases b <;> go_simp
theorem ex_mul2 {ev : Operand → Value} {o : Oper} (x : Operand) (ho : o.op = .binOp .mul 3 (.const (.int .i64 2)) x 3) {n : Nat} (hx : ev x = .int .i64 (n : Int)) (hc : ev (.const (.int .i64 2)) = .int .i64 2) (hn : n ≤ 100000) (W : World) : (execOp ev o).run Try.prog W = .ok (.value (.int .i64 ((2 * n : Nat) : Int))) W := by
 have h : IntKind.i64.wrap (2 * (n : Int)) = ((2 * n : Nat) : Int) := by
  rw [show (2 : Int) * (n : Int) = ((2 * n : Nat) : Int) from by simp]
  exact IntWalk.i64_in _ (by omega)
 rw [← h]
 simp only [execOp, ho, hx, hc]
 go_simp
theorem ex_sum {ev : Operand → Value} {o : Oper} (x y : Operand) (ho : o.op = .binOp .add 3 x y 3) {n m : Nat} (hx : ev x = .int .i64 (n : Int)) (hy : ev y = .int .i64 (m : Int)) (hn : n + m ≤ 1000000) (W : World) : (execOp ev o).run Try.prog W = .ok (.value (.int .i64 ((n + m : Nat) : Int))) W := by
 have h : IntKind.i64.wrap ((n : Int) + (m : Int)) = ((n + m : Nat) : Int) := wrap_sum n m (by omega)
 rw [← h]
 simp only [execOp, ho, hx, hy]
 go_simp
theorem ex_le {ev : Operand → Value} {o : Oper} (x y : Operand) (ho : o.op = .binOp .leq 3 x y 3) {n m : Nat} (hx : ev x = .int .i64 (n : Int)) (hy : ev y = .int .i64 (m : Int)) (hn : n ≤ m) (W : World) : (execOp ev o).run Try.prog W = .ok (.value (.bool true)) W := by
 have h : decide ((n : Int) ≤ (m : Int)) = true := decide_eq_true (Int.ofNat_le.2 hn)
 simp only [execOp, ho, hx, hy]
 go_simp
set_option maxHeartbeats 8000000 in
set_option maxRecDepth 1000000 in
theorem builds_walk (V V2 : Value) (ps qs : List UInt8) (w : World) (hr : Row w V (bvs ps)) (hr2 : Row w V2 (bvs qs)) :
  Calls Try.prog 4 #[V, V2] w fun e w' => e = .returned (.bool true) ∧ Below w.heap.size w w' := by
 have R := qH hr
 have R2 := qH hr2
 obtain ⟨A, cap, rfl, _⟩ := hr
 obtain ⟨A2, cap2, rfl, _⟩ := hr2
 have hbl : (bvs ps).length = ps.length := bvs_length ps
 have hbl2 : (bvs qs).length = qs.length := bvs_length qs
 rw [hbl] at R ⊢
 rw [hbl2] at R2 ⊢
 clear hbl hbl2
 by_cases h60 : 60 < ps.length
 ·have i1 : (60 : Int) < (ps.length : Int) := by omega
  have d1 : decide ((60 : Int) < (ps.length : Int)) = true := decide_eq_true i1
  clear h60
  go_enter Try.func4, Try.ntmps4
  go_wp2_with fail
  refine (begun_any w).mono ?_
  rintro e w1 ⟨rfl, hb⟩
  have B1 := qH hb
  clear hb
  go_wp2_with fail
  go_ret
  exact ⟨rfl, B1.out⟩
 have i1 : ¬ ((60 : Int) < (ps.length : Int)) := by omega
 have d1 : decide ((60 : Int) < (ps.length : Int)) = false := decide_eq_false i1
 by_cases h30 : 30 < qs.length
 ·have i2 : (30 : Int) < (qs.length : Int) := by omega
  have d2 : decide ((30 : Int) < (qs.length : Int)) = true := decide_eq_true i2
  clear h60 h30
  go_enter Try.func4, Try.ntmps4
  go_wp2_with fail
  refine (begun_any w).mono ?_
  rintro e w1 ⟨rfl, hb⟩
  have B1 := qH hb
  clear hb
  go_wp2_with fail
  go_ret
  exact ⟨rfl, B1.out⟩
 have i2 : ¬ ((30 : Int) < (qs.length : Int)) := by omega
 have d2 : decide ((30 : Int) < (qs.length : Int)) = false := decide_eq_false i2
 have HL := qH (show ps.length ≤ 60 by omega)
 have HL2 := qH (show qs.length ≤ 30 by omega)
 obtain ⟨t, ht⟩ : ∃ t, t = madeT ps := ⟨_, rfl⟩
 have HT := qH ht
 have HG := qH (show good t by rw [ht]; exact madeT_good ps)
 have HM0 := qH (show t.nodes ≤ 400 by rw [ht]; have := madeT_few ps; omega)
 have HM3 := qH (Nat.le_trans HM0.out (show 400 ≤ 274877906944 by decide))
 have HM4 := qH (Nat.le_trans HM0.out (show 400 ≤ 1099511627776 by decide))
 obtain ⟨m, hm⟩ : ∃ m, mayE t = m := ⟨_, rfl⟩
 have HMM := qH hm
 obtain ⟨i0, hi0, hz0, hz1, hz2⟩ := inf_rx'
 obtain ⟨z, hz⟩ : ∃ z, z = rxc 0 zeroS (.slice none 0 0) := ⟨_, rfl⟩
 have HZL := qH (show z.length = 6 by rw [hz]; rfl)
 have HZ0 := qH (show i0.zero = some (.agg z.toArray) by rw [hz]; exact hz0)
 obtain ⟨i2', hi2, hn0, hs2, hy2⟩ := infoP inf_nfa
 obtain ⟨zz, hzz⟩ : ∃ z : List Value, z = [.slice none 0 0, .int .i64 0, .int .i64 0] := ⟨_, rfl⟩
 have HNL := qH (show zz.length = 3 by rw [hzz]; rfl)
 have HN0 := qH (show i2'.zero = some (.agg zz.toArray) by rw [hzz]; exact hn0)
 clear hz hz0 h60 h30 ht hm hzz hn0 hs2 hy2 hz1 hz2
 go_enter Try.func4, Try.ntmps4
 go_wp2_with fail
 refine (begun_any w).mono ?_
 rintro e w1 ⟨rfl, hb⟩
 have B1 := qH hb
 clear hb
 go_wp2_with fail
 refine (made_any _ ps w1 (R.out.below B1.out) (by have := HL.out; omega)).mono ?_
 rintro e w2 ⟨rfl, hb, hp⟩
 have P2 := qH hp
 have B2 := qH (B1.out.trans (hb.mono B1.out.size))
 have S1w := qH B1.out.size
 clear hb hp
 go_wp2_with fail
 refine (pickRx_any w1.heap.size _ ps w2 P2.out).mono ?_
 rintro e w3 ⟨cs, rfl, hcs, hg⟩
 have B3 := qH (B2.out.trans ((grown_belowG hg P2.out.blk.lt).mono S1w.out))
 rw [← HT.out] at hcs
 have V3 := qH (show RxV w3.heap.size w3 cs t from RxD.mono hcs fun k hk => hk.2)
 have C6 := qH hcs.length
 have C1 := qH (show cs.all (·.oneCell') = true from List.all_eq_true.2 (RxD.one hcs))
 clear hcs hg
 go_wp2_with fail
 refine (made_any _ qs w3 (R2.out.below B3.out) (by have := HL2.out; omega)).mono ?_
 rintro e w4 ⟨rfl, hb, hp⟩
 have P4 := qH hp
 have B4 := qH hb
 clear hb hp
 go_wp2_with fail
 refine (pickWord_any w3.heap.size _ qs 0 10 (by decide) w4 P4.out).mono ?_
 rintro e w5 ⟨v6, W, rfl, hr6, hw6, hg⟩
 have G5 := qH (B4.out.trans (grown_belowG hg P4.out.blk.lt))
 have B5 := qH (B3.out.trans (G5.out.mono B3.out.size))
 have V5 := qH (RxV.mono (V3.out.stay G5.out) G5.out.size)
 have R5 := qH hr6
 have HW := qH (show W.length ≤ 200 by omega)
 clear hr6 hw6 hg P4 B4 G5 V3
 go_wp2_with (first
  | ((with_reducible refine atDst 5 ?_); refine wpList_new rfl 40 rfl i0 _ z hi0 HZ0.out rfl (Below.refl w5.heap.size w5) (Nat.le_refl _) ?_; intro w6 hk hb hs ho; have L6 := qH hk; have B6 := qH hb; clear hk hb hs ho; (try simp only [Act.put, qA, qB, qC]))
  | ((with_reducible refine atStore 40 5 22 ?_); refine wpList_stBlk rfl 40 _ _ rfl w5.heap.size cs rfl rfl 40 _ L6.out (size_rx C6.out) (by rw [HZL.out, C6.out]) C1.out B6.out (Nat.le_refl _) ?_; intro w7 hk hb hs ho; have L7 := qH hk; have B57 := qH hb; have B7 := qH (B5.out.trans (hb.mono B5.out.size)); clear hk hb hs ho; (try simp only [Act.put, qA, qB, qC]))
  | ((with_reducible refine atDst 27 ?_); refine wpList_ldBlk rfl 40 _ rfl w5.heap.size rfl 40 _ _ L7.out Try.underlying40 rfl (size_rx C6.out) ?_; (try simp only [Act.put, qA, qB, qC])))
 have V7 := qH ((V5.out.stay B57.out).mono B57.out.size)
 have R7 := qH (R5.out.below B57.out)
 refine (tBuild_any t HM4.out cs w7 V7.out).mono ?_
 rw [HMM.out]
 rintro e w8 ⟨ns, rfl, hbt, hb⟩
 have B8 := qH (B7.out.trans (hb.mono B7.out.size))
 have L8 := qH (L7.out.below hb L7.out.lt)
 have V8 := qH ((V7.out.stay hb).mono hb.size)
 have R8 := qH (R7.out.below hb)
 have HN3 := qH hbt.len
 have HN1 := qH hbt.one
 have HBT := qH hbt
 clear hbt hb
 go_wp2_with (first
  | ((with_reducible refine atDst 7 ?_); refine wpList_new rfl 24 rfl i2' _ zz hi2 HN0.out rfl (Below.refl w8.heap.size w8) (Nat.le_refl _) ?_; intro w9 hk hb hs ho; have N9 := qH hk; have B9 := qH hb; clear hk hb hs ho; (try simp only [Act.put, qA, qB, qC]))
  | ((with_reducible refine atStore 24 7 29 ?_); refine wpList_stBlk rfl 24 _ _ rfl w8.heap.size ns rfl rfl 24 _ N9.out (size_nfa HN3.out) (by rw [HNL.out, HN3.out]) HN1.out B9.out (Nat.le_refl _) ?_; intro wA hk hb hs ho; have NA := qH hk; have XA := qH hb; have LA := qH (L8.out.below hb L8.out.lt); have BA := qH (B8.out.trans (hb.mono B8.out.size)); clear hk hb hs ho; (try simp only [Act.put, qA, qB, qC]))
  | ((with_reducible refine atDst 32 ?_); refine wpList_ldBlk rfl 40 _ rfl w5.heap.size rfl 40 _ _ LA.out Try.underlying40 rfl (size_rx C6.out) ?_; (try simp only [Act.put, qA, qB, qC])))
 have VA := qH ((V8.out.stay XA.out).mono XA.out.size)
 have RA := qH (R8.out.below XA.out)
 refine (refMay5_any t HM3.out HG.out.1 cs wA VA.out).mono ?_
 rw [HMM.out]
 rintro e wB ⟨rfl, hb⟩
 have BB := qH (BA.out.trans (hb.mono BA.out.size))
 have XB := qH (XA.out.trans (hb.mono XA.out.size))
 have NB := qH (NA.out.below hb NA.out.lt)
 have LB := qH (LA.out.below hb LA.out.lt)
 have VB := qH ((VA.out.stay hb).mono hb.size)
 have RB := qH (RA.out.below hb)
 clear hb
 have mm : (m != m) = false := by simp
 by_cases h0 : m = 0
 ·have n1 : (m != 0) = false := by simp [h0]
  have HME := qH (HMM.out.trans h0)
  clear h0
  go_wp2_with ((with_reducible refine atDst 41 ?_); refine wpList_ldBlk rfl 40 _ rfl w5.heap.size rfl 40 _ _ LB.out Try.underlying40 rfl (size_rx C6.out) ?_; (try simp only [Act.put, qA, qB, qC]))
  refine (count_any _ t (Nat.le_refl _) HM4.out cs wB VB.out).mono ?_
  rintro e wC ⟨rfl, hb⟩
  have BC := qH (BB.out.trans (hb.mono BB.out.size))
  have NC := qH (NB.out.below hb NB.out.lt)
  have LC := qH (LB.out.below hb LB.out.lt)
  have VC := qH ((VB.out.stay hb).mono hb.size)
  have RC := qH (RB.out.below hb)
  have hv := ((HBT.out.1 HME.out).below XB.out).below hb
  clear hb
  obtain ⟨Af, cf, he⟩ : ∃ A c, ns = [.slice A (fragT t 0 []).length c, .int .i64 0, .int .i64 1] := by
   obtain ⟨A, c, h, _⟩ := hv.len
   exact ⟨A, c, h⟩
  have hrn := built_run HME.out W
  have hln := built_len HME.out
  have hmy := mayNB_yes (frag_may (mayE_ok HME.out).1)
  obtain ⟨F, hF⟩ : ∃ F, F = fragT t 0 [] := ⟨_, rfl⟩
  rw [← hF] at hv he hrn hln hmy
  clear hF
  have HV := qH hv
  have HE := qH he
  have HMY := qH hmy
  obtain ⟨y, hy⟩ : ∃ y, lgB t W = y := ⟨_, rfl⟩
  have HY := qH hy
  have HRN := qH (hrn.trans hy)
  have HLN := qH hln
  have HTN := qH HM0.out
  have HC0 := qH ((NC.out.cell 0).trans (show ns[0]? = some (.slice Af F.length cf) by rw [he]; rfl))
  have HKL := qH NC.out.lt
  clear hv he hrn hln hmy hy n1
  obtain ⟨k, hk⟩ : ∃ k, k = t.nodes - 1 := ⟨_, rfl⟩
  have HK := qH hk
  rw [← hk]
  clear hk
  have HS1 := qH (show 2 * t.nodes + k ≤ 1000000 by have := HTN.out; have := HK.out; omega)
  have HS2 := qH (show 2 * t.nodes + k + 2 ≤ 1000000 by have := HTN.out; have := HK.out; omega)
  have HS3 := qH (show t.nodes ≤ 100000 by have := HTN.out; omega)
  have HS4 := qH (show F.length ≤ 2 * t.nodes + k + 2 by rw [HK.out]; exact HLN.out)
  obtain ⟨wc, hwc⟩ : ∃ v : World, v = wC := ⟨_, rfl⟩
  subst hwc
  go_wp2_with fail
  refine sx_startB (B := wc.heap.size) (w0 := wc) (by kernel_rfl) (Below.refl _ _) (fun wd hwd hX => ?_)
  clear hwd
  refine sx_take (i := 0) (oi := ⟨some 43, _, _, _, _, _⟩) (v := .agg ns.toArray) rfl (by kernel_rfl) (by kernel_rfl) (by kernel_rfl) (fun _ _ _ h => h) rfl hX (ld_blk 24 _ rfl w8.heap.size rfl 24 ns _ NC.out NC.out.lt Try.underlying24 rfl (size_nfa HN3.out)) ?_; simp only [Act.put, qA, qB, qC]
  refine sx_actB (i := 1) (o := ⟨some 44, _, _, _, _, _⟩) rfl (by kernel_rfl) rfl hX (fun K hK => ?_)
  go_wp2_with fail
  refine (tMay_any F 0 1 _ wd (HV.out.below hX)).mono ?_
  rw [HMY.out]
  rintro e wE ⟨rfl, hb⟩
  go_wp2_with fail
  refine hK _ _ (hb.mono hX.size) ?_
  clear hK K
  (try simp only [Act.put, qA, qB, qC])
  replace hX := hX.trans (hb.mono hX.size)
  clear hb
  refine sx_take (i := 2) (oi := ⟨some 45, _, _, _, _, _⟩) (v := ?_) rfl (by kernel_rfl) (by kernel_rfl) (by kernel_rfl) (fun _ _ _ h => h) rfl hX ?_ ?_; rotate_left; (intro W hW; go_simp; try with_reducible rfl); simp only [Act.put, qA, qB, qC]
  refine sx_take (i := 3) (oi := ⟨some 46, _, _, _, _, _⟩) (v := .agg ns.toArray) rfl (by kernel_rfl) (by kernel_rfl) (by kernel_rfl) (fun _ _ _ h => h) rfl hX (ld_blk 24 _ rfl w8.heap.size rfl 24 ns _ NC.out NC.out.lt Try.underlying24 rfl (size_nfa HN3.out)) ?_; simp only [Act.put, qA, qB, qC]
  refine sx_take (i := 4) (oi := ⟨some 47, _, _, _, _, _⟩) (v := ?_) rfl (by kernel_rfl) (by kernel_rfl) (by kernel_rfl) (fun _ _ _ h => h) rfl hX ?_ ?_; rotate_left; (intro W hW; go_simp; try with_reducible rfl); simp only [Act.put, qA, qB, qC]
  refine sx_take (i := 6) (oi := ⟨some 49, _, _, _, _, _⟩) (v := .agg cs.toArray) rfl (by kernel_rfl) (by kernel_rfl) (by kernel_rfl) (fun _ _ _ h => h) rfl hX (ld_blk 40 _ rfl w5.heap.size rfl 40 cs _ LC.out LC.out.lt Try.underlying40 rfl (size_rx C6.out)) ?_; simp only [Act.put, qA, qB, qC]
  refine sx_take (i := 7) (oi := ⟨some 50, _, _, _, _, _⟩) (v := ?_) rfl (by kernel_rfl) (by kernel_rfl) (by kernel_rfl) (fun _ _ _ h => h) rfl hX ?_ ?_; rotate_left; (intro W hW; go_simp; try with_reducible rfl); simp only [Act.put, qA, qB, qC]
  refine sx_actB (i := 5) (o := ⟨some 48, _, _, _, _, _⟩) rfl (by kernel_rfl) rfl hX (fun K hK => ?_)
  go_wp2_with fail
  refine (tRun_any F 0 1 _ W _ wE (HV.out.below hX) (RC.out.below hX)).mono ?_
  rw [HRN.out]
  rintro e wF ⟨rfl, hb⟩
  go_wp2_with fail
  refine hK _ _ (hb.mono hX.size) ?_
  clear hK K
  (try simp only [Act.put, qA, qB, qC])
  replace hX := hX.trans (hb.mono hX.size)
  clear hb
  refine sx_actB (i := 8) (o := ⟨some 51, _, _, _, _, _⟩) rfl (by kernel_rfl) rfl hX (fun K hK => ?_)
  go_wp2_with fail
  refine (refIn_any t HM4.out W HW.out _ cs wF (RC.out.below hX) ((VC.out.stay hX).mono hX.size)).mono ?_
  rw [HY.out]
  rintro e wG ⟨rfl, hb⟩
  go_wp2_with fail
  refine hK _ _ (hb.mono hX.size) ?_
  clear hK K
  (try simp only [Act.put, qA, qB, qC])
  replace hX := hX.trans (hb.mono hX.size)
  clear hb
  refine sx_take (i := 9) (oi := ⟨some 52, _, _, _, _, _⟩) (v := .bool true) rfl (by kernel_rfl) (by kernel_rfl) (by kernel_rfl) (fun _ _ _ h => h) rfl hX (fun V _ => ex_eqB (.tmp 48) (.tmp 51) rfl rfl rfl V) ?_; simp only [Act.put, qA, qB, qC]
  refine sx_take (i := 10) (oi := ⟨some 53, _, _, _, _, _⟩) (v := ?_) rfl (by kernel_rfl) (by kernel_rfl) (by kernel_rfl) (fun _ _ _ h => h) rfl hX ?_ ?_; rotate_left; (intro W hW; go_simp; try with_reducible rfl); simp only [Act.put, qA, qB, qC]
  refine sx_take (i := 11) (oi := ⟨some 54, _, _, _, _, _⟩) (v := ?_) rfl (by kernel_rfl) (by kernel_rfl) (by kernel_rfl) (fun _ _ _ h => h) rfl hX ?_ ?_; rotate_left; (intro W hW; go_simp; try with_reducible rfl); simp only [Act.put, qA, qB, qC]
  refine sx_take (i := 12) (oi := ⟨some 55, _, _, _, _, _⟩) (v := .agg ns.toArray) rfl (by kernel_rfl) (by kernel_rfl) (by kernel_rfl) (fun _ _ _ h => h) rfl hX (ld_blk 24 _ rfl w8.heap.size rfl 24 ns _ NC.out NC.out.lt Try.underlying24 rfl (size_nfa HN3.out)) ?_; simp only [Act.put, qA, qB, qC]
  refine sx_take (i := 13) (oi := ⟨some 56, _, _, _, _, _⟩) (v := ?_) rfl (by kernel_rfl) (by kernel_rfl) (by kernel_rfl) (fun _ _ _ h => h) rfl hX ?_ ?_; rotate_left; (intro W hW; go_simp; try with_reducible rfl); simp only [Act.put, qA, qB, qC]
  refine sx_take (i := 15) (oi := ⟨some 58, _, _, _, _, _⟩) (v := .agg cs.toArray) rfl (by kernel_rfl) (by kernel_rfl) (by kernel_rfl) (fun _ _ _ h => h) rfl hX (ld_blk 40 _ rfl w5.heap.size rfl 40 cs _ LC.out LC.out.lt Try.underlying40 rfl (size_rx C6.out)) ?_; simp only [Act.put, qA, qB, qC]
  refine sx_take (i := 16) (oi := ⟨some 59, _, _, _, _, _⟩) (v := ?_) rfl (by kernel_rfl) (by kernel_rfl) (by kernel_rfl) (fun _ _ _ h => h) rfl hX ?_ ?_; rotate_left; (intro W hW; go_simp; try with_reducible rfl); simp only [Act.put, qA, qB, qC]
  refine sx_actB (i := 14) (o := ⟨some 57, _, _, _, _, _⟩) rfl (by kernel_rfl) rfl hX (fun K hK => ?_)
  go_wp2_with fail
  refine (refRunN_any F 0 1 _ W _ wG (HV.out.below hX) (RC.out.below hX)).mono ?_
  rw [HRN.out]
  rintro e wH ⟨rfl, hb⟩
  go_wp2_with fail
  refine hK _ _ (hb.mono hX.size) ?_
  clear hK K
  (try simp only [Act.put, qA, qB, qC])
  replace hX := hX.trans (hb.mono hX.size)
  clear hb
  refine sx_actB (i := 17) (o := ⟨some 60, _, _, _, _, _⟩) rfl (by kernel_rfl) rfl hX (fun K hK => ?_)
  go_wp2_with fail
  refine (refIn_any t HM4.out W HW.out _ cs wH (RC.out.below hX) ((VC.out.stay hX).mono hX.size)).mono ?_
  rw [HY.out]
  rintro e wI ⟨rfl, hb⟩
  go_wp2_with fail
  refine hK _ _ (hb.mono hX.size) ?_
  clear hK K
  (try simp only [Act.put, qA, qB, qC])
  replace hX := hX.trans (hb.mono hX.size)
  clear hb
  refine sx_take (i := 18) (oi := ⟨some 61, _, _, _, _, _⟩) (v := .bool true) rfl (by kernel_rfl) (by kernel_rfl) (by kernel_rfl) (fun _ _ _ h => h) rfl hX (fun V _ => ex_eqB (.tmp 57) (.tmp 60) rfl rfl rfl V) ?_; simp only [Act.put, qA, qB, qC]
  refine sx_take (i := 19) (oi := ⟨some 62, _, _, _, _, _⟩) (v := ?_) rfl (by kernel_rfl) (by kernel_rfl) (by kernel_rfl) (fun _ _ _ h => h) rfl hX ?_ ?_; rotate_left; (intro W hW; go_simp; try with_reducible rfl); simp only [Act.put, qA, qB, qC]
  refine sx_take (i := 20) (oi := ⟨some 63, _, _, _, _, _⟩) (v := ?_) rfl (by kernel_rfl) (by kernel_rfl) (by kernel_rfl) (fun _ _ _ h => h) rfl hX ?_ ?_; rotate_left; (intro W hW; go_simp; try with_reducible rfl); simp only [Act.put, qA, qB, qC]
  refine sx_take (i := 21) (oi := ⟨some 64, _, _, _, _, _⟩) (v := ?_) rfl (by kernel_rfl) (by kernel_rfl) (by kernel_rfl) (fun _ _ _ h => h) rfl hX ?_ ?_; rotate_left; (intro W hW; go_simp; try with_reducible rfl); simp only [Act.put, qA, qB, qC]
  refine sx_take (i := 22) (oi := ⟨some 65, _, _, _, _, _⟩) (v := .slice Af F.length cf) rfl (by kernel_rfl) (by kernel_rfl) (by kernel_rfl) (fun _ _ _ h => h) rfl hX (fun V hV => ld_sts (.tmp 64) rfl rfl ((hV.cell (p := ⟨w8.heap.size, 0, none⟩) HKL.out).trans HC0.out)) ?_; simp only [Act.put, qA, qB, qC]
  refine sx_take (i := 23) (oi := ⟨some 66, _, _, _, _, _⟩) (v := ?_) rfl (by kernel_rfl) (by kernel_rfl) (by kernel_rfl) (fun _ _ _ h => h) rfl hX ?_ ?_; rotate_left; (intro W hW; go_simp; try with_reducible rfl); simp only [Act.put, qA, qB, qC]
  refine sx_take (i := 24) (oi := ⟨some 67, _, _, _, _, _⟩) (v := .agg cs.toArray) rfl (by kernel_rfl) (by kernel_rfl) (by kernel_rfl) (fun _ _ _ h => h) rfl hX (ld_blk 40 _ rfl w5.heap.size rfl 40 cs _ LC.out LC.out.lt Try.underlying40 rfl (size_rx C6.out)) ?_; simp only [Act.put, qA, qB, qC]
  refine sx_take (i := 27) (oi := ⟨some 70, _, _, _, _, _⟩) (v := ?_) rfl (by kernel_rfl) (by kernel_rfl) (by kernel_rfl) (fun _ _ _ h => h) rfl hX ?_ ?_; rotate_left; (intro W hW; go_simp; try with_reducible rfl); simp only [Act.put, qA, qB, qC]
  refine sx_actB (i := 25) (o := ⟨some 68, _, _, _, _, _⟩) rfl (by kernel_rfl) rfl hX (fun K hK => ?_)
  go_wp2_with fail
  refine (refNodes_any _ t (Nat.le_refl _) HM4.out cs wI ((VC.out.stay hX).mono hX.size)).mono ?_
  skip
  rintro e wJ ⟨rfl, hb⟩
  go_wp2_with fail
  refine hK _ _ (hb.mono hX.size) ?_
  clear hK K
  (try simp only [Act.put, qA, qB, qC])
  replace hX := hX.trans (hb.mono hX.size)
  clear hb
  refine sx_take (i := 26) (oi := ⟨some 69, _, _, _, _, _⟩) (v := .int .i64 ((2 * t.nodes : Nat) : Int)) rfl (by kernel_rfl) (by kernel_rfl) (by kernel_rfl) (fun _ _ _ h => h) rfl hX (fun V _ => ex_mul2 (.tmp 68) rfl rfl rfl HS3.out V) ?_; simp only [Act.put, qA, qB, qC]
  refine sx_take (i := 28) (oi := ⟨some 71, _, _, _, _, _⟩) (v := .int .i64 ((2 * t.nodes + k : Nat) : Int)) rfl (by kernel_rfl) (by kernel_rfl) (by kernel_rfl) (fun _ _ _ h => h) rfl hX (fun V _ => ex_sum (.tmp 69) (.tmp 70) rfl rfl rfl HS1.out V) ?_; simp only [Act.put, qA, qB, qC]
  refine sx_take (i := 29) (oi := ⟨some 72, _, _, _, _, _⟩) (v := .int .i64 ((2 * t.nodes + k + 2 : Nat) : Int)) rfl (by kernel_rfl) (by kernel_rfl) (by kernel_rfl) (fun _ _ _ h => h) rfl hX (fun V _ => ex_sum (.tmp 71) (.const (.int .i64 2)) rfl rfl rfl HS2.out V) ?_; simp only [Act.put, qA, qB, qC]
  refine sx_take (i := 30) (oi := ⟨some 73, _, _, _, _, _⟩) (v := .bool true) rfl (by kernel_rfl) (by kernel_rfl) (by kernel_rfl) (fun _ _ _ h => h) rfl hX (fun V _ => ex_le (.tmp 66) (.tmp 72) rfl rfl rfl HS4.out V) ?_; simp only [Act.put, qA, qB, qC]
  refine sx_take (i := 31) (oi := ⟨some 74, _, _, _, _, _⟩) (v := ?_) rfl (by kernel_rfl) (by kernel_rfl) (by kernel_rfl) (fun _ _ _ h => h) rfl hX ?_ ?_; rotate_left; (intro W hW; go_simp; try with_reducible rfl); simp only [Act.put, qA, qB, qC]
  refine sx_take (i := 32) (oi := ⟨some 4, _, _, _, _, _⟩) (v := ?_) rfl (by kernel_rfl) (by kernel_rfl) (by kernel_rfl) (fun _ _ _ h => h) rfl hX ?_ ?_; rotate_left; (intro W hW; go_simp; try with_reducible rfl); simp only [Act.put, qA, qB, qC]
  refine wpAnyH_done (by kernel_rfl) ?_ _
  have BE := qH (BC.out.trans (hX.mono BC.out.size))
  clear hX
  go_wp2_with fail
  go_ret
  exact ⟨rfl, BE.out⟩
 ·have n1 : (m != 0) = true := by simp [h0]
  have HNS := qH (HBT.out.2 (by rw [HMM.out]; exact h0))
  have c0 := NB.out.cell 0
  rw [HNS.out] at c0
  clear h0
  go_wp2_with fail
  go_ret
  exact ⟨rfl, BB.out⟩
noncomputable def catJ (x y : T) (W : List UInt8) : Nat → Bool
 | 0 => false
 | j + 1 => catJ x y W j || (lgB x (W.take j) && lgB y (W.drop j))
noncomputable def starJ (x : T) (W : List UInt8) : Nat → Bool
 | 0 => ((W.length : Int) == 0)
 | j + 1 => starJ x W j || ((decide (0 < (j : Int)) && lgB x (W.take j)) && lgB (starT x) (W.drop j))
theorem catJ_iff {x y : T} {W : List UInt8} : ∀ j, catJ x y W j = true ↔ ∃ i, i < j ∧ Lg x (W.take i) ∧ Lg y (W.drop i)
 | 0 => by simp [catJ]
 | j + 1 => by
  rw [catJ, Bool.or_eq_true, Bool.and_eq_true, catJ_iff j, lgB_iff, lgB_iff]
  constructor
  ·rintro (⟨i, h1, h2⟩ | h)
   ·exact ⟨i, by omega, h2⟩
   ·exact ⟨j, by omega, h⟩
  ·rintro ⟨i, h1, h2⟩
   rcases Nat.lt_or_ge i j with h | h
   ·exact .inl ⟨i, h, h2⟩
   ·obtain rfl : i = j := by omega
    exact .inr h2
theorem starJ_iff {x : T} {W : List UInt8} : ∀ j, starJ x W j = true ↔ W = [] ∨ ∃ i, i < j ∧ 0 < i ∧ Lg x (W.take i) ∧ Lg (starT x) (W.drop i)
 | 0 => by
  rw [starJ]
  cases W with
  | nil => simp
  | cons b r => simp; omega
 | j + 1 => by
  rw [starJ, Bool.or_eq_true, Bool.and_eq_true, Bool.and_eq_true, starJ_iff j, lgB_iff, lgB_iff, decide_eq_true_eq]
  constructor
  ·rintro ((h | ⟨i, h1, h2⟩) | ⟨⟨h0, h1⟩, h2⟩)
   ·exact .inl h
   ·exact .inr ⟨i, by omega, h2⟩
   ·exact .inr ⟨j, by omega, by omega, h1, h2⟩
  ·rintro (h | ⟨i, h1, h2, h3, h4⟩)
   ·exact .inl (.inl h)
   rcases Nat.lt_or_ge i j with h | h
   ·exact .inl (.inr ⟨i, h, h2, h3, h4⟩)
   ·obtain rfl : i = j := by omega
    exact .inr ⟨⟨by omega, h3⟩, h4⟩
theorem cat_means (x y : T) (W : List UInt8) : lgB (catT [x, y]) W = catJ x y W (W.length + 1) := by
 refine lgB_of ?_
 rw [catJ_iff, lg_catT]
 simp only [LgC]
 constructor
 ·rintro ⟨i, h1, h2, h3⟩
  exact ⟨W.take i, W.drop i, (List.take_append_drop i W).symm, h2, W.drop i, [], by simp, h3, rfl⟩
 ·rintro ⟨u, v, rfl, hu, a, b, rfl, ha, rfl⟩
  exact ⟨u.length, by simp only [List.length_append]; omega, by simpa using hu, by simpa using ha⟩
theorem alt_means {x y : T} (hx : good x) (hy : good y) (W : List UInt8) : lgB (altT [x, y]) W = (lgB x W || lgB y W) := by
 refine lgB_of ?_
 rw [lg_altT (by intro t ht; simp at ht; rcases ht with rfl | rfl <;> assumption), Bool.or_eq_true, lgB_iff, lgB_iff]
 simp only [LgA, or_false]
theorem starL_cut {P : List UInt8 → Prop} {W : List UInt8} (h : StarL P W) : W = [] ∨ ∃ i, i < W.length + 1 ∧ 0 < i ∧ P (W.take i) ∧ StarL P (W.drop i) := by
 induction h with
 | nil => exact .inl rfl
 | @app u v hu hv ih =>
  cases u with
  | nil => exact ih
  | cons b r => exact .inr ⟨(b :: r).length, by simp only [List.length_append]; omega, by simp, by simpa using hu, by simpa using hv⟩
theorem star_means {x : T} (hx : good x) (W : List UInt8) : lgB (starT x) W = starJ x W (W.length + 1) := by
 refine lgB_of ?_
 rw [starJ_iff, lg_starT hx]
 constructor
 ·rintro (rfl | ⟨i, h1, h2, h3, h4⟩)
  ·exact .nil
  ·rw [lg_starT hx] at h4
   have := StarL.app h3 h4
   rwa [List.take_append_drop] at this
 ·intro h
  rcases starL_cut h with h | ⟨i, h1, h2, h3, h4⟩
  ·exact .inl h
  ·exact .inr ⟨i, h1, h2, h3, (lg_starT hx _).2 h4⟩
theorem gt_at {ev : Operand → Value} {o : Oper} (x : Operand) (ho : o.op = .binOp .gtr 3 x (.const (.int .i64 0)) 3) {j : Nat} (hx : ev x = .int .i64 (j : Int)) (hc : ev (.const (.int .i64 0)) = .int .i64 0) {b : Bool} (hb : decide ((0 : Int) < (j : Int)) = b) (W : World) : (execOp ev o).run Try.prog W = .ok (.value (.bool b)) W := by
 subst hb
 simp only [execOp, ho, hx, hc]
 go_simp
section
variable {P : Program} {w : World} {ops : Array Oper} {rest : List Oper} {o : Oper} {a : Act} {Q : Exit → Act → World → Prop} {K : Act → World → Prop}
theorem wpList_bldT2 (hg : o.guard = none) (t e : TypeId) (x y : Operand) (ho : o.op = .buildSlice t 2 #[(0, x), (1, y)]) (i : TypeInfo) (ht : P.underlying t = some (.slice e)) (hi : P.info? e = some i) (hz : i.zero = some (.agg (Value.int .i64 0 :: (wds (fun _ => false) ++ [.slice none 0 0])).toArray)) (hs : i.size = 6) (cs ds : List Value) (hc : cs.length = 6) (hl : ds.length = 6)
  (hx : a.eval x = .agg cs.toArray) (hy : a.eval y = .agg ds.toArray)
  (h : ∀ w', Blk w' w.heap.size e (cs ++ ds) → Below w.heap.size w w' → w'.heap.size = w.heap.size + 1 → wpList P ops Q rest (a.put o.dst (.slice (some ⟨w.heap.size, 0, none⟩) 2 2)) w') : wpList P ops Q (o :: rest) a w := by
 refine wpList_plain hg fun K hK => ?_
 exact wp_bldT2 t e x y ho i ht hi hz hs cs ds hc hl hx hy fun w' h1 h2 h3 => hK _ _ (h w' h1 h2 h3)
end
def slF (A : Option Addr) (n c k : Nat) : Value := .slice (if c = k then A else A.map fun x => x.add (k * 1)) (n - k) (c - k)
def slT (A : Option Addr) (c k : Nat) : Value := .slice (if c = 0 then A else A.map fun x => x.add (0 * 1)) (k - 0) (c - 0)
theorem slF_row {w : World} {A : Option Addr} {c : Nat} {W : List UInt8} (h : Row w (.slice A W.length c) (bvs W)) (k : Nat) (hk : k ≤ W.length) : Row w (slF A W.length c k) (bvs (W.drop k)) := by
 have h' : Row w (.slice A (bvs W).length c) (bvs W) := by rw [bvs_length]; exact h
 obtain ⟨_, h1, h2, h0⟩ := h.len
 unfold slF
 rcases Nat.lt_or_ge k W.length with hlt | hge
 ·obtain ⟨b, off, rfl, hr⟩ := Row.drop h' k (by rw [bvs_length]; exact hlt)
  rw [if_neg (by omega), bvs_length] at *
  rw [show bvs (W.drop k) = (bvs W).drop k by unfold bvs; rw [List.map_drop]]
  simpa [Addr.add_lit] using hr
 ·obtain rfl : k = W.length := by omega
  rw [List.drop_length, Nat.sub_self]
  refine ⟨_, _, rfl, Nat.zero_le _, by omega, fun he => ?_, fun hne => absurd rfl hne⟩
  by_cases hc : c = W.length
  ·omega
  ·rw [if_neg hc] at he
   have : A = none := by cases A with
    | none => rfl
    | some x => cases he
   have := h0 this
   omega
theorem slT_row {w : World} {A : Option Addr} {c : Nat} {W : List UInt8} (h : Row w (.slice A W.length c) (bvs W)) (k : Nat) (hk : k ≤ W.length) : Row w (slT A c k) (bvs (W.take k)) := by
 have h' : Row w (.slice A (bvs W).length c) (bvs W) := by rw [bvs_length]; exact h
 have ht := Row.take h' k (by rw [bvs_length]; exact hk)
 rw [show (bvs W).take k = bvs (W.take k) by unfold bvs; rw [List.map_take]] at ht
 unfold slT
 have he : (if c = 0 then A else A.map fun x => x.add (0 * 1)) = A := by
  split
  ·rfl
  ·cases A with
   | none => rfl
   | some x => obtain ⟨b, o, s⟩ := x; simp [Addr.add]
 rw [he]
 exact ht
theorem size_u8B : ∀ w, (sizeOf 5).run Try.prog w = .ok 1 w := by
 intro w
 have h : (Try.prog.info? 5).map (·.size) = some 1 := by kernel_rfl
 cases hi : Try.prog.info? 5 with
 | none => rw [hi] at h; cases h
 | some i =>
  rw [hi] at h
  have h' : i.size = 1 := by simpa using h
  simp [sizeOf, typeInfo, hi, h']
theorem sl_from {a : Act} {o : Oper} (x i : Operand) (ho : o.op = .slice 26 x (some i) none none) {A : Option Addr} {n c k : Nat} (hx : a.eval x = .slice A n c) (hi : a.eval i = .int .i64 (k : Int)) (hk : k ≤ n) (W : World) : (execOp a.eval o).run Try.prog W = .ok (.value (slF A n c k)) W := by
 have h1 : (0 : Int) ≤ (k : Int) ∧ (k : Int) ≤ (n : Int) := by omega
 simp [execOp, ho, hx, hi, Instr.sliceAt, Instr.slice, run_underlying Try.underlying26, Instr.sliceBounds, Instr.sliceBound, asIntOf, h1, size_u8B, slF]
 intro h
 omega
theorem sl_to {a : Act} {o : Oper} (x i : Operand) (ho : o.op = .slice 26 x none (some i) none) {A : Option Addr} {n c k : Nat} (hx : a.eval x = .slice A n c) (hi : a.eval i = .int .i64 (k : Int)) (hk : k ≤ c) (W : World) : (execOp a.eval o).run Try.prog W = .ok (.value (slT A c k)) W := by
 have h1 : (0 : Int) ≤ (k : Int) ∧ (k : Int) ≤ (c : Int) := by omega
 simp [execOp, ho, hx, hi, Instr.sliceAt, Instr.slice, run_underlying Try.underlying26, Instr.sliceBounds, Instr.sliceBound, asIntOf, h1, size_u8B, slT]
 intro h
 omega
end Go.Proofs.Ytmcpfaaakmehdaa
