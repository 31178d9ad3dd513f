/-
  Texts of this proof, put together: ScE. No statement is proved here.
-/
import Derived.Test.YteadghoojeehlaaDoorVBC
import Derived.Test.YteadghoojeehlaaDoorVBA
namespace Go.Proofs.YteadghoojeehlaaDoor
open Go.RowKit
set_option linter.unusedSimpArgs false
set_option linter.unusedVariables false
theorem ex_cv8 {ev : Operand → Value} {o : Oper} (x : Operand) (ho : o.op = .convert 3 5 x) {k : Nat} (hx : ev x = .int .i64 (k : Int)) (hk : k < 256) (W : World) : (execOp ev o).run Tryd.prog W = .ok (.value (.int .u8 (k : Int))) W := by
 have h := wrap_256 k hk
 simp only [execOp, ho, hx]
 go_simp
theorem ex_eq8 {ev : Operand → Value} {o : Oper} (x y : Operand) (ho : o.op = .binOp .eql 5 x y 5) {k m : Int} (hx : ev x = .int .u8 k) (hy : ev y = .int .u8 m) {b : Bool} (hb : decide (k = m) = b) (W : World) : (execOp ev o).run Tryd.prog W = .ok (.value (.bool b)) W := by
 subst hb
 simp only [execOp, ho, hx, hy]
 go_simp
 try rfl
theorem ex_neB9 {ev : Operand → Value} {o : Oper} (x y : Operand) (ho : o.op = .binOp .neq 4 x y 4) {b : Bool} (hx : ev x = .bool b) (hy : ev y = .bool b) (W : World) : (execOp ev o).run Tryd.prog W = .ok (.value (.bool false)) W := by
 simp only [execOp, ho, hx, hy]
 cases b <;> go_simp
theorem ex_eqBB {ev : Operand → Value} {o : Oper} (x y : Operand) (ho : o.op = .binOp .eql 4 x y 4) {b c : Bool} (hx : ev x = .bool b) (hy : ev y = .bool c) (W : World) : (execOp ev o).run Tryd.prog W = .ok (.value (.bool (b == c))) W := by
 simp only [execOp, ho, hx, hy]
 cases b <;> cases c <;> go_simp
theorem lt_60 {i n : Nat} (h : i < n) (hn : n ≤ 60) : i ≤ 4611686018427387904 := by omega
theorem top_wrap {m : Nat} {t : Int} (h : t = (m : Int) - 1) (h1 : 1 ≤ m) (h2 : m ≤ 60) : wrap64 (t + 1) = (m : Int) ∧ IntKind.i64.wrap (t + 1) = (m : Int) := by
 have h3 : t + 1 = (m : Int) := by omega
 rw [h3]
 exact ⟨IntWalk.wrap64_in _ (by omega), IntWalk.i64_in _ (by omega)⟩
theorem end_wrap {n : Nat} {t : Int} (h : t = (n : Int) - 1) (h2 : n ≤ 60) : wrap64 ((n : Int) - 1) = t ∧ IntKind.i64.wrap ((n : Int) - 1) = t := by
 subst h
 exact ⟨IntWalk.wrap64_in _ (by omega), IntWalk.i64_in _ (by omega)⟩
theorem topL_most {S : List St} {a : Int} {n i : Nat} {X : List Int} (h : FitN S a n) (hX : (LN S a i)[i]? = some X) (k : Nat) : topL S a i X k ≤ n := by
 have h1 : topL S a i X k ≤ (LN S a (i + 1)).length := by
  rw [show LN S a (i + 1) = extL (LN S a i) (sucN S X) from Lq_step hX]
  exact extL_take_le (sucN S X) (LN S a i) k
 have h2 := fit_most h (i + 1)
 unfold LN at h1
 unfold topL LN at h1 ⊢
 omega
set_option maxHeartbeats 8000000 in
set_option maxRecDepth 1000000 in
theorem subreach_walk (S : List St) (a z : Int) (cs : List Value) (w : World) (hv : NfaV w cs S a z) (hlo : ∀ s ∈ S, -9223372036854775808 ≤ s.to) (hT : Tb w) :
  Calls Tryd.prog 5 #[.agg cs.toArray] w fun e w' => e = .returned (.bool true) ∧ Below w.heap.size w w' := by
 have N0 := qH hv
 have HLO := qH hlo
 have HT := qH hT
 obtain ⟨A, cap, rfl, hlc, hcm, hA0⟩ := hv.len
 obtain ⟨id, d0, hid, hdz, hdl⟩ := zero_dfa
 have HDZ := qH hdz
 have HDL := qH hdl
 clear hv hlo hT hlc hcm hA0 hdz hdl
 go_enter Tryd.func5, Tryd.ntmps5
 go_wp2_with ((with_reducible refine atDst 1 ?_); refine wpList_box rfl 24 _ rfl [.slice A S.length cap, .int .i64 a, .int .i64 z] rfl (Below.refl w.heap.size w) (Nat.le_refl _) ?_; intro w1 hk1 hb1 hs1 _; have K1 := qH hk1; have B1 := qH hb1; clear hk1 hb1 hs1; (try simp only [Act.put, qA, qB, qC]))
 refine (begun10_any w1 (HT.out.belowG B1.out HT.out.lt)).mono ?_
 rintro e w2 ⟨rfl, hb⟩
 have K2 := qH (K1.out.below hb K1.out.lt)
 have B2 := qH (B1.out.trans (hb.mono B1.out.size))
 clear hb
 go_wp2_with ((with_reducible refine atDst 15 ?_); refine wpList_ldArr rfl 24 _ rfl w.heap.size rfl 24 _ _ K2.out Tryd.underlying24 rfl (size_nfa rfl) ?_; (try simp only [Act.put, qA, qB, qC]))
 refine (lightN_any S a z 12 _ w2 (N0.out.below B2.out)).mono ?_
 rintro e w3 ⟨rfl, hb⟩
 have K3 := qH (K2.out.below hb K2.out.lt)
 have B3 := qH (B2.out.trans (hb.mono B2.out.size))
 clear hb
 obtain ⟨lt, hlt⟩ : ∃ m, lightB S 12 = m := ⟨_, rfl⟩
 rw [hlt]
 have HLT := qH hlt
 clear hlt
 cases lt with
 | false =>
  go_wp2_with fail
  go_ret
  exact ⟨rfl, B3.out⟩
 | true =>
  have HS12 := qH (lightB_iff.1 HLT.out).1
  go_wp2_with ((with_reducible refine atDst 19 ?_); refine wpList_ldArr rfl 24 _ rfl w.heap.size rfl 24 _ _ K3.out Tryd.underlying24 rfl (size_nfa rfl) ?_; (try simp only [Act.put, qA, qB, qC]))
  have hmk := sbMake_any S a z 60 _ w3 (N0.out.below B3.out) HLO.out (by decide) (HT.out.belowG B3.out HT.out.lt)
  refine hmk.mono ?_
  clear hmk
  rintro e w4 ⟨c4, rfl, hd, hb⟩
  have K4 := qH (K3.out.below hb K3.out.lt)
  have B4 := qH (B3.out.trans (hb.mono B3.out.size))
  have V4 := qH hd
  clear hd hb
  obtain ⟨D, hD⟩ : ∃ D, D = (mkN S a z 60).1 := ⟨_, rfl⟩
  obtain ⟨er, her⟩ : ∃ er, er = (mkN S a z 60).2 := ⟨_, rfl⟩
  rw [← hD] at V4
  rw [← her]
  have HQ := qH (mkN_case S a z 60 (show mkN S a z 60 = (D, er) by rw [hD, her]))
  clear hD her
  by_cases he0 : er = 0
  ·subst he0
   obtain ⟨n, hm, hf, hn, hdm⟩ : ∃ n : Nat, MayN S a z ∧ FitN S a n ∧ (n : Int) ≤ 60 ∧ D = machN S a z n := by
    rcases HQ.out with ⟨h, _⟩ | h | ⟨_, h⟩
    ·cases h
    ·cases h
    ·exact h
   have HM := qH hm
   have HFT := qH hf
   have HN60 := qH (show n ≤ 60 by omega)
   have HN1 := qH (fit_pos hf)
   have HMD := qH (show MayD D by rw [hdm]; exact machN_may hf (by omega))
   have HCL := qH (show D.cl.length = 256 by rw [hdm]; exact machN_cl)
   have HNL := qH (show D.next.length = n by rw [hdm]; exact machN_len hf)
   have HRA := qH (show ∀ i, i < n → reaB D i = true by rw [hdm]; exact machN_reach hf)
   have HROW := qH (show ∀ i X, (LN S a n)[i]? = some X → i < n → D.next[i]? = some (rowI (LN S a n) (sucN S X)) by rw [hdm]; exact fun i X h1 h2 => machN_at h1 h2)
   have HCAT := qH (show ∀ b, b < 256 → D.cl[b]? = some (UInt8.ofNat (clN S b)) by rw [hdm]; exact fun b hb => ctab_at (setsN S) hb)
   clear hm hf hn hdm
   go_wp2_with (first
    | ((with_reducible refine atDst 3 ?_); refine wpList_new rfl 32 rfl id _ d0 hid HDZ.out rfl (Below.refl w4.heap.size w4) (Nat.le_refl _) ?_; intro w5 hk hb hs ho; have L5 := qH hk; have B5 := qH hb; clear hk hb hs ho; (try simp only [Act.put, qA, qB, qC]))
    | ((with_reducible refine atStore 32 3 21 ?_); refine wpList_stBlk rfl 32 _ _ rfl w4.heap.size c4 rfl rfl 32 _ L5.out V4.out.size (by rw [HDL.out, V4.out.length]) V4.out.one B5.out (Nat.le_refl _) ?_; intro w6 hk hb hs ho; have L6 := qH hk; have V6 := qH (V4.out.below hb); have K6 := qH (K4.out.below hb K4.out.lt); have B6 := qH (B4.out.trans (hb.mono B4.out.size)); clear hk hb hs ho; (try simp only [Act.put, qA, qB, qC]))
    | ((with_reducible refine atDst 25 ?_); refine wpList_ldArr rfl 32 _ rfl w4.heap.size rfl 32 _ _ L6.out Tryd.underlying32 rfl V6.out.size ?_; (try simp only [Act.put, qA, qB, qC])))
   refine (refReach11_any D c4 w6 V6.out HMD.out).mono ?_
   rintro e w7 ⟨vr, rfl, hr7, hb⟩
   rw [HNL.out] at hr7
   have R7 := qH hr7
   have L7 := qH (L6.out.below hb L6.out.lt)
   have V7 := qH (V6.out.below hb)
   have K7 := qH (K6.out.below hb K6.out.lt)
   have B7 := qH (B6.out.trans (hb.mono B6.out.size))
   clear hr7 hb
   go_wp2_with ((with_reducible refine atDst 27 ?_); refine wpList_ldArr rfl 32 _ rfl w4.heap.size rfl 32 _ _ L7.out Tryd.underlying32 rfl V7.out.size ?_; (try simp only [Act.put, qA, qB, qC]))
   refine (refMay11_any D c4 w7 V7.out HMD.out).mono ?_
   rintro e w8 ⟨rfl, hb⟩
   have R8 := qH (R7.out.below hb)
   have L8 := qH (L7.out.below hb L7.out.lt)
   have V8 := qH (V7.out.below hb)
   have K8 := qH (K7.out.below hb K7.out.lt)
   have B8 := qH (B7.out.trans (hb.mono B7.out.size))
   have N8 := qH (N0.out.below B8.out)
   clear hb
   obtain ⟨Av, cv, rfl, _⟩ := R8.out
   rw [bcs_len] at R8 ⊢
   obtain ⟨An, Ae, cn, ce, vf, _, hcs, hnx, hrw, _⟩ := V8.out.form
   rw [HNL.out] at hcs hnx
   have HCS := qH hcs
   have HNX := qH hnx
   have HRW := qH hrw
   have c256 : w8.cell? ⟨w4.heap.size, 256, none⟩ = some (.slice An n cn) := by rw [L8.out.cell 256, HCS.out]; exact dcl_n HCL.out
   have C256 := qH c256
   clear hcs hnx hrw R7
   obtain ⟨t0, ht0⟩ : ∃ t : Int, t = 0 := ⟨_, rfl⟩
   go_wp2_with fail
   go_loopw [6, 7] (fun tv iv wl => ∃ i : Nat, i ≤ n ∧ iv = .int .i64 (i : Int) ∧ tv = .int .i64 (((LN S a i).length : Int) - 1) ∧ wl = w8) (fun _ iv _ => n - (intOf iv).toNat)
   case atStart => exact ⟨0, Nat.zero_le _, by simp, by simp [LN_zero], rfl⟩
   obtain ⟨i, hi, rfl, rfl, hw⟩ := hrel
   have hw2 := hw.symm
   subst hw2
   clear hw
   by_cases hin : i < n
   ·have x1 : (i : Int) < (n : Int) := Int.ofNat_lt.2 hin
    have HI := qH hin
    have HMI := qH (sub_next hin)
    have e3 := wrap_one i (lt_60 hin HN60.out)
    have e4 := wrap_one' i (lt_60 hin HN60.out)
    obtain ⟨X, hX1, hX2⟩ := fit_at HFT.out hin
    have HX := qH hX2
    obtain ⟨r, hr⟩ : ∃ r, r = rowI (LN S a n) (sucN S X) := ⟨_, rfl⟩
    have HRR := qH hr
    have hrn := HROW.out i X hX1 hin
    rw [← hr] at hrn
    obtain ⟨k, hk⟩ : ∃ k, k = r.length := ⟨_, rfl⟩
    have HKS := qH (show k = (sucN S X).length by rw [hk, hr, rowI_len])
    have HK2 := qH (show k ≤ 256 by rw [HKS.out, sucN_len]; exact fbN_len S)
    have HRL := qH (show r.length = k from hk.symm)
    have hri := HRW.out i r hrn
    have HRI := qH hri
    obtain ⟨Ar, cr, hvr, _⟩ := hri
    rw [nums_length, HRL.out] at hvr
    obtain ⟨bn, on, rfl, _, hcn⟩ := HNX.out.at_ (by rw [List.length_map, List.length_range]; exact Nat.lt_of_le_of_lt (Nat.zero_le _) hin)
    have hci : w8.cell? ⟨bn, on + i, none⟩ = some (.slice Ar k cr) := hcn i _ (by simp [hin, hvr])
    rw [hvr] at HRI
    obtain ⟨bv', ov, rfl, _, hcv⟩ := R8.out.at_ (by rw [bcs_len]; exact Nat.lt_of_le_of_lt (Nat.zero_le _) hin)
    have hcvi : w8.cell? ⟨bv', ov + i, none⟩ = some (.bool true) := by
     have := hcv i _ (bcs_get _ hin)
     rw [HRA.out i hin] at this
     exact this
    obtain ⟨tv, htv⟩ : ∃ tv : Int, tv = ((LN S a i).length : Int) - 1 := ⟨_, rfl⟩
    have hgo := fit_going HFT.out hin
    have z0 : decide (tv < (i : Int)) = false := decide_eq_false (by rw [htv]; unfold LN; omega)
    have HTV := qH (show tv = (topL S a i X 0 : Int) - 1 by rw [htv, topL_zero])
    rw [← htv]
    clear hi hin hX1 hX2 hr hrn hk hvr hcn hcv htv hgo
    go_wp2_with fail
    go_loopw [6, 8] (fun tv jv wl => ∃ j : Nat, j ≤ k ∧ jv = .int .i64 (j : Int) ∧ tv = .int .i64 ((topL S a i X j : Int) - 1) ∧ wl = w8) (fun _ jv _ => k - (intOf jv).toNat)
    case atStart => exact ⟨0, Nat.zero_le _, by simp, by rw [HTV.out], rfl⟩
    clear z0
    obtain ⟨j, hj, rfl, rfl, hw⟩ := hrel
    have hw2 := hw.symm
    subst hw2
    clear hw
    by_cases hjk : j < k
    ·have y1 : (j : Int) < (k : Int) := Int.ofNat_lt.2 hjk
     have HJ := qH hjk
     have HMJ := qH (sub_next hjk)
     have f3 := wrap_one j (lt_k256 hjk HK2.out)
     have f4 := wrap_one' j (lt_k256 hjk HK2.out)
     obtain ⟨y, hy⟩ : ∃ y, (sucN S X)[j]? = some y := ⟨_, List.getElem?_eq_getElem (by rw [← HKS.out]; exact hjk)⟩
     obtain ⟨x, hx⟩ : ∃ x, x = ixOf (LN S a n) y := ⟨_, rfl⟩
     have hxr : r[j]? = some (x : Int) := by
      rw [HRR.out]
      unfold rowI
      rw [List.getElem?_map, hy, hx]
      rfl
     obtain ⟨br, or, rfl, _, hcr⟩ := HRI.out.at_ (by rw [nums_length, HRL.out]; exact Nat.lt_of_le_of_lt (Nat.zero_le _) hjk)
     have hcx : w8.cell? ⟨br, or + j, none⟩ = some (.int .i64 (x : Int)) := hcr j _ (by simp [nums, hxr])
     obtain ⟨m, hm⟩ : ∃ m, m = topL S a i X j := ⟨_, rfl⟩
     have hnx := topL_next HFT.out HI.out HX.out hy
     rw [← hm, ← hx] at hnx
     have HNXT := qH (show ∀ u, u = j + 1 → topL S a i X u = max m (x + 1) from fun u hu => by rw [hu]; exact hnx.2)
     have hm1 : 1 ≤ m := by rw [hm]; exact topL_pos S a i X j
     have hm2 : m ≤ 60 := by rw [hm]; exact Nat.le_trans (topL_most HFT.out HX.out j) HN60.out
     obtain ⟨tv, htv⟩ : ∃ tv : Int, tv = (m : Int) - 1 := ⟨_, rfl⟩
     have hwr := top_wrap htv hm1 hm2
     have g1 := hwr.1
     have g2 := hwr.2
     have z1 : decide ((m : Int) < (x : Int)) = false := decide_eq_false (by have := hnx.1; omega)
     have z3 : ¬ (m < x) := by have := hnx.1; omega
     have HTVM := qH (show max tv (x : Int) = ((max m (x + 1) : Nat) : Int) - 1 by rw [htv]; omega)
     rw [← hm, ← htv]
     clear hj hjk hy hx hxr hcr hm hnx hm1 hm2 htv hwr
     go_wp2_with fail
     exact ⟨⟨j + 1, HJ.out, by congr 1, by rw [HNXT.out _ rfl, ← HTVM.out], trivial⟩, by simpa [intOf] using HMJ.out⟩
    ·obtain rfl : j = k := by omega
     have y1 : ¬ ((j : Int) < (j : Int)) := Int.lt_irrefl _
     have HTA := qH (topL_all HX.out HKS.out)
     rw [HTA.out]
     clear hj hjk
     go_wp2_with fail
     exact ⟨⟨i + 1, HI.out, by congr 1, rfl, trivial⟩, by simpa [intOf] using HMI.out⟩
   obtain rfl : i = n := by omega
   have x1 : ¬ ((i : Int) < (i : Int)) := Int.lt_irrefl _
   obtain ⟨tv, htv⟩ : ∃ tv : Int, tv = ((LN S a i).length : Int) - 1 := ⟨_, rfl⟩
   have HTV := qH (show tv = (i : Int) - 1 by rw [htv, show (LN S a i).length = i from HFT.out])
   rw [← htv]
   clear hi hin htv
   go_wp2_with fail
   clear x1 c256
   go_loopw [9] (fun bv' wl => ∃ b : Nat, b ≤ 256 ∧ bv' = .int .i64 (b : Int) ∧ Below w8.heap.size w8 wl) (fun bv' _ => 256 - (intOf bv').toNat)
   case atStart => exact ⟨0, Nat.zero_le _, by simp, Below.refl _ _⟩
   obtain ⟨b, hb256, rfl, hb⟩ := hrel
   have BQ := qH hb
   clear hb
   obtain ⟨wq, hwq⟩ : ∃ v : World, v = wr := ⟨_, rfl⟩
   subst hwq
   by_cases hbl : b < 256
   ·have x1 : (b : Int) < 256 := Int.ofNat_lt.2 hbl
    have HB := qH hbl
    have HMB := qH (sub_256 hbl)
    have e3 := wrap_one b (lt_256 hbl)
    have e4 := wrap_one' b (lt_256 hbl)
    clear hb256 hbl
    go_wp2_with fail
    go_loopw [10] (fun cv' wl => ∃ c : Nat, c ≤ b ∧ cv' = .int .i64 (c : Int) ∧ Below w8.heap.size w8 wl) (fun cv' _ => b - (intOf cv').toNat)
    case atStart => exact ⟨0, Nat.zero_le _, by simp, BQ.out⟩
    clear BQ
    obtain ⟨c, hcb, rfl, hb⟩ := hrel
    have BQ := qH hb
    clear hb
    obtain ⟨wp, hwp⟩ : ∃ v : World, v = wr := ⟨_, rfl⟩
    subst hwp
    by_cases hcl : c < b
    ·have y1 : (c : Int) < (b : Int) := Int.ofNat_lt.2 hcl
     have HC := qH hcl
     have HC2 := qH (show c < 256 by have := HB.out; omega)
     have HMC := qH (sub_next hcl)
     have f3 := wrap_one c (lt_256 HC2.out)
     have f4 := wrap_one' c (lt_256 HC2.out)
     clear hcb hcl
     go_wp2_with fail
     go_loopw [11, 12] (fun sv qv wl => ∃ q : Nat, q ≤ S.length ∧ qv = .int .i64 (q : Int) ∧ sv = .bool (sameK S b c q) ∧ Below w8.heap.size w8 wl) (fun _ qv _ => S.length - (intOf qv).toNat)
     case atStart => exact ⟨0, Nat.zero_le _, by simp, by rw [sameK_zero], BQ.out⟩
     clear BQ
     obtain ⟨q, hq, rfl, rfl, hb⟩ := hrel
     have BQ := qH hb
     have KQ := qH (K8.out.below hb K8.out.lt)
     have c0 := KQ.out.cell 0
     clear hb
     obtain ⟨ws, hws⟩ : ∃ v : World, v = wr := ⟨_, rfl⟩
     subst hws
     by_cases hql : q < S.length
     ·have u1 : (q : Int) < (S.length : Int) := Int.ofNat_lt.2 hql
      have HQL := qH hql
      have HMQ := qH (sub_next hql)
      have g3 := wrap_one q (lt_60 hql (Nat.le_trans HS12.out (by decide)))
      have g4 := wrap_one' q (lt_60 hql (Nat.le_trans HS12.out (by decide)))
      obtain ⟨s, hs⟩ : ∃ s, S[q]? = some s := ⟨_, List.getElem?_eq_getElem hql⟩
      have HSK := qH (sameK_next (b := b) (c := c) hs)
      obtain ⟨bs, os, rfl, hbs, hse, _⟩ := (N8.out.below BQ.out).at_ hs
      obtain ⟨st, hst⟩ : ∃ t, s.set = t := ⟨_, rfl⟩
      rw [hst] at hse HSK
      have HBS := qH hbs
      have HSE := qH hse
      have HC0 := qH c0
      have HKQ := qH KQ.out.lt
      obtain ⟨sk, hsk⟩ : ∃ sk, sk = sameK S b c q := ⟨_, rfl⟩
      rw [← hsk] at HSK ⊢
      clear hq hql hs hbs hse hst hsk
      cases sk with
      | false =>
       go_wp2_with fail
       refine sx_startB (B := ws.heap.size) (w0 := ws) (by kernel_rfl) (Below.refl _ _) (fun wd hwd hX => ?_)
       clear hwd
       refine sx_take (i := 0) (oi := ⟨some 102, _, _, _, _, _⟩) (v := ?_) rfl (by kernel_rfl) (by kernel_rfl) (by kernel_rfl) (fun _ _ _ h => h) rfl hX ?_ ?_; rotate_left; (intro W hW; go_simp; try with_reducible rfl); simp only [Act.put, qA, qB, qC]
       refine sx_take (i := 1) (oi := ⟨some 103, _, _, _, _, _⟩) (v := ?_) rfl (by kernel_rfl) (by kernel_rfl) (by kernel_rfl) (fun _ _ _ h => h) rfl hX ?_ ?_; rotate_left; (intro W hW; go_simp; try with_reducible rfl); simp only [Act.put, qA, qB, qC]
       refine sx_skip (i := 2) (oi := ⟨some 104, _, _, _, _, _⟩) rfl (by kernel_rfl) (by kernel_rfl) (by kernel_rfl) (fun _ _ _ h => h) rfl hX ?_; simp only [Act.put, qA, qB, qC]
       refine sx_skip (i := 3) (oi := ⟨some 105, _, _, _, _, _⟩) rfl (by kernel_rfl) (by kernel_rfl) (by kernel_rfl) (fun _ _ _ h => h) rfl hX ?_; simp only [Act.put, qA, qB, qC]
       refine sx_skip (i := 4) (oi := ⟨some 106, _, _, _, _, _⟩) rfl (by kernel_rfl) (by kernel_rfl) (by kernel_rfl) (fun _ _ _ h => h) rfl hX ?_; simp only [Act.put, qA, qB, qC]
       refine sx_skip (i := 5) (oi := ⟨some 107, _, _, _, _, _⟩) rfl (by kernel_rfl) (by kernel_rfl) (by kernel_rfl) (fun _ _ _ h => h) rfl hX ?_; simp only [Act.put, qA, qB, qC]
       refine sx_skip (i := 6) (oi := ⟨some 108, _, _, _, _, _⟩) rfl (by kernel_rfl) (by kernel_rfl) (by kernel_rfl) (fun _ _ _ h => h) rfl hX ?_; simp only [Act.put, qA, qB, qC]
       refine sx_skip (i := 7) (oi := ⟨some 109, _, _, _, _, _⟩) rfl (by kernel_rfl) (by kernel_rfl) (by kernel_rfl) (fun _ _ _ h => h) rfl hX ?_; simp only [Act.put, qA, qB, qC]
       refine sx_skip (i := 8) (oi := ⟨some 110, _, _, _, _, _⟩) rfl (by kernel_rfl) (by kernel_rfl) (by kernel_rfl) (fun _ _ _ h => h) rfl hX ?_; simp only [Act.put, qA, qB, qC]
       refine sx_skip (i := 9) (oi := ⟨some 111, _, _, _, _, _⟩) rfl (by kernel_rfl) (by kernel_rfl) (by kernel_rfl) (fun _ _ _ h => h) rfl hX ?_; simp only [Act.put, qA, qB, qC]
       refine sx_skip (i := 10) (oi := ⟨some 112, _, _, _, _, _⟩) rfl (by kernel_rfl) (by kernel_rfl) (by kernel_rfl) (fun _ _ _ h => h) rfl hX ?_; simp only [Act.put, qA, qB, qC]
       refine sx_skip (i := 11) (oi := ⟨some 113, _, _, _, _, _⟩) rfl (by kernel_rfl) (by kernel_rfl) (by kernel_rfl) (fun _ _ _ h => h) rfl hX ?_; simp only [Act.put, qA, qB, qC]
       refine sx_skip (i := 12) (oi := ⟨some 114, _, _, _, _, _⟩) rfl (by kernel_rfl) (by kernel_rfl) (by kernel_rfl) (fun _ _ _ h => h) rfl hX ?_; simp only [Act.put, qA, qB, qC]
       refine sx_skip (i := 13) (oi := ⟨some 115, _, _, _, _, _⟩) rfl (by kernel_rfl) (by kernel_rfl) (by kernel_rfl) (fun _ _ _ h => h) rfl hX ?_; simp only [Act.put, qA, qB, qC]
       refine sx_skip (i := 14) (oi := ⟨some 116, _, _, _, _, _⟩) rfl (by kernel_rfl) (by kernel_rfl) (by kernel_rfl) (fun _ _ _ h => h) rfl hX ?_; simp only [Act.put, qA, qB, qC]
       refine sx_skip (i := 15) (oi := ⟨some 117, _, _, _, _, _⟩) rfl (by kernel_rfl) (by kernel_rfl) (by kernel_rfl) (fun _ _ _ h => h) rfl hX ?_; simp only [Act.put, qA, qB, qC]
       refine sx_skip (i := 16) (oi := ⟨some 118, _, _, _, _, _⟩) rfl (by kernel_rfl) (by kernel_rfl) (by kernel_rfl) (fun _ _ _ h => h) rfl hX ?_; simp only [Act.put, qA, qB, qC]
       refine sx_skip (i := 17) (oi := ⟨some 119, _, _, _, _, _⟩) rfl (by kernel_rfl) (by kernel_rfl) (by kernel_rfl) (fun _ _ _ h => h) rfl hX ?_; simp only [Act.put, qA, qB, qC]
       refine sx_skip (i := 18) (oi := ⟨some 120, _, _, _, _, _⟩) rfl (by kernel_rfl) (by kernel_rfl) (by kernel_rfl) (fun _ _ _ h => h) rfl hX ?_; simp only [Act.put, qA, qB, qC]
       refine sx_skip (i := 19) (oi := ⟨some 121, _, _, _, _, _⟩) rfl (by kernel_rfl) (by kernel_rfl) (by kernel_rfl) (fun _ _ _ h => h) rfl hX ?_; simp only [Act.put, qA, qB, qC]
       refine sx_skip (i := 20) (oi := ⟨some 122, _, _, _, _, _⟩) rfl (by kernel_rfl) (by kernel_rfl) (by kernel_rfl) (fun _ _ _ h => h) rfl hX ?_; simp only [Act.put, qA, qB, qC]
       refine sx_take (i := 21) (oi := ⟨some 123, _, _, _, _, _⟩) (v := ?_) rfl (by kernel_rfl) (by kernel_rfl) (by kernel_rfl) (fun _ _ _ h => h) rfl hX ?_ ?_; rotate_left; (intro W hW; go_simp; try with_reducible rfl); simp only [Act.put, qA, qB, qC]
       refine sx_take (i := 22) (oi := ⟨some 11, _, _, _, _, _⟩) (v := ?_) rfl (by kernel_rfl) (by kernel_rfl) (by kernel_rfl) (fun _ _ _ h => h) rfl hX ?_ ?_; rotate_left; (intro W hW; go_simp; try with_reducible rfl); simp only [Act.put, qA, qB, qC]
       refine wpAnyH_done (by kernel_rfl) ?_ _
       have BE := qH (BQ.out.trans (hX.mono BQ.out.size))
       clear hX c0
       go_wp2_with fail
       exact ⟨⟨q + 1, HQL.out, by congr 1, by rw [HSK.out]; rfl, BE.out⟩, by simpa [intOf] using HMQ.out⟩
      | true =>
       go_wp2_with fail
       refine sx_startB (B := ws.heap.size) (w0 := ws) (by kernel_rfl) (Below.refl _ _) (fun wd hwd hX => ?_)
       clear hwd
       refine sx_take (i := 0) (oi := ⟨some 102, _, _, _, _, _⟩) (v := ?_) rfl (by kernel_rfl) (by kernel_rfl) (by kernel_rfl) (fun _ _ _ h => h) rfl hX ?_ ?_; rotate_left; (intro W hW; go_simp; try with_reducible rfl); simp only [Act.put, qA, qB, qC]
       refine sx_take (i := 1) (oi := ⟨some 103, _, _, _, _, _⟩) (v := ?_) rfl (by kernel_rfl) (by kernel_rfl) (by kernel_rfl) (fun _ _ _ h => h) rfl hX ?_ ?_; rotate_left; (intro W hW; go_simp; try with_reducible rfl); simp only [Act.put, qA, qB, qC]
       refine sx_take (i := 2) (oi := ⟨some 104, _, _, _, _, _⟩) (v := ?_) rfl (by kernel_rfl) (by kernel_rfl) (by kernel_rfl) (fun _ _ _ h => h) rfl hX ?_ ?_; rotate_left; (intro W hW; go_simp; try with_reducible rfl); simp only [Act.put, qA, qB, qC]
       refine sx_take (i := 3) (oi := ⟨some 105, _, _, _, _, _⟩) (v := .slice (some ⟨bs, os, none⟩) S.length cap) rfl (by kernel_rfl) (by kernel_rfl) (by kernel_rfl) (fun _ _ _ h => h) rfl hX (fun V hV => ld_sts (.tmp 104) rfl rfl ((hV.cell (p := ⟨w.heap.size, 0, none⟩) HKQ.out).trans HC0.out)) ?_; simp only [Act.put, qA, qB, qC]
       refine sx_take (i := 4) (oi := ⟨some 106, _, _, _, _, _⟩) (v := ?_) rfl (by kernel_rfl) (by kernel_rfl) (by kernel_rfl) (fun _ _ _ h => h) rfl hX ?_ ?_; rotate_left; (intro W hW; go_simp; try with_reducible rfl); simp only [Act.put, qA, qB, qC]
       refine sx_take (i := 5) (oi := ⟨some 107, _, _, _, _, _⟩) (v := ?_) rfl (by kernel_rfl) (by kernel_rfl) (by kernel_rfl) (fun _ _ _ h => h) rfl hX ?_ ?_; rotate_left; (intro W hW; go_simp; try with_reducible rfl); simp only [Act.put, qA, qB, qC]
       refine sx_take (i := 6) (oi := ⟨some 108, _, _, _, _, _⟩) (v := ?_) rfl (by kernel_rfl) (by kernel_rfl) (by kernel_rfl) (fun _ _ _ h => h) rfl hX ?_ ?_; rotate_left; (intro W hW; go_simp; try with_reducible rfl); simp only [Act.put, qA, qB, qC]
       refine sx_take (i := 7) (oi := ⟨some 109, _, _, _, _, _⟩) (v := .agg (wds st).toArray) rfl (by kernel_rfl) (by kernel_rfl) (by kernel_rfl) (fun _ _ _ h => h) rfl hX (ld_mid 47 _ rfl bs (os + q * 6) rfl _ _ HSE.out HBS.out Tryd.underlying47 rfl (size_set st)) ?_; simp only [Act.put, qA, qB, qC]
       refine sx_take (i := 8) (oi := ⟨some 110, _, _, _, _, _⟩) (v := ?_) rfl (by kernel_rfl) (by kernel_rfl) (by kernel_rfl) (fun _ _ _ h => h) rfl hX ?_ ?_; rotate_left; (intro W hW; go_simp; try with_reducible rfl); simp only [Act.put, qA, qB, qC]
       refine sx_take (i := 9) (oi := ⟨some 111, _, _, _, _, _⟩) (v := .int .u8 (b : Int)) rfl (by kernel_rfl) (by kernel_rfl) (by kernel_rfl) (fun _ _ _ h => h) rfl hX (fun V _ => ex_cv8 (.tmp 110) rfl rfl HB.out V) ?_; simp only [Act.put, qA, qB, qC]
       refine sx_take (i := 11) (oi := ⟨some 113, _, _, _, _, _⟩) (v := ?_) rfl (by kernel_rfl) (by kernel_rfl) (by kernel_rfl) (fun _ _ _ h => h) rfl hX ?_ ?_; rotate_left; (intro W hW; go_simp; try with_reducible rfl); simp only [Act.put, qA, qB, qC]
       refine sx_take (i := 12) (oi := ⟨some 114, _, _, _, _, _⟩) (v := .slice (some ⟨bs, os, none⟩) S.length cap) rfl (by kernel_rfl) (by kernel_rfl) (by kernel_rfl) (fun _ _ _ h => h) rfl hX (fun V hV => ld_sts (.tmp 113) rfl rfl ((hV.cell (p := ⟨w.heap.size, 0, none⟩) HKQ.out).trans HC0.out)) ?_; simp only [Act.put, qA, qB, qC]
       refine sx_take (i := 13) (oi := ⟨some 115, _, _, _, _, _⟩) (v := ?_) rfl (by kernel_rfl) (by kernel_rfl) (by kernel_rfl) (fun _ _ _ h => h) rfl hX ?_ ?_; rotate_left; (intro W hW; go_simp; try with_reducible rfl); simp only [Act.put, qA, qB, qC]
       refine sx_take (i := 14) (oi := ⟨some 116, _, _, _, _, _⟩) (v := ?_) rfl (by kernel_rfl) (by kernel_rfl) (by kernel_rfl) (fun _ _ _ h => h) rfl hX ?_ ?_; rotate_left; (intro W hW; go_simp; try with_reducible rfl); simp only [Act.put, qA, qB, qC]
       refine sx_take (i := 15) (oi := ⟨some 117, _, _, _, _, _⟩) (v := ?_) rfl (by kernel_rfl) (by kernel_rfl) (by kernel_rfl) (fun _ _ _ h => h) rfl hX ?_ ?_; rotate_left; (intro W hW; go_simp; try with_reducible rfl); simp only [Act.put, qA, qB, qC]
       refine sx_take (i := 16) (oi := ⟨some 118, _, _, _, _, _⟩) (v := .agg (wds st).toArray) rfl (by kernel_rfl) (by kernel_rfl) (by kernel_rfl) (fun _ _ _ h => h) rfl hX (ld_mid 47 _ rfl bs (os + q * 6) rfl _ _ HSE.out HBS.out Tryd.underlying47 rfl (size_set st)) ?_; simp only [Act.put, qA, qB, qC]
       refine sx_take (i := 17) (oi := ⟨some 119, _, _, _, _, _⟩) (v := ?_) rfl (by kernel_rfl) (by kernel_rfl) (by kernel_rfl) (fun _ _ _ h => h) rfl hX ?_ ?_; rotate_left; (intro W hW; go_simp; try with_reducible rfl); simp only [Act.put, qA, qB, qC]
       refine sx_take (i := 18) (oi := ⟨some 120, _, _, _, _, _⟩) (v := .int .u8 (c : Int)) rfl (by kernel_rfl) (by kernel_rfl) (by kernel_rfl) (fun _ _ _ h => h) rfl hX (fun V _ => ex_cv8 (.tmp 119) rfl rfl HC2.out V) ?_; simp only [Act.put, qA, qB, qC]
       refine sx_actB (i := 10) (o := ⟨some 112, _, _, _, _, _⟩) rfl (by kernel_rfl) rfl hX (fun K hK => ?_)
       go_wp2_with fail
       refine (refHas_any st b HB.out wd).mono ?_
       rintro e wa ⟨rfl, hb⟩
       go_wp2_with fail
       refine hK _ _ (hb.mono hX.size) ?_
       clear hK K
       (try simp only [Act.put, qA, qB, qC])
       replace hX := hX.trans (hb.mono hX.size)
       clear hb
       refine sx_actB (i := 19) (o := ⟨some 121, _, _, _, _, _⟩) rfl (by kernel_rfl) rfl hX (fun K hK => ?_)
       go_wp2_with fail
       refine (refHas_any st c HC2.out wa).mono ?_
       rintro e wb ⟨rfl, hb⟩
       go_wp2_with fail
       refine hK _ _ (hb.mono hX.size) ?_
       clear hK K
       (try simp only [Act.put, qA, qB, qC])
       replace hX := hX.trans (hb.mono hX.size)
       clear hb
       refine sx_take (i := 20) (oi := ⟨some 122, _, _, _, _, _⟩) (v := .bool (st b == st c)) rfl (by kernel_rfl) (by kernel_rfl) (by kernel_rfl) (fun _ _ _ h => h) rfl hX (fun V _ => ex_eqBB (.tmp 112) (.tmp 121) rfl rfl rfl V) ?_; simp only [Act.put, qA, qB, qC]
       refine sx_take (i := 21) (oi := ⟨some 123, _, _, _, _, _⟩) (v := ?_) rfl (by kernel_rfl) (by kernel_rfl) (by kernel_rfl) (fun _ _ _ h => h) rfl hX ?_ ?_; rotate_left; (intro W hW; go_simp; try with_reducible rfl); simp only [Act.put, qA, qB, qC]
       refine sx_take (i := 22) (oi := ⟨some 11, _, _, _, _, _⟩) (v := ?_) rfl (by kernel_rfl) (by kernel_rfl) (by kernel_rfl) (fun _ _ _ h => h) rfl hX ?_ ?_; rotate_left; (intro W hW; go_simp; try with_reducible rfl); simp only [Act.put, qA, qB, qC]
       refine wpAnyH_done (by kernel_rfl) ?_ _
       have BE := qH (BQ.out.trans (hX.mono BQ.out.size))
       clear hX c0
       go_wp2_with fail
       exact ⟨⟨q + 1, HQL.out, by congr 1, by rw [HSK.out]; rfl, BE.out⟩, by simpa [intOf] using HMQ.out⟩
     obtain rfl : q = S.length := by omega
     have u1 : ¬ ((S.length : Int) < (S.length : Int)) := Int.lt_irrefl _
     obtain ⟨p1, hp1⟩ : ∃ p, p = (UInt8.ofNat (clN S b)).toNat := ⟨_, rfl⟩
     obtain ⟨p2, hp2⟩ : ∃ p, p = (UInt8.ofNat (clN S c)).toNat := ⟨_, rfl⟩
     have HSM := qH (ctab_same S HB.out HC2.out)
     rw [← hp1, ← hp2] at HSM
     obtain ⟨sm, hsm⟩ : ∃ sm, sm = sameK S b c S.length := ⟨_, rfl⟩
     rw [← hsm] at HSM ⊢
     have LQ := qH (L8.out.below BQ.out L8.out.lt)
     have HLQ := qH LQ.out.lt
     have HCB := qH (show ws.cell? ⟨w4.heap.size, b, none⟩ = some (.int .u8 (p1 : Int)) by
      rw [LQ.out.cell b, HCS.out, dcl_cl HCL.out HB.out, bvs_get _ _ _ (HCAT.out b HB.out), hp1])
     have HCC := qH (show ws.cell? ⟨w4.heap.size, c, none⟩ = some (.int .u8 (p2 : Int)) by
      rw [LQ.out.cell c, HCS.out, dcl_cl HCL.out HC2.out, bvs_get _ _ _ (HCAT.out c HC2.out), hp2])
     have v1 : (b : Int) < 256 := x1
     have v2 : (c : Int) < 256 := Int.ofNat_lt.2 HC2.out
     clear hq hql hp1 hp2 hsm
     go_wp2_with fail
     clear c0
     refine sx_startB (B := ws.heap.size) (w0 := ws) (by kernel_rfl) (Below.refl _ _) (fun wd hwd hX => ?_)
     clear hwd
     refine sx_take (i := 0) (oi := ⟨some 124, _, _, _, _, _⟩) (v := ?_) rfl (by kernel_rfl) (by kernel_rfl) (by kernel_rfl) (fun _ _ _ h => h) rfl hX ?_ ?_; rotate_left; (intro W hW; go_simp; try with_reducible rfl); simp only [Act.put, qA, qB, qC]
     refine sx_take (i := 1) (oi := ⟨some 125, _, _, _, _, _⟩) (v := ?_) rfl (by kernel_rfl) (by kernel_rfl) (by kernel_rfl) (fun _ _ _ h => h) rfl hX ?_ ?_; rotate_left; (intro W hW; go_simp; try with_reducible rfl); simp only [Act.put, qA, qB, qC]
     refine sx_take (i := 2) (oi := ⟨some 126, _, _, _, _, _⟩) (v := ?_) rfl (by kernel_rfl) (by kernel_rfl) (by kernel_rfl) (fun _ _ _ h => h) rfl hX ?_ ?_; rotate_left; (intro W hW; go_simp; try with_reducible rfl); simp only [Act.put, qA, qB, qC]
     refine sx_take (i := 3) (oi := ⟨some 127, _, _, _, _, _⟩) (v := ?_) rfl (by kernel_rfl) (by kernel_rfl) (by kernel_rfl) (fun _ _ _ h => h) rfl hX ?_ ?_; rotate_left; (intro W hW; go_simp; try with_reducible rfl); simp only [Act.put, qA, qB, qC]
     refine sx_take (i := 4) (oi := ⟨some 128, _, _, _, _, _⟩) (v := .int .u8 (p1 : Int)) rfl (by kernel_rfl) (by kernel_rfl) (by kernel_rfl) (fun _ _ _ h => h) rfl hX (fun V hV => ld_u9 (.tmp 127) rfl rfl ((hV.cell (p := ⟨w4.heap.size, b, none⟩) HLQ.out).trans HCB.out)) ?_; simp only [Act.put, qA, qB, qC]
     refine sx_take (i := 5) (oi := ⟨some 129, _, _, _, _, _⟩) (v := ?_) rfl (by kernel_rfl) (by kernel_rfl) (by kernel_rfl) (fun _ _ _ h => h) rfl hX ?_ ?_; rotate_left; (intro W hW; go_simp; try with_reducible rfl); simp only [Act.put, qA, qB, qC]
     refine sx_take (i := 6) (oi := ⟨some 130, _, _, _, _, _⟩) (v := ?_) rfl (by kernel_rfl) (by kernel_rfl) (by kernel_rfl) (fun _ _ _ h => h) rfl hX ?_ ?_; rotate_left; (intro W hW; go_simp; try with_reducible rfl); simp only [Act.put, qA, qB, qC]
     refine sx_take (i := 7) (oi := ⟨some 131, _, _, _, _, _⟩) (v := ?_) rfl (by kernel_rfl) (by kernel_rfl) (by kernel_rfl) (fun _ _ _ h => h) rfl hX ?_ ?_; rotate_left; (intro W hW; go_simp; try with_reducible rfl); simp only [Act.put, qA, qB, qC]
     refine sx_take (i := 8) (oi := ⟨some 132, _, _, _, _, _⟩) (v := .int .u8 (p2 : Int)) rfl (by kernel_rfl) (by kernel_rfl) (by kernel_rfl) (fun _ _ _ h => h) rfl hX (fun V hV => ld_u9 (.tmp 131) rfl rfl ((hV.cell (p := ⟨w4.heap.size, c, none⟩) HLQ.out).trans HCC.out)) ?_; simp only [Act.put, qA, qB, qC]
     refine sx_take (i := 9) (oi := ⟨some 133, _, _, _, _, _⟩) (v := .bool sm) rfl (by kernel_rfl) (by kernel_rfl) (by kernel_rfl) (fun _ _ _ h => h) rfl hX (fun V _ => ex_eq8 (.tmp 128) (.tmp 132) rfl rfl rfl HSM.out V) ?_; simp only [Act.put, qA, qB, qC]
     refine sx_take (i := 10) (oi := ⟨some 134, _, _, _, _, _⟩) (v := .bool false) rfl (by kernel_rfl) (by kernel_rfl) (by kernel_rfl) (fun _ _ _ h => h) rfl hX (fun V _ => ex_neB9 (.tmp 124) (.tmp 133) rfl rfl rfl V) ?_; simp only [Act.put, qA, qB, qC]
     refine wpAnyH_done (by kernel_rfl) ?_ _
     have BE := qH (BQ.out.trans (hX.mono BQ.out.size))
     clear hX u1
     go_wp2_with fail
     exact ⟨⟨c + 1, HC.out, by congr 1, BE.out⟩, by simpa [intOf] using HMC.out⟩
    ·obtain rfl : c = b := by omega
     have y1 : ¬ ((c : Int) < (c : Int)) := Int.lt_irrefl _
     clear hcb hcl
     go_wp2_with fail
     exact ⟨⟨c + 1, HB.out, by congr 1, BQ.out⟩, by simpa [intOf] using HMB.out⟩
   obtain rfl : b = 256 := by omega
   have x1 : ¬ ((256 : Int) < 256) := Int.lt_irrefl _
   have c256 : wq.cell? ⟨w4.heap.size, 256, none⟩ = some (.slice An i cn) := (BQ.out.cell (p := ⟨w4.heap.size, 256, none⟩) L8.out.lt).trans C256.out
   have hew := end_wrap HTV.out HN60.out
   have g1 := hew.1
   have g2 := hew.2
   have BZ := qH (B8.out.trans (BQ.out.mono B8.out.size))
   clear hb256 hbl hew
   go_wp2_with fail
   go_ret
   exact ⟨rfl, BZ.out⟩
  ·have hne : decide (er = 0) = false := decide_eq_false he0
   go_wp2_with (first
    | ((with_reducible refine atDst 3 ?_); refine wpList_new rfl 32 rfl id _ d0 hid HDZ.out rfl (Below.refl w4.heap.size w4) (Nat.le_refl _) ?_; intro w5 hk hb hs ho; have L5 := qH hk; have B5 := qH hb; clear hk hb hs ho; (try simp only [Act.put, qA, qB, qC]))
    | ((with_reducible refine atStore 32 3 21 ?_); refine wpList_stBlk rfl 32 _ _ rfl w4.heap.size c4 rfl rfl 32 _ L5.out V4.out.size (by rw [HDL.out, V4.out.length]) V4.out.one B5.out (Nat.le_refl _) ?_; intro w6 hk hb hs ho; have B6 := qH (B4.out.trans (hb.mono B4.out.size)); clear hk hb hs ho; (try simp only [Act.put, qA, qB, qC])))
   go_ret
   exact ⟨rfl, B6.out⟩
end Go.Proofs.YteadghoojeehlaaDoor
