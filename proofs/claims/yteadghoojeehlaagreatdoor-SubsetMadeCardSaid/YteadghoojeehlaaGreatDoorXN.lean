/-
  Texts of this proof, put together: ThD, ThE, ThF. No statement is proved here.
-/
import Derived.Test.YteadghoojeehlaaGreatDoorXM
import Derived.Test.YteadghoojeehlaaGreatDoorXE
namespace Go.Proofs.YteadghoojeehlaaGreatDoor
open Go.RowKit
set_option linter.unusedSimpArgs false
set_option linter.unusedVariables false
noncomputable def mayNB (S : List St) (a z : Int) : Bool := @decide (MayN S a z) (Classical.propDecidable _)
theorem mayNB_yes {S : List St} {a z : Int} (h : MayN S a z) : mayNB S a z = true := by
 unfold mayNB
 exact (@decide_eq_true_iff _ (Classical.propDecidable _)).2 h
theorem mayNB_no {S : List St} {a z : Int} (h : ¬ MayN S a z) : mayNB S a z = false := by
 unfold mayNB
 exact (@decide_eq_false_iff_not _ (Classical.propDecidable _)).2 h
theorem mayNB_iff {S : List St} {a z : Int} : mayNB S a z = true ↔ MayN S a z := by
 unfold mayNB
 exact @decide_eq_true_iff _ (Classical.propDecidable _)
theorem lt_bigN {i n : Nat} (h : i < n) (hn : n ≤ 2000) : i ≤ 4611686018427387904 := by omega
theorem size_nfa {cs : List Value} (h : cs.length = 3) : (Tryz.prog.info? 24).map (·.size) = some cs.length := by
 rw [h]
 kernel_rfl
theorem size_nst {cs : List Value} (h : cs.length = 6) : (Tryz.prog.info? 55).map (·.size) = some cs.length := by
 rw [h]
 kernel_rfl
theorem inf_nst : (Tryz.prog.info? 55).map (fun i => (i.zero, i.size, i.bytes)) = some (some (.agg (stc ⟨fun _ => false, 0, []⟩ (.slice none 0 0)).toArray), 6, 64) := by kernel_rfl
def okS (n : Nat) (s : St) : Prop := s.to < (n : Int) ∧ s.free.length ≤ 8 ∧ ∀ f ∈ s.free, 0 ≤ f ∧ f < (n : Int)
theorem MayN.ok {S : List St} {a z : Int} (h : MayN S a z) {i : Nat} {s : St} (hs : S[i]? = some s) : okS S.length s :=
 have hm := List.mem_of_getElem? hs
 ⟨h.to s hm, h.free8 s hm, h.free s hm⟩
set_option maxHeartbeats 4000000 in
set_option maxRecDepth 1000000 in
theorem refMayN_any (S : List St) (a z : Int) (cs : List Value) (w : World) (hv : NfaV w cs S a z) :
  Calls Tryz.prog 23 #[.agg cs.toArray] w fun e w' => e = .returned (.bool (mayNB S a z)) ∧ Below w.heap.size w w' := by
 have V := qH hv
 obtain ⟨A, cap, rfl, hlc, hcm, hA0⟩ := hv.len
 have HLC := qH hlc
 have HCM := qH hcm
 clear hv hlc hcm hA0
 by_cases h1 : 2000 < S.length
 ·have i1 : (2000 : Int) < (S.length : Int) := by omega
  have HF := qH (mayNB_no (S := S) (a := a) (z := z) fun h => by have := h.few; omega)
  clear h1
  go_enter Tryz.func23, Tryz.ntmps23
  go_wp2_with ((with_reducible refine atDst 1 ?_); refine wpList_box rfl 24 _ rfl [.slice A S.length cap, .int .i64 a, .int .i64 z] rfl (Below.refl w.heap.size w) (Nat.le_refl _) ?_; intro w1 hk1 hb1 hs1 _; have K1 := qH hk1; have B1 := qH hb1; have c0 := hk1.cell 0; have c1 := hk1.cell 1; have c2 := hk1.cell 2; clear hk1 hb1 hs1; (try simp only [Act.put, qA, qB, qC]))
  go_ret
  rw [HF.out]
  exact ⟨rfl, B1.out⟩
 have i1 : ¬ ((2000 : Int) < (S.length : Int)) := by omega
 by_cases h2 : a < 0
 ·have HF := qH (mayNB_no (S := S) (a := a) (z := z) fun h => by have := h.a0; omega)
  clear h1
  go_enter Tryz.func23, Tryz.ntmps23
  go_wp2_with ((with_reducible refine atDst 1 ?_); refine wpList_box rfl 24 _ rfl [.slice A S.length cap, .int .i64 a, .int .i64 z] rfl (Below.refl w.heap.size w) (Nat.le_refl _) ?_; intro w1 hk1 hb1 hs1 _; have K1 := qH hk1; have B1 := qH hb1; have c0 := hk1.cell 0; have c1 := hk1.cell 1; have c2 := hk1.cell 2; clear hk1 hb1 hs1; (try simp only [Act.put, qA, qB, qC]))
  go_ret
  rw [HF.out]
  exact ⟨rfl, B1.out⟩
 by_cases h3 : (S.length : Int) ≤ a
 ·have HF := qH (mayNB_no (S := S) (a := a) (z := z) fun h => by have := h.a1; omega)
  clear h1
  go_enter Tryz.func23, Tryz.ntmps23
  go_wp2_with ((with_reducible refine atDst 1 ?_); refine wpList_box rfl 24 _ rfl [.slice A S.length cap, .int .i64 a, .int .i64 z] rfl (Below.refl w.heap.size w) (Nat.le_refl _) ?_; intro w1 hk1 hb1 hs1 _; have K1 := qH hk1; have B1 := qH hb1; have c0 := hk1.cell 0; have c1 := hk1.cell 1; have c2 := hk1.cell 2; clear hk1 hb1 hs1; (try simp only [Act.put, qA, qB, qC]))
  go_ret
  rw [HF.out]
  exact ⟨rfl, B1.out⟩
 by_cases h4 : z < 0
 ·have HF := qH (mayNB_no (S := S) (a := a) (z := z) fun h => by have := h.z0; omega)
  clear h1
  go_enter Tryz.func23, Tryz.ntmps23
  go_wp2_with ((with_reducible refine atDst 1 ?_); refine wpList_box rfl 24 _ rfl [.slice A S.length cap, .int .i64 a, .int .i64 z] rfl (Below.refl w.heap.size w) (Nat.le_refl _) ?_; intro w1 hk1 hb1 hs1 _; have K1 := qH hk1; have B1 := qH hb1; have c0 := hk1.cell 0; have c1 := hk1.cell 1; have c2 := hk1.cell 2; clear hk1 hb1 hs1; (try simp only [Act.put, qA, qB, qC]))
  go_ret
  rw [HF.out]
  exact ⟨rfl, B1.out⟩
 by_cases h5 : (S.length : Int) ≤ z
 ·have HF := qH (mayNB_no (S := S) (a := a) (z := z) fun h => by have := h.z1; omega)
  clear h1
  go_enter Tryz.func23, Tryz.ntmps23
  go_wp2_with ((with_reducible refine atDst 1 ?_); refine wpList_box rfl 24 _ rfl [.slice A S.length cap, .int .i64 a, .int .i64 z] rfl (Below.refl w.heap.size w) (Nat.le_refl _) ?_; intro w1 hk1 hb1 hs1 _; have K1 := qH hk1; have B1 := qH hb1; have c0 := hk1.cell 0; have c1 := hk1.cell 1; have c2 := hk1.cell 2; clear hk1 hb1 hs1; (try simp only [Act.put, qA, qB, qC]))
  go_ret
  rw [HF.out]
  exact ⟨rfl, B1.out⟩
 have HMK := qH (show (∀ i s, S[i]? = some s → okS S.length s) → MayN S a z from fun h => ⟨by omega, by omega, by omega, by omega, by omega, fun s hs => by
   obtain ⟨i, hi, rfl⟩ := List.getElem_of_mem hs
   exact (h i _ (List.getElem?_eq_getElem hi)).1, fun s hs => by
   obtain ⟨i, hi, rfl⟩ := List.getElem_of_mem hs
   exact (h i _ (List.getElem?_eq_getElem hi)).2.1, fun s hs => by
   obtain ⟨i, hi, rfl⟩ := List.getElem_of_mem hs
   exact (h i _ (List.getElem?_eq_getElem hi)).2.2⟩)
 have HN := qH (show S.length ≤ 2000 by omega)
 obtain ⟨i0, hi0, hz0, hs0, hy0⟩ := infoP inf_nst
 obtain ⟨zz, hzz⟩ : ∃ z : List Value, z = stc ⟨fun _ => false, 0, []⟩ (.slice none 0 0) := ⟨_, rfl⟩
 have HZL := qH (show zz.length = 6 by rw [hzz]; rfl)
 have HZ0 := qH (show i0.zero = some (.agg zz.toArray) by rw [hzz]; exact hz0)
 clear h1 hzz hz0 hs0 hy0
 go_enter Tryz.func23, Tryz.ntmps23
 go_wp2_with ((with_reducible refine atDst 1 ?_); refine wpList_box rfl 24 _ rfl [.slice A S.length cap, .int .i64 a, .int .i64 z] rfl (Below.refl w.heap.size w) (Nat.le_refl _) ?_; intro w1 hk1 hb1 hs1 _; have K1 := qH hk1; have B1 := qH hb1; have c0 := hk1.cell 0; have c1 := hk1.cell 1; have c2 := hk1.cell 2; clear hk1 hb1 hs1; (try simp only [Act.put, qA, qB, qC]))
 go_loopw [4] (fun iv wl => ∃ i : Nat, i ≤ S.length ∧ iv = .int .i64 (i : Int) ∧ (∀ i' s, i' < i → S[i']? = some s → okS S.length s) ∧ Below w1.heap.size w1 wl) (fun iv _ => S.length - (intOf iv).toNat)
 case atStart => exact ⟨0, Nat.zero_le _, by simp, fun i' s h => absurd h (Nat.not_lt_zero i'), Below.refl _ _⟩
 obtain ⟨i, hi, rfl, hok, hb⟩ := hrel
 have HOK := qH hok
 have BR := qH hb
 have BW := qH (B1.out.trans (hb.mono B1.out.size))
 clear hok hb c0 c1 c2
 have KR := qH (K1.out.below BR.out K1.out.lt)
 have c0 := KR.out.cell 0
 by_cases hin : i < S.length
 ·have x1 : (i : Int) < (S.length : Int) := Int.ofNat_lt.2 hin
  have HI := qH hin
  have HMI := qH (sub_next hin)
  have e3 := wrap_one i (lt_bigN HI.out HN.out)
  have e4 := wrap_one' i (lt_bigN HI.out HN.out)
  obtain ⟨s, hs⟩ : ∃ s, S[i]? = some s := ⟨_, List.getElem?_eq_getElem hin⟩
  have HS := qH hs
  obtain ⟨b, off, Af, cf, rfl, hlt, hr, hrow⟩ := (V.out.below BW.out).whole hs
  have HR := qH hr
  have HROW := qH hrow
  clear hi hin hs hr hrow hlt
  obtain ⟨wq, hwq⟩ : ∃ v : World, v = wr := ⟨_, rfl⟩
  subst hwq
  obtain ⟨fl, hfl⟩ : ∃ n, n = s.free.length := ⟨_, rfl⟩
  have HFL := qH hfl
  obtain ⟨st, hst⟩ : ∃ l, l = stc s (.slice Af fl cf) := ⟨_, rfl⟩
  rw [← hfl] at HROW
  have HR2 := qH (show wq.rangeAt b (off + i * 6) st by rw [hst, hfl]; exact HR.out)
  have HT6 := qH (show st.length = 6 by rw [hst]; rfl)
  have HT1 := qH (show st.all (·.oneCell') = true by rw [hst]; exact stc_one _ _ _ _)
  have HT4 := qH (show st[4]? = some (.int .i64 s.to) by rw [hst]; rfl)
  have HT5 := qH (show st[5]? = some (.slice Af fl cf) by rw [hst]; rfl)
  obtain ⟨to, hto⟩ : ∃ n, n = s.to := ⟨_, rfl⟩
  have HTO := qH hto
  rw [← hto] at HT4
  clear hst hfl HR hto
  by_cases h1 : (S.length : Int) ≤ to
  ·have HT := qH (mayNB_no (S := S) (a := a) (z := z) fun h => by have h9 := (h.ok HS.out).1; rw [← HTO.out] at h9; omega)
   go_wp2_with (first
    | ((with_reducible refine atDst 43 ?_); refine wpList_load_mid rfl 55 _ rfl b (off + i * 6) rfl st _ HR2.out Tryz.underlying55 rfl (size_nst HT6.out) ?_; (try simp only [Act.put, qA, qB, qC]))
    | ((with_reducible refine atDst 5 ?_); refine wpList_new rfl 55 rfl i0 _ zz hi0 HZ0.out rfl (Below.refl wq.heap.size wq) (Nat.le_refl _) ?_; intro w4 hk hb hs ho; have K4 := qH hk; have B4 := qH hb; clear hk hb hs ho; (try simp only [Act.put, qA, qB, qC]))
    | ((with_reducible refine atStore 55 5 43 ?_); refine wpList_stBlk rfl 55 _ _ rfl wq.heap.size st rfl rfl 55 _ K4.out (size_nst HT6.out) (by rw [HZL.out, HT6.out]) HT1.out B4.out (Nat.le_refl _) ?_; intro w5 hk hb hs ho; have K5 := qH hk; have B5 := qH hb; have B5R := qH (BR.out.trans (hb.mono BR.out.size)); have BZ := qH (BW.out.trans (hb.mono BW.out.size)); have k4 := hk.cell 4; rw [HT4.out] at k4; have k5 := hk.cell 5; rw [HT5.out] at k5; clear hk hb hs ho; (try simp only [Act.put, qA, qB, qC])))
   go_ret
   rw [HT.out]
   exact ⟨rfl, BZ.out⟩
  by_cases h2 : 8 < fl
  ·have d1 : (8 : Int) < (fl : Int) := by omega
   have HT := qH (mayNB_no (S := S) (a := a) (z := z) fun h => by have h9 := (h.ok HS.out).2.1; rw [← HFL.out] at h9; omega)
   clear h2
   go_wp2_with (first
    | ((with_reducible refine atDst 43 ?_); refine wpList_load_mid rfl 55 _ rfl b (off + i * 6) rfl st _ HR2.out Tryz.underlying55 rfl (size_nst HT6.out) ?_; (try simp only [Act.put, qA, qB, qC]))
    | ((with_reducible refine atDst 5 ?_); refine wpList_new rfl 55 rfl i0 _ zz hi0 HZ0.out rfl (Below.refl wq.heap.size wq) (Nat.le_refl _) ?_; intro w4 hk hb hs ho; have K4 := qH hk; have B4 := qH hb; clear hk hb hs ho; (try simp only [Act.put, qA, qB, qC]))
    | ((with_reducible refine atStore 55 5 43 ?_); refine wpList_stBlk rfl 55 _ _ rfl wq.heap.size st rfl rfl 55 _ K4.out (size_nst HT6.out) (by rw [HZL.out, HT6.out]) HT1.out B4.out (Nat.le_refl _) ?_; intro w5 hk hb hs ho; have K5 := qH hk; have B5 := qH hb; have B5R := qH (BR.out.trans (hb.mono BR.out.size)); have BZ := qH (BW.out.trans (hb.mono BW.out.size)); have k4 := hk.cell 4; rw [HT4.out] at k4; have k5 := hk.cell 5; rw [HT5.out] at k5; clear hk hb hs ho; (try simp only [Act.put, qA, qB, qC])))
   go_ret
   rw [HT.out]
   exact ⟨rfl, BZ.out⟩
  have d1 : ¬ ((8 : Int) < (fl : Int)) := by omega
  have HF8 := qH (show fl ≤ 8 by omega)
  clear h2
  go_wp2_with (first
   | ((with_reducible refine atDst 43 ?_); refine wpList_load_mid rfl 55 _ rfl b (off + i * 6) rfl st _ HR2.out Tryz.underlying55 rfl (size_nst HT6.out) ?_; (try simp only [Act.put, qA, qB, qC]))
   | ((with_reducible refine atDst 5 ?_); refine wpList_new rfl 55 rfl i0 _ zz hi0 HZ0.out rfl (Below.refl wq.heap.size wq) (Nat.le_refl _) ?_; intro w4 hk hb hs ho; have K4 := qH hk; have B4 := qH hb; clear hk hb hs ho; (try simp only [Act.put, qA, qB, qC]))
   | ((with_reducible refine atStore 55 5 43 ?_); refine wpList_stBlk rfl 55 _ _ rfl wq.heap.size st rfl rfl 55 _ K4.out (size_nst HT6.out) (by rw [HZL.out, HT6.out]) HT1.out B4.out (Nat.le_refl _) ?_; intro w5 hk hb hs ho; have K5 := qH hk; have B5 := qH hb; have B5R := qH (BR.out.trans (hb.mono BR.out.size)); have BZ := qH (BW.out.trans (hb.mono BW.out.size)); have k4 := hk.cell 4; rw [HT4.out] at k4; have k5 := hk.cell 5; rw [HT5.out] at k5; clear hk hb hs ho; (try simp only [Act.put, qA, qB, qC])))
  go_loopw [6] (fun jv wl => ∃ j : Nat, j ≤ fl ∧ jv = .int .i64 (j : Int) ∧ (∀ m f, m < j → s.free[m]? = some f → 0 ≤ f ∧ f < (S.length : Int)) ∧ Below w5.heap.size w5 wl) (fun jv _ => fl - (intOf jv).toNat)
  case atStart => exact ⟨0, Nat.zero_le _, by simp, fun m f h => absurd h (Nat.not_lt_zero m), Below.refl _ _⟩
  clear k4 k5
  obtain ⟨j, hj, rfl, hfr, hb⟩ := hrel
  have HFR := qH hfr
  have B5J := qH hb
  have BJ := qH (B5R.out.trans (hb.mono B5R.out.size))
  have BY := qH (BZ.out.trans (hb.mono BZ.out.size))
  have k5 := (K5.out.below hb K5.out.lt).cell 5
  rw [HT5.out] at k5
  have RX := qH (HROW.out.below (B5.out.trans (hb.mono B5.out.size)))
  clear hfr hb
  by_cases hjf : j < fl
  ·have y1 : (j : Int) < (fl : Int) := Int.ofNat_lt.2 hjf
   have HJ := qH hjf
   have HMJ := qH (sub_next hjf)
   have f3 := wrap_one j (lt_bigN HJ.out (Nat.le_trans HF8.out (by decide)))
   have f4 := wrap_one' j (lt_bigN HJ.out (Nat.le_trans HF8.out (by decide)))
   obtain ⟨f, hf⟩ : ∃ f, s.free[j]? = some f := ⟨_, List.getElem?_eq_getElem (by rw [← HFL.out]; exact hjf)⟩
   have HF := qH hf
   obtain ⟨bf, of, rfl, hbf, hcf⟩ := RX.out.at_ (by rw [nums_length, ← HFL.out]; omega)
   have hcj := hcf j (.int .i64 f) (by
    obtain ⟨hjl, rfl⟩ := List.getElem?_eq_some_iff.1 hf
    exact nums_get _ _ _ hjl)
   clear hj hjf hf hcf hbf
   by_cases g1 : f < 0
   ·have HT := qH (mayNB_no (S := S) (a := a) (z := z) fun h => by have h9 := (h.ok HS.out).2.2 f (List.mem_of_getElem? HF.out); omega)
    go_wp2_with fail
    go_ret
    rw [HT.out]
    exact ⟨rfl, BY.out⟩
   by_cases g2 : (S.length : Int) ≤ f
   ·have HT := qH (mayNB_no (S := S) (a := a) (z := z) fun h => by have h9 := (h.ok HS.out).2.2 f (List.mem_of_getElem? HF.out); omega)
    go_wp2_with fail
    go_ret
    rw [HT.out]
    exact ⟨rfl, BY.out⟩
   have HFF := qH (show 0 ≤ f ∧ f < (S.length : Int) from ⟨by omega, by omega⟩)
   go_wp2_with fail
   refine ⟨⟨j + 1, HJ.out, by congr 1, fun m f' hm hf' => ?_, ?_⟩, by simpa [intOf] using HMJ.out⟩
   ·rcases Nat.lt_or_ge m j with hlt | hge
    ·exact HFR.out m f' hlt hf'
    ·obtain rfl : m = j := by omega
     rw [HF.out] at hf'
     injection hf' with hf'
     rw [← hf']
     exact HFF.out
   ·exact B5J.out
  obtain rfl : j = fl := by omega
  have y1 : ¬ ((j : Int) < (j : Int)) := by omega
  have HFA := qH (show okS S.length s from ⟨by rw [← HTO.out]; omega, by rw [← HFL.out]; exact HF8.out, fun f hf => by
   obtain ⟨m, hm, rfl⟩ := List.getElem_of_mem hf
   exact HFR.out m _ (by rw [HFL.out]; exact hm) (List.getElem?_eq_getElem hm)⟩)
  go_wp2_with fail
  refine ⟨⟨i + 1, HI.out, by congr 1, fun i' s' hi' hs' => ?_, BJ.out⟩, by simpa [intOf] using HMI.out⟩
  rcases Nat.lt_or_ge i' i with hlt | hge
  ·exact HOK.out i' s' hlt hs'
  ·obtain rfl : i' = i := by omega
   rw [HS.out] at hs'
   injection hs' with hs'
   rw [← hs']
   exact HFA.out
 ·obtain rfl : i = S.length := by omega
  have x1 : ¬ ((S.length : Int) < (S.length : Int)) := by omega
  have HT := qH (mayNB_yes (HMK.out fun i s hs => HOK.out i s (List.getElem?_eq_some_iff.1 hs).1 hs))
  go_wp2_with fail
  go_ret
  rw [HT.out]
  exact ⟨rfl, BW.out⟩
theorem nums_lenJ (t : Nat → Bool) (n : Nat) : (nums .i64 (risJ t n)).length ≤ n := by rw [nums_length]; exact risJ_len t n
set_option maxHeartbeats 4000000 in
set_option maxRecDepth 1000000 in
theorem refMarkedN_own (n : Nat) (hn : n ≤ 2000) (t : Nat → Bool) (V : Value) (w : World) (hr : Row w V (bcs n t)) :
  Calls Tryz.prog 44 #[V] w fun e w' => ∃ v, e = .returned v ∧ Row w' v (nums .i64 (risJ t n)) ∧ (∀ k, v.ownBlock = some k → w.heap.size ≤ k) ∧ Below w.heap.size w w' := by
 have R0 := qH hr
 have HN := qH hn
 obtain ⟨A, cap, rfl, a1, a2, a0, a3⟩ := hr
 rw [bcs_len] at a1 R0 ⊢
 clear a3 a0 a2 a1 hn
 obtain ⟨i1, hi1, hy0, hy1, hy2⟩ := infoP inf_int
 go_enter Tryz.func44, Tryz.ntmps44
 go_wp2_with fail
 go_loopw [3, 4] (fun v i wl => ∃ j : Nat, j ≤ n ∧ i = .int .i64 (j : Int) ∧ wl.ownsRow w.heap.size 3 1 v (nums .i64 (risJ t j)).length (nums .i64 (risJ t j)) ∧ Below w.heap.size w wl) (fun _ i _ => n - (intOf i).toNat)
 case atStart => exact ⟨0, Nat.zero_le _, by simp, ownN _ _ _, Below.refl _ _⟩
 case round =>
  obtain ⟨j, hj, rfl, ho, hb⟩ := hrel
  have HO := qH ho
  have HB := qH hb
  clear ho hb
  by_cases hjl : j < n
  ·have j1 : (j : Int) < (n : Int) := Int.ofNat_lt.2 hjl
   obtain ⟨b0, off, rfl, hb0, hcell⟩ := (R0.out.below HB.out).at_ (by rw [bcs_len]; omega)
   have hcj := hcell j _ (bcs_get t hjl)
   have HJ := qH hjl
   have HMJ := qH (sub_next hjl)
   have e3 := wrap_one j (lt_bigN HJ.out HN.out)
   have e4 := wrap_one' j (lt_bigN HJ.out HN.out)
   obtain ⟨q, hq⟩ : ∃ q, t j = q := ⟨_, rfl⟩
   rw [hq] at hcj
   have HS := qH (risJ_succ t j)
   have HLN := qH (nums_lenJ t j)
   have HQ := qH hq
   clear hcell hb0 hjl hj hq
   cases q with
   | true =>
    have R1 := qH (rowB (n := 1) (show Blk (wr.alloc (.cells #[.int .i64 (j : Int)] 3)) wr.heap.size 3 (nums .i64 [(j : Int)]) from Blk.new wr 3 (nums .i64 [(j : Int)])) rfl (by omega))
    go_wp2_with ((with_reducible refine atDst 18 ?_); refine wpList_appR (w0 := w) rfl (.tmp 15) (.tmp 17) 53 rfl 3 i1 (.int .i64 0) 8 Tryz.underlying53 hi1 hy0 hy1 hy2 rfl _ _ _ rfl (HO.out.alloc _) _ (nums .i64 [(j : Int)]) rfl R1.out (nums_one _ _) (by have := HLN.out; have := HJ.out; have := HN.out; rw [nums_length .i64 [(j : Int)]]; simp only [List.length_singleton]; omega) (by omega) (HB.out.alloc HB.out.size _) ?_; intro v3 w4 ho4 _ hb4 _; have O4 := qH ho4; have B4 := qH hb4; clear ho4 hb4; (try simp only [Act.put, qA, qB, qC]))
    refine ⟨⟨j + 1, HJ.out, by congr 1, ?_, B4.out⟩, by simpa [intOf] using HMJ.out⟩
    rw [HS.out, HQ.out, if_pos rfl, nums_append, List.length_append]
    exact O4.out
   | false =>
    go_wp2_with fail
    refine ⟨⟨j + 1, HJ.out, by congr 1, ?_, HB.out⟩, by simpa [intOf] using HMJ.out⟩
    rw [HS.out, HQ.out, if_neg Bool.false_ne_true]
    exact HO.out
  ·obtain rfl : j = n := by omega
   have j1 : ¬ ((j : Int) < (j : Int)) := by omega
   have HR := qH (Row.of_own HO.out)
   have HA := qH (own_above HO.out)
   clear HO
   go_wp2_with fail
   go_ret
   exact ⟨_, rfl, HR.out, HA.out, HB.out⟩
set_option maxHeartbeats 4000000 in
set_option maxRecDepth 1000000 in
theorem refHasN_any (l : List Int) (k : Int) (V : Value) (w : World) (hr : Row w V (nums .i64 l)) :
  Calls Tryz.prog 28 #[V, .int .i64 k] w fun e w' => e = .returned (.bool (decide (k ∈ l))) ∧ w' = w := by
 have R0 := qH hr
 obtain ⟨A, cap, rfl, a1, a2, a0, a3⟩ := hr
 rw [nums_length] at a1 R0 ⊢
 have HN := qH (And.intro a1 a2)
 clear a3 a0 a2 a1
 go_enter Tryz.func28, Tryz.ntmps28
 go_wp2_with fail
 go_loopw [5] (fun i wl => ∃ j : Nat, j ≤ l.length ∧ i = .int .i64 (j : Int) ∧ (∀ m, m < j → l[m]? ≠ some k) ∧ wl = w) (fun i _ => l.length - (intOf i).toNat)
 case atStart => exact ⟨0, Nat.zero_le _, by simp, fun m h => absurd h (Nat.not_lt_zero m), rfl⟩
 case round =>
  obtain ⟨j, hj, rfl, hno, rfl⟩ := hrel
  have HO := qH hno
  clear hno
  by_cases hjl : j < l.length
  ·have j1 : (j : Int) < (l.length : Int) := Int.ofNat_lt.2 hjl
   obtain ⟨b0, off, rfl, hb0, hcell⟩ := R0.out.at_ (by rw [nums_length]; omega)
   obtain ⟨x, hx⟩ : ∃ x, l[j]? = some x := ⟨_, List.getElem?_eq_getElem hjl⟩
   have hcj := hcell j (.int .i64 x) (by simp [nums, hx])
   have HX := qH hx
   have HJ := qH hjl
   have HMJ := qH (sub_next hjl)
   have e3 := wrap_len HJ.out HN.out.1 HN.out.2
   have e4 := wrap_len' HJ.out HN.out.1 HN.out.2
   clear hcell hb0 hjl hj hx
   by_cases hxk : x = k
   ·subst hxk
    have HT := qH (show decide (x ∈ l) = true from decide_eq_true (List.mem_of_getElem? HX.out))
    go_wp2_with fail
    go_ret
    rw [HT.out]
    exact ⟨rfl, rfl⟩
   ·have HNX := qH hxk
    go_wp2_with fail
    refine ⟨⟨j + 1, HJ.out, by congr 1, fun m hm => ?_, trivial⟩, by simpa [intOf] using HMJ.out⟩
    rcases Nat.lt_succ_iff_lt_or_eq.1 hm with hm | rfl
    ·exact HO.out m hm
    ·rw [HX.out]
     exact fun h => HNX.out (Option.some.inj h)
  ·obtain rfl : j = l.length := by omega
   have j1 : ¬ ((l.length : Int) < (l.length : Int)) := by omega
   have HT := qH (show decide (k ∈ l) = false from decide_eq_false fun h => by
    obtain ⟨m, hm⟩ := List.mem_iff_getElem?.1 h
    have hlt := (List.getElem?_eq_some_iff.1 hm).1
    exact HO.out m hlt hm)
   go_wp2_with fail
   go_ret
   rw [HT.out]
   exact ⟨rfl, rfl⟩
def cellB (w : World) (g q : Nat) : Bool := match w.cell? ⟨g, q, none⟩ with | some (.bool b) => b | _ => false
def bOf : Value → Nat | .bool true => 1 | _ => 0
def farW (g n : Nat) (v : Value) (w : World) : Nat := 2 * unm n (cellB w g) + bOf v
theorem unm_congr {n : Nat} {t u : Nat → Bool} (h : ∀ q, q < n → t q = u q) : unm n t = unm n u := by
 unfold unm
 rw [List.filter_congr fun q hq => by rw [h q (List.mem_range.1 hq)]]
theorem unm_blk {w : World} {g n : Nat} {t : Nat → Bool} (h : Blk w g 4 (bcs n t)) : unm n (cellB w g) = unm n t :=
 unm_congr fun q hq => by
  unfold cellB
  rw [h.cell, bcs_get t hq]
theorem farW_yes {w : World} {g n : Nat} {t : Nat → Bool} (h : Blk w g 4 (bcs n t)) : farW g n (.bool true) w = 2 * unm n t + 1 := by
 unfold farW
 rw [unm_blk h]
 rfl
theorem farW_no {w : World} {g n : Nat} {t : Nat → Bool} (h : Blk w g 4 (bcs n t)) : farW g n (.bool false) w = 2 * unm n t := by
 unfold farW
 rw [unm_blk h]
 rfl
theorem Ps.far {S : List St} {P : Nat → Prop} {t0 t : Nat → Bool} {ag : Bool} {kk g : Nat} {w w' : World} (h : Ps S P t0 ag S.length kk t) (h0 : Blk w g 4 (bcs S.length t0)) (h1 : Blk w' g 4 (bcs S.length t)) :
  farW g S.length (.bool ag) w' < farW g S.length (.bool true) w := by
 rw [farW_yes h0]
 cases ag with
 | true =>
  rw [farW_yes h1]
  have := h.less
  omega
 | false =>
  rw [farW_no h1]
  have := unm_congr (h.still rfl)
  omega
structure Pq (S : List St) (P : Nat → Prop) (ag : Bool) (t : Nat → Bool) : Prop where
 seeds : ∀ q, q < S.length → P q → t q = true
 sound : ∀ q, q < S.length → t q = true → Rc S P q
 done : ag = false → ∀ q, q < S.length → (t q = true ↔ Rc S P q)
theorem Ps.all {S : List St} {P : Nat → Prop} {t0 t : Nat → Bool} {ag : Bool} {kk : Nat} (h : Ps S P t0 ag S.length kk t) : Pq S P ag t :=
 ⟨h.seeds, h.sound, fun ha q hq => by subst ha; exact h.end_ hq⟩
theorem Pq.first {S : List St} {l : List Int} : Pq S (ofL l) true (sdJ l l.length) :=
 ⟨fun q _ h => sdJ_all.2 h, fun q hq h => .base (sdJ_all.1 h) hq, fun h => (by cases h)⟩
theorem Pq.cls {S : List St} {l : List Int} {t : Nat → Bool} (h : Pq S (ofL l) false t) : risJ t S.length = clsN S l := by
 unfold clsN
 refine risJ_congr fun q hq => ?_
 rw [Bool.eq_iff_iff, rcB_iff]
 exact h.done rfl q hq
noncomputable def cloN (S : List St) (a z : Int) (l : List Int) : List Int := if mayNB S a z then clsN S l else []
theorem cloN_no {S : List St} {a z : Int} {l : List Int} (h : mayNB S a z = false) : cloN S a z l = [] := by
 unfold cloN
 rw [h]
 rfl
theorem cloN_yes {S : List St} {a z : Int} {l : List Int} (h : mayNB S a z = true) : cloN S a z l = clsN S l := by
 unfold cloN
 rw [h]
 rfl
set_option maxHeartbeats 4000000 in
set_option maxRecDepth 1000000 in
theorem refCloseN_own (S : List St) (a z : Int) (cs : List Value) (l : List Int) (V : Value) (w : World) (hv : NfaV w cs S a z) (hr : Row w V (nums .i64 l)) :
  Calls Tryz.prog 25 #[.agg cs.toArray, V] w fun e w' => ∃ v, e = .returned v ∧ Row w' v (nums .i64 (cloN S a z l)) ∧ (∀ k, v.ownBlock = some k → w.heap.size ≤ k) ∧ Below w.heap.size w w' := by
 have N0 := qH hv
 have R0 := qH hr
 obtain ⟨A, cap, rfl, hlc, hcm, hA0⟩ := hv.len
 obtain ⟨A2, cap2, rfl, a1, a2, a0, a3⟩ := hr
 rw [nums_length] at a1 R0 ⊢
 have HLN := qH (And.intro a1 a2)
 have HCN := qH (And.intro hlc hcm)
 clear a3 a0 a2 a1 hv hlc hcm hA0
 obtain ⟨i2, hi2, hz2, hs2, hy2⟩ := infoP inf_bool
 go_enter Tryz.func25, Tryz.ntmps25
 go_wp2_with (first
  | ((with_reducible refine atDst 2 ?_); refine wpList_box rfl 24 _ rfl [.slice A S.length cap, .int .i64 a, .int .i64 z] rfl (Below.refl w.heap.size w) (Nat.le_refl _) ?_; intro w1 hk1 hb1 hs1 _; have K1 := qH hk1; have B1 := qH hb1; clear hk1 hb1 hs1; (try simp only [Act.put, qA, qB, qC]))
  | ((with_reducible refine atDst 11 ?_); refine wpList_ldBlk rfl 24 _ rfl w.heap.size rfl 24 _ _ K1.out Tryz.underlying24 rfl (size_nfa rfl) ?_; (try simp only [Act.put, qA, qB, qC])))
 refine (refMayN_any S a z _ w1 (N0.out.below B1.out)).mono ?_
 rintro e w2 ⟨rfl, hb2⟩
 have B2 := qH hb2
 have BW2 := qH (B1.out.trans (hb2.mono B1.out.size))
 have K2 := qH (K1.out.below hb2 K1.out.lt)
 clear hb2
 obtain ⟨m, hm⟩ : ∃ m, mayNB S a z = m := ⟨_, rfl⟩
 rw [hm]
 cases m with
 | false =>
  have HC := qH (cloN_no (l := l) hm)
  clear hm
  go_wp2_with fail
  go_ret
  rw [HC.out]
  exact ⟨_, rfl, Row.of_own (ownN w2 0 0), fun k hk => (by cases hk), BW2.out⟩
 | true =>
  have HC := qH (cloN_yes (l := l) hm)
  have HM := qH (mayNB_iff.1 hm)
  clear hm
  have HN := qH HM.out.few
  have HY2 := qH (show i2.bytes * S.length ≤ 281474976710656 by have := HN.out; rw [hy2]; omega)
  have HN3 := qH (show S.length ≤ 9223372036854775807 by have := HN.out; omega)
  have c0 := K2.out.cell 0
  have N2 := qH (N0.out.below BW2.out)
  have R2 := qH (R0.out.below BW2.out)
  clear hy2
  go_wp2_with ((with_reducible refine atDst 17 ?_); refine wpList_mk _ rfl _ _ 29 rfl 4 i2 (.bool false) Tryz.underlying29 hi2 hz2 hs2 rfl S.length _ _ _ _ rfl rfl rfl rfl HY2.out HN3.out ?_; intro w3 hk hb hs; have T3 := qH hk; have B3 := qH hb; clear hk hb hs c0; (try simp only [Act.put, qA, qB, qC]))
  go_loopw [6] (fun iv wl => ∃ j : Nat, j ≤ l.length ∧ iv = .int .i64 (j : Int) ∧ Blk wl w2.heap.size 4 (bcs S.length (sdJ l j)) ∧ Below w2.heap.size w2 wl) (fun iv _ => l.length - (intOf iv).toNat)
  case atStart => exact ⟨0, Nat.zero_le _, by simp, by rw [sdJ_zero, ← bcs_no]; exact T3.out, B3.out⟩
  obtain ⟨j, hj, rfl, ht, hb⟩ := hrel
  have TQ := qH ht
  have BQ := qH hb
  clear ht hb
  by_cases hjl : j < l.length
  ·have j1 : (j : Int) < (l.length : Int) := Int.ofNat_lt.2 hjl
   obtain ⟨x, hx⟩ : ∃ x, l[j]? = some x := ⟨_, List.getElem?_eq_getElem hjl⟩
   have HX := qH hx
   obtain ⟨b0, off, rfl, hb0, hcell⟩ := (R2.out.below BQ.out).at_ (by rw [nums_length]; omega)
   have hcj := hcell j (.int .i64 x) (by simp [nums, hx])
   have HJ := qH hjl
   have HMJ := qH (sub_next hjl)
   have e3 := wrap_len HJ.out HLN.out.1 HLN.out.2
   have e4 := wrap_len' HJ.out HLN.out.1 HLN.out.2
   clear hcell hb0 hx hj hjl
   by_cases hx0 : 0 ≤ x
   ·by_cases hxn : x < (S.length : Int)
    ·obtain ⟨p, rfl⟩ : ∃ p : Nat, x = (p : Int) := ⟨x.toNat, by omega⟩
     have HP := qH (show p < S.length by omega)
     have hcr := TQ.out.cell p
     rw [bcs_get _ HP.out] at hcr
     have hfz := TQ.out.frozen p
     have TE := qH (show Blk (wr.setCell ⟨w2.heap.size, p, none⟩ (.bool true)) w2.heap.size 4 (bcs S.length (sdJ l (j + 1))) by
      have := TQ.out.set p (.bool true)
      rw [bcs_set] at this
      rw [← sdJ_in HX.out (by omega)]
      exact this)
     have BE := qH (BQ.out.setCell (p := ⟨w2.heap.size, p, none⟩) (Nat.le_refl _) (Value.bool true))
     go_wp2_with fail
     exact ⟨⟨j + 1, HJ.out, by congr 1, TE.out, BE.out⟩, by simpa [intOf] using HMJ.out⟩
    ·have TE := qH (show Blk wr w2.heap.size 4 (bcs S.length (sdJ l (j + 1))) by
      rw [bcs_congr fun q hq => sdJ_out HX.out (by omega) hq]
      exact TQ.out)
     go_wp2_with fail
     exact ⟨⟨j + 1, HJ.out, by congr 1, TE.out, BQ.out⟩, by simpa [intOf] using HMJ.out⟩
   ·have TE := qH (show Blk wr w2.heap.size 4 (bcs S.length (sdJ l (j + 1))) by
     rw [bcs_congr fun q hq => sdJ_out (k := S.length) HX.out (by omega) hq]
     exact TQ.out)
    go_wp2_with fail
    exact ⟨⟨j + 1, HJ.out, by congr 1, TE.out, BQ.out⟩, by simpa [intOf] using HMJ.out⟩
  obtain rfl : j = l.length := by omega
  have j1 : ¬ ((l.length : Int) < (l.length : Int)) := by omega
  obtain ⟨wq, hwq⟩ : ∃ v : World, v = wr := ⟨_, rfl⟩
  subst hwq
  go_wp2_with fail
  go_loopw [7] (fun v wl => ∃ (ag : Bool) (t : Nat → Bool), v = .bool ag ∧ Pq S (ofL l) ag t ∧ Blk wl w2.heap.size 4 (bcs S.length t) ∧ Below w2.heap.size w2 wl) (fun v wl => farW w2.heap.size S.length v wl)
  case atStart => exact ⟨true, _, rfl, Pq.first, TQ.out, BQ.out⟩
  clear TQ BQ T3 B3
  obtain ⟨ag, t, rfl, hp, ht, hb⟩ := hrel
  have PQ := qH hp
  have TQ := qH ht
  have BQ := qH hb
  clear hp ht hb hj j1
  obtain ⟨wp, hwp⟩ : ∃ v : World, v = wr := ⟨_, rfl⟩
  subst hwp
  cases ag with
  | false =>
   go_wp2_with fail
   refine (refMarkedN_own S.length HN.out t _ wp (rowB TQ.out (bcs_len _ _) (by have := HN.out; omega))).mono ?_
   rintro e w4 ⟨v, rfl, hr4, ha4, hb4⟩
   have R4 := qH hr4
   have A4 := qH (fun k hk => Nat.le_trans (Nat.le_trans BW2.out.size BQ.out.size) (ha4 k hk))
   have B4 := qH (BW2.out.trans ((BQ.out.trans (hb4.mono BQ.out.size)).mono BW2.out.size))
   clear hr4 hb4 ha4
   go_wp2_with fail
   go_ret
   rw [HC.out, ← PQ.out.cls]
   exact ⟨_, rfl, R4.out, A4.out, B4.out⟩
  | true =>
   go_wp2_with fail
   go_loopw [7, 8] (fun v iv wl => ∃ (ag : Bool) (i : Nat) (u : Nat → Bool), i ≤ S.length ∧ v = .bool ag ∧ iv = .int .i64 (i : Int) ∧ Ps S (ofL l) t ag i 0 u ∧ Blk wl w2.heap.size 4 (bcs S.length u) ∧ Below w2.heap.size w2 wl) (fun _ iv _ => S.length - (intOf iv).toNat)
   case atStart => exact ⟨false, 0, t, Nat.zero_le _, rfl, by simp, Ps.start PQ.out.seeds PQ.out.sound, TQ.out, BQ.out⟩
   obtain ⟨ag, i, u, hi, rfl, rfl, hp, ht, hb⟩ := hrel
   have PR := qH hp
   have TR := qH ht
   have BR := qH hb
   clear hp ht hb
   obtain ⟨wi, hwi⟩ : ∃ v : World, v = wr := ⟨_, rfl⟩
   subst hwi
   by_cases hin : i < S.length
   ·have x1 : (i : Int) < (S.length : Int) := Int.ofNat_lt.2 hin
    have HI := qH hin
    have HMI := qH (sub_next hin)
    have e3 := wrap_one i (lt_bigN HI.out HN.out)
    have e4 := wrap_one' i (lt_bigN HI.out HN.out)
    obtain ⟨s, hs⟩ : ∃ s, S[i]? = some s := ⟨_, List.getElem?_eq_getElem hin⟩
    have HS := qH hs
    obtain ⟨b, off, rfl, hlt, _, _, Af, cf, hf, hrow⟩ := N2.out.at_ hs
    obtain ⟨fl, hfl⟩ : ∃ n, n = s.free.length := ⟨_, rfl⟩
    rw [← hfl] at hf hrow
    have HFL := qH hfl
    have HF2 := qH hf
    have HLT := qH hlt
    have HROW := qH hrow
    have HF8 := qH (show fl ≤ 8 by have := HM.out.free8 s (List.mem_of_getElem? hs); omega)
    clear hi hin hs hf hrow hlt hfl
    go_wp2_with fail
    go_loopw [7, 9] (fun v kv wl => ∃ (ag : Bool) (k : Nat) (u : Nat → Bool), k ≤ fl ∧ v = .bool ag ∧ kv = .int .i64 (k : Int) ∧ Ps S (ofL l) t ag i k u ∧ Blk wl w2.heap.size 4 (bcs S.length u) ∧ Below w2.heap.size w2 wl) (fun _ kv _ => fl - (intOf kv).toNat)
    case atStart => exact ⟨ag, 0, u, Nat.zero_le _, rfl, by simp, PR.out, TR.out, BR.out⟩
    clear PR TR BR
    obtain ⟨ag, k, u, hk, rfl, rfl, hp, ht, hb⟩ := hrel
    have PR := qH hp
    have TR := qH ht
    have BR := qH hb
    have hfr := (BR.out.cell (p := ⟨b, off + i * 6 + 5, none⟩) HLT.out).trans HF2.out
    have c0 := (K2.out.below hb K2.out.lt).cell 0
    have RX := qH (HROW.out.below hb)
    clear hp ht hb
    by_cases hkl : k < fl
    ·have y1 : (k : Int) < (fl : Int) := Int.ofNat_lt.2 hkl
     have HK := qH hkl
     have HMK := qH (sub_next hkl)
     have f3 := wrap_one k (lt_bigN HK.out (Nat.le_trans HF8.out (by decide)))
     have f4 := wrap_one' k (lt_bigN HK.out (Nat.le_trans HF8.out (by decide)))
     obtain ⟨f, hf⟩ : ∃ f, s.free[k]? = some f := ⟨_, List.getElem?_eq_getElem (by rw [← HFL.out]; exact hkl)⟩
     have HF := qH hf
     obtain ⟨f0, f1⟩ := HM.out.free s (List.mem_of_getElem? HS.out) f (List.mem_of_getElem? hf)
     obtain ⟨p, rfl⟩ : ∃ p : Nat, f = (p : Int) := ⟨f.toNat, by omega⟩
     have HP := qH (show p < S.length by omega)
     obtain ⟨bf, of, rfl, hbf, hcf⟩ := RX.out.at_ (by rw [nums_length, ← HFL.out]; omega)
     have hcj := hcf k (.int .i64 (p : Int)) (by simp [nums, hf])
     have hci := TR.out.cell i
     rw [bcs_get _ HI.out] at hci
     obtain ⟨y, hy⟩ : ∃ y, u i = y := ⟨_, rfl⟩
     rw [hy] at hci
     have HYI := qH hy
     clear hk hkl hf hcf hbf hy f0
     cases y with
     | true =>
      have hcr := TR.out.cell p
      rw [bcs_get _ HP.out] at hcr
      obtain ⟨c, hc⟩ : ∃ c, u p = c := ⟨_, rfl⟩
      rw [hc] at hcr
      have HCC := qH hc
      have hfz := TR.out.frozen p
      have TE := qH (show Blk (wr.setCell ⟨w2.heap.size, p, none⟩ (.bool true)) w2.heap.size 4 (bcs S.length (updB u p true)) by
       have := TR.out.set p (.bool true)
       rw [bcs_set] at this
       exact this)
      have BE := qH (BR.out.setCell (p := ⟨w2.heap.size, p, none⟩) (Nat.le_refl _) (Value.bool true))
      have PE := qH (show Ps S (ofL l) t (ag || !c) i (k + 1) (updB u p true) by
       have := PR.out.mark HS.out HYI.out HF.out (by omega) (by have := HP.out; omega)
       rw [Int.toNat_natCast, HCC.out] at this
       exact this)
      clear hc
      cases ag with
      | true =>
       go_wp2_with fail
       exact ⟨⟨true, k + 1, _, HK.out, rfl, by congr 1, PE.out, TE.out, BE.out⟩, by simpa [intOf] using HMK.out⟩
      | false =>
       go_wp2_with fail
       exact ⟨⟨!c, k + 1, _, HK.out, by simp, by congr 1, PE.out, TE.out, BE.out⟩, by simpa [intOf] using HMK.out⟩
     | false =>
      have PE := qH (PR.out.next HS.out (.inr HYI.out))
      go_wp2_with fail
      exact ⟨⟨ag, i + 1, _, HI.out, rfl, by congr 1, PE.out, TR.out, BR.out⟩, by simpa [intOf] using HMI.out⟩
    ·obtain rfl : k = fl := by omega
     have y1 : ¬ ((k : Int) < (k : Int)) := by omega
     have PE := qH (PR.out.next HS.out (.inl HFL.out))
     go_wp2_with fail
     exact ⟨⟨ag, i + 1, _, HI.out, rfl, by congr 1, PE.out, TR.out, BR.out⟩, by simpa [intOf] using HMI.out⟩
   ·obtain rfl : i = S.length := by omega
    have x1 : ¬ ((S.length : Int) < (S.length : Int)) := by omega
    go_wp2_with fail
    exact ⟨⟨ag, _, rfl, PR.out.all, TR.out, BR.out⟩, PR.out.far TQ.out TR.out⟩
end Go.Proofs.YteadghoojeehlaaGreatDoor
