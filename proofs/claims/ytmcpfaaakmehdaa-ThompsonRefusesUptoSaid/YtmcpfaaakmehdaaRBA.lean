/-
  Texts of this proof, put together: TgG, TgH, TgI, TgJ. No statement is proved here.
-/
import Derived.Test.YtmcpfaaakmehdaaRY
import Derived.Test.YtmcpfaaakmehdaaRZ
namespace Go.Proofs.Ytmcpfaaakmehdaa
open Go.RowKit
set_option linter.unusedSimpArgs false
set_option linter.unusedVariables false
theorem fr_next {fr : List Int} {n j : Nat} {f : Int} (h : ∀ m f, m < j → fr[m]? = some f → 0 ≤ f ∧ f < (n : Int)) (hf : fr[j]? = some f) (hc : 0 ≤ f ∧ f < (n : Int)) : ∀ m f, m < j + 1 → fr[m]? = some f → 0 ≤ f ∧ f < (n : Int) := fun m f' hm hf' => by
 rcases Nat.lt_or_ge m j with hlt | hge
 ·exact h m f' hlt hf'
 ·obtain rfl : m = j := by omega
  rw [hf] at hf'
  injection hf' with hf'
  rw [← hf']
  exact hc
theorem ok_next {S : List St} {i : Nat} {s : St} (h : ∀ i' s, i' < i → S[i']? = some s → okS S.length s) (hs : S[i]? = some s) (hc : okS S.length s) : ∀ i' s, i' < i + 1 → S[i']? = some s → okS S.length s := fun i' s' hi' hs' => by
 rcases Nat.lt_or_ge i' i with hlt | hge
 ·exact h i' s' hlt hs'
 ·obtain rfl : i' = i := by omega
  rw [hs] at hs'
  injection hs' with hs'
  rw [← hs']
  exact hc
set_option maxHeartbeats 4000000 in
set_option maxRecDepth 1000000 in
theorem tMay_any (S : List St) (a z : Int) (cs : List Value) (w : World) (hv : NfaV w cs S a z) :
  Calls Try.prog 11 #[.agg cs.toArray] w fun e w' => e = .returned (.bool (mayNB S a z)) ∧ Below w.heap.size w w' := by
 have V := qH hv
 obtain ⟨A, cap, rfl, hlc, hcm, hA0⟩ := hv.len
 have HLM := qH (Nat.le_trans hlc hcm)
 clear hv hlc hcm hA0
 by_cases h1 : 2000 < S.length
 ·have i1 : (2000 : Int) < (S.length : Int) := by omega
  have HF := qH (mayNB_no (S := S) (a := a) (z := z) fun h => by have := h.few; omega)
  clear h1
  go_enter Try.func11, Try.ntmps11
  go_wp2_with ((with_reducible refine atDst 1 ?_); refine wpList_box rfl 24 _ rfl [.slice A S.length cap, .int .i64 a, .int .i64 z] rfl (Below.refl w.heap.size w) (Nat.le_refl _) ?_; intro w1 hk1 hb1 hs1 _; have K1 := qH hk1; have B1 := qH hb1; have c0 := hk1.cell 0; clear hk1 hb1 hs1; (try simp only [Act.put, qA, qB, qC]))
  go_ret
  rw [HF.out]
  exact ⟨rfl, B1.out⟩
 have i1 : ¬ ((2000 : Int) < (S.length : Int)) := by omega
 have HN := qH (show S.length ≤ 2000 by omega)
 obtain ⟨q1, hq1⟩ : ∃ q, decide (0 ≤ a ∧ a < (S.length : Int)) = q := ⟨_, rfl⟩
 obtain ⟨q2, hq2⟩ : ∃ q, decide (0 ≤ z ∧ z < (S.length : Int)) = q := ⟨_, rfl⟩
 have HQ1 := qH hq1
 have HQ2 := qH hq2
 obtain ⟨i0, hi0, hz0, hs0, hy0⟩ := infoP inf_nst
 obtain ⟨zz, hzz⟩ : ∃ z : List Value, z = stc ⟨fun _ => false, 0, []⟩ (.slice none 0 0) := ⟨_, rfl⟩
 have HZL := qH (show zz.length = 6 by rw [hzz]; rfl)
 have HZ0 := qH (show i0.zero = some (.agg zz.toArray) by rw [hzz]; exact hz0)
 clear h1 hzz hz0 hs0 hy0 hq1 hq2
 go_enter Try.func11, Try.ntmps11
 go_wp2_with (first
  | ((with_reducible refine atDst 1 ?_); refine wpList_box rfl 24 _ rfl [.slice A S.length cap, .int .i64 a, .int .i64 z] rfl (Below.refl w.heap.size w) (Nat.le_refl _) ?_; intro w1 hk1 hb1 hs1 _; have K1 := qH hk1; have B1 := qH hb1; have c0 := hk1.cell 0; have c1 := hk1.cell 1; clear hk1 hb1 hs1; (try simp only [Act.put, qA, qB, qC]))
  | ((with_reducible refine atDst 12 ?_); refine wpList_ldArr rfl 24 _ rfl w.heap.size rfl 24 _ _ K1.out Try.underlying24 rfl (size_nfa rfl) ?_; (try simp only [Act.put, qA, qB, qC])))
 refine (has_any A S.length cap a z a HLM.out w1 q1 HQ1.out).mono ?_
 rintro e w2 ⟨rfl, hb⟩
 have K2 := qH (K1.out.below hb K1.out.lt)
 have B2 := qH (B1.out.trans (hb.mono B1.out.size))
 clear hb c0 c1
 cases q1 with
 | false =>
  have HF := qH (mayNB_no (S := S) (a := a) (z := z) fun h => of_decide_eq_false HQ1.out ⟨h.a0, h.a1⟩)
  go_wp2_with fail
  go_ret
  rw [HF.out]
  exact ⟨rfl, B2.out⟩
 | true =>
  have c2 := K2.out.cell 2
  go_wp2_with ((with_reducible refine atDst 19 ?_); refine wpList_ldArr rfl 24 _ rfl w.heap.size rfl 24 _ _ K2.out Try.underlying24 rfl (size_nfa rfl) ?_; (try simp only [Act.put, qA, qB, qC]))
  refine (has_any A S.length cap a z z HLM.out w2 q2 HQ2.out).mono ?_
  rintro e w3 ⟨rfl, hb⟩
  have K3 := qH (K2.out.below hb K2.out.lt)
  have B3 := qH (B2.out.trans (hb.mono B2.out.size))
  have c0 := (K2.out.below hb K2.out.lt).cell 0
  clear hb c2
  cases q2 with
  | false =>
   have HF := qH (mayNB_no (S := S) (a := a) (z := z) fun h => of_decide_eq_false HQ2.out ⟨h.z0, h.z1⟩)
   go_wp2_with fail
   go_ret
   rw [HF.out]
   exact ⟨rfl, B3.out⟩
  | true =>
   have HMK := qH (show (∀ i s, S[i]? = some s → okS S.length s) → MayN S a z from fun h =>
    have h1 := of_decide_eq_true HQ1.out
    have h2 := of_decide_eq_true HQ2.out
    ⟨HN.out, h1.1, h1.2, h2.1, h2.2, fun s hs => by
     obtain ⟨i, hi, rfl⟩ := List.getElem_of_mem hs
     exact (h i _ (List.getElem?_eq_getElem hi)).1, fun s hs => by
     obtain ⟨i, hi, rfl⟩ := List.getElem_of_mem hs
     exact (h i _ (List.getElem?_eq_getElem hi)).2.1, fun s hs => by
     obtain ⟨i, hi, rfl⟩ := List.getElem_of_mem hs
     exact (h i _ (List.getElem?_eq_getElem hi)).2.2⟩)
   go_wp2_with fail
   go_loopw [28] (fun iv wl => ∃ i : Nat, i ≤ S.length ∧ iv = .int .i64 (i : Int) ∧ (∀ i' s, i' < i → S[i']? = some s → okS S.length s) ∧ Below w3.heap.size w3 wl) (fun iv _ => S.length - (intOf iv).toNat)
   case atStart => exact ⟨0, Nat.zero_le _, by simp, fun i' s h => absurd h (Nat.not_lt_zero i'), Below.refl _ _⟩
   obtain ⟨i, hi, rfl, hok, hb⟩ := hrel
   have HOK := qH hok
   have BR := qH hb
   have BW := qH (B3.out.trans (hb.mono B3.out.size))
   have KR := qH (K3.out.below hb K3.out.lt)
   obtain ⟨wq, hwq⟩ : ∃ v : World, v = wr := ⟨_, rfl⟩
   subst hwq
   clear hok hb c0
   by_cases hin : i < S.length
   ·have x1 : (i : Int) < (S.length : Int) := Int.ofNat_lt.2 hin
    have HI := qH hin
    have HMI := qH (sub_next hin)
    have e3 := wrap_one i (lt_bigN HI.out HN.out)
    have e4 := wrap_one' i (lt_bigN HI.out HN.out)
    obtain ⟨s, hs⟩ : ∃ s, S[i]? = some s := ⟨_, List.getElem?_eq_getElem hin⟩
    have HS := qH hs
    obtain ⟨b, off, Af, cf, rfl, hlt, hr, hrow⟩ := (V.out.below BW.out).whole hs
    have HR := qH hr
    have HROW := qH hrow
    clear hi hin hs hr hrow hlt
    obtain ⟨fl, hfl⟩ : ∃ n, n = s.free.length := ⟨_, rfl⟩
    have HFL := qH hfl
    obtain ⟨st, hst⟩ : ∃ l, l = stc s (.slice Af fl cf) := ⟨_, rfl⟩
    rw [← hfl] at HROW
    have HR2 := qH (show wq.rangeAt b (off + i * 6) st by rw [hst, hfl]; exact HR.out)
    have HT6 := qH (show st.length = 6 by rw [hst]; rfl)
    have HT1 := qH (show st.all (·.oneCell') = true by rw [hst]; exact stc_one _ _ _ _)
    have HT4 := qH (show st[4]? = some (.int .i64 s.to) by rw [hst]; rfl)
    have HT5 := qH (show st[5]? = some (.slice Af fl cf) by rw [hst]; rfl)
    obtain ⟨to, hto⟩ : ∃ n, n = s.to := ⟨_, rfl⟩
    have HTO := qH hto
    rw [← hto] at HT4
    clear hst hfl HR hto
    by_cases h1 : (S.length : Int) ≤ to
    ·have HT := qH (mayNB_no (S := S) (a := a) (z := z) fun h => by have h9 := (h.ok HS.out).1; rw [← HTO.out] at h9; clear e3 e4; omega)
     go_wp2_with (first
      | ((with_reducible refine atDst 31 ?_); refine wpList_load_mid rfl 61 _ rfl b (off + i * 6) rfl st _ HR2.out Try.underlying61 rfl (size_nst HT6.out) ?_; (try simp only [Act.put, qA, qB, qC]))
      | ((with_reducible refine atDst 4 ?_); refine wpList_new rfl 61 rfl i0 _ zz hi0 HZ0.out rfl (Below.refl wq.heap.size wq) (Nat.le_refl _) ?_; intro w4 hk hb hs ho; have K4 := qH hk; have B4 := qH hb; clear hk hb hs ho; (try simp only [Act.put, qA, qB, qC]))
      | ((with_reducible refine atStore 61 4 31 ?_); refine wpList_stBlk rfl 61 _ _ rfl wq.heap.size st rfl rfl 61 _ K4.out (size_nst HT6.out) (by rw [HZL.out, HT6.out]) HT1.out B4.out (Nat.le_refl _) ?_; intro w5 hk hb hs ho; have K5 := qH hk; have B5 := qH hb; have B5R := qH (BR.out.trans (hb.mono BR.out.size)); have BZ := qH (BW.out.trans (hb.mono BW.out.size)); have KN := qH (KR.out.below hb KR.out.lt); have c0 := (KR.out.below hb KR.out.lt).cell 0; have k4 := hk.cell 4; rw [HT4.out] at k4; have k5 := hk.cell 5; rw [HT5.out] at k5; clear hk hb hs ho; (try simp only [Act.put, qA, qB, qC])))
     go_ret
     rw [HT.out]
     exact ⟨rfl, BZ.out⟩
    by_cases h2 : 8 < fl
    ·have d1 : (8 : Int) < (fl : Int) := Int.ofNat_lt.2 h2
     have HT := qH (mayNB_no (S := S) (a := a) (z := z) fun h => by have h9 := (h.ok HS.out).2.1; rw [← HFL.out] at h9; exact Nat.not_lt.2 h9 h2)
     clear h2
     go_wp2_with (first
      | ((with_reducible refine atDst 31 ?_); refine wpList_load_mid rfl 61 _ rfl b (off + i * 6) rfl st _ HR2.out Try.underlying61 rfl (size_nst HT6.out) ?_; (try simp only [Act.put, qA, qB, qC]))
      | ((with_reducible refine atDst 4 ?_); refine wpList_new rfl 61 rfl i0 _ zz hi0 HZ0.out rfl (Below.refl wq.heap.size wq) (Nat.le_refl _) ?_; intro w4 hk hb hs ho; have K4 := qH hk; have B4 := qH hb; clear hk hb hs ho; (try simp only [Act.put, qA, qB, qC]))
      | ((with_reducible refine atStore 61 4 31 ?_); refine wpList_stBlk rfl 61 _ _ rfl wq.heap.size st rfl rfl 61 _ K4.out (size_nst HT6.out) (by rw [HZL.out, HT6.out]) HT1.out B4.out (Nat.le_refl _) ?_; intro w5 hk hb hs ho; have K5 := qH hk; have B5 := qH hb; have B5R := qH (BR.out.trans (hb.mono BR.out.size)); have BZ := qH (BW.out.trans (hb.mono BW.out.size)); have KN := qH (KR.out.below hb KR.out.lt); have c0 := (KR.out.below hb KR.out.lt).cell 0; have k4 := hk.cell 4; rw [HT4.out] at k4; have k5 := hk.cell 5; rw [HT5.out] at k5; clear hk hb hs ho; (try simp only [Act.put, qA, qB, qC])))
     go_ret
     rw [HT.out]
     exact ⟨rfl, BZ.out⟩
    have d1 : ¬ ((8 : Int) < (fl : Int)) := fun h => h2 (Int.ofNat_lt.1 h)
    have HF8 := qH (Nat.not_lt.1 h2)
    clear h2
    go_wp2_with (first
     | ((with_reducible refine atDst 31 ?_); refine wpList_load_mid rfl 61 _ rfl b (off + i * 6) rfl st _ HR2.out Try.underlying61 rfl (size_nst HT6.out) ?_; (try simp only [Act.put, qA, qB, qC]))
     | ((with_reducible refine atDst 4 ?_); refine wpList_new rfl 61 rfl i0 _ zz hi0 HZ0.out rfl (Below.refl wq.heap.size wq) (Nat.le_refl _) ?_; intro w4 hk hb hs ho; have K4 := qH hk; have B4 := qH hb; clear hk hb hs ho; (try simp only [Act.put, qA, qB, qC]))
     | ((with_reducible refine atStore 61 4 31 ?_); refine wpList_stBlk rfl 61 _ _ rfl wq.heap.size st rfl rfl 61 _ K4.out (size_nst HT6.out) (by rw [HZL.out, HT6.out]) HT1.out B4.out (Nat.le_refl _) ?_; intro w5 hk hb hs ho; have K5 := qH hk; have B5 := qH hb; have B5R := qH (BR.out.trans (hb.mono BR.out.size)); have BZ := qH (BW.out.trans (hb.mono BW.out.size)); have KN := qH (KR.out.below hb KR.out.lt); have c0 := (KR.out.below hb KR.out.lt).cell 0; have k4 := hk.cell 4; rw [HT4.out] at k4; have k5 := hk.cell 5; rw [HT5.out] at k5; clear hk hb hs ho; (try simp only [Act.put, qA, qB, qC])))
    clear k4 k5 c0
    go_loopw [47] (fun jv wl => ∃ j : Nat, j ≤ fl ∧ jv = .int .i64 (j : Int) ∧ (∀ m f, m < j → s.free[m]? = some f → 0 ≤ f ∧ f < (S.length : Int)) ∧ Below w5.heap.size w5 wl) (fun jv _ => fl - (intOf jv).toNat)
    case atStart => exact ⟨0, Nat.zero_le _, by simp, fun m f h => absurd h (Nat.not_lt_zero m), Below.refl _ _⟩
    obtain ⟨j, hj, rfl, hfr, hb⟩ := hrel
    have HFR := qH hfr
    have B5J := qH hb
    have BJ := qH (B5R.out.trans (hb.mono B5R.out.size))
    have BY := qH (BZ.out.trans (hb.mono BZ.out.size))
    have RX := qH (HROW.out.below (B5.out.trans (hb.mono B5.out.size)))
    have KJ := qH (KN.out.below hb KN.out.lt)
    clear hfr hb
    obtain ⟨wj, hwj⟩ : ∃ v : World, v = wr := ⟨_, rfl⟩
    subst hwj
    by_cases hjf : j < fl
    ·have y1 : (j : Int) < (fl : Int) := Int.ofNat_lt.2 hjf
     have HJ := qH hjf
     have HMJ := qH (sub_next hjf)
     have f3 := wrap_one j (lt_bigN HJ.out (Nat.le_trans HF8.out (by decide)))
     have f4 := wrap_one' j (lt_bigN HJ.out (Nat.le_trans HF8.out (by decide)))
     obtain ⟨f, hf⟩ : ∃ f, s.free[j]? = some f := ⟨_, List.getElem?_eq_getElem (by rw [← HFL.out]; exact hjf)⟩
     have HF := qH hf
     obtain ⟨bf, of, rfl, hbf, hcf⟩ := RX.out.at_ (by rw [nums_length, ← HFL.out]; exact Nat.lt_of_le_of_lt (Nat.zero_le _) hjf)
     have hcj := hcf j (.int .i64 f) (by simp [nums, hf])
     obtain ⟨q, hq⟩ : ∃ q, decide (0 ≤ f ∧ f < (S.length : Int)) = q := ⟨_, rfl⟩
     have HQ := qH hq
     clear hj hjf hf hcf hbf hq
     go_wp2_with ((with_reducible refine atDst 51 ?_); refine wpList_ldBlk rfl 24 _ rfl w.heap.size rfl 24 _ _ KJ.out Try.underlying24 rfl (size_nfa rfl) ?_; (try simp only [Act.put, qA, qB, qC]))
     refine (has_any _ S.length cap a z f HLM.out wj q HQ.out).mono ?_
     rintro e w6 ⟨rfl, hb⟩
     have B6 := qH (B5J.out.trans (hb.mono B5J.out.size))
     have BY6 := qH (BY.out.trans (hb.mono BY.out.size))
     clear hb hcj
     cases q with
     | false =>
      have HT := qH (mayNB_no (S := S) (a := a) (z := z) fun h => of_decide_eq_false HQ.out ((h.ok HS.out).2.2 f (List.mem_of_getElem? HF.out)))
      go_wp2_with fail
      go_ret
      rw [HT.out]
      exact ⟨rfl, BY6.out⟩
     | true =>
      have HNX := qH (fr_next HFR.out HF.out (of_decide_eq_true HQ.out))
      go_wp2_with fail
      exact ⟨⟨j + 1, HJ.out, by congr 1, HNX.out, B6.out⟩, by simpa [intOf] using HMJ.out⟩
    ·obtain rfl : j = fl := Nat.le_antisymm hj (Nat.not_lt.1 hjf)
     have y1 : ¬ ((j : Int) < (j : Int)) := Int.lt_irrefl _
     have HFA := qH (show okS S.length s from ⟨by rw [← HTO.out]; exact h1, by rw [← HFL.out]; exact HF8.out, fun f hf => by
      obtain ⟨m, hm, rfl⟩ := List.getElem_of_mem hf
      exact HFR.out m _ (by rw [HFL.out]; exact hm) (List.getElem?_eq_getElem hm)⟩)
     have HNX := qH (ok_next HOK.out HS.out HFA.out)
     go_wp2_with fail
     exact ⟨⟨i + 1, HI.out, by congr 1, HNX.out, BJ.out⟩, by simpa [intOf] using HMI.out⟩
   ·obtain rfl : i = S.length := Nat.le_antisymm hi (Nat.not_lt.1 hin)
    have x1 : ¬ ((S.length : Int) < (S.length : Int)) := Int.lt_irrefl _
    have HT := qH (mayNB_yes (HMK.out fun i s hs => HOK.out i s (List.getElem?_eq_some_iff.1 hs).1 hs))
    go_wp2_with fail
    go_ret
    rw [HT.out]
    exact ⟨rfl, BW.out⟩
theorem rc_ris {S : List St} {l : List Int} {t : Nat → Bool} (h : ∀ q, q < S.length → (t q = true ↔ Rc S (ofL l) q)) : risJ t S.length = clsN S l := by
 unfold clsN
 refine risJ_congr fun q hq => ?_
 rw [Bool.eq_iff_iff, rcB_iff]
 exact h q hq
theorem sd_next {S : List St} {l : List Int} {t : Nat → Bool} {j : Nat} {x : Int} (h : ∀ q, q < S.length → (t q = true ↔ sdJ l j q = true)) (hx : l[j]? = some x) : ∀ q, q < S.length → (addT S.length t x q = true ↔ sdJ l (j + 1) q = true) := fun q hq => by
 rw [addT_iff hq, h q hq, sdJ_succ hx, Bool.or_eq_true, decide_eq_true_eq]
set_option maxHeartbeats 4000000 in
set_option maxRecDepth 1000000 in
theorem tClose_any (S : List St) (a z : Int) (cs : List Value) (l : List Int) (V : Value) (w : World) (hv : NfaV w cs S a z) (hr : Row w V (nums .i64 l)) :
  Calls Try.prog 16 #[.agg cs.toArray, V] w fun e w' => ∃ v, e = .returned v ∧ Row w' v (nums .i64 (cloN S a z l)) ∧ Below w.heap.size w w' := by
 have N0 := qH hv
 have R0 := qH hr
 obtain ⟨A, cap, rfl, hlc, hcm, hA0⟩ := hv.len
 obtain ⟨A2, cap2, rfl, a1, a2, a0, a3⟩ := hr
 rw [nums_length] at a1 R0 ⊢
 have HLN := qH (And.intro a1 a2)
 clear a3 a0 a2 a1 hv hlc hcm hA0
 go_enter Try.func16, Try.ntmps16
 go_wp2_with (first
  | ((with_reducible refine atDst 2 ?_); refine wpList_box rfl 24 _ rfl [.slice A S.length cap, .int .i64 a, .int .i64 z] rfl (Below.refl w.heap.size w) (Nat.le_refl _) ?_; intro w1 hk1 hb1 hs1 _; have K1 := qH hk1; have B1 := qH hb1; clear hk1 hb1 hs1; (try simp only [Act.put, qA, qB, qC]))
  | ((with_reducible refine atDst 8 ?_); refine wpList_ldBlk rfl 24 _ rfl w.heap.size rfl 24 _ _ K1.out Try.underlying24 rfl (size_nfa rfl) ?_; (try simp only [Act.put, qA, qB, qC])))
 refine (tMay_any S a z _ w1 (N0.out.below B1.out)).mono ?_
 rintro e w2 ⟨rfl, hb2⟩
 have BW2 := qH (B1.out.trans (hb2.mono B1.out.size))
 have K2 := qH (K1.out.below hb2 K1.out.lt)
 clear hb2
 obtain ⟨m, hm⟩ : ∃ m, mayNB S a z = m := ⟨_, rfl⟩
 rw [hm]
 cases m with
 | false =>
  have HC := qH (cloN_no (l := l) hm)
  clear hm
  go_wp2_with fail
  go_ret
  rw [HC.out]
  exact ⟨_, rfl, Row.of_own (ownN w2 0 0), BW2.out⟩
 | true =>
  have HC := qH (cloN_yes (l := l) hm)
  have HM := qH (mayNB_iff.1 hm)
  clear hm
  have HN := qH HM.out.few
  have N2 := qH (N0.out.below BW2.out)
  have R2 := qH (R0.out.below BW2.out)
  go_wp2_with ((with_reducible refine atDst 11 ?_); refine wpList_ldBlk rfl 24 _ rfl w.heap.size rfl 24 _ _ K2.out Try.underlying24 rfl (size_nfa rfl) ?_; (try simp only [Act.put, qA, qB, qC]))
  refine (newGroup_any A S.length cap a z HN.out w2).mono ?_
  rintro e w3 ⟨g, h, rfl, hg3, hb3⟩
  have G3 := qH hg3
  have B3 := qH hb3
  clear hg3 hb3
  go_wp2_with fail
  go_loopw [15] (fun iv wl => ∃ (j : Nat) (t : Nat → Bool) (lv : Value) (L : List Int), j ≤ l.length ∧ iv = .int .i64 (j : Int) ∧ GrpV wl w2.heap.size g h A S.length cap a z t lv L ∧ Below w2.heap.size w2 wl ∧ ∀ q, q < S.length → (t q = true ↔ sdJ l j q = true)) (fun iv _ => l.length - (intOf iv).toNat)
  case atStart => exact ⟨0, _, _, _, Nat.zero_le _, by simp, G3.out, B3.out, fun q _ => by rw [sdJ_zero]⟩
  clear G3 B3
  obtain ⟨j, t, lv, L, hj, rfl, hg, hb, hsd⟩ := hrel
  have GQ := qH hg
  have BQ := qH hb
  have HSD := qH hsd
  clear hg hb hsd
  obtain ⟨wq, hwq⟩ : ∃ v : World, v = wr := ⟨_, rfl⟩
  subst hwq
  by_cases hjl : j < l.length
  ·have j1 : (j : Int) < (l.length : Int) := Int.ofNat_lt.2 hjl
   obtain ⟨x, hx⟩ : ∃ x, l[j]? = some x := ⟨_, List.getElem?_eq_getElem hjl⟩
   obtain ⟨b0, off, rfl, hb0, hcell⟩ := (R2.out.below BQ.out).at_ (by rw [nums_length]; exact Nat.lt_of_le_of_lt (Nat.zero_le _) hjl)
   have hcj := hcell j (.int .i64 x) (by simp [nums, hx])
   have HSX := qH (sd_next HSD.out hx)
   have HJ := qH hjl
   have HMJ := qH (sub_next hjl)
   have e3 := wrap_len HJ.out HLN.out.1 HLN.out.2
   have e4 := wrap_len' HJ.out HLN.out.1 HLN.out.2
   clear hcell hb0 hx hj hjl
   go_wp2_with fail
   refine (gAdd_any x wq GQ.out HN.out GQ.out.size).mono ?_
   rintro e w4 ⟨rfl, v4, hg4, hst4⟩
   have G4 := qH hg4
   have B4 := qH (BQ.out.trans (hst4.below GQ.out GQ.out.size))
   clear hg4 hst4 hcj
   go_wp2_with fail
   exact ⟨⟨j + 1, _, _, _, HJ.out, by congr 1, G4.out, B4.out, HSX.out⟩, by simpa [intOf] using HMJ.out⟩
  ·obtain rfl : j = l.length := Nat.le_antisymm hj (Nat.not_lt.1 hjl)
   have j1 : ¬ ((l.length : Int) < (l.length : Int)) := Int.lt_irrefl _
   go_wp2_with fail
   refine (gClose_any w2 S A cap a z N2.out HM.out (ofL l) (fun q hq => by rw [HSD.out q hq]; exact sdJ_all) wq GQ.out BQ.out).mono ?_
   rintro e w5 ⟨rfl, t5, v5, L5, hg5, hst5, hr5⟩
   have G5 := qH hg5
   have B5 := qH (BQ.out.trans (hst5.below GQ.out GQ.out.size))
   have HR := qH (rc_ris hr5)
   clear hg5 hst5 hr5
   go_wp2_with fail
   refine (gSorted_any w5 G5.out HN.out).mono ?_
   rintro e w6 ⟨v6, rfl, hr6, ho6⟩
   rw [HR.out, ← HC.out] at hr6
   have R6 := qH hr6
   have B6 := qH (BW2.out.trans ((B5.out.trans (ho6.below (fun k hk => G5.out.gd hk) G5.out.size)).mono BW2.out.size))
   clear hr6 ho6
   go_wp2_with fail
   go_ret
   exact ⟨_, rfl, R6.out, B6.out⟩
theorem own_cut0 {w : World} {B n cap : Nat} {e : TypeId} {A : Option Addr} {xs : List Value} (h : w.ownsRow B e 1 (.slice A n cap) n xs) : w.ownsRow B e 1 (.slice A 0 cap) 0 [] := by
 refine ⟨by simp, ?_⟩
 rcases h.2 with ⟨he, h0⟩ | ⟨g, cap', cur, he, hb, hg, hnc, hcm, hcs, _⟩
 ·injection he with h1 h2 h3
  subst h1 h3
  exact .inl ⟨rfl, rfl⟩
 ·injection he with h1 h2 h3
  subst h1 h3
  exact .inr ⟨g, cap, cur, rfl, hb, hg, Nat.zero_le _, hcm, hcs, by simp⟩
def Cr (n : Nat) (L : List Int) (j : Nat) (t : Nat → Bool) : Prop := ∀ q, q < n → t q = true → (q : Int) ∈ L.drop j
theorem Cr.next {n : Nat} {L : List Int} {j i : Nat} {t : Nat → Bool} (h : Cr n L j t) (hx : L[j]? = some (i : Int)) : Cr n L (j + 1) (updB t i false) := fun q hq ht => by
 unfold updB at ht
 by_cases hqi : q = i
 ·rw [if_pos hqi] at ht; cases ht
 ·rw [if_neg hqi] at ht
  have h1 := h q hq ht
  obtain ⟨hj, he⟩ := List.getElem?_eq_some_iff.1 hx
  rw [List.drop_eq_getElem_cons hj, he, List.mem_cons] at h1
  rcases h1 with h1 | h1
  ·exact absurd (by omega) hqi
  ·exact h1
theorem Cr.end_ {n : Nat} {L : List Int} {t : Nat → Bool} (h : Cr n L L.length t) : bcs n t = bcs n fun _ => false := bcs_congr fun q hq => by
 cases ht : t q with
 | false => rfl
 | true => have := h q hq ht; simp at this
section
variable {w w' : World} {B g h n cap : Nat} {A : Option Addr} {a z : Int} {t t' : Nat → Bool} {lv : Value} {L : List Int}
theorem clear_end {A2 : Option Addr} {c2 : Nat} (x : GrpV w B g h A n cap a z t (.slice A2 L.length c2) L) (ho : Off (fun k => k = h) w w') (hm : Blk w' h 4 (bcs n t')) (hc : Cr n L L.length t') :
  GrpV (w'.setCell ⟨g, 4, none⟩ (.slice A2 0 c2)) B g h A n cap a z (fun _ => false) (.slice A2 0 c2) [] ∧ GStep w (w'.setCell ⟨g, 4, none⟩ (.slice A2 0 c2)) g h (.slice A2 L.length c2) (.slice A2 0 c2) := by
 have hg : Blk w' g 68 (gcl A n cap a z h (.slice A2 L.length c2)) := ho.blk (fun e => x.gh e) x.blk
 have hown : w'.ownsRow B 3 1 (.slice A2 L.length c2) L.length (nums .i64 L) := own6_stay x.own fun j hj => ho.block j (own6_lt x.own j hj).1 fun e => x.lh (e ▸ hj)
 rw [hc.end_] at hm
 have ob : (Value.slice A2 0 c2).ownBlock = (Value.slice A2 L.length c2).ownBlock := by cases A2 <;> rfl
 refine ⟨⟨hg.set 4 _, hm.far (p := ⟨g, 4, none⟩) x.gh.symm _, own6_stay (own_cut0 hown) fun j hj => Below.heap_setCell w' ⟨g, 4, none⟩ _ j (by rintro rfl; exact x.lg (ob ▸ hj)), x.gB, x.hB, x.gh, ob ▸ x.lg, ob ▸ x.lh, GL.nil n⟩, ⟨?_, fun k hk => .inl (ob ▸ hk)⟩⟩
 exact (ho.mono fun k _ hk => .inr (.inl hk)).trans (Off.set w' 4 _ (.inl rfl))
end
set_option maxHeartbeats 4000000 in
set_option maxRecDepth 1000000 in
theorem gClear_any {B g h n cap : Nat} {A : Option Addr} {a z : Int} {t : Nat → Bool} {lv : Value} {L : List Int} (w : World) (hg : GrpV w B g h A n cap a z t lv L) (hn : n ≤ 2000) :
  Calls Try.prog 38 #[.pointer (some ⟨g, 0, none⟩)] w fun e w' => e = .returned (.tuple #[]) ∧ ∃ lv', GrpV w' B g h A n cap a z (fun _ => false) lv' [] ∧ GStep w w' g h lv lv' := by
 have G := qH hg
 obtain ⟨A2, cap2, rfl, hle, hcm, _⟩ := Row.of_own hg.own
 rw [nums_length] at G hle
 have HLN := qH (And.intro hle hcm)
 have d4 := G.out.blk.cell 4
 simp only [gcl, List.getElem?_cons_succ, List.getElem?_cons_zero] at d4
 rw [nums_length]
 clear hg hn hle hcm
 go_enter Try.func38, Try.ntmps38
 go_wp2_with fail
 go_loopw [9] (fun iv wl => ∃ (j : Nat) (t' : Nat → Bool), j ≤ L.length ∧ iv = .int .i64 (j : Int) ∧ Off (fun k => k = h) w wl ∧ Blk wl h 4 (bcs n t') ∧ Cr n L j t') (fun iv _ => L.length - (intOf iv).toNat)
 case atStart => exact ⟨0, t, Nat.zero_le _, by simp, Off.refl _ _, G.out.marks, fun q hq ht => by rw [List.drop_zero]; exact (G.out.gl.is q hq).1 ht⟩
 clear d4
 obtain ⟨j, t', hj, rfl, ho, hm, hc⟩ := hrel
 have OQ := qH ho
 have MQ := qH hm
 have CQ := qH hc
 have GB := qH (ho.blk (fun e => G.out.gh e) G.out.blk)
 have d3 := (ho.blk (fun e => G.out.gh e) G.out.blk).cell 3
 have d4 := (ho.blk (fun e => G.out.gh e) G.out.blk).cell 4
 have f4 := (ho.blk (fun e => G.out.gh e) G.out.blk).frozen 4
 simp only [gcl, List.getElem?_cons_succ, List.getElem?_cons_zero] at d3 d4
 clear ho hm hc
 obtain ⟨wq, hwq⟩ : ∃ v : World, v = wr := ⟨_, rfl⟩
 subst hwq
 by_cases hjl : j < L.length
 ·have j1 : (j : Int) < (L.length : Int) := Int.ofNat_lt.2 hjl
  obtain ⟨x, hx⟩ : ∃ x, L[j]? = some x := ⟨_, List.getElem?_eq_getElem hjl⟩
  obtain ⟨x0, x1⟩ := G.out.gl.rng x (List.mem_of_getElem? hx)
  obtain ⟨i, rfl⟩ : ∃ i : Nat, x = (i : Int) := ⟨x.toNat, by omega⟩
  have HIN := qH (Int.ofNat_lt.1 x1)
  have HJ := qH hjl
  have HMJ := qH (sub_next hjl)
  have e3 := wrap_len HJ.out HLN.out.1 HLN.out.2
  have e4 := wrap_len' HJ.out HLN.out.1 HLN.out.2
  have hrow : Row wq (.slice A2 L.length cap2) (nums .i64 L) := Row.of_own (own6_stay G.out.own fun j hj => OQ.out.block j (own6_lt G.out.own j hj).1 fun e => G.out.lh (e ▸ hj))
  obtain ⟨b0, off, rfl, hb0, hcell⟩ := hrow.at_ (by rw [nums_length]; exact Nat.lt_of_le_of_lt (Nat.zero_le _) hjl)
  have hcj := hcell j (.int .i64 (i : Int)) (by simp [nums, hx])
  have hci := MQ.out.cell i
  rw [bcs_get _ HIN.out] at hci
  have hfz := MQ.out.frozen i
  have TE := qH (show Blk (wq.setCell ⟨h, i, none⟩ (.bool false)) h 4 (bcs n (updB t' i false)) by
   have := MQ.out.set i (.bool false)
   rw [bcs_set] at this
   exact this)
  have OE := qH (OQ.out.trans (Off.set (D := fun k => k = h) wq i (.bool false) rfl))
  have CE := qH (CQ.out.next hx)
  clear hcell hb0 hx hj hjl hrow x0
  go_wp2_with fail
  exact ⟨⟨j + 1, _, HJ.out, by congr 1, OE.out, TE.out, CE.out⟩, by simpa [intOf] using HMJ.out⟩
 ·obtain rfl : j = L.length := Nat.le_antisymm hj (Nat.not_lt.1 hjl)
  have j1 : ¬ ((L.length : Int) < (L.length : Int)) := Int.lt_irrefl _
  have HE := qH (clear_end G.out OQ.out MQ.out CQ.out)
  go_wp2_with fail
  go_end0
  exact ⟨rfl, _, HE.out⟩
theorem GrpV.mono {w : World} {B B' g h n cap : Nat} {A : Option Addr} {a z : Int} {t : Nat → Bool} {lv : Value} {L : List Int} (x : GrpV w B g h A n cap a z t lv L) (hB : B' ≤ B) : GrpV w B' g h A n cap a z t lv L := by
 refine ⟨x.blk, x.marks, ⟨x.own.1, ?_⟩, Nat.le_trans hB x.gB, Nat.le_trans hB x.hB, x.gh, x.lg, x.lh, x.gl⟩
 rcases x.own.2 with h0 | ⟨g, cap, cur, h1, h2, h3⟩
 ·exact .inl h0
 ·exact .inr ⟨g, cap, cur, h1, Nat.le_trans hB h2, h3⟩
theorem run_next {S : List St} {M La : List Int} {ta t' : Nat → Bool} {b : Nat} (hm : ∀ q, q < S.length → (ta q = true ↔ (q : Int) ∈ M)) (gl : GL S.length ta La)
  (h' : ∀ q, q < S.length → (t' q = true ↔ Rc S (fun q => (false = true) ∨ (q : Int) ∈ goN S La b) q)) : ∀ q, q < S.length → (t' q = true ↔ (q : Int) ∈ stpN S M b) := fun q hq => by
 rw [h' q hq]
 unfold stpN
 rw [clsN_mem]
 refine rc_congr (fun i _ => ?_) q
 unfold ofL
 rw [goN_mem, goN_mem]
 constructor
 ·rintro (h | ⟨i', s, h1, h2, h3⟩)
  ·cases h
  ·have hi := (List.getElem?_eq_some_iff.1 h2).1
   exact ⟨i', s, (hm _ hi).1 ((gl.is _ hi).2 h1), h2, h3⟩
 ·rintro ⟨i', s, h1, h2, h3⟩
  have hi := (List.getElem?_eq_some_iff.1 h2).1
  exact .inr ⟨i', s, (gl.is _ hi).1 ((hm _ hi).2 h1), h2, h3⟩
structure Two (w : World) (B : Nat) (A : Option Addr) (n cap : Nat) (a z : Int) (g h : Nat) (t : Nat → Bool) (lv : Value) (L : List Int) (g' h' : Nat) (t' : Nat → Bool) (lv' : Value) (L' : List Int) : Prop where
 one : GrpV w B g h A n cap a z t lv L
 two : GrpV w B g' h' A n cap a z t' lv' L'
 off : ∀ k, Gd g h lv k → ¬ Gd g' h' lv' k
section
variable {w w' : World} {B n cap g h g' h' : Nat} {A : Option Addr} {a z : Int} {t t' u : Nat → Bool} {lv lv' v : Value} {L L' M : List Int}
theorem Two.turn (x : Two w B A n cap a z g h t lv L g' h' t' lv' L') : Two w B A n cap a z g' h' t' lv' L' g h t lv L := ⟨x.two, x.one, fun k hk hk' => x.off k hk' hk⟩
theorem Two.step (x : Two w B A n cap a z g h t lv L g' h' t' lv' L') (y : GrpV w' B g h A n cap a z u v M) (s : GStep w w' g h lv v) : Two w' B A n cap a z g h u v M g' h' t' lv' L' := by
 refine ⟨y, x.two.stay fun k hk => s.off.block k (x.two.lts hk) fun hd => x.off k hd hk, fun k hk hk' => ?_⟩
 rcases hk with e | e | e
 ·exact x.off k (.inl e) hk'
 ·exact x.off k (.inr (.inl e)) hk'
 ·rcases s.new k e with e | e
  ·exact x.off k (.inr (.inr e)) hk'
  ·have := x.two.lts hk'; omega
theorem Two.below (x : Two w B A n cap a z g h t lv L g' h' t' lv' L') (s : GStep w w' g h lv v) {w0 : World} (hb : Below B w0 w) : Below B w0 w' := hb.trans (s.below x.one x.one.size)
end
theorem ld_bools {ev : Operand → Value} {o : Oper} (x : Operand) (ho : o.op = .load 66 x) {p : Addr} (hx : ev x = .pointer (some p)) {A : Option Addr} {n c : Nat} {W : World} (hc : W.cell? p = some (.slice A n c)) : (execOp ev o).run Try.prog W = .ok (.value (.slice A n c)) W := by
 simp only [execOp, ho, hx]
 go_simp
theorem ld_bool9 {ev : Operand → Value} {o : Oper} (x : Operand) (ho : o.op = .load 4 x) {p : Addr} (hx : ev x = .pointer (some p)) {k : Bool} {W : World} (hc : W.cell? p = some (.bool k)) : (execOp ev o).run Try.prog W = .ok (.value (.bool k)) W := by
 simp only [execOp, ho, hx]
 go_simp
set_option maxHeartbeats 4000000 in
set_option maxRecDepth 1000000 in
theorem tRun_any (S : List St) (a z : Int) (cs : List Value) (W : List UInt8) (V : Value) (w : World) (hv : NfaV w cs S a z) (hr : Row w V (bvs W)) :
  Calls Try.prog 13 #[.agg cs.toArray, V] w fun e w' => e = .returned (.bool (runB S a z W)) ∧ Below w.heap.size w w' := by
 have N0 := qH hv
 have R0 := qH hr
 obtain ⟨A, cap, rfl, hlc, hcm, hA0⟩ := hv.len
 obtain ⟨A2, cap2, rfl, a1, a2, a0, a3⟩ := hr
 rw [bvs_length] at a1 R0 ⊢
 have HLN := qH (And.intro a1 a2)
 obtain ⟨res, hres⟩ : ∃ r, runB S a z W = r := ⟨_, rfl⟩
 have HRES := qH hres
 rw [hres]
 clear a3 a0 a2 a1 hv hlc hcm hA0 hres
 go_enter Try.func13, Try.ntmps13
 go_wp2_with (first
  | ((with_reducible refine atDst 2 ?_); refine wpList_box rfl 24 _ rfl [.slice A S.length cap, .int .i64 a, .int .i64 z] rfl (Below.refl w.heap.size w) (Nat.le_refl _) ?_; intro w1 hk1 hb1 hs1 _; have K1 := qH hk1; have B1 := qH hb1; clear hk1 hb1 hs1; (try simp only [Act.put, qA, qB, qC]))
  | ((with_reducible refine atDst 9 ?_); refine wpList_ldBlk rfl 24 _ rfl w.heap.size rfl 24 _ _ K1.out Try.underlying24 rfl (size_nfa rfl) ?_; (try simp only [Act.put, qA, qB, qC])))
 refine (tMay_any S a z _ w1 (N0.out.below B1.out)).mono ?_
 rintro e w2 ⟨rfl, hb2⟩
 have BW2 := qH (B1.out.trans (hb2.mono B1.out.size))
 have K2 := qH (K1.out.below hb2 K1.out.lt)
 clear hb2
 obtain ⟨m, hm⟩ : ∃ m, mayNB S a z = m := ⟨_, rfl⟩
 rw [hm]
 cases m with
 | false =>
  have HC := qH (HRES.out.symm.trans (runB_no (W := W) hm))
  clear hm
  go_wp2_with fail
  go_ret
  rw [HC.out]
  exact ⟨rfl, BW2.out⟩
 | true =>
  have HC := qH ((runB_yes (W := W) hm).symm.trans HRES.out)
  have HM := qH (mayNB_iff.1 hm)
  clear hm
  have HN := qH HM.out.few
  have N2 := qH (N0.out.below BW2.out)
  have R2 := qH (R0.out.below BW2.out)
  go_wp2_with fail
  refine sx_startB (B := w2.heap.size) (w0 := w2) (by kernel_rfl) (Below.refl _ _) (fun wd hwd hX => ?_)
  clear hwd
  refine sx_take (i := 0) (oi := ⟨some 12, _, _, _, _, _⟩) (v := .agg #[.slice A S.length cap, .int .i64 a, .int .i64 z]) rfl (by kernel_rfl) (by kernel_rfl) (by kernel_rfl) (fun _ _ _ h => h) rfl hX (ld_blk 24 _ rfl w.heap.size rfl 24 [.slice A S.length cap, .int .i64 a, .int .i64 z] _ K2.out K2.out.lt Try.underlying24 rfl (size_nfa rfl)) ?_; simp only [Act.put, qA, qB, qC]
  refine sx_take (i := 2) (oi := ⟨some 14, _, _, _, _, _⟩) (v := .agg #[.slice A S.length cap, .int .i64 a, .int .i64 z]) rfl (by kernel_rfl) (by kernel_rfl) (by kernel_rfl) (fun _ _ _ h => h) rfl hX (ld_blk 24 _ rfl w.heap.size rfl 24 [.slice A S.length cap, .int .i64 a, .int .i64 z] _ K2.out K2.out.lt Try.underlying24 rfl (size_nfa rfl)) ?_; simp only [Act.put, qA, qB, qC]
  refine sx_actB (i := 1) (o := ⟨some 13, _, _, _, _, _⟩) rfl (by kernel_rfl) rfl hX (fun K hK => ?_)
  go_wp2_with fail
  refine (newGroup_any A S.length cap a z HN.out wd).mono ?_
  rintro e w3 ⟨g, h, rfl, hg3, hb3⟩
  go_wp2_with fail
  refine hK _ _ (hb3.mono hX.size) ?_
  clear hK K
  (try simp only [Act.put, qA, qB, qC])
  have G3 := qH (hg3.mono hX.size)
  replace hX := hX.trans (hb3.mono hX.size)
  clear hg3 hb3
  refine sx_actB (i := 3) (o := ⟨some 15, _, _, _, _, _⟩) rfl (by kernel_rfl) rfl hX (fun K hK => ?_)
  go_wp2_with fail
  refine (newGroup_any A S.length cap a z HN.out w3).mono ?_
  rintro e w4 ⟨g', h', rfl, hg4, hb4⟩
  go_wp2_with fail
  refine hK _ _ (hb4.mono hX.size) ?_
  clear hK K
  (try simp only [Act.put, qA, qB, qC])
  have T4 := qH (show Two w4 w2.heap.size A S.length cap a z g h (fun _ => false) (.slice none 0 0) [] g' h' (fun _ => false) (.slice none 0 0) [] from
   ⟨G3.out.below hb4, hg4.mono hX.size, fun k hk hk' => by
    have h1 := G3.out.lts hk
    have h2 := hg4.gd hk'
    exact Nat.not_lt.2 h2 h1⟩)
  replace hX := hX.trans (hb4.mono hX.size)
  clear hg4 hb4
  refine sx_take (i := 4) (oi := ⟨some 5, _, _, _, _, _⟩) (v := ?_) rfl (by kernel_rfl) (by kernel_rfl) (by kernel_rfl) (fun _ _ _ h => h) rfl hX ?_ ?_; rotate_left; (intro W hW; go_simp; try with_reducible rfl); simp only [Act.put, qA, qB, qC]
  refine sx_take (i := 5) (oi := ⟨some 6, _, _, _, _, _⟩) (v := ?_) rfl (by kernel_rfl) (by kernel_rfl) (by kernel_rfl) (fun _ _ _ h => h) rfl hX ?_ ?_; rotate_left; (intro W hW; go_simp; try with_reducible rfl); simp only [Act.put, qA, qB, qC]
  refine wpAnyH_done (by kernel_rfl) ?_ _
  have B4 := qH hX
  have c1 := (K2.out.below hX K2.out.lt).cell 1
  clear hX
  go_wp2_with fail
  refine (gAdd_any a w4 T4.out.one HN.out T4.out.one.size).mono ?_
  rintro e w5 ⟨rfl, v5, hg5, hs5⟩
  have T5 := qH (T4.out.step hg5 hs5)
  have B5 := qH (T4.out.below hs5 B4.out)
  clear hg5 hs5 c1
  go_wp2_with fail
  refine (gClose_any w2 S A cap a z N2.out HM.out (ofL [a]) (fun q hq => by rw [addT_iff hq]; simp [ofL, eq_comm]) w5 T5.out.one B5.out).mono ?_
  rintro e w6 ⟨rfl, t6, v6, L6, hg6, hs6, hr6⟩
  have T6 := qH (T5.out.step hg6 hs6)
  have B6 := qH (T5.out.below hs6 B5.out)
  have M6 := qH (show ∀ q, q < S.length → (t6 q = true ↔ (q : Int) ∈ behN S (clsN S [a]) (W.take 0)) from fun q hq => by
   rw [hr6 q hq, List.take_zero]
   exact clsN_mem.symm)
  clear hg6 hs6 hr6
  go_wp2_with fail
  go_loopw [5, 6, 24] (fun p p' iv wl => ∃ (j : Nat) (g h : Nat) (t : Nat → Bool) (lv : Value) (L : List Int) (g' h' : Nat) (t' : Nat → Bool) (lv' : Value) (L' : List Int), j ≤ W.length ∧ p = .pointer (some ⟨g, 0, none⟩) ∧ p' = .pointer (some ⟨g', 0, none⟩) ∧ iv = .int .i64 (j : Int) ∧ Two wl w2.heap.size A S.length cap a z g h t lv L g' h' t' lv' L' ∧ Below w2.heap.size w2 wl ∧ ∀ q, q < S.length → (t q = true ↔ (q : Int) ∈ behN S (clsN S [a]) (W.take j))) (fun _ _ iv _ => W.length - (intOf iv).toNat)
  case atStart => exact ⟨0, _, _, _, _, _, _, _, _, _, _, Nat.zero_le _, rfl, rfl, by simp, T6.out, B6.out, M6.out⟩
  clear T4 T5 T6 B4 B5 B6 M6 G3
  obtain ⟨j, g, h, t, lv, L, g', h', t', lv', L', hj, rfl, rfl, rfl, ht, hb, hm⟩ := hrel
  have TQ := qH ht
  have BQ := qH hb
  have MQ := qH hm
  clear ht hb hm
  obtain ⟨wq, hwq⟩ : ∃ v : World, v = wr := ⟨_, rfl⟩
  subst hwq
  by_cases hjl : j < W.length
  ·have j1 : (j : Int) < (W.length : Int) := Int.ofNat_lt.2 hjl
   obtain ⟨b, hx⟩ : ∃ x, W[j]? = some x := ⟨_, List.getElem?_eq_getElem hjl⟩
   obtain ⟨bl, ol, rfl, hbl, hcell⟩ := (R2.out.below BQ.out).at_ (by rw [bvs_length]; exact Nat.lt_of_le_of_lt (Nat.zero_le _) hjl)
   have hcj : wq.cell? ⟨bl, ol + j, none⟩ = some (.int .u8 (b.toNat : Int)) := hcell j _ (bvs_get W j b hx)
   have HJ := qH hjl
   have HMJ := qH (sub_next hjl)
   have e3 := wrap_len HJ.out HLN.out.1 HLN.out.2
   have e4 := wrap_len' HJ.out HLN.out.1 HLN.out.2
   have HBE := qH (behN_take (S := S) (l := clsN S [a]) hx)
   have HBN := qH (show b.toNat < 256 from b.toNat_lt)
   obtain ⟨n, hn⟩ : ∃ n, n = b.toNat := ⟨_, rfl⟩
   rw [← hn] at hcj HBE HBN
   clear hcell hbl hx hj hjl hn
   go_wp2_with fail
   refine (gClear_any wq TQ.out.two HN.out).mono ?_
   rintro e w5 ⟨rfl, v5, hg5, hs5⟩
   have T5 := qH (TQ.out.turn.step hg5 hs5)
   have B5 := qH (TQ.out.turn.below hs5 BQ.out)
   obtain ⟨Al, cl, rfl, _⟩ := Row.of_own TQ.out.one.own
   rw [nums_length] at T5
   have d4 := T5.out.two.blk.cell 4
   simp only [gcl, List.getElem?_cons_succ, List.getElem?_cons_zero] at d4
   clear hg5 hs5 hcj
   go_wp2_with fail
   refine (gStep_any w2 S A cap a z N2.out HM.out L (.slice Al L.length cl) n HBN.out w5 T5.out.one B5.out (fun w' ho => Row.of_own (own6_stay T5.out.two.own fun k hk => ho.block k (T5.out.two.lts (.inr (.inr hk))) fun hd => T5.out.off k hd (.inr (.inr hk))))).mono ?_
   rintro e w6 ⟨rfl, t6, v6, L6, hg6, hs6, hr6⟩
   have T6 := qH (T5.out.step hg6 hs6)
   have B6 := qH (T5.out.below hs6 B5.out)
   have M6 := qH (show ∀ q, q < S.length → (t6 q = true ↔ (q : Int) ∈ behN S (clsN S [a]) (W.take (j + 1))) from fun q hq => by
    rw [HBE.out]
    exact run_next MQ.out TQ.out.one.gl hr6 q hq)
   clear hg6 hs6 hr6 d4
   go_wp2_with fail
   exact ⟨⟨j + 1, _, _, _, _, _, _, _, _, _, _, HJ.out, rfl, rfl, by congr 1, T6.out, B6.out, M6.out⟩, by simpa [intOf] using HMJ.out⟩
  ·obtain rfl : j = W.length := Nat.le_antisymm hj (Nat.not_lt.1 hjl)
   have j1 : ¬ ((W.length : Int) < (W.length : Int)) := Int.lt_irrefl _
   obtain ⟨zn, rfl⟩ : ∃ n : Nat, z = (n : Int) := ⟨z.toNat, by have := HM.out.z0; omega⟩
   have HZN := qH (Int.ofNat_lt.1 HM.out.z1)
   have z1 := HM.out.z1
   have d3 := TQ.out.one.blk.cell 3
   simp only [gcl, List.getElem?_cons_succ, List.getElem?_cons_zero] at d3
   have HD3 := qH d3
   have HGL := qH TQ.out.one.blk.lt
   have HHL := qH TQ.out.one.marks.lt
   have K9 := qH (K2.out.below BQ.out K2.out.lt)
   have HC2 := qH (K9.out.cell 2)
   have HKL := qH K9.out.lt
   have HCZ := qH (show wq.cell? ⟨h, zn, none⟩ = some (.bool res) by
    rw [TQ.out.one.marks.cell, bcs_get _ HZN.out, ← HC.out]
    have := MQ.out zn HZN.out
    congr 2
    rw [Bool.eq_iff_iff, this, decide_eq_true_iff])
   have B9 := qH (BW2.out.trans (BQ.out.mono BW2.out.size))
   clear d3 hj hjl
   go_wp2_with fail
   refine sx_startB (B := wq.heap.size) (w0 := wq) (by kernel_rfl) (Below.refl _ _) (fun we hwe hX => ?_)
   clear hwe
   refine sx_take (i := 0) (oi := ⟨some 40, _, _, _, _, _⟩) (v := ?_) rfl (by kernel_rfl) (by kernel_rfl) (by kernel_rfl) (fun _ _ _ h => h) rfl hX ?_ ?_; rotate_left; (intro W hW; go_simp; try with_reducible rfl); simp only [Act.put, qA, qB, qC]
   refine sx_take (i := 1) (oi := ⟨some 41, _, _, _, _, _⟩) (v := ?_) rfl (by kernel_rfl) (by kernel_rfl) (by kernel_rfl) (fun _ _ _ h => h) rfl hX ?_ ?_; rotate_left; (intro W hW; go_simp; try with_reducible rfl); simp only [Act.put, qA, qB, qC]
   refine sx_take (i := 2) (oi := ⟨some 42, _, _, _, _, _⟩) (v := ?_) rfl (by kernel_rfl) (by kernel_rfl) (by kernel_rfl) (fun _ _ _ h => h) rfl hX ?_ ?_; rotate_left; (intro W hW; go_simp; try with_reducible rfl); simp only [Act.put, qA, qB, qC]
   refine sx_take (i := 3) (oi := ⟨some 43, _, _, _, _, _⟩) (v := .slice (some ⟨h, 0, none⟩) S.length S.length) rfl (by kernel_rfl) (by kernel_rfl) (by kernel_rfl) (fun _ _ _ h => h) rfl hX (fun U hU => ld_bools (.tmp 42) rfl rfl ((hU.cell (p := ⟨g, 3, none⟩) HGL.out).trans HD3.out)) ?_; simp only [Act.put, qA, qB, qC]
   refine sx_take (i := 4) (oi := ⟨some 44, _, _, _, _, _⟩) (v := ?_) rfl (by kernel_rfl) (by kernel_rfl) (by kernel_rfl) (fun _ _ _ h => h) rfl hX ?_ ?_; rotate_left; (intro W hW; go_simp; try with_reducible rfl); simp only [Act.put, qA, qB, qC]
   refine sx_take (i := 5) (oi := ⟨some 45, _, _, _, _, _⟩) (v := .int .i64 (zn : Int)) rfl (by kernel_rfl) (by kernel_rfl) (by kernel_rfl) (fun _ _ _ h => h) rfl hX (fun U hU => ld_int9 (.tmp 44) rfl rfl ((hU.cell (p := ⟨w.heap.size, 2, none⟩) HKL.out).trans HC2.out)) ?_; simp only [Act.put, qA, qB, qC]
   refine sx_take (i := 6) (oi := ⟨some 46, _, _, _, _, _⟩) (v := ?_) rfl (by kernel_rfl) (by kernel_rfl) (by kernel_rfl) (fun _ _ _ h => h) rfl hX ?_ ?_; rotate_left; (intro W hW; go_simp; try with_reducible rfl); simp only [Act.put, qA, qB, qC]
   refine sx_take (i := 7) (oi := ⟨some 47, _, _, _, _, _⟩) (v := .bool res) rfl (by kernel_rfl) (by kernel_rfl) (by kernel_rfl) (fun _ _ _ h => h) rfl hX (fun U hU => ld_bool9 (.tmp 46) rfl rfl ((hU.cell (p := ⟨h, zn, none⟩) HHL.out).trans HCZ.out)) ?_; simp only [Act.put, qA, qB, qC]
   refine sx_take (i := 8) (oi := ⟨some 4, _, _, _, _, _⟩) (v := ?_) rfl (by kernel_rfl) (by kernel_rfl) (by kernel_rfl) (fun _ _ _ h => h) rfl hX ?_ ?_; rotate_left; (intro W hW; go_simp; try with_reducible rfl); simp only [Act.put, qA, qB, qC]
   refine wpAnyH_done (by kernel_rfl) ?_ _
   have BE := qH (B9.out.trans (hX.mono B9.out.size))
   clear hX
   go_wp2_with fail
   go_ret
   exact ⟨rfl, BE.out⟩
end Go.Proofs.Ytmcpfaaakmehdaa
