/-
  Texts of this proof, put together: LgM, LwN, RegG. No statement is proved here.
-/
import Derived.Test.YtopnpdobcagcgaaGreatMO
import Derived.Test.YtopnpdobcagcgaaGreatMM
import Derived.Test.YtopnpdobcagcgaaGreatMD
import Derived.Test.YtopnpdobcagcgaaGreatMA
namespace Go.Proofs.YtopnpdobcagcgaaGreat
open Go.RowKit
set_option linter.unusedSimpArgs false
set_option linter.unusedVariables false
theorem someC_all : ∀ l : List T, someC l = l.all someT
 | [] => rfl
 | t :: r => by rw [someC, someC_all r, List.all_cons]
theorem someA_any : ∀ l : List T, someA l = l.any someT
 | [] => rfl
 | t :: r => by rw [someA, someA_any r, List.any_cons]
set_option maxHeartbeats 4000000 in
set_option maxRecDepth 1000000 in
theorem refSome_any : ∀ (N : Nat) (t : T), t.nodes ≤ N → t.nodes ≤ 1099511627776 → ∀ (cs : List Value) (w : World), RxV w.heap.size w cs t →
  Calls Tryz.prog 37 #[.agg cs.toArray] w fun e w' => e = .returned (.bool (someT t)) ∧ Below w.heap.size w w' := by
 intro N
 induction N with
 | zero => intro t h; have := nodes_pos t; omega
 | succ N ih =>
  rintro ⟨k, s, l⟩ hN hM cs w hv
  have IH := qH ih
  clear ih
  obtain ⟨A, cap, f, rfl, h1, h2, h0, h3, h4⟩ := hv.opened
  have H3 := qH h3
  have H4 := qH h4
  have HNN := qH (show T.nodes (.node k s l) = 1 + nodesL l by simp only [T.nodes])
  rw [HNN.out] at hN hM
  have HN := qH hN
  have HM := qH hM
  have HQ := qH (show someT (.node k s l) = if k = 2 ∨ k = 6 then true else if k = 3 then !eqS s zeroS else if k = 4 then l.all someT else if k = 5 then l.any someT else false by rw [someT, someC_all, someA_any])
  obtain ⟨cs, hcs⟩ : ∃ cs, cs = Value.int .i64 k :: (wds s ++ [.slice A l.length cap]) := ⟨_, rfl⟩
  have HC0 := qH (show cs[0]? = some (.int .i64 k) by rw [hcs]; rfl)
  have HC5 := qH (show cs[5]? = some (.slice A l.length cap) by rw [hcs]; rfl)
  have HCS := qH hcs
  have HLL := qH (len_nodes l)
  obtain ⟨q, hq⟩ : ∃ q, q = someT (.node k s l) := ⟨_, rfl⟩
  rw [← hcs, ← hq]
  rw [← hq] at HQ
  clear hv h1 h2 h0 h3 h4 hcs hN hM hq
  by_cases k2 : k = 2
  ·have hr : q = true := by rw [HQ.out, if_pos (.inl k2)]
   subst hr
   subst k2
   go_enter Tryz.func37, Tryz.ntmps37
   go_wp2_with ((with_reducible refine atDst 1 ?_); refine wpList_box rfl 29 _ rfl cs rfl (Below.refl w.heap.size w) (Nat.le_refl _) ?_; intro w1 hk1 hb1 hs1 _; have K1 := qH hk1; have B1 := qH hb1; have c0 := hk1.cell 0; rw [HC0.out] at c0; clear hk1 hb1 hs1)
   go_wp2_with fail
   go_ret
   exact ⟨rfl, B1.out⟩
  by_cases k6 : k = 6
  ·have hr : q = true := by rw [HQ.out, if_pos (.inr k6)]
   subst hr
   subst k6
   go_enter Tryz.func37, Tryz.ntmps37
   go_wp2_with ((with_reducible refine atDst 1 ?_); refine wpList_box rfl 29 _ rfl cs rfl (Below.refl w.heap.size w) (Nat.le_refl _) ?_; intro w1 hk1 hb1 hs1 _; have K1 := qH hk1; have B1 := qH hb1; have c0 := hk1.cell 0; rw [HC0.out] at c0; clear hk1 hb1 hs1)
   go_wp2_with fail
   go_ret
   exact ⟨rfl, B1.out⟩
  have z2 : (k == 2) = false := by simpa using k2
  have z6 : (k == 6) = false := by simpa using k6
  by_cases k3 : k = 3
  ·obtain ⟨zs, hzs⟩ : ∃ zs, zs = zeroS := ⟨_, rfl⟩
   have HBS := qH (show Tryz.prog.built 26 [] = some (wds zs).toArray by rw [hzs]; exact builtS)
   obtain ⟨b, hb0⟩ : ∃ b, b = !eqS s zs := ⟨_, rfl⟩
   have HNEQ := qH hb0.symm
   have hr : q = b := by rw [HQ.out, if_neg (by omega), if_pos k3, hb0, hzs]
   subst hr
   clear hb0 hzs HQ k2 k6
   subst k3
   go_enter Tryz.func37, Tryz.ntmps37
   go_wp2_with (first
    | ((with_reducible refine atDst 1 ?_); refine wpList_box rfl 29 _ rfl cs rfl (Below.refl w.heap.size w) (Nat.le_refl _) ?_; intro w1 hk1 hb1 hs1 _; have K1 := qH hk1; have B1 := qH hb1; have RS := qH (set_range' HCS.out hk1); have c0 := hk1.cell 0; rw [HC0.out] at c0; clear hk1 hb1 hs1)
    | ((with_reducible refine atDst 13 ?_); refine wpList_ldMidG rfl 26 _ rfl w.heap.size 1 rfl (wds s) _ RS.out Tryz.underlying26 rfl (size_set s) ?_; (try simp only [Act.put, qA, qB, qC]))
    | ((with_reducible refine atDst 14 ?_); refine wpList_bld rfl 26 _ rfl (wds zs) HBS.out ?_; (try simp only [Act.put, qA, qB, qC]))
    | ((with_reducible refine atDst 15 ?_); refine wpList_neSetG rfl HNEQ.out 26 24 (.tmp 13) (.tmp 14) 26 rfl guardSet Tryz.underlying26 Tryz.underlying24 sizeU64 rfl rfl ?_; (try simp only [Act.put, qA, qB, qC])))
   go_ret
   exact ⟨rfl, B1.out⟩
  have z3 : (k == 3) = false := by simpa using k3
  by_cases k4 : k = 4
  ·have HR := qH (show q = l.all someT by rw [HQ.out, if_neg (by omega), if_neg k3, if_pos k4])
   clear z2 z3 z6 k2 k3 k6 HQ
   subst k4
   go_enter Tryz.func37, Tryz.ntmps37
   go_wp2_with ((with_reducible refine atDst 1 ?_); refine wpList_box rfl 29 _ rfl cs rfl (Below.refl w.heap.size w) (Nat.le_refl _) ?_; intro w1 hk1 hb1 hs1 _; have K1 := qH hk1; have B1 := qH hb1; have c0 := hk1.cell 0; rw [HC0.out] at c0; clear hk1 hb1 hs1)
   go_loopw [3] (fun i wl => ∃ j : Nat, j ≤ l.length ∧ i = .int .i64 (j : Int) ∧ (l.take j).all someT = true ∧ Below w1.heap.size w1 wl) (fun i _ => l.length - (intOf i).toNat)
   case atStart => exact ⟨0, by omega, by simp, by simp, Below.refl _ _⟩
   case round =>
    obtain ⟨j, hj, rfl, hf, hb⟩ := hrel
    have HB := qH hb
    have HF := qH hf
    clear hb hf
    have KR := qH (K1.out.below HB.out K1.out.lt)
    have c5 := KR.out.cell 5
    rw [HC5.out] at c5
    by_cases hjl : j < l.length
    ·have j1 : (j : Int) < (l.length : Int) := Int.ofNat_lt.2 hjl
     obtain ⟨b, off, rfl, hb, hrng⟩ := H3.out (by rintro rfl; simp at hjl)
     have BW := qH (B1.out.trans (HB.out.mono B1.out.size))
     obtain ⟨u, hu⟩ : ∃ u, l[j]? = some u := ⟨_, List.getElem?_eq_getElem hjl⟩
     have HV := qH (RxV.part H4.out BW.out BW.out.size hu)
     have HRG := qH (range_below (hrng j hjl) BW.out hb)
     have HU := qH hu
     have HUN := qH (show u.nodes ≤ N by have h1 := nodes_mem (List.mem_of_getElem? hu); have := HN.out; omega)
     have HUM := qH (show u.nodes ≤ 1099511627776 by have h1 := nodes_mem (List.mem_of_getElem? hu); have := HM.out; omega)
     have hj62 : j ≤ 4611686018427387904 := by have := HM.out; have := HLL.out; omega
     have e3 := wrap_one j hj62
     have e4 := wrap_one' j hj62
     clear hrng hu hj62
     go_wp2_with ((with_reducible refine atDst 29 ?_); refine wpList_load_mid rfl 29 _ rfl b (off + j * 6) rfl (f j) _ HRG.out Tryz.underlying29 rfl (size_rx HV.out.length) ?_)
     refine (IH.out u HUN.out HUM.out (f j) wr HV.out).mono ?_
     rintro e w2 ⟨rfl, hb2⟩
     have B2 := qH (HB.out.trans (hb2.mono HB.out.size))
     clear hb2
     obtain ⟨p, hp⟩ : ∃ p, p = someT u := ⟨_, rfl⟩
     rw [← hp]
     cases p with
     | true =>
      have HP := qH hp
      clear hp
      go_wp2_with fail
      exact ⟨⟨j + 1, by omega, rfl, all_next HU.out HF.out HP.out.symm, B2.out⟩, by simp [intOf] <;> omega⟩
     | false =>
      have HP := qH hp
      clear hp
      have hq := HR.out.trans (all_not HU.out HP.out.symm)
      subst hq
      go_wp2_with fail
      go_ret
      exact ⟨rfl, B1.out.trans (B2.out.mono B1.out.size)⟩
    ·obtain rfl : j = l.length := by omega
     have j1 : ¬ ((l.length : Int) < (l.length : Int)) := by omega
     have B9 := qH (B1.out.trans (HB.out.mono B1.out.size))
     have HP := qH (show l.all someT = true by have := HF.out; rwa [List.take_length] at this)
     have hq := HR.out.trans (HP.out)
     subst hq
     go_wp2_with fail
     go_ret
     exact ⟨rfl, B9.out⟩
  have z4 : (k == 4) = false := by simpa using k4
  by_cases k5 : k = 5
  ·have HR := qH (show q = l.any someT by rw [HQ.out, if_neg (by omega), if_neg k3, if_neg k4, if_pos k5])
   clear z2 z3 z6 k2 k3 k6 HQ z4 k4
   subst k5
   go_enter Tryz.func37, Tryz.ntmps37
   go_wp2_with ((with_reducible refine atDst 1 ?_); refine wpList_box rfl 29 _ rfl cs rfl (Below.refl w.heap.size w) (Nat.le_refl _) ?_; intro w1 hk1 hb1 hs1 _; have K1 := qH hk1; have B1 := qH hb1; have c0 := hk1.cell 0; rw [HC0.out] at c0; clear hk1 hb1 hs1)
   go_loopw [4] (fun i wl => ∃ j : Nat, j ≤ l.length ∧ i = .int .i64 (j : Int) ∧ (l.take j).any someT = false ∧ Below w1.heap.size w1 wl) (fun i _ => l.length - (intOf i).toNat)
   case atStart => exact ⟨0, by omega, by simp, by simp, Below.refl _ _⟩
   case round =>
    obtain ⟨j, hj, rfl, hf, hb⟩ := hrel
    have HB := qH hb
    have HF := qH hf
    clear hb hf
    have KR := qH (K1.out.below HB.out K1.out.lt)
    have c5 := KR.out.cell 5
    rw [HC5.out] at c5
    by_cases hjl : j < l.length
    ·have j1 : (j : Int) < (l.length : Int) := Int.ofNat_lt.2 hjl
     obtain ⟨b, off, rfl, hb, hrng⟩ := H3.out (by rintro rfl; simp at hjl)
     have BW := qH (B1.out.trans (HB.out.mono B1.out.size))
     obtain ⟨u, hu⟩ : ∃ u, l[j]? = some u := ⟨_, List.getElem?_eq_getElem hjl⟩
     have HV := qH (RxV.part H4.out BW.out BW.out.size hu)
     have HRG := qH (range_below (hrng j hjl) BW.out hb)
     have HU := qH hu
     have HUN := qH (show u.nodes ≤ N by have h1 := nodes_mem (List.mem_of_getElem? hu); have := HN.out; omega)
     have HUM := qH (show u.nodes ≤ 1099511627776 by have h1 := nodes_mem (List.mem_of_getElem? hu); have := HM.out; omega)
     have hj62 : j ≤ 4611686018427387904 := by have := HM.out; have := HLL.out; omega
     have e3 := wrap_one j hj62
     have e4 := wrap_one' j hj62
     clear hrng hu hj62
     go_wp2_with ((with_reducible refine atDst 45 ?_); refine wpList_load_mid rfl 29 _ rfl b (off + j * 6) rfl (f j) _ HRG.out Tryz.underlying29 rfl (size_rx HV.out.length) ?_)
     refine (IH.out u HUN.out HUM.out (f j) wr HV.out).mono ?_
     rintro e w2 ⟨rfl, hb2⟩
     have B2 := qH (HB.out.trans (hb2.mono HB.out.size))
     clear hb2
     obtain ⟨p, hp⟩ : ∃ p, p = someT u := ⟨_, rfl⟩
     rw [← hp]
     cases p with
     | true =>
      have HP := qH hp
      clear hp
      have hq := HR.out.trans (any_is HU.out HP.out.symm)
      subst hq
      go_wp2_with fail
      go_ret
      exact ⟨rfl, B1.out.trans (B2.out.mono B1.out.size)⟩
     | false =>
      have HP := qH hp
      clear hp
      go_wp2_with fail
      exact ⟨⟨j + 1, by omega, rfl, any_next HU.out HF.out HP.out.symm, B2.out⟩, by simp [intOf] <;> omega⟩
    ·obtain rfl : j = l.length := by omega
     have j1 : ¬ ((l.length : Int) < (l.length : Int)) := by omega
     have B9 := qH (B1.out.trans (HB.out.mono B1.out.size))
     have HP := qH (show l.any someT = false by have := HF.out; rwa [List.take_length] at this)
     have hq := HR.out.trans (HP.out)
     subst hq
     go_wp2_with fail
     go_ret
     exact ⟨rfl, B9.out⟩
  have z5 : (k == 5) = false := by simpa using k5
  have hr : q = false := by rw [HQ.out, if_neg (by omega), if_neg k3, if_neg k4, if_neg k5]
  subst hr
  clear k2 k3 k4 k5 k6 HQ
  go_enter Tryz.func37, Tryz.ntmps37
  go_wp2_with ((with_reducible refine atDst 1 ?_); refine wpList_box rfl 29 _ rfl cs rfl (Below.refl w.heap.size w) (Nat.le_refl _) ?_; intro w1 hk1 hb1 hs1 _; have K1 := qH hk1; have B1 := qH hb1; have c0 := hk1.cell 0; rw [HC0.out] at c0; clear hk1 hb1 hs1)
  go_wp2_with fail
  go_ret
  exact ⟨rfl, B1.out⟩
def leftI (m n : Nat) : Int := if m ≤ n then (n : Int) - (m : Int) else -1
theorem leftI_lt (m n : Nat) : leftI m n < 0 ↔ n < m := by unfold leftI; split <;> omega
theorem leftI_step (m k n : Nat) (h : m ≤ n) : leftI k (n - m) = leftI (m + k) n := by unfold leftI; split <;> split <;> omega
theorem wrap_len {j len cap : Nat} (h : j < len) (h1 : len ≤ cap) (h2 : cap ≤ maxLen) : wrap64 ((j : Int) + 1) = ((j + 1 : Nat) : Int) := IntWalk.wrap64_in _ (by unfold maxLen at h2; omega)
theorem wrap_len' {j len cap : Nat} (h : j < len) (h1 : len ≤ cap) (h2 : cap ≤ maxLen) : IntKind.i64.wrap ((j : Int) + 1) = ((j + 1 : Nat) : Int) := IntWalk.i64_in _ (by unfold maxLen at h2; omega)
set_option maxHeartbeats 4000000 in
set_option maxRecDepth 1000000 in
theorem lLeft_any : ∀ (N : Nat) (t : T), t.nodes ≤ N → ∀ (n : Nat), n ≤ 2000 → ∀ (cs : List Value) (w : World), RxV w.heap.size w cs t →
  Calls Tryz.prog 48 #[.agg cs.toArray, .int .i64 (n : Int)] w fun e w' => e = .returned (.int .i64 (leftI t.nodes n)) ∧ Below w.heap.size w w' := by
 intro N
 induction N with
 | zero => intro t h; have := nodes_pos t; omega
 | succ N ih =>
  rintro ⟨k, s, l⟩ hN n hn cs w hv
  have IH := qH ih
  clear ih
  obtain ⟨A, cap, f, rfl, h1, h2, h0, h3, h4⟩ := hv.opened
  have H3 := qH h3
  have H4 := qH h4
  have HNN := qH (show T.nodes (.node k s l) = 1 + nodesL l by simp only [T.nodes])
  rw [HNN.out] at hN ⊢
  have HN := qH hN
  have HM := qH hn
  have HCM := qH h2
  have HCL := qH h1
  obtain ⟨cs, hcs⟩ : ∃ cs, cs = Value.int .i64 k :: (wds s ++ [.slice A l.length cap]) := ⟨_, rfl⟩
  have HC5 := qH (show cs[5]? = some (.slice A l.length cap) by rw [hcs]; rfl)
  obtain ⟨i0, hi0, hz0, hz1, hz2⟩ := inf_rx'
  obtain ⟨z, hz⟩ : ∃ z, z = rxc 0 zeroS (.slice none 0 0) := ⟨_, rfl⟩
  have HZL := qH (show z.length = 6 by rw [hz]; rfl)
  have HZ0 := qH (show i0.zero = some (.agg z.toArray) by rw [hz]; exact hz0)
  rw [← hcs]
  have n1 : IntKind.i64.wrap ((n : Int) - 1) = leftI 1 n := by rw [show (n : Int) - 1 = leftI 1 n by unfold leftI; split <;> omega]; exact IntWalk.i64_in _ (by unfold leftI; split <;> omega)
  have n2 : wrap64 ((n : Int) - 1) = leftI 1 n := by rw [show (n : Int) - 1 = leftI 1 n by unfold leftI; split <;> omega]; exact IntWalk.wrap64_in _ (by unfold leftI; split <;> omega)
  clear hv h1 h2 h0 h3 h4 hcs hN hn hz hz0
  go_enter Tryz.func48, Tryz.ntmps48
  go_wp2_with ((with_reducible refine atDst 2 ?_); refine wpList_box rfl 29 _ rfl cs rfl (Below.refl w.heap.size w) (Nat.le_refl _) ?_; intro w1 hk1 hb1 hs1 _; have K1 := qH hk1; have B1 := qH hb1; have k5 := hk1.cell 5; rw [HC5.out] at k5; clear hk1 hb1 hs1)
  go_loopw [1, 12] (fun v i wl => ∃ (j m : Nat), j ≤ l.length ∧ i = .int .i64 (j : Int) ∧ (m = 1 + nodesL (l.take j) ∨ (n < m ∧ m ≤ 1 + nodesL l)) ∧ v = .int .i64 (leftI m n) ∧ Below w1.heap.size w1 wl) (fun _ i _ => l.length - (intOf i).toNat)
  case atStart => exact ⟨0, 1, by omega, by simp, .inl (by simp [nodesL]), rfl, Below.refl _ _⟩
  case round =>
   obtain ⟨j, m, hj, rfl, hf, rfl, hb⟩ := hrel
   have HB := qH hb
   have HF := qH hf
   clear hb hf
   by_cases hjl : j < l.length
   ·have j1 : (j : Int) < (l.length : Int) := Int.ofNat_lt.2 hjl
    obtain ⟨b, off, rfl, hb, hrng⟩ := H3.out (by rintro rfl; simp at hjl)
    have BW := qH (B1.out.trans (HB.out.mono B1.out.size))
    obtain ⟨u, hu⟩ : ∃ u, l[j]? = some u := ⟨_, List.getElem?_eq_getElem hjl⟩
    have HV := qH (RxV.part H4.out BW.out BW.out.size hu)
    have HV6 := qH HV.out.length
    have HV1 := qH (show (f j).all (·.oneCell') = true from List.all_eq_true.2 (RxD.one HV.out))
    have HRG := qH (range_below (hrng j hjl) BW.out hb)
    have hnx := nodesL_next l j u hu
    have htk := nodesL_take l (j + 1)
    have HU := qH hu
    have HUN := qH (show u.nodes ≤ N by have h1 := nodes_mem (List.mem_of_getElem? hu); have := HN.out; omega)
    have HNX := qH hnx
    have HTK := qH htk
    have HJ1 := qH hjl
    have e3 := wrap_len hjl HCL.out HCM.out
    have e4 := wrap_len' hjl HCL.out HCM.out
    obtain ⟨v, hv⟩ : ∃ v, v = leftI m n := ⟨_, rfl⟩
    rw [← hv]
    by_cases hmn : n < m
    ·have hv0 : v < 0 := by rw [hv]; exact (leftI_lt m n).2 hmn
     have HQ := qH (show v = leftI (1 + nodesL l) n by
      rw [hv]
      rcases HF.out with h | h
      ·unfold leftI; rw [if_neg (by omega), if_neg (by omega)]
      ·unfold leftI; rw [if_neg (by omega), if_neg (by omega)])
     have B9 := qH (B1.out.trans (HB.out.mono B1.out.size))
     have S9 := qH B9.out.size
     clear hrng hu hnx htk hb hj hjl hmn hv
     go_wp2_with (first
      | ((with_reducible refine atDst 15 ?_); refine wpList_load_mid rfl 29 _ rfl b (off + j * 6) rfl (f j) _ HRG.out Tryz.underlying29 rfl (size_rx HV6.out) ?_; (try simp only [Act.put, qA, qB, qC]))
      | ((with_reducible refine atDst 6 ?_); refine wpList_new rfl 29 rfl i0 _ z hi0 HZ0.out rfl (Below.refl wr.heap.size wr) (Nat.le_refl _) ?_; intro w4 hk4 hb4 hs4 _; have K4 := qH hk4; have B4 := qH hb4; clear hk4 hb4 hs4; (try simp only [Act.put, qA, qB, qC]))
      | ((with_reducible refine atStore 29 6 15 ?_); refine wpList_stBlk rfl 29 _ _ rfl wr.heap.size (f j) rfl rfl 29 _ K4.out (size_rx HV6.out) (by rw [HZL.out, HV6.out]) HV1.out B4.out (Nat.le_refl _) ?_; intro w5 hk5 hb5 hs5 _; have K5 := qH hk5; have B5 := qH hb5; clear hk5 hb5 hs5; (try simp only [Act.put, qA, qB, qC]))
      | ((with_reducible refine atDst 18 ?_); refine wpList_ldArr rfl 29 _ rfl wr.heap.size rfl 29 _ _ K5.out Tryz.underlying29 rfl (size_rx HV6.out) ?_; (try simp only [Act.put, qA, qB, qC])))
     go_ret
     exact ⟨congrArg (fun x => Ending.returned (.int .i64 x)) HQ.out, B9.out.trans (B5.out.mono S9.out)⟩
    have hv0 : ¬ (v < 0) := by rw [hv]; exact fun h => hmn ((leftI_lt m n).1 h)
    have hve : v = ((n - m : Nat) : Int) := by rw [hv]; unfold leftI; rw [if_pos (by omega)]; omega
    have HMN := qH (show m ≤ n by omega)
    have HV0 := qH hv0
    have HN2 := qH (show n - m ≤ 2000 by have := HM.out; omega)
    clear hrng hu hnx htk hb hj hjl hmn hv
    subst hve
    go_wp2_with (first
     | ((with_reducible refine atDst 15 ?_); refine wpList_load_mid rfl 29 _ rfl b (off + j * 6) rfl (f j) _ HRG.out Tryz.underlying29 rfl (size_rx HV6.out) ?_; (try simp only [Act.put, qA, qB, qC]))
     | ((with_reducible refine atDst 6 ?_); refine wpList_new rfl 29 rfl i0 _ z hi0 HZ0.out rfl (Below.refl wr.heap.size wr) (Nat.le_refl _) ?_; intro w4 hk4 hb4 hs4 _; have K4 := qH hk4; have B4 := qH hb4; clear hk4 hb4 hs4; (try simp only [Act.put, qA, qB, qC]))
     | ((with_reducible refine atStore 29 6 15 ?_); refine wpList_stBlk rfl 29 _ _ rfl wr.heap.size (f j) rfl rfl 29 _ K4.out (size_rx HV6.out) (by rw [HZL.out, HV6.out]) HV1.out B4.out (Nat.le_refl _) ?_; intro w5 hk5 hb5 hs5 _; have K5 := qH hk5; have B5 := qH hb5; clear hk5 hb5 hs5; (try simp only [Act.put, qA, qB, qC]))
     | ((with_reducible refine atDst 18 ?_); refine wpList_ldArr rfl 29 _ rfl wr.heap.size rfl 29 _ _ K5.out Tryz.underlying29 rfl (size_rx HV6.out) ?_; (try simp only [Act.put, qA, qB, qC])))
    refine (IH.out u HUN.out (n - m) HN2.out (f j) w5 (RxV.mono (HV.out.stay B5.out) B5.out.size)).mono ?_
    rintro e w6 ⟨rfl, hb6⟩
    rw [leftI_step m _ n HMN.out]
    have B6 := qH (HB.out.trans ((B5.out.trans (hb6.mono B5.out.size)).mono HB.out.size))
    clear hb6
    go_wp2_with fail
    refine ⟨⟨j + 1, m + u.nodes, HJ1.out, by congr 1, ?_, rfl, B6.out⟩, by have := HJ1.out; simp [intOf] <;> omega⟩
    rcases HF.out with h | h
    ·exact .inl (by rw [HNX.out, h]; omega)
    ·have := h.1; have := HMN.out; omega
   ·obtain rfl : j = l.length := by omega
    have j1 : ¬ ((l.length : Int) < (l.length : Int)) := by omega
    have B9 := qH (B1.out.trans (HB.out.mono B1.out.size))
    have hq : leftI m n = leftI (1 + nodesL l) n := by
     rcases HF.out with h | h
     ·rw [h, List.take_length]
     ·unfold leftI; rw [if_neg (by omega), if_neg (by omega)]
    rw [hq]
    clear hq HF
    go_wp2_with fail
    go_ret
    exact ⟨rfl, B9.out⟩
set_option maxHeartbeats 1000000 in
set_option maxRecDepth 100000 in
theorem lLarge_any (t : T) (cs : List Value) (w : World) (hv : RxV w.heap.size w cs t) (b : Bool) (hb : decide (2000 < t.nodes) = b) :
  Calls Tryz.prog 29 #[.agg cs.toArray] w fun e w' => e = .returned (.bool b) ∧ Below w.heap.size w w' := by
 have V := qH hv
 have HC6 := qH hv.length
 obtain ⟨v, hv2⟩ : ∃ v, v = leftI t.nodes 2000 := ⟨_, rfl⟩
 have HV := qH hv2
 have HR := qH (show decide (v < 0) = b by rw [hv2, ← hb]; exact decide_eq_decide.2 (leftI_lt _ _))
 clear hv hv2 hb
 go_enter Tryz.func29, Tryz.ntmps29
 go_wp2_with (first
  | ((with_reducible refine atDst 1 ?_); refine wpList_box rfl 29 _ rfl cs rfl (Below.refl w.heap.size w) (Nat.le_refl _) ?_; intro w1 hk1 hb1 hs1 _; have K1 := qH hk1; have B1 := qH hb1; clear hk1 hb1 hs1; (try simp only [Act.put, qA, qB, qC]))
  | ((with_reducible refine atDst 3 ?_); refine wpList_ldArr rfl 29 _ rfl w.heap.size rfl 29 _ _ K1.out Tryz.underlying29 rfl (size_rx HC6.out) ?_; (try simp only [Act.put, qA, qB, qC])))
 refine (lLeft_any _ t (Nat.le_refl _) 2000 (Nat.le_refl _) cs w1 ((V.out.stay B1.out).mono B1.out.size)).mono ?_
 rintro e w2 ⟨rfl, hb2⟩
 rw [← HV.out]
 have B2 := qH (B1.out.trans (hb2.mono B1.out.size))
 clear hb2
 go_wp2_with fail
 go_ret
 exact ⟨congrArg (fun x => Ending.returned (.bool x)) HR.out, B2.out⟩
/-! ### over -/
mutual
def overT (q : Nat → Bool) : T → Bool
 | .node k s l => if k = 2 ∨ k = 6 then true else if k = 3 then !eqS (fun b => s b && q b) zeroS else if k = 4 then overC q l else if k = 5 then overA q l else false
def overC (q : Nat → Bool) : List T → Bool
 | [] => true
 | t :: r => overT q t && overC q r
def overA (q : Nat → Bool) : List T → Bool
 | [] => false
 | t :: r => overT q t || overA q r
end
theorem overC_all (q : Nat → Bool) : ∀ l : List T, overC q l = l.all (overT q)
 | [] => rfl
 | t :: r => by rw [overC, overC_all q r, List.all_cons]
theorem overA_any (q : Nat → Bool) : ∀ l : List T, overA q l = l.any (overT q)
 | [] => rfl
 | t :: r => by rw [overA, overA_any q r, List.any_cons]
theorem eqS_zero (s : Nat → Bool) : eqS (fun b => s b && zeroS b) zeroS = true := (eqS_iff _ _).2 fun b _ => by simp [zeroS]
theorem eqS_all (s : Nat → Bool) : eqS (fun b => s b && true) zeroS = eqS s zeroS := by
 congr 1
 funext b
 simp
mutual
theorem over_null : ∀ t : T, overT zeroS t = nullT t
 | .node k s l => by
  rw [overT, nullT, over_nullC l, over_nullA l, eqS_zero]
  by_cases h3 : k = 3
  ·subst h3; simp
  ·simp [h3]
theorem over_nullC : ∀ l : List T, overC zeroS l = nullC l
 | [] => rfl
 | t :: r => by rw [overC, nullC, over_null t, over_nullC r]
theorem over_nullA : ∀ l : List T, overA zeroS l = nullA l
 | [] => rfl
 | t :: r => by rw [overA, nullA, over_null t, over_nullA r]
end
mutual
theorem over_some : ∀ t : T, overT (fun _ => true) t = someT t
 | .node k s l => by rw [overT, someT, over_someC l, over_someA l, eqS_all]
theorem over_someC : ∀ l : List T, overC (fun _ => true) l = someC l
 | [] => rfl
 | t :: r => by rw [overC, someC, over_some t, over_someC r]
theorem over_someA : ∀ l : List T, overA (fun _ => true) l = someA l
 | [] => rfl
 | t :: r => by rw [overA, someA, over_some t, over_someA r]
end
set_option maxHeartbeats 4000000 in
set_option maxRecDepth 1000000 in
theorem lOver_any (q : Nat → Bool) : ∀ (N : Nat) (t : T), t.nodes ≤ N → ∀ (cs : List Value) (w : World), RxV w.heap.size w cs t →
  Calls Tryz.prog 45 #[.agg cs.toArray, .agg (wds q).toArray] w fun e w' => e = .returned (.bool (overT q t)) ∧ Below w.heap.size w w' := by
 intro N
 induction N with
 | zero => intro t h; have := nodes_pos t; omega
 | succ N ih =>
  rintro ⟨k, s, l⟩ hN cs w hv
  have IH := qH ih
  clear ih
  obtain ⟨A, cap, f, rfl, h1, h2, h0, h3, h4⟩ := hv.opened
  have H3 := qH h3
  have H4 := qH h4
  have HNN := qH (show T.nodes (.node k s l) = 1 + nodesL l by simp only [T.nodes])
  rw [HNN.out] at hN
  have HN := qH hN
  have HCM := qH h2
  have HCL := qH h1
  have HQ := qH (show overT q (.node k s l) = if k = 2 ∨ k = 6 then true else if k = 3 then !eqS (fun b => s b && q b) zeroS else if k = 4 then l.all (overT q) else if k = 5 then l.any (overT q) else false by rw [overT, overC_all, overA_any])
  obtain ⟨cs, hcs⟩ : ∃ cs, cs = Value.int .i64 k :: (wds s ++ [.slice A l.length cap]) := ⟨_, rfl⟩
  have HC0 := qH (show cs[0]? = some (.int .i64 k) by rw [hcs]; rfl)
  have HC5 := qH (show cs[5]? = some (.slice A l.length cap) by rw [hcs]; rfl)
  have HCS := qH hcs
  obtain ⟨r, hr⟩ : ∃ r, r = overT q (.node k s l) := ⟨_, rfl⟩
  obtain ⟨i0, hi0, hz0, hz1, hz2⟩ := inf_rx'
  obtain ⟨z, hz⟩ : ∃ z, z = rxc 0 zeroS (.slice none 0 0) := ⟨_, rfl⟩
  have HZL := qH (show z.length = 6 by rw [hz]; rfl)
  have HZ0 := qH (show i0.zero = some (.agg z.toArray) by rw [hz]; exact hz0)
  rw [← hcs, ← hr]
  rw [← hr] at HQ
  clear hv h1 h2 h0 h3 h4 hcs hN hr hz hz0
  by_cases k2 : k = 2
  ·have hr : r = true := by rw [HQ.out, if_pos (.inl k2)]
   subst hr
   subst k2
   go_enter Tryz.func45, Tryz.ntmps45
   go_wp2_with (first
    | ((with_reducible refine atDst 2 ?_); refine wpList_box rfl 29 _ rfl cs rfl (Below.refl w.heap.size w) (Nat.le_refl _) ?_; intro w0 hk1 hb1 hs1 _; have K0 := qH hk1; have B0 := qH hb1; clear hk1 hb1 hs1; (try simp only [Act.put, qA, qB, qC]))
    | ((with_reducible refine atDst 3 ?_); refine wpList_box rfl 26 _ rfl (wds q) rfl B0.out B0.out.size ?_; intro w1 hk1 hb1 hs1 ho1; have L1 := qH hk1; have B1 := qH hb1; have K1 := qH (show Blk w1 w.heap.size 29 cs from (ho1 _ K0.out.lt).trans K0.out); have c0 := K1.out.cell 0; rw [HC0.out] at c0; have k5 := K1.out.cell 5; rw [HC5.out] at k5; clear hk1 hb1 hs1 ho1; (try simp only [Act.put, qA, qB, qC])))
   go_ret
   exact ⟨rfl, B1.out⟩
  by_cases k6 : k = 6
  ·have hr : r = true := by rw [HQ.out, if_pos (.inr k6)]
   subst hr
   subst k6
   go_enter Tryz.func45, Tryz.ntmps45
   go_wp2_with (first
    | ((with_reducible refine atDst 2 ?_); refine wpList_box rfl 29 _ rfl cs rfl (Below.refl w.heap.size w) (Nat.le_refl _) ?_; intro w0 hk1 hb1 hs1 _; have K0 := qH hk1; have B0 := qH hb1; clear hk1 hb1 hs1; (try simp only [Act.put, qA, qB, qC]))
    | ((with_reducible refine atDst 3 ?_); refine wpList_box rfl 26 _ rfl (wds q) rfl B0.out B0.out.size ?_; intro w1 hk1 hb1 hs1 ho1; have L1 := qH hk1; have B1 := qH hb1; have K1 := qH (show Blk w1 w.heap.size 29 cs from (ho1 _ K0.out.lt).trans K0.out); have c0 := K1.out.cell 0; rw [HC0.out] at c0; have k5 := K1.out.cell 5; rw [HC5.out] at k5; clear hk1 hb1 hs1 ho1; (try simp only [Act.put, qA, qB, qC])))
   go_ret
   exact ⟨rfl, B1.out⟩
  have z2 : (k == 2) = false := by simpa using k2
  have z6 : (k == 6) = false := by simpa using k6
  by_cases k3 : k = 3
  ·obtain ⟨zs, hzs⟩ : ∃ zs, zs = zeroS := ⟨_, rfl⟩
   have HBS := qH (show Tryz.prog.built 26 [] = some (wds zs).toArray by rw [hzs]; exact builtS)
   obtain ⟨p, hp⟩ : ∃ p : Nat → Bool, p = fun b => s b && q b := ⟨_, rfl⟩
   obtain ⟨b, hb0⟩ : ∃ b, b = !eqS p zs := ⟨_, rfl⟩
   have HNEQ := qH hb0.symm
   have hr : r = b := by rw [HQ.out, if_neg (by omega), if_pos k3, hb0, hzs, hp]
   have HP := qH (show (fun b => Bool.and (s b) (q b)) = p from hp.symm)
   subst hr
   clear hb0 hzs HQ k2 k6 hp
   subst k3
   go_enter Tryz.func45, Tryz.ntmps45
   go_wp2_with (first
    | ((with_reducible refine atDst 2 ?_); refine wpList_box rfl 29 _ rfl cs rfl (Below.refl w.heap.size w) (Nat.le_refl _) ?_; intro w0 hk1 hb1 hs1 _; have K0 := qH hk1; have B0 := qH hb1; clear hk1 hb1 hs1; (try simp only [Act.put, qA, qB, qC]))
    | ((with_reducible refine atDst 3 ?_); refine wpList_box rfl 26 _ rfl (wds q) rfl B0.out B0.out.size ?_; intro w1 hk1 hb1 hs1 ho1; have L1 := qH hk1; have B1 := qH hb1; have K1 := qH (show Blk w1 w.heap.size 29 cs from (ho1 _ K0.out.lt).trans K0.out); have RS := qH (set_range' HCS.out K1.out); have c0 := K1.out.cell 0; rw [HC0.out] at c0; clear hk1 hb1 hs1 ho1; (try simp only [Act.put, qA, qB, qC]))
    | ((with_reducible refine atDst 17 ?_); refine wpList_ldMidG rfl 26 _ rfl w.heap.size 1 rfl (wds s) _ RS.out Tryz.underlying26 rfl (size_set s) ?_; (try simp only [Act.put, qA, qB, qC]))
    | ((with_reducible refine atDst 18 ?_); refine wpList_ldArr rfl 26 _ rfl w0.heap.size rfl 26 _ _ L1.out Tryz.underlying26 rfl (size_set q) ?_; (try simp only [Act.put, qA, qB, qC])))
   refine (bsAnd_any s q w1).mono ?_
   rintro e w2 ⟨rfl, hb2⟩
   rw [HP.out]
   have B2 := qH (B1.out.trans (hb2.mono B1.out.size))
   clear hb2
   go_wp2_with (first
    | ((with_reducible refine atDst 20 ?_); refine wpList_bld rfl 26 _ rfl (wds zs) HBS.out ?_; (try simp only [Act.put, qA, qB, qC]))
    | ((with_reducible refine atDst 21 ?_); refine wpList_neSetG rfl HNEQ.out 26 24 (.tmp 19) (.tmp 20) 26 rfl guardSet Tryz.underlying26 Tryz.underlying24 sizeU64 rfl rfl ?_; (try simp only [Act.put, qA, qB, qC])))
   go_ret
   exact ⟨rfl, B2.out⟩
  have z3 : (k == 3) = false := by simpa using k3
  by_cases k4 : k = 4
  ·have HR := qH (show r = l.all (overT q) by rw [HQ.out, if_neg (by omega), if_neg k3, if_pos k4])
   clear z2 z3 z6 k2 k3 k6 HQ
   subst k4
   go_enter Tryz.func45, Tryz.ntmps45
   go_wp2_with (first
    | ((with_reducible refine atDst 2 ?_); refine wpList_box rfl 29 _ rfl cs rfl (Below.refl w.heap.size w) (Nat.le_refl _) ?_; intro w0 hk1 hb1 hs1 _; have K0 := qH hk1; have B0 := qH hb1; clear hk1 hb1 hs1; (try simp only [Act.put, qA, qB, qC]))
    | ((with_reducible refine atDst 3 ?_); refine wpList_box rfl 26 _ rfl (wds q) rfl B0.out B0.out.size ?_; intro w1 hk1 hb1 hs1 ho1; have L1 := qH hk1; have B1 := qH hb1; have K1 := qH (show Blk w1 w.heap.size 29 cs from (ho1 _ K0.out.lt).trans K0.out); have c0 := K1.out.cell 0; rw [HC0.out] at c0; have k5 := K1.out.cell 5; rw [HC5.out] at k5; clear hk1 hb1 hs1 ho1; (try simp only [Act.put, qA, qB, qC])))
   go_loopw [27] (fun i wl => ∃ j : Nat, j ≤ l.length ∧ i = .int .i64 (j : Int) ∧ (l.take j).all (overT q) = true ∧ Below w1.heap.size w1 wl) (fun i _ => l.length - (intOf i).toNat)
   case atStart => exact ⟨0, by omega, by simp, by simp, Below.refl _ _⟩
   case round =>
    obtain ⟨j, hj, rfl, hf, hb⟩ := hrel
    have HB := qH hb
    have HF := qH hf
    clear hb hf
    by_cases hjl : j < l.length
    ·have j1 : (j : Int) < (l.length : Int) := Int.ofNat_lt.2 hjl
     obtain ⟨b, off, rfl, hb, hrng⟩ := H3.out (by rintro rfl; simp at hjl)
     have BW := qH (B1.out.trans (HB.out.mono B1.out.size))
     obtain ⟨u, hu⟩ : ∃ u, l[j]? = some u := ⟨_, List.getElem?_eq_getElem hjl⟩
     have HV := qH (RxV.part H4.out BW.out BW.out.size hu)
     have HV6 := qH HV.out.length
     have HV1 := qH (show (f j).all (·.oneCell') = true from List.all_eq_true.2 (RxD.one HV.out))
     have HRG := qH (range_below (hrng j hjl) BW.out hb)
     have HU := qH hu
     have HUN := qH (show u.nodes ≤ N by have h1 := nodes_mem (List.mem_of_getElem? hu); have := HN.out; omega)
     have HJ1 := qH hjl
     have e3 := wrap_len hjl HCL.out HCM.out
     have e4 := wrap_len' hjl HCL.out HCM.out
     have LR := qH (L1.out.below HB.out L1.out.lt)
     clear hrng hu hb hj hjl
     go_wp2_with (first
      | ((with_reducible refine atDst 30 ?_); refine wpList_load_mid rfl 29 _ rfl b (off + j * 6) rfl (f j) _ HRG.out Tryz.underlying29 rfl (size_rx HV6.out) ?_; (try simp only [Act.put, qA, qB, qC]))
      | ((with_reducible refine atDst 6 ?_); refine wpList_new rfl 29 rfl i0 _ z hi0 HZ0.out rfl (Below.refl wr.heap.size wr) (Nat.le_refl _) ?_; intro w4 hk4 hb4 hs4 _; have K4 := qH hk4; have B4 := qH hb4; clear hk4 hb4 hs4; (try simp only [Act.put, qA, qB, qC]))
      | ((with_reducible refine atStore 29 6 30 ?_); refine wpList_stBlk rfl 29 _ _ rfl wr.heap.size (f j) rfl rfl 29 _ K4.out (size_rx HV6.out) (by rw [HZL.out, HV6.out]) HV1.out B4.out (Nat.le_refl _) ?_; intro w5 hk5 hb5 hs5 _; have K5 := qH hk5; have B5 := qH hb5; have L5 := qH (LR.out.below hb5 LR.out.lt); clear hk5 hb5 hs5; (try simp only [Act.put, qA, qB, qC]))
      | ((with_reducible refine atDst 31 ?_); refine wpList_ldArr rfl 29 _ rfl wr.heap.size rfl 29 _ _ K5.out Tryz.underlying29 rfl (size_rx HV6.out) ?_; (try simp only [Act.put, qA, qB, qC]))
      | ((with_reducible refine atDst 32 ?_); refine wpList_ldArr rfl 26 _ rfl w0.heap.size rfl 26 _ _ L5.out Tryz.underlying26 rfl (size_set q) ?_; (try simp only [Act.put, qA, qB, qC])))
     refine (IH.out u HUN.out (f j) w5 (RxV.mono (HV.out.stay B5.out) B5.out.size)).mono ?_
     rintro e w6 ⟨rfl, hb6⟩
     have B6 := qH (HB.out.trans ((B5.out.trans (hb6.mono B5.out.size)).mono HB.out.size))
     have BX := qH (B1.out.trans (B6.out.mono B1.out.size))
     clear hb6
     obtain ⟨p, hp⟩ : ∃ p, p = overT q u := ⟨_, rfl⟩
     rw [← hp]
     cases p with
     | true =>
      have HP := qH hp
      clear hp
      go_wp2_with fail
      exact ⟨⟨j + 1, HJ1.out, by congr 1, all_next HU.out HF.out HP.out.symm, B6.out⟩, by have := HJ1.out; simp [intOf] <;> omega⟩
     | false =>
      have HP := qH hp
      clear hp
      have hq := HR.out.trans (all_not HU.out HP.out.symm)
      subst hq
      go_wp2_with fail
      go_ret
      exact ⟨rfl, BX.out⟩
    ·obtain rfl : j = l.length := by omega
     have j1 : ¬ ((l.length : Int) < (l.length : Int)) := by omega
     have B9 := qH (B1.out.trans (HB.out.mono B1.out.size))
     have HP := qH (show l.all (overT q) = true by have := HF.out; rwa [List.take_length] at this)
     have hq := HR.out.trans (HP.out)
     subst hq
     go_wp2_with fail
     go_ret
     exact ⟨rfl, B9.out⟩
  have z4 : (k == 4) = false := by simpa using k4
  by_cases k5' : k = 5
  ·have HR := qH (show r = l.any (overT q) by rw [HQ.out, if_neg (by omega), if_neg k3, if_neg k4, if_pos k5'])
   clear z2 z3 z6 k2 k3 k6 HQ z4 k4
   subst k5'
   go_enter Tryz.func45, Tryz.ntmps45
   go_wp2_with (first
    | ((with_reducible refine atDst 2 ?_); refine wpList_box rfl 29 _ rfl cs rfl (Below.refl w.heap.size w) (Nat.le_refl _) ?_; intro w0 hk1 hb1 hs1 _; have K0 := qH hk1; have B0 := qH hb1; clear hk1 hb1 hs1; (try simp only [Act.put, qA, qB, qC]))
    | ((with_reducible refine atDst 3 ?_); refine wpList_box rfl 26 _ rfl (wds q) rfl B0.out B0.out.size ?_; intro w1 hk1 hb1 hs1 ho1; have L1 := qH hk1; have B1 := qH hb1; have K1 := qH (show Blk w1 w.heap.size 29 cs from (ho1 _ K0.out.lt).trans K0.out); have c0 := K1.out.cell 0; rw [HC0.out] at c0; have k5 := K1.out.cell 5; rw [HC5.out] at k5; clear hk1 hb1 hs1 ho1; (try simp only [Act.put, qA, qB, qC])))
   go_loopw [41] (fun i wl => ∃ j : Nat, j ≤ l.length ∧ i = .int .i64 (j : Int) ∧ (l.take j).any (overT q) = false ∧ Below w1.heap.size w1 wl) (fun i _ => l.length - (intOf i).toNat)
   case atStart => exact ⟨0, by omega, by simp, by simp, Below.refl _ _⟩
   case round =>
    obtain ⟨j, hj, rfl, hf, hb⟩ := hrel
    have HB := qH hb
    have HF := qH hf
    clear hb hf
    by_cases hjl : j < l.length
    ·have j1 : (j : Int) < (l.length : Int) := Int.ofNat_lt.2 hjl
     obtain ⟨b, off, rfl, hb, hrng⟩ := H3.out (by rintro rfl; simp at hjl)
     have BW := qH (B1.out.trans (HB.out.mono B1.out.size))
     obtain ⟨u, hu⟩ : ∃ u, l[j]? = some u := ⟨_, List.getElem?_eq_getElem hjl⟩
     have HV := qH (RxV.part H4.out BW.out BW.out.size hu)
     have HV6 := qH HV.out.length
     have HV1 := qH (show (f j).all (·.oneCell') = true from List.all_eq_true.2 (RxD.one HV.out))
     have HRG := qH (range_below (hrng j hjl) BW.out hb)
     have HU := qH hu
     have HUN := qH (show u.nodes ≤ N by have h1 := nodes_mem (List.mem_of_getElem? hu); have := HN.out; omega)
     have HJ1 := qH hjl
     have e3 := wrap_len hjl HCL.out HCM.out
     have e4 := wrap_len' hjl HCL.out HCM.out
     have LR := qH (L1.out.below HB.out L1.out.lt)
     clear hrng hu hb hj hjl
     go_wp2_with (first
      | ((with_reducible refine atDst 44 ?_); refine wpList_load_mid rfl 29 _ rfl b (off + j * 6) rfl (f j) _ HRG.out Tryz.underlying29 rfl (size_rx HV6.out) ?_; (try simp only [Act.put, qA, qB, qC]))
      | ((with_reducible refine atDst 8 ?_); refine wpList_new rfl 29 rfl i0 _ z hi0 HZ0.out rfl (Below.refl wr.heap.size wr) (Nat.le_refl _) ?_; intro w4 hk4 hb4 hs4 _; have K4 := qH hk4; have B4 := qH hb4; clear hk4 hb4 hs4; (try simp only [Act.put, qA, qB, qC]))
      | ((with_reducible refine atStore 29 8 44 ?_); refine wpList_stBlk rfl 29 _ _ rfl wr.heap.size (f j) rfl rfl 29 _ K4.out (size_rx HV6.out) (by rw [HZL.out, HV6.out]) HV1.out B4.out (Nat.le_refl _) ?_; intro w5 hk5 hb5 hs5 _; have K5 := qH hk5; have B5 := qH hb5; have L5 := qH (LR.out.below hb5 LR.out.lt); clear hk5 hb5 hs5; (try simp only [Act.put, qA, qB, qC]))
      | ((with_reducible refine atDst 45 ?_); refine wpList_ldArr rfl 29 _ rfl wr.heap.size rfl 29 _ _ K5.out Tryz.underlying29 rfl (size_rx HV6.out) ?_; (try simp only [Act.put, qA, qB, qC]))
      | ((with_reducible refine atDst 46 ?_); refine wpList_ldArr rfl 26 _ rfl w0.heap.size rfl 26 _ _ L5.out Tryz.underlying26 rfl (size_set q) ?_; (try simp only [Act.put, qA, qB, qC])))
     refine (IH.out u HUN.out (f j) w5 (RxV.mono (HV.out.stay B5.out) B5.out.size)).mono ?_
     rintro e w6 ⟨rfl, hb6⟩
     have B6 := qH (HB.out.trans ((B5.out.trans (hb6.mono B5.out.size)).mono HB.out.size))
     have BX := qH (B1.out.trans (B6.out.mono B1.out.size))
     clear hb6
     obtain ⟨p, hp⟩ : ∃ p, p = overT q u := ⟨_, rfl⟩
     rw [← hp]
     cases p with
     | true =>
      have HP := qH hp
      clear hp
      have hq := HR.out.trans (any_is HU.out HP.out.symm)
      subst hq
      go_wp2_with fail
      go_ret
      exact ⟨rfl, BX.out⟩
     | false =>
      have HP := qH hp
      clear hp
      go_wp2_with fail
      exact ⟨⟨j + 1, HJ1.out, by congr 1, any_next HU.out HF.out HP.out.symm, B6.out⟩, by have := HJ1.out; simp [intOf] <;> omega⟩
    ·obtain rfl : j = l.length := by omega
     have j1 : ¬ ((l.length : Int) < (l.length : Int)) := by omega
     have B9 := qH (B1.out.trans (HB.out.mono B1.out.size))
     have HP := qH (show l.any (overT q) = false by have := HF.out; rwa [List.take_length] at this)
     have hq := HR.out.trans (HP.out)
     subst hq
     go_wp2_with fail
     go_ret
     exact ⟨rfl, B9.out⟩
  have z5 : (k == 5) = false := by simpa using k5'
  have hr : r = false := by rw [HQ.out, if_neg (by omega), if_neg k3, if_neg k4, if_neg k5']
  subst hr
  clear k2 k3 k4 k5' k6 HQ
  go_enter Tryz.func45, Tryz.ntmps45
  go_wp2_with (first
   | ((with_reducible refine atDst 2 ?_); refine wpList_box rfl 29 _ rfl cs rfl (Below.refl w.heap.size w) (Nat.le_refl _) ?_; intro w0 hk1 hb1 hs1 _; have K0 := qH hk1; have B0 := qH hb1; clear hk1 hb1 hs1; (try simp only [Act.put, qA, qB, qC]))
   | ((with_reducible refine atDst 3 ?_); refine wpList_box rfl 26 _ rfl (wds q) rfl B0.out B0.out.size ?_; intro w1 hk1 hb1 hs1 ho1; have L1 := qH hk1; have B1 := qH hb1; have K1 := qH (show Blk w1 w.heap.size 29 cs from (ho1 _ K0.out.lt).trans K0.out); have c0 := K1.out.cell 0; rw [HC0.out] at c0; have k5 := K1.out.cell 5; rw [HC5.out] at k5; clear hk1 hb1 hs1 ho1; (try simp only [Act.put, qA, qB, qC])))
  go_ret
  exact ⟨rfl, B1.out⟩
set_option maxHeartbeats 1000000 in
set_option maxRecDepth 100000 in
theorem lNull_any (t : T) (cs : List Value) (w : World) (hv : RxV w.heap.size w cs t) :
  Calls Tryz.prog 19 #[.agg cs.toArray] w fun e w' => e = .returned (.bool (nullT t)) ∧ Below w.heap.size w w' := by
 have V := qH hv
 have HC6 := qH hv.length
 obtain ⟨zs, hzs⟩ : ∃ zs, zs = zeroS := ⟨_, rfl⟩
 have HBS := qH (show Tryz.prog.built 26 [] = some (wds zs).toArray by rw [hzs]; exact builtS)
 have HR := qH (show overT zs t = nullT t by rw [hzs]; exact over_null t)
 clear hv hzs
 go_enter Tryz.func19, Tryz.ntmps19
 go_wp2_with (first
  | ((with_reducible refine atDst 1 ?_); refine wpList_box rfl 29 _ rfl cs rfl (Below.refl w.heap.size w) (Nat.le_refl _) ?_; intro w1 hk1 hb1 hs1 _; have K1 := qH hk1; have B1 := qH hb1; clear hk1 hb1 hs1; (try simp only [Act.put, qA, qB, qC]))
  | ((with_reducible refine atDst 3 ?_); refine wpList_ldArr rfl 29 _ rfl w.heap.size rfl 29 _ _ K1.out Tryz.underlying29 rfl (size_rx HC6.out) ?_; (try simp only [Act.put, qA, qB, qC]))
  | ((with_reducible refine atDst 4 ?_); refine wpList_bld rfl 26 _ rfl (wds zs) HBS.out ?_; (try simp only [Act.put, qA, qB, qC])))
 refine (lOver_any zs _ t (Nat.le_refl _) cs w1 ((V.out.stay B1.out).mono B1.out.size)).mono ?_
 rintro e w2 ⟨rfl, hb2⟩
 rw [HR.out]
 have B2 := qH (B1.out.trans (hb2.mono B1.out.size))
 clear hb2
 go_wp2_with fail
 go_ret
 exact ⟨rfl, B2.out⟩
section
variable {P : Program} {ops : Array Oper} {Q : Exit → Act → World → Prop} {md : Region.Mode} {S : World → Prop}
theorem sg_take {i : Nat} {oi : Oper} {v : Value} {fuel : Nat} {listed : Array Bool} {a : Act} {w : World} (hi : ops[i]? = some oi)
  (hs : Region.noSelect ops = true) (hf : Region.free md ops listed i = true) (hr : (Region.ready md ops listed).contains i = true)
  (hQ : ∀ c a w, Q (.panic c) (a.put oi.dst v) w → Q (.panic c) a w) (hw : Region.wanted oi (yielded ops a.tmps) = true) (hS : S w)
  (hy : ∀ W, S W → (execOp a.eval oi).run P W = .ok (.value v) W)
  (h : wpAnyH P md ops Q S fuel (listed.setIfInBounds i true) (a.put oi.dst v) w) : wpAnyH P md ops Q S (fuel + 1) listed a w :=
 wpAnyH_take hi hs hf hr hQ (.inl ⟨hw, hy⟩) hS h
theorem sg_skip {i : Nat} {oi : Oper} {fuel : Nat} {listed : Array Bool} {a : Act} {w : World} (hi : ops[i]? = some oi)
  (hs : Region.noSelect ops = true) (hf : Region.free md ops listed i = true) (hr : (Region.ready md ops listed).contains i = true)
  (hQ : ∀ c a w, Q (.panic c) (a.put oi.dst undef) w → Q (.panic c) a w) (hw : Region.wanted oi (yielded ops a.tmps) = false) (hS : S w)
  (h : wpAnyH P md ops Q S fuel (listed.setIfInBounds i true) (a.put oi.dst undef) w) : wpAnyH P md ops Q S (fuel + 1) listed a w :=
 wpAnyH_take hi hs hf hr hQ (.inr ⟨hw, rfl⟩) hS h
theorem sg_actB {i : Nat} {o : Oper} {fuel : Nat} {listed : Array Bool} {a : Act} {w : World} (hi : ops[i]? = some o) (hr : Region.ready md ops listed = [i])
  (hw : Region.wanted o (yielded ops a.tmps) = true) (hS : S w)
  (h : ∀ K : Act → World → Prop, (∀ a' w', S w' → wpAnyH P md ops Q S fuel (listed.setIfInBounds i true) a' w' → K a' w') → o.wp P a w K Q) :
  wpAnyH P md ops Q S (fuel + 1) listed a w := by
 refine wpAnyH_all hr (by simp) (fun j hj => ?_)
 have hji : j = i := by simpa using hj
 subst hji
 unfold wpOp
 rw [hi]
 simp only [hw, if_true]
 exact .inl (h _ fun a' w' hx hk => ⟨hx, hk⟩)
theorem sg_start {id : Nat} {a : Act} {w : World} (S : World → Prop) (hm : P.follows .mixedOrders = true) (hS : S w.drew)
  (h : ∀ wd, wd = w.drew → wpAnyH P .any ops Q S ops.size (Array.replicate ops.size false) a wd) : (Code.region id ops true).wp P Q a w :=
 wp_region_held_drew hm hS (fun _ => h _ rfl)
end
end Go.Proofs.YtopnpdobcagcgaaGreat
