/-
  Texts of this proof, put together: RmA, RmB, RmC. No statement is proved here.
-/
import Derived.Test.YtmcpfaaakmehdaaQI
import Derived.Test.YtmcpfaaakmehdaaQB
import Derived.Test.YtmcpfaaakmehdaaQJ
import Derived.Test.YtmcpfaaakmehdaaQC
namespace Go.Proofs.Ytmcpfaaakmehdaa
open Go.RowKit
set_option linter.unusedSimpArgs false
set_option linter.unusedVariables false
/-! ### left -/
mutual
def leftT : T → Int → Int
 | .node _ _ l, n => leftL l (n - 1)
def leftL : List T → Int → Int
 | [], n => n
 | t :: r, n => if n < 0 then n else leftL r (leftT t n)
end
theorem leftL_neg : ∀ (l : List T) {n : Int}, n < 0 → leftL l n = n
 | [], _, _ => rfl
 | t :: r, n, h => by simp only [leftL]; rw [if_pos h]
theorem leftL_app : ∀ (l m : List T) (n : Int), leftL (l ++ m) n = leftL m (leftL l n)
 | [], m, n => rfl
 | t :: r, m, n => by
  simp only [List.cons_append, leftL]
  by_cases h : n < 0
  ·rw [if_pos h, if_pos h, leftL_neg m h]
  ·rw [if_neg h, if_neg h, leftL_app r m]
theorem leftL_next {l : List T} {j : Nat} {u : T} (h : l[j]? = some u) (n : Int) : leftL (l.take (j + 1)) n = if leftL (l.take j) n < 0 then leftL (l.take j) n else leftT u (leftL (l.take j) n) := by
 rw [List.take_add_one, h, leftL_app]
 simp only [Option.toList_some, leftL]
theorem leftL_stop {l : List T} {j : Nat} {n : Int} (h : leftL (l.take j) n < 0) : leftL l n = leftL (l.take j) n := by
 have := leftL_app (l.take j) (l.drop j) n
 rw [List.take_append_drop] at this
 rw [this, leftL_neg _ h]
mutual
theorem leftT_is : ∀ (t : T) (n : Int), 0 ≤ n → -1 ≤ leftT t n ∧ leftT t n ≤ n ∧ (leftT t n < 0 ↔ n < (t.nodes : Int)) ∧ (0 ≤ leftT t n → leftT t n = n - (t.nodes : Int))
 | .node k s l, n, h => by
  have := leftL_is l (n - 1) (by omega)
  simp only [leftT, T.nodes]
  obtain ⟨h1, h2, h3, h4⟩ := this
  refine ⟨h1, by omega, ?_, fun h0 => ?_⟩
  ·rw [h3]; omega
  ·rw [h4 h0]; omega
theorem leftL_is : ∀ (l : List T) (n : Int), -1 ≤ n → -1 ≤ leftL l n ∧ leftL l n ≤ n ∧ (leftL l n < 0 ↔ n < (nodesL l : Int)) ∧ (0 ≤ leftL l n → leftL l n = n - (nodesL l : Int))
 | [], n, h => by
  simp only [leftL, nodesL]
  omega
 | t :: r, n, h => by
  simp only [leftL, nodesL]
  by_cases h0 : n < 0
  ·rw [if_pos h0]
   have := nodes_pos t
   omega
  ·rw [if_neg h0]
   obtain ⟨a1, a2, a3, a4⟩ := leftT_is t n (by omega)
   obtain ⟨b1, b2, b3, b4⟩ := leftL_is r (leftT t n) a1
   refine ⟨b1, by omega, ?_, fun hh => ?_⟩
   ·rw [b3]
    by_cases hn : leftT t n < 0
    ·have := a3.1 hn
     omega
    ·have := a4 (by omega)
     omega
   ·rw [b4 hh, a4 (by omega)]; omega
end
theorem left_long (t : T) : leftT t 400 < 0 ↔ 400 < t.nodes := by
 rw [(leftT_is t 400 (by omega)).2.2.1]
 omega
theorem sub_wrap {n : Int} (h : 0 ≤ n) (h2 : n ≤ 400) : wrap64 (n - 1) = n - 1 := IntWalk.wrap64_in _ (by omega)
theorem sub_wrap' {n : Int} (h : 0 ≤ n) (h2 : n ≤ 400) : IntKind.i64.wrap (n - 1) = n - 1 := IntWalk.i64_in _ (by omega)
set_option maxHeartbeats 4000000 in
set_option maxRecDepth 1000000 in
theorem rxLeft_any : ∀ (N : Nat) (t : T), t.nodes ≤ N → t.nodes ≤ 1099511627776 → ∀ (n : Int) (cs : List Value) (w : World), 0 ≤ n → n ≤ 400 → RxV w.heap.size w cs t →
  Calls Try.prog 61 #[.agg cs.toArray, .int .i64 n] w fun e w' => e = .returned (.int .i64 (leftT t n)) ∧ Below w.heap.size w w' := by
 intro N
 induction N with
 | zero => intro t h; have := nodes_pos t; omega
 | succ N ih =>
  rintro ⟨k, s, l⟩ hN hM n cs w hn0 hn4 hv
  have IH := qH ih
  clear ih
  obtain ⟨A, cap, f, rfl, h1, h2, h0, h3, h4⟩ := hv.opened
  have H3 := qH h3
  have H4 := qH h4
  have HNN := qH (show T.nodes (.node k s l) = 1 + nodesL l by simp only [T.nodes])
  have HTT := qH (show leftT (.node k s l) n = leftL l (n - 1) by simp only [leftT])
  rw [HNN.out] at hN hM
  have HN := qH hN
  have HM := qH hM
  have HCM := qH h2
  have HCL := qH h1
  have HLI := qH (show ∀ j, -1 ≤ leftL (l.take j) (n - 1) ∧ leftL (l.take j) (n - 1) ≤ 400 from fun j => by
   have := leftL_is (l.take j) (n - 1) (by omega)
   omega)
  obtain ⟨cs, hcs⟩ : ∃ cs, cs = Value.int .i64 k :: (wds s ++ [.slice A l.length cap]) := ⟨_, rfl⟩
  have HC5 := qH (show cs[5]? = some (.slice A l.length cap) by rw [hcs]; rfl)
  rw [← hcs]
  have s1 := sub_wrap hn0 hn4
  have s2 := sub_wrap' hn0 hn4
  obtain ⟨i0, hi0, hz0, hz1, hz2⟩ := inf_rx'
  obtain ⟨z, hz⟩ : ∃ z, z = rxc 0 zeroS (.slice none 0 0) := ⟨_, rfl⟩
  have HZL := qH (show z.length = 6 by rw [hz]; rfl)
  have HZ0 := qH (show i0.zero = some (.agg z.toArray) by rw [hz]; exact hz0)
  have HZ1 := qH hz0
  clear hz hz0
  clear hv h1 h2 h0 h3 h4 hcs hN hM hn0 hn4
  rw [HTT.out]
  go_enter Try.func61, Try.ntmps61
  go_wp2_with ((with_reducible refine atDst 2 ?_); refine wpList_box rfl 40 _ rfl cs rfl (Below.refl w.heap.size w) (Nat.le_refl _) ?_; intro w1 hk1 hb1 hs1 _; have K1 := qH hk1; have B1 := qH hb1; have k5 := hk1.cell 5; rw [HC5.out] at k5; clear hk1 hb1 hs1; (try simp only [Act.put, qA, qB, qC]))
  clear s1 s2
  go_loopw [1, 12] (fun v iv wl => ∃ j : Nat, j ≤ l.length ∧ iv = .int .i64 (j : Int) ∧ v = .int .i64 (leftL (l.take j) (n - 1)) ∧ Below w1.heap.size w1 wl) (fun _ iv _ => l.length - (intOf iv).toNat)
  case atStart => exact ⟨0, Nat.zero_le _, by simp, by simp [leftL], Below.refl _ _⟩
  clear k5
  obtain ⟨j, hj, rfl, rfl, hb⟩ := hrel
  have HB := qH hb
  have BW := qH (B1.out.trans (hb.mono B1.out.size))
  clear hb
  by_cases hjl : j < l.length
  ·have j1 : (j : Int) < (l.length : Int) := Int.ofNat_lt.2 hjl
   obtain ⟨b, off, rfl, hb, hrng⟩ := H3.out (by rintro rfl; simp at hjl)
   obtain ⟨u, hu⟩ : ∃ u, l[j]? = some u := ⟨_, List.getElem?_eq_getElem hjl⟩
   have HV := qH (RxV.part H4.out BW.out BW.out.size hu)
   have HV6 := qH HV.out.length
   have HV1 := qH (show (f j).all (·.oneCell') = true from List.all_eq_true.2 (RxD.one HV.out))
   have HRG := qH (range_below (hrng j hjl) BW.out hb)
   have HU := qH (leftL_next hu (n - 1))
   have HUN := qH (show u.nodes ≤ N by have h1 := nodes_mem (List.mem_of_getElem? hu); have := HN.out; omega)
   have HUM := qH (show u.nodes ≤ 1099511627776 by have h1 := nodes_mem (List.mem_of_getElem? hu); have := HM.out; omega)
   have HJ1 := qH hjl
   have e3 := wrap_len hjl HCL.out HCM.out
   have e4 := wrap_len' hjl HCL.out HCM.out
   have HXI := qH (HLI.out j)
   have HST := qH (fun h => leftL_stop (l := l) (j := j) (n := n - 1) h)
   obtain ⟨x, hx⟩ : ∃ x, leftL (l.take j) (n - 1) = x := ⟨_, rfl⟩
   rw [hx] at HU HXI HST ⊢
   clear hrng hu hb hj hjl hx
   obtain ⟨wq, hwq⟩ : ∃ v : World, v = wr := ⟨_, rfl⟩
   subst hwq
   by_cases hneg : x < 0
   ·have HR := qH (HST.out hneg)
    go_wp2_with (first
     | ((with_reducible refine atDst 15 ?_); refine wpList_load_mid rfl 40 _ rfl b (off + j * 6) rfl (f j) _ HRG.out Try.underlying40 rfl (size_rx HV6.out) ?_; (try simp only [Act.put, qA, qB, qC]))
     | ((with_reducible refine atDst 6 ?_); refine wpList_new rfl 40 rfl i0 _ z hi0 HZ0.out rfl (Below.refl wq.heap.size wq) (Nat.le_refl _) ?_; intro w4 hk4 hb4 hs4 _; have K4 := qH hk4; have B4 := qH hb4; clear hk4 hb4 hs4; (try simp only [Act.put, qA, qB, qC]))
     | ((with_reducible refine atStore 40 6 15 ?_); refine wpList_stBlk rfl 40 _ _ rfl wq.heap.size (f j) rfl rfl 40 _ K4.out (size_rx HV6.out) (by rw [HZL.out, HV6.out]) HV1.out B4.out (Nat.le_refl _) ?_; intro w5 hk5 hb5 hs5 _; have K5 := qH hk5; have B5 := qH hb5; clear hk5 hb5 hs5; (try simp only [Act.put, qA, qB, qC]))
     | ((with_reducible refine atDst 18 ?_); refine wpList_ldArr rfl 40 _ rfl wq.heap.size rfl 40 _ _ K5.out Try.underlying40 rfl (size_rx HV6.out) ?_; (try simp only [Act.put, qA, qB, qC])))
    go_ret
    rw [HR.out]
    exact ⟨rfl, (BW.out.trans (B5.out.mono BW.out.size))⟩
   ·have hx0 := Int.not_lt.1 hneg
    have HX0 := qH hx0
    have HUE := qH (HU.out.trans (if_neg hneg))
    go_wp2_with (first
     | ((with_reducible refine atDst 15 ?_); refine wpList_load_mid rfl 40 _ rfl b (off + j * 6) rfl (f j) _ HRG.out Try.underlying40 rfl (size_rx HV6.out) ?_; (try simp only [Act.put, qA, qB, qC]))
     | ((with_reducible refine atDst 6 ?_); refine wpList_new rfl 40 rfl i0 _ z hi0 HZ0.out rfl (Below.refl wq.heap.size wq) (Nat.le_refl _) ?_; intro w4 hk4 hb4 hs4 _; have K4 := qH hk4; have B4 := qH hb4; clear hk4 hb4 hs4; (try simp only [Act.put, qA, qB, qC]))
     | ((with_reducible refine atStore 40 6 15 ?_); refine wpList_stBlk rfl 40 _ _ rfl wq.heap.size (f j) rfl rfl 40 _ K4.out (size_rx HV6.out) (by rw [HZL.out, HV6.out]) HV1.out B4.out (Nat.le_refl _) ?_; intro w5 hk5 hb5 hs5 _; have K5 := qH hk5; have B5 := qH hb5; clear hk5 hb5 hs5; (try simp only [Act.put, qA, qB, qC]))
     | ((with_reducible refine atDst 18 ?_); refine wpList_ldArr rfl 40 _ rfl wq.heap.size rfl 40 _ _ K5.out Try.underlying40 rfl (size_rx HV6.out) ?_; (try simp only [Act.put, qA, qB, qC])))
    refine (IH.out u HUN.out HUM.out x (f j) w5 HX0.out HXI.out.2 (RxV.mono (HV.out.stay B5.out) B5.out.size)).mono ?_
    rintro e w6 ⟨rfl, hb6⟩
    have B6 := qH (HB.out.trans ((B5.out.trans (hb6.mono B5.out.size)).mono HB.out.size))
    clear hb6
    rw [← HUE.out]
    go_wp2_with fail
    exact ⟨⟨j + 1, HJ1.out, by congr 1, rfl, B6.out⟩, by simpa [intOf] using sub_next HJ1.out⟩
  ·obtain rfl : j = l.length := Nat.le_antisymm hj (Nat.not_lt.1 hjl)
   have j1 : ¬ ((l.length : Int) < (l.length : Int)) := Int.lt_irrefl _
   rw [List.take_length]
   go_wp2_with fail
   go_ret
   exact ⟨rfl, BW.out⟩
/-! ### counted, fits -/
set_option maxHeartbeats 4000000 in
set_option maxRecDepth 1000000 in
theorem rxFits_any (p k : Int) (w : World) :
  Calls Try.prog 79 #[.int .i64 p, .int .i64 k] w fun e w' => e = .returned (.bool (fitsT p k)) ∧ w' = w := by
 obtain ⟨q, hq⟩ : ∃ q, fitsT p k = q := ⟨_, rfl⟩
 have HQ := qH hq
 rw [hq]
 clear hq
 go_enter Try.func79, Try.ntmps79
 by_cases h2 : p = 2
 ·subst h2
  by_cases h5 : k = 5
  ·subst h5
   have HR := qH (show q = true by rw [← HQ.out]; rfl)
   go_wp2_with fail
   go_ret
   rw [HR.out]
   exact ⟨rfl, rfl⟩
  ·have HR := qH (show q = false by rw [← HQ.out]; unfold fitsT; rw [if_pos rfl]; exact decide_eq_false h5)
   by_cases hk2 : k = 2
   ·subst hk2
    go_wp2_with fail
    go_ret
    rw [HR.out]
    exact ⟨rfl, rfl⟩
   ·go_wp2_with fail
    go_ret
    rw [HR.out]
    exact ⟨rfl, rfl⟩
 ·by_cases h1 : p = 1
  ·subst h1
   have HR := qH (show q = false by rw [← HQ.out]; rfl)
   go_wp2_with fail
   go_ret
   rw [HR.out]
   exact ⟨rfl, rfl⟩
  ·by_cases hk : p = k
   ·subst hk
    have HR := qH (show q = false by rw [← HQ.out]; unfold fitsT; rw [if_neg h2]; simp)
    go_wp2_with fail
    go_ret
    rw [HR.out]
    exact ⟨rfl, rfl⟩
   ·have HR := qH (show q = true by rw [← HQ.out]; unfold fitsT; rw [if_neg h2]; simp [h1, hk])
    go_wp2_with fail
    go_ret
    rw [HR.out]
    exact ⟨rfl, rfl⟩
set_option maxHeartbeats 4000000 in
set_option maxRecDepth 1000000 in
theorem rxCounted_any (k : Int) (s : Nat → Bool) (A : Option Addr) (n cap : Nat) (cs : List Value) (hcs : cs = .int .i64 k :: (wds s ++ [.slice A n cap])) (w : World) :
  Calls Try.prog 78 #[.agg cs.toArray] w fun e w' => e = .returned (.bool (countT k s n)) ∧ Below w.heap.size w w' := by
 obtain ⟨q, hq⟩ : ∃ q, countT k s n = q := ⟨_, rfl⟩
 have HQ := qH hq
 have HCS := qH hcs
 have HC0 := qH (show cs[0]? = some (.int .i64 k) by rw [hcs]; rfl)
 have HC5 := qH (show cs[5]? = some (.slice A n cap) by rw [hcs]; rfl)
 have HBS := qH builtS
 obtain ⟨zs, hzs⟩ : ∃ zs, zs = zeroS := ⟨_, rfl⟩
 have HZS := qH hzs
 rw [← hzs] at HBS
 obtain ⟨b, hb⟩ : ∃ b, eqS s zs = b := ⟨_, rfl⟩
 have HEQ := qH hb
 have HEZ := qH (show eqS s zeroS = b by rw [← hzs]; exact hb)
 rw [hq]
 clear hq hcs hzs hb
 go_enter Try.func78, Try.ntmps78
 by_cases h3 : k = 3
 ·subst h3
  cases b with
  | true =>
   have HR := qH (show q = false by rw [← HQ.out]; unfold countT; rw [if_pos rfl, HEZ.out]; rfl)
   go_wp2_with (first
    | ((with_reducible refine atDst 1 ?_); refine wpList_box rfl 40 _ rfl cs rfl (Below.refl w.heap.size w) (Nat.le_refl _) ?_; intro w1 hk1 hb1 hs1 _; have K1 := qH hk1; have B1 := qH hb1; have k0 := hk1.cell 0; rw [HC0.out] at k0; have k5 := hk1.cell 5; rw [HC5.out] at k5; have RS := qH (set_range' HCS.out hk1); clear hk1 hb1 hs1; (try simp only [Act.put, qA, qB, qC]))
    | ((with_reducible refine atDst 16 ?_); refine wpList_ldMidG rfl 37 _ rfl w.heap.size 1 rfl (wds s) _ RS.out Try.underlying37 rfl (size_set s) ?_; (try simp only [Act.put, qA, qB, qC]))
    | ((with_reducible refine atDst 17 ?_); refine wpList_bld rfl 37 _ rfl (wds zs) HBS.out ?_; (try simp only [Act.put, qA, qB, qC]))
    | ((with_reducible refine atDst 18 ?_); refine wpList_eqSet_is rfl HEQ.out 37 35 (.tmp 16) (.tmp 17) 37 rfl guardSet Try.underlying37 Try.underlying35 sizeU64 rfl rfl ?_; (try simp only [Act.put, qA, qB, qC])))
   go_ret
   rw [HR.out]
   exact ⟨rfl, B1.out⟩
  | false =>
   by_cases hn : n = 0
   ·have HR := qH (show q = true by rw [← HQ.out]; (unfold countT; rw [if_pos rfl, HEZ.out]; simp [hn]))
    have n1 : ((n : Int) == 0) = true := by rw [beq_iff_eq]; omega
    go_wp2_with (first
     | ((with_reducible refine atDst 1 ?_); refine wpList_box rfl 40 _ rfl cs rfl (Below.refl w.heap.size w) (Nat.le_refl _) ?_; intro w1 hk1 hb1 hs1 _; have K1 := qH hk1; have B1 := qH hb1; have k0 := hk1.cell 0; rw [HC0.out] at k0; have k5 := hk1.cell 5; rw [HC5.out] at k5; have RS := qH (set_range' HCS.out hk1); clear hk1 hb1 hs1; (try simp only [Act.put, qA, qB, qC]))
     | ((with_reducible refine atDst 16 ?_); refine wpList_ldMidG rfl 37 _ rfl w.heap.size 1 rfl (wds s) _ RS.out Try.underlying37 rfl (size_set s) ?_; (try simp only [Act.put, qA, qB, qC]))
     | ((with_reducible refine atDst 17 ?_); refine wpList_bld rfl 37 _ rfl (wds zs) HBS.out ?_; (try simp only [Act.put, qA, qB, qC]))
     | ((with_reducible refine atDst 18 ?_); refine wpList_eqSet_is rfl HEQ.out 37 35 (.tmp 16) (.tmp 17) 37 rfl guardSet Try.underlying37 Try.underlying35 sizeU64 rfl rfl ?_; (try simp only [Act.put, qA, qB, qC])))
    go_ret
    rw [HR.out]
    exact ⟨rfl, B1.out⟩
   ·have HR := qH (show q = false by rw [← HQ.out]; (unfold countT; rw [if_pos rfl, HEZ.out]; simp [hn]))
    have n1 : ((n : Int) == 0) = false := by rw [beq_eq_false_iff_ne]; omega
    go_wp2_with (first
     | ((with_reducible refine atDst 1 ?_); refine wpList_box rfl 40 _ rfl cs rfl (Below.refl w.heap.size w) (Nat.le_refl _) ?_; intro w1 hk1 hb1 hs1 _; have K1 := qH hk1; have B1 := qH hb1; have k0 := hk1.cell 0; rw [HC0.out] at k0; have k5 := hk1.cell 5; rw [HC5.out] at k5; have RS := qH (set_range' HCS.out hk1); clear hk1 hb1 hs1; (try simp only [Act.put, qA, qB, qC]))
     | ((with_reducible refine atDst 16 ?_); refine wpList_ldMidG rfl 37 _ rfl w.heap.size 1 rfl (wds s) _ RS.out Try.underlying37 rfl (size_set s) ?_; (try simp only [Act.put, qA, qB, qC]))
     | ((with_reducible refine atDst 17 ?_); refine wpList_bld rfl 37 _ rfl (wds zs) HBS.out ?_; (try simp only [Act.put, qA, qB, qC]))
     | ((with_reducible refine atDst 18 ?_); refine wpList_eqSet_is rfl HEQ.out 37 35 (.tmp 16) (.tmp 17) 37 rfl guardSet Try.underlying37 Try.underlying35 sizeU64 rfl rfl ?_; (try simp only [Act.put, qA, qB, qC])))
    go_ret
    rw [HR.out]
    exact ⟨rfl, B1.out⟩
 by_cases h1 : k = 1
 ·subst h1
  by_cases hn : n = 0
  ·have HR := qH (show q = true by rw [← HQ.out]; (unfold countT; simp [hn]))
   have n1 : ((n : Int) == 0) = true := by rw [beq_iff_eq]; omega
   go_wp2_with (first
    | ((with_reducible refine atDst 1 ?_); refine wpList_box rfl 40 _ rfl cs rfl (Below.refl w.heap.size w) (Nat.le_refl _) ?_; intro w1 hk1 hb1 hs1 _; have K1 := qH hk1; have B1 := qH hb1; have k0 := hk1.cell 0; rw [HC0.out] at k0; have k5 := hk1.cell 5; rw [HC5.out] at k5; have RS := qH (set_range' HCS.out hk1); clear hk1 hb1 hs1; (try simp only [Act.put, qA, qB, qC]))
    | ((with_reducible refine atDst 16 ?_); refine wpList_ldMidG rfl 37 _ rfl w.heap.size 1 rfl (wds s) _ RS.out Try.underlying37 rfl (size_set s) ?_; (try simp only [Act.put, qA, qB, qC]))
    | ((with_reducible refine atDst 17 ?_); refine wpList_bld rfl 37 _ rfl (wds zs) HBS.out ?_; (try simp only [Act.put, qA, qB, qC]))
    | ((with_reducible refine atDst 18 ?_); refine wpList_eqSet_is rfl HEQ.out 37 35 (.tmp 16) (.tmp 17) 37 rfl guardSet Try.underlying37 Try.underlying35 sizeU64 rfl rfl ?_; (try simp only [Act.put, qA, qB, qC])))
   go_ret
   rw [HR.out]
   exact ⟨rfl, B1.out⟩
  ·have HR := qH (show q = false by rw [← HQ.out]; (unfold countT; simp [hn]))
   have n1 : ((n : Int) == 0) = false := by rw [beq_eq_false_iff_ne]; omega
   go_wp2_with (first
    | ((with_reducible refine atDst 1 ?_); refine wpList_box rfl 40 _ rfl cs rfl (Below.refl w.heap.size w) (Nat.le_refl _) ?_; intro w1 hk1 hb1 hs1 _; have K1 := qH hk1; have B1 := qH hb1; have k0 := hk1.cell 0; rw [HC0.out] at k0; have k5 := hk1.cell 5; rw [HC5.out] at k5; have RS := qH (set_range' HCS.out hk1); clear hk1 hb1 hs1; (try simp only [Act.put, qA, qB, qC]))
    | ((with_reducible refine atDst 16 ?_); refine wpList_ldMidG rfl 37 _ rfl w.heap.size 1 rfl (wds s) _ RS.out Try.underlying37 rfl (size_set s) ?_; (try simp only [Act.put, qA, qB, qC]))
    | ((with_reducible refine atDst 17 ?_); refine wpList_bld rfl 37 _ rfl (wds zs) HBS.out ?_; (try simp only [Act.put, qA, qB, qC]))
    | ((with_reducible refine atDst 18 ?_); refine wpList_eqSet_is rfl HEQ.out 37 35 (.tmp 16) (.tmp 17) 37 rfl guardSet Try.underlying37 Try.underlying35 sizeU64 rfl rfl ?_; (try simp only [Act.put, qA, qB, qC])))
   go_ret
   rw [HR.out]
   exact ⟨rfl, B1.out⟩
 by_cases h2 : k = 2
 ·subst h2
  by_cases hn : n = 0
  ·have HR := qH (show q = true by rw [← HQ.out]; (unfold countT; simp [hn]))
   have n1 : ((n : Int) == 0) = true := by rw [beq_iff_eq]; omega
   go_wp2_with (first
    | ((with_reducible refine atDst 1 ?_); refine wpList_box rfl 40 _ rfl cs rfl (Below.refl w.heap.size w) (Nat.le_refl _) ?_; intro w1 hk1 hb1 hs1 _; have K1 := qH hk1; have B1 := qH hb1; have k0 := hk1.cell 0; rw [HC0.out] at k0; have k5 := hk1.cell 5; rw [HC5.out] at k5; have RS := qH (set_range' HCS.out hk1); clear hk1 hb1 hs1; (try simp only [Act.put, qA, qB, qC]))
    | ((with_reducible refine atDst 16 ?_); refine wpList_ldMidG rfl 37 _ rfl w.heap.size 1 rfl (wds s) _ RS.out Try.underlying37 rfl (size_set s) ?_; (try simp only [Act.put, qA, qB, qC]))
    | ((with_reducible refine atDst 17 ?_); refine wpList_bld rfl 37 _ rfl (wds zs) HBS.out ?_; (try simp only [Act.put, qA, qB, qC]))
    | ((with_reducible refine atDst 18 ?_); refine wpList_eqSet_is rfl HEQ.out 37 35 (.tmp 16) (.tmp 17) 37 rfl guardSet Try.underlying37 Try.underlying35 sizeU64 rfl rfl ?_; (try simp only [Act.put, qA, qB, qC])))
   go_ret
   rw [HR.out]
   exact ⟨rfl, B1.out⟩
  ·have HR := qH (show q = false by rw [← HQ.out]; (unfold countT; simp [hn]))
   have n1 : ((n : Int) == 0) = false := by rw [beq_eq_false_iff_ne]; omega
   go_wp2_with (first
    | ((with_reducible refine atDst 1 ?_); refine wpList_box rfl 40 _ rfl cs rfl (Below.refl w.heap.size w) (Nat.le_refl _) ?_; intro w1 hk1 hb1 hs1 _; have K1 := qH hk1; have B1 := qH hb1; have k0 := hk1.cell 0; rw [HC0.out] at k0; have k5 := hk1.cell 5; rw [HC5.out] at k5; have RS := qH (set_range' HCS.out hk1); clear hk1 hb1 hs1; (try simp only [Act.put, qA, qB, qC]))
    | ((with_reducible refine atDst 16 ?_); refine wpList_ldMidG rfl 37 _ rfl w.heap.size 1 rfl (wds s) _ RS.out Try.underlying37 rfl (size_set s) ?_; (try simp only [Act.put, qA, qB, qC]))
    | ((with_reducible refine atDst 17 ?_); refine wpList_bld rfl 37 _ rfl (wds zs) HBS.out ?_; (try simp only [Act.put, qA, qB, qC]))
    | ((with_reducible refine atDst 18 ?_); refine wpList_eqSet_is rfl HEQ.out 37 35 (.tmp 16) (.tmp 17) 37 rfl guardSet Try.underlying37 Try.underlying35 sizeU64 rfl rfl ?_; (try simp only [Act.put, qA, qB, qC])))
   go_ret
   rw [HR.out]
   exact ⟨rfl, B1.out⟩
 by_cases h4 : k = 4
 ·subst h4
  by_cases hn : 2 ≤ n
  ·have HR := qH (show q = true by rw [← HQ.out]; unfold countT; simp [hn])
   have n1 : (n : Int) ≥ 2 := by omega
   go_wp2_with (first
    | ((with_reducible refine atDst 1 ?_); refine wpList_box rfl 40 _ rfl cs rfl (Below.refl w.heap.size w) (Nat.le_refl _) ?_; intro w1 hk1 hb1 hs1 _; have K1 := qH hk1; have B1 := qH hb1; have k0 := hk1.cell 0; rw [HC0.out] at k0; have k5 := hk1.cell 5; rw [HC5.out] at k5; have RS := qH (set_range' HCS.out hk1); clear hk1 hb1 hs1; (try simp only [Act.put, qA, qB, qC]))
    | ((with_reducible refine atDst 16 ?_); refine wpList_ldMidG rfl 37 _ rfl w.heap.size 1 rfl (wds s) _ RS.out Try.underlying37 rfl (size_set s) ?_; (try simp only [Act.put, qA, qB, qC]))
    | ((with_reducible refine atDst 17 ?_); refine wpList_bld rfl 37 _ rfl (wds zs) HBS.out ?_; (try simp only [Act.put, qA, qB, qC]))
    | ((with_reducible refine atDst 18 ?_); refine wpList_eqSet_is rfl HEQ.out 37 35 (.tmp 16) (.tmp 17) 37 rfl guardSet Try.underlying37 Try.underlying35 sizeU64 rfl rfl ?_; (try simp only [Act.put, qA, qB, qC])))
   go_ret
   rw [HR.out]
   exact ⟨rfl, B1.out⟩
  ·have HR := qH (show q = false by rw [← HQ.out]; unfold countT; simp; omega)
   have n1 : ¬ ((n : Int) ≥ 2) := by omega
   go_wp2_with (first
    | ((with_reducible refine atDst 1 ?_); refine wpList_box rfl 40 _ rfl cs rfl (Below.refl w.heap.size w) (Nat.le_refl _) ?_; intro w1 hk1 hb1 hs1 _; have K1 := qH hk1; have B1 := qH hb1; have k0 := hk1.cell 0; rw [HC0.out] at k0; have k5 := hk1.cell 5; rw [HC5.out] at k5; have RS := qH (set_range' HCS.out hk1); clear hk1 hb1 hs1; (try simp only [Act.put, qA, qB, qC]))
    | ((with_reducible refine atDst 16 ?_); refine wpList_ldMidG rfl 37 _ rfl w.heap.size 1 rfl (wds s) _ RS.out Try.underlying37 rfl (size_set s) ?_; (try simp only [Act.put, qA, qB, qC]))
    | ((with_reducible refine atDst 17 ?_); refine wpList_bld rfl 37 _ rfl (wds zs) HBS.out ?_; (try simp only [Act.put, qA, qB, qC]))
    | ((with_reducible refine atDst 18 ?_); refine wpList_eqSet_is rfl HEQ.out 37 35 (.tmp 16) (.tmp 17) 37 rfl guardSet Try.underlying37 Try.underlying35 sizeU64 rfl rfl ?_; (try simp only [Act.put, qA, qB, qC])))
   go_ret
   rw [HR.out]
   exact ⟨rfl, B1.out⟩
 by_cases h5 : k = 5
 ·subst h5
  by_cases hn : 2 ≤ n
  ·have HR := qH (show q = true by rw [← HQ.out]; unfold countT; simp [hn])
   have n1 : (n : Int) ≥ 2 := by omega
   go_wp2_with (first
    | ((with_reducible refine atDst 1 ?_); refine wpList_box rfl 40 _ rfl cs rfl (Below.refl w.heap.size w) (Nat.le_refl _) ?_; intro w1 hk1 hb1 hs1 _; have K1 := qH hk1; have B1 := qH hb1; have k0 := hk1.cell 0; rw [HC0.out] at k0; have k5 := hk1.cell 5; rw [HC5.out] at k5; have RS := qH (set_range' HCS.out hk1); clear hk1 hb1 hs1; (try simp only [Act.put, qA, qB, qC]))
    | ((with_reducible refine atDst 16 ?_); refine wpList_ldMidG rfl 37 _ rfl w.heap.size 1 rfl (wds s) _ RS.out Try.underlying37 rfl (size_set s) ?_; (try simp only [Act.put, qA, qB, qC]))
    | ((with_reducible refine atDst 17 ?_); refine wpList_bld rfl 37 _ rfl (wds zs) HBS.out ?_; (try simp only [Act.put, qA, qB, qC]))
    | ((with_reducible refine atDst 18 ?_); refine wpList_eqSet_is rfl HEQ.out 37 35 (.tmp 16) (.tmp 17) 37 rfl guardSet Try.underlying37 Try.underlying35 sizeU64 rfl rfl ?_; (try simp only [Act.put, qA, qB, qC])))
   go_ret
   rw [HR.out]
   exact ⟨rfl, B1.out⟩
  ·have HR := qH (show q = false by rw [← HQ.out]; unfold countT; simp; omega)
   have n1 : ¬ ((n : Int) ≥ 2) := by omega
   go_wp2_with (first
    | ((with_reducible refine atDst 1 ?_); refine wpList_box rfl 40 _ rfl cs rfl (Below.refl w.heap.size w) (Nat.le_refl _) ?_; intro w1 hk1 hb1 hs1 _; have K1 := qH hk1; have B1 := qH hb1; have k0 := hk1.cell 0; rw [HC0.out] at k0; have k5 := hk1.cell 5; rw [HC5.out] at k5; have RS := qH (set_range' HCS.out hk1); clear hk1 hb1 hs1; (try simp only [Act.put, qA, qB, qC]))
    | ((with_reducible refine atDst 16 ?_); refine wpList_ldMidG rfl 37 _ rfl w.heap.size 1 rfl (wds s) _ RS.out Try.underlying37 rfl (size_set s) ?_; (try simp only [Act.put, qA, qB, qC]))
    | ((with_reducible refine atDst 17 ?_); refine wpList_bld rfl 37 _ rfl (wds zs) HBS.out ?_; (try simp only [Act.put, qA, qB, qC]))
    | ((with_reducible refine atDst 18 ?_); refine wpList_eqSet_is rfl HEQ.out 37 35 (.tmp 16) (.tmp 17) 37 rfl guardSet Try.underlying37 Try.underlying35 sizeU64 rfl rfl ?_; (try simp only [Act.put, qA, qB, qC])))
   go_ret
   rw [HR.out]
   exact ⟨rfl, B1.out⟩
 by_cases h6 : k = 6
 ·subst h6
  by_cases hn : n = 1
  ·have HR := qH (show q = true by rw [← HQ.out]; (unfold countT; simp [hn]))
   have n1 : ((n : Int) == 1) = true := by rw [beq_iff_eq]; omega
   go_wp2_with (first
    | ((with_reducible refine atDst 1 ?_); refine wpList_box rfl 40 _ rfl cs rfl (Below.refl w.heap.size w) (Nat.le_refl _) ?_; intro w1 hk1 hb1 hs1 _; have K1 := qH hk1; have B1 := qH hb1; have k0 := hk1.cell 0; rw [HC0.out] at k0; have k5 := hk1.cell 5; rw [HC5.out] at k5; have RS := qH (set_range' HCS.out hk1); clear hk1 hb1 hs1; (try simp only [Act.put, qA, qB, qC]))
    | ((with_reducible refine atDst 16 ?_); refine wpList_ldMidG rfl 37 _ rfl w.heap.size 1 rfl (wds s) _ RS.out Try.underlying37 rfl (size_set s) ?_; (try simp only [Act.put, qA, qB, qC]))
    | ((with_reducible refine atDst 17 ?_); refine wpList_bld rfl 37 _ rfl (wds zs) HBS.out ?_; (try simp only [Act.put, qA, qB, qC]))
    | ((with_reducible refine atDst 18 ?_); refine wpList_eqSet_is rfl HEQ.out 37 35 (.tmp 16) (.tmp 17) 37 rfl guardSet Try.underlying37 Try.underlying35 sizeU64 rfl rfl ?_; (try simp only [Act.put, qA, qB, qC])))
   go_ret
   rw [HR.out]
   exact ⟨rfl, B1.out⟩
  ·have HR := qH (show q = false by rw [← HQ.out]; (unfold countT; simp [hn]))
   have n1 : ((n : Int) == 1) = false := by rw [beq_eq_false_iff_ne]; omega
   go_wp2_with (first
    | ((with_reducible refine atDst 1 ?_); refine wpList_box rfl 40 _ rfl cs rfl (Below.refl w.heap.size w) (Nat.le_refl _) ?_; intro w1 hk1 hb1 hs1 _; have K1 := qH hk1; have B1 := qH hb1; have k0 := hk1.cell 0; rw [HC0.out] at k0; have k5 := hk1.cell 5; rw [HC5.out] at k5; have RS := qH (set_range' HCS.out hk1); clear hk1 hb1 hs1; (try simp only [Act.put, qA, qB, qC]))
    | ((with_reducible refine atDst 16 ?_); refine wpList_ldMidG rfl 37 _ rfl w.heap.size 1 rfl (wds s) _ RS.out Try.underlying37 rfl (size_set s) ?_; (try simp only [Act.put, qA, qB, qC]))
    | ((with_reducible refine atDst 17 ?_); refine wpList_bld rfl 37 _ rfl (wds zs) HBS.out ?_; (try simp only [Act.put, qA, qB, qC]))
    | ((with_reducible refine atDst 18 ?_); refine wpList_eqSet_is rfl HEQ.out 37 35 (.tmp 16) (.tmp 17) 37 rfl guardSet Try.underlying37 Try.underlying35 sizeU64 rfl rfl ?_; (try simp only [Act.put, qA, qB, qC])))
   go_ret
   rw [HR.out]
   exact ⟨rfl, B1.out⟩
 ·have HR := qH (show q = false by rw [← HQ.out]; unfold countT; simp [h1, h2, h3, h4, h5, h6])
  go_wp2_with (first
   | ((with_reducible refine atDst 1 ?_); refine wpList_box rfl 40 _ rfl cs rfl (Below.refl w.heap.size w) (Nat.le_refl _) ?_; intro w1 hk1 hb1 hs1 _; have K1 := qH hk1; have B1 := qH hb1; have k0 := hk1.cell 0; rw [HC0.out] at k0; have k5 := hk1.cell 5; rw [HC5.out] at k5; have RS := qH (set_range' HCS.out hk1); clear hk1 hb1 hs1; (try simp only [Act.put, qA, qB, qC]))
   | ((with_reducible refine atDst 16 ?_); refine wpList_ldMidG rfl 37 _ rfl w.heap.size 1 rfl (wds s) _ RS.out Try.underlying37 rfl (size_set s) ?_; (try simp only [Act.put, qA, qB, qC]))
   | ((with_reducible refine atDst 17 ?_); refine wpList_bld rfl 37 _ rfl (wds zs) HBS.out ?_; (try simp only [Act.put, qA, qB, qC]))
   | ((with_reducible refine atDst 18 ?_); refine wpList_eqSet_is rfl HEQ.out 37 35 (.tmp 16) (.tmp 17) 37 rfl guardSet Try.underlying37 Try.underlying35 sizeU64 rfl rfl ?_; (try simp only [Act.put, qA, qB, qC])))
  go_ret
  rw [HR.out]
  exact ⟨rfl, B1.out⟩
theorem rx_kind {B : Nat} {w : World} {cs : List Value} {t : T} (h : RxV B w cs t) : cs[0]? = some (.int .i64 t.kind) := by
 cases t with
 | node k s l =>
  obtain ⟨A, cap, f, rfl, _⟩ := h.opened
  rfl
set_option maxHeartbeats 4000000 in
set_option maxRecDepth 1000000 in
theorem rxFollows_any (a b : T) (hM : b.nodes ≤ 1099511627776) (cs ds : List Value) (w : World) (ha : RxV w.heap.size w cs a) (hb : RxV w.heap.size w ds b) :
  Calls Try.prog 80 #[.agg cs.toArray, .agg ds.toArray] w fun e w' => e = .returned (.bool (folT a b)) ∧ Below w.heap.size w w' := by
 obtain ⟨q, hq⟩ : ∃ q, folT a b = q := ⟨_, rfl⟩
 have HQ := qH hq
 have VA := qH ha
 have VB := qH hb
 have HC6 := qH ha.length
 have HD6 := qH hb.length
 have HC0 := qH (rx_kind ha)
 have HD0 := qH (rx_kind hb)
 have HM := qH hM
 rw [hq]
 clear hq ha hb hM
 go_enter Try.func80, Try.ntmps80
 go_wp2_with (first
  | ((with_reducible refine atDst 2 ?_); refine wpList_box rfl 40 _ rfl cs rfl (Below.refl w.heap.size w) (Nat.le_refl _) ?_; intro w1 hk1 hb1 hs1 _; have K1 := qH hk1; have B1 := qH hb1; clear hk1 hb1 hs1; (try simp only [Act.put, qA, qB, qC]))
  | ((with_reducible refine atDst 3 ?_); refine wpList_box rfl 40 _ rfl ds rfl (Below.refl w1.heap.size w1) (Nat.le_refl _) ?_; intro w2 hk2 hb2 hs2 _; have K2 := qH hk2; have B2 := qH hb2; have K12 := qH (K1.out.below hb2 K1.out.lt); have BW2 := qH (B1.out.trans (hb2.mono B1.out.size)); clear hk2 hb2 hs2; (try simp only [Act.put, qA, qB, qC]))
  | ((with_reducible refine atDst 5 ?_); refine wpList_ldBlk rfl 40 _ rfl w1.heap.size rfl 40 _ _ K2.out Try.underlying40 rfl (size_rx HD6.out) ?_; (try simp only [Act.put, qA, qB, qC]))
  | ((with_reducible refine atDst 6 ?_); refine wpList_ldBlk rfl 40 _ rfl w.heap.size rfl 40 _ _ K12.out Try.underlying40 rfl (size_rx HC6.out) ?_; (try simp only [Act.put, qA, qB, qC])))
 refine (rxCompare_gr _ b a (Nat.le_refl _) HM.out ds cs w2 ((VB.out.stay BW2.out).mono BW2.out.size) ((VA.out.stay BW2.out).mono BW2.out.size)).mono ?_
 rintro e w3 ⟨rfl, hg3⟩
 have B3 := qH (BW2.out.trans (hg3.below.mono BW2.out.size))
 have c0 := (K12.out.below hg3.below K12.out.lt).cell 0
 rw [HC0.out] at c0
 have d0 := (K2.out.below hg3.below K2.out.lt).cell 0
 rw [HD0.out] at d0
 clear hg3
 obtain ⟨x, hx⟩ : ∃ x, cmpT b a = x := ⟨_, rfl⟩
 obtain ⟨ka, hka⟩ : ∃ x, a.kind = x := ⟨_, rfl⟩
 obtain ⟨kb, hkb⟩ : ∃ x, b.kind = x := ⟨_, rfl⟩
 rw [hx]
 rw [hka] at c0
 rw [hkb] at d0
 have HF := qH (show (decide (x < 0) && !(decide (ka = 3) && decide (kb = 3))) = q by rw [← HQ.out]; unfold folT; rw [hx, hka, hkb])
 clear hx hka hkb
 by_cases h1 : x < 0
 ·by_cases h2 : ka = 3
  ·by_cases h3 : kb = 3
   ·have HR := qH (show q = false by rw [← HF.out]; simp [h1, h2, h3])
    have n1 : (ka == 3) = true := by rw [beq_iff_eq]; exact h2
    have n2 : (kb == 3) = true := by rw [beq_iff_eq]; exact h3
    clear h2 h3
    go_wp2_with fail
    go_ret
    rw [HR.out]
    exact ⟨rfl, B3.out⟩
   ·have HR := qH (show q = true by rw [← HF.out]; simp [h1, h2, h3])
    have n1 : (ka == 3) = true := by rw [beq_iff_eq]; exact h2
    have n2 : (kb == 3) = false := by rw [beq_eq_false_iff_ne]; exact h3
    clear h2 h3
    go_wp2_with fail
    go_ret
    rw [HR.out]
    exact ⟨rfl, B3.out⟩
  ·have HR := qH (show q = true by rw [← HF.out]; simp [h1, h2])
   have n1 : (ka == 3) = false := by rw [beq_eq_false_iff_ne]; exact h2
   clear h2
   go_wp2_with fail
   go_ret
   rw [HR.out]
   exact ⟨rfl, B3.out⟩
 ·have HR := qH (show q = false by rw [← HF.out]; simp [h1])
  go_wp2_with fail
  go_ret
  rw [HR.out]
  exact ⟨rfl, B3.out⟩
end Go.Proofs.Ytmcpfaaakmehdaa
