/-
  Texts of this proof, put together: (LwN) What package lang's left, large, over and Null answer and leave. No statement is proved here. (RegG) A region that draws its order, walked once by what holds in each world on the way (any condition that all its operations keep). No conditions; no statement is proved here. (RegT) Two operations of a region that draws its order may both come up next: each is run first in a way of its own, under any condition that both keep. No conditions; no statement is proved here. (LwF) The document's First, and package lang's first, firstOfCat and First. No statement is proved here.
-/
import Derived.Test.YtopnpdobcagcgaaSO
import Derived.Test.YtopnpdobcagcgaaSM
import Derived.Test.YtopnpdobcagcgaaSD
import Derived.Test.YtopnpdobcagcgaaSA
import Derived.Test.YtopnpdobcagcgaaSI
namespace Go.Proofs.Ytopnpdobcagcgaa
open Go.RowKit
set_option linter.unusedSimpArgs false
set_option linter.unusedVariables false
def leftI (m n : Nat) : Int := if m ≤ n then (n : Int) - (m : Int) else -1
theorem leftI_lt (m n : Nat) : leftI m n < 0 ↔ n < m := by unfold leftI; split <;> omega
theorem leftI_step (m k n : Nat) (h : m ≤ n) : leftI k (n - m) = leftI (m + k) n := by unfold leftI; split <;> split <;> omega
theorem wrap_len {j len cap : Nat} (h : j < len) (h1 : len ≤ cap) (h2 : cap ≤ maxLen) : wrap64 ((j : Int) + 1) = ((j + 1 : Nat) : Int) := IntWalk.wrap64_in _ (by unfold maxLen at h2; omega)
theorem wrap_len' {j len cap : Nat} (h : j < len) (h1 : len ≤ cap) (h2 : cap ≤ maxLen) : IntKind.i64.wrap ((j : Int) + 1) = ((j + 1 : Nat) : Int) := IntWalk.i64_in _ (by unfold maxLen at h2; omega)
set_option maxHeartbeats 4000000 in
set_option maxRecDepth 1000000 in
theorem lLeft_any : ∀ (N : Nat) (t : T), t.nodes ≤ N → ∀ (n : Nat), n ≤ 2000 → ∀ (cs : List Value) (w : World), RxV w.heap.size w cs t →
  Calls Try.prog 46 #[.agg cs.toArray, .int .i64 (n : Int)] w fun e w' => e = .returned (.int .i64 (leftI t.nodes n)) ∧ Below w.heap.size w w' := by
 intro N
 induction N with
 | zero => intro t h; have := nodes_pos t; omega
 | succ N ih =>
  rintro ⟨k, s, l⟩ hN n hn cs w hv
  have IH := Lib.hid ih
  clear ih
  obtain ⟨A, cap, f, rfl, h1, h2, h0, h3, h4⟩ := hv.opened
  have H3 := Lib.hid h3
  have H4 := Lib.hid h4
  have HNN := Lib.hid (show T.nodes (.node k s l) = 1 + nodesL l by simp only [T.nodes])
  rw [HNN.out] at hN ⊢
  have HN := Lib.hid hN
  have HM := Lib.hid hn
  have HCM := Lib.hid h2
  have HCL := Lib.hid h1
  obtain ⟨cs, hcs⟩ : ∃ cs, cs = Value.int .i64 k :: (wds s ++ [.slice A l.length cap]) := ⟨_, rfl⟩
  have HC5 := Lib.hid (show cs[5]? = some (.slice A l.length cap) by rw [hcs]; rfl)
  obtain ⟨i0, hi0, hz0, hz1, hz2⟩ := inf_rx'
  obtain ⟨z, hz⟩ : ∃ z, z = rxc 0 zeroS (.slice none 0 0) := ⟨_, rfl⟩
  have HZL := Lib.hid (show z.length = 6 by rw [hz]; rfl)
  have HZ0 := Lib.hid (show i0.zero = some (.agg z.toArray) by rw [hz]; exact hz0)
  rw [← hcs]
  have n1 : IntKind.i64.wrap ((n : Int) - 1) = leftI 1 n := by rw [show (n : Int) - 1 = leftI 1 n by unfold leftI; split <;> omega]; exact IntWalk.i64_in _ (by unfold leftI; split <;> omega)
  have n2 : wrap64 ((n : Int) - 1) = leftI 1 n := by rw [show (n : Int) - 1 = leftI 1 n by unfold leftI; split <;> omega]; exact IntWalk.wrap64_in _ (by unfold leftI; split <;> omega)
  clear hv h1 h2 h0 h3 h4 hcs hN hn hz hz0
  go_enter Try.func46, Try.ntmps46
  go_wp2_with ((with_reducible refine atDst 2 ?_); refine wpList_box rfl 27 _ rfl cs rfl (Below.refl w.heap.size w) (Nat.le_refl _) ?_; intro w1 hk1 hb1 hs1 _; have K1 := Lib.hid hk1; have B1 := Lib.hid hb1; have k5 := hk1.cell 5; rw [HC5.out] at k5; clear hk1 hb1 hs1)
  go_loopw [1, 12] (fun v i wl => ∃ (j m : Nat), j ≤ l.length ∧ i = .int .i64 (j : Int) ∧ (m = 1 + nodesL (l.take j) ∨ (n < m ∧ m ≤ 1 + nodesL l)) ∧ v = .int .i64 (leftI m n) ∧ Below w1.heap.size w1 wl) (fun _ i _ => l.length - (intOf i).toNat)
  case atStart => exact ⟨0, 1, by omega, by simp, .inl (by simp [nodesL]), rfl, Below.refl _ _⟩
  case round =>
   obtain ⟨j, m, hj, rfl, hf, rfl, hb⟩ := hrel
   have HB := Lib.hid hb
   have HF := Lib.hid hf
   clear hb hf
   by_cases hjl : j < l.length
   ·have j1 : (j : Int) < (l.length : Int) := Int.ofNat_lt.2 hjl
    obtain ⟨b, off, rfl, hb, hrng⟩ := H3.out (by rintro rfl; simp at hjl)
    have BW := Lib.hid (B1.out.trans (HB.out.mono B1.out.size))
    obtain ⟨u, hu⟩ : ∃ u, l[j]? = some u := ⟨_, List.getElem?_eq_getElem hjl⟩
    have HV := Lib.hid (RxV.part H4.out BW.out BW.out.size hu)
    have HV6 := Lib.hid HV.out.length
    have HV1 := Lib.hid (show (f j).all (·.oneCell') = true from List.all_eq_true.2 (RxD.one HV.out))
    have HRG := Lib.hid (range_below (hrng j hjl) BW.out hb)
    have hnx := nodesL_next l j u hu
    have htk := nodesL_take l (j + 1)
    have HU := Lib.hid hu
    have HUN := Lib.hid (show u.nodes ≤ N by have h1 := nodes_mem (List.mem_of_getElem? hu); have := HN.out; omega)
    have HNX := Lib.hid hnx
    have HTK := Lib.hid htk
    have HJ1 := Lib.hid hjl
    have e3 := wrap_len hjl HCL.out HCM.out
    have e4 := wrap_len' hjl HCL.out HCM.out
    obtain ⟨v, hv⟩ : ∃ v, v = leftI m n := ⟨_, rfl⟩
    rw [← hv]
    by_cases hmn : n < m
    ·have hv0 : v < 0 := by rw [hv]; exact (leftI_lt m n).2 hmn
     have HQ := Lib.hid (show v = leftI (1 + nodesL l) n by
      rw [hv]
      rcases HF.out with h | h
      ·unfold leftI; rw [if_neg (by omega), if_neg (by omega)]
      ·unfold leftI; rw [if_neg (by omega), if_neg (by omega)])
     have B9 := Lib.hid (B1.out.trans (HB.out.mono B1.out.size))
     have S9 := Lib.hid B9.out.size
     clear hrng hu hnx htk hb hj hjl hmn hv
     go_wp2_with (first
      | ((with_reducible refine atDst 15 ?_); refine wpList_load_mid rfl 27 _ rfl b (off + j * 6) rfl (f j) _ HRG.out Try.underlying27 rfl (size_rx HV6.out) ?_; (try simp only [Act.put, qA, qB, qC]))
      | ((with_reducible refine atDst 6 ?_); refine wpList_new rfl 27 rfl i0 _ z hi0 HZ0.out rfl (Below.refl wr.heap.size wr) (Nat.le_refl _) ?_; intro w4 hk4 hb4 hs4 _; have K4 := Lib.hid hk4; have B4 := Lib.hid hb4; clear hk4 hb4 hs4; (try simp only [Act.put, qA, qB, qC]))
      | ((with_reducible refine atStore 27 6 15 ?_); refine wpList_stBlk rfl 27 _ _ rfl wr.heap.size (f j) rfl rfl 27 _ K4.out (size_rx HV6.out) (by rw [HZL.out, HV6.out]) HV1.out B4.out (Nat.le_refl _) ?_; intro w5 hk5 hb5 hs5 _; have K5 := Lib.hid hk5; have B5 := Lib.hid hb5; clear hk5 hb5 hs5; (try simp only [Act.put, qA, qB, qC]))
      | ((with_reducible refine atDst 18 ?_); refine wpList_ldArr rfl 27 _ rfl wr.heap.size rfl 27 _ _ K5.out Try.underlying27 rfl (size_rx HV6.out) ?_; (try simp only [Act.put, qA, qB, qC])))
     go_ret
     exact ⟨congrArg (fun x => Ending.returned (.int .i64 x)) HQ.out, B9.out.trans (B5.out.mono S9.out)⟩
    have hv0 : ¬ (v < 0) := by rw [hv]; exact fun h => hmn ((leftI_lt m n).1 h)
    have hve : v = ((n - m : Nat) : Int) := by rw [hv]; unfold leftI; rw [if_pos (by omega)]; omega
    have HMN := Lib.hid (show m ≤ n by omega)
    have HV0 := Lib.hid hv0
    have HN2 := Lib.hid (show n - m ≤ 2000 by have := HM.out; omega)
    clear hrng hu hnx htk hb hj hjl hmn hv
    subst hve
    go_wp2_with (first
     | ((with_reducible refine atDst 15 ?_); refine wpList_load_mid rfl 27 _ rfl b (off + j * 6) rfl (f j) _ HRG.out Try.underlying27 rfl (size_rx HV6.out) ?_; (try simp only [Act.put, qA, qB, qC]))
     | ((with_reducible refine atDst 6 ?_); refine wpList_new rfl 27 rfl i0 _ z hi0 HZ0.out rfl (Below.refl wr.heap.size wr) (Nat.le_refl _) ?_; intro w4 hk4 hb4 hs4 _; have K4 := Lib.hid hk4; have B4 := Lib.hid hb4; clear hk4 hb4 hs4; (try simp only [Act.put, qA, qB, qC]))
     | ((with_reducible refine atStore 27 6 15 ?_); refine wpList_stBlk rfl 27 _ _ rfl wr.heap.size (f j) rfl rfl 27 _ K4.out (size_rx HV6.out) (by rw [HZL.out, HV6.out]) HV1.out B4.out (Nat.le_refl _) ?_; intro w5 hk5 hb5 hs5 _; have K5 := Lib.hid hk5; have B5 := Lib.hid hb5; clear hk5 hb5 hs5; (try simp only [Act.put, qA, qB, qC]))
     | ((with_reducible refine atDst 18 ?_); refine wpList_ldArr rfl 27 _ rfl wr.heap.size rfl 27 _ _ K5.out Try.underlying27 rfl (size_rx HV6.out) ?_; (try simp only [Act.put, qA, qB, qC])))
    refine (IH.out u HUN.out (n - m) HN2.out (f j) w5 (RxV.mono (HV.out.stay B5.out) B5.out.size)).mono ?_
    rintro e w6 ⟨rfl, hb6⟩
    rw [leftI_step m _ n HMN.out]
    have B6 := Lib.hid (HB.out.trans ((B5.out.trans (hb6.mono B5.out.size)).mono HB.out.size))
    clear hb6
    go_wp2_with fail
    refine ⟨⟨j + 1, m + u.nodes, HJ1.out, by congr 1, ?_, rfl, B6.out⟩, by have := HJ1.out; simp [intOf] <;> omega⟩
    rcases HF.out with h | h
    ·exact .inl (by rw [HNX.out, h]; omega)
    ·have := h.1; have := HMN.out; omega
   ·obtain rfl : j = l.length := by omega
    have j1 : ¬ ((l.length : Int) < (l.length : Int)) := by omega
    have B9 := Lib.hid (B1.out.trans (HB.out.mono B1.out.size))
    have hq : leftI m n = leftI (1 + nodesL l) n := by
     rcases HF.out with h | h
     ·rw [h, List.take_length]
     ·unfold leftI; rw [if_neg (by omega), if_neg (by omega)]
    rw [hq]
    clear hq HF
    go_wp2_with fail
    go_ret
    exact ⟨rfl, B9.out⟩
set_option maxHeartbeats 1000000 in
set_option maxRecDepth 100000 in
theorem lLarge_any (t : T) (cs : List Value) (w : World) (hv : RxV w.heap.size w cs t) (b : Bool) (hb : decide (2000 < t.nodes) = b) :
  Calls Try.prog 27 #[.agg cs.toArray] w fun e w' => e = .returned (.bool b) ∧ Below w.heap.size w w' := by
 have V := Lib.hid hv
 have HC6 := Lib.hid hv.length
 obtain ⟨v, hv2⟩ : ∃ v, v = leftI t.nodes 2000 := ⟨_, rfl⟩
 have HV := Lib.hid hv2
 have HR := Lib.hid (show decide (v < 0) = b by rw [hv2, ← hb]; exact decide_eq_decide.2 (leftI_lt _ _))
 clear hv hv2 hb
 go_enter Try.func27, Try.ntmps27
 go_wp2_with (first
  | ((with_reducible refine atDst 1 ?_); refine wpList_box rfl 27 _ rfl cs rfl (Below.refl w.heap.size w) (Nat.le_refl _) ?_; intro w1 hk1 hb1 hs1 _; have K1 := Lib.hid hk1; have B1 := Lib.hid hb1; clear hk1 hb1 hs1; (try simp only [Act.put, qA, qB, qC]))
  | ((with_reducible refine atDst 3 ?_); refine wpList_ldArr rfl 27 _ rfl w.heap.size rfl 27 _ _ K1.out Try.underlying27 rfl (size_rx HC6.out) ?_; (try simp only [Act.put, qA, qB, qC])))
 refine (lLeft_any _ t (Nat.le_refl _) 2000 (Nat.le_refl _) cs w1 ((V.out.stay B1.out).mono B1.out.size)).mono ?_
 rintro e w2 ⟨rfl, hb2⟩
 rw [← HV.out]
 have B2 := Lib.hid (B1.out.trans (hb2.mono B1.out.size))
 clear hb2
 go_wp2_with fail
 go_ret
 exact ⟨congrArg (fun x => Ending.returned (.bool x)) HR.out, B2.out⟩
/-! ### over -/
mutual
def overT (q : Nat → Bool) : T → Bool
 | .node k s l => if k = 2 ∨ k = 6 then true else if k = 3 then !eqS (fun b => s b && q b) zeroS else if k = 4 then overC q l else if k = 5 then overA q l else false
def overC (q : Nat → Bool) : List T → Bool
 | [] => true
 | t :: r => overT q t && overC q r
def overA (q : Nat → Bool) : List T → Bool
 | [] => false
 | t :: r => overT q t || overA q r
end
theorem overC_all (q : Nat → Bool) : ∀ l : List T, overC q l = l.all (overT q)
 | [] => rfl
 | t :: r => by rw [overC, overC_all q r, List.all_cons]
theorem overA_any (q : Nat → Bool) : ∀ l : List T, overA q l = l.any (overT q)
 | [] => rfl
 | t :: r => by rw [overA, overA_any q r, List.any_cons]
theorem eqS_zero (s : Nat → Bool) : eqS (fun b => s b && zeroS b) zeroS = true := (eqS_iff _ _).2 fun b _ => by simp [zeroS]
theorem eqS_all (s : Nat → Bool) : eqS (fun b => s b && true) zeroS = eqS s zeroS := by
 congr 1
 funext b
 simp
mutual
theorem over_null : ∀ t : T, overT zeroS t = nullT t
 | .node k s l => by
  rw [overT, nullT, over_nullC l, over_nullA l, eqS_zero]
  by_cases h3 : k = 3
  ·subst h3; simp
  ·simp [h3]
theorem over_nullC : ∀ l : List T, overC zeroS l = nullC l
 | [] => rfl
 | t :: r => by rw [overC, nullC, over_null t, over_nullC r]
theorem over_nullA : ∀ l : List T, overA zeroS l = nullA l
 | [] => rfl
 | t :: r => by rw [overA, nullA, over_null t, over_nullA r]
end
mutual
theorem over_some : ∀ t : T, overT (fun _ => true) t = someT t
 | .node k s l => by rw [overT, someT, over_someC l, over_someA l, eqS_all]
theorem over_someC : ∀ l : List T, overC (fun _ => true) l = someC l
 | [] => rfl
 | t :: r => by rw [overC, someC, over_some t, over_someC r]
theorem over_someA : ∀ l : List T, overA (fun _ => true) l = someA l
 | [] => rfl
 | t :: r => by rw [overA, someA, over_some t, over_someA r]
end
set_option maxHeartbeats 4000000 in
set_option maxRecDepth 1000000 in
theorem lOver_any (q : Nat → Bool) : ∀ (N : Nat) (t : T), t.nodes ≤ N → ∀ (cs : List Value) (w : World), RxV w.heap.size w cs t →
  Calls Try.prog 33 #[.agg cs.toArray, .agg (wds q).toArray] w fun e w' => e = .returned (.bool (overT q t)) ∧ Below w.heap.size w w' := by
 intro N
 induction N with
 | zero => intro t h; have := nodes_pos t; omega
 | succ N ih =>
  rintro ⟨k, s, l⟩ hN cs w hv
  have IH := Lib.hid ih
  clear ih
  obtain ⟨A, cap, f, rfl, h1, h2, h0, h3, h4⟩ := hv.opened
  have H3 := Lib.hid h3
  have H4 := Lib.hid h4
  have HNN := Lib.hid (show T.nodes (.node k s l) = 1 + nodesL l by simp only [T.nodes])
  rw [HNN.out] at hN
  have HN := Lib.hid hN
  have HCM := Lib.hid h2
  have HCL := Lib.hid h1
  have HQ := Lib.hid (show overT q (.node k s l) = if k = 2 ∨ k = 6 then true else if k = 3 then !eqS (fun b => s b && q b) zeroS else if k = 4 then l.all (overT q) else if k = 5 then l.any (overT q) else false by rw [overT, overC_all, overA_any])
  obtain ⟨cs, hcs⟩ : ∃ cs, cs = Value.int .i64 k :: (wds s ++ [.slice A l.length cap]) := ⟨_, rfl⟩
  have HC0 := Lib.hid (show cs[0]? = some (.int .i64 k) by rw [hcs]; rfl)
  have HC5 := Lib.hid (show cs[5]? = some (.slice A l.length cap) by rw [hcs]; rfl)
  have HCS := Lib.hid hcs
  obtain ⟨r, hr⟩ : ∃ r, r = overT q (.node k s l) := ⟨_, rfl⟩
  obtain ⟨i0, hi0, hz0, hz1, hz2⟩ := inf_rx'
  obtain ⟨z, hz⟩ : ∃ z, z = rxc 0 zeroS (.slice none 0 0) := ⟨_, rfl⟩
  have HZL := Lib.hid (show z.length = 6 by rw [hz]; rfl)
  have HZ0 := Lib.hid (show i0.zero = some (.agg z.toArray) by rw [hz]; exact hz0)
  rw [← hcs, ← hr]
  rw [← hr] at HQ
  clear hv h1 h2 h0 h3 h4 hcs hN hr hz hz0
  by_cases k2 : k = 2
  ·have hr : r = true := by rw [HQ.out, if_pos (.inl k2)]
   subst hr
   subst k2
   go_enter Try.func33, Try.ntmps33
   go_wp2_with (first
    | ((with_reducible refine atDst 2 ?_); refine wpList_box rfl 27 _ rfl cs rfl (Below.refl w.heap.size w) (Nat.le_refl _) ?_; intro w0 hk1 hb1 hs1 _; have K0 := Lib.hid hk1; have B0 := Lib.hid hb1; clear hk1 hb1 hs1; (try simp only [Act.put, qA, qB, qC]))
    | ((with_reducible refine atDst 3 ?_); refine wpList_box rfl 24 _ rfl (wds q) rfl B0.out B0.out.size ?_; intro w1 hk1 hb1 hs1 ho1; have L1 := Lib.hid hk1; have B1 := Lib.hid hb1; have K1 := Lib.hid (show Blk w1 w.heap.size 27 cs from (ho1 _ K0.out.lt).trans K0.out); have c0 := K1.out.cell 0; rw [HC0.out] at c0; have k5 := K1.out.cell 5; rw [HC5.out] at k5; clear hk1 hb1 hs1 ho1; (try simp only [Act.put, qA, qB, qC])))
   go_ret
   exact ⟨rfl, B1.out⟩
  by_cases k6 : k = 6
  ·have hr : r = true := by rw [HQ.out, if_pos (.inr k6)]
   subst hr
   subst k6
   go_enter Try.func33, Try.ntmps33
   go_wp2_with (first
    | ((with_reducible refine atDst 2 ?_); refine wpList_box rfl 27 _ rfl cs rfl (Below.refl w.heap.size w) (Nat.le_refl _) ?_; intro w0 hk1 hb1 hs1 _; have K0 := Lib.hid hk1; have B0 := Lib.hid hb1; clear hk1 hb1 hs1; (try simp only [Act.put, qA, qB, qC]))
    | ((with_reducible refine atDst 3 ?_); refine wpList_box rfl 24 _ rfl (wds q) rfl B0.out B0.out.size ?_; intro w1 hk1 hb1 hs1 ho1; have L1 := Lib.hid hk1; have B1 := Lib.hid hb1; have K1 := Lib.hid (show Blk w1 w.heap.size 27 cs from (ho1 _ K0.out.lt).trans K0.out); have c0 := K1.out.cell 0; rw [HC0.out] at c0; have k5 := K1.out.cell 5; rw [HC5.out] at k5; clear hk1 hb1 hs1 ho1; (try simp only [Act.put, qA, qB, qC])))
   go_ret
   exact ⟨rfl, B1.out⟩
  have z2 : (k == 2) = false := by simpa using k2
  have z6 : (k == 6) = false := by simpa using k6
  by_cases k3 : k = 3
  ·obtain ⟨zs, hzs⟩ : ∃ zs, zs = zeroS := ⟨_, rfl⟩
   have HBS := Lib.hid (show Try.prog.built 24 [] = some (wds zs).toArray by rw [hzs]; exact builtS)
   obtain ⟨p, hp⟩ : ∃ p : Nat → Bool, p = fun b => s b && q b := ⟨_, rfl⟩
   obtain ⟨b, hb0⟩ : ∃ b, b = !eqS p zs := ⟨_, rfl⟩
   have HNEQ := Lib.hid hb0.symm
   have hr : r = b := by rw [HQ.out, if_neg (by omega), if_pos k3, hb0, hzs, hp]
   have HP := Lib.hid (show (fun b => Bool.and (s b) (q b)) = p from hp.symm)
   subst hr
   clear hb0 hzs HQ k2 k6 hp
   subst k3
   go_enter Try.func33, Try.ntmps33
   go_wp2_with (first
    | ((with_reducible refine atDst 2 ?_); refine wpList_box rfl 27 _ rfl cs rfl (Below.refl w.heap.size w) (Nat.le_refl _) ?_; intro w0 hk1 hb1 hs1 _; have K0 := Lib.hid hk1; have B0 := Lib.hid hb1; clear hk1 hb1 hs1; (try simp only [Act.put, qA, qB, qC]))
    | ((with_reducible refine atDst 3 ?_); refine wpList_box rfl 24 _ rfl (wds q) rfl B0.out B0.out.size ?_; intro w1 hk1 hb1 hs1 ho1; have L1 := Lib.hid hk1; have B1 := Lib.hid hb1; have K1 := Lib.hid (show Blk w1 w.heap.size 27 cs from (ho1 _ K0.out.lt).trans K0.out); have RS := Lib.hid (set_range' HCS.out K1.out); have c0 := K1.out.cell 0; rw [HC0.out] at c0; clear hk1 hb1 hs1 ho1; (try simp only [Act.put, qA, qB, qC]))
    | ((with_reducible refine atDst 17 ?_); refine wpList_ldMidG rfl 24 _ rfl w.heap.size 1 rfl (wds s) _ RS.out Try.underlying24 rfl (size_set s) ?_; (try simp only [Act.put, qA, qB, qC]))
    | ((with_reducible refine atDst 18 ?_); refine wpList_ldArr rfl 24 _ rfl w0.heap.size rfl 24 _ _ L1.out Try.underlying24 rfl (size_set q) ?_; (try simp only [Act.put, qA, qB, qC])))
   refine (bsAnd_any s q w1).mono ?_
   rintro e w2 ⟨rfl, hb2⟩
   rw [HP.out]
   have B2 := Lib.hid (B1.out.trans (hb2.mono B1.out.size))
   clear hb2
   go_wp2_with (first
    | ((with_reducible refine atDst 20 ?_); refine wpList_bld rfl 24 _ rfl (wds zs) HBS.out ?_; (try simp only [Act.put, qA, qB, qC]))
    | ((with_reducible refine atDst 21 ?_); refine wpList_neSetG rfl HNEQ.out 24 22 (.tmp 19) (.tmp 20) 24 rfl guardSet Try.underlying24 Try.underlying22 sizeU64 rfl rfl ?_; (try simp only [Act.put, qA, qB, qC])))
   go_ret
   exact ⟨rfl, B2.out⟩
  have z3 : (k == 3) = false := by simpa using k3
  by_cases k4 : k = 4
  ·have HR := Lib.hid (show r = l.all (overT q) by rw [HQ.out, if_neg (by omega), if_neg k3, if_pos k4])
   clear z2 z3 z6 k2 k3 k6 HQ
   subst k4
   go_enter Try.func33, Try.ntmps33
   go_wp2_with (first
    | ((with_reducible refine atDst 2 ?_); refine wpList_box rfl 27 _ rfl cs rfl (Below.refl w.heap.size w) (Nat.le_refl _) ?_; intro w0 hk1 hb1 hs1 _; have K0 := Lib.hid hk1; have B0 := Lib.hid hb1; clear hk1 hb1 hs1; (try simp only [Act.put, qA, qB, qC]))
    | ((with_reducible refine atDst 3 ?_); refine wpList_box rfl 24 _ rfl (wds q) rfl B0.out B0.out.size ?_; intro w1 hk1 hb1 hs1 ho1; have L1 := Lib.hid hk1; have B1 := Lib.hid hb1; have K1 := Lib.hid (show Blk w1 w.heap.size 27 cs from (ho1 _ K0.out.lt).trans K0.out); have c0 := K1.out.cell 0; rw [HC0.out] at c0; have k5 := K1.out.cell 5; rw [HC5.out] at k5; clear hk1 hb1 hs1 ho1; (try simp only [Act.put, qA, qB, qC])))
   go_loopw [27] (fun i wl => ∃ j : Nat, j ≤ l.length ∧ i = .int .i64 (j : Int) ∧ (l.take j).all (overT q) = true ∧ Below w1.heap.size w1 wl) (fun i _ => l.length - (intOf i).toNat)
   case atStart => exact ⟨0, by omega, by simp, by simp, Below.refl _ _⟩
   case round =>
    obtain ⟨j, hj, rfl, hf, hb⟩ := hrel
    have HB := Lib.hid hb
    have HF := Lib.hid hf
    clear hb hf
    by_cases hjl : j < l.length
    ·have j1 : (j : Int) < (l.length : Int) := Int.ofNat_lt.2 hjl
     obtain ⟨b, off, rfl, hb, hrng⟩ := H3.out (by rintro rfl; simp at hjl)
     have BW := Lib.hid (B1.out.trans (HB.out.mono B1.out.size))
     obtain ⟨u, hu⟩ : ∃ u, l[j]? = some u := ⟨_, List.getElem?_eq_getElem hjl⟩
     have HV := Lib.hid (RxV.part H4.out BW.out BW.out.size hu)
     have HV6 := Lib.hid HV.out.length
     have HV1 := Lib.hid (show (f j).all (·.oneCell') = true from List.all_eq_true.2 (RxD.one HV.out))
     have HRG := Lib.hid (range_below (hrng j hjl) BW.out hb)
     have HU := Lib.hid hu
     have HUN := Lib.hid (show u.nodes ≤ N by have h1 := nodes_mem (List.mem_of_getElem? hu); have := HN.out; omega)
     have HJ1 := Lib.hid hjl
     have e3 := wrap_len hjl HCL.out HCM.out
     have e4 := wrap_len' hjl HCL.out HCM.out
     have LR := Lib.hid (L1.out.below HB.out L1.out.lt)
     clear hrng hu hb hj hjl
     go_wp2_with (first
      | ((with_reducible refine atDst 30 ?_); refine wpList_load_mid rfl 27 _ rfl b (off + j * 6) rfl (f j) _ HRG.out Try.underlying27 rfl (size_rx HV6.out) ?_; (try simp only [Act.put, qA, qB, qC]))
      | ((with_reducible refine atDst 6 ?_); refine wpList_new rfl 27 rfl i0 _ z hi0 HZ0.out rfl (Below.refl wr.heap.size wr) (Nat.le_refl _) ?_; intro w4 hk4 hb4 hs4 _; have K4 := Lib.hid hk4; have B4 := Lib.hid hb4; clear hk4 hb4 hs4; (try simp only [Act.put, qA, qB, qC]))
      | ((with_reducible refine atStore 27 6 30 ?_); refine wpList_stBlk rfl 27 _ _ rfl wr.heap.size (f j) rfl rfl 27 _ K4.out (size_rx HV6.out) (by rw [HZL.out, HV6.out]) HV1.out B4.out (Nat.le_refl _) ?_; intro w5 hk5 hb5 hs5 _; have K5 := Lib.hid hk5; have B5 := Lib.hid hb5; have L5 := Lib.hid (LR.out.below hb5 LR.out.lt); clear hk5 hb5 hs5; (try simp only [Act.put, qA, qB, qC]))
      | ((with_reducible refine atDst 31 ?_); refine wpList_ldArr rfl 27 _ rfl wr.heap.size rfl 27 _ _ K5.out Try.underlying27 rfl (size_rx HV6.out) ?_; (try simp only [Act.put, qA, qB, qC]))
      | ((with_reducible refine atDst 32 ?_); refine wpList_ldArr rfl 24 _ rfl w0.heap.size rfl 24 _ _ L5.out Try.underlying24 rfl (size_set q) ?_; (try simp only [Act.put, qA, qB, qC])))
     refine (IH.out u HUN.out (f j) w5 (RxV.mono (HV.out.stay B5.out) B5.out.size)).mono ?_
     rintro e w6 ⟨rfl, hb6⟩
     have B6 := Lib.hid (HB.out.trans ((B5.out.trans (hb6.mono B5.out.size)).mono HB.out.size))
     have BX := Lib.hid (B1.out.trans (B6.out.mono B1.out.size))
     clear hb6
     obtain ⟨p, hp⟩ : ∃ p, p = overT q u := ⟨_, rfl⟩
     rw [← hp]
     cases p with
     | true =>
      have HP := Lib.hid hp
      clear hp
      go_wp2_with fail
      exact ⟨⟨j + 1, HJ1.out, by congr 1, all_next HU.out HF.out HP.out.symm, B6.out⟩, by have := HJ1.out; simp [intOf] <;> omega⟩
     | false =>
      have HP := Lib.hid hp
      clear hp
      have hq := HR.out.trans (all_not HU.out HP.out.symm)
      subst hq
      go_wp2_with fail
      go_ret
      exact ⟨rfl, BX.out⟩
    ·obtain rfl : j = l.length := by omega
     have j1 : ¬ ((l.length : Int) < (l.length : Int)) := by omega
     have B9 := Lib.hid (B1.out.trans (HB.out.mono B1.out.size))
     have HP := Lib.hid (show l.all (overT q) = true by have := HF.out; rwa [List.take_length] at this)
     have hq := HR.out.trans (HP.out)
     subst hq
     go_wp2_with fail
     go_ret
     exact ⟨rfl, B9.out⟩
  have z4 : (k == 4) = false := by simpa using k4
  by_cases k5' : k = 5
  ·have HR := Lib.hid (show r = l.any (overT q) by rw [HQ.out, if_neg (by omega), if_neg k3, if_neg k4, if_pos k5'])
   clear z2 z3 z6 k2 k3 k6 HQ z4 k4
   subst k5'
   go_enter Try.func33, Try.ntmps33
   go_wp2_with (first
    | ((with_reducible refine atDst 2 ?_); refine wpList_box rfl 27 _ rfl cs rfl (Below.refl w.heap.size w) (Nat.le_refl _) ?_; intro w0 hk1 hb1 hs1 _; have K0 := Lib.hid hk1; have B0 := Lib.hid hb1; clear hk1 hb1 hs1; (try simp only [Act.put, qA, qB, qC]))
    | ((with_reducible refine atDst 3 ?_); refine wpList_box rfl 24 _ rfl (wds q) rfl B0.out B0.out.size ?_; intro w1 hk1 hb1 hs1 ho1; have L1 := Lib.hid hk1; have B1 := Lib.hid hb1; have K1 := Lib.hid (show Blk w1 w.heap.size 27 cs from (ho1 _ K0.out.lt).trans K0.out); have c0 := K1.out.cell 0; rw [HC0.out] at c0; have k5 := K1.out.cell 5; rw [HC5.out] at k5; clear hk1 hb1 hs1 ho1; (try simp only [Act.put, qA, qB, qC])))
   go_loopw [41] (fun i wl => ∃ j : Nat, j ≤ l.length ∧ i = .int .i64 (j : Int) ∧ (l.take j).any (overT q) = false ∧ Below w1.heap.size w1 wl) (fun i _ => l.length - (intOf i).toNat)
   case atStart => exact ⟨0, by omega, by simp, by simp, Below.refl _ _⟩
   case round =>
    obtain ⟨j, hj, rfl, hf, hb⟩ := hrel
    have HB := Lib.hid hb
    have HF := Lib.hid hf
    clear hb hf
    by_cases hjl : j < l.length
    ·have j1 : (j : Int) < (l.length : Int) := Int.ofNat_lt.2 hjl
     obtain ⟨b, off, rfl, hb, hrng⟩ := H3.out (by rintro rfl; simp at hjl)
     have BW := Lib.hid (B1.out.trans (HB.out.mono B1.out.size))
     obtain ⟨u, hu⟩ : ∃ u, l[j]? = some u := ⟨_, List.getElem?_eq_getElem hjl⟩
     have HV := Lib.hid (RxV.part H4.out BW.out BW.out.size hu)
     have HV6 := Lib.hid HV.out.length
     have HV1 := Lib.hid (show (f j).all (·.oneCell') = true from List.all_eq_true.2 (RxD.one HV.out))
     have HRG := Lib.hid (range_below (hrng j hjl) BW.out hb)
     have HU := Lib.hid hu
     have HUN := Lib.hid (show u.nodes ≤ N by have h1 := nodes_mem (List.mem_of_getElem? hu); have := HN.out; omega)
     have HJ1 := Lib.hid hjl
     have e3 := wrap_len hjl HCL.out HCM.out
     have e4 := wrap_len' hjl HCL.out HCM.out
     have LR := Lib.hid (L1.out.below HB.out L1.out.lt)
     clear hrng hu hb hj hjl
     go_wp2_with (first
      | ((with_reducible refine atDst 44 ?_); refine wpList_load_mid rfl 27 _ rfl b (off + j * 6) rfl (f j) _ HRG.out Try.underlying27 rfl (size_rx HV6.out) ?_; (try simp only [Act.put, qA, qB, qC]))
      | ((with_reducible refine atDst 8 ?_); refine wpList_new rfl 27 rfl i0 _ z hi0 HZ0.out rfl (Below.refl wr.heap.size wr) (Nat.le_refl _) ?_; intro w4 hk4 hb4 hs4 _; have K4 := Lib.hid hk4; have B4 := Lib.hid hb4; clear hk4 hb4 hs4; (try simp only [Act.put, qA, qB, qC]))
      | ((with_reducible refine atStore 27 8 44 ?_); refine wpList_stBlk rfl 27 _ _ rfl wr.heap.size (f j) rfl rfl 27 _ K4.out (size_rx HV6.out) (by rw [HZL.out, HV6.out]) HV1.out B4.out (Nat.le_refl _) ?_; intro w5 hk5 hb5 hs5 _; have K5 := Lib.hid hk5; have B5 := Lib.hid hb5; have L5 := Lib.hid (LR.out.below hb5 LR.out.lt); clear hk5 hb5 hs5; (try simp only [Act.put, qA, qB, qC]))
      | ((with_reducible refine atDst 45 ?_); refine wpList_ldArr rfl 27 _ rfl wr.heap.size rfl 27 _ _ K5.out Try.underlying27 rfl (size_rx HV6.out) ?_; (try simp only [Act.put, qA, qB, qC]))
      | ((with_reducible refine atDst 46 ?_); refine wpList_ldArr rfl 24 _ rfl w0.heap.size rfl 24 _ _ L5.out Try.underlying24 rfl (size_set q) ?_; (try simp only [Act.put, qA, qB, qC])))
     refine (IH.out u HUN.out (f j) w5 (RxV.mono (HV.out.stay B5.out) B5.out.size)).mono ?_
     rintro e w6 ⟨rfl, hb6⟩
     have B6 := Lib.hid (HB.out.trans ((B5.out.trans (hb6.mono B5.out.size)).mono HB.out.size))
     have BX := Lib.hid (B1.out.trans (B6.out.mono B1.out.size))
     clear hb6
     obtain ⟨p, hp⟩ : ∃ p, p = overT q u := ⟨_, rfl⟩
     rw [← hp]
     cases p with
     | true =>
      have HP := Lib.hid hp
      clear hp
      have hq := HR.out.trans (any_is HU.out HP.out.symm)
      subst hq
      go_wp2_with fail
      go_ret
      exact ⟨rfl, BX.out⟩
     | false =>
      have HP := Lib.hid hp
      clear hp
      go_wp2_with fail
      exact ⟨⟨j + 1, HJ1.out, by congr 1, any_next HU.out HF.out HP.out.symm, B6.out⟩, by have := HJ1.out; simp [intOf] <;> omega⟩
    ·obtain rfl : j = l.length := by omega
     have j1 : ¬ ((l.length : Int) < (l.length : Int)) := by omega
     have B9 := Lib.hid (B1.out.trans (HB.out.mono B1.out.size))
     have HP := Lib.hid (show l.any (overT q) = false by have := HF.out; rwa [List.take_length] at this)
     have hq := HR.out.trans (HP.out)
     subst hq
     go_wp2_with fail
     go_ret
     exact ⟨rfl, B9.out⟩
  have z5 : (k == 5) = false := by simpa using k5'
  have hr : r = false := by rw [HQ.out, if_neg (by omega), if_neg k3, if_neg k4, if_neg k5']
  subst hr
  clear k2 k3 k4 k5' k6 HQ
  go_enter Try.func33, Try.ntmps33
  go_wp2_with (first
   | ((with_reducible refine atDst 2 ?_); refine wpList_box rfl 27 _ rfl cs rfl (Below.refl w.heap.size w) (Nat.le_refl _) ?_; intro w0 hk1 hb1 hs1 _; have K0 := Lib.hid hk1; have B0 := Lib.hid hb1; clear hk1 hb1 hs1; (try simp only [Act.put, qA, qB, qC]))
   | ((with_reducible refine atDst 3 ?_); refine wpList_box rfl 24 _ rfl (wds q) rfl B0.out B0.out.size ?_; intro w1 hk1 hb1 hs1 ho1; have L1 := Lib.hid hk1; have B1 := Lib.hid hb1; have K1 := Lib.hid (show Blk w1 w.heap.size 27 cs from (ho1 _ K0.out.lt).trans K0.out); have c0 := K1.out.cell 0; rw [HC0.out] at c0; have k5 := K1.out.cell 5; rw [HC5.out] at k5; clear hk1 hb1 hs1 ho1; (try simp only [Act.put, qA, qB, qC])))
  go_ret
  exact ⟨rfl, B1.out⟩
set_option maxHeartbeats 1000000 in
set_option maxRecDepth 100000 in
theorem lNull_any (t : T) (cs : List Value) (w : World) (hv : RxV w.heap.size w cs t) :
  Calls Try.prog 12 #[.agg cs.toArray] w fun e w' => e = .returned (.bool (nullT t)) ∧ Below w.heap.size w w' := by
 have V := Lib.hid hv
 have HC6 := Lib.hid hv.length
 obtain ⟨zs, hzs⟩ : ∃ zs, zs = zeroS := ⟨_, rfl⟩
 have HBS := Lib.hid (show Try.prog.built 24 [] = some (wds zs).toArray by rw [hzs]; exact builtS)
 have HR := Lib.hid (show overT zs t = nullT t by rw [hzs]; exact over_null t)
 clear hv hzs
 go_enter Try.func12, Try.ntmps12
 go_wp2_with (first
  | ((with_reducible refine atDst 1 ?_); refine wpList_box rfl 27 _ rfl cs rfl (Below.refl w.heap.size w) (Nat.le_refl _) ?_; intro w1 hk1 hb1 hs1 _; have K1 := Lib.hid hk1; have B1 := Lib.hid hb1; clear hk1 hb1 hs1; (try simp only [Act.put, qA, qB, qC]))
  | ((with_reducible refine atDst 3 ?_); refine wpList_ldArr rfl 27 _ rfl w.heap.size rfl 27 _ _ K1.out Try.underlying27 rfl (size_rx HC6.out) ?_; (try simp only [Act.put, qA, qB, qC]))
  | ((with_reducible refine atDst 4 ?_); refine wpList_bld rfl 24 _ rfl (wds zs) HBS.out ?_; (try simp only [Act.put, qA, qB, qC])))
 refine (lOver_any zs _ t (Nat.le_refl _) cs w1 ((V.out.stay B1.out).mono B1.out.size)).mono ?_
 rintro e w2 ⟨rfl, hb2⟩
 rw [HR.out]
 have B2 := Lib.hid (B1.out.trans (hb2.mono B1.out.size))
 clear hb2
 go_wp2_with fail
 go_ret
 exact ⟨rfl, B2.out⟩
end Go.Proofs.Ytopnpdobcagcgaa
namespace Go.Proofs.Ytopnpdobcagcgaa
open Go.RowKit
set_option linter.unusedVariables false
section
variable {P : Program} {ops : Array Oper} {Q : Exit → Act → World → Prop} {md : Region.Mode} {S : World → Prop}
theorem sg_take {i : Nat} {oi : Oper} {v : Value} {fuel : Nat} {listed : Array Bool} {a : Act} {w : World} (hi : ops[i]? = some oi)
  (hs : Region.noSelect ops = true) (hf : Region.free md ops listed i = true) (hr : (Region.ready md ops listed).contains i = true)
  (hQ : ∀ c a w, Q (.panic c) (a.put oi.dst v) w → Q (.panic c) a w) (hw : Region.wanted oi (yielded ops a.tmps) = true) (hS : S w)
  (hy : ∀ W, S W → (execOp a.eval oi).run P W = .ok (.value v) W)
  (h : wpAnyH P md ops Q S fuel (listed.setIfInBounds i true) (a.put oi.dst v) w) : wpAnyH P md ops Q S (fuel + 1) listed a w :=
 wpAnyH_take hi hs hf hr hQ (.inl ⟨hw, hy⟩) hS h
theorem sg_actB {i : Nat} {o : Oper} {fuel : Nat} {listed : Array Bool} {a : Act} {w : World} (hi : ops[i]? = some o) (hr : Region.ready md ops listed = [i])
  (hw : Region.wanted o (yielded ops a.tmps) = true) (hS : S w)
  (h : ∀ K : Act → World → Prop, (∀ a' w', S w' → wpAnyH P md ops Q S fuel (listed.setIfInBounds i true) a' w' → K a' w') → o.wp P a w K Q) :
  wpAnyH P md ops Q S (fuel + 1) listed a w := by
 refine wpAnyH_all hr (by simp) (fun j hj => ?_)
 have hji : j = i := by simpa using hj
 subst hji
 unfold wpOp
 rw [hi]
 simp only [hw, if_true]
 exact .inl (h _ fun a' w' hx hk => ⟨hx, hk⟩)
theorem sg_start {id : Nat} {a : Act} {w : World} (S : World → Prop) (hm : P.follows .mixedOrders = true) (hS : S w.drew)
  (h : ∀ wd, wd = w.drew → wpAnyH P .any ops Q S ops.size (Array.replicate ops.size false) a wd) : (Code.region id ops true).wp P Q a w :=
 wp_region_held_drew hm hS (fun _ => h _ rfl)
end
end Go.Proofs.Ytopnpdobcagcgaa
namespace Go.Proofs.Ytopnpdobcagcgaa
open Go.RowKit
set_option linter.unusedVariables false
section
variable {P : Program} {ops : Array Oper} {Q : Exit → Act → World → Prop} {md : Region.Mode} {S : World → Prop}
theorem sg_two {i j : Nat} {oi oj : Oper} {fuel : Nat} {listed : Array Bool} {a : Act} {w : World} (hi : ops[i]? = some oi) (hj : ops[j]? = some oj) (hr : Region.ready md ops listed = [i, j])
  (hwi : Region.wanted oi (yielded ops a.tmps) = true) (hwj : Region.wanted oj (yielded ops a.tmps) = true) (hS : S w)
  (h1 : ∀ K : Act → World → Prop, (∀ a' w', S w' → wpAnyH P md ops Q S fuel (listed.setIfInBounds i true) a' w' → K a' w') → oi.wp P a w K Q)
  (h2 : ∀ K : Act → World → Prop, (∀ a' w', S w' → wpAnyH P md ops Q S fuel (listed.setIfInBounds j true) a' w' → K a' w') → oj.wp P a w K Q) :
  wpAnyH P md ops Q S (fuel + 1) listed a w := by
 refine wpAnyH_all hr (by simp) (fun k hk => ?_)
 have hk2 : k = i ∨ k = j := by simpa using hk
 unfold wpOp
 rcases hk2 with rfl | rfl
 ·rw [hi]
  simp only [hwi, if_true]
  exact .inl (h1 _ fun a' w' hx hk => ⟨hx, hk⟩)
 ·rw [hj]
  simp only [hwj, if_true]
  exact .inl (h2 _ fun a' w' hx hk => ⟨hx, hk⟩)
end
theorem grown_start (w : World) (r : Option Nat) : w.grownBy w.drew r := ⟨rfl, rfl, rfl, Nat.le_refl _, fun _ _ _ => rfl⟩
theorem grown_cell {w W : World} {r : Option Nat} (h : w.grownBy W r) {b o : Nat} {v : Value} (hb : b < w.heap.size) (hr : some b ≠ r) (hc : w.cell? ⟨b, o, none⟩ = some v) : W.cell? ⟨b, o, none⟩ = some v := by
 have := h.block b hb hr
 unfold World.cell? at hc ⊢
 simp only [this]
 exact hc
theorem grown_blk {w W : World} {r : Option Nat} (h : w.grownBy W r) {b : Nat} {t : TypeId} {cs : List Value} (hr : some b ≠ r) (hc : Blk w b t cs) : Blk W b t cs := (h.block b hc.lt hr).trans hc
theorem grown_then {w W W' : World} {r : Option Nat} (h : w.grownBy W r) (hb : Below W.heap.size W W') : w.grownBy W' r :=
 ⟨hb.os.trans h.os, hb.tape.trans h.tape, hb.output.trans h.output, Nat.le_trans h.size hb.size, fun k hk hne => (hb.block k (Nat.lt_of_lt_of_le hk h.size)).trans (h.block k hk hne)⟩
end Go.Proofs.Ytopnpdobcagcgaa
namespace Go.Proofs.Ytopnpdobcagcgaa
open Go.RowKit
set_option linter.unusedSimpArgs false
set_option linter.unusedVariables false
theorem firstA_any : ∀ (l : List T) (b : Nat), firstA l b = l.any fun u => firstT u b
 | [], b => rfl
 | t :: r, b => by rw [firstA, firstA_any r, List.any_cons]
def fstJ (l : List T) (j : Nat) (b : Nat) : Bool := (l.take j).any fun u => firstT u b
theorem fstJ_zero (l : List T) : fstJ l 0 = zeroS := by funext b; simp [fstJ, zeroS]
theorem fstJ_next {l : List T} {j : Nat} {u : T} (h : l[j]? = some u) : fstJ l (j + 1) = fun b => fstJ l j b || firstT u b := by
 obtain ⟨hi, rfl⟩ := List.getElem?_eq_some_iff.1 h
 funext b
 unfold fstJ
 rw [List.take_succ_eq_append_getElem hi, List.any_append]
 simp
theorem fstJ_all (l : List T) : fstJ l l.length = firstA l := by funext b; unfold fstJ; rw [List.take_length, firstA_any]
theorem firstC_at (b : Nat) : ∀ (l : List T) (j : Nat), (l.take j).all nullT = true → firstC l b = (fstJ l j b || firstC (l.drop j) b)
 | l, 0, _ => by simp [fstJ]
 | [], j + 1, _ => by simp [fstJ, firstC]
 | t :: r, j + 1, h => by
  rw [List.take_succ_cons, List.all_cons, Bool.and_eq_true] at h
  have ih := firstC_at b r j h.2
  unfold fstJ at ih ⊢
  rw [firstC, h.1, Bool.true_and, ih, List.take_succ_cons, List.any_cons, List.drop_succ_cons, Bool.or_assoc]
theorem firstC_stop {l : List T} {j : Nat} {u : T} (h : l[j]? = some u) (ha : (l.take j).all nullT = true) (hu : nullT u = false) : firstC l = fstJ l (j + 1) := by
 funext b
 obtain ⟨hi, rfl⟩ := List.getElem?_eq_some_iff.1 h
 rw [firstC_at b l j ha, fstJ_next h, List.drop_eq_getElem_cons hi, firstC, hu]
 simp
theorem firstC_end {l : List T} (ha : l.all nullT = true) : firstC l = fstJ l l.length := by
 funext b
 rw [firstC_at b l l.length (by rwa [List.take_length]), List.drop_length, firstC, Bool.or_false]
theorem firstT_node (k : Int) (s : Nat → Bool) (l : List T) : firstT (.node k s l) = if k = 3 then s else if k = 5 ∨ k = 6 ∧ l.length = 1 then firstA l else if k = 4 then (if someC l = true then firstC l else zeroS) else zeroS := by
 funext b
 rw [firstT]
 split
 ·rfl
 ·split
  ·rfl
  ·split
   ·cases someC l <;> simp [zeroS]
   ·rfl
-- what follows a set that is stored as the answer: $1 the world's Blk of t2, $2 Below, $3 slot, $4 set
-- the part at place j
end Go.Proofs.Ytopnpdobcagcgaa
