/-
  Texts of this proof, put together: (LiG) The laws' 'Light': how many nodes, how deep. No statement is proved here. (LxA) The walk of LangAll: which words any expression has, also one that is not plain. Conditions: at most 1048576 nodes. The given row lies in a text of its own.
-/
import Derived.Test.YtopnpdobcagcgaaQC
import Derived.Test.YtopnpdobcagcgaaQA
import Derived.Test.YtopnpdobcagcgaaQBE
import Derived.Test.YtopnpdobcagcgaaQBI
namespace Go.Proofs.Ytopnpdobcagcgaa
open Go.RowKit
set_option linter.unusedSimpArgs false
set_option linter.unusedVariables false
set_option maxHeartbeats 4000000 in
set_option maxRecDepth 1000000 in
theorem light_any (t : T) (m : Nat) (hM : t.nodes ≤ 1099511627776) (cs : List Value) (w : World) (hv : RxV w.heap.size w cs t) (b : Bool) (hb : (decide (t.nodes ≤ m) && decide (t.depth ≤ 60)) = b) :
  Calls Try.prog 9 #[.agg cs.toArray, .int .i64 (m : Int)] w fun e w' => e = .returned (.bool b) ∧ Below w.heap.size w w' := by
 have V := Lib.hid hv
 have HC6 := Lib.hid hv.length
 have HM := Lib.hid hM
 obtain ⟨a, ha⟩ : ∃ a, a = t.nodes := ⟨_, rfl⟩
 obtain ⟨d, hd⟩ : ∃ d, d = t.depth := ⟨_, rfl⟩
 rw [← ha, ← hd] at hb
 have HA := Lib.hid ha
 have HD := Lib.hid hd
 have HB := Lib.hid hb
 clear hv hM ha hd hb
 by_cases h1 : a ≤ m
 ·have d1 : (a : Int) ≤ (m : Int) := by omega
  by_cases h2 : d ≤ 60
  ·have d2 : (d : Int) ≤ 60 := by omega
   have HR := Lib.hid (show b = true by rw [← HB.out, decide_eq_true h1, decide_eq_true h2]; rfl)
   clear h1 h2
   go_enter Try.func9, Try.ntmps9
   go_wp2_with (first
    | ((with_reducible refine atDst 2 ?_); refine wpList_box rfl 27 _ rfl cs rfl (Below.refl w.heap.size w) (Nat.le_refl _) ?_; intro w1 hk1 hb1 hs1 _; have K1 := Lib.hid hk1; have B1 := Lib.hid hb1; clear hk1 hb1 hs1; (try simp only [Act.put, qA, qB, qC]))
    | ((with_reducible refine atDst 5 ?_); refine wpList_ldArr rfl 27 _ rfl w.heap.size rfl 27 _ _ K1.out Try.underlying27 rfl (size_rx HC6.out) ?_; (try simp only [Act.put, qA, qB, qC])))
   refine (refNodes_any _ t (Nat.le_refl _) HM.out cs w1 ((V.out.stay B1.out).mono B1.out.size)).mono ?_
   rintro e w2 ⟨rfl, hb⟩
   rw [← HA.out]
   have B2 := Lib.hid (B1.out.trans (hb.mono B1.out.size))
   have K2 := Lib.hid (K1.out.below hb K1.out.lt)
   clear hb
   go_wp2_with ((with_reducible refine atDst 10 ?_); refine wpList_ldMidG rfl 27 _ rfl w.heap.size 0 rfl cs _ (fun i u hu => by have := K2.out.cell (0 + i); rw [this]; simpa using hu) Try.underlying27 rfl (size_rx HC6.out) ?_; (try simp only [Act.put, qA, qB, qC]))
   refine (refDepth_any _ t (Nat.le_refl _) HM.out cs w2 ((V.out.stay B2.out).mono B2.out.size)).mono ?_
   rintro e w3 ⟨rfl, hb⟩
   rw [← HD.out]
   have B3 := Lib.hid (B2.out.trans (hb.mono B2.out.size))
   clear hb
   go_wp2_with fail
   go_ret
   rw [HR.out]
   exact ⟨rfl, B3.out⟩
  ·have d2 : ¬ ((d : Int) ≤ 60) := by omega
   have HR := Lib.hid (show b = false by rw [← HB.out, decide_eq_false h2]; simp)
   have HD2 := Lib.hid d2
   clear h1 h2
   go_enter Try.func9, Try.ntmps9
   go_wp2_with (first
    | ((with_reducible refine atDst 2 ?_); refine wpList_box rfl 27 _ rfl cs rfl (Below.refl w.heap.size w) (Nat.le_refl _) ?_; intro w1 hk1 hb1 hs1 _; have K1 := Lib.hid hk1; have B1 := Lib.hid hb1; clear hk1 hb1 hs1; (try simp only [Act.put, qA, qB, qC]))
    | ((with_reducible refine atDst 5 ?_); refine wpList_ldArr rfl 27 _ rfl w.heap.size rfl 27 _ _ K1.out Try.underlying27 rfl (size_rx HC6.out) ?_; (try simp only [Act.put, qA, qB, qC])))
   refine (refNodes_any _ t (Nat.le_refl _) HM.out cs w1 ((V.out.stay B1.out).mono B1.out.size)).mono ?_
   rintro e w2 ⟨rfl, hb⟩
   rw [← HA.out]
   have B2 := Lib.hid (B1.out.trans (hb.mono B1.out.size))
   have K2 := Lib.hid (K1.out.below hb K1.out.lt)
   clear hb
   go_wp2_with ((with_reducible refine atDst 10 ?_); refine wpList_ldMidG rfl 27 _ rfl w.heap.size 0 rfl cs _ (fun i u hu => by have := K2.out.cell (0 + i); rw [this]; simpa using hu) Try.underlying27 rfl (size_rx HC6.out) ?_; (try simp only [Act.put, qA, qB, qC]))
   refine (refDepth_any _ t (Nat.le_refl _) HM.out cs w2 ((V.out.stay B2.out).mono B2.out.size)).mono ?_
   rintro e w3 ⟨rfl, hb⟩
   rw [← HD.out]
   have B3 := Lib.hid (B2.out.trans (hb.mono B2.out.size))
   clear hb
   go_wp2_with fail
   go_ret
   rw [HR.out]
   refine ⟨?_, B3.out⟩
   show Ending.returned (Value.bool (decide ((d : Int) ≤ 60))) = _
   rw [decide_eq_false (show ¬ ((d : Int) ≤ 60) from by have := HD2.out; omega)]
 ·have d1 : ¬ ((a : Int) ≤ (m : Int)) := by omega
  have HR := Lib.hid (show b = false by rw [← HB.out, decide_eq_false h1]; simp)
  clear h1
  go_enter Try.func9, Try.ntmps9
  go_wp2_with (first
   | ((with_reducible refine atDst 2 ?_); refine wpList_box rfl 27 _ rfl cs rfl (Below.refl w.heap.size w) (Nat.le_refl _) ?_; intro w1 hk1 hb1 hs1 _; have K1 := Lib.hid hk1; have B1 := Lib.hid hb1; clear hk1 hb1 hs1; (try simp only [Act.put, qA, qB, qC]))
   | ((with_reducible refine atDst 5 ?_); refine wpList_ldArr rfl 27 _ rfl w.heap.size rfl 27 _ _ K1.out Try.underlying27 rfl (size_rx HC6.out) ?_; (try simp only [Act.put, qA, qB, qC])))
  refine (refNodes_any _ t (Nat.le_refl _) HM.out cs w1 ((V.out.stay B1.out).mono B1.out.size)).mono ?_
  rintro e w2 ⟨rfl, hb⟩
  rw [← HA.out]
  have B2 := Lib.hid (B1.out.trans (hb.mono B1.out.size))
  have K2 := Lib.hid (K1.out.below hb K1.out.lt)
  clear hb
  go_wp2_with fail
  go_ret
  rw [HR.out]
  exact ⟨rfl, B2.out⟩
end Go.Proofs.Ytopnpdobcagcgaa
namespace Go.Proofs.Ytopnpdobcagcgaa
open Go.RowKit
set_option linter.unusedSimpArgs false
set_option linter.unusedVariables false
set_option maxHeartbeats 8000000 in
set_option maxRecDepth 1000000 in
theorem langAll_walk (t : T) (hM : t.nodes ≤ 1048576) (cs : List Value) (V : Value) (W : List UInt8) (w : World) (hv : RxV w.heap.size w cs t) (hr : Row w V (bvs W)) :
  Calls Try.prog 3 #[.agg cs.toArray, V] w fun e w' => e = .returned (.bool true) ∧ Below w.heap.size w w' := by
 have V0 := Lib.hid hv
 have C6 := Lib.hid hv.length
 have HM := Lib.hid hM
 have RW := Lib.hid hr
 obtain ⟨A, cap, rfl, _⟩ := hr
 have hbl : (bvs W).length = W.length := bvs_length W
 rw [hbl] at RW ⊢
 obtain ⟨b, hb⟩ : ∃ b, (decide (t.nodes ≤ 200) && decide (t.depth ≤ 60)) = b := ⟨_, rfl⟩
 have HBL := Lib.hid hb
 clear hbl hv hM hb
 cases b with
 | false =>
  go_enter Try.func3, Try.ntmps3
  go_wp2_with ((with_reducible refine atDst 2 ?_); refine wpList_box rfl 27 _ rfl cs rfl (Below.refl w.heap.size w) (Nat.le_refl _) ?_; intro w1 hk1 hb1 hs1 _; have K1 := Lib.hid hk1; have B1 := Lib.hid hb1; clear hk1 hb1 hs1; (try simp only [Act.put, qA, qB, qC]))
  refine (begun_any w1).mono ?_
  rintro e w2 ⟨rfl, hb⟩
  have B2 := Lib.hid (B1.out.trans (hb.mono B1.out.size))
  have K2 := Lib.hid (K1.out.below hb K1.out.lt)
  clear hb
  go_wp2_with ((with_reducible refine atDst 7 ?_); refine wpList_ldArr rfl 27 _ rfl w.heap.size rfl 27 _ _ K2.out Try.underlying27 rfl (size_rx C6.out) ?_; (try simp only [Act.put, qA, qB, qC]))
  refine (light_any t 200 (Nat.le_trans HM.out (by decide)) cs w2 ((V0.out.stay B2.out).mono B2.out.size) _ HBL.out).mono ?_
  rintro e w3 ⟨rfl, hb⟩
  have B3 := Lib.hid (B2.out.trans (hb.mono B2.out.size))
  have K3 := Lib.hid (K2.out.below hb K2.out.lt)
  clear hb
  go_wp2_with fail
  go_ret
  exact ⟨rfl, B3.out⟩
 | true =>
  by_cases h20 : 20 < W.length
  ·have y1 : (20 : Int) < (W.length : Int) := by omega
   have d1 : decide ((20 : Int) < (W.length : Int)) = true := decide_eq_true y1
   clear h20
   go_enter Try.func3, Try.ntmps3
   go_wp2_with ((with_reducible refine atDst 2 ?_); refine wpList_box rfl 27 _ rfl cs rfl (Below.refl w.heap.size w) (Nat.le_refl _) ?_; intro w1 hk1 hb1 hs1 _; have K1 := Lib.hid hk1; have B1 := Lib.hid hb1; clear hk1 hb1 hs1; (try simp only [Act.put, qA, qB, qC]))
   refine (begun_any w1).mono ?_
   rintro e w2 ⟨rfl, hb⟩
   have B2 := Lib.hid (B1.out.trans (hb.mono B1.out.size))
   have K2 := Lib.hid (K1.out.below hb K1.out.lt)
   clear hb
   go_wp2_with ((with_reducible refine atDst 7 ?_); refine wpList_ldArr rfl 27 _ rfl w.heap.size rfl 27 _ _ K2.out Try.underlying27 rfl (size_rx C6.out) ?_; (try simp only [Act.put, qA, qB, qC]))
   refine (light_any t 200 (Nat.le_trans HM.out (by decide)) cs w2 ((V0.out.stay B2.out).mono B2.out.size) _ HBL.out).mono ?_
   rintro e w3 ⟨rfl, hb⟩
   have B3 := Lib.hid (B2.out.trans (hb.mono B2.out.size))
   have K3 := Lib.hid (K2.out.below hb K2.out.lt)
   clear hb
   go_wp2_with fail
   go_ret
   exact ⟨rfl, B3.out⟩
  have y1 : ¬ ((20 : Int) < (W.length : Int)) := by omega
  have d1 : decide ((20 : Int) < (W.length : Int)) = false := decide_eq_false y1
  have HN := Lib.hid (show t.nodes ≤ 200 by have := HBL.out; rw [Bool.and_eq_true, decide_eq_true_eq] at this; exact this.1)
  have HN2 := Lib.hid (Nat.le_trans HN.out (show 200 ≤ 2000 by decide))
  have HN3 := Lib.hid (Nat.le_trans HN.out (show 200 ≤ 1099511627776 by decide))
  have HW := Lib.hid (show W.length ≤ 200 by omega)
  obtain ⟨x, hx⟩ : ∃ x, x = lgB t W := ⟨_, rfl⟩
  obtain ⟨y, hy⟩ : ∃ x, x = nullT t := ⟨_, rfl⟩
  obtain ⟨q, hq⟩ : ∃ x, x = firstT t := ⟨_, rfl⟩
  have HX := Lib.hid hx
  have HY := Lib.hid hy
  have HQ := Lib.hid hq
  clear h20 hx hy hq
  go_enter Try.func3, Try.ntmps3
  go_wp2_with ((with_reducible refine atDst 2 ?_); refine wpList_box rfl 27 _ rfl cs rfl (Below.refl w.heap.size w) (Nat.le_refl _) ?_; intro w1 hk1 hb1 hs1 _; have K1 := Lib.hid hk1; have B1 := Lib.hid hb1; clear hk1 hb1 hs1; (try simp only [Act.put, qA, qB, qC]))
  refine (begun_any w1).mono ?_
  rintro e w2 ⟨rfl, hb⟩
  have B2 := Lib.hid (B1.out.trans (hb.mono B1.out.size))
  have K2 := Lib.hid (K1.out.below hb K1.out.lt)
  clear hb
  go_wp2_with ((with_reducible refine atDst 7 ?_); refine wpList_ldArr rfl 27 _ rfl w.heap.size rfl 27 _ _ K2.out Try.underlying27 rfl (size_rx C6.out) ?_; (try simp only [Act.put, qA, qB, qC]))
  refine (light_any t 200 (Nat.le_trans HM.out (by decide)) cs w2 ((V0.out.stay B2.out).mono B2.out.size) _ HBL.out).mono ?_
  rintro e w3 ⟨rfl, hb⟩
  have B3 := Lib.hid (B2.out.trans (hb.mono B2.out.size))
  have K3 := Lib.hid (K2.out.below hb K2.out.lt)
  clear hb
  go_wp2_with fail
  refine sg_start (S := fun V => w3.grownBy V none) (by kernel_rfl) (grown_start _ _) (fun wd hwd => ?_)
  have hX : w3.grownBy wd none := by rw [hwd]; exact grown_start _ _
  have hwb : Below w.heap.size w wd := by rw [hwd]; exact B3.out.drew
  clear hwd
  have HRC := Lib.hid (show w3.rangeAt w.heap.size 0 cs from fun i v hv => (K3.out.cell (0 + i)).trans (by rw [Nat.zero_add]; exact hv))
  have hx2 : (x == x) = true := by simp
  have hy2 : (y == y) = true := by simp
  refine sg_take (i := 0) (oi := ⟨some 15, _, _, _, _, _⟩) (v := .agg cs.toArray) rfl (by kernel_rfl) (by kernel_rfl) (by kernel_rfl) (fun _ _ _ h => h) rfl hX (fun W hW => ld_keep 27 _ rfl w.heap.size 0 rfl _ _ HRC.out (hW.block _ K3.out.lt (by simp)) Try.underlying27 rfl (size_rx C6.out)) ?_; simp only [Act.put, qA, qB, qC]
  refine sg_take (i := 1) (oi := ⟨some 16, _, _, _, _, _⟩) (v := ?_) rfl (by kernel_rfl) (by kernel_rfl) (by kernel_rfl) (fun _ _ _ h => h) rfl hX ?_ ?_; rotate_left; (intro W hW; go_simp; try with_reducible rfl); simp only [Act.put, qA, qB, qC]
  refine sg_take (i := 3) (oi := ⟨some 18, _, _, _, _, _⟩) (v := .agg cs.toArray) rfl (by kernel_rfl) (by kernel_rfl) (by kernel_rfl) (fun _ _ _ h => h) rfl hX (fun W hW => ld_keep 27 _ rfl w.heap.size 0 rfl _ _ HRC.out (hW.block _ K3.out.lt (by simp)) Try.underlying27 rfl (size_rx C6.out)) ?_; simp only [Act.put, qA, qB, qC]
  refine sg_take (i := 4) (oi := ⟨some 19, _, _, _, _, _⟩) (v := ?_) rfl (by kernel_rfl) (by kernel_rfl) (by kernel_rfl) (fun _ _ _ h => h) rfl hX ?_ ?_; rotate_left; (intro W hW; go_simp; try with_reducible rfl); simp only [Act.put, qA, qB, qC]
  refine sg_actB (i := 2) (o := ⟨some 17, _, _, _, _, _⟩) rfl (by kernel_rfl) rfl hX (fun K hK => ?_)
  go_wp2_with fail
  refine (lIn_any t HN2.out W HW.out _ cs wd (RW.out.below hwb) ((V0.out.stay hwb).mono hwb.size)).mono ?_
  rintro e wa ⟨rfl, hb⟩
  rw [← HX.out]
  go_wp2_with fail
  refine hK _ _ (grown_then hX hb) ?_
  clear hK K
  (try simp only [Act.put, qA, qB, qC])
  replace hX := grown_then hX hb
  replace hwb := hwb.trans (hb.mono hwb.size)
  clear hb
  refine sg_actB (i := 5) (o := ⟨some 20, _, _, _, _, _⟩) rfl (by kernel_rfl) rfl hX (fun K hK => ?_)
  go_wp2_with fail
  refine (refIn_any t HN3.out W HW.out _ cs wa (RW.out.below hwb) ((V0.out.stay hwb).mono hwb.size)).mono ?_
  rintro e wb ⟨rfl, hb⟩
  rw [← HX.out]
  go_wp2_with fail
  refine hK _ _ (grown_then hX hb) ?_
  clear hK K
  (try simp only [Act.put, qA, qB, qC])
  replace hX := grown_then hX hb
  replace hwb := hwb.trans (hb.mono hwb.size)
  clear hb
  refine sg_take (i := 6) (oi := ⟨some 21, _, _, _, _, _⟩) (v := ?_) rfl (by kernel_rfl) (by kernel_rfl) (by kernel_rfl) (fun _ _ _ h => h) rfl hX ?_ ?_; rotate_left; (intro W hW; go_simp; try with_reducible rfl); simp only [Act.put, qA, qB, qC]
  refine sg_take (i := 7) (oi := ⟨some 22, _, _, _, _, _⟩) (v := ?_) rfl (by kernel_rfl) (by kernel_rfl) (by kernel_rfl) (fun _ _ _ h => h) rfl hX ?_ ?_; rotate_left; (intro W hW; go_simp; try with_reducible rfl); simp only [Act.put, qA, qB, qC]
  refine sg_take (i := 8) (oi := ⟨some 23, _, _, _, _, _⟩) (v := .agg cs.toArray) rfl (by kernel_rfl) (by kernel_rfl) (by kernel_rfl) (fun _ _ _ h => h) rfl hX (fun W hW => ld_keep 27 _ rfl w.heap.size 0 rfl _ _ HRC.out (hW.block _ K3.out.lt (by simp)) Try.underlying27 rfl (size_rx C6.out)) ?_; simp only [Act.put, qA, qB, qC]
  refine sg_take (i := 10) (oi := ⟨some 25, _, _, _, _, _⟩) (v := .agg cs.toArray) rfl (by kernel_rfl) (by kernel_rfl) (by kernel_rfl) (fun _ _ _ h => h) rfl hX (fun W hW => ld_keep 27 _ rfl w.heap.size 0 rfl _ _ HRC.out (hW.block _ K3.out.lt (by simp)) Try.underlying27 rfl (size_rx C6.out)) ?_; simp only [Act.put, qA, qB, qC]
  refine sg_actB (i := 9) (o := ⟨some 24, _, _, _, _, _⟩) rfl (by kernel_rfl) rfl hX (fun K hK => ?_)
  go_wp2_with fail
  refine (lNull_any t cs wb ((V0.out.stay hwb).mono hwb.size)).mono ?_
  rintro e wc ⟨rfl, hb⟩
  rw [← HY.out]
  go_wp2_with fail
  refine hK _ _ (grown_then hX hb) ?_
  clear hK K
  (try simp only [Act.put, qA, qB, qC])
  replace hX := grown_then hX hb
  replace hwb := hwb.trans (hb.mono hwb.size)
  clear hb
  refine sg_actB (i := 11) (o := ⟨some 26, _, _, _, _, _⟩) rfl (by kernel_rfl) rfl hX (fun K hK => ?_)
  go_wp2_with fail
  refine (refNull_any _ t (Nat.le_refl _) HN3.out cs wc ((V0.out.stay hwb).mono hwb.size)).mono ?_
  rintro e we ⟨rfl, hb⟩
  rw [← HY.out]
  go_wp2_with fail
  refine hK _ _ (grown_then hX hb) ?_
  clear hK K
  (try simp only [Act.put, qA, qB, qC])
  replace hX := grown_then hX hb
  replace hwb := hwb.trans (hb.mono hwb.size)
  clear hb
  refine sg_take (i := 12) (oi := ⟨some 27, _, _, _, _, _⟩) (v := ?_) rfl (by kernel_rfl) (by kernel_rfl) (by kernel_rfl) (fun _ _ _ h => h) rfl hX ?_ ?_; rotate_left; (intro W hW; go_simp; try with_reducible rfl); simp only [Act.put, qA, qB, qC]
  refine sg_take (i := 13) (oi := ⟨some 28, _, _, _, _, _⟩) (v := ?_) rfl (by kernel_rfl) (by kernel_rfl) (by kernel_rfl) (fun _ _ _ h => h) rfl hX ?_ ?_; rotate_left; (intro W hW; go_simp; try with_reducible rfl); simp only [Act.put, qA, qB, qC]
  refine sg_take (i := 14) (oi := ⟨some 29, _, _, _, _, _⟩) (v := ?_) rfl (by kernel_rfl) (by kernel_rfl) (by kernel_rfl) (fun _ _ _ h => h) rfl hX ?_ ?_; rotate_left; (intro W hW; go_simp; try with_reducible rfl); simp only [Act.put, qA, qB, qC]
  refine sg_take (i := 15) (oi := ⟨some 30, _, _, _, _, _⟩) (v := .agg cs.toArray) rfl (by kernel_rfl) (by kernel_rfl) (by kernel_rfl) (fun _ _ _ h => h) rfl hX (fun W hW => ld_keep 27 _ rfl w.heap.size 0 rfl _ _ HRC.out (hW.block _ K3.out.lt (by simp)) Try.underlying27 rfl (size_rx C6.out)) ?_; simp only [Act.put, qA, qB, qC]
  refine sg_take (i := 17) (oi := ⟨some 32, _, _, _, _, _⟩) (v := .agg cs.toArray) rfl (by kernel_rfl) (by kernel_rfl) (by kernel_rfl) (fun _ _ _ h => h) rfl hX (fun W hW => ld_keep 27 _ rfl w.heap.size 0 rfl _ _ HRC.out (hW.block _ K3.out.lt (by simp)) Try.underlying27 rfl (size_rx C6.out)) ?_; simp only [Act.put, qA, qB, qC]
  refine sg_actB (i := 16) (o := ⟨some 31, _, _, _, _, _⟩) rfl (by kernel_rfl) rfl hX (fun K hK => ?_)
  go_wp2_with fail
  refine (lFirst_any t HN2.out cs we ((V0.out.stay hwb).mono hwb.size)).mono ?_
  rintro e wf ⟨rfl, hb⟩
  rw [← HQ.out]
  go_wp2_with fail
  refine hK _ _ (grown_then hX hb) ?_
  clear hK K
  (try simp only [Act.put, qA, qB, qC])
  replace hX := grown_then hX hb
  replace hwb := hwb.trans (hb.mono hwb.size)
  clear hb
  refine sg_actB (i := 18) (o := ⟨some 33, _, _, _, _, _⟩) rfl (by kernel_rfl) rfl hX (fun K hK => ?_)
  go_wp2_with fail
  refine (refFirst_any _ t (Nat.le_refl _) HN3.out cs wf ((V0.out.stay hwb).mono hwb.size)).mono ?_
  rintro e wg ⟨rfl, hb⟩
  rw [← HQ.out]
  go_wp2_with fail
  refine hK _ _ (grown_then hX hb) ?_
  clear hK K
  (try simp only [Act.put, qA, qB, qC])
  replace hX := grown_then hX hb
  replace hwb := hwb.trans (hb.mono hwb.size)
  clear hb
  refine sg_take (i := 19) (oi := ⟨some 34, _, _, _, _, _⟩) (v := .bool true) rfl (by kernel_rfl) (by kernel_rfl) (by kernel_rfl) (fun _ _ _ h => h) rfl hX (eq_is (eqS_self _) 24 22 (.tmp 31) (.tmp 33) 24 rfl guard_setB Try.underlying24 Try.underlying22 size_u64B rfl rfl) ?_; simp only [Act.put, qA, qB, qC]
  refine sg_take (i := 20) (oi := ⟨some 35, _, _, _, _, _⟩) (v := ?_) rfl (by kernel_rfl) (by kernel_rfl) (by kernel_rfl) (fun _ _ _ h => h) rfl hX ?_ ?_; rotate_left; (intro W hW; go_simp; try with_reducible rfl); simp only [Act.put, qA, qB, qC]
  refine sg_take (i := 21) (oi := ⟨some 4, _, _, _, _, _⟩) (v := ?_) rfl (by kernel_rfl) (by kernel_rfl) (by kernel_rfl) (fun _ _ _ h => h) rfl hX ?_ ?_; rotate_left; (intro W hW; go_simp; try with_reducible rfl); simp only [Act.put, qA, qB, qC]
  refine wpAnyH_done (by kernel_rfl) ?_ _
  have BZ := Lib.hid hwb
  clear hX hwb
  go_wp2_with fail
  go_ret
  exact ⟨rfl, BZ.out⟩
end Go.Proofs.Ytopnpdobcagcgaa
