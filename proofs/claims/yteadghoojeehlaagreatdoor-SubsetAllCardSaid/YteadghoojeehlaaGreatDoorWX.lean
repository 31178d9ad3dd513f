/-
  Texts of this proof, put together: RxDp, RxG, RmA. No statement is proved here.
-/
import Derived.Test.YteadghoojeehlaaGreatDoorWC
import Derived.Test.YteadghoojeehlaaGreatDoorWD
import Derived.Test.YteadghoojeehlaaGreatDoorWA
import Derived.Test.YteadghoojeehlaaGreatDoorWB
namespace Go.Proofs.YteadghoojeehlaaGreatDoor
open Go.RowKit
set_option linter.unusedSimpArgs false
set_option linter.unusedVariables false
mutual
theorem depth_nodes : ∀ t : T, t.depth ≤ t.nodes
 | .node _ _ l => by
  have := depthL_nodes l
  simp only [T.depth, T.nodes]
  omega
theorem depthL_nodes : ∀ l : List T, depthL l ≤ nodesL l
 | [] => Nat.le_refl _
 | t :: r => by
  have := depth_nodes t
  have := depthL_nodes r
  simp only [depthL, nodesL]
  omega
end
set_option maxHeartbeats 4000000 in
set_option maxRecDepth 1000000 in
theorem rxDepth_any : ∀ (N : Nat) (t : T), t.nodes ≤ N → t.nodes ≤ 1099511627776 → ∀ (cs : List Value) (w : World), RxV w.heap.size w cs t →
  Calls Tryz.prog 55 #[.agg cs.toArray] w fun e w' => e = .returned (.int .i64 (t.depth : Int)) ∧ Below w.heap.size w w' := by
 intro N
 induction N with
 | zero => intro t h; have := nodes_pos t; omega
 | succ N ih =>
  rintro ⟨k, s, l⟩ hN hM cs w hv
  have IH := qH ih
  clear ih
  obtain ⟨A, cap, f, rfl, h1, h2, h0, h3, h4⟩ := hv.opened
  have H3 := qH h3
  have H4 := qH h4
  have HNN := qH (show T.nodes (.node k s l) = 1 + nodesL l by simp only [T.nodes])
  have HDD := qH (show T.depth (.node k s l) = depthL l + 1 by simp only [T.depth])
  rw [HNN.out] at hN hM
  have HN := qH hN
  have HM := qH hM
  have HCM := qH h2
  have HCL := qH h1
  obtain ⟨cs, hcs⟩ : ∃ cs, cs = Value.int .i64 k :: (wds s ++ [.slice A l.length cap]) := ⟨_, rfl⟩
  have HC5 := qH (show cs[5]? = some (.slice A l.length cap) by rw [hcs]; rfl)
  rw [← hcs]
  obtain ⟨i0, hi0, hz0, hz1, hz2⟩ := inf_rx'
  obtain ⟨z, hz⟩ : ∃ z, z = rxc 0 zeroS (.slice none 0 0) := ⟨_, rfl⟩
  have HZL := qH (show z.length = 6 by rw [hz]; rfl)
  have HZ0 := qH (show i0.zero = some (.agg z.toArray) by rw [hz]; exact hz0)
  have HZ1 := qH hz0
  clear hz hz0
  clear hv h1 h2 h0 h3 h4 hcs hN hM
  rw [HDD.out]
  go_enter Tryz.func55, Tryz.ntmps55
  go_wp2_with ((with_reducible refine atDst 1 ?_); refine wpList_box rfl 46 _ rfl cs rfl (Below.refl w.heap.size w) (Nat.le_refl _) ?_; intro w1 hk1 hb1 hs1 _; have K1 := qH hk1; have B1 := qH hb1; have k5 := hk1.cell 5; rw [HC5.out] at k5; clear hk1 hb1 hs1)
  go_loopw [3, 9] (fun n i wl => ∃ j : Nat, j ≤ l.length ∧ i = .int .i64 (j : Int) ∧ n = .int .i64 ((depthL (l.take j) : Nat) : Int) ∧ Below w1.heap.size w1 wl) (fun _ i _ => l.length - (intOf i).toNat)
  case atStart => exact ⟨0, by omega, by simp, by simp [depthL], Below.refl _ _⟩
  case round =>
   obtain ⟨j, hj, rfl, rfl, hb⟩ := hrel
   have HB := qH hb
   clear hb
   by_cases hjl : j < l.length
   ·have j1 : (j : Int) < (l.length : Int) := Int.ofNat_lt.2 hjl
    obtain ⟨b, off, rfl, hb, hrng⟩ := H3.out (by rintro rfl; simp at hjl)
    have BW := qH (B1.out.trans (HB.out.mono B1.out.size))
    obtain ⟨u, hu⟩ : ∃ u, l[j]? = some u := ⟨_, List.getElem?_eq_getElem hjl⟩
    have HV := qH (RxV.part H4.out BW.out BW.out.size hu)
    have HV6 := qH HV.out.length
    have HV1 := qH (show (f j).all (·.oneCell') = true from List.all_eq_true.2 (RxD.one HV.out))
    have HRG := qH (range_below (hrng j hjl) BW.out hb)
    have HU := qH hu
    have HUN := qH (show u.nodes ≤ N by have h1 := nodes_mem (List.mem_of_getElem? hu); have := HN.out; omega)
    have HUM := qH (show u.nodes ≤ 1099511627776 by have h1 := nodes_mem (List.mem_of_getElem? hu); have := HM.out; omega)
    have HJ1 := qH hjl
    have e3 := wrap_len hjl HCL.out HCM.out
    have e4 := wrap_len' hjl HCL.out HCM.out
    clear hrng hu hb hj hjl
    obtain ⟨a, ha⟩ : ∃ a, a = depthL (l.take j) := ⟨_, rfl⟩
    obtain ⟨c, hc⟩ : ∃ c, c = u.depth := ⟨_, rfl⟩
    have HCC := qH hc
    have HS := qH (show max a c = depthL (l.take (j + 1)) by rw [depthL_next l j u HU.out, ha, hc])
    rw [← ha]
    clear ha hc
    go_wp2_with (first
     | ((with_reducible refine atDst 12 ?_); refine wpList_load_mid rfl 46 _ rfl b (off + j * 6) rfl (f j) _ HRG.out Tryz.underlying46 rfl (size_rx HV6.out) ?_; (try simp only [Act.put, qA, qB, qC]))
     | ((with_reducible refine atDst 5 ?_); refine wpList_new rfl 46 rfl i0 _ z hi0 HZ0.out rfl (Below.refl wr.heap.size wr) (Nat.le_refl _) ?_; intro w4 hk4 hb4 hs4 _; have K4 := qH hk4; have B4 := qH hb4; clear hk4 hb4 hs4; (try simp only [Act.put, qA, qB, qC]))
     | ((with_reducible refine atStore 46 5 12 ?_); refine wpList_stBlk rfl 46 _ _ rfl wr.heap.size (f j) rfl rfl 46 _ K4.out (size_rx HV6.out) (by rw [HZL.out, HV6.out]) HV1.out B4.out (Nat.le_refl _) ?_; intro w5 hk5 hb5 hs5 _; have K5 := qH hk5; have B5 := qH hb5; clear hk5 hb5 hs5; (try simp only [Act.put, qA, qB, qC]))
     | ((with_reducible refine atDst 14 ?_); refine wpList_ldArr rfl 46 _ rfl wr.heap.size rfl 46 _ _ K5.out Tryz.underlying46 rfl (size_rx HV6.out) ?_; (try simp only [Act.put, qA, qB, qC])))
    refine (IH.out u HUN.out HUM.out (f j) w5 (RxV.mono (HV.out.stay B5.out) B5.out.size)).mono ?_
    rintro e w6 ⟨rfl, hb6⟩
    have B6 := qH (HB.out.trans ((B5.out.trans (hb6.mono B5.out.size)).mono HB.out.size))
    clear hb6
    rw [← HCC.out]
    go_wp2_with fail
    exact ⟨⟨j + 1, HJ1.out, by congr 1, by rw [← HS.out]; congr 1; omega, B6.out⟩, by simpa [intOf] using sub_next HJ1.out⟩
   ·obtain rfl : j = l.length := by omega
    have j1 : ¬ ((l.length : Int) < (l.length : Int)) := by omega
    have B9 := qH (B1.out.trans (HB.out.mono B1.out.size))
    rw [List.take_length]
    obtain ⟨a, ha⟩ : ∃ a, a = depthL l := ⟨_, rfl⟩
    have hle : a ≤ 4611686018427387904 := by rw [ha]; have h1 := depthL_nodes l; have := HM.out; omega
    rw [← ha]
    have e5 : IntKind.i64.wrap (1 + (a : Int)) = ((a + 1 : Nat) : Int) := by rw [Int.add_comm]; exact wrap_one' a hle
    have e6 : wrap64 (1 + (a : Int)) = ((a + 1 : Nat) : Int) := by rw [Int.add_comm]; exact wrap_one a hle
    have HAA := qH ha
    clear ha hle
    go_wp2_with fail
    go_ret
    exact ⟨congrArg (fun x : Nat => Ending.returned (.int .i64 ((x : Int) + 1))) HAA.out, B9.out⟩
set_option maxHeartbeats 2000000 in
set_option maxRecDepth 100000 in
theorem isNaN_any (x : Int) (w : World) : Calls Tryz.prog 121 #[.int .i64 x] w fun e w' => e = .returned (.bool false) ∧ w' = w := by
 go_enter Tryz.func121, Tryz.ntmps121
 have h : (x != x) = false := by simp
 go_wp2_with fail
 go_ret
 first | exact ⟨rfl, rfl⟩ | simp
set_option maxHeartbeats 2000000 in
set_option maxRecDepth 100000 in
theorem cmpInt_any (x y : Int) (w : World) : Calls Tryz.prog 108 #[.int .i64 x, .int .i64 y] w fun e w' => e = .returned (.int .i64 (kindD x y)) ∧ w' = w := by
 go_enter Tryz.func108, Tryz.ntmps108
 go_wp2_with fail
 refine (isNaN_any x w).mono ?_
 rintro e w1 ⟨rfl, rfl⟩
 go_wp2_with fail
 refine (isNaN_any y w1).mono ?_
 rintro e w2 ⟨rfl, rfl⟩
 by_cases h1 : x < y
 ·have hk : kindD x y = -1 := by unfold kindD; rw [if_neg (by omega), if_pos h1]
  go_wp2_with fail
  go_ret
  rw [hk]
  exact ⟨rfl, rfl⟩
 ·by_cases h2 : y < x
  ·have hk : kindD x y = 1 := by unfold kindD; rw [if_neg (by omega), if_neg h1]
   go_wp2_with fail
   go_ret
   rw [hk]
   exact ⟨rfl, rfl⟩
  ·have hk : kindD x y = 0 := by unfold kindD; rw [if_pos (by omega)]
   go_wp2_with fail
   go_ret
   rw [hk]
   exact ⟨rfl, rfl⟩
abbrev cmpV : Value := .func (.func 97) #[] #[]
set_option maxHeartbeats 4000000 in
set_option maxRecDepth 100000 in
theorem cmpFunc_gr (l m : List T) (v v' : Value) (w : World) (hl : RowT w.heap.size w v l) (hm : RowT w.heap.size w v' m) (hn : l.length ≤ 1099511627776)
  (hcmp : ∀ a ∈ l, ∀ (b : T) (cs ds : List Value) (w1 : World), RxV w1.heap.size w1 cs a → RxV w1.heap.size w1 ds b → Calls Tryz.prog 97 #[.agg cs.toArray, .agg ds.toArray] w1 fun e w' => e = .returned (.int .i64 (cmpT a b)) ∧ Gr w1 w') :
  Calls Tryz.prog 109 #[v, v', cmpV] w fun e w' => e = .returned (.int .i64 (cmpL l m)) ∧ Gr w w' := by
 have IH := qH hcmp
 clear hcmp
 obtain ⟨A, cap, f, rfl, h1, h2, h0, h3, h4⟩ := hl
 obtain ⟨A', cap', f', rfl, h1', h2', h0', h3', h4'⟩ := hm
 have H3 := qH h3
 have H4 := qH h4
 have H3' := qH h3'
 have H4' := qH h4'
 have HN := qH hn
 obtain ⟨i0, hi0, hz0, hz1, hz2⟩ := infoP inf_rx
 obtain ⟨z, hz⟩ : ∃ z, z = Value.int .i64 0 :: (wds (fun _ => false) ++ [Value.slice none 0 0]) := ⟨_, rfl⟩
 have HZL := qH (show z.length = 6 by rw [hz]; rfl)
 have HZ0 := qH (show i0.zero = some (.agg z.toArray) by rw [hz]; exact hz0)
 clear h1 h2 h0 h3 h4 h1' h2' h0' h3' h4' hn hz hz0 hz1 hz2
 go_enter Tryz.func109, Tryz.ntmps109
 go_wp2_with fail
 go_loopw [13] (fun i wl => ∃ j : Nat, j ≤ l.length ∧ j ≤ m.length ∧ i = .int .i64 (j : Int) ∧ (∀ (i : Nat) (a b : T), i < j → l[i]? = some a → m[i]? = some b → cmpT a b = 0) ∧ Gr w wl) (fun i _ => l.length - (intOf i).toNat)
 case atStart => exact ⟨0, by omega, by omega, by simp, fun i a b h => by omega, Gr.refl _⟩
 case round =>
  obtain ⟨j, hj, hjm0, rfl, hsm, hb⟩ := hrel
  have HSM := qH hsm
  have HB := qH hb
  have HBB := qH hb.below
  clear hsm hb
  by_cases hjl : j < l.length
  ·have j1 : (j : Int) < (l.length : Int) := Int.ofNat_lt.2 hjl
   obtain ⟨b, off, rfl, hb, hrng⟩ := H3.out (by rintro rfl; simp at hjl)
   obtain ⟨a, ha⟩ : ∃ a, l[j]? = some a := ⟨_, List.getElem?_eq_getElem hjl⟩
   have HV := qH (RxV.part H4.out HBB.out HBB.out.size ha)
   have HRG := qH (range_below (hrng j hjl) HBB.out hb)
   have HAL := qH (List.mem_of_getElem? ha)
   have HAJ := qH ha
   have hj62 : j ≤ 4611686018427387904 := by have := HN.out; omega
   have e3 := wrap_one j hj62
   have e4 := wrap_one' j hj62
   have HG0 := qH HBB.out.size
   clear hrng ha hj62 hb
   by_cases hjm : j < m.length
   ·have j2 : ¬ ((j : Int) ≥ (m.length : Int)) := by omega
    obtain ⟨b', off', rfl, hb', hrng'⟩ := H3'.out (by rintro rfl; simp at hjm)
    obtain ⟨c, hc⟩ : ∃ c, m[j]? = some c := ⟨_, List.getElem?_eq_getElem hjm⟩
    have HV' := qH (RxV.part H4'.out HBB.out HBB.out.size hc)
    have HRG' := qH (range_below (hrng' j hjm) HBB.out hb')
    have HB2 := qH (Nat.lt_of_lt_of_le hb' HBB.out.size)
    have HCJ := qH hc
    clear hrng' hc hb'
    go_wp2_with (first
     | ((with_reducible refine atDst 17 ?_); refine wpList_load_mid rfl 46 _ rfl b (off + j * 6) rfl (f j) _ HRG.out Tryz.underlying46 rfl (size_rx HV.out.length) ?_)
     | ((with_reducible refine atDst 8 ?_); refine wpList_newE rfl 46 rfl i0 _ z hi0 HZ0.out rfl (Gr.refl wr) ?_; intro w2 hk2 hg2 hs2 _; have K2 := qH hk2; have G2 := qH hg2; clear hk2 hg2 hs2)
     | ((with_reducible refine atStore 46 8 17 ?_); refine wpList_stE rfl 46 _ _ rfl wr.heap.size (f j) rfl rfl 46 _ K2.out (size_rx HV.out.length) (by rw [HZL.out, HV.out.length]) (List.all_eq_true.2 HV.out.one) G2.out (Nat.le_refl _) ?_; intro w3 hk3 hg3 hs3 _; have K3 := qH hk3; have G3 := qH hg3; have HRG3 := qH (range_below HRG'.out hg3.below HB2.out); clear hk3 hg3 hs3)
     | ((with_reducible refine atDst 25 ?_); refine wpList_load_mid rfl 46 _ rfl b' (off' + j * 6) rfl (f' j) _ HRG3.out Tryz.underlying46 rfl (size_rx HV'.out.length) ?_)
     | ((with_reducible refine atDst 9 ?_); refine wpList_newE rfl 46 rfl i0 _ z hi0 HZ0.out rfl G3.out ?_; intro w4 hk4 hg4 hs4 ho4; have L4 := qH hk4; have G4 := qH hg4; have K4 := qH (show Blk w4 wr.heap.size 46 (f j) from (ho4 _ K3.out.lt).trans K3.out); have HS3 := qH K3.out.lt; clear hk4 hg4 hs4 ho4)
     | ((with_reducible refine atStore 46 9 25 ?_); refine wpList_stE rfl 46 _ _ rfl w3.heap.size (f' j) rfl rfl 46 _ L4.out (size_rx HV'.out.length) (by rw [HZL.out, HV'.out.length]) (List.all_eq_true.2 HV'.out.one) G4.out (Nat.le_of_lt HS3.out) ?_; intro w5 hk5 hg5 hs5 ho5; have L5 := qH hk5; have G5 := qH hg5; have K5 := qH (show Blk w5 wr.heap.size 46 (f j) from (ho5 _ (Nat.ne_of_lt HS3.out)).trans K4.out); clear hk5 hg5 hs5 ho5)
     | ((with_reducible refine atDst 27 ?_); refine wpList_ldArr rfl 46 _ rfl wr.heap.size rfl 46 _ _ K5.out Tryz.underlying46 rfl (size_rx HV.out.length) ?_)
     | ((with_reducible refine atDst 28 ?_); refine wpList_ldArr rfl 46 _ rfl w3.heap.size rfl 46 _ _ L5.out Tryz.underlying46 rfl (size_rx HV'.out.length) ?_))
    have V5 := qH ((HV.out.stay G5.out.below).mono G5.out.size)
    have V5' := qH ((HV'.out.stay G5.out.below).mono G5.out.size)
    refine (IH.out a HAL.out c (f j) (f' j) w5 V5.out V5'.out).mono ?_
    rintro e w6 ⟨rfl, hg6⟩
    have G6 := qH (HB.out.trans (G5.out.trans hg6))
    clear hg6
    obtain ⟨x, hx⟩ : ∃ x, cmpT a c = x := ⟨_, rfl⟩
    rw [hx]
    have HX := qH hx
    clear hx
    by_cases hx0 : x = 0
    ·have hxb : (x != 0) = false := by simpa using hx0
     have HX0 := qH (HX.out.trans hx0)
     clear hx0
     go_wp2_with fail
     refine ⟨⟨j + 1, by omega, by omega, by congr 1, fun i a2 b2 hi ha2 hb2 => ?_, G6.out⟩, by simp [intOf] <;> omega⟩
     by_cases hij : i < j
     ·exact HSM.out i a2 b2 hij ha2 hb2
     ·obtain rfl : i = j := by omega
      rw [HAJ.out] at ha2
      rw [HCJ.out] at hb2
      obtain rfl := Option.some.inj ha2
      obtain rfl := Option.some.inj hb2
      exact HX0.out
    ·have hxb : (x != 0) = true := by simpa using hx0
     have HF := qH (show cmpL l m = x by rw [← HX.out]; exact cmpL_at l m j a c HSM.out HAJ.out HCJ.out (by rw [HX.out]; exact hx0))
     clear hx0
     go_wp2_with fail
     go_ret
     rw [HF.out]
     exact ⟨rfl, G6.out⟩
   ·have j2 : ((j : Int) ≥ (m.length : Int)) := by omega
    have hjm' : j = m.length := by omega
    have HF := qH (show cmpL l m = 1 by
     rw [cmpL_end l m fun i x y hx hy => HSM.out i x y (by have := (List.getElem?_eq_some_iff.1 hy).1; omega) hx hy, if_neg (by omega), if_pos (by omega)])
    clear hjm'
    go_wp2_with (first
     | ((with_reducible refine atDst 17 ?_); refine wpList_load_mid rfl 46 _ rfl b (off + j * 6) rfl (f j) _ HRG.out Tryz.underlying46 rfl (size_rx HV.out.length) ?_)
     | ((with_reducible refine atDst 8 ?_); refine wpList_newE rfl 46 rfl i0 _ z hi0 HZ0.out rfl (Gr.refl wr) ?_; intro w2 hk2 hg2 hs2 _; have K2 := qH hk2; have G2 := qH hg2; clear hk2 hg2 hs2)
     | ((with_reducible refine atStore 46 8 17 ?_); refine wpList_stE rfl 46 _ _ rfl wr.heap.size (f j) rfl rfl 46 _ K2.out (size_rx HV.out.length) (by rw [HZL.out, HV.out.length]) (List.all_eq_true.2 HV.out.one) G2.out (Nat.le_refl _) ?_; intro w3 hk3 hg3 hs3 _; have K3 := qH hk3; have G3 := qH hg3; clear hk3 hg3 hs3))
    go_ret
    rw [HF.out]
    exact ⟨rfl, HB.out.trans G3.out⟩
  ·obtain rfl : j = l.length := by omega
   have j1 : ¬ ((l.length : Int) < (l.length : Int)) := by omega
   have hend := cmpL_end l m fun i x y hx hy => HSM.out i x y (List.getElem?_eq_some_iff.1 hx).1 hx hy
   by_cases hlm : l.length < m.length
   ·have j2 : (l.length : Int) < (m.length : Int) := by omega
    rw [if_pos hlm] at hend
    have HF := qH hend
    clear hend hlm
    go_wp2_with fail
    go_ret
    rw [HF.out]
    exact ⟨rfl, HB.out⟩
   ·have j2 : ¬ (l.length : Int) < (m.length : Int) := by omega
    rw [if_neg hlm, if_neg (by omega)] at hend
    have HF := qH hend
    clear hend hlm
    go_wp2_with fail
    go_ret
    rw [HF.out]
    exact ⟨rfl, HB.out⟩
theorem RowT.monoB {B B' : Nat} {w : World} {v : Value} {l : List T} (h : RowT B w v l) (hB : B ≤ B') : RowT B' w v l := by
 obtain ⟨A, cap, f, hv, h1, h2, h0, h3, h4⟩ := h
 refine ⟨A, cap, f, hv, h1, h2, h0, fun hne => ?_, fun i t ht => (h4 i t ht).mono hB⟩
 obtain ⟨b, off, hA, hlt, hc⟩ := h3 hne
 exact ⟨b, off, hA, Nat.lt_of_lt_of_le hlt hB, hc⟩
set_option maxHeartbeats 8000000 in
set_option maxRecDepth 100000 in
theorem rxCompare_gr : ∀ (N : Nat) (t u : T), t.nodes ≤ N → t.nodes ≤ 1099511627776 → ∀ (cs ds : List Value) (w : World), RxV w.heap.size w cs t → RxV w.heap.size w ds u →
  Calls Tryz.prog 97 #[.agg cs.toArray, .agg ds.toArray] w fun e w' => e = .returned (.int .i64 (cmpT t u)) ∧ Gr w w' := by
 intro N
 induction N with
 | zero => intro t u h; have := nodes_pos t; omega
 | succ N ih =>
  rintro ⟨k, s, l⟩ ⟨k', s', m⟩ hN hM cs ds w hv hv'
  have IH := qH ih
  clear ih
  obtain ⟨v, rfl, hrt⟩ := hv.row
  obtain ⟨v', rfl, hrt'⟩ := hv'.row
  have RT := qH hrt
  have RT' := qH hrt'
  have HNN := qH (show T.nodes (.node k s l) = 1 + nodesL l by simp only [T.nodes])
  have HSS := qH (cmpT_lex k k' s s' l m)
  rw [HNN.out] at hN hM
  rw [HSS.out]
  have HLN := qH (show l.length ≤ 1099511627776 by have := len_nodes l; omega)
  have HMB := qH (fun a (ha : a ∈ l) => show a.nodes ≤ N by have := nodes_mem ha; omega)
  have HMC := qH (fun a (ha : a ∈ l) => show a.nodes ≤ 1099511627776 by have := nodes_mem ha; omega)
  obtain ⟨A, cap, _, rfl, _⟩ := hrt
  obtain ⟨A', cap', _, rfl, _⟩ := hrt'
  obtain ⟨cs, hcs⟩ : ∃ cs, cs = Value.int .i64 k :: (wds s ++ [.slice A l.length cap]) := ⟨_, rfl⟩
  have HC0 := qH (show cs[0]? = some (.int .i64 k) by rw [hcs]; rfl)
  have HC5 := qH (show cs[5]? = some (.slice A l.length cap) by rw [hcs]; rfl)
  have HCS := qH hcs
  obtain ⟨ds, hds⟩ : ∃ ds, ds = Value.int .i64 k' :: (wds s' ++ [.slice A' m.length cap']) := ⟨_, rfl⟩
  have HD0 := qH (show ds[0]? = some (.int .i64 k') by rw [hds]; rfl)
  have HD5 := qH (show ds[5]? = some (.slice A' m.length cap') by rw [hds]; rfl)
  have HDS := qH hds
  rw [← hcs, ← hds]
  clear hv hv' hN hM hcs hds
  by_cases hk : k = k'
  ·have hkd : kindD k k' = 0 := if_pos hk
   rw [hkd, lex_zero]
   have HK := qH hk
   clear hk
   by_cases h3k : k = 3
   ·have h3b : (k == 3) = true := by simpa using h3k
    have HNE0 := qH h3k
    cases hs : eqS s s' with
    | false =>
     have HNE := qH (show (!eqS s s') = true by rw [hs]; rfl)
     cases hl : lessS s s' with
     | true =>
      have HF := qH (show lex (setD k s s') (cmpL l m) = -1 by unfold setD; rw [if_pos h3k, hs, hl]; rfl)
      rw [HF.out]
      have HL := qH hl
      clear hl hs h3k
      go_enter Tryz.func97, Tryz.ntmps97
      go_wp2_with (first
       | ((with_reducible refine atDst 2 ?_); refine wpList_boxE rfl 46 _ rfl cs rfl ?_; intro w1 hk1 hb1 hs1 _; have K1 := qH hk1; have B1 := qH hb1; clear hk1 hb1 hs1)
       | ((with_reducible refine atDst 3 ?_); refine wpList_boxE rfl 46 _ rfl ds rfl ?_; intro w2 hk2 hb2 hs2 ho2; have L2 := qH hk2; have B2 := qH (B1.out.trans hb2); have K2 := qH (show Blk w2 w.heap.size 46 cs from (ho2 _ K1.out.lt).trans K1.out); have a0 := K2.out.cell 0; rw [HC0.out] at a0; have b0 := L2.out.cell 0; rw [HD0.out] at b0; have a5 := K2.out.cell 5; rw [HC5.out] at a5; have b5 := L2.out.cell 5; rw [HD5.out] at b5; have RS := qH (set_range' HCS.out K2.out); have RS' := qH (set_range' HDS.out L2.out); clear hk2 hb2 hs2 ho2 K1 B1))
      refine (cmpInt_any k k' w2).mono ?_
      rintro e w3 ⟨rfl, rfl⟩
      rw [hkd]
      go_wp2_with (first
       | ((with_reducible refine atDst 19 ?_); refine wpList_ldMidG rfl 43 _ rfl w.heap.size 1 rfl (wds s) _ RS.out Tryz.underlying43 rfl (size_set s) ?_)
       | ((with_reducible refine atDst 21 ?_); refine wpList_ldMidG rfl 43 _ rfl w1.heap.size 1 rfl (wds s') _ RS'.out Tryz.underlying43 rfl (size_set s') ?_)
       | ((with_reducible refine atDst 22 ?_); refine wpList_neSetG rfl HNE.out 43 41 (.tmp 19) (.tmp 21) 43 rfl guardSet Tryz.underlying43 Tryz.underlying41 sizeU64 rfl rfl ?_)
       | ((with_reducible refine atDst 25 ?_); refine wpList_ldMidG rfl 43 _ rfl w.heap.size 1 rfl (wds s) _ RS.out Tryz.underlying43 rfl (size_set s) ?_)
       | ((with_reducible refine atDst 27 ?_); refine wpList_ldMidG rfl 43 _ rfl w1.heap.size 1 rfl (wds s') _ RS'.out Tryz.underlying43 rfl (size_set s') ?_))
      refine (bsLess_gr s s' w3).mono ?_
      rintro e w4 ⟨rfl, hg4⟩
      have G4 := qH (B2.out.trans hg4)
      clear hg4
      rw [HL.out]
      go_wp2_with fail
      go_ret
      exact ⟨rfl, G4.out⟩
     | false =>
      have HF := qH (show lex (setD k s s') (cmpL l m) = 1 by unfold setD; rw [if_pos h3k, hs, hl]; rfl)
      rw [HF.out]
      have HL := qH hl
      clear hl hs h3k
      go_enter Tryz.func97, Tryz.ntmps97
      go_wp2_with (first
       | ((with_reducible refine atDst 2 ?_); refine wpList_boxE rfl 46 _ rfl cs rfl ?_; intro w1 hk1 hb1 hs1 _; have K1 := qH hk1; have B1 := qH hb1; clear hk1 hb1 hs1)
       | ((with_reducible refine atDst 3 ?_); refine wpList_boxE rfl 46 _ rfl ds rfl ?_; intro w2 hk2 hb2 hs2 ho2; have L2 := qH hk2; have B2 := qH (B1.out.trans hb2); have K2 := qH (show Blk w2 w.heap.size 46 cs from (ho2 _ K1.out.lt).trans K1.out); have a0 := K2.out.cell 0; rw [HC0.out] at a0; have b0 := L2.out.cell 0; rw [HD0.out] at b0; have a5 := K2.out.cell 5; rw [HC5.out] at a5; have b5 := L2.out.cell 5; rw [HD5.out] at b5; have RS := qH (set_range' HCS.out K2.out); have RS' := qH (set_range' HDS.out L2.out); clear hk2 hb2 hs2 ho2 K1 B1))
      refine (cmpInt_any k k' w2).mono ?_
      rintro e w3 ⟨rfl, rfl⟩
      rw [hkd]
      go_wp2_with (first
       | ((with_reducible refine atDst 19 ?_); refine wpList_ldMidG rfl 43 _ rfl w.heap.size 1 rfl (wds s) _ RS.out Tryz.underlying43 rfl (size_set s) ?_)
       | ((with_reducible refine atDst 21 ?_); refine wpList_ldMidG rfl 43 _ rfl w1.heap.size 1 rfl (wds s') _ RS'.out Tryz.underlying43 rfl (size_set s') ?_)
       | ((with_reducible refine atDst 22 ?_); refine wpList_neSetG rfl HNE.out 43 41 (.tmp 19) (.tmp 21) 43 rfl guardSet Tryz.underlying43 Tryz.underlying41 sizeU64 rfl rfl ?_)
       | ((with_reducible refine atDst 25 ?_); refine wpList_ldMidG rfl 43 _ rfl w.heap.size 1 rfl (wds s) _ RS.out Tryz.underlying43 rfl (size_set s) ?_)
       | ((with_reducible refine atDst 27 ?_); refine wpList_ldMidG rfl 43 _ rfl w1.heap.size 1 rfl (wds s') _ RS'.out Tryz.underlying43 rfl (size_set s') ?_))
      refine (bsLess_gr s s' w3).mono ?_
      rintro e w4 ⟨rfl, hg4⟩
      have G4 := qH (B2.out.trans hg4)
      clear hg4
      rw [HL.out]
      go_wp2_with fail
      go_ret
      exact ⟨rfl, G4.out⟩
    | true =>
     have HNE := qH (show (!eqS s s') = false by rw [hs]; rfl)
     have HF := qH (show lex (setD k s s') (cmpL l m) = cmpL l m by unfold setD; rw [if_pos h3k, hs]; rfl)
     rw [HF.out]
     clear hs h3k
     go_enter Tryz.func97, Tryz.ntmps97
     go_wp2_with (first
      | ((with_reducible refine atDst 2 ?_); refine wpList_boxE rfl 46 _ rfl cs rfl ?_; intro w1 hk1 hb1 hs1 _; have K1 := qH hk1; have B1 := qH hb1; clear hk1 hb1 hs1)
      | ((with_reducible refine atDst 3 ?_); refine wpList_boxE rfl 46 _ rfl ds rfl ?_; intro w2 hk2 hb2 hs2 ho2; have L2 := qH hk2; have B2 := qH (B1.out.trans hb2); have K2 := qH (show Blk w2 w.heap.size 46 cs from (ho2 _ K1.out.lt).trans K1.out); have a0 := K2.out.cell 0; rw [HC0.out] at a0; have b0 := L2.out.cell 0; rw [HD0.out] at b0; have a5 := K2.out.cell 5; rw [HC5.out] at a5; have b5 := L2.out.cell 5; rw [HD5.out] at b5; have RS := qH (set_range' HCS.out K2.out); have RS' := qH (set_range' HDS.out L2.out); clear hk2 hb2 hs2 ho2 K1 B1))
     refine (cmpInt_any k k' w2).mono ?_
     rintro e w3 ⟨rfl, rfl⟩
     rw [hkd]
     go_wp2_with (first
      | ((with_reducible refine atDst 19 ?_); refine wpList_ldMidG rfl 43 _ rfl w.heap.size 1 rfl (wds s) _ RS.out Tryz.underlying43 rfl (size_set s) ?_)
      | ((with_reducible refine atDst 21 ?_); refine wpList_ldMidG rfl 43 _ rfl w1.heap.size 1 rfl (wds s') _ RS'.out Tryz.underlying43 rfl (size_set s') ?_)
      | ((with_reducible refine atDst 22 ?_); refine wpList_neSetG rfl HNE.out 43 41 (.tmp 19) (.tmp 21) 43 rfl guardSet Tryz.underlying43 Tryz.underlying41 sizeU64 rfl rfl ?_)
      | ((with_reducible refine atDst 25 ?_); refine wpList_ldMidG rfl 43 _ rfl w.heap.size 1 rfl (wds s) _ RS.out Tryz.underlying43 rfl (size_set s) ?_)
      | ((with_reducible refine atDst 27 ?_); refine wpList_ldMidG rfl 43 _ rfl w1.heap.size 1 rfl (wds s') _ RS'.out Tryz.underlying43 rfl (size_set s') ?_))
     refine (cmpFunc_gr l m _ _ w3 (RT.out.below B2.out.below |>.monoB B2.out.size) (RT'.out.below B2.out.below |>.monoB B2.out.size) HLN.out (fun a ha b cs ds w1 h1 h2 => IH.out a b (HMB.out a ha) (HMC.out a ha) cs ds w1 h1 h2)).mono ?_
     rintro e w4 ⟨rfl, hg4⟩
     have G4 := qH (B2.out.trans hg4)
     clear hg4
     go_wp2_with fail
     go_ret
     exact ⟨rfl, G4.out⟩
   ·have h3b : (k == 3) = false := by simpa using h3k
    have HF := qH (show lex (setD k s s') (cmpL l m) = cmpL l m by unfold setD; rw [if_neg h3k]; rfl)
    rw [HF.out]
    have HNE := qH (rfl : (0 : Nat) = 0)
    clear h3k
    go_enter Tryz.func97, Tryz.ntmps97
    go_wp2_with (first
     | ((with_reducible refine atDst 2 ?_); refine wpList_boxE rfl 46 _ rfl cs rfl ?_; intro w1 hk1 hb1 hs1 _; have K1 := qH hk1; have B1 := qH hb1; clear hk1 hb1 hs1)
     | ((with_reducible refine atDst 3 ?_); refine wpList_boxE rfl 46 _ rfl ds rfl ?_; intro w2 hk2 hb2 hs2 ho2; have L2 := qH hk2; have B2 := qH (B1.out.trans hb2); have K2 := qH (show Blk w2 w.heap.size 46 cs from (ho2 _ K1.out.lt).trans K1.out); have a0 := K2.out.cell 0; rw [HC0.out] at a0; have b0 := L2.out.cell 0; rw [HD0.out] at b0; have a5 := K2.out.cell 5; rw [HC5.out] at a5; have b5 := L2.out.cell 5; rw [HD5.out] at b5; have RS := qH (set_range' HCS.out K2.out); have RS' := qH (set_range' HDS.out L2.out); clear hk2 hb2 hs2 ho2 K1 B1))
    refine (cmpInt_any k k' w2).mono ?_
    rintro e w3 ⟨rfl, rfl⟩
    rw [hkd]
    go_wp2_with (first
     | ((with_reducible refine atDst 19 ?_); refine wpList_ldMidG rfl 43 _ rfl w.heap.size 1 rfl (wds s) _ RS.out Tryz.underlying43 rfl (size_set s) ?_)
     | ((with_reducible refine atDst 21 ?_); refine wpList_ldMidG rfl 43 _ rfl w1.heap.size 1 rfl (wds s') _ RS'.out Tryz.underlying43 rfl (size_set s') ?_)
     | ((with_reducible refine atDst 22 ?_); refine wpList_neSetG rfl HNE.out 43 41 (.tmp 19) (.tmp 21) 43 rfl guardSet Tryz.underlying43 Tryz.underlying41 sizeU64 rfl rfl ?_)
     | ((with_reducible refine atDst 25 ?_); refine wpList_ldMidG rfl 43 _ rfl w.heap.size 1 rfl (wds s) _ RS.out Tryz.underlying43 rfl (size_set s) ?_)
     | ((with_reducible refine atDst 27 ?_); refine wpList_ldMidG rfl 43 _ rfl w1.heap.size 1 rfl (wds s') _ RS'.out Tryz.underlying43 rfl (size_set s') ?_))
    refine (cmpFunc_gr l m _ _ w3 (RT.out.below B2.out.below |>.monoB B2.out.size) (RT'.out.below B2.out.below |>.monoB B2.out.size) HLN.out (fun a ha b cs ds w1 h1 h2 => IH.out a b (HMB.out a ha) (HMC.out a ha) cs ds w1 h1 h2)).mono ?_
    rintro e w4 ⟨rfl, hg4⟩
    have G4 := qH (B2.out.trans hg4)
    clear hg4
    go_wp2_with fail
    go_ret
    exact ⟨rfl, G4.out⟩
  ·have hkd : kindD k k' ≠ 0 := by
    unfold kindD
    rw [if_neg hk]
    split <;> decide
   rw [lex_ne _ hkd]
   obtain ⟨x, hx⟩ : ∃ x, kindD k k' = x := ⟨_, rfl⟩
   rw [hx] at hkd ⊢
   have HX := qH hx
   have hxb : (x != 0) = true := by simpa using hkd
   clear hx hkd hk
   go_enter Tryz.func97, Tryz.ntmps97
   go_wp2_with (first
    | ((with_reducible refine atDst 2 ?_); refine wpList_boxE rfl 46 _ rfl cs rfl ?_; intro w1 hk1 hb1 hs1 _; have K1 := qH hk1; have B1 := qH hb1; clear hk1 hb1 hs1)
    | ((with_reducible refine atDst 3 ?_); refine wpList_boxE rfl 46 _ rfl ds rfl ?_; intro w2 hk2 hb2 hs2 ho2; have L2 := qH hk2; have B2 := qH (B1.out.trans hb2); have K2 := qH (show Blk w2 w.heap.size 46 cs from (ho2 _ K1.out.lt).trans K1.out); have a0 := K2.out.cell 0; rw [HC0.out] at a0; have b0 := L2.out.cell 0; rw [HD0.out] at b0; have a5 := K2.out.cell 5; rw [HC5.out] at a5; have b5 := L2.out.cell 5; rw [HD5.out] at b5; have RS := qH (set_range' HCS.out K2.out); have RS' := qH (set_range' HDS.out L2.out); clear hk2 hb2 hs2 ho2 K1 B1))
   refine (cmpInt_any k k' w2).mono ?_
   rintro e w3 ⟨rfl, rfl⟩
   rw [HX.out]
   go_wp2_with fail
   go_ret
   exact ⟨rfl, B2.out⟩
/-! ### left -/
mutual
def leftT : T → Int → Int
 | .node _ _ l, n => leftL l (n - 1)
def leftL : List T → Int → Int
 | [], n => n
 | t :: r, n => if n < 0 then n else leftL r (leftT t n)
end
theorem leftL_neg : ∀ (l : List T) {n : Int}, n < 0 → leftL l n = n
 | [], _, _ => rfl
 | t :: r, n, h => by simp only [leftL]; rw [if_pos h]
theorem leftL_app : ∀ (l m : List T) (n : Int), leftL (l ++ m) n = leftL m (leftL l n)
 | [], m, n => rfl
 | t :: r, m, n => by
  simp only [List.cons_append, leftL]
  by_cases h : n < 0
  ·rw [if_pos h, if_pos h, leftL_neg m h]
  ·rw [if_neg h, if_neg h, leftL_app r m]
theorem leftL_next {l : List T} {j : Nat} {u : T} (h : l[j]? = some u) (n : Int) : leftL (l.take (j + 1)) n = if leftL (l.take j) n < 0 then leftL (l.take j) n else leftT u (leftL (l.take j) n) := by
 rw [List.take_add_one, h, leftL_app]
 simp only [Option.toList_some, leftL]
theorem leftL_stop {l : List T} {j : Nat} {n : Int} (h : leftL (l.take j) n < 0) : leftL l n = leftL (l.take j) n := by
 have := leftL_app (l.take j) (l.drop j) n
 rw [List.take_append_drop] at this
 rw [this, leftL_neg _ h]
mutual
theorem leftT_is : ∀ (t : T) (n : Int), 0 ≤ n → -1 ≤ leftT t n ∧ leftT t n ≤ n ∧ (leftT t n < 0 ↔ n < (t.nodes : Int)) ∧ (0 ≤ leftT t n → leftT t n = n - (t.nodes : Int))
 | .node k s l, n, h => by
  have := leftL_is l (n - 1) (by omega)
  simp only [leftT, T.nodes]
  obtain ⟨h1, h2, h3, h4⟩ := this
  refine ⟨h1, by omega, ?_, fun h0 => ?_⟩
  ·rw [h3]; omega
  ·rw [h4 h0]; omega
theorem leftL_is : ∀ (l : List T) (n : Int), -1 ≤ n → -1 ≤ leftL l n ∧ leftL l n ≤ n ∧ (leftL l n < 0 ↔ n < (nodesL l : Int)) ∧ (0 ≤ leftL l n → leftL l n = n - (nodesL l : Int))
 | [], n, h => by
  simp only [leftL, nodesL]
  omega
 | t :: r, n, h => by
  simp only [leftL, nodesL]
  by_cases h0 : n < 0
  ·rw [if_pos h0]
   have := nodes_pos t
   omega
  ·rw [if_neg h0]
   obtain ⟨a1, a2, a3, a4⟩ := leftT_is t n (by omega)
   obtain ⟨b1, b2, b3, b4⟩ := leftL_is r (leftT t n) a1
   refine ⟨b1, by omega, ?_, fun hh => ?_⟩
   ·rw [b3]
    by_cases hn : leftT t n < 0
    ·have := a3.1 hn
     omega
    ·have := a4 (by omega)
     omega
   ·rw [b4 hh, a4 (by omega)]; omega
end
theorem left_long (t : T) : leftT t 400 < 0 ↔ 400 < t.nodes := by
 rw [(leftT_is t 400 (by omega)).2.2.1]
 omega
theorem sub_wrap {n : Int} (h : 0 ≤ n) (h2 : n ≤ 400) : wrap64 (n - 1) = n - 1 := IntWalk.wrap64_in _ (by omega)
theorem sub_wrap' {n : Int} (h : 0 ≤ n) (h2 : n ≤ 400) : IntKind.i64.wrap (n - 1) = n - 1 := IntWalk.i64_in _ (by omega)
set_option maxHeartbeats 4000000 in
set_option maxRecDepth 1000000 in
theorem rxLeft_any : ∀ (N : Nat) (t : T), t.nodes ≤ N → t.nodes ≤ 1099511627776 → ∀ (n : Int) (cs : List Value) (w : World), 0 ≤ n → n ≤ 400 → RxV w.heap.size w cs t →
  Calls Tryz.prog 54 #[.agg cs.toArray, .int .i64 n] w fun e w' => e = .returned (.int .i64 (leftT t n)) ∧ Below w.heap.size w w' := by
 intro N
 induction N with
 | zero => intro t h; have := nodes_pos t; omega
 | succ N ih =>
  rintro ⟨k, s, l⟩ hN hM n cs w hn0 hn4 hv
  have IH := qH ih
  clear ih
  obtain ⟨A, cap, f, rfl, h1, h2, h0, h3, h4⟩ := hv.opened
  have H3 := qH h3
  have H4 := qH h4
  have HNN := qH (show T.nodes (.node k s l) = 1 + nodesL l by simp only [T.nodes])
  have HTT := qH (show leftT (.node k s l) n = leftL l (n - 1) by simp only [leftT])
  rw [HNN.out] at hN hM
  have HN := qH hN
  have HM := qH hM
  have HCM := qH h2
  have HCL := qH h1
  have HLI := qH (show ∀ j, -1 ≤ leftL (l.take j) (n - 1) ∧ leftL (l.take j) (n - 1) ≤ 400 from fun j => by
   have := leftL_is (l.take j) (n - 1) (by omega)
   omega)
  obtain ⟨cs, hcs⟩ : ∃ cs, cs = Value.int .i64 k :: (wds s ++ [.slice A l.length cap]) := ⟨_, rfl⟩
  have HC5 := qH (show cs[5]? = some (.slice A l.length cap) by rw [hcs]; rfl)
  rw [← hcs]
  have s1 := sub_wrap hn0 hn4
  have s2 := sub_wrap' hn0 hn4
  obtain ⟨i0, hi0, hz0, hz1, hz2⟩ := inf_rx'
  obtain ⟨z, hz⟩ : ∃ z, z = rxc 0 zeroS (.slice none 0 0) := ⟨_, rfl⟩
  have HZL := qH (show z.length = 6 by rw [hz]; rfl)
  have HZ0 := qH (show i0.zero = some (.agg z.toArray) by rw [hz]; exact hz0)
  have HZ1 := qH hz0
  clear hz hz0
  clear hv h1 h2 h0 h3 h4 hcs hN hM hn0 hn4
  rw [HTT.out]
  go_enter Tryz.func54, Tryz.ntmps54
  go_wp2_with ((with_reducible refine atDst 2 ?_); refine wpList_box rfl 46 _ rfl cs rfl (Below.refl w.heap.size w) (Nat.le_refl _) ?_; intro w1 hk1 hb1 hs1 _; have K1 := qH hk1; have B1 := qH hb1; have k5 := hk1.cell 5; rw [HC5.out] at k5; clear hk1 hb1 hs1; (try simp only [Act.put, qA, qB, qC]))
  clear s1 s2
  go_loopw [1, 12] (fun v iv wl => ∃ j : Nat, j ≤ l.length ∧ iv = .int .i64 (j : Int) ∧ v = .int .i64 (leftL (l.take j) (n - 1)) ∧ Below w1.heap.size w1 wl) (fun _ iv _ => l.length - (intOf iv).toNat)
  case atStart => exact ⟨0, Nat.zero_le _, by simp, by simp [leftL], Below.refl _ _⟩
  clear k5
  obtain ⟨j, hj, rfl, rfl, hb⟩ := hrel
  have HB := qH hb
  have BW := qH (B1.out.trans (hb.mono B1.out.size))
  clear hb
  by_cases hjl : j < l.length
  ·have j1 : (j : Int) < (l.length : Int) := Int.ofNat_lt.2 hjl
   obtain ⟨b, off, rfl, hb, hrng⟩ := H3.out (by rintro rfl; simp at hjl)
   obtain ⟨u, hu⟩ : ∃ u, l[j]? = some u := ⟨_, List.getElem?_eq_getElem hjl⟩
   have HV := qH (RxV.part H4.out BW.out BW.out.size hu)
   have HV6 := qH HV.out.length
   have HV1 := qH (show (f j).all (·.oneCell') = true from List.all_eq_true.2 (RxD.one HV.out))
   have HRG := qH (range_below (hrng j hjl) BW.out hb)
   have HU := qH (leftL_next hu (n - 1))
   have HUN := qH (show u.nodes ≤ N by have h1 := nodes_mem (List.mem_of_getElem? hu); have := HN.out; omega)
   have HUM := qH (show u.nodes ≤ 1099511627776 by have h1 := nodes_mem (List.mem_of_getElem? hu); have := HM.out; omega)
   have HJ1 := qH hjl
   have e3 := wrap_len hjl HCL.out HCM.out
   have e4 := wrap_len' hjl HCL.out HCM.out
   have HXI := qH (HLI.out j)
   have HST := qH (fun h => leftL_stop (l := l) (j := j) (n := n - 1) h)
   obtain ⟨x, hx⟩ : ∃ x, leftL (l.take j) (n - 1) = x := ⟨_, rfl⟩
   rw [hx] at HU HXI HST ⊢
   clear hrng hu hb hj hjl hx
   obtain ⟨wq, hwq⟩ : ∃ v : World, v = wr := ⟨_, rfl⟩
   subst hwq
   by_cases hneg : x < 0
   ·have HR := qH (HST.out hneg)
    go_wp2_with (first
     | ((with_reducible refine atDst 15 ?_); refine wpList_load_mid rfl 46 _ rfl b (off + j * 6) rfl (f j) _ HRG.out Tryz.underlying46 rfl (size_rx HV6.out) ?_; (try simp only [Act.put, qA, qB, qC]))
     | ((with_reducible refine atDst 6 ?_); refine wpList_new rfl 46 rfl i0 _ z hi0 HZ0.out rfl (Below.refl wq.heap.size wq) (Nat.le_refl _) ?_; intro w4 hk4 hb4 hs4 _; have K4 := qH hk4; have B4 := qH hb4; clear hk4 hb4 hs4; (try simp only [Act.put, qA, qB, qC]))
     | ((with_reducible refine atStore 46 6 15 ?_); refine wpList_stBlk rfl 46 _ _ rfl wq.heap.size (f j) rfl rfl 46 _ K4.out (size_rx HV6.out) (by rw [HZL.out, HV6.out]) HV1.out B4.out (Nat.le_refl _) ?_; intro w5 hk5 hb5 hs5 _; have K5 := qH hk5; have B5 := qH hb5; clear hk5 hb5 hs5; (try simp only [Act.put, qA, qB, qC]))
     | ((with_reducible refine atDst 18 ?_); refine wpList_ldArr rfl 46 _ rfl wq.heap.size rfl 46 _ _ K5.out Tryz.underlying46 rfl (size_rx HV6.out) ?_; (try simp only [Act.put, qA, qB, qC])))
    go_ret
    rw [HR.out]
    exact ⟨rfl, (BW.out.trans (B5.out.mono BW.out.size))⟩
   ·have hx0 := Int.not_lt.1 hneg
    have HX0 := qH hx0
    have HUE := qH (HU.out.trans (if_neg hneg))
    go_wp2_with (first
     | ((with_reducible refine atDst 15 ?_); refine wpList_load_mid rfl 46 _ rfl b (off + j * 6) rfl (f j) _ HRG.out Tryz.underlying46 rfl (size_rx HV6.out) ?_; (try simp only [Act.put, qA, qB, qC]))
     | ((with_reducible refine atDst 6 ?_); refine wpList_new rfl 46 rfl i0 _ z hi0 HZ0.out rfl (Below.refl wq.heap.size wq) (Nat.le_refl _) ?_; intro w4 hk4 hb4 hs4 _; have K4 := qH hk4; have B4 := qH hb4; clear hk4 hb4 hs4; (try simp only [Act.put, qA, qB, qC]))
     | ((with_reducible refine atStore 46 6 15 ?_); refine wpList_stBlk rfl 46 _ _ rfl wq.heap.size (f j) rfl rfl 46 _ K4.out (size_rx HV6.out) (by rw [HZL.out, HV6.out]) HV1.out B4.out (Nat.le_refl _) ?_; intro w5 hk5 hb5 hs5 _; have K5 := qH hk5; have B5 := qH hb5; clear hk5 hb5 hs5; (try simp only [Act.put, qA, qB, qC]))
     | ((with_reducible refine atDst 18 ?_); refine wpList_ldArr rfl 46 _ rfl wq.heap.size rfl 46 _ _ K5.out Tryz.underlying46 rfl (size_rx HV6.out) ?_; (try simp only [Act.put, qA, qB, qC])))
    refine (IH.out u HUN.out HUM.out x (f j) w5 HX0.out HXI.out.2 (RxV.mono (HV.out.stay B5.out) B5.out.size)).mono ?_
    rintro e w6 ⟨rfl, hb6⟩
    have B6 := qH (HB.out.trans ((B5.out.trans (hb6.mono B5.out.size)).mono HB.out.size))
    clear hb6
    rw [← HUE.out]
    go_wp2_with fail
    exact ⟨⟨j + 1, HJ1.out, by congr 1, rfl, B6.out⟩, by simpa [intOf] using sub_next HJ1.out⟩
  ·obtain rfl : j = l.length := Nat.le_antisymm hj (Nat.not_lt.1 hjl)
   have j1 : ¬ ((l.length : Int) < (l.length : Int)) := Int.lt_irrefl _
   rw [List.take_length]
   go_wp2_with fail
   go_ret
   exact ⟨rfl, BW.out⟩
/-! ### counted, fits -/
set_option maxHeartbeats 4000000 in
set_option maxRecDepth 1000000 in
theorem rxFits_any (p k : Int) (w : World) :
  Calls Tryz.prog 78 #[.int .i64 p, .int .i64 k] w fun e w' => e = .returned (.bool (fitsT p k)) ∧ w' = w := by
 obtain ⟨q, hq⟩ : ∃ q, fitsT p k = q := ⟨_, rfl⟩
 have HQ := qH hq
 rw [hq]
 clear hq
 go_enter Tryz.func78, Tryz.ntmps78
 by_cases h2 : p = 2
 ·subst h2
  by_cases h5 : k = 5
  ·subst h5
   have HR := qH (show q = true by rw [← HQ.out]; rfl)
   go_wp2_with fail
   go_ret
   rw [HR.out]
   exact ⟨rfl, rfl⟩
  ·have HR := qH (show q = false by rw [← HQ.out]; unfold fitsT; rw [if_pos rfl]; exact decide_eq_false h5)
   by_cases hk2 : k = 2
   ·subst hk2
    go_wp2_with fail
    go_ret
    rw [HR.out]
    exact ⟨rfl, rfl⟩
   ·go_wp2_with fail
    go_ret
    rw [HR.out]
    exact ⟨rfl, rfl⟩
 ·by_cases h1 : p = 1
  ·subst h1
   have HR := qH (show q = false by rw [← HQ.out]; rfl)
   go_wp2_with fail
   go_ret
   rw [HR.out]
   exact ⟨rfl, rfl⟩
  ·by_cases hk : p = k
   ·subst hk
    have HR := qH (show q = false by rw [← HQ.out]; unfold fitsT; rw [if_neg h2]; simp)
    go_wp2_with fail
    go_ret
    rw [HR.out]
    exact ⟨rfl, rfl⟩
   ·have HR := qH (show q = true by rw [← HQ.out]; unfold fitsT; rw [if_neg h2]; simp [h1, hk])
    go_wp2_with fail
    go_ret
    rw [HR.out]
    exact ⟨rfl, rfl⟩
end Go.Proofs.YteadghoojeehlaaGreatDoor
