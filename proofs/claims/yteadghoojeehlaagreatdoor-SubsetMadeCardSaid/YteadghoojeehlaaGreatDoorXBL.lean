/-
  Texts of this proof, put together: PyG, ScM. No statement is proved here.
-/
import Derived.Test.YteadghoojeehlaaGreatDoorXBK
import Derived.Test.YteadghoojeehlaaGreatDoorXBJ
namespace Go.Proofs.YteadghoojeehlaaGreatDoor
open Go.RowKit
set_option linter.unusedSimpArgs false
set_option linter.unusedVariables false
def madeT (ps : List UInt8) : T := (rxP ps 10 0 0).1
theorem madeT_nodes (ps : List UInt8) : (madeT ps).nodes ≤ 6139 := by
 have := rxP_nodes ps 10 0 0
 show (rxP ps 10 0 0).1.nodes ≤ 6139
 omega
theorem built_picks (A : Option Addr) (n c : Nat) : Tryz.prog.built 87 [(0, .slice A n c)] = some #[.slice A n c, .int .i64 0] := by kernel_rfl
set_option maxHeartbeats 4000000 in
set_option maxRecDepth 1000000 in
theorem made_any (V : Value) (ps : List UInt8) (w : World) (hr : Row w V (bvs ps)) (hl : ps.length ≤ 1048576) :
  Calls Tryz.prog 13 #[V] w fun e w' => e = .returned (.pointer (some ⟨w.heap.size, 0, none⟩)) ∧ Below w.heap.size w w' ∧ Pk w' w.heap.size V ps 0 := by
 have R := qH hr
 obtain ⟨A, cap, rfl, _⟩ := hr
 obtain ⟨n, hn⟩ : ∃ n, n = (bvs ps).length := ⟨_, rfl⟩
 rw [← hn] at R ⊢
 obtain ⟨cs, hcs⟩ : ∃ cs, cs = [Value.slice A n cap, .int .i64 0] := ⟨_, rfl⟩
 have HB := qH (show Tryz.prog.built 87 [(0, .slice A n cap)] = some cs.toArray by rw [hcs]; exact built_picks A n cap)
 have HC := qH hcs
 clear hn hcs
 go_enter Tryz.func13, Tryz.ntmps13
 go_wp2_with (first
  | ((with_reducible refine atDst 4 ?_); refine wpList_bld rfl 87 _ rfl cs HB.out ?_; (try simp only [Act.put, qA, qB, qC]))
  | ((with_reducible refine atDst 5 ?_); refine wpList_box rfl 87 _ rfl cs rfl (Below.refl w.heap.size w) (Nat.le_refl _) ?_; intro w1 hk1 hb1 hs1 _; have K1 := qH hk1; have B1 := qH hb1; clear hk1 hb1 hs1; (try simp only [Act.put, qA, qB, qC])))
 go_ret
 have hk := K1.out
 rw [HC.out] at hk
 exact ⟨rfl, B1.out, ⟨hk, R.out.toB.below B1.out, Nat.zero_le _, hl⟩⟩
set_option maxHeartbeats 4000000 in
set_option maxRecDepth 1000000 in
theorem pickRx_any (g : Nat) (V : Value) (ps : List UInt8) (w : World) (h : Pk w g V ps 0) :
  Calls Tryz.prog 14 #[.pointer (some ⟨g, 0, none⟩)] w fun e w' => ∃ ds, e = .returned (.agg ds.toArray) ∧ RxD (fun k => w.heap.size ≤ k ∧ k < w'.heap.size) w' ds (madeT ps) ∧ w.grownBy w' (some g) := by
 have HPK := qH h
 have HNE := qH (show some w.heap.size ≠ some g from fun he => by have h1 := Option.some.inj he; have h2 := h.blk.lt; omega)
 obtain ⟨i0, hi0, hz0, hz1, hz2⟩ := inf_rx'
 obtain ⟨z, hz⟩ : ∃ z, z = rxc 0 zeroS (.slice none 0 0) := ⟨_, rfl⟩
 have HZL := qH (show z.length = 6 by rw [hz]; rfl)
 have HZ0 := qH (show i0.zero = some (.agg z.toArray) by rw [hz]; exact hz0)
 clear hz hz0 h
 go_enter Tryz.func14, Tryz.ntmps14
 go_wp2_with ((with_reducible refine atDst 2 ?_); refine wpList_new rfl 46 rfl i0 _ z hi0 HZ0.out rfl (Below.refl w.heap.size w) (Nat.le_refl _) ?_; intro w1 hk1 hb1 hs1 _; have K1 := qH hk1; have G1 := qH (below_grownG g hb1); have P1 := qH (HPK.out.below hb1); clear hk1 hb1 hs1; (try simp only [Act.put, qA, qB, qC]))
 refine (rx_any g V ps 10 0 0 w1 (by omega) (by omega) P1.out).mono ?_
 rintro e w2 ⟨es, rfl, hes, hg, hp⟩
 have E10 := qH hes
 have E6 := qH hes.length
 have E1 := qH (show es.all (·.oneCell') = true from List.all_eq_true.2 (RxD.one hes))
 have GX := qH (grownG_trans G1.out hg)
 have KX := qH (K1.out.grown hg HNE.out)
 have SX := qH (show w.heap.size < w1.heap.size from K1.out.lt)
 clear hes hg hp
 go_wp2_with ((with_reducible refine atStore 46 2 4 ?_); refine wpList_stBlk rfl 46 _ _ rfl w.heap.size es rfl rfl 46 _ KX.out (size_rx E6.out) (by rw [HZL.out, E6.out]) E1.out (Below.refl w.heap.size w2) (Nat.le_refl _) ?_; intro w11 hk hb hs ho; have K11 := qH hk; have G11 := qH (grownG_below GX.out hb); have E11 := qH (RxD.mono (E10.out.stay (w' := w11) fun k hk => ho k (by have h1 := hk.1; have h2 := SX.out; omega)) (D' := fun k => w.heap.size ≤ k ∧ k < w11.heap.size) fun k hk => ⟨by have h1 := hk.1; have h2 := SX.out; omega, by have h1 := hk.2; omega⟩); clear hk hb hs ho; (try simp only [Act.put, qA, qB, qC]))
 refine bodyPost_ret (results_blk rfl _ _ w.heap.size 46 _ _ rfl K11.out Tryz.underlying46 rfl (size_rx E6.out)) rfl ?_
 exact ⟨es, rfl, E11.out, G11.out⟩
mutual
theorem fragT_lo : ∀ (t : T) (n : Nat) (c : List Int), ∀ s ∈ fragT t n c, -1 ≤ s.to
 | .node k s l, n, c => by
  intro x hx
  unfold fragT at hx
  split at hx
  ·simp only [List.mem_cons, List.not_mem_nil, or_false] at hx
   rcases hx with rfl | rfl
   ·show (-1 : Int) ≤ ((n + 1 : Nat) : Int); omega
   ·exact Int.le_refl _
  split at hx
  ·simp only [List.mem_cons] at hx
   rcases hx with rfl | rfl | hx
   ·exact Int.le_refl _
   ·exact Int.le_refl _
   ·exact fragC_lo l _ _ x hx
  split at hx
  ·simp only [List.mem_cons] at hx
   rcases hx with rfl | rfl | hx
   ·exact Int.le_refl _
   ·exact Int.le_refl _
   ·exact fragA_lo l _ _ x hx
  split at hx
  ·simp only [List.mem_cons] at hx
   rcases hx with rfl | rfl | hx
   ·exact Int.le_refl _
   ·exact Int.le_refl _
   ·exact fragO_lo l _ _ x hx
  split at hx
  ·simp only [List.mem_cons, List.not_mem_nil, or_false] at hx
   rcases hx with rfl | rfl
   ·exact Int.le_refl _
   ·exact Int.le_refl _
  ·simp only [List.mem_cons, List.not_mem_nil, or_false] at hx
   rcases hx with rfl | rfl
   ·exact Int.le_refl _
   ·exact Int.le_refl _
theorem fragC_lo : ∀ (l : List T) (p z : Nat), ∀ s ∈ fragC l p z, -1 ≤ s.to
 | [], _, _ => by intro x hx; simp [fragC] at hx
 | y :: r, p, z => by
  intro x hx
  unfold fragC at hx
  rcases List.mem_append.1 hx with hx | hx
  ·exact fragT_lo y _ _ x hx
  ·exact fragC_lo r _ _ x hx
theorem fragA_lo : ∀ (l : List T) (p z : Nat), ∀ s ∈ fragA l p z, -1 ≤ s.to
 | [], _, _ => by intro x hx; simp [fragA] at hx
 | y :: r, p, z => by
  intro x hx
  unfold fragA at hx
  rcases List.mem_append.1 hx with hx | hx
  ·exact fragT_lo y _ _ x hx
  ·split at hx
   ·cases hx
   ·rcases List.mem_cons.1 hx with rfl | hx
    ·exact Int.le_refl _
    ·exact fragA_lo r _ _ x hx
theorem fragO_lo : ∀ (l : List T) (p z : Nat), ∀ s ∈ fragO l p z, -1 ≤ s.to
 | [], _, _ => by intro x hx; simp [fragO] at hx
 | y :: r, p, z => by
  intro x hx
  unfold fragO at hx
  exact fragT_lo y _ _ x hx
end
set_option maxHeartbeats 8000000 in
set_option maxRecDepth 1000000 in
theorem submade_walk (V : Value) (ps : List UInt8) (b : UInt8) (w : World) (hr : Row w V (bvs ps)) (hT : Tb w) :
  Calls Tryz.prog 4 #[V, bv b] w fun e w' => e = .returned (.bool true) ∧ Below w.heap.size w w' := by
 have R := qH hr
 have HT := qH hT
 obtain ⟨A, cap, rfl, _⟩ := hr
 rw [bvs_length] at R ⊢
 obtain ⟨mb, hmb⟩ : ∃ m, m = b.toNat := ⟨_, rfl⟩
 have HMB := qH (show mb < 256 by rw [hmb]; exact b.toNat_lt)
 rw [show bv b = .int .u8 (mb : Int) by rw [hmb]]
 obtain ⟨id, d0, hid, hdz, hdl⟩ := zero_dfa
 have HDZ := qH hdz
 have HDL := qH hdl
 obtain ⟨i2', hi2, hn0, hs2, hy2⟩ := infoP inf_nfa
 obtain ⟨zz, hzz⟩ : ∃ z : List Value, z = [.slice none 0 0, .int .i64 0, .int .i64 0] := ⟨_, rfl⟩
 have HNL := qH (show zz.length = 3 by rw [hzz]; rfl)
 have HN0 := qH (show i2'.zero = some (.agg zz.toArray) by rw [hzz]; exact hn0)
 clear hT hmb hdz hdl hzz hn0 hs2 hy2
 go_enter Tryz.func4, Tryz.ntmps4
 go_wp2_with fail
 refine (begun10_any w HT.out).mono ?_
 rintro e w1 ⟨rfl, hb⟩
 have B1 := qH hb
 clear hb
 by_cases h40 : (40 : Int) < (ps.length : Int)
 ·have d1 : decide ((40 : Int) < (ps.length : Int)) = true := decide_eq_true h40
  go_wp2_with fail
  go_ret
  exact ⟨rfl, B1.out⟩
 have d1 : decide ((40 : Int) < (ps.length : Int)) = false := decide_eq_false h40
 have HL := qH (show ps.length ≤ 1048576 by omega)
 go_wp2_with fail
 clear d1 h40
 refine (made_any _ ps w1 (R.out.below B1.out) HL.out).mono ?_
 rintro e w2 ⟨rfl, hb, hp⟩
 have P2 := qH hp
 have B2 := qH (B1.out.trans (hb.mono B1.out.size))
 have S1w := qH B1.out.size
 clear hb hp
 go_wp2_with fail
 refine (pickRx_any w1.heap.size _ ps w2 P2.out).mono ?_
 rintro e w3 ⟨cs, rfl, hcs, hg⟩
 have B3 := qH (B2.out.trans ((grown_belowG hg P2.out.blk.lt).mono S1w.out))
 obtain ⟨t, ht⟩ : ∃ t, t = madeT ps := ⟨_, rfl⟩
 have HM4 := qH (show t.nodes ≤ 1099511627776 by rw [ht]; exact Nat.le_trans (madeT_nodes ps) (by decide))
 rw [← ht] at hcs
 have V3 := qH (show RxV w3.heap.size w3 cs t from RxD.mono hcs fun k hk => hk.2)
 obtain ⟨m, hm⟩ : ∃ m, mayE t = m := ⟨_, rfl⟩
 have HMM := qH hm
 clear hcs hg ht hm
 go_wp2_with fail
 refine (tBuild_any t HM4.out cs w3 V3.out).mono ?_
 rw [HMM.out]
 rintro e w4 ⟨ns, rfl, hbt, hb⟩
 have B4 := qH (B3.out.trans (hb.mono B3.out.size))
 have HN3 := qH hbt.len
 have HN1 := qH hbt.one
 have HBT := qH hbt
 clear hbt hb
 by_cases h0 : m = 0
 ·subst h0
  have hnv := HBT.out.1 HMM.out
  have hlen := fragT_len t 0 []
  have hlo := fragT_lo t 0 []
  obtain ⟨F, hF⟩ : ∃ F, F = fragT t 0 [] := ⟨_, rfl⟩
  rw [← hF] at hnv hlo
  have NV := qH hnv
  have HLO := qH (show ∀ s ∈ F, -9223372036854775808 ≤ s.to from fun s hs => by have := hlo s hs; omega)
  obtain ⟨Af, cf, hns, _⟩ := hnv.len
  subst hns
  clear hnv hlen hlo hF HBT
  by_cases h120 : (120 : Int) < (F.length : Int)
  ·have d2 : decide ((120 : Int) < (F.length : Int)) = true := decide_eq_true h120
   go_wp2_with (first
    | ((with_reducible refine atDst 5 ?_); refine wpList_new rfl 24 rfl i2' _ zz hi2 HN0.out rfl (Below.refl w4.heap.size w4) (Nat.le_refl _) ?_; intro w5 hk hb hs ho; have N5 := qH hk; have B5 := qH hb; clear hk hb hs ho; (try simp only [Act.put, qA, qB, qC]))
    | ((with_reducible refine atStore 24 5 21 ?_); refine wpList_stBlk rfl 24 _ _ rfl w4.heap.size [.slice Af F.length cf, .int .i64 0, .int .i64 1] rfl rfl 24 _ N5.out (size_nfa rfl) (by rw [HNL.out]; rfl) HN1.out B5.out (Nat.le_refl _) ?_; intro w6 hk hb hs ho; have B6 := qH (B4.out.trans (hb.mono B4.out.size)); have c0 := hk.cell 0; clear hk hb hs ho; (try simp only [Act.put, qA, qB, qC])))
   go_ret
   exact ⟨rfl, B6.out⟩
  have d2 : decide ((120 : Int) < (F.length : Int)) = false := decide_eq_false h120
  obtain ⟨mo, hmo⟩ : ∃ mo, mo = (mb : Int) % 60 := ⟨_, rfl⟩
  have HMO := qH (show mo ≤ 1000 by omega)
  obtain ⟨D, hD⟩ : ∃ D, D = (mkN F 0 1 mo).1 := ⟨_, rfl⟩
  obtain ⟨er, her⟩ : ∃ er, er = (mkN F 0 1 mo).2 := ⟨_, rfl⟩
  have HMK := qH (show mkN F 0 1 mo = (D, er) by rw [hD, her])
  have HSM := qH (mkN_small F 0 1 mo HMO.out)
  rw [HMK.out] at HSM
  have HME := qH hmo
  clear hD her h120 hmo
  go_wp2_with (first
   | ((with_reducible refine atDst 5 ?_); refine wpList_new rfl 24 rfl i2' _ zz hi2 HN0.out rfl (Below.refl w4.heap.size w4) (Nat.le_refl _) ?_; intro w5 hk hb hs ho; have N5 := qH hk; have B5 := qH hb; clear hk hb hs ho; (try simp only [Act.put, qA, qB, qC]))
   | ((with_reducible refine atStore 24 5 21 ?_); refine wpList_stBlk rfl 24 _ _ rfl w4.heap.size [.slice Af F.length cf, .int .i64 0, .int .i64 1] rfl rfl 24 _ N5.out (size_nfa rfl) (by rw [HNL.out]; rfl) HN1.out B5.out (Nat.le_refl _) ?_; intro w6 hk hb hs ho; have K6 := qH hk; have V6 := qH (NV.out.below hb); have B6 := qH (B4.out.trans (hb.mono B4.out.size)); have c0 := hk.cell 0; clear hk hb hs ho; (try simp only [Act.put, qA, qB, qC]))
   | ((with_reducible refine atDst 32 ?_); refine wpList_ldArr rfl 24 _ rfl w4.heap.size rfl 24 _ _ K6.out Tryz.underlying24 rfl (size_nfa rfl) ?_; (try simp only [Act.put, qA, qB, qC])))
  rw [← HME.out]
  have hmk := sbMake_any F 0 1 mo _ w6 V6.out HLO.out HMO.out (HT.out.belowG B6.out HT.out.lt)
  refine hmk.mono ?_
  clear hmk d2 c0
  rintro e w7 ⟨c7, rfl, hd, hb⟩
  rw [HMK.out] at hd ⊢
  have K7 := qH (K6.out.below hb K6.out.lt)
  have B7 := qH (B6.out.trans (hb.mono B6.out.size))
  have W7 := qH (V6.out.below hb)
  have V7 := qH (show DfaV w7 c7 D from hd)
  clear hd hb
  go_wp2_with (first
   | ((with_reducible refine atDst 7 ?_); refine wpList_new rfl 31 rfl id _ d0 hid HDZ.out rfl (Below.refl w7.heap.size w7) (Nat.le_refl _) ?_; intro w8 hk hb hs ho; have L8 := qH hk; have B8 := qH hb; clear hk hb hs ho; (try simp only [Act.put, qA, qB, qC]))
   | ((with_reducible refine atStore 31 7 37 ?_); refine wpList_stBlk rfl 31 _ _ rfl w7.heap.size c7 rfl rfl 31 _ L8.out V7.out.size (by rw [HDL.out, V7.out.length]) V7.out.one B8.out (Nat.le_refl _) ?_; intro w9 hk hb hs ho; have L9 := qH hk; have K9 := qH (K7.out.below hb K7.out.lt); have V9 := qH (V7.out.below hb); have W9 := qH (W7.out.below hb); have B9 := qH (B7.out.trans (hb.mono B7.out.size)); clear hk hb hs ho; (try simp only [Act.put, qA, qB, qC]))
   | ((with_reducible refine atDst 40 ?_); refine wpList_ldArr rfl 24 _ rfl w4.heap.size rfl 24 _ _ K9.out Tryz.underlying24 rfl (size_nfa rfl) ?_; (try simp only [Act.put, qA, qB, qC])))
  rw [← HME.out]
  have hmk := refMake9_any F 0 1 mo _ w9 W9.out HMO.out
  refine hmk.mono ?_
  clear hmk
  rintro e wa ⟨ca, rfl, hd, hb⟩
  rw [HMK.out] at hd ⊢
  have La := qH (L9.out.below hb L9.out.lt)
  have Va := qH (V9.out.below hb)
  have Ba := qH (B9.out.trans (hb.mono B9.out.size))
  have Xa := qH (show DfaV wa ca D from hd)
  clear hd hb
  go_wp2_with (first
   | ((with_reducible refine atDst 9 ?_); refine wpList_new rfl 31 rfl id _ d0 hid HDZ.out rfl (Below.refl wa.heap.size wa) (Nat.le_refl _) ?_; intro wb hk hb hs ho; have Mb := qH hk; have Bb := qH hb; clear hk hb hs ho; (try simp only [Act.put, qA, qB, qC]))
   | ((with_reducible refine atStore 31 9 45 ?_); refine wpList_stBlk rfl 31 _ _ rfl wa.heap.size ca rfl rfl 31 _ Mb.out Xa.out.size (by rw [HDL.out, Xa.out.length]) Xa.out.one Bb.out (Nat.le_refl _) ?_; intro wc hk hb hs ho; have Mc := qH hk; have Lc := qH (La.out.below hb La.out.lt); have Vc := qH (Va.out.below hb); have Xc := qH (Xa.out.below hb); have Bc := qH (Ba.out.trans (hb.mono Ba.out.size)); clear hk hb hs ho; (try simp only [Act.put, qA, qB, qC]))
   | ((with_reducible refine atDst 51 ?_); refine wpList_ldArr rfl 31 _ rfl w7.heap.size rfl 31 _ _ Lc.out Tryz.underlying31 rfl Vc.out.size ?_; (try simp only [Act.put, qA, qB, qC]))
   | ((with_reducible refine atDst 52 ?_); refine wpList_ldArr rfl 31 _ rfl wa.heap.size rfl 31 _ _ Mc.out Tryz.underlying31 rfl Xc.out.size ?_; (try simp only [Act.put, qA, qB, qC])))
  refine (refSame11_self D c7 ca wc Vc.out Xc.out HSM.out.1 HSM.out.2.1 HSM.out.2.2).mono ?_
  rintro e wd ⟨rfl, hb⟩
  have Bd := qH (Bc.out.trans (hb.mono Bc.out.size))
  clear hb
  go_wp2_with fail
  go_ret
  exact ⟨rfl, Bd.out⟩
 ·have hne : (m != 0) = true := by simp [h0]
  have hne2 : decide (m = 0) = false := decide_eq_false h0
  go_wp2_with (first
   | ((with_reducible refine atDst 5 ?_); refine wpList_new rfl 24 rfl i2' _ zz hi2 HN0.out rfl (Below.refl w4.heap.size w4) (Nat.le_refl _) ?_; intro w5 hk hb hs ho; have N5 := qH hk; have B5 := qH hb; clear hk hb hs ho; (try simp only [Act.put, qA, qB, qC]))
   | ((with_reducible refine atStore 24 5 21 ?_); refine wpList_stBlk rfl 24 _ _ rfl w4.heap.size ns rfl rfl 24 _ N5.out (size_nfa HN3.out) (by rw [HNL.out, HN3.out]) HN1.out B5.out (Nat.le_refl _) ?_; intro w6 hk hb hs ho; have B6 := qH (B4.out.trans (hb.mono B4.out.size)); clear hk hb hs ho; (try simp only [Act.put, qA, qB, qC])))
  go_ret
  exact ⟨rfl, B6.out⟩
end Go.Proofs.YteadghoojeehlaaGreatDoor
