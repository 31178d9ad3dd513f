/-
  Texts of this proof, put together: ThY. No statement is proved here.
-/
import Derived.Test.YtmcpfaaakmehdaaRBH
namespace Go.Proofs.Ytmcpfaaakmehdaa
open Go.RowKit
set_option linter.unusedSimpArgs false
set_option linter.unusedVariables false
def Bx (w : World) (g : Nat) (ns : List Value) (t : T) : Prop := Blk w g 24 ns ∧ Built w ns t
theorem Bx.below {w w' : World} {g : Nat} {ns : List Value} {t : T} (h : Bx w g ns t) (hb : Below w.heap.size w w') : Bx w' g ns t := ⟨h.1.below hb h.1.lt, h.2.below hb⟩
theorem Bx.run {w : World} {g : Nat} {ns : List Value} {t : T} (h : Bx w g ns t) (h0 : mayE t = 0) (W : List UInt8) (V : Value) (hr : Row w V (bvs W)) :
  Calls Try.prog 13 #[.agg ns.toArray, V] w fun e w' => e = .returned (.bool (lgB t W)) ∧ Below w.heap.size w w' := by
 have h1 := tRun_any (fragT t 0 []) 0 1 ns W V w (h.2.1 h0) hr
 rw [built_run h0] at h1
 exact h1
set_option maxHeartbeats 16000000 in
set_option maxRecDepth 1000000 in
theorem joins_walk (V V2 V3 : Value) (ps qs rs : List UInt8) (w : World) (hr : Row w V (bvs ps)) (hr2 : Row w V2 (bvs qs)) (hr3 : Row w V3 (bvs rs)) :
  Calls Try.prog 8 #[V, V2, V3] w fun e w' => e = .returned (.bool true) ∧ Below w.heap.size w w' := by
 have R := qH hr
 have R2 := qH hr2
 have R3 := qH hr3
 obtain ⟨A, cap, rfl, _⟩ := hr
 obtain ⟨A2, cap2, rfl, _⟩ := hr2
 obtain ⟨A3, cap3, rfl, _⟩ := hr3
 have hbl : (bvs ps).length = ps.length := bvs_length ps
 have hbl2 : (bvs qs).length = qs.length := bvs_length qs
 have hbl3 : (bvs rs).length = rs.length := bvs_length rs
 rw [hbl] at R ⊢
 rw [hbl2] at R2 ⊢
 rw [hbl3] at R3 ⊢
 clear hbl hbl2 hbl3
 by_cases g1 : 25 < ps.length
 ·have i1 : (25 : Int) < (ps.length : Int) := by omega
  have d1 : decide ((25 : Int) < (ps.length : Int)) = true := decide_eq_true i1
  clear g1
  go_enter Try.func8, Try.ntmps8
  go_wp2_with fail
  refine (begun_any w).mono ?_
  rintro e w1 ⟨rfl, hb⟩
  have B1 := qH hb
  clear hb
  go_wp2_with fail
  go_ret
  exact ⟨rfl, B1.out⟩
 have i1 : ¬ ((25 : Int) < (ps.length : Int)) := by omega
 have d1 : decide ((25 : Int) < (ps.length : Int)) = false := decide_eq_false i1
 by_cases g2 : 25 < qs.length
 ·have i2 : (25 : Int) < (qs.length : Int) := by omega
  have d2 : decide ((25 : Int) < (qs.length : Int)) = true := decide_eq_true i2
  clear g1 g2
  go_enter Try.func8, Try.ntmps8
  go_wp2_with fail
  refine (begun_any w).mono ?_
  rintro e w1 ⟨rfl, hb⟩
  have B1 := qH hb
  clear hb
  go_wp2_with fail
  go_ret
  exact ⟨rfl, B1.out⟩
 have i2 : ¬ ((25 : Int) < (qs.length : Int)) := by omega
 have d2 : decide ((25 : Int) < (qs.length : Int)) = false := decide_eq_false i2
 by_cases g3 : 20 < rs.length
 ·have i3 : (20 : Int) < (rs.length : Int) := by omega
  have d3 : decide ((20 : Int) < (rs.length : Int)) = true := decide_eq_true i3
  clear g1 g2 g3
  go_enter Try.func8, Try.ntmps8
  go_wp2_with fail
  refine (begun_any w).mono ?_
  rintro e w1 ⟨rfl, hb⟩
  have B1 := qH hb
  clear hb
  go_wp2_with fail
  go_ret
  exact ⟨rfl, B1.out⟩
 have i3 : ¬ ((20 : Int) < (rs.length : Int)) := by omega
 have d3 : decide ((20 : Int) < (rs.length : Int)) = false := decide_eq_false i3
 have HL := qH (show ps.length ≤ 25 by omega)
 have HL2 := qH (show qs.length ≤ 25 by omega)
 have HL3 := qH (show rs.length ≤ 20 by omega)
 obtain ⟨x, hx⟩ : ∃ t, t = madeT ps := ⟨_, rfl⟩
 obtain ⟨y, hy⟩ : ∃ t, t = madeT qs := ⟨_, rfl⟩
 have HTX := qH hx
 have HTY := qH hy
 have HGX := qH (show good x by rw [hx]; exact madeT_good ps)
 have HGY := qH (show good y by rw [hy]; exact madeT_good qs)
 have HXF := qH (show x.nodes ≤ 161 by rw [hx]; have := madeT_few ps; omega)
 have HYF := qH (show y.nodes ≤ 161 by rw [hy]; have := madeT_few qs; omega)
 have HX3 := qH (show x.nodes ≤ 274877906944 from Nat.le_trans HXF.out (by decide))
 have HM1 := qH (show x.nodes ≤ 1099511627776 from Nat.le_trans HXF.out (by decide))
 have HM2 := qH (show y.nodes ≤ 1099511627776 from Nat.le_trans HYF.out (by decide))
 have hnl : nodesL [x, y] ≤ 322 := by have h1 := HXF.out; have h2 := HYF.out; simp only [nodesL]; omega
 have HN2 := qH (show nodesL [x, y] ≤ 549755813888 by omega)
 have HN3 := qH (show nodesL [x, y] ≤ 549755813887 by omega)
 have HM3 := qH (show (catT [x, y]).nodes ≤ 1099511627776 by have := catT_nodes [x, y]; omega)
 have HM4 := qH (show (altT [x, y]).nodes ≤ 1099511627776 by have := altT_nodes [x, y]; omega)
 have HM5 := qH (show (starT x).nodes ≤ 1099511627776 by have h1 := star_nodes x; have h2 := HXF.out; omega)
 obtain ⟨m1, hm1⟩ : ∃ m, mayE (x) = m := ⟨_, rfl⟩
 have HE1 := qH hm1
 obtain ⟨m2, hm2⟩ : ∃ m, mayE (y) = m := ⟨_, rfl⟩
 have HE2 := qH hm2
 obtain ⟨m3, hm3⟩ : ∃ m, mayE (catT [x, y]) = m := ⟨_, rfl⟩
 have HE3 := qH hm3
 obtain ⟨m4, hm4⟩ : ∃ m, mayE (altT [x, y]) = m := ⟨_, rfl⟩
 have HE4 := qH hm4
 obtain ⟨m5, hm5⟩ : ∃ m, mayE (starT x) = m := ⟨_, rfl⟩
 have HE5 := qH hm5
 clear hm1 hm2 hm3 hm4 hm5
 obtain ⟨i0, hi0, hz0, hz1, hz2⟩ := inf_rx'
 have HZ1 := qH hz0
 obtain ⟨z, hz⟩ : ∃ z, z = rxc 0 zeroS (.slice none 0 0) := ⟨_, rfl⟩
 have HZL := qH (show z.length = 6 by rw [hz]; rfl)
 have HZ0 := qH (show i0.zero = some (.agg z.toArray) by rw [hz]; exact hz0)
 obtain ⟨i2', hi2, hn0, hs2, hy2⟩ := infoP inf_nfa
 obtain ⟨zz, hzz⟩ : ∃ z : List Value, z = [.slice none 0 0, .int .i64 0, .int .i64 0] := ⟨_, rfl⟩
 have HNL := qH (show zz.length = 3 by rw [hzz]; rfl)
 have HN0 := qH (show i2'.zero = some (.agg zz.toArray) by rw [hzz]; exact hn0)
 clear hz hz0 hz2 g1 g2 g3 hx hy hnl hzz hn0 hs2 hy2
 go_enter Try.func8, Try.ntmps8
 go_wp2_with fail
 refine (begun_any w).mono ?_
 rintro e w1 ⟨rfl, hb⟩
 have B1 := qH hb
 clear hb
 go_wp2_with fail
 refine (made_any _ ps w1 (R.out.below B1.out) (by have := HL.out; omega)).mono ?_
 rintro e w2 ⟨rfl, hb, hp⟩
 have P2 := qH hp
 have B2 := qH (B1.out.trans (hb.mono B1.out.size))
 have S1w := qH B1.out.size
 clear hb hp
 go_wp2_with fail
 refine (pickRx_any w1.heap.size _ ps w2 P2.out).mono ?_
 rintro e w3 ⟨cs, rfl, hcs, hg⟩
 have B3 := qH (B2.out.trans ((grown_belowG hg P2.out.blk.lt).mono S1w.out))
 rw [← HTX.out] at hcs
 have X3 := qH (show RxV w3.heap.size w3 cs x from RxD.mono hcs fun k hk => hk.2)
 have C6 := qH hcs.length
 have C1 := qH (show cs.all (·.oneCell') = true from List.all_eq_true.2 (RxD.one hcs))
 clear hcs hg P2 S1w
 go_wp2_with fail
 refine (made_any _ qs w3 (R2.out.below B3.out) (by have := HL2.out; omega)).mono ?_
 rintro e w4 ⟨rfl, hb, hp⟩
 have P4 := qH hp
 have B4 := qH hb
 clear hb hp
 go_wp2_with fail
 refine (pickRx_any w3.heap.size _ qs w4 P4.out).mono ?_
 rintro e w5 ⟨ds, rfl, hds, hg⟩
 have G5 := qH (B4.out.trans (grown_belowG hg P4.out.blk.lt))
 have B5 := qH (B3.out.trans (G5.out.mono B3.out.size))
 rw [← HTY.out] at hds
 have D6 := qH hds.length
 have D1 := qH (show ds.all (·.oneCell') = true from List.all_eq_true.2 (RxD.one hds))
 have Y5 := qH (show RxV w5.heap.size w5 ds y from RxD.mono hds fun k hk => hk.2)
 have X5 := qH (RxV.mono (X3.out.stay G5.out) G5.out.size)
 clear hds hg P4 B4 G5 X3
 go_wp2_with fail
 refine (made_any _ rs w5 (R3.out.below B5.out) (by have := HL3.out; omega)).mono ?_
 rintro e w6 ⟨rfl, hb, hp⟩
 have P6 := qH hp
 have B6 := qH hb
 clear hb hp
 go_wp2_with fail
 refine (pickWord_any w5.heap.size _ rs 0 8 (by decide) w6 P6.out).mono ?_
 rintro e w7 ⟨v6, W, rfl, hr6, hw6, hg⟩
 have G7 := qH (B6.out.trans (grown_belowG hg P6.out.blk.lt))
 have B7 := qH (B5.out.trans (G7.out.mono B5.out.size))
 have X7 := qH (RxV.mono (X5.out.stay G7.out) G7.out.size)
 have Y7 := qH (RxV.mono (Y5.out.stay G7.out) G7.out.size)
 have R7 := qH hr6
 have HW := qH hw6
 have HW2 := qH (show W.length ≤ 200 by omega)
 clear hr6 hw6 hg P6 B6 G7
 obtain ⟨A6, cap6, rfl, e1, e2, e0, e3⟩ := R7.out
 have hbw : (bvs W).length = W.length := bvs_length W
 rw [hbw] at R7 e1 ⊢
 have HCAP := qH e1
 clear e1 e2 e0 e3 hbw
 go_wp2_with (first
  | ((with_reducible refine atDst 7 ?_); refine wpList_new rfl 40 rfl i0 _ z hi0 HZ0.out rfl (Below.refl w7.heap.size w7) (Nat.le_refl _) ?_; intro w8 hk hb hs ho; have L8 := qH hk; have B8 := qH hb; clear hk hb hs ho; (try simp only [Act.put, qA, qB, qC]))
  | ((with_reducible refine atDst 8 ?_); refine wpList_new rfl 40 rfl i0 _ z hi0 HZ0.out rfl (Below.refl w8.heap.size w8) (Nat.le_refl _) ?_; intro w9 hk hb hs ho; have M9 := qH hk; have L9 := qH (L8.out.below hb L8.out.lt); have B9 := qH (B8.out.trans (hb.mono B8.out.size)); have NE := qH (show w7.heap.size ≠ w8.heap.size from Nat.ne_of_lt L8.out.lt); clear hk hb hs ho; (try simp only [Act.put, qA, qB, qC]))
  | ((with_reducible refine atStore 40 7 41 ?_); refine wpList_stBlk rfl 40 _ _ rfl w7.heap.size cs rfl rfl 40 _ L9.out (size_rx C6.out) (by rw [HZL.out, C6.out]) C1.out B9.out (Nat.le_refl _) ?_; intro w10 hk hb hs ho; have L10 := qH hk; have B10 := qH hb; have M10 := qH (show Blk w10 w8.heap.size 40 z from (ho _ (Ne.symm NE.out)).trans M9.out); clear hk hb hs ho; (try simp only [Act.put, qA, qB, qC]))
  | ((with_reducible refine atStore 40 8 44 ?_); refine wpList_stBlk rfl 40 _ _ rfl w8.heap.size ds rfl rfl 40 _ M10.out (size_rx D6.out) (by rw [HZL.out, D6.out]) D1.out B10.out (Nat.le_of_lt L8.out.lt) ?_; intro w11 hk hb hs ho; have M11 := qH hk; have L11 := qH (show Blk w11 w7.heap.size 40 cs from (ho _ NE.out).trans L10.out); have B11 := qH (B7.out.trans (hb.mono B7.out.size)); have X11 := qH (RxV.mono (X7.out.stay hb) hb.size); have Y11 := qH (RxV.mono (Y7.out.stay hb) hb.size); have R11 := qH (R7.out.below hb); clear hk hb hs ho; (try simp only [Act.put, qA, qB, qC]))
  | ((with_reducible refine atDst 49 ?_); refine wpList_ldBlk rfl 40 _ rfl w7.heap.size rfl 40 _ _ L11.out Try.underlying40 rfl (size_rx C6.out) ?_; (try simp only [Act.put, qA, qB, qC])))
 have LX := L11
 have MX := M11
 have XX := X11
 have YX := Y11
 have RX := R11
 have BX := B11
 clear L11 M11 X11 Y11 R11 B11 X7 Y7 R7 B7 B8 B9 B10 L9 L10 M9 M10 X5 Y5 B5 B3 B2
 refine (tBuild_any (x) HM1.out cs w11 XX.out).mono ?_
 rw [HE1.out]
 rintro e wa1 ⟨ns1, rfl, hbt, hb⟩
 replace LX := qH (LX.out.below hb LX.out.lt)
 replace MX := qH (MX.out.below hb MX.out.lt)
 replace XX := qH (RxV.mono (XX.out.stay hb) (hb).size)
 replace YX := qH (RxV.mono (YX.out.stay hb) (hb).size)
 replace RX := qH (RX.out.below hb)
 replace BX := qH (BX.out.trans ((hb).mono BX.out.size))
 have N31 := qH hbt.len
 have N11 := qH hbt.one
 have BT1 := qH hbt
 clear hbt hb
 go_wp2_with (first
  | ((with_reducible refine atDst 10 ?_); refine wpList_new rfl 24 rfl i2' _ zz hi2 HN0.out rfl (Below.refl wa1.heap.size wa1) (Nat.le_refl _) ?_; intro wb1 hk hb hs ho; have NB := qH hk; have BN := qH hb; clear hk hb hs ho; (try simp only [Act.put, qA, qB, qC]))
  | ((with_reducible refine atStore 24 10 51 ?_); refine wpList_stBlk rfl 24 _ _ rfl wa1.heap.size ns1 rfl rfl 24 _ NB.out (size_nfa N31.out) (by rw [HNL.out, N31.out]) N11.out BN.out (Nat.le_refl _) ?_; intro wc1 hk hb hs ho; have P1 := qH (show Bx wc1 wa1.heap.size ns1 (x) from ⟨hk, BT1.out.below hb⟩); replace LX := qH (LX.out.below hb LX.out.lt); replace MX := qH (MX.out.below hb MX.out.lt); replace XX := qH (RxV.mono (XX.out.stay hb) (hb).size); replace YX := qH (RxV.mono (YX.out.stay hb) (hb).size); replace RX := qH (RX.out.below hb); replace BX := qH (BX.out.trans ((hb).mono BX.out.size)); clear hk hb hs ho NB BN BT1; (try simp only [Act.put, qA, qB, qC]))
  | ((with_reducible refine atDst 54 ?_); refine wpList_ldBlk rfl 40 _ rfl w8.heap.size rfl 40 _ _ MX.out Try.underlying40 rfl (size_rx D6.out) ?_; (try simp only [Act.put, qA, qB, qC])))
 refine (tBuild_any (y) HM2.out ds wc1 YX.out).mono ?_
 rw [HE2.out]
 rintro e wa2 ⟨ns2, rfl, hbt, hb⟩
 replace LX := qH (LX.out.below hb LX.out.lt)
 replace MX := qH (MX.out.below hb MX.out.lt)
 replace XX := qH (RxV.mono (XX.out.stay hb) (hb).size)
 replace YX := qH (RxV.mono (YX.out.stay hb) (hb).size)
 replace RX := qH (RX.out.below hb)
 replace BX := qH (BX.out.trans ((hb).mono BX.out.size))
 replace P1 := qH (P1.out.below hb)
 have N32 := qH hbt.len
 have N12 := qH hbt.one
 have BT2 := qH hbt
 clear hbt hb
 go_wp2_with (first
  | ((with_reducible refine atDst 12 ?_); refine wpList_new rfl 24 rfl i2' _ zz hi2 HN0.out rfl (Below.refl wa2.heap.size wa2) (Nat.le_refl _) ?_; intro wb2 hk hb hs ho; have NB := qH hk; have BN := qH hb; clear hk hb hs ho; (try simp only [Act.put, qA, qB, qC]))
  | ((with_reducible refine atStore 24 12 56 ?_); refine wpList_stBlk rfl 24 _ _ rfl wa2.heap.size ns2 rfl rfl 24 _ NB.out (size_nfa N32.out) (by rw [HNL.out, N32.out]) N12.out BN.out (Nat.le_refl _) ?_; intro wc2 hk hb hs ho; have P2 := qH (show Bx wc2 wa2.heap.size ns2 (y) from ⟨hk, BT2.out.below hb⟩); replace LX := qH (LX.out.below hb LX.out.lt); replace MX := qH (MX.out.below hb MX.out.lt); replace XX := qH (RxV.mono (XX.out.stay hb) (hb).size); replace YX := qH (RxV.mono (YX.out.stay hb) (hb).size); replace RX := qH (RX.out.below hb); replace BX := qH (BX.out.trans ((hb).mono BX.out.size)); replace P1 := qH (P1.out.below hb); clear hk hb hs ho NB BN BT2; (try simp only [Act.put, qA, qB, qC]))
  | ((with_reducible refine atDst 58 ?_); refine wpList_ldBlk rfl 40 _ rfl w7.heap.size rfl 40 _ _ LX.out Try.underlying40 rfl (size_rx C6.out) ?_; (try simp only [Act.put, qA, qB, qC]))
  | ((with_reducible refine atDst 59 ?_); refine wpList_ldBlk rfl 40 _ rfl w8.heap.size rfl 40 _ _ MX.out Try.underlying40 rfl (size_rx D6.out) ?_; (try simp only [Act.put, qA, qB, qC]))
  | ((with_reducible refine atDst 60 ?_); refine wpList_bldT2 rfl 38 40 (.tmp 58) (.tmp 59) rfl i0 Try.underlying38 hi0 HZ1.out hz1 cs ds C6.out D6.out rfl rfl ?_; intro wt hk hb hs; replace LX := qH (LX.out.below hb LX.out.lt); replace MX := qH (MX.out.below hb MX.out.lt); replace XX := qH (RxV.mono (XX.out.stay hb) (hb).size); replace YX := qH (RxV.mono (YX.out.stay hb) (hb).size); replace RX := qH (RX.out.below hb); replace BX := qH (BX.out.trans ((hb).mono BX.out.size)); replace P1 := qH (P1.out.below hb); replace P2 := qH (P2.out.below hb); have H2T := qH (row_two hk XX.out YX.out hk.lt); clear hk hb hs; (try simp only [Act.put, qA, qB, qC])))
 refine (refCat_any [x, y] _ wt H2T.out HN2.out).mono ?_
 rintro e wd3 ⟨es, rfl, hes, hb⟩
 have E3 := qH (show RxV wd3.heap.size wd3 es (catT [x, y]) from RxD.mono hes fun k hk => hk.2)
 replace LX := qH (LX.out.below hb LX.out.lt)
 replace MX := qH (MX.out.below hb MX.out.lt)
 replace XX := qH (RxV.mono (XX.out.stay hb) (hb).size)
 replace YX := qH (RxV.mono (YX.out.stay hb) (hb).size)
 replace RX := qH (RX.out.below hb)
 replace BX := qH (BX.out.trans ((hb).mono BX.out.size))
 replace P1 := qH (P1.out.below hb)
 replace P2 := qH (P2.out.below hb)
 replace H2T := qH ((H2T.out.below hb).monoX (hb).size)
 clear hes hb
 go_wp2_with fail
 refine (tBuild_any (catT [x, y]) HM3.out es wd3 E3.out).mono ?_
 rw [HE3.out]
 rintro e wa3 ⟨ns3, rfl, hbt, hb⟩
 replace LX := qH (LX.out.below hb LX.out.lt)
 replace MX := qH (MX.out.below hb MX.out.lt)
 replace XX := qH (RxV.mono (XX.out.stay hb) (hb).size)
 replace YX := qH (RxV.mono (YX.out.stay hb) (hb).size)
 replace RX := qH (RX.out.below hb)
 replace BX := qH (BX.out.trans ((hb).mono BX.out.size))
 replace P1 := qH (P1.out.below hb)
 replace P2 := qH (P2.out.below hb)
 replace H2T := qH ((H2T.out.below hb).monoX (hb).size)
 have N33 := qH hbt.len
 have N13 := qH hbt.one
 have BT3 := qH hbt
 clear hbt hb
 go_wp2_with (first
  | ((with_reducible refine atDst 15 ?_); refine wpList_new rfl 24 rfl i2' _ zz hi2 HN0.out rfl (Below.refl wa3.heap.size wa3) (Nat.le_refl _) ?_; intro wb3 hk hb hs ho; have NB := qH hk; have BN := qH hb; clear hk hb hs ho; (try simp only [Act.put, qA, qB, qC]))
  | ((with_reducible refine atStore 24 15 65 ?_); refine wpList_stBlk rfl 24 _ _ rfl wa3.heap.size ns3 rfl rfl 24 _ NB.out (size_nfa N33.out) (by rw [HNL.out, N33.out]) N13.out BN.out (Nat.le_refl _) ?_; intro wc3 hk hb hs ho; have P3 := qH (show Bx wc3 wa3.heap.size ns3 (catT [x, y]) from ⟨hk, BT3.out.below hb⟩); replace LX := qH (LX.out.below hb LX.out.lt); replace MX := qH (MX.out.below hb MX.out.lt); replace XX := qH (RxV.mono (XX.out.stay hb) (hb).size); replace YX := qH (RxV.mono (YX.out.stay hb) (hb).size); replace RX := qH (RX.out.below hb); replace BX := qH (BX.out.trans ((hb).mono BX.out.size)); replace P1 := qH (P1.out.below hb); replace P2 := qH (P2.out.below hb); replace H2T := qH ((H2T.out.below hb).monoX (hb).size); clear hk hb hs ho NB BN BT3; (try simp only [Act.put, qA, qB, qC])))
 refine (refAlt_any [x, y] _ wc3 H2T.out HN3.out).mono ?_
 rintro e wd4 ⟨fs, rfl, hes, hb⟩
 have E4 := qH (show RxV wd4.heap.size wd4 fs (altT [x, y]) from RxD.mono hes fun k hk => hk.2)
 replace LX := qH (LX.out.below hb LX.out.lt)
 replace MX := qH (MX.out.below hb MX.out.lt)
 replace XX := qH (RxV.mono (XX.out.stay hb) (hb).size)
 replace YX := qH (RxV.mono (YX.out.stay hb) (hb).size)
 replace RX := qH (RX.out.below hb)
 replace BX := qH (BX.out.trans ((hb).mono BX.out.size))
 replace P1 := qH (P1.out.below hb)
 replace P2 := qH (P2.out.below hb)
 replace P3 := qH (P3.out.below hb)
 replace H2T := qH ((H2T.out.below hb).monoX (hb).size)
 clear hes hb
 go_wp2_with fail
 refine (tBuild_any (altT [x, y]) HM4.out fs wd4 E4.out).mono ?_
 rw [HE4.out]
 rintro e wa4 ⟨ns4, rfl, hbt, hb⟩
 replace LX := qH (LX.out.below hb LX.out.lt)
 replace MX := qH (MX.out.below hb MX.out.lt)
 replace XX := qH (RxV.mono (XX.out.stay hb) (hb).size)
 replace YX := qH (RxV.mono (YX.out.stay hb) (hb).size)
 replace RX := qH (RX.out.below hb)
 replace BX := qH (BX.out.trans ((hb).mono BX.out.size))
 replace P1 := qH (P1.out.below hb)
 replace P2 := qH (P2.out.below hb)
 replace P3 := qH (P3.out.below hb)
 replace H2T := qH ((H2T.out.below hb).monoX (hb).size)
 have N34 := qH hbt.len
 have N14 := qH hbt.one
 have BT4 := qH hbt
 clear hbt hb
 go_wp2_with (first
  | ((with_reducible refine atDst 17 ?_); refine wpList_new rfl 24 rfl i2' _ zz hi2 HN0.out rfl (Below.refl wa4.heap.size wa4) (Nat.le_refl _) ?_; intro wb4 hk hb hs ho; have NB := qH hk; have BN := qH hb; clear hk hb hs ho; (try simp only [Act.put, qA, qB, qC]))
  | ((with_reducible refine atStore 24 17 71 ?_); refine wpList_stBlk rfl 24 _ _ rfl wa4.heap.size ns4 rfl rfl 24 _ NB.out (size_nfa N34.out) (by rw [HNL.out, N34.out]) N14.out BN.out (Nat.le_refl _) ?_; intro wc4 hk hb hs ho; have P4 := qH (show Bx wc4 wa4.heap.size ns4 (altT [x, y]) from ⟨hk, BT4.out.below hb⟩); replace LX := qH (LX.out.below hb LX.out.lt); replace MX := qH (MX.out.below hb MX.out.lt); replace XX := qH (RxV.mono (XX.out.stay hb) (hb).size); replace YX := qH (RxV.mono (YX.out.stay hb) (hb).size); replace RX := qH (RX.out.below hb); replace BX := qH (BX.out.trans ((hb).mono BX.out.size)); replace P1 := qH (P1.out.below hb); replace P2 := qH (P2.out.below hb); replace P3 := qH (P3.out.below hb); replace H2T := qH ((H2T.out.below hb).monoX (hb).size); clear hk hb hs ho NB BN BT4; (try simp only [Act.put, qA, qB, qC]))
  | ((with_reducible refine atDst 74 ?_); refine wpList_ldBlk rfl 40 _ rfl w7.heap.size rfl 40 _ _ LX.out Try.underlying40 rfl (size_rx C6.out) ?_; (try simp only [Act.put, qA, qB, qC])))
 refine (refStar_any x cs wc4 (D := fun k => k < wc4.heap.size) (fun k hk => hk) XX.out HX3.out HGX.out).mono ?_
 rintro e wd5 ⟨gs, rfl, hes, hb⟩
 have E5 := qH (show RxV wd5.heap.size wd5 gs (starT x) from RxD.mono hes fun k hk => hk.2)
 replace LX := qH (LX.out.below hb LX.out.lt)
 replace MX := qH (MX.out.below hb MX.out.lt)
 replace XX := qH (RxV.mono (XX.out.stay hb) (hb).size)
 replace YX := qH (RxV.mono (YX.out.stay hb) (hb).size)
 replace RX := qH (RX.out.below hb)
 replace BX := qH (BX.out.trans ((hb).mono BX.out.size))
 replace P1 := qH (P1.out.below hb)
 replace P2 := qH (P2.out.below hb)
 replace P3 := qH (P3.out.below hb)
 replace P4 := qH (P4.out.below hb)
 replace H2T := qH ((H2T.out.below hb).monoX (hb).size)
 clear hes hb
 go_wp2_with fail
 refine (tBuild_any (starT x) HM5.out gs wd5 E5.out).mono ?_
 rw [HE5.out]
 rintro e wa5 ⟨ns5, rfl, hbt, hb⟩
 replace LX := qH (LX.out.below hb LX.out.lt)
 replace MX := qH (MX.out.below hb MX.out.lt)
 replace XX := qH (RxV.mono (XX.out.stay hb) (hb).size)
 replace YX := qH (RxV.mono (YX.out.stay hb) (hb).size)
 replace RX := qH (RX.out.below hb)
 replace BX := qH (BX.out.trans ((hb).mono BX.out.size))
 replace P1 := qH (P1.out.below hb)
 replace P2 := qH (P2.out.below hb)
 replace P3 := qH (P3.out.below hb)
 replace P4 := qH (P4.out.below hb)
 replace H2T := qH ((H2T.out.below hb).monoX (hb).size)
 have N35 := qH hbt.len
 have N15 := qH hbt.one
 have BT5 := qH hbt
 clear hbt hb
 by_cases h1 : m1 ≠ 0
 ·
  have n1 : (m1 != 0) = true := by simp [h1]
  clear h1
  go_wp2_with (first
    | ((with_reducible refine atDst 19 ?_); refine wpList_new rfl 24 rfl i2' _ zz hi2 HN0.out rfl (Below.refl wa5.heap.size wa5) (Nat.le_refl _) ?_; intro wb5 hk hb hs ho; have NB := qH hk; have BN := qH hb; clear hk hb hs ho; (try simp only [Act.put, qA, qB, qC]))
    | ((with_reducible refine atStore 24 19 77 ?_); refine wpList_stBlk rfl 24 _ _ rfl wa5.heap.size ns5 rfl rfl 24 _ NB.out (size_nfa N35.out) (by rw [HNL.out, N35.out]) N15.out BN.out (Nat.le_refl _) ?_; intro wc5 hk hb hs ho; have P5 := qH (show Bx wc5 wa5.heap.size ns5 (starT x) from ⟨hk, BT5.out.below hb⟩); replace LX := qH (LX.out.below hb LX.out.lt); replace MX := qH (MX.out.below hb MX.out.lt); replace XX := qH (RxV.mono (XX.out.stay hb) (hb).size); replace YX := qH (RxV.mono (YX.out.stay hb) (hb).size); replace RX := qH (RX.out.below hb); replace BX := qH (BX.out.trans ((hb).mono BX.out.size)); replace P1 := qH (P1.out.below hb); replace P2 := qH (P2.out.below hb); replace P3 := qH (P3.out.below hb); replace P4 := qH (P4.out.below hb); replace H2T := qH ((H2T.out.below hb).monoX (hb).size); clear hk hb hs ho NB BN BT5; (try simp only [Act.put, qA, qB, qC])))
  go_ret
  exact ⟨rfl, BX.out⟩
 have n1 : (m1 != 0) = false := by simp [Classical.not_not.1 h1]
 replace HE1 := qH (HE1.out.trans (Classical.not_not.1 h1))
 clear h1
 by_cases h2 : m2 ≠ 0
 ·
  have n2 : (m2 != 0) = true := by simp [h2]
  clear h2
  go_wp2_with (first
    | ((with_reducible refine atDst 19 ?_); refine wpList_new rfl 24 rfl i2' _ zz hi2 HN0.out rfl (Below.refl wa5.heap.size wa5) (Nat.le_refl _) ?_; intro wb5 hk hb hs ho; have NB := qH hk; have BN := qH hb; clear hk hb hs ho; (try simp only [Act.put, qA, qB, qC]))
    | ((with_reducible refine atStore 24 19 77 ?_); refine wpList_stBlk rfl 24 _ _ rfl wa5.heap.size ns5 rfl rfl 24 _ NB.out (size_nfa N35.out) (by rw [HNL.out, N35.out]) N15.out BN.out (Nat.le_refl _) ?_; intro wc5 hk hb hs ho; have P5 := qH (show Bx wc5 wa5.heap.size ns5 (starT x) from ⟨hk, BT5.out.below hb⟩); replace LX := qH (LX.out.below hb LX.out.lt); replace MX := qH (MX.out.below hb MX.out.lt); replace XX := qH (RxV.mono (XX.out.stay hb) (hb).size); replace YX := qH (RxV.mono (YX.out.stay hb) (hb).size); replace RX := qH (RX.out.below hb); replace BX := qH (BX.out.trans ((hb).mono BX.out.size)); replace P1 := qH (P1.out.below hb); replace P2 := qH (P2.out.below hb); replace P3 := qH (P3.out.below hb); replace P4 := qH (P4.out.below hb); replace H2T := qH ((H2T.out.below hb).monoX (hb).size); clear hk hb hs ho NB BN BT5; (try simp only [Act.put, qA, qB, qC])))
  go_ret
  exact ⟨rfl, BX.out⟩
 have n2 : (m2 != 0) = false := by simp [Classical.not_not.1 h2]
 replace HE2 := qH (HE2.out.trans (Classical.not_not.1 h2))
 clear h2
 by_cases h3 : m3 ≠ 0
 ·
  have n3 : (m3 != 0) = true := by simp [h3]
  clear h3
  go_wp2_with (first
    | ((with_reducible refine atDst 19 ?_); refine wpList_new rfl 24 rfl i2' _ zz hi2 HN0.out rfl (Below.refl wa5.heap.size wa5) (Nat.le_refl _) ?_; intro wb5 hk hb hs ho; have NB := qH hk; have BN := qH hb; clear hk hb hs ho; (try simp only [Act.put, qA, qB, qC]))
    | ((with_reducible refine atStore 24 19 77 ?_); refine wpList_stBlk rfl 24 _ _ rfl wa5.heap.size ns5 rfl rfl 24 _ NB.out (size_nfa N35.out) (by rw [HNL.out, N35.out]) N15.out BN.out (Nat.le_refl _) ?_; intro wc5 hk hb hs ho; have P5 := qH (show Bx wc5 wa5.heap.size ns5 (starT x) from ⟨hk, BT5.out.below hb⟩); replace LX := qH (LX.out.below hb LX.out.lt); replace MX := qH (MX.out.below hb MX.out.lt); replace XX := qH (RxV.mono (XX.out.stay hb) (hb).size); replace YX := qH (RxV.mono (YX.out.stay hb) (hb).size); replace RX := qH (RX.out.below hb); replace BX := qH (BX.out.trans ((hb).mono BX.out.size)); replace P1 := qH (P1.out.below hb); replace P2 := qH (P2.out.below hb); replace P3 := qH (P3.out.below hb); replace P4 := qH (P4.out.below hb); replace H2T := qH ((H2T.out.below hb).monoX (hb).size); clear hk hb hs ho NB BN BT5; (try simp only [Act.put, qA, qB, qC])))
  go_ret
  exact ⟨rfl, BX.out⟩
 have n3 : (m3 != 0) = false := by simp [Classical.not_not.1 h3]
 replace HE3 := qH (HE3.out.trans (Classical.not_not.1 h3))
 clear h3
 by_cases h4 : m4 ≠ 0
 ·
  have n4 : (m4 != 0) = true := by simp [h4]
  clear h4
  go_wp2_with (first
    | ((with_reducible refine atDst 19 ?_); refine wpList_new rfl 24 rfl i2' _ zz hi2 HN0.out rfl (Below.refl wa5.heap.size wa5) (Nat.le_refl _) ?_; intro wb5 hk hb hs ho; have NB := qH hk; have BN := qH hb; clear hk hb hs ho; (try simp only [Act.put, qA, qB, qC]))
    | ((with_reducible refine atStore 24 19 77 ?_); refine wpList_stBlk rfl 24 _ _ rfl wa5.heap.size ns5 rfl rfl 24 _ NB.out (size_nfa N35.out) (by rw [HNL.out, N35.out]) N15.out BN.out (Nat.le_refl _) ?_; intro wc5 hk hb hs ho; have P5 := qH (show Bx wc5 wa5.heap.size ns5 (starT x) from ⟨hk, BT5.out.below hb⟩); replace LX := qH (LX.out.below hb LX.out.lt); replace MX := qH (MX.out.below hb MX.out.lt); replace XX := qH (RxV.mono (XX.out.stay hb) (hb).size); replace YX := qH (RxV.mono (YX.out.stay hb) (hb).size); replace RX := qH (RX.out.below hb); replace BX := qH (BX.out.trans ((hb).mono BX.out.size)); replace P1 := qH (P1.out.below hb); replace P2 := qH (P2.out.below hb); replace P3 := qH (P3.out.below hb); replace P4 := qH (P4.out.below hb); replace H2T := qH ((H2T.out.below hb).monoX (hb).size); clear hk hb hs ho NB BN BT5; (try simp only [Act.put, qA, qB, qC])))
  go_ret
  exact ⟨rfl, BX.out⟩
 have n4 : (m4 != 0) = false := by simp [Classical.not_not.1 h4]
 replace HE4 := qH (HE4.out.trans (Classical.not_not.1 h4))
 clear h4
 by_cases h5 : m5 ≠ 0
 ·
  have n5 : (m5 != 0) = true := by simp [h5]
  clear h5
  go_wp2_with (first
    | ((with_reducible refine atDst 19 ?_); refine wpList_new rfl 24 rfl i2' _ zz hi2 HN0.out rfl (Below.refl wa5.heap.size wa5) (Nat.le_refl _) ?_; intro wb5 hk hb hs ho; have NB := qH hk; have BN := qH hb; clear hk hb hs ho; (try simp only [Act.put, qA, qB, qC]))
    | ((with_reducible refine atStore 24 19 77 ?_); refine wpList_stBlk rfl 24 _ _ rfl wa5.heap.size ns5 rfl rfl 24 _ NB.out (size_nfa N35.out) (by rw [HNL.out, N35.out]) N15.out BN.out (Nat.le_refl _) ?_; intro wc5 hk hb hs ho; have P5 := qH (show Bx wc5 wa5.heap.size ns5 (starT x) from ⟨hk, BT5.out.below hb⟩); replace LX := qH (LX.out.below hb LX.out.lt); replace MX := qH (MX.out.below hb MX.out.lt); replace XX := qH (RxV.mono (XX.out.stay hb) (hb).size); replace YX := qH (RxV.mono (YX.out.stay hb) (hb).size); replace RX := qH (RX.out.below hb); replace BX := qH (BX.out.trans ((hb).mono BX.out.size)); replace P1 := qH (P1.out.below hb); replace P2 := qH (P2.out.below hb); replace P3 := qH (P3.out.below hb); replace P4 := qH (P4.out.below hb); replace H2T := qH ((H2T.out.below hb).monoX (hb).size); clear hk hb hs ho NB BN BT5; (try simp only [Act.put, qA, qB, qC])))
  go_ret
  exact ⟨rfl, BX.out⟩
 have n5 : (m5 != 0) = false := by simp [Classical.not_not.1 h5]
 replace HE5 := qH (HE5.out.trans (Classical.not_not.1 h5))
 clear h5
 have HE3' := HE3
 have HE4' := HE4
 clear HE3 HE4 E3 E4 E5
 go_wp2_with (first
   | ((with_reducible refine atDst 19 ?_); refine wpList_new rfl 24 rfl i2' _ zz hi2 HN0.out rfl (Below.refl wa5.heap.size wa5) (Nat.le_refl _) ?_; intro wb5 hk hb hs ho; have NB := qH hk; have BN := qH hb; clear hk hb hs ho; (try simp only [Act.put, qA, qB, qC]))
   | ((with_reducible refine atStore 24 19 77 ?_); refine wpList_stBlk rfl 24 _ _ rfl wa5.heap.size ns5 rfl rfl 24 _ NB.out (size_nfa N35.out) (by rw [HNL.out, N35.out]) N15.out BN.out (Nat.le_refl _) ?_; intro wc5 hk hb hs ho; have P5 := qH (show Bx wc5 wa5.heap.size ns5 (starT x) from ⟨hk, BT5.out.below hb⟩); replace LX := qH (LX.out.below hb LX.out.lt); replace MX := qH (MX.out.below hb MX.out.lt); replace XX := qH (RxV.mono (XX.out.stay hb) (hb).size); replace YX := qH (RxV.mono (YX.out.stay hb) (hb).size); replace RX := qH (RX.out.below hb); replace BX := qH (BX.out.trans ((hb).mono BX.out.size)); replace P1 := qH (P1.out.below hb); replace P2 := qH (P2.out.below hb); replace P3 := qH (P3.out.below hb); replace P4 := qH (P4.out.below hb); replace H2T := qH ((H2T.out.below hb).monoX (hb).size); clear hk hb hs ho NB BN BT5; (try simp only [Act.put, qA, qB, qC])))
 clear n1 n2 n3 n4 n5
 have HQ := BX
 clear H2T
 go_loopw [21, 22, 23] (fun c s i wl => ∃ (j : Nat), j ≤ W.length + 1 ∧ i = .int .i64 (j : Int) ∧ c = .bool (catJ x y W j) ∧ s = .bool (starJ x W j) ∧ Below wc5.heap.size wc5 wl) (fun _ _ i _ => W.length + 1 - (intOf i).toNat)
 case atStart => exact ⟨0, Nat.zero_le _, by simp, rfl, rfl, Below.refl _ _⟩
 case round =>
  obtain ⟨j, hj, rfl, rfl, rfl, hb⟩ := hrel
  have BQ := qH hb
  replace RX := qH (RX.out.below hb)
  have BXW := qH (BX.out.trans (hb.mono BX.out.size))
  replace P1 := qH (P1.out.below hb)
  replace P2 := qH (P2.out.below hb)
  replace P3 := qH (P3.out.below hb)
  replace P4 := qH (P4.out.below hb)
  replace P5 := qH (P5.out.below hb)
  clear hb LX MX XX YX BX HQ
  by_cases hjl : j ≤ W.length
  ·have j1 : (j : Int) ≤ (W.length : Int) := Int.ofNat_le.2 hjl
   have HJL := qH hjl
   have HJ1 := qH (show j + 1 ≤ W.length + 1 by omega)
   have HMS := qH (sub_next (show j < W.length + 1 by omega))
   have HJC := qH (show j ≤ cap6 from Nat.le_trans hjl HCAP.out)
   have hj62 : j ≤ 4611686018427387904 := by have := HW2.out; omega
   have HE3 := qH (wrap_one j hj62)
   have HE4 := qH (wrap_one' j hj62)
   obtain ⟨c, hc⟩ : ∃ c, c = catJ x y W j := ⟨_, rfl⟩
   obtain ⟨s, hs⟩ : ∃ s, s = starJ x W j := ⟨_, rfl⟩
   obtain ⟨ix, hix⟩ : ∃ s, s = lgB x (W.take j) := ⟨_, rfl⟩
   obtain ⟨iy, hiy⟩ : ∃ s, s = lgB y (W.drop j) := ⟨_, rfl⟩
   obtain ⟨iz, hiz⟩ : ∃ s, s = lgB (starT x) (W.drop j) := ⟨_, rfl⟩
   have HC := qH hc
   have HS := qH hs
   have HIX0 := qH hix
   have HIY := qH hiy
   have HIZ := qH hiz
   rw [← hc, ← hs]
   clear hc hs hix hiy hiz hj hjl hj62
   go_wp2_with fail
   refine sx_startB (B := wr.heap.size) (w0 := wr) (by kernel_rfl) (Below.refl _ _) (fun wd hwd hX => ?_)
   clear hwd
   by_cases hcc : c = true
   ·subst hcc
    have HCN := qH (show Value.bool true = Value.bool (catJ x y W (j + 1)) by rw [catJ, ← HC.out]; rfl)
    refine sx_take (i := 0) (oi := ⟨some 106, _, _, _, _, _⟩) (v := ?_) rfl (by kernel_rfl) (by kernel_rfl) (by kernel_rfl) (fun _ _ _ h => h) rfl hX ?_ ?_; rotate_left; (intro W hW; go_simp; try with_reducible rfl); simp only [Act.put, qA, qB, qC]
    refine sx_take (i := 1) (oi := ⟨some 107, _, _, _, _, _⟩) (v := ?_) rfl (by kernel_rfl) (by kernel_rfl) (by kernel_rfl) (fun _ _ _ h => h) rfl hX ?_ ?_; rotate_left; (intro W hW; go_simp; try with_reducible rfl); simp only [Act.put, qA, qB, qC]
    refine sx_skip (i := 2) (oi := ⟨some 108, _, _, _, _, _⟩) rfl (by kernel_rfl) (by kernel_rfl) (by kernel_rfl) (fun _ _ _ h => h) rfl hX ?_; simp only [Act.put, qA, qB, qC]
    refine sx_skip (i := 3) (oi := ⟨some 109, _, _, _, _, _⟩) rfl (by kernel_rfl) (by kernel_rfl) (by kernel_rfl) (fun _ _ _ h => h) rfl hX ?_; simp only [Act.put, qA, qB, qC]
    refine sx_skip (i := 4) (oi := ⟨some 110, _, _, _, _, _⟩) rfl (by kernel_rfl) (by kernel_rfl) (by kernel_rfl) (fun _ _ _ h => h) rfl hX ?_; simp only [Act.put, qA, qB, qC]
    refine sx_skip (i := 5) (oi := ⟨some 111, _, _, _, _, _⟩) rfl (by kernel_rfl) (by kernel_rfl) (by kernel_rfl) (fun _ _ _ h => h) rfl hX ?_; simp only [Act.put, qA, qB, qC]
    refine sx_skip (i := 6) (oi := ⟨some 112, _, _, _, _, _⟩) rfl (by kernel_rfl) (by kernel_rfl) (by kernel_rfl) (fun _ _ _ h => h) rfl hX ?_; simp only [Act.put, qA, qB, qC]
    refine sx_skip (i := 7) (oi := ⟨some 113, _, _, _, _, _⟩) rfl (by kernel_rfl) (by kernel_rfl) (by kernel_rfl) (fun _ _ _ h => h) rfl hX ?_; simp only [Act.put, qA, qB, qC]
    refine sx_skip (i := 8) (oi := ⟨some 114, _, _, _, _, _⟩) rfl (by kernel_rfl) (by kernel_rfl) (by kernel_rfl) (fun _ _ _ h => h) rfl hX ?_; simp only [Act.put, qA, qB, qC]
    refine sx_skip (i := 9) (oi := ⟨some 115, _, _, _, _, _⟩) rfl (by kernel_rfl) (by kernel_rfl) (by kernel_rfl) (fun _ _ _ h => h) rfl hX ?_; simp only [Act.put, qA, qB, qC]
    refine sx_skip (i := 10) (oi := ⟨some 116, _, _, _, _, _⟩) rfl (by kernel_rfl) (by kernel_rfl) (by kernel_rfl) (fun _ _ _ h => h) rfl hX ?_; simp only [Act.put, qA, qB, qC]
    refine sx_skip (i := 11) (oi := ⟨some 117, _, _, _, _, _⟩) rfl (by kernel_rfl) (by kernel_rfl) (by kernel_rfl) (fun _ _ _ h => h) rfl hX ?_; simp only [Act.put, qA, qB, qC]
    refine sx_skip (i := 12) (oi := ⟨some 118, _, _, _, _, _⟩) rfl (by kernel_rfl) (by kernel_rfl) (by kernel_rfl) (fun _ _ _ h => h) rfl hX ?_; simp only [Act.put, qA, qB, qC]
    refine sx_skip (i := 13) (oi := ⟨some 119, _, _, _, _, _⟩) rfl (by kernel_rfl) (by kernel_rfl) (by kernel_rfl) (fun _ _ _ h => h) rfl hX ?_; simp only [Act.put, qA, qB, qC]
    refine sx_take (i := 14) (oi := ⟨some 120, _, _, _, _, _⟩) (v := ?_) rfl (by kernel_rfl) (by kernel_rfl) (by kernel_rfl) (fun _ _ _ h => h) rfl hX ?_ ?_; rotate_left; (intro W hW; go_simp; try with_reducible rfl); simp only [Act.put, qA, qB, qC]
    refine sx_take (i := 15) (oi := ⟨some 21, _, _, _, _, _⟩) (v := ?_) rfl (by kernel_rfl) (by kernel_rfl) (by kernel_rfl) (fun _ _ _ h => h) rfl hX ?_ ?_; rotate_left; (intro W hW; go_simp; try with_reducible rfl); simp only [Act.put, qA, qB, qC]
    refine wpAnyH_done (by kernel_rfl) ?_ _
    go_wp2_with fail
    refine sx_startB (B := wr.heap.size) (w0 := wr) (by kernel_rfl) hX (fun we hwe hX => ?_)
    clear hwe
    obtain ⟨iq, hiq⟩ : ∃ s, s = lgB x (W.take j) := ⟨_, rfl⟩
    have HIX := qH hiq
    clear hiq
    by_cases hs : s = true
    ·subst hs
     have HSN := qH (show Value.bool true = Value.bool (starJ x W (j + 1)) by rw [starJ, ← HS.out]; rfl)
     refine sx_take (i := 0) (oi := ⟨some 121, _, _, _, _, _⟩) (v := ?_) rfl (by kernel_rfl) (by kernel_rfl) (by kernel_rfl) (fun _ _ _ h => h) rfl hX ?_ ?_; rotate_left; (intro W hW; go_simp; try with_reducible rfl); simp only [Act.put, qA, qB, qC]
     refine sx_take (i := 1) (oi := ⟨some 122, _, _, _, _, _⟩) (v := ?_) rfl (by kernel_rfl) (by kernel_rfl) (by kernel_rfl) (fun _ _ _ h => h) rfl hX ?_ ?_; rotate_left; (intro W hW; go_simp; try with_reducible rfl); simp only [Act.put, qA, qB, qC]
     refine sx_skip (i := 2) (oi := ⟨some 123, _, _, _, _, _⟩) rfl (by kernel_rfl) (by kernel_rfl) (by kernel_rfl) (fun _ _ _ h => h) rfl hX ?_; simp only [Act.put, qA, qB, qC]
     refine sx_skip (i := 3) (oi := ⟨some 124, _, _, _, _, _⟩) rfl (by kernel_rfl) (by kernel_rfl) (by kernel_rfl) (fun _ _ _ h => h) rfl hX ?_; simp only [Act.put, qA, qB, qC]
     refine sx_skip (i := 4) (oi := ⟨some 125, _, _, _, _, _⟩) rfl (by kernel_rfl) (by kernel_rfl) (by kernel_rfl) (fun _ _ _ h => h) rfl hX ?_; simp only [Act.put, qA, qB, qC]
     refine sx_skip (i := 5) (oi := ⟨some 126, _, _, _, _, _⟩) rfl (by kernel_rfl) (by kernel_rfl) (by kernel_rfl) (fun _ _ _ h => h) rfl hX ?_; simp only [Act.put, qA, qB, qC]
     refine sx_skip (i := 6) (oi := ⟨some 127, _, _, _, _, _⟩) rfl (by kernel_rfl) (by kernel_rfl) (by kernel_rfl) (fun _ _ _ h => h) rfl hX ?_; simp only [Act.put, qA, qB, qC]
     refine sx_skip (i := 7) (oi := ⟨some 128, _, _, _, _, _⟩) rfl (by kernel_rfl) (by kernel_rfl) (by kernel_rfl) (fun _ _ _ h => h) rfl hX ?_; simp only [Act.put, qA, qB, qC]
     refine sx_skip (i := 8) (oi := ⟨some 129, _, _, _, _, _⟩) rfl (by kernel_rfl) (by kernel_rfl) (by kernel_rfl) (fun _ _ _ h => h) rfl hX ?_; simp only [Act.put, qA, qB, qC]
     refine sx_skip (i := 9) (oi := ⟨some 130, _, _, _, _, _⟩) rfl (by kernel_rfl) (by kernel_rfl) (by kernel_rfl) (fun _ _ _ h => h) rfl hX ?_; simp only [Act.put, qA, qB, qC]
     refine sx_skip (i := 10) (oi := ⟨some 131, _, _, _, _, _⟩) rfl (by kernel_rfl) (by kernel_rfl) (by kernel_rfl) (fun _ _ _ h => h) rfl hX ?_; simp only [Act.put, qA, qB, qC]
     refine sx_skip (i := 11) (oi := ⟨some 132, _, _, _, _, _⟩) rfl (by kernel_rfl) (by kernel_rfl) (by kernel_rfl) (fun _ _ _ h => h) rfl hX ?_; simp only [Act.put, qA, qB, qC]
     refine sx_skip (i := 12) (oi := ⟨some 133, _, _, _, _, _⟩) rfl (by kernel_rfl) (by kernel_rfl) (by kernel_rfl) (fun _ _ _ h => h) rfl hX ?_; simp only [Act.put, qA, qB, qC]
     refine sx_skip (i := 13) (oi := ⟨some 134, _, _, _, _, _⟩) rfl (by kernel_rfl) (by kernel_rfl) (by kernel_rfl) (fun _ _ _ h => h) rfl hX ?_; simp only [Act.put, qA, qB, qC]
     refine sx_skip (i := 14) (oi := ⟨some 135, _, _, _, _, _⟩) rfl (by kernel_rfl) (by kernel_rfl) (by kernel_rfl) (fun _ _ _ h => h) rfl hX ?_; simp only [Act.put, qA, qB, qC]
     refine sx_skip (i := 15) (oi := ⟨some 136, _, _, _, _, _⟩) rfl (by kernel_rfl) (by kernel_rfl) (by kernel_rfl) (fun _ _ _ h => h) rfl hX ?_; simp only [Act.put, qA, qB, qC]
     refine sx_skip (i := 16) (oi := ⟨some 137, _, _, _, _, _⟩) rfl (by kernel_rfl) (by kernel_rfl) (by kernel_rfl) (fun _ _ _ h => h) rfl hX ?_; simp only [Act.put, qA, qB, qC]
     refine sx_skip (i := 17) (oi := ⟨some 138, _, _, _, _, _⟩) rfl (by kernel_rfl) (by kernel_rfl) (by kernel_rfl) (fun _ _ _ h => h) rfl hX ?_; simp only [Act.put, qA, qB, qC]
     refine sx_take (i := 18) (oi := ⟨some 139, _, _, _, _, _⟩) (v := ?_) rfl (by kernel_rfl) (by kernel_rfl) (by kernel_rfl) (fun _ _ _ h => h) rfl hX ?_ ?_; rotate_left; (intro W hW; go_simp; try with_reducible rfl); simp only [Act.put, qA, qB, qC]
     refine sx_take (i := 19) (oi := ⟨some 22, _, _, _, _, _⟩) (v := ?_) rfl (by kernel_rfl) (by kernel_rfl) (by kernel_rfl) (fun _ _ _ h => h) rfl hX ?_ ?_; rotate_left; (intro W hW; go_simp; try with_reducible rfl); simp only [Act.put, qA, qB, qC]
     refine wpAnyH_done (by kernel_rfl) ?_ _
     have BE := qH (BQ.out.trans (hX.mono BQ.out.size))
     clear hX
     have e3 := HE3.out
     have e4 := HE4.out
     go_wp2_with fail
     exact ⟨⟨j + 1, HJ1.out, by congr 1, HCN.out, HSN.out, BE.out⟩, by simpa [intOf] using HMS.out⟩
    obtain rfl : s = false := by simpa using hs
    clear hs
    by_cases hj0 : j = 0
    ·have z0 : decide ((0 : Int) < (j : Int)) = false := decide_eq_false (by omega)
     have HSN := qH (show Value.bool false = Value.bool (starJ x W (j + 1)) by rw [starJ, ← HS.out, z0]; rfl)
     clear hj0
     refine sx_take (i := 0) (oi := ⟨some 121, _, _, _, _, _⟩) (v := ?_) rfl (by kernel_rfl) (by kernel_rfl) (by kernel_rfl) (fun _ _ _ h => h) rfl hX ?_ ?_; rotate_left; (intro W hW; go_simp; try with_reducible rfl); simp only [Act.put, qA, qB, qC]
     refine sx_take (i := 1) (oi := ⟨some 122, _, _, _, _, _⟩) (v := ?_) rfl (by kernel_rfl) (by kernel_rfl) (by kernel_rfl) (fun _ _ _ h => h) rfl hX ?_ ?_; rotate_left; (intro W hW; go_simp; try with_reducible rfl); simp only [Act.put, qA, qB, qC]
     refine sx_take (i := 2) (oi := ⟨some 123, _, _, _, _, _⟩) (v := ?_) rfl (by kernel_rfl) (by kernel_rfl) (by kernel_rfl) (fun _ _ _ h => h) rfl hX ?_ ?_; rotate_left; (intro W hW; go_simp; try with_reducible rfl); simp only [Act.put, qA, qB, qC]
     refine sx_take (i := 3) (oi := ⟨some 124, _, _, _, _, _⟩) (v := .bool false) rfl (by kernel_rfl) (by kernel_rfl) (by kernel_rfl) (fun _ _ _ h => h) rfl hX (fun V _ => gt_at _ rfl rfl rfl z0 V) ?_; simp only [Act.put, qA, qB, qC]
     refine sx_take (i := 4) (oi := ⟨some 125, _, _, _, _, _⟩) (v := ?_) rfl (by kernel_rfl) (by kernel_rfl) (by kernel_rfl) (fun _ _ _ h => h) rfl hX ?_ ?_; rotate_left; (intro W hW; go_simp; try with_reducible rfl); simp only [Act.put, qA, qB, qC]
     refine sx_skip (i := 5) (oi := ⟨some 126, _, _, _, _, _⟩) rfl (by kernel_rfl) (by kernel_rfl) (by kernel_rfl) (fun _ _ _ h => h) rfl hX ?_; simp only [Act.put, qA, qB, qC]
     refine sx_skip (i := 6) (oi := ⟨some 127, _, _, _, _, _⟩) rfl (by kernel_rfl) (by kernel_rfl) (by kernel_rfl) (fun _ _ _ h => h) rfl hX ?_; simp only [Act.put, qA, qB, qC]
     refine sx_skip (i := 7) (oi := ⟨some 128, _, _, _, _, _⟩) rfl (by kernel_rfl) (by kernel_rfl) (by kernel_rfl) (fun _ _ _ h => h) rfl hX ?_; simp only [Act.put, qA, qB, qC]
     refine sx_skip (i := 8) (oi := ⟨some 129, _, _, _, _, _⟩) rfl (by kernel_rfl) (by kernel_rfl) (by kernel_rfl) (fun _ _ _ h => h) rfl hX ?_; simp only [Act.put, qA, qB, qC]
     refine sx_skip (i := 9) (oi := ⟨some 130, _, _, _, _, _⟩) rfl (by kernel_rfl) (by kernel_rfl) (by kernel_rfl) (fun _ _ _ h => h) rfl hX ?_; simp only [Act.put, qA, qB, qC]
     refine sx_take (i := 10) (oi := ⟨some 131, _, _, _, _, _⟩) (v := ?_) rfl (by kernel_rfl) (by kernel_rfl) (by kernel_rfl) (fun _ _ _ h => h) rfl hX ?_ ?_; rotate_left; (intro W hW; go_simp; try with_reducible rfl); simp only [Act.put, qA, qB, qC]
     refine sx_take (i := 11) (oi := ⟨some 132, _, _, _, _, _⟩) (v := ?_) rfl (by kernel_rfl) (by kernel_rfl) (by kernel_rfl) (fun _ _ _ h => h) rfl hX ?_ ?_; rotate_left; (intro W hW; go_simp; try with_reducible rfl); simp only [Act.put, qA, qB, qC]
     refine sx_skip (i := 12) (oi := ⟨some 133, _, _, _, _, _⟩) rfl (by kernel_rfl) (by kernel_rfl) (by kernel_rfl) (fun _ _ _ h => h) rfl hX ?_; simp only [Act.put, qA, qB, qC]
     refine sx_skip (i := 13) (oi := ⟨some 134, _, _, _, _, _⟩) rfl (by kernel_rfl) (by kernel_rfl) (by kernel_rfl) (fun _ _ _ h => h) rfl hX ?_; simp only [Act.put, qA, qB, qC]
     refine sx_skip (i := 14) (oi := ⟨some 135, _, _, _, _, _⟩) rfl (by kernel_rfl) (by kernel_rfl) (by kernel_rfl) (fun _ _ _ h => h) rfl hX ?_; simp only [Act.put, qA, qB, qC]
     refine sx_skip (i := 15) (oi := ⟨some 136, _, _, _, _, _⟩) rfl (by kernel_rfl) (by kernel_rfl) (by kernel_rfl) (fun _ _ _ h => h) rfl hX ?_; simp only [Act.put, qA, qB, qC]
     refine sx_skip (i := 16) (oi := ⟨some 137, _, _, _, _, _⟩) rfl (by kernel_rfl) (by kernel_rfl) (by kernel_rfl) (fun _ _ _ h => h) rfl hX ?_; simp only [Act.put, qA, qB, qC]
     refine sx_take (i := 17) (oi := ⟨some 138, _, _, _, _, _⟩) (v := ?_) rfl (by kernel_rfl) (by kernel_rfl) (by kernel_rfl) (fun _ _ _ h => h) rfl hX ?_ ?_; rotate_left; (intro W hW; go_simp; try with_reducible rfl); simp only [Act.put, qA, qB, qC]
     refine sx_take (i := 18) (oi := ⟨some 139, _, _, _, _, _⟩) (v := ?_) rfl (by kernel_rfl) (by kernel_rfl) (by kernel_rfl) (fun _ _ _ h => h) rfl hX ?_ ?_; rotate_left; (intro W hW; go_simp; try with_reducible rfl); simp only [Act.put, qA, qB, qC]
     refine sx_take (i := 19) (oi := ⟨some 22, _, _, _, _, _⟩) (v := ?_) rfl (by kernel_rfl) (by kernel_rfl) (by kernel_rfl) (fun _ _ _ h => h) rfl hX ?_ ?_; rotate_left; (intro W hW; go_simp; try with_reducible rfl); simp only [Act.put, qA, qB, qC]
     clear z0
     refine wpAnyH_done (by kernel_rfl) ?_ _
     have BE := qH (BQ.out.trans (hX.mono BQ.out.size))
     clear hX
     have e3 := HE3.out
     have e4 := HE4.out
     go_wp2_with fail
     exact ⟨⟨j + 1, HJ1.out, by congr 1, HCN.out, HSN.out, BE.out⟩, by simpa [intOf] using HMS.out⟩
    have z0 : decide ((0 : Int) < (j : Int)) = true := decide_eq_true (by omega)
    have HZJ := qH z0
    clear hj0
    refine sx_take (i := 0) (oi := ⟨some 121, _, _, _, _, _⟩) (v := ?_) rfl (by kernel_rfl) (by kernel_rfl) (by kernel_rfl) (fun _ _ _ h => h) rfl hX ?_ ?_; rotate_left; (intro W hW; go_simp; try with_reducible rfl); simp only [Act.put, qA, qB, qC]
    refine sx_take (i := 1) (oi := ⟨some 122, _, _, _, _, _⟩) (v := ?_) rfl (by kernel_rfl) (by kernel_rfl) (by kernel_rfl) (fun _ _ _ h => h) rfl hX ?_ ?_; rotate_left; (intro W hW; go_simp; try with_reducible rfl); simp only [Act.put, qA, qB, qC]
    refine sx_take (i := 2) (oi := ⟨some 123, _, _, _, _, _⟩) (v := ?_) rfl (by kernel_rfl) (by kernel_rfl) (by kernel_rfl) (fun _ _ _ h => h) rfl hX ?_ ?_; rotate_left; (intro W hW; go_simp; try with_reducible rfl); simp only [Act.put, qA, qB, qC]
    refine sx_take (i := 3) (oi := ⟨some 124, _, _, _, _, _⟩) (v := .bool true) rfl (by kernel_rfl) (by kernel_rfl) (by kernel_rfl) (fun _ _ _ h => h) rfl hX (fun V _ => gt_at _ rfl rfl rfl HZJ.out V) ?_; simp only [Act.put, qA, qB, qC]
    refine sx_take (i := 4) (oi := ⟨some 125, _, _, _, _, _⟩) (v := ?_) rfl (by kernel_rfl) (by kernel_rfl) (by kernel_rfl) (fun _ _ _ h => h) rfl hX ?_ ?_; rotate_left; (intro W hW; go_simp; try with_reducible rfl); simp only [Act.put, qA, qB, qC]
    refine sx_take (i := 5) (oi := ⟨some 126, _, _, _, _, _⟩) (v := .agg ns1.toArray) rfl (by kernel_rfl) (by kernel_rfl) (by kernel_rfl) (fun _ _ _ h => h) rfl hX (ld_blk 24 _ rfl wa1.heap.size rfl 24 ns1 _ P1.out.1 P1.out.1.lt Try.underlying24 rfl (size_nfa N31.out)) ?_; simp only [Act.put, qA, qB, qC]
    refine sx_take (i := 6) (oi := ⟨some 127, _, _, _, _, _⟩) (v := ?_) rfl (by kernel_rfl) (by kernel_rfl) (by kernel_rfl) (fun _ _ _ h => h) rfl hX ?_ ?_; rotate_left; (intro W hW; go_simp; try with_reducible rfl); simp only [Act.put, qA, qB, qC]
    refine sx_take (i := 7) (oi := ⟨some 128, _, _, _, _, _⟩) (v := ?_) rfl (by kernel_rfl) (by kernel_rfl) (by kernel_rfl) (fun _ _ _ h => h) rfl hX ?_ ?_; rotate_left; (intro W hW; go_simp; try with_reducible rfl); simp only [Act.put, qA, qB, qC]
    refine sx_take (i := 8) (oi := ⟨some 129, _, _, _, _, _⟩) (v := slT A6 cap6 j) rfl (by kernel_rfl) (by kernel_rfl) (by kernel_rfl) (fun _ _ _ h => h) rfl hX (fun V _ => sl_to _ _ rfl rfl rfl HJC.out V) ?_; simp only [Act.put, qA, qB, qC]
    refine sx_actB (i := 9) (o := ⟨some 130, _, _, _, _, _⟩) rfl (by kernel_rfl) rfl hX (fun K hK => ?_)
    go_wp2_with fail
    refine ((P1.out.below hX).run HE1.out (W.take j) _ (slT_row (RX.out.below hX) j HJL.out)).mono ?_
    rintro e wf ⟨rfl, hb⟩
    rw [← HIX.out]
    go_wp2_with fail
    refine hK _ _ (hb.mono hX.size) ?_
    clear hK K
    (try simp only [Act.put, qA, qB, qC])
    replace hX := hX.trans (hb.mono hX.size)
    clear hb
    by_cases hxj : iq = true
    ·have HIX' := qH (show true = lgB x (W.take j) by rw [← hxj]; exact HIX.out)
     subst hxj
     have HSN := qH (show Value.bool iz = Value.bool (starJ x W (j + 1)) by rw [starJ, ← HS.out, HZJ.out, ← HIX.out, ← HIZ.out]; rfl)
     refine sx_take (i := 10) (oi := ⟨some 131, _, _, _, _, _⟩) (v := ?_) rfl (by kernel_rfl) (by kernel_rfl) (by kernel_rfl) (fun _ _ _ h => h) rfl hX ?_ ?_; rotate_left; (intro W hW; go_simp; try with_reducible rfl); simp only [Act.put, qA, qB, qC]
     refine sx_take (i := 11) (oi := ⟨some 132, _, _, _, _, _⟩) (v := ?_) rfl (by kernel_rfl) (by kernel_rfl) (by kernel_rfl) (fun _ _ _ h => h) rfl hX ?_ ?_; rotate_left; (intro W hW; go_simp; try with_reducible rfl); simp only [Act.put, qA, qB, qC]
     refine sx_take (i := 12) (oi := ⟨some 133, _, _, _, _, _⟩) (v := .agg ns5.toArray) rfl (by kernel_rfl) (by kernel_rfl) (by kernel_rfl) (fun _ _ _ h => h) rfl hX (ld_blk 24 _ rfl wa5.heap.size rfl 24 ns5 _ P5.out.1 P5.out.1.lt Try.underlying24 rfl (size_nfa N35.out)) ?_; simp only [Act.put, qA, qB, qC]
     refine sx_take (i := 13) (oi := ⟨some 134, _, _, _, _, _⟩) (v := ?_) rfl (by kernel_rfl) (by kernel_rfl) (by kernel_rfl) (fun _ _ _ h => h) rfl hX ?_ ?_; rotate_left; (intro W hW; go_simp; try with_reducible rfl); simp only [Act.put, qA, qB, qC]
     refine sx_take (i := 14) (oi := ⟨some 135, _, _, _, _, _⟩) (v := ?_) rfl (by kernel_rfl) (by kernel_rfl) (by kernel_rfl) (fun _ _ _ h => h) rfl hX ?_ ?_; rotate_left; (intro W hW; go_simp; try with_reducible rfl); simp only [Act.put, qA, qB, qC]
     refine sx_take (i := 15) (oi := ⟨some 136, _, _, _, _, _⟩) (v := slF A6 W.length cap6 j) rfl (by kernel_rfl) (by kernel_rfl) (by kernel_rfl) (fun _ _ _ h => h) rfl hX (fun V _ => sl_from _ _ rfl rfl rfl HJL.out V) ?_; simp only [Act.put, qA, qB, qC]
     refine sx_actB (i := 16) (o := ⟨some 137, _, _, _, _, _⟩) rfl (by kernel_rfl) rfl hX (fun K hK => ?_)
     go_wp2_with fail
     refine ((P5.out.below hX).run HE5.out (W.drop j) _ (slF_row (RX.out.below hX) j HJL.out)).mono ?_
     rintro e wg ⟨rfl, hb⟩
     rw [← HIZ.out]
     go_wp2_with fail
     refine hK _ _ (hb.mono hX.size) ?_
     clear hK K
     (try simp only [Act.put, qA, qB, qC])
     replace hX := hX.trans (hb.mono hX.size)
     clear hb
     refine sx_take (i := 17) (oi := ⟨some 138, _, _, _, _, _⟩) (v := ?_) rfl (by kernel_rfl) (by kernel_rfl) (by kernel_rfl) (fun _ _ _ h => h) rfl hX ?_ ?_; rotate_left; (intro W hW; go_simp; try with_reducible rfl); simp only [Act.put, qA, qB, qC]
     refine sx_take (i := 18) (oi := ⟨some 139, _, _, _, _, _⟩) (v := ?_) rfl (by kernel_rfl) (by kernel_rfl) (by kernel_rfl) (fun _ _ _ h => h) rfl hX ?_ ?_; rotate_left; (intro W hW; go_simp; try with_reducible rfl); simp only [Act.put, qA, qB, qC]
     refine sx_take (i := 19) (oi := ⟨some 22, _, _, _, _, _⟩) (v := ?_) rfl (by kernel_rfl) (by kernel_rfl) (by kernel_rfl) (fun _ _ _ h => h) rfl hX ?_ ?_; rotate_left; (intro W hW; go_simp; try with_reducible rfl); simp only [Act.put, qA, qB, qC]
     refine wpAnyH_done (by kernel_rfl) ?_ _
     have BE := qH (BQ.out.trans (hX.mono BQ.out.size))
     clear hX
     have e3 := HE3.out
     have e4 := HE4.out
     go_wp2_with fail
     exact ⟨⟨j + 1, HJ1.out, by congr 1, HCN.out, HSN.out, BE.out⟩, by simpa [intOf] using HMS.out⟩
    obtain rfl : iq = false := by simpa using hxj
    clear hxj
    have HSN := qH (show Value.bool false = Value.bool (starJ x W (j + 1)) by rw [starJ, ← HS.out, HZJ.out, ← HIX.out]; rfl)
    refine sx_take (i := 10) (oi := ⟨some 131, _, _, _, _, _⟩) (v := ?_) rfl (by kernel_rfl) (by kernel_rfl) (by kernel_rfl) (fun _ _ _ h => h) rfl hX ?_ ?_; rotate_left; (intro W hW; go_simp; try with_reducible rfl); simp only [Act.put, qA, qB, qC]
    refine sx_take (i := 11) (oi := ⟨some 132, _, _, _, _, _⟩) (v := ?_) rfl (by kernel_rfl) (by kernel_rfl) (by kernel_rfl) (fun _ _ _ h => h) rfl hX ?_ ?_; rotate_left; (intro W hW; go_simp; try with_reducible rfl); simp only [Act.put, qA, qB, qC]
    refine sx_skip (i := 12) (oi := ⟨some 133, _, _, _, _, _⟩) rfl (by kernel_rfl) (by kernel_rfl) (by kernel_rfl) (fun _ _ _ h => h) rfl hX ?_; simp only [Act.put, qA, qB, qC]
    refine sx_skip (i := 13) (oi := ⟨some 134, _, _, _, _, _⟩) rfl (by kernel_rfl) (by kernel_rfl) (by kernel_rfl) (fun _ _ _ h => h) rfl hX ?_; simp only [Act.put, qA, qB, qC]
    refine sx_skip (i := 14) (oi := ⟨some 135, _, _, _, _, _⟩) rfl (by kernel_rfl) (by kernel_rfl) (by kernel_rfl) (fun _ _ _ h => h) rfl hX ?_; simp only [Act.put, qA, qB, qC]
    refine sx_skip (i := 15) (oi := ⟨some 136, _, _, _, _, _⟩) rfl (by kernel_rfl) (by kernel_rfl) (by kernel_rfl) (fun _ _ _ h => h) rfl hX ?_; simp only [Act.put, qA, qB, qC]
    refine sx_skip (i := 16) (oi := ⟨some 137, _, _, _, _, _⟩) rfl (by kernel_rfl) (by kernel_rfl) (by kernel_rfl) (fun _ _ _ h => h) rfl hX ?_; simp only [Act.put, qA, qB, qC]
    refine sx_take (i := 17) (oi := ⟨some 138, _, _, _, _, _⟩) (v := ?_) rfl (by kernel_rfl) (by kernel_rfl) (by kernel_rfl) (fun _ _ _ h => h) rfl hX ?_ ?_; rotate_left; (intro W hW; go_simp; try with_reducible rfl); simp only [Act.put, qA, qB, qC]
    refine sx_take (i := 18) (oi := ⟨some 139, _, _, _, _, _⟩) (v := ?_) rfl (by kernel_rfl) (by kernel_rfl) (by kernel_rfl) (fun _ _ _ h => h) rfl hX ?_ ?_; rotate_left; (intro W hW; go_simp; try with_reducible rfl); simp only [Act.put, qA, qB, qC]
    refine sx_take (i := 19) (oi := ⟨some 22, _, _, _, _, _⟩) (v := ?_) rfl (by kernel_rfl) (by kernel_rfl) (by kernel_rfl) (fun _ _ _ h => h) rfl hX ?_ ?_; rotate_left; (intro W hW; go_simp; try with_reducible rfl); simp only [Act.put, qA, qB, qC]
    refine wpAnyH_done (by kernel_rfl) ?_ _
    have BE := qH (BQ.out.trans (hX.mono BQ.out.size))
    clear hX
    have e3 := HE3.out
    have e4 := HE4.out
    go_wp2_with fail
    exact ⟨⟨j + 1, HJ1.out, by congr 1, HCN.out, HSN.out, BE.out⟩, by simpa [intOf] using HMS.out⟩
   obtain rfl : c = false := by simpa using hcc
   clear hcc
   refine sx_take (i := 0) (oi := ⟨some 106, _, _, _, _, _⟩) (v := ?_) rfl (by kernel_rfl) (by kernel_rfl) (by kernel_rfl) (fun _ _ _ h => h) rfl hX ?_ ?_; rotate_left; (intro W hW; go_simp; try with_reducible rfl); simp only [Act.put, qA, qB, qC]
   refine sx_take (i := 1) (oi := ⟨some 107, _, _, _, _, _⟩) (v := ?_) rfl (by kernel_rfl) (by kernel_rfl) (by kernel_rfl) (fun _ _ _ h => h) rfl hX ?_ ?_; rotate_left; (intro W hW; go_simp; try with_reducible rfl); simp only [Act.put, qA, qB, qC]
   refine sx_take (i := 2) (oi := ⟨some 108, _, _, _, _, _⟩) (v := .agg ns1.toArray) rfl (by kernel_rfl) (by kernel_rfl) (by kernel_rfl) (fun _ _ _ h => h) rfl hX (ld_blk 24 _ rfl wa1.heap.size rfl 24 ns1 _ P1.out.1 P1.out.1.lt Try.underlying24 rfl (size_nfa N31.out)) ?_; simp only [Act.put, qA, qB, qC]
   refine sx_take (i := 3) (oi := ⟨some 109, _, _, _, _, _⟩) (v := ?_) rfl (by kernel_rfl) (by kernel_rfl) (by kernel_rfl) (fun _ _ _ h => h) rfl hX ?_ ?_; rotate_left; (intro W hW; go_simp; try with_reducible rfl); simp only [Act.put, qA, qB, qC]
   refine sx_take (i := 4) (oi := ⟨some 110, _, _, _, _, _⟩) (v := ?_) rfl (by kernel_rfl) (by kernel_rfl) (by kernel_rfl) (fun _ _ _ h => h) rfl hX ?_ ?_; rotate_left; (intro W hW; go_simp; try with_reducible rfl); simp only [Act.put, qA, qB, qC]
   refine sx_take (i := 5) (oi := ⟨some 111, _, _, _, _, _⟩) (v := slT A6 cap6 j) rfl (by kernel_rfl) (by kernel_rfl) (by kernel_rfl) (fun _ _ _ h => h) rfl hX (fun V _ => sl_to _ _ rfl rfl rfl HJC.out V) ?_; simp only [Act.put, qA, qB, qC]
   refine sx_actB (i := 6) (o := ⟨some 112, _, _, _, _, _⟩) rfl (by kernel_rfl) rfl hX (fun K hK => ?_)
   go_wp2_with fail
   refine ((P1.out.below hX).run HE1.out (W.take j) _ (slT_row (RX.out.below hX) j HJL.out)).mono ?_
   rintro e wa ⟨rfl, hb⟩
   rw [← HIX0.out]
   go_wp2_with fail
   refine hK _ _ (hb.mono hX.size) ?_
   clear hK K
   (try simp only [Act.put, qA, qB, qC])
   replace hX := hX.trans (hb.mono hX.size)
   clear hb
   by_cases hxj : ix = true
   ·subst hxj
    have HCN := qH (show Value.bool iy = Value.bool (catJ x y W (j + 1)) by rw [catJ, ← HC.out, ← HIX0.out, ← HIY.out]; rfl)
    refine sx_take (i := 7) (oi := ⟨some 113, _, _, _, _, _⟩) (v := ?_) rfl (by kernel_rfl) (by kernel_rfl) (by kernel_rfl) (fun _ _ _ h => h) rfl hX ?_ ?_; rotate_left; (intro W hW; go_simp; try with_reducible rfl); simp only [Act.put, qA, qB, qC]
    refine sx_take (i := 8) (oi := ⟨some 114, _, _, _, _, _⟩) (v := .agg ns2.toArray) rfl (by kernel_rfl) (by kernel_rfl) (by kernel_rfl) (fun _ _ _ h => h) rfl hX (ld_blk 24 _ rfl wa2.heap.size rfl 24 ns2 _ P2.out.1 P2.out.1.lt Try.underlying24 rfl (size_nfa N32.out)) ?_; simp only [Act.put, qA, qB, qC]
    refine sx_take (i := 9) (oi := ⟨some 115, _, _, _, _, _⟩) (v := ?_) rfl (by kernel_rfl) (by kernel_rfl) (by kernel_rfl) (fun _ _ _ h => h) rfl hX ?_ ?_; rotate_left; (intro W hW; go_simp; try with_reducible rfl); simp only [Act.put, qA, qB, qC]
    refine sx_take (i := 10) (oi := ⟨some 116, _, _, _, _, _⟩) (v := ?_) rfl (by kernel_rfl) (by kernel_rfl) (by kernel_rfl) (fun _ _ _ h => h) rfl hX ?_ ?_; rotate_left; (intro W hW; go_simp; try with_reducible rfl); simp only [Act.put, qA, qB, qC]
    refine sx_take (i := 11) (oi := ⟨some 117, _, _, _, _, _⟩) (v := slF A6 W.length cap6 j) rfl (by kernel_rfl) (by kernel_rfl) (by kernel_rfl) (fun _ _ _ h => h) rfl hX (fun V _ => sl_from _ _ rfl rfl rfl HJL.out V) ?_; simp only [Act.put, qA, qB, qC]
    refine sx_actB (i := 12) (o := ⟨some 118, _, _, _, _, _⟩) rfl (by kernel_rfl) rfl hX (fun K hK => ?_)
    go_wp2_with fail
    refine ((P2.out.below hX).run HE2.out (W.drop j) _ (slF_row (RX.out.below hX) j HJL.out)).mono ?_
    rintro e wb ⟨rfl, hb⟩
    rw [← HIY.out]
    go_wp2_with fail
    refine hK _ _ (hb.mono hX.size) ?_
    clear hK K
    (try simp only [Act.put, qA, qB, qC])
    replace hX := hX.trans (hb.mono hX.size)
    clear hb
    refine sx_take (i := 13) (oi := ⟨some 119, _, _, _, _, _⟩) (v := ?_) rfl (by kernel_rfl) (by kernel_rfl) (by kernel_rfl) (fun _ _ _ h => h) rfl hX ?_ ?_; rotate_left; (intro W hW; go_simp; try with_reducible rfl); simp only [Act.put, qA, qB, qC]
    refine sx_take (i := 14) (oi := ⟨some 120, _, _, _, _, _⟩) (v := ?_) rfl (by kernel_rfl) (by kernel_rfl) (by kernel_rfl) (fun _ _ _ h => h) rfl hX ?_ ?_; rotate_left; (intro W hW; go_simp; try with_reducible rfl); simp only [Act.put, qA, qB, qC]
    refine sx_take (i := 15) (oi := ⟨some 21, _, _, _, _, _⟩) (v := ?_) rfl (by kernel_rfl) (by kernel_rfl) (by kernel_rfl) (fun _ _ _ h => h) rfl hX ?_ ?_; rotate_left; (intro W hW; go_simp; try with_reducible rfl); simp only [Act.put, qA, qB, qC]
    refine wpAnyH_done (by kernel_rfl) ?_ _
    go_wp2_with fail
    refine sx_startB (B := wr.heap.size) (w0 := wr) (by kernel_rfl) hX (fun we hwe hX => ?_)
    clear hwe
    obtain ⟨iq, hiq⟩ : ∃ s, s = lgB x (W.take j) := ⟨_, rfl⟩
    have HIX := qH hiq
    clear hiq
    by_cases hs : s = true
    ·subst hs
     have HSN := qH (show Value.bool true = Value.bool (starJ x W (j + 1)) by rw [starJ, ← HS.out]; rfl)
     refine sx_take (i := 0) (oi := ⟨some 121, _, _, _, _, _⟩) (v := ?_) rfl (by kernel_rfl) (by kernel_rfl) (by kernel_rfl) (fun _ _ _ h => h) rfl hX ?_ ?_; rotate_left; (intro W hW; go_simp; try with_reducible rfl); simp only [Act.put, qA, qB, qC]
     refine sx_take (i := 1) (oi := ⟨some 122, _, _, _, _, _⟩) (v := ?_) rfl (by kernel_rfl) (by kernel_rfl) (by kernel_rfl) (fun _ _ _ h => h) rfl hX ?_ ?_; rotate_left; (intro W hW; go_simp; try with_reducible rfl); simp only [Act.put, qA, qB, qC]
     refine sx_skip (i := 2) (oi := ⟨some 123, _, _, _, _, _⟩) rfl (by kernel_rfl) (by kernel_rfl) (by kernel_rfl) (fun _ _ _ h => h) rfl hX ?_; simp only [Act.put, qA, qB, qC]
     refine sx_skip (i := 3) (oi := ⟨some 124, _, _, _, _, _⟩) rfl (by kernel_rfl) (by kernel_rfl) (by kernel_rfl) (fun _ _ _ h => h) rfl hX ?_; simp only [Act.put, qA, qB, qC]
     refine sx_skip (i := 4) (oi := ⟨some 125, _, _, _, _, _⟩) rfl (by kernel_rfl) (by kernel_rfl) (by kernel_rfl) (fun _ _ _ h => h) rfl hX ?_; simp only [Act.put, qA, qB, qC]
     refine sx_skip (i := 5) (oi := ⟨some 126, _, _, _, _, _⟩) rfl (by kernel_rfl) (by kernel_rfl) (by kernel_rfl) (fun _ _ _ h => h) rfl hX ?_; simp only [Act.put, qA, qB, qC]
     refine sx_skip (i := 6) (oi := ⟨some 127, _, _, _, _, _⟩) rfl (by kernel_rfl) (by kernel_rfl) (by kernel_rfl) (fun _ _ _ h => h) rfl hX ?_; simp only [Act.put, qA, qB, qC]
     refine sx_skip (i := 7) (oi := ⟨some 128, _, _, _, _, _⟩) rfl (by kernel_rfl) (by kernel_rfl) (by kernel_rfl) (fun _ _ _ h => h) rfl hX ?_; simp only [Act.put, qA, qB, qC]
     refine sx_skip (i := 8) (oi := ⟨some 129, _, _, _, _, _⟩) rfl (by kernel_rfl) (by kernel_rfl) (by kernel_rfl) (fun _ _ _ h => h) rfl hX ?_; simp only [Act.put, qA, qB, qC]
     refine sx_skip (i := 9) (oi := ⟨some 130, _, _, _, _, _⟩) rfl (by kernel_rfl) (by kernel_rfl) (by kernel_rfl) (fun _ _ _ h => h) rfl hX ?_; simp only [Act.put, qA, qB, qC]
     refine sx_skip (i := 10) (oi := ⟨some 131, _, _, _, _, _⟩) rfl (by kernel_rfl) (by kernel_rfl) (by kernel_rfl) (fun _ _ _ h => h) rfl hX ?_; simp only [Act.put, qA, qB, qC]
     refine sx_skip (i := 11) (oi := ⟨some 132, _, _, _, _, _⟩) rfl (by kernel_rfl) (by kernel_rfl) (by kernel_rfl) (fun _ _ _ h => h) rfl hX ?_; simp only [Act.put, qA, qB, qC]
     refine sx_skip (i := 12) (oi := ⟨some 133, _, _, _, _, _⟩) rfl (by kernel_rfl) (by kernel_rfl) (by kernel_rfl) (fun _ _ _ h => h) rfl hX ?_; simp only [Act.put, qA, qB, qC]
     refine sx_skip (i := 13) (oi := ⟨some 134, _, _, _, _, _⟩) rfl (by kernel_rfl) (by kernel_rfl) (by kernel_rfl) (fun _ _ _ h => h) rfl hX ?_; simp only [Act.put, qA, qB, qC]
     refine sx_skip (i := 14) (oi := ⟨some 135, _, _, _, _, _⟩) rfl (by kernel_rfl) (by kernel_rfl) (by kernel_rfl) (fun _ _ _ h => h) rfl hX ?_; simp only [Act.put, qA, qB, qC]
     refine sx_skip (i := 15) (oi := ⟨some 136, _, _, _, _, _⟩) rfl (by kernel_rfl) (by kernel_rfl) (by kernel_rfl) (fun _ _ _ h => h) rfl hX ?_; simp only [Act.put, qA, qB, qC]
     refine sx_skip (i := 16) (oi := ⟨some 137, _, _, _, _, _⟩) rfl (by kernel_rfl) (by kernel_rfl) (by kernel_rfl) (fun _ _ _ h => h) rfl hX ?_; simp only [Act.put, qA, qB, qC]
     refine sx_skip (i := 17) (oi := ⟨some 138, _, _, _, _, _⟩) rfl (by kernel_rfl) (by kernel_rfl) (by kernel_rfl) (fun _ _ _ h => h) rfl hX ?_; simp only [Act.put, qA, qB, qC]
     refine sx_take (i := 18) (oi := ⟨some 139, _, _, _, _, _⟩) (v := ?_) rfl (by kernel_rfl) (by kernel_rfl) (by kernel_rfl) (fun _ _ _ h => h) rfl hX ?_ ?_; rotate_left; (intro W hW; go_simp; try with_reducible rfl); simp only [Act.put, qA, qB, qC]
     refine sx_take (i := 19) (oi := ⟨some 22, _, _, _, _, _⟩) (v := ?_) rfl (by kernel_rfl) (by kernel_rfl) (by kernel_rfl) (fun _ _ _ h => h) rfl hX ?_ ?_; rotate_left; (intro W hW; go_simp; try with_reducible rfl); simp only [Act.put, qA, qB, qC]
     refine wpAnyH_done (by kernel_rfl) ?_ _
     have BE := qH (BQ.out.trans (hX.mono BQ.out.size))
     clear hX
     have e3 := HE3.out
     have e4 := HE4.out
     go_wp2_with fail
     exact ⟨⟨j + 1, HJ1.out, by congr 1, HCN.out, HSN.out, BE.out⟩, by simpa [intOf] using HMS.out⟩
    obtain rfl : s = false := by simpa using hs
    clear hs
    by_cases hj0 : j = 0
    ·have z0 : decide ((0 : Int) < (j : Int)) = false := decide_eq_false (by omega)
     have HSN := qH (show Value.bool false = Value.bool (starJ x W (j + 1)) by rw [starJ, ← HS.out, z0]; rfl)
     clear hj0
     refine sx_take (i := 0) (oi := ⟨some 121, _, _, _, _, _⟩) (v := ?_) rfl (by kernel_rfl) (by kernel_rfl) (by kernel_rfl) (fun _ _ _ h => h) rfl hX ?_ ?_; rotate_left; (intro W hW; go_simp; try with_reducible rfl); simp only [Act.put, qA, qB, qC]
     refine sx_take (i := 1) (oi := ⟨some 122, _, _, _, _, _⟩) (v := ?_) rfl (by kernel_rfl) (by kernel_rfl) (by kernel_rfl) (fun _ _ _ h => h) rfl hX ?_ ?_; rotate_left; (intro W hW; go_simp; try with_reducible rfl); simp only [Act.put, qA, qB, qC]
     refine sx_take (i := 2) (oi := ⟨some 123, _, _, _, _, _⟩) (v := ?_) rfl (by kernel_rfl) (by kernel_rfl) (by kernel_rfl) (fun _ _ _ h => h) rfl hX ?_ ?_; rotate_left; (intro W hW; go_simp; try with_reducible rfl); simp only [Act.put, qA, qB, qC]
     refine sx_take (i := 3) (oi := ⟨some 124, _, _, _, _, _⟩) (v := .bool false) rfl (by kernel_rfl) (by kernel_rfl) (by kernel_rfl) (fun _ _ _ h => h) rfl hX (fun V _ => gt_at _ rfl rfl rfl z0 V) ?_; simp only [Act.put, qA, qB, qC]
     refine sx_take (i := 4) (oi := ⟨some 125, _, _, _, _, _⟩) (v := ?_) rfl (by kernel_rfl) (by kernel_rfl) (by kernel_rfl) (fun _ _ _ h => h) rfl hX ?_ ?_; rotate_left; (intro W hW; go_simp; try with_reducible rfl); simp only [Act.put, qA, qB, qC]
     refine sx_skip (i := 5) (oi := ⟨some 126, _, _, _, _, _⟩) rfl (by kernel_rfl) (by kernel_rfl) (by kernel_rfl) (fun _ _ _ h => h) rfl hX ?_; simp only [Act.put, qA, qB, qC]
     refine sx_skip (i := 6) (oi := ⟨some 127, _, _, _, _, _⟩) rfl (by kernel_rfl) (by kernel_rfl) (by kernel_rfl) (fun _ _ _ h => h) rfl hX ?_; simp only [Act.put, qA, qB, qC]
     refine sx_skip (i := 7) (oi := ⟨some 128, _, _, _, _, _⟩) rfl (by kernel_rfl) (by kernel_rfl) (by kernel_rfl) (fun _ _ _ h => h) rfl hX ?_; simp only [Act.put, qA, qB, qC]
     refine sx_skip (i := 8) (oi := ⟨some 129, _, _, _, _, _⟩) rfl (by kernel_rfl) (by kernel_rfl) (by kernel_rfl) (fun _ _ _ h => h) rfl hX ?_; simp only [Act.put, qA, qB, qC]
     refine sx_skip (i := 9) (oi := ⟨some 130, _, _, _, _, _⟩) rfl (by kernel_rfl) (by kernel_rfl) (by kernel_rfl) (fun _ _ _ h => h) rfl hX ?_; simp only [Act.put, qA, qB, qC]
     refine sx_take (i := 10) (oi := ⟨some 131, _, _, _, _, _⟩) (v := ?_) rfl (by kernel_rfl) (by kernel_rfl) (by kernel_rfl) (fun _ _ _ h => h) rfl hX ?_ ?_; rotate_left; (intro W hW; go_simp; try with_reducible rfl); simp only [Act.put, qA, qB, qC]
     refine sx_take (i := 11) (oi := ⟨some 132, _, _, _, _, _⟩) (v := ?_) rfl (by kernel_rfl) (by kernel_rfl) (by kernel_rfl) (fun _ _ _ h => h) rfl hX ?_ ?_; rotate_left; (intro W hW; go_simp; try with_reducible rfl); simp only [Act.put, qA, qB, qC]
     refine sx_skip (i := 12) (oi := ⟨some 133, _, _, _, _, _⟩) rfl (by kernel_rfl) (by kernel_rfl) (by kernel_rfl) (fun _ _ _ h => h) rfl hX ?_; simp only [Act.put, qA, qB, qC]
     refine sx_skip (i := 13) (oi := ⟨some 134, _, _, _, _, _⟩) rfl (by kernel_rfl) (by kernel_rfl) (by kernel_rfl) (fun _ _ _ h => h) rfl hX ?_; simp only [Act.put, qA, qB, qC]
     refine sx_skip (i := 14) (oi := ⟨some 135, _, _, _, _, _⟩) rfl (by kernel_rfl) (by kernel_rfl) (by kernel_rfl) (fun _ _ _ h => h) rfl hX ?_; simp only [Act.put, qA, qB, qC]
     refine sx_skip (i := 15) (oi := ⟨some 136, _, _, _, _, _⟩) rfl (by kernel_rfl) (by kernel_rfl) (by kernel_rfl) (fun _ _ _ h => h) rfl hX ?_; simp only [Act.put, qA, qB, qC]
     refine sx_skip (i := 16) (oi := ⟨some 137, _, _, _, _, _⟩) rfl (by kernel_rfl) (by kernel_rfl) (by kernel_rfl) (fun _ _ _ h => h) rfl hX ?_; simp only [Act.put, qA, qB, qC]
     refine sx_take (i := 17) (oi := ⟨some 138, _, _, _, _, _⟩) (v := ?_) rfl (by kernel_rfl) (by kernel_rfl) (by kernel_rfl) (fun _ _ _ h => h) rfl hX ?_ ?_; rotate_left; (intro W hW; go_simp; try with_reducible rfl); simp only [Act.put, qA, qB, qC]
     refine sx_take (i := 18) (oi := ⟨some 139, _, _, _, _, _⟩) (v := ?_) rfl (by kernel_rfl) (by kernel_rfl) (by kernel_rfl) (fun _ _ _ h => h) rfl hX ?_ ?_; rotate_left; (intro W hW; go_simp; try with_reducible rfl); simp only [Act.put, qA, qB, qC]
     refine sx_take (i := 19) (oi := ⟨some 22, _, _, _, _, _⟩) (v := ?_) rfl (by kernel_rfl) (by kernel_rfl) (by kernel_rfl) (fun _ _ _ h => h) rfl hX ?_ ?_; rotate_left; (intro W hW; go_simp; try with_reducible rfl); simp only [Act.put, qA, qB, qC]
     clear z0
     refine wpAnyH_done (by kernel_rfl) ?_ _
     have BE := qH (BQ.out.trans (hX.mono BQ.out.size))
     clear hX
     have e3 := HE3.out
     have e4 := HE4.out
     go_wp2_with fail
     exact ⟨⟨j + 1, HJ1.out, by congr 1, HCN.out, HSN.out, BE.out⟩, by simpa [intOf] using HMS.out⟩
    have z0 : decide ((0 : Int) < (j : Int)) = true := decide_eq_true (by omega)
    have HZJ := qH z0
    clear hj0
    refine sx_take (i := 0) (oi := ⟨some 121, _, _, _, _, _⟩) (v := ?_) rfl (by kernel_rfl) (by kernel_rfl) (by kernel_rfl) (fun _ _ _ h => h) rfl hX ?_ ?_; rotate_left; (intro W hW; go_simp; try with_reducible rfl); simp only [Act.put, qA, qB, qC]
    refine sx_take (i := 1) (oi := ⟨some 122, _, _, _, _, _⟩) (v := ?_) rfl (by kernel_rfl) (by kernel_rfl) (by kernel_rfl) (fun _ _ _ h => h) rfl hX ?_ ?_; rotate_left; (intro W hW; go_simp; try with_reducible rfl); simp only [Act.put, qA, qB, qC]
    refine sx_take (i := 2) (oi := ⟨some 123, _, _, _, _, _⟩) (v := ?_) rfl (by kernel_rfl) (by kernel_rfl) (by kernel_rfl) (fun _ _ _ h => h) rfl hX ?_ ?_; rotate_left; (intro W hW; go_simp; try with_reducible rfl); simp only [Act.put, qA, qB, qC]
    refine sx_take (i := 3) (oi := ⟨some 124, _, _, _, _, _⟩) (v := .bool true) rfl (by kernel_rfl) (by kernel_rfl) (by kernel_rfl) (fun _ _ _ h => h) rfl hX (fun V _ => gt_at _ rfl rfl rfl HZJ.out V) ?_; simp only [Act.put, qA, qB, qC]
    refine sx_take (i := 4) (oi := ⟨some 125, _, _, _, _, _⟩) (v := ?_) rfl (by kernel_rfl) (by kernel_rfl) (by kernel_rfl) (fun _ _ _ h => h) rfl hX ?_ ?_; rotate_left; (intro W hW; go_simp; try with_reducible rfl); simp only [Act.put, qA, qB, qC]
    refine sx_take (i := 5) (oi := ⟨some 126, _, _, _, _, _⟩) (v := .agg ns1.toArray) rfl (by kernel_rfl) (by kernel_rfl) (by kernel_rfl) (fun _ _ _ h => h) rfl hX (ld_blk 24 _ rfl wa1.heap.size rfl 24 ns1 _ P1.out.1 P1.out.1.lt Try.underlying24 rfl (size_nfa N31.out)) ?_; simp only [Act.put, qA, qB, qC]
    refine sx_take (i := 6) (oi := ⟨some 127, _, _, _, _, _⟩) (v := ?_) rfl (by kernel_rfl) (by kernel_rfl) (by kernel_rfl) (fun _ _ _ h => h) rfl hX ?_ ?_; rotate_left; (intro W hW; go_simp; try with_reducible rfl); simp only [Act.put, qA, qB, qC]
    refine sx_take (i := 7) (oi := ⟨some 128, _, _, _, _, _⟩) (v := ?_) rfl (by kernel_rfl) (by kernel_rfl) (by kernel_rfl) (fun _ _ _ h => h) rfl hX ?_ ?_; rotate_left; (intro W hW; go_simp; try with_reducible rfl); simp only [Act.put, qA, qB, qC]
    refine sx_take (i := 8) (oi := ⟨some 129, _, _, _, _, _⟩) (v := slT A6 cap6 j) rfl (by kernel_rfl) (by kernel_rfl) (by kernel_rfl) (fun _ _ _ h => h) rfl hX (fun V _ => sl_to _ _ rfl rfl rfl HJC.out V) ?_; simp only [Act.put, qA, qB, qC]
    refine sx_actB (i := 9) (o := ⟨some 130, _, _, _, _, _⟩) rfl (by kernel_rfl) rfl hX (fun K hK => ?_)
    go_wp2_with fail
    refine ((P1.out.below hX).run HE1.out (W.take j) _ (slT_row (RX.out.below hX) j HJL.out)).mono ?_
    rintro e wf ⟨rfl, hb⟩
    rw [← HIX.out]
    go_wp2_with fail
    refine hK _ _ (hb.mono hX.size) ?_
    clear hK K
    (try simp only [Act.put, qA, qB, qC])
    replace hX := hX.trans (hb.mono hX.size)
    clear hb
    by_cases hxj : iq = true
    ·have HIX' := qH (show true = lgB x (W.take j) by rw [← hxj]; exact HIX.out)
     subst hxj
     have HSN := qH (show Value.bool iz = Value.bool (starJ x W (j + 1)) by rw [starJ, ← HS.out, HZJ.out, ← HIX.out, ← HIZ.out]; rfl)
     refine sx_take (i := 10) (oi := ⟨some 131, _, _, _, _, _⟩) (v := ?_) rfl (by kernel_rfl) (by kernel_rfl) (by kernel_rfl) (fun _ _ _ h => h) rfl hX ?_ ?_; rotate_left; (intro W hW; go_simp; try with_reducible rfl); simp only [Act.put, qA, qB, qC]
     refine sx_take (i := 11) (oi := ⟨some 132, _, _, _, _, _⟩) (v := ?_) rfl (by kernel_rfl) (by kernel_rfl) (by kernel_rfl) (fun _ _ _ h => h) rfl hX ?_ ?_; rotate_left; (intro W hW; go_simp; try with_reducible rfl); simp only [Act.put, qA, qB, qC]
     refine sx_take (i := 12) (oi := ⟨some 133, _, _, _, _, _⟩) (v := .agg ns5.toArray) rfl (by kernel_rfl) (by kernel_rfl) (by kernel_rfl) (fun _ _ _ h => h) rfl hX (ld_blk 24 _ rfl wa5.heap.size rfl 24 ns5 _ P5.out.1 P5.out.1.lt Try.underlying24 rfl (size_nfa N35.out)) ?_; simp only [Act.put, qA, qB, qC]
     refine sx_take (i := 13) (oi := ⟨some 134, _, _, _, _, _⟩) (v := ?_) rfl (by kernel_rfl) (by kernel_rfl) (by kernel_rfl) (fun _ _ _ h => h) rfl hX ?_ ?_; rotate_left; (intro W hW; go_simp; try with_reducible rfl); simp only [Act.put, qA, qB, qC]
     refine sx_take (i := 14) (oi := ⟨some 135, _, _, _, _, _⟩) (v := ?_) rfl (by kernel_rfl) (by kernel_rfl) (by kernel_rfl) (fun _ _ _ h => h) rfl hX ?_ ?_; rotate_left; (intro W hW; go_simp; try with_reducible rfl); simp only [Act.put, qA, qB, qC]
     refine sx_take (i := 15) (oi := ⟨some 136, _, _, _, _, _⟩) (v := slF A6 W.length cap6 j) rfl (by kernel_rfl) (by kernel_rfl) (by kernel_rfl) (fun _ _ _ h => h) rfl hX (fun V _ => sl_from _ _ rfl rfl rfl HJL.out V) ?_; simp only [Act.put, qA, qB, qC]
     refine sx_actB (i := 16) (o := ⟨some 137, _, _, _, _, _⟩) rfl (by kernel_rfl) rfl hX (fun K hK => ?_)
     go_wp2_with fail
     refine ((P5.out.below hX).run HE5.out (W.drop j) _ (slF_row (RX.out.below hX) j HJL.out)).mono ?_
     rintro e wg ⟨rfl, hb⟩
     rw [← HIZ.out]
     go_wp2_with fail
     refine hK _ _ (hb.mono hX.size) ?_
     clear hK K
     (try simp only [Act.put, qA, qB, qC])
     replace hX := hX.trans (hb.mono hX.size)
     clear hb
     refine sx_take (i := 17) (oi := ⟨some 138, _, _, _, _, _⟩) (v := ?_) rfl (by kernel_rfl) (by kernel_rfl) (by kernel_rfl) (fun _ _ _ h => h) rfl hX ?_ ?_; rotate_left; (intro W hW; go_simp; try with_reducible rfl); simp only [Act.put, qA, qB, qC]
     refine sx_take (i := 18) (oi := ⟨some 139, _, _, _, _, _⟩) (v := ?_) rfl (by kernel_rfl) (by kernel_rfl) (by kernel_rfl) (fun _ _ _ h => h) rfl hX ?_ ?_; rotate_left; (intro W hW; go_simp; try with_reducible rfl); simp only [Act.put, qA, qB, qC]
     refine sx_take (i := 19) (oi := ⟨some 22, _, _, _, _, _⟩) (v := ?_) rfl (by kernel_rfl) (by kernel_rfl) (by kernel_rfl) (fun _ _ _ h => h) rfl hX ?_ ?_; rotate_left; (intro W hW; go_simp; try with_reducible rfl); simp only [Act.put, qA, qB, qC]
     refine wpAnyH_done (by kernel_rfl) ?_ _
     have BE := qH (BQ.out.trans (hX.mono BQ.out.size))
     clear hX
     have e3 := HE3.out
     have e4 := HE4.out
     go_wp2_with fail
     exact ⟨⟨j + 1, HJ1.out, by congr 1, HCN.out, HSN.out, BE.out⟩, by simpa [intOf] using HMS.out⟩
    obtain rfl : iq = false := by simpa using hxj
    clear hxj
    have HSN := qH (show Value.bool false = Value.bool (starJ x W (j + 1)) by rw [starJ, ← HS.out, HZJ.out, ← HIX.out]; rfl)
    refine sx_take (i := 10) (oi := ⟨some 131, _, _, _, _, _⟩) (v := ?_) rfl (by kernel_rfl) (by kernel_rfl) (by kernel_rfl) (fun _ _ _ h => h) rfl hX ?_ ?_; rotate_left; (intro W hW; go_simp; try with_reducible rfl); simp only [Act.put, qA, qB, qC]
    refine sx_take (i := 11) (oi := ⟨some 132, _, _, _, _, _⟩) (v := ?_) rfl (by kernel_rfl) (by kernel_rfl) (by kernel_rfl) (fun _ _ _ h => h) rfl hX ?_ ?_; rotate_left; (intro W hW; go_simp; try with_reducible rfl); simp only [Act.put, qA, qB, qC]
    refine sx_skip (i := 12) (oi := ⟨some 133, _, _, _, _, _⟩) rfl (by kernel_rfl) (by kernel_rfl) (by kernel_rfl) (fun _ _ _ h => h) rfl hX ?_; simp only [Act.put, qA, qB, qC]
    refine sx_skip (i := 13) (oi := ⟨some 134, _, _, _, _, _⟩) rfl (by kernel_rfl) (by kernel_rfl) (by kernel_rfl) (fun _ _ _ h => h) rfl hX ?_; simp only [Act.put, qA, qB, qC]
    refine sx_skip (i := 14) (oi := ⟨some 135, _, _, _, _, _⟩) rfl (by kernel_rfl) (by kernel_rfl) (by kernel_rfl) (fun _ _ _ h => h) rfl hX ?_; simp only [Act.put, qA, qB, qC]
    refine sx_skip (i := 15) (oi := ⟨some 136, _, _, _, _, _⟩) rfl (by kernel_rfl) (by kernel_rfl) (by kernel_rfl) (fun _ _ _ h => h) rfl hX ?_; simp only [Act.put, qA, qB, qC]
    refine sx_skip (i := 16) (oi := ⟨some 137, _, _, _, _, _⟩) rfl (by kernel_rfl) (by kernel_rfl) (by kernel_rfl) (fun _ _ _ h => h) rfl hX ?_; simp only [Act.put, qA, qB, qC]
    refine sx_take (i := 17) (oi := ⟨some 138, _, _, _, _, _⟩) (v := ?_) rfl (by kernel_rfl) (by kernel_rfl) (by kernel_rfl) (fun _ _ _ h => h) rfl hX ?_ ?_; rotate_left; (intro W hW; go_simp; try with_reducible rfl); simp only [Act.put, qA, qB, qC]
    refine sx_take (i := 18) (oi := ⟨some 139, _, _, _, _, _⟩) (v := ?_) rfl (by kernel_rfl) (by kernel_rfl) (by kernel_rfl) (fun _ _ _ h => h) rfl hX ?_ ?_; rotate_left; (intro W hW; go_simp; try with_reducible rfl); simp only [Act.put, qA, qB, qC]
    refine sx_take (i := 19) (oi := ⟨some 22, _, _, _, _, _⟩) (v := ?_) rfl (by kernel_rfl) (by kernel_rfl) (by kernel_rfl) (fun _ _ _ h => h) rfl hX ?_ ?_; rotate_left; (intro W hW; go_simp; try with_reducible rfl); simp only [Act.put, qA, qB, qC]
    refine wpAnyH_done (by kernel_rfl) ?_ _
    have BE := qH (BQ.out.trans (hX.mono BQ.out.size))
    clear hX
    have e3 := HE3.out
    have e4 := HE4.out
    go_wp2_with fail
    exact ⟨⟨j + 1, HJ1.out, by congr 1, HCN.out, HSN.out, BE.out⟩, by simpa [intOf] using HMS.out⟩
   obtain rfl : ix = false := by simpa using hxj
   clear hxj
   have HCN := qH (show Value.bool false = Value.bool (catJ x y W (j + 1)) by rw [catJ, ← HC.out, ← HIX0.out]; rfl)
   refine sx_take (i := 7) (oi := ⟨some 113, _, _, _, _, _⟩) (v := ?_) rfl (by kernel_rfl) (by kernel_rfl) (by kernel_rfl) (fun _ _ _ h => h) rfl hX ?_ ?_; rotate_left; (intro W hW; go_simp; try with_reducible rfl); simp only [Act.put, qA, qB, qC]
   refine sx_skip (i := 8) (oi := ⟨some 114, _, _, _, _, _⟩) rfl (by kernel_rfl) (by kernel_rfl) (by kernel_rfl) (fun _ _ _ h => h) rfl hX ?_; simp only [Act.put, qA, qB, qC]
   refine sx_skip (i := 9) (oi := ⟨some 115, _, _, _, _, _⟩) rfl (by kernel_rfl) (by kernel_rfl) (by kernel_rfl) (fun _ _ _ h => h) rfl hX ?_; simp only [Act.put, qA, qB, qC]
   refine sx_skip (i := 10) (oi := ⟨some 116, _, _, _, _, _⟩) rfl (by kernel_rfl) (by kernel_rfl) (by kernel_rfl) (fun _ _ _ h => h) rfl hX ?_; simp only [Act.put, qA, qB, qC]
   refine sx_skip (i := 11) (oi := ⟨some 117, _, _, _, _, _⟩) rfl (by kernel_rfl) (by kernel_rfl) (by kernel_rfl) (fun _ _ _ h => h) rfl hX ?_; simp only [Act.put, qA, qB, qC]
   refine sx_skip (i := 12) (oi := ⟨some 118, _, _, _, _, _⟩) rfl (by kernel_rfl) (by kernel_rfl) (by kernel_rfl) (fun _ _ _ h => h) rfl hX ?_; simp only [Act.put, qA, qB, qC]
   refine sx_take (i := 13) (oi := ⟨some 119, _, _, _, _, _⟩) (v := ?_) rfl (by kernel_rfl) (by kernel_rfl) (by kernel_rfl) (fun _ _ _ h => h) rfl hX ?_ ?_; rotate_left; (intro W hW; go_simp; try with_reducible rfl); simp only [Act.put, qA, qB, qC]
   refine sx_take (i := 14) (oi := ⟨some 120, _, _, _, _, _⟩) (v := ?_) rfl (by kernel_rfl) (by kernel_rfl) (by kernel_rfl) (fun _ _ _ h => h) rfl hX ?_ ?_; rotate_left; (intro W hW; go_simp; try with_reducible rfl); simp only [Act.put, qA, qB, qC]
   refine sx_take (i := 15) (oi := ⟨some 21, _, _, _, _, _⟩) (v := ?_) rfl (by kernel_rfl) (by kernel_rfl) (by kernel_rfl) (fun _ _ _ h => h) rfl hX ?_ ?_; rotate_left; (intro W hW; go_simp; try with_reducible rfl); simp only [Act.put, qA, qB, qC]
   refine wpAnyH_done (by kernel_rfl) ?_ _
   go_wp2_with fail
   refine sx_startB (B := wr.heap.size) (w0 := wr) (by kernel_rfl) hX (fun we hwe hX => ?_)
   clear hwe
   obtain ⟨iq, hiq⟩ : ∃ s, s = lgB x (W.take j) := ⟨_, rfl⟩
   have HIX := qH hiq
   clear hiq
   by_cases hs : s = true
   ·subst hs
    have HSN := qH (show Value.bool true = Value.bool (starJ x W (j + 1)) by rw [starJ, ← HS.out]; rfl)
    refine sx_take (i := 0) (oi := ⟨some 121, _, _, _, _, _⟩) (v := ?_) rfl (by kernel_rfl) (by kernel_rfl) (by kernel_rfl) (fun _ _ _ h => h) rfl hX ?_ ?_; rotate_left; (intro W hW; go_simp; try with_reducible rfl); simp only [Act.put, qA, qB, qC]
    refine sx_take (i := 1) (oi := ⟨some 122, _, _, _, _, _⟩) (v := ?_) rfl (by kernel_rfl) (by kernel_rfl) (by kernel_rfl) (fun _ _ _ h => h) rfl hX ?_ ?_; rotate_left; (intro W hW; go_simp; try with_reducible rfl); simp only [Act.put, qA, qB, qC]
    refine sx_skip (i := 2) (oi := ⟨some 123, _, _, _, _, _⟩) rfl (by kernel_rfl) (by kernel_rfl) (by kernel_rfl) (fun _ _ _ h => h) rfl hX ?_; simp only [Act.put, qA, qB, qC]
    refine sx_skip (i := 3) (oi := ⟨some 124, _, _, _, _, _⟩) rfl (by kernel_rfl) (by kernel_rfl) (by kernel_rfl) (fun _ _ _ h => h) rfl hX ?_; simp only [Act.put, qA, qB, qC]
    refine sx_skip (i := 4) (oi := ⟨some 125, _, _, _, _, _⟩) rfl (by kernel_rfl) (by kernel_rfl) (by kernel_rfl) (fun _ _ _ h => h) rfl hX ?_; simp only [Act.put, qA, qB, qC]
    refine sx_skip (i := 5) (oi := ⟨some 126, _, _, _, _, _⟩) rfl (by kernel_rfl) (by kernel_rfl) (by kernel_rfl) (fun _ _ _ h => h) rfl hX ?_; simp only [Act.put, qA, qB, qC]
    refine sx_skip (i := 6) (oi := ⟨some 127, _, _, _, _, _⟩) rfl (by kernel_rfl) (by kernel_rfl) (by kernel_rfl) (fun _ _ _ h => h) rfl hX ?_; simp only [Act.put, qA, qB, qC]
    refine sx_skip (i := 7) (oi := ⟨some 128, _, _, _, _, _⟩) rfl (by kernel_rfl) (by kernel_rfl) (by kernel_rfl) (fun _ _ _ h => h) rfl hX ?_; simp only [Act.put, qA, qB, qC]
    refine sx_skip (i := 8) (oi := ⟨some 129, _, _, _, _, _⟩) rfl (by kernel_rfl) (by kernel_rfl) (by kernel_rfl) (fun _ _ _ h => h) rfl hX ?_; simp only [Act.put, qA, qB, qC]
    refine sx_skip (i := 9) (oi := ⟨some 130, _, _, _, _, _⟩) rfl (by kernel_rfl) (by kernel_rfl) (by kernel_rfl) (fun _ _ _ h => h) rfl hX ?_; simp only [Act.put, qA, qB, qC]
    refine sx_skip (i := 10) (oi := ⟨some 131, _, _, _, _, _⟩) rfl (by kernel_rfl) (by kernel_rfl) (by kernel_rfl) (fun _ _ _ h => h) rfl hX ?_; simp only [Act.put, qA, qB, qC]
    refine sx_skip (i := 11) (oi := ⟨some 132, _, _, _, _, _⟩) rfl (by kernel_rfl) (by kernel_rfl) (by kernel_rfl) (fun _ _ _ h => h) rfl hX ?_; simp only [Act.put, qA, qB, qC]
    refine sx_skip (i := 12) (oi := ⟨some 133, _, _, _, _, _⟩) rfl (by kernel_rfl) (by kernel_rfl) (by kernel_rfl) (fun _ _ _ h => h) rfl hX ?_; simp only [Act.put, qA, qB, qC]
    refine sx_skip (i := 13) (oi := ⟨some 134, _, _, _, _, _⟩) rfl (by kernel_rfl) (by kernel_rfl) (by kernel_rfl) (fun _ _ _ h => h) rfl hX ?_; simp only [Act.put, qA, qB, qC]
    refine sx_skip (i := 14) (oi := ⟨some 135, _, _, _, _, _⟩) rfl (by kernel_rfl) (by kernel_rfl) (by kernel_rfl) (fun _ _ _ h => h) rfl hX ?_; simp only [Act.put, qA, qB, qC]
    refine sx_skip (i := 15) (oi := ⟨some 136, _, _, _, _, _⟩) rfl (by kernel_rfl) (by kernel_rfl) (by kernel_rfl) (fun _ _ _ h => h) rfl hX ?_; simp only [Act.put, qA, qB, qC]
    refine sx_skip (i := 16) (oi := ⟨some 137, _, _, _, _, _⟩) rfl (by kernel_rfl) (by kernel_rfl) (by kernel_rfl) (fun _ _ _ h => h) rfl hX ?_; simp only [Act.put, qA, qB, qC]
    refine sx_skip (i := 17) (oi := ⟨some 138, _, _, _, _, _⟩) rfl (by kernel_rfl) (by kernel_rfl) (by kernel_rfl) (fun _ _ _ h => h) rfl hX ?_; simp only [Act.put, qA, qB, qC]
    refine sx_take (i := 18) (oi := ⟨some 139, _, _, _, _, _⟩) (v := ?_) rfl (by kernel_rfl) (by kernel_rfl) (by kernel_rfl) (fun _ _ _ h => h) rfl hX ?_ ?_; rotate_left; (intro W hW; go_simp; try with_reducible rfl); simp only [Act.put, qA, qB, qC]
    refine sx_take (i := 19) (oi := ⟨some 22, _, _, _, _, _⟩) (v := ?_) rfl (by kernel_rfl) (by kernel_rfl) (by kernel_rfl) (fun _ _ _ h => h) rfl hX ?_ ?_; rotate_left; (intro W hW; go_simp; try with_reducible rfl); simp only [Act.put, qA, qB, qC]
    refine wpAnyH_done (by kernel_rfl) ?_ _
    have BE := qH (BQ.out.trans (hX.mono BQ.out.size))
    clear hX
    have e3 := HE3.out
    have e4 := HE4.out
    go_wp2_with fail
    exact ⟨⟨j + 1, HJ1.out, by congr 1, HCN.out, HSN.out, BE.out⟩, by simpa [intOf] using HMS.out⟩
   obtain rfl : s = false := by simpa using hs
   clear hs
   by_cases hj0 : j = 0
   ·have z0 : decide ((0 : Int) < (j : Int)) = false := decide_eq_false (by omega)
    have HSN := qH (show Value.bool false = Value.bool (starJ x W (j + 1)) by rw [starJ, ← HS.out, z0]; rfl)
    clear hj0
    refine sx_take (i := 0) (oi := ⟨some 121, _, _, _, _, _⟩) (v := ?_) rfl (by kernel_rfl) (by kernel_rfl) (by kernel_rfl) (fun _ _ _ h => h) rfl hX ?_ ?_; rotate_left; (intro W hW; go_simp; try with_reducible rfl); simp only [Act.put, qA, qB, qC]
    refine sx_take (i := 1) (oi := ⟨some 122, _, _, _, _, _⟩) (v := ?_) rfl (by kernel_rfl) (by kernel_rfl) (by kernel_rfl) (fun _ _ _ h => h) rfl hX ?_ ?_; rotate_left; (intro W hW; go_simp; try with_reducible rfl); simp only [Act.put, qA, qB, qC]
    refine sx_take (i := 2) (oi := ⟨some 123, _, _, _, _, _⟩) (v := ?_) rfl (by kernel_rfl) (by kernel_rfl) (by kernel_rfl) (fun _ _ _ h => h) rfl hX ?_ ?_; rotate_left; (intro W hW; go_simp; try with_reducible rfl); simp only [Act.put, qA, qB, qC]
    refine sx_take (i := 3) (oi := ⟨some 124, _, _, _, _, _⟩) (v := .bool false) rfl (by kernel_rfl) (by kernel_rfl) (by kernel_rfl) (fun _ _ _ h => h) rfl hX (fun V _ => gt_at _ rfl rfl rfl z0 V) ?_; simp only [Act.put, qA, qB, qC]
    refine sx_take (i := 4) (oi := ⟨some 125, _, _, _, _, _⟩) (v := ?_) rfl (by kernel_rfl) (by kernel_rfl) (by kernel_rfl) (fun _ _ _ h => h) rfl hX ?_ ?_; rotate_left; (intro W hW; go_simp; try with_reducible rfl); simp only [Act.put, qA, qB, qC]
    refine sx_skip (i := 5) (oi := ⟨some 126, _, _, _, _, _⟩) rfl (by kernel_rfl) (by kernel_rfl) (by kernel_rfl) (fun _ _ _ h => h) rfl hX ?_; simp only [Act.put, qA, qB, qC]
    refine sx_skip (i := 6) (oi := ⟨some 127, _, _, _, _, _⟩) rfl (by kernel_rfl) (by kernel_rfl) (by kernel_rfl) (fun _ _ _ h => h) rfl hX ?_; simp only [Act.put, qA, qB, qC]
    refine sx_skip (i := 7) (oi := ⟨some 128, _, _, _, _, _⟩) rfl (by kernel_rfl) (by kernel_rfl) (by kernel_rfl) (fun _ _ _ h => h) rfl hX ?_; simp only [Act.put, qA, qB, qC]
    refine sx_skip (i := 8) (oi := ⟨some 129, _, _, _, _, _⟩) rfl (by kernel_rfl) (by kernel_rfl) (by kernel_rfl) (fun _ _ _ h => h) rfl hX ?_; simp only [Act.put, qA, qB, qC]
    refine sx_skip (i := 9) (oi := ⟨some 130, _, _, _, _, _⟩) rfl (by kernel_rfl) (by kernel_rfl) (by kernel_rfl) (fun _ _ _ h => h) rfl hX ?_; simp only [Act.put, qA, qB, qC]
    refine sx_take (i := 10) (oi := ⟨some 131, _, _, _, _, _⟩) (v := ?_) rfl (by kernel_rfl) (by kernel_rfl) (by kernel_rfl) (fun _ _ _ h => h) rfl hX ?_ ?_; rotate_left; (intro W hW; go_simp; try with_reducible rfl); simp only [Act.put, qA, qB, qC]
    refine sx_take (i := 11) (oi := ⟨some 132, _, _, _, _, _⟩) (v := ?_) rfl (by kernel_rfl) (by kernel_rfl) (by kernel_rfl) (fun _ _ _ h => h) rfl hX ?_ ?_; rotate_left; (intro W hW; go_simp; try with_reducible rfl); simp only [Act.put, qA, qB, qC]
    refine sx_skip (i := 12) (oi := ⟨some 133, _, _, _, _, _⟩) rfl (by kernel_rfl) (by kernel_rfl) (by kernel_rfl) (fun _ _ _ h => h) rfl hX ?_; simp only [Act.put, qA, qB, qC]
    refine sx_skip (i := 13) (oi := ⟨some 134, _, _, _, _, _⟩) rfl (by kernel_rfl) (by kernel_rfl) (by kernel_rfl) (fun _ _ _ h => h) rfl hX ?_; simp only [Act.put, qA, qB, qC]
    refine sx_skip (i := 14) (oi := ⟨some 135, _, _, _, _, _⟩) rfl (by kernel_rfl) (by kernel_rfl) (by kernel_rfl) (fun _ _ _ h => h) rfl hX ?_; simp only [Act.put, qA, qB, qC]
    refine sx_skip (i := 15) (oi := ⟨some 136, _, _, _, _, _⟩) rfl (by kernel_rfl) (by kernel_rfl) (by kernel_rfl) (fun _ _ _ h => h) rfl hX ?_; simp only [Act.put, qA, qB, qC]
    refine sx_skip (i := 16) (oi := ⟨some 137, _, _, _, _, _⟩) rfl (by kernel_rfl) (by kernel_rfl) (by kernel_rfl) (fun _ _ _ h => h) rfl hX ?_; simp only [Act.put, qA, qB, qC]
    refine sx_take (i := 17) (oi := ⟨some 138, _, _, _, _, _⟩) (v := ?_) rfl (by kernel_rfl) (by kernel_rfl) (by kernel_rfl) (fun _ _ _ h => h) rfl hX ?_ ?_; rotate_left; (intro W hW; go_simp; try with_reducible rfl); simp only [Act.put, qA, qB, qC]
    refine sx_take (i := 18) (oi := ⟨some 139, _, _, _, _, _⟩) (v := ?_) rfl (by kernel_rfl) (by kernel_rfl) (by kernel_rfl) (fun _ _ _ h => h) rfl hX ?_ ?_; rotate_left; (intro W hW; go_simp; try with_reducible rfl); simp only [Act.put, qA, qB, qC]
    refine sx_take (i := 19) (oi := ⟨some 22, _, _, _, _, _⟩) (v := ?_) rfl (by kernel_rfl) (by kernel_rfl) (by kernel_rfl) (fun _ _ _ h => h) rfl hX ?_ ?_; rotate_left; (intro W hW; go_simp; try with_reducible rfl); simp only [Act.put, qA, qB, qC]
    clear z0
    refine wpAnyH_done (by kernel_rfl) ?_ _
    have BE := qH (BQ.out.trans (hX.mono BQ.out.size))
    clear hX
    have e3 := HE3.out
    have e4 := HE4.out
    go_wp2_with fail
    exact ⟨⟨j + 1, HJ1.out, by congr 1, HCN.out, HSN.out, BE.out⟩, by simpa [intOf] using HMS.out⟩
   have z0 : decide ((0 : Int) < (j : Int)) = true := decide_eq_true (by omega)
   have HZJ := qH z0
   clear hj0
   refine sx_take (i := 0) (oi := ⟨some 121, _, _, _, _, _⟩) (v := ?_) rfl (by kernel_rfl) (by kernel_rfl) (by kernel_rfl) (fun _ _ _ h => h) rfl hX ?_ ?_; rotate_left; (intro W hW; go_simp; try with_reducible rfl); simp only [Act.put, qA, qB, qC]
   refine sx_take (i := 1) (oi := ⟨some 122, _, _, _, _, _⟩) (v := ?_) rfl (by kernel_rfl) (by kernel_rfl) (by kernel_rfl) (fun _ _ _ h => h) rfl hX ?_ ?_; rotate_left; (intro W hW; go_simp; try with_reducible rfl); simp only [Act.put, qA, qB, qC]
   refine sx_take (i := 2) (oi := ⟨some 123, _, _, _, _, _⟩) (v := ?_) rfl (by kernel_rfl) (by kernel_rfl) (by kernel_rfl) (fun _ _ _ h => h) rfl hX ?_ ?_; rotate_left; (intro W hW; go_simp; try with_reducible rfl); simp only [Act.put, qA, qB, qC]
   refine sx_take (i := 3) (oi := ⟨some 124, _, _, _, _, _⟩) (v := .bool true) rfl (by kernel_rfl) (by kernel_rfl) (by kernel_rfl) (fun _ _ _ h => h) rfl hX (fun V _ => gt_at _ rfl rfl rfl HZJ.out V) ?_; simp only [Act.put, qA, qB, qC]
   refine sx_take (i := 4) (oi := ⟨some 125, _, _, _, _, _⟩) (v := ?_) rfl (by kernel_rfl) (by kernel_rfl) (by kernel_rfl) (fun _ _ _ h => h) rfl hX ?_ ?_; rotate_left; (intro W hW; go_simp; try with_reducible rfl); simp only [Act.put, qA, qB, qC]
   refine sx_take (i := 5) (oi := ⟨some 126, _, _, _, _, _⟩) (v := .agg ns1.toArray) rfl (by kernel_rfl) (by kernel_rfl) (by kernel_rfl) (fun _ _ _ h => h) rfl hX (ld_blk 24 _ rfl wa1.heap.size rfl 24 ns1 _ P1.out.1 P1.out.1.lt Try.underlying24 rfl (size_nfa N31.out)) ?_; simp only [Act.put, qA, qB, qC]
   refine sx_take (i := 6) (oi := ⟨some 127, _, _, _, _, _⟩) (v := ?_) rfl (by kernel_rfl) (by kernel_rfl) (by kernel_rfl) (fun _ _ _ h => h) rfl hX ?_ ?_; rotate_left; (intro W hW; go_simp; try with_reducible rfl); simp only [Act.put, qA, qB, qC]
   refine sx_take (i := 7) (oi := ⟨some 128, _, _, _, _, _⟩) (v := ?_) rfl (by kernel_rfl) (by kernel_rfl) (by kernel_rfl) (fun _ _ _ h => h) rfl hX ?_ ?_; rotate_left; (intro W hW; go_simp; try with_reducible rfl); simp only [Act.put, qA, qB, qC]
   refine sx_take (i := 8) (oi := ⟨some 129, _, _, _, _, _⟩) (v := slT A6 cap6 j) rfl (by kernel_rfl) (by kernel_rfl) (by kernel_rfl) (fun _ _ _ h => h) rfl hX (fun V _ => sl_to _ _ rfl rfl rfl HJC.out V) ?_; simp only [Act.put, qA, qB, qC]
   refine sx_actB (i := 9) (o := ⟨some 130, _, _, _, _, _⟩) rfl (by kernel_rfl) rfl hX (fun K hK => ?_)
   go_wp2_with fail
   refine ((P1.out.below hX).run HE1.out (W.take j) _ (slT_row (RX.out.below hX) j HJL.out)).mono ?_
   rintro e wf ⟨rfl, hb⟩
   rw [← HIX.out]
   go_wp2_with fail
   refine hK _ _ (hb.mono hX.size) ?_
   clear hK K
   (try simp only [Act.put, qA, qB, qC])
   replace hX := hX.trans (hb.mono hX.size)
   clear hb
   by_cases hxj : iq = true
   ·have HIX' := qH (show true = lgB x (W.take j) by rw [← hxj]; exact HIX.out)
    subst hxj
    have HSN := qH (show Value.bool iz = Value.bool (starJ x W (j + 1)) by rw [starJ, ← HS.out, HZJ.out, ← HIX.out, ← HIZ.out]; rfl)
    refine sx_take (i := 10) (oi := ⟨some 131, _, _, _, _, _⟩) (v := ?_) rfl (by kernel_rfl) (by kernel_rfl) (by kernel_rfl) (fun _ _ _ h => h) rfl hX ?_ ?_; rotate_left; (intro W hW; go_simp; try with_reducible rfl); simp only [Act.put, qA, qB, qC]
    refine sx_take (i := 11) (oi := ⟨some 132, _, _, _, _, _⟩) (v := ?_) rfl (by kernel_rfl) (by kernel_rfl) (by kernel_rfl) (fun _ _ _ h => h) rfl hX ?_ ?_; rotate_left; (intro W hW; go_simp; try with_reducible rfl); simp only [Act.put, qA, qB, qC]
    refine sx_take (i := 12) (oi := ⟨some 133, _, _, _, _, _⟩) (v := .agg ns5.toArray) rfl (by kernel_rfl) (by kernel_rfl) (by kernel_rfl) (fun _ _ _ h => h) rfl hX (ld_blk 24 _ rfl wa5.heap.size rfl 24 ns5 _ P5.out.1 P5.out.1.lt Try.underlying24 rfl (size_nfa N35.out)) ?_; simp only [Act.put, qA, qB, qC]
    refine sx_take (i := 13) (oi := ⟨some 134, _, _, _, _, _⟩) (v := ?_) rfl (by kernel_rfl) (by kernel_rfl) (by kernel_rfl) (fun _ _ _ h => h) rfl hX ?_ ?_; rotate_left; (intro W hW; go_simp; try with_reducible rfl); simp only [Act.put, qA, qB, qC]
    refine sx_take (i := 14) (oi := ⟨some 135, _, _, _, _, _⟩) (v := ?_) rfl (by kernel_rfl) (by kernel_rfl) (by kernel_rfl) (fun _ _ _ h => h) rfl hX ?_ ?_; rotate_left; (intro W hW; go_simp; try with_reducible rfl); simp only [Act.put, qA, qB, qC]
    refine sx_take (i := 15) (oi := ⟨some 136, _, _, _, _, _⟩) (v := slF A6 W.length cap6 j) rfl (by kernel_rfl) (by kernel_rfl) (by kernel_rfl) (fun _ _ _ h => h) rfl hX (fun V _ => sl_from _ _ rfl rfl rfl HJL.out V) ?_; simp only [Act.put, qA, qB, qC]
    refine sx_actB (i := 16) (o := ⟨some 137, _, _, _, _, _⟩) rfl (by kernel_rfl) rfl hX (fun K hK => ?_)
    go_wp2_with fail
    refine ((P5.out.below hX).run HE5.out (W.drop j) _ (slF_row (RX.out.below hX) j HJL.out)).mono ?_
    rintro e wg ⟨rfl, hb⟩
    rw [← HIZ.out]
    go_wp2_with fail
    refine hK _ _ (hb.mono hX.size) ?_
    clear hK K
    (try simp only [Act.put, qA, qB, qC])
    replace hX := hX.trans (hb.mono hX.size)
    clear hb
    refine sx_take (i := 17) (oi := ⟨some 138, _, _, _, _, _⟩) (v := ?_) rfl (by kernel_rfl) (by kernel_rfl) (by kernel_rfl) (fun _ _ _ h => h) rfl hX ?_ ?_; rotate_left; (intro W hW; go_simp; try with_reducible rfl); simp only [Act.put, qA, qB, qC]
    refine sx_take (i := 18) (oi := ⟨some 139, _, _, _, _, _⟩) (v := ?_) rfl (by kernel_rfl) (by kernel_rfl) (by kernel_rfl) (fun _ _ _ h => h) rfl hX ?_ ?_; rotate_left; (intro W hW; go_simp; try with_reducible rfl); simp only [Act.put, qA, qB, qC]
    refine sx_take (i := 19) (oi := ⟨some 22, _, _, _, _, _⟩) (v := ?_) rfl (by kernel_rfl) (by kernel_rfl) (by kernel_rfl) (fun _ _ _ h => h) rfl hX ?_ ?_; rotate_left; (intro W hW; go_simp; try with_reducible rfl); simp only [Act.put, qA, qB, qC]
    refine wpAnyH_done (by kernel_rfl) ?_ _
    have BE := qH (BQ.out.trans (hX.mono BQ.out.size))
    clear hX
    have e3 := HE3.out
    have e4 := HE4.out
    go_wp2_with fail
    exact ⟨⟨j + 1, HJ1.out, by congr 1, HCN.out, HSN.out, BE.out⟩, by simpa [intOf] using HMS.out⟩
   obtain rfl : iq = false := by simpa using hxj
   clear hxj
   have HSN := qH (show Value.bool false = Value.bool (starJ x W (j + 1)) by rw [starJ, ← HS.out, HZJ.out, ← HIX.out]; rfl)
   refine sx_take (i := 10) (oi := ⟨some 131, _, _, _, _, _⟩) (v := ?_) rfl (by kernel_rfl) (by kernel_rfl) (by kernel_rfl) (fun _ _ _ h => h) rfl hX ?_ ?_; rotate_left; (intro W hW; go_simp; try with_reducible rfl); simp only [Act.put, qA, qB, qC]
   refine sx_take (i := 11) (oi := ⟨some 132, _, _, _, _, _⟩) (v := ?_) rfl (by kernel_rfl) (by kernel_rfl) (by kernel_rfl) (fun _ _ _ h => h) rfl hX ?_ ?_; rotate_left; (intro W hW; go_simp; try with_reducible rfl); simp only [Act.put, qA, qB, qC]
   refine sx_skip (i := 12) (oi := ⟨some 133, _, _, _, _, _⟩) rfl (by kernel_rfl) (by kernel_rfl) (by kernel_rfl) (fun _ _ _ h => h) rfl hX ?_; simp only [Act.put, qA, qB, qC]
   refine sx_skip (i := 13) (oi := ⟨some 134, _, _, _, _, _⟩) rfl (by kernel_rfl) (by kernel_rfl) (by kernel_rfl) (fun _ _ _ h => h) rfl hX ?_; simp only [Act.put, qA, qB, qC]
   refine sx_skip (i := 14) (oi := ⟨some 135, _, _, _, _, _⟩) rfl (by kernel_rfl) (by kernel_rfl) (by kernel_rfl) (fun _ _ _ h => h) rfl hX ?_; simp only [Act.put, qA, qB, qC]
   refine sx_skip (i := 15) (oi := ⟨some 136, _, _, _, _, _⟩) rfl (by kernel_rfl) (by kernel_rfl) (by kernel_rfl) (fun _ _ _ h => h) rfl hX ?_; simp only [Act.put, qA, qB, qC]
   refine sx_skip (i := 16) (oi := ⟨some 137, _, _, _, _, _⟩) rfl (by kernel_rfl) (by kernel_rfl) (by kernel_rfl) (fun _ _ _ h => h) rfl hX ?_; simp only [Act.put, qA, qB, qC]
   refine sx_take (i := 17) (oi := ⟨some 138, _, _, _, _, _⟩) (v := ?_) rfl (by kernel_rfl) (by kernel_rfl) (by kernel_rfl) (fun _ _ _ h => h) rfl hX ?_ ?_; rotate_left; (intro W hW; go_simp; try with_reducible rfl); simp only [Act.put, qA, qB, qC]
   refine sx_take (i := 18) (oi := ⟨some 139, _, _, _, _, _⟩) (v := ?_) rfl (by kernel_rfl) (by kernel_rfl) (by kernel_rfl) (fun _ _ _ h => h) rfl hX ?_ ?_; rotate_left; (intro W hW; go_simp; try with_reducible rfl); simp only [Act.put, qA, qB, qC]
   refine sx_take (i := 19) (oi := ⟨some 22, _, _, _, _, _⟩) (v := ?_) rfl (by kernel_rfl) (by kernel_rfl) (by kernel_rfl) (fun _ _ _ h => h) rfl hX ?_ ?_; rotate_left; (intro W hW; go_simp; try with_reducible rfl); simp only [Act.put, qA, qB, qC]
   refine wpAnyH_done (by kernel_rfl) ?_ _
   have BE := qH (BQ.out.trans (hX.mono BQ.out.size))
   clear hX
   have e3 := HE3.out
   have e4 := HE4.out
   go_wp2_with fail
   exact ⟨⟨j + 1, HJ1.out, by congr 1, HCN.out, HSN.out, BE.out⟩, by simpa [intOf] using HMS.out⟩
  ·obtain rfl : j = W.length + 1 := by omega
   have j1 : ¬ (((W.length + 1 : Nat) : Int) ≤ (W.length : Int)) := by omega
   have HCM := qH (cat_means x y W)
   have HSM := qH (star_means HGX.out W)
   have HAM := qH (alt_means HGX.out HGY.out W)
   obtain ⟨cv, hcv⟩ : ∃ c, c = catJ x y W (W.length + 1) := ⟨_, rfl⟩
   obtain ⟨sv, hsv⟩ : ∃ c, c = starJ x W (W.length + 1) := ⟨_, rfl⟩
   obtain ⟨xi, hxi⟩ : ∃ c, c = lgB x W := ⟨_, rfl⟩
   obtain ⟨yi, hyi⟩ : ∃ c, c = lgB y W := ⟨_, rfl⟩
   rw [← hcv, ← hsv]
   rw [← hcv] at HCM
   rw [← hsv] at HSM
   rw [← hxi, ← hyi] at HAM
   have HXI := qH hxi
   have HYI := qH hyi
   clear hcv hsv hxi hyi hj hjl
   cases xi with
   | true =>
    replace HAM := qH (HAM.out.trans (Bool.true_or yi))
    go_wp2_with fail
    refine sx_startB (B := wr.heap.size) (w0 := wr) (by kernel_rfl) (Below.refl _ _) (fun wd hwd hX => ?_)
    clear hwd
    refine sx_take (i := 0) (oi := ⟨some 140, _, _, _, _, _⟩) (v := .agg ns3.toArray) rfl (by kernel_rfl) (by kernel_rfl) (by kernel_rfl) (fun _ _ _ h => h) rfl hX (ld_blk 24 _ rfl wa3.heap.size rfl 24 ns3 _ P3.out.1 P3.out.1.lt Try.underlying24 rfl (size_nfa N33.out)) ?_; simp only [Act.put, qA, qB, qC]
    refine sx_take (i := 1) (oi := ⟨some 141, _, _, _, _, _⟩) (v := ?_) rfl (by kernel_rfl) (by kernel_rfl) (by kernel_rfl) (fun _ _ _ h => h) rfl hX ?_ ?_; rotate_left; (intro W hW; go_simp; try with_reducible rfl); simp only [Act.put, qA, qB, qC]
    refine sx_take (i := 3) (oi := ⟨some 143, _, _, _, _, _⟩) (v := ?_) rfl (by kernel_rfl) (by kernel_rfl) (by kernel_rfl) (fun _ _ _ h => h) rfl hX ?_ ?_; rotate_left; (intro W hW; go_simp; try with_reducible rfl); simp only [Act.put, qA, qB, qC]
    refine sx_actB (i := 2) (o := ⟨some 142, _, _, _, _, _⟩) rfl (by kernel_rfl) rfl hX (fun K hK => ?_)
    go_wp2_with fail
    refine ((P3.out.below hX).run HE3'.out W _ (RX.out.below hX)).mono ?_
    rintro e we ⟨rfl, hb⟩
    rw [HCM.out]
    go_wp2_with fail
    refine hK _ _ (hb.mono hX.size) ?_
    clear hK K
    (try simp only [Act.put, qA, qB, qC])
    replace hX := hX.trans (hb.mono hX.size)
    clear hb
    refine sx_take (i := 4) (oi := ⟨some 144, _, _, _, _, _⟩) (v := .bool true) rfl (by kernel_rfl) (by kernel_rfl) (by kernel_rfl) (fun _ _ _ h => h) rfl hX (fun V _ => ex_eqB (.tmp 142) (.tmp 143) rfl rfl rfl V) ?_; simp only [Act.put, qA, qB, qC]
    refine sx_take (i := 5) (oi := ⟨some 145, _, _, _, _, _⟩) (v := ?_) rfl (by kernel_rfl) (by kernel_rfl) (by kernel_rfl) (fun _ _ _ h => h) rfl hX ?_ ?_; rotate_left; (intro W hW; go_simp; try with_reducible rfl); simp only [Act.put, qA, qB, qC]
    refine sx_take (i := 6) (oi := ⟨some 146, _, _, _, _, _⟩) (v := .agg ns4.toArray) rfl (by kernel_rfl) (by kernel_rfl) (by kernel_rfl) (fun _ _ _ h => h) rfl hX (ld_blk 24 _ rfl wa4.heap.size rfl 24 ns4 _ P4.out.1 P4.out.1.lt Try.underlying24 rfl (size_nfa N34.out)) ?_; simp only [Act.put, qA, qB, qC]
    refine sx_take (i := 7) (oi := ⟨some 147, _, _, _, _, _⟩) (v := ?_) rfl (by kernel_rfl) (by kernel_rfl) (by kernel_rfl) (fun _ _ _ h => h) rfl hX ?_ ?_; rotate_left; (intro W hW; go_simp; try with_reducible rfl); simp only [Act.put, qA, qB, qC]
    refine sx_take (i := 9) (oi := ⟨some 149, _, _, _, _, _⟩) (v := .agg ns1.toArray) rfl (by kernel_rfl) (by kernel_rfl) (by kernel_rfl) (fun _ _ _ h => h) rfl hX (ld_blk 24 _ rfl wa1.heap.size rfl 24 ns1 _ P1.out.1 P1.out.1.lt Try.underlying24 rfl (size_nfa N31.out)) ?_; simp only [Act.put, qA, qB, qC]
    refine sx_take (i := 10) (oi := ⟨some 150, _, _, _, _, _⟩) (v := ?_) rfl (by kernel_rfl) (by kernel_rfl) (by kernel_rfl) (fun _ _ _ h => h) rfl hX ?_ ?_; rotate_left; (intro W hW; go_simp; try with_reducible rfl); simp only [Act.put, qA, qB, qC]
    refine sx_actB (i := 8) (o := ⟨some 148, _, _, _, _, _⟩) rfl (by kernel_rfl) rfl hX (fun K hK => ?_)
    go_wp2_with fail
    refine ((P4.out.below hX).run HE4'.out W _ (RX.out.below hX)).mono ?_
    rintro e wf ⟨rfl, hb⟩
    rw [HAM.out]
    go_wp2_with fail
    refine hK _ _ (hb.mono hX.size) ?_
    clear hK K
    (try simp only [Act.put, qA, qB, qC])
    replace hX := hX.trans (hb.mono hX.size)
    clear hb
    refine sx_actB (i := 11) (o := ⟨some 151, _, _, _, _, _⟩) rfl (by kernel_rfl) rfl hX (fun K hK => ?_)
    go_wp2_with fail
    refine ((P1.out.below hX).run HE1.out W _ (RX.out.below hX)).mono ?_
    rintro e wg ⟨rfl, hb⟩
    rw [← HXI.out]
    go_wp2_with fail
    refine hK _ _ (hb.mono hX.size) ?_
    clear hK K
    (try simp only [Act.put, qA, qB, qC])
    replace hX := hX.trans (hb.mono hX.size)
    clear hb
    refine sx_take (i := 12) (oi := ⟨some 152, _, _, _, _, _⟩) (v := ?_) rfl (by kernel_rfl) (by kernel_rfl) (by kernel_rfl) (fun _ _ _ h => h) rfl hX ?_ ?_; rotate_left; (intro W hW; go_simp; try with_reducible rfl); simp only [Act.put, qA, qB, qC]
    refine sx_skip (i := 13) (oi := ⟨some 153, _, _, _, _, _⟩) rfl (by kernel_rfl) (by kernel_rfl) (by kernel_rfl) (fun _ _ _ h => h) rfl hX ?_; simp only [Act.put, qA, qB, qC]
    refine sx_skip (i := 14) (oi := ⟨some 154, _, _, _, _, _⟩) rfl (by kernel_rfl) (by kernel_rfl) (by kernel_rfl) (fun _ _ _ h => h) rfl hX ?_; simp only [Act.put, qA, qB, qC]
    refine sx_skip (i := 15) (oi := ⟨some 155, _, _, _, _, _⟩) rfl (by kernel_rfl) (by kernel_rfl) (by kernel_rfl) (fun _ _ _ h => h) rfl hX ?_; simp only [Act.put, qA, qB, qC]
    refine sx_take (i := 16) (oi := ⟨some 156, _, _, _, _, _⟩) (v := ?_) rfl (by kernel_rfl) (by kernel_rfl) (by kernel_rfl) (fun _ _ _ h => h) rfl hX ?_ ?_; rotate_left; (intro W hW; go_simp; try with_reducible rfl); simp only [Act.put, qA, qB, qC]
    refine sx_take (i := 17) (oi := ⟨some 157, _, _, _, _, _⟩) (v := .bool true) rfl (by kernel_rfl) (by kernel_rfl) (by kernel_rfl) (fun _ _ _ h => h) rfl hX (fun V _ => ex_eqB (.tmp 148) (.tmp 156) rfl rfl rfl V) ?_; simp only [Act.put, qA, qB, qC]
    refine sx_take (i := 18) (oi := ⟨some 158, _, _, _, _, _⟩) (v := ?_) rfl (by kernel_rfl) (by kernel_rfl) (by kernel_rfl) (fun _ _ _ h => h) rfl hX ?_ ?_; rotate_left; (intro W hW; go_simp; try with_reducible rfl); simp only [Act.put, qA, qB, qC]
    refine sx_take (i := 19) (oi := ⟨some 159, _, _, _, _, _⟩) (v := ?_) rfl (by kernel_rfl) (by kernel_rfl) (by kernel_rfl) (fun _ _ _ h => h) rfl hX ?_ ?_; rotate_left; (intro W hW; go_simp; try with_reducible rfl); simp only [Act.put, qA, qB, qC]
    refine sx_take (i := 20) (oi := ⟨some 160, _, _, _, _, _⟩) (v := .agg ns5.toArray) rfl (by kernel_rfl) (by kernel_rfl) (by kernel_rfl) (fun _ _ _ h => h) rfl hX (ld_blk 24 _ rfl wa5.heap.size rfl 24 ns5 _ P5.out.1 P5.out.1.lt Try.underlying24 rfl (size_nfa N35.out)) ?_; simp only [Act.put, qA, qB, qC]
    refine sx_take (i := 21) (oi := ⟨some 161, _, _, _, _, _⟩) (v := ?_) rfl (by kernel_rfl) (by kernel_rfl) (by kernel_rfl) (fun _ _ _ h => h) rfl hX ?_ ?_; rotate_left; (intro W hW; go_simp; try with_reducible rfl); simp only [Act.put, qA, qB, qC]
    refine sx_take (i := 23) (oi := ⟨some 163, _, _, _, _, _⟩) (v := ?_) rfl (by kernel_rfl) (by kernel_rfl) (by kernel_rfl) (fun _ _ _ h => h) rfl hX ?_ ?_; rotate_left; (intro W hW; go_simp; try with_reducible rfl); simp only [Act.put, qA, qB, qC]
    refine sx_actB (i := 22) (o := ⟨some 162, _, _, _, _, _⟩) rfl (by kernel_rfl) rfl hX (fun K hK => ?_)
    go_wp2_with fail
    refine ((P5.out.below hX).run HE5.out W _ (RX.out.below hX)).mono ?_
    rintro e wi ⟨rfl, hb⟩
    rw [HSM.out]
    go_wp2_with fail
    refine hK _ _ (hb.mono hX.size) ?_
    clear hK K
    (try simp only [Act.put, qA, qB, qC])
    replace hX := hX.trans (hb.mono hX.size)
    clear hb
    refine sx_take (i := 24) (oi := ⟨some 164, _, _, _, _, _⟩) (v := .bool true) rfl (by kernel_rfl) (by kernel_rfl) (by kernel_rfl) (fun _ _ _ h => h) rfl hX (fun V _ => ex_eqB (.tmp 162) (.tmp 163) rfl rfl rfl V) ?_; simp only [Act.put, qA, qB, qC]
    refine sx_take (i := 25) (oi := ⟨some 165, _, _, _, _, _⟩) (v := ?_) rfl (by kernel_rfl) (by kernel_rfl) (by kernel_rfl) (fun _ _ _ h => h) rfl hX ?_ ?_; rotate_left; (intro W hW; go_simp; try with_reducible rfl); simp only [Act.put, qA, qB, qC]
    refine sx_take (i := 26) (oi := ⟨some 6, _, _, _, _, _⟩) (v := ?_) rfl (by kernel_rfl) (by kernel_rfl) (by kernel_rfl) (fun _ _ _ h => h) rfl hX ?_ ?_; rotate_left; (intro W hW; go_simp; try with_reducible rfl); simp only [Act.put, qA, qB, qC]
    refine wpAnyH_done (by kernel_rfl) ?_ _
    have BZ := qH (BXW.out.trans (hX.mono BXW.out.size))
    clear hX
    go_wp2_with fail
    go_ret
    exact ⟨rfl, BZ.out⟩
   | false =>
    replace HAM := qH (HAM.out.trans (Bool.false_or yi))
    go_wp2_with fail
    refine sx_startB (B := wr.heap.size) (w0 := wr) (by kernel_rfl) (Below.refl _ _) (fun wd hwd hX => ?_)
    clear hwd
    refine sx_take (i := 0) (oi := ⟨some 140, _, _, _, _, _⟩) (v := .agg ns3.toArray) rfl (by kernel_rfl) (by kernel_rfl) (by kernel_rfl) (fun _ _ _ h => h) rfl hX (ld_blk 24 _ rfl wa3.heap.size rfl 24 ns3 _ P3.out.1 P3.out.1.lt Try.underlying24 rfl (size_nfa N33.out)) ?_; simp only [Act.put, qA, qB, qC]
    refine sx_take (i := 1) (oi := ⟨some 141, _, _, _, _, _⟩) (v := ?_) rfl (by kernel_rfl) (by kernel_rfl) (by kernel_rfl) (fun _ _ _ h => h) rfl hX ?_ ?_; rotate_left; (intro W hW; go_simp; try with_reducible rfl); simp only [Act.put, qA, qB, qC]
    refine sx_take (i := 3) (oi := ⟨some 143, _, _, _, _, _⟩) (v := ?_) rfl (by kernel_rfl) (by kernel_rfl) (by kernel_rfl) (fun _ _ _ h => h) rfl hX ?_ ?_; rotate_left; (intro W hW; go_simp; try with_reducible rfl); simp only [Act.put, qA, qB, qC]
    refine sx_actB (i := 2) (o := ⟨some 142, _, _, _, _, _⟩) rfl (by kernel_rfl) rfl hX (fun K hK => ?_)
    go_wp2_with fail
    refine ((P3.out.below hX).run HE3'.out W _ (RX.out.below hX)).mono ?_
    rintro e we ⟨rfl, hb⟩
    rw [HCM.out]
    go_wp2_with fail
    refine hK _ _ (hb.mono hX.size) ?_
    clear hK K
    (try simp only [Act.put, qA, qB, qC])
    replace hX := hX.trans (hb.mono hX.size)
    clear hb
    refine sx_take (i := 4) (oi := ⟨some 144, _, _, _, _, _⟩) (v := .bool true) rfl (by kernel_rfl) (by kernel_rfl) (by kernel_rfl) (fun _ _ _ h => h) rfl hX (fun V _ => ex_eqB (.tmp 142) (.tmp 143) rfl rfl rfl V) ?_; simp only [Act.put, qA, qB, qC]
    refine sx_take (i := 5) (oi := ⟨some 145, _, _, _, _, _⟩) (v := ?_) rfl (by kernel_rfl) (by kernel_rfl) (by kernel_rfl) (fun _ _ _ h => h) rfl hX ?_ ?_; rotate_left; (intro W hW; go_simp; try with_reducible rfl); simp only [Act.put, qA, qB, qC]
    refine sx_take (i := 6) (oi := ⟨some 146, _, _, _, _, _⟩) (v := .agg ns4.toArray) rfl (by kernel_rfl) (by kernel_rfl) (by kernel_rfl) (fun _ _ _ h => h) rfl hX (ld_blk 24 _ rfl wa4.heap.size rfl 24 ns4 _ P4.out.1 P4.out.1.lt Try.underlying24 rfl (size_nfa N34.out)) ?_; simp only [Act.put, qA, qB, qC]
    refine sx_take (i := 7) (oi := ⟨some 147, _, _, _, _, _⟩) (v := ?_) rfl (by kernel_rfl) (by kernel_rfl) (by kernel_rfl) (fun _ _ _ h => h) rfl hX ?_ ?_; rotate_left; (intro W hW; go_simp; try with_reducible rfl); simp only [Act.put, qA, qB, qC]
    refine sx_take (i := 9) (oi := ⟨some 149, _, _, _, _, _⟩) (v := .agg ns1.toArray) rfl (by kernel_rfl) (by kernel_rfl) (by kernel_rfl) (fun _ _ _ h => h) rfl hX (ld_blk 24 _ rfl wa1.heap.size rfl 24 ns1 _ P1.out.1 P1.out.1.lt Try.underlying24 rfl (size_nfa N31.out)) ?_; simp only [Act.put, qA, qB, qC]
    refine sx_take (i := 10) (oi := ⟨some 150, _, _, _, _, _⟩) (v := ?_) rfl (by kernel_rfl) (by kernel_rfl) (by kernel_rfl) (fun _ _ _ h => h) rfl hX ?_ ?_; rotate_left; (intro W hW; go_simp; try with_reducible rfl); simp only [Act.put, qA, qB, qC]
    refine sx_actB (i := 8) (o := ⟨some 148, _, _, _, _, _⟩) rfl (by kernel_rfl) rfl hX (fun K hK => ?_)
    go_wp2_with fail
    refine ((P4.out.below hX).run HE4'.out W _ (RX.out.below hX)).mono ?_
    rintro e wf ⟨rfl, hb⟩
    rw [HAM.out]
    go_wp2_with fail
    refine hK _ _ (hb.mono hX.size) ?_
    clear hK K
    (try simp only [Act.put, qA, qB, qC])
    replace hX := hX.trans (hb.mono hX.size)
    clear hb
    refine sx_actB (i := 11) (o := ⟨some 151, _, _, _, _, _⟩) rfl (by kernel_rfl) rfl hX (fun K hK => ?_)
    go_wp2_with fail
    refine ((P1.out.below hX).run HE1.out W _ (RX.out.below hX)).mono ?_
    rintro e wg ⟨rfl, hb⟩
    rw [← HXI.out]
    go_wp2_with fail
    refine hK _ _ (hb.mono hX.size) ?_
    clear hK K
    (try simp only [Act.put, qA, qB, qC])
    replace hX := hX.trans (hb.mono hX.size)
    clear hb
    refine sx_take (i := 12) (oi := ⟨some 152, _, _, _, _, _⟩) (v := ?_) rfl (by kernel_rfl) (by kernel_rfl) (by kernel_rfl) (fun _ _ _ h => h) rfl hX ?_ ?_; rotate_left; (intro W hW; go_simp; try with_reducible rfl); simp only [Act.put, qA, qB, qC]
    refine sx_take (i := 13) (oi := ⟨some 153, _, _, _, _, _⟩) (v := .agg ns2.toArray) rfl (by kernel_rfl) (by kernel_rfl) (by kernel_rfl) (fun _ _ _ h => h) rfl hX (ld_blk 24 _ rfl wa2.heap.size rfl 24 ns2 _ P2.out.1 P2.out.1.lt Try.underlying24 rfl (size_nfa N32.out)) ?_; simp only [Act.put, qA, qB, qC]
    refine sx_take (i := 14) (oi := ⟨some 154, _, _, _, _, _⟩) (v := ?_) rfl (by kernel_rfl) (by kernel_rfl) (by kernel_rfl) (fun _ _ _ h => h) rfl hX ?_ ?_; rotate_left; (intro W hW; go_simp; try with_reducible rfl); simp only [Act.put, qA, qB, qC]
    refine sx_actB (i := 15) (o := ⟨some 155, _, _, _, _, _⟩) rfl (by kernel_rfl) rfl hX (fun K hK => ?_)
    go_wp2_with fail
    refine ((P2.out.below hX).run HE2.out W _ (RX.out.below hX)).mono ?_
    rintro e wh ⟨rfl, hb⟩
    rw [← HYI.out]
    go_wp2_with fail
    refine hK _ _ (hb.mono hX.size) ?_
    clear hK K
    (try simp only [Act.put, qA, qB, qC])
    replace hX := hX.trans (hb.mono hX.size)
    clear hb
    refine sx_take (i := 16) (oi := ⟨some 156, _, _, _, _, _⟩) (v := ?_) rfl (by kernel_rfl) (by kernel_rfl) (by kernel_rfl) (fun _ _ _ h => h) rfl hX ?_ ?_; rotate_left; (intro W hW; go_simp; try with_reducible rfl); simp only [Act.put, qA, qB, qC]
    refine sx_take (i := 17) (oi := ⟨some 157, _, _, _, _, _⟩) (v := .bool true) rfl (by kernel_rfl) (by kernel_rfl) (by kernel_rfl) (fun _ _ _ h => h) rfl hX (fun V _ => ex_eqB (.tmp 148) (.tmp 156) rfl rfl rfl V) ?_; simp only [Act.put, qA, qB, qC]
    refine sx_take (i := 18) (oi := ⟨some 158, _, _, _, _, _⟩) (v := ?_) rfl (by kernel_rfl) (by kernel_rfl) (by kernel_rfl) (fun _ _ _ h => h) rfl hX ?_ ?_; rotate_left; (intro W hW; go_simp; try with_reducible rfl); simp only [Act.put, qA, qB, qC]
    refine sx_take (i := 19) (oi := ⟨some 159, _, _, _, _, _⟩) (v := ?_) rfl (by kernel_rfl) (by kernel_rfl) (by kernel_rfl) (fun _ _ _ h => h) rfl hX ?_ ?_; rotate_left; (intro W hW; go_simp; try with_reducible rfl); simp only [Act.put, qA, qB, qC]
    refine sx_take (i := 20) (oi := ⟨some 160, _, _, _, _, _⟩) (v := .agg ns5.toArray) rfl (by kernel_rfl) (by kernel_rfl) (by kernel_rfl) (fun _ _ _ h => h) rfl hX (ld_blk 24 _ rfl wa5.heap.size rfl 24 ns5 _ P5.out.1 P5.out.1.lt Try.underlying24 rfl (size_nfa N35.out)) ?_; simp only [Act.put, qA, qB, qC]
    refine sx_take (i := 21) (oi := ⟨some 161, _, _, _, _, _⟩) (v := ?_) rfl (by kernel_rfl) (by kernel_rfl) (by kernel_rfl) (fun _ _ _ h => h) rfl hX ?_ ?_; rotate_left; (intro W hW; go_simp; try with_reducible rfl); simp only [Act.put, qA, qB, qC]
    refine sx_take (i := 23) (oi := ⟨some 163, _, _, _, _, _⟩) (v := ?_) rfl (by kernel_rfl) (by kernel_rfl) (by kernel_rfl) (fun _ _ _ h => h) rfl hX ?_ ?_; rotate_left; (intro W hW; go_simp; try with_reducible rfl); simp only [Act.put, qA, qB, qC]
    refine sx_actB (i := 22) (o := ⟨some 162, _, _, _, _, _⟩) rfl (by kernel_rfl) rfl hX (fun K hK => ?_)
    go_wp2_with fail
    refine ((P5.out.below hX).run HE5.out W _ (RX.out.below hX)).mono ?_
    rintro e wi ⟨rfl, hb⟩
    rw [HSM.out]
    go_wp2_with fail
    refine hK _ _ (hb.mono hX.size) ?_
    clear hK K
    (try simp only [Act.put, qA, qB, qC])
    replace hX := hX.trans (hb.mono hX.size)
    clear hb
    refine sx_take (i := 24) (oi := ⟨some 164, _, _, _, _, _⟩) (v := .bool true) rfl (by kernel_rfl) (by kernel_rfl) (by kernel_rfl) (fun _ _ _ h => h) rfl hX (fun V _ => ex_eqB (.tmp 162) (.tmp 163) rfl rfl rfl V) ?_; simp only [Act.put, qA, qB, qC]
    refine sx_take (i := 25) (oi := ⟨some 165, _, _, _, _, _⟩) (v := ?_) rfl (by kernel_rfl) (by kernel_rfl) (by kernel_rfl) (fun _ _ _ h => h) rfl hX ?_ ?_; rotate_left; (intro W hW; go_simp; try with_reducible rfl); simp only [Act.put, qA, qB, qC]
    refine sx_take (i := 26) (oi := ⟨some 6, _, _, _, _, _⟩) (v := ?_) rfl (by kernel_rfl) (by kernel_rfl) (by kernel_rfl) (fun _ _ _ h => h) rfl hX ?_ ?_; rotate_left; (intro W hW; go_simp; try with_reducible rfl); simp only [Act.put, qA, qB, qC]
    refine wpAnyH_done (by kernel_rfl) ?_ _
    have BZ := qH (BXW.out.trans (hX.mono BXW.out.size))
    clear hX
    go_wp2_with fail
    go_ret
    exact ⟨rfl, BZ.out⟩
end Go.Proofs.Ytmcpfaaakmehdaa
