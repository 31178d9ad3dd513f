/-
  Texts of this proof, put together: RxJ, RxL. No statement is proved here.
-/
import Derived.Test.YtopnpdobcagcgaaGreatMU
import Derived.Test.YtopnpdobcagcgaaGreatME
import Derived.Lib.AppendZeros
namespace Go.Proofs.YtopnpdobcagcgaaGreat
open Go.RowKit
set_option linter.unusedSimpArgs false
set_option linter.unusedVariables false
set_option maxHeartbeats 2000000 in
set_option maxRecDepth 100000 in
theorem rxCat1_any (t : T) (cs : List Value) (w : World) {D : Nat → Prop} (hv : RxD D w cs t) : Calls Tryz.prog 84 #[.agg cs.toArray] w fun e w' => e = .returned (.bool (t.kind == 1)) ∧ Below w.heap.size w w' := by
 obtain ⟨Au, cu, hsp, hru⟩ := hv.split
 have HG0 := qH (show cs[0]? = some (.int .i64 t.kind) by rw [hsp]; rfl)
 clear hv hsp hru
 go_enter Tryz.func84, Tryz.ntmps84
 go_wp2_with ((with_reducible refine atDst 1 ?_); refine wpList_box rfl 29 _ rfl cs rfl (Below.refl w.heap.size w) (Nat.le_refl _) ?_; intro w1 hk1 hb1 hs1 _; have K1 := qH hk1; have B1 := qH hb1; have a0 := K1.out.cell 0; rw [HG0.out] at a0; clear hk1 hb1 hs1)
 go_ret
 exact ⟨rfl, B1.out⟩
abbrev isNoneV : Value := .func (.func 84) #[] #[]
set_option maxHeartbeats 2000000 in
set_option maxRecDepth 100000 in
theorem indexNone_any (l : List T) (v : Value) (w : World) {D : Nat → Prop} (hD : ∀ k, D k → k < w.heap.size) (hr : RowD D w v l) (hn : l.length ≤ 1099511627776) :
  Calls Tryz.prog 93 #[v, isNoneV] w fun e w' => ∃ r : Int, e = .returned (.int .i64 r) ∧ decide (r ≥ 0) = anyK 1 l ∧ Below w.heap.size w w' := by
 obtain ⟨A, cap, f, rfl, h1, h2, h0, h3, h4⟩ := hr
 have H3 := qH h3
 have HD := qH hD
 have H4 := qH h4
 have HN := qH hn
 clear h1 h2 h0 h3 h4 hn
 go_enter Tryz.func93, Tryz.ntmps93
 go_wp2_with fail
 go_loopw [8] (fun i wl => ∃ j : Nat, j ≤ l.length ∧ i = .int .i64 (j : Int) ∧ (∀ (i : Nat) (t : T), i < j → l[i]? = some t → t.kind ≠ 1) ∧ Below w.heap.size w wl) (fun i _ => l.length - (intOf i).toNat)
 case atStart => exact ⟨0, by omega, by simp, fun i t h => by omega, Below.refl _ _⟩
 case round =>
  obtain ⟨j, hj, rfl, hno, hb⟩ := hrel
  have HNO := qH hno
  have HB := qH hb
  clear hno hb
  by_cases hjl : j < l.length
  ·have j1 : (j : Int) < (l.length : Int) := Int.ofNat_lt.2 hjl
   obtain ⟨b, off, rfl, hb, hrng⟩ := H3.out (by rintro rfl; simp at hjl)
   obtain ⟨u, hu⟩ : ∃ u, l[j]? = some u := ⟨_, List.getElem?_eq_getElem hjl⟩
   have HV := qH ((H4.out j u hu).keep HB.out HD.out)
   have HRG := qH (range_below (hrng j hjl) HB.out (HD.out b hb))
   have HV6 := qH HV.out.length
   have HU := qH hu
   have hj62 : j ≤ 4611686018427387904 := by have := HN.out; omega
   have e3 := wrap_one j hj62
   have e4 := wrap_one' j hj62
   clear hrng hu hj62 hb
   go_wp2_with ((with_reducible refine atDst 15 ?_); refine wpList_load_mid rfl 29 _ rfl b (off + j * 6) rfl (f j) _ HRG.out Tryz.underlying29 rfl (size_rx HV6.out) ?_; (try simp only [Act.put, qA, qB, qC]))
   refine (rxCat1_any u (f j) wr HV.out).mono ?_
   rintro e w2 ⟨rfl, hb2⟩
   have B2 := qH (HB.out.trans (hb2.mono HB.out.size))
   clear hb2
   by_cases hk : u.kind = 1
   ·have hkb : (u.kind == 1) = true := by simpa using hk
    rw [hkb]
    have HF := qH (show decide ((j : Int) ≥ 0) = anyK 1 l by
     rw [decide_eq_true (by omega)]
     exact (List.any_eq_true.2 ⟨u, List.mem_of_getElem? HU.out, by simpa using hk⟩).symm)
    clear hk hkb
    go_wp2_with fail
    go_ret
    exact ⟨_, rfl, HF.out, B2.out⟩
   ·have hkb : (u.kind == 1) = false := by simpa using hk
    rw [hkb]
    have HK := qH hk
    clear hk hkb
    go_wp2_with fail
    refine ⟨⟨j + 1, by omega, by congr 1, fun i t hi ht => ?_, B2.out⟩, by simp [intOf] <;> omega⟩
    by_cases hij : i < j
    ·exact HNO.out i t hij ht
    ·obtain rfl : i = j := by omega
     rw [HU.out] at ht
     obtain rfl := Option.some.inj ht
     exact HK.out
  ·obtain rfl : j = l.length := by omega
   have j1 : ¬ ((l.length : Int) < (l.length : Int)) := by omega
   have HF := qH (show decide ((-1 : Int) ≥ 0) = anyK 1 l by
    have : anyK 1 l = false := by
     unfold anyK
     rw [List.any_eq_false]
     intro t ht
     obtain ⟨i, hi⟩ := List.getElem?_of_mem ht
     have := HNO.out i t (List.getElem?_eq_some_iff.1 hi).1 hi
     simpa using this
    rw [this]; rfl)
   go_wp2_with fail
   go_ret
   exact ⟨-1, rfl, HF.out, HB.out⟩
set_option maxHeartbeats 2000000 in
set_option maxRecDepth 100000 in
theorem containsNone_any (l : List T) (v : Value) (w : World) {D : Nat → Prop} (hD : ∀ k, D k → k < w.heap.size) (hr : RowD D w v l) (hn : l.length ≤ 1099511627776) :
  Calls Tryz.prog 83 #[v, isNoneV] w fun e w' => e = .returned (.bool (anyK 1 l)) ∧ Below w.heap.size w w' := by
 have R := qH hr
 have HD := qH hD
 have HN := qH hn
 clear hr hn
 go_enter Tryz.func83, Tryz.ntmps83
 go_wp2_with fail
 refine (indexNone_any l v w HD.out R.out HN.out).mono ?_
 rintro e w1 ⟨r, rfl, hr, hb⟩
 have HR := qH hr
 have B1 := qH hb
 clear hb
 go_wp2_with fail
 go_ret
 exact ⟨by rw [← HR.out]; rfl, B1.out⟩
set_option maxHeartbeats 2000000 in
set_option maxRecDepth 100000 in
theorem rxJoin_any (k : Int) (l : List T) (n : T) (v : Value) (ns : List Value) (w : World) {D : Nat → Prop} (hD : ∀ k, D k → k < w.heap.size) (hr : RowD D w v l) (hv : RxD D w ns n) :
  Calls Tryz.prog 85 #[.int .i64 k, v, .agg ns.toArray] w fun e w' => ∃ ds, e = .returned (.agg ds.toArray) ∧ RxD D w' ds (wrapT k n l) ∧ Below w.heap.size w w' := by
 have R := qH hr
 have HD := qH hD
 obtain ⟨A, cap, f, rfl, h1, h2, h0, h3, h4⟩ := hr
 have HV := qH hv
 obtain ⟨i0, hi0, hz0, hz1, hz2⟩ := inf_rx'
 obtain ⟨z, hz⟩ : ∃ z, z = rxc 0 zeroS (.slice none 0 0) := ⟨_, rfl⟩
 have HZL := qH (show z.length = 6 by rw [hz]; rfl)
 have HZ0 := qH (show i0.zero = some (.agg z.toArray) by rw [hz]; exact hz0)
 clear hz hz0
 match l, R, h1, h3, h4 with
 | [], R, _, _, _ =>
  have D6 := qH hv.length
  have D1 := qH (show ns.all (·.oneCell') = true from List.all_eq_true.2 hv.one)
  clear h1 h2 h0 h3 h4 hv
  go_enter Tryz.func85, Tryz.ntmps85
  go_wp2_with (first
   | ((with_reducible refine atDst 5 ?_); refine wpList_box rfl 29 _ rfl ns rfl (Below.refl w.heap.size w) (Nat.le_refl _) ?_; intro w1 hk1 hb1 hs1 _; have K1 := qH hk1; have B1 := qH hb1; clear hk1 hb1 hs1; (try simp only [Act.put, qA, qB, qC]))
   | ((with_reducible refine atDst 6 ?_); refine wpList_new rfl 29 rfl i0 _ z hi0 HZ0.out rfl B1.out B1.out.size ?_; intro w2 hk2 hb2 hs2 ho2; have L2 := qH hk2; have B2 := qH hb2; have K2 := qH (show Blk w2 w.heap.size 29 ns from (ho2 _ K1.out.lt).trans K1.out); have G12 := qH K1.out.lt; clear hk2 hb2 hs2 ho2; (try simp only [Act.put, qA, qB, qC]))
   | ((with_reducible refine atDst 11 ?_); refine wpList_ldArr rfl 29 _ rfl w.heap.size rfl 29 _ _ K2.out Tryz.underlying29 rfl (size_rx D6.out) ?_; (try simp only [Act.put, qA, qB, qC]))
   | ((with_reducible refine atStore 29 6 11 ?_); refine wpList_stBlk rfl 29 _ _ rfl w1.heap.size ns rfl rfl 29 _ L2.out (size_rx D6.out) (by rw [HZL.out, D6.out]) D1.out B2.out (Nat.le_of_lt G12.out) ?_; intro w4 hk4 hb4 hs4 ho4; have K4 := qH hk4; have B4 := qH hb4; have S4 := qH (show Below w.heap.size w2 w4 from ⟨by rw [hb4.os, B2.out.os], by rw [hb4.tape, B2.out.tape], by rw [hb4.output, B2.out.output], by omega, fun k hk => (hb4.block k hk).trans (B2.out.block k hk).symm⟩); clear hk4 hb4 hs4 ho4; (try simp only [Act.put, qA, qB, qC]))
   )
  refine bodyPost_ret (results_blk rfl _ _ w1.heap.size 29 _ _ rfl K4.out Tryz.underlying29 rfl (size_rx D6.out)) rfl ?_
  exact ⟨ns, rfl, HV.out.keep B4.out HD.out, B4.out⟩
 | [t], R, _, h3, h4 =>
  obtain ⟨b, off, rfl, hb, hrng⟩ := h3 (by simp)
  have HT := qH (h4 0 t rfl)
  have HRG := qH (hrng 0 (by simp))
  have D6 := qH HT.out.length
  have D1 := qH (show (f 0).all (·.oneCell') = true from List.all_eq_true.2 HT.out.one)
  have HB := qH hb
  clear h1 h2 h0 h3 h4 hv hrng hb
  go_enter Tryz.func85, Tryz.ntmps85
  go_wp2_with (first
   | ((with_reducible refine atDst 5 ?_); refine wpList_box rfl 29 _ rfl ns rfl (Below.refl w.heap.size w) (Nat.le_refl _) ?_; intro w1 hk1 hb1 hs1 _; have K1 := qH hk1; have B1 := qH hb1; clear hk1 hb1 hs1; (try simp only [Act.put, qA, qB, qC]))
   | ((with_reducible refine atDst 6 ?_); refine wpList_new rfl 29 rfl i0 _ z hi0 HZ0.out rfl B1.out B1.out.size ?_; intro w2 hk2 hb2 hs2 ho2; have L2 := qH hk2; have B2 := qH hb2; have K2 := qH (show Blk w2 w.heap.size 29 ns from (ho2 _ K1.out.lt).trans K1.out); have G12 := qH K1.out.lt; clear hk2 hb2 hs2 ho2; (try simp only [Act.put, qA, qB, qC]))
   | ((with_reducible refine atDst 16 ?_); refine wpList_load_mid rfl 29 _ rfl b (off + 0 * 6) rfl (f 0) _ (range_below HRG.out B2.out (HD.out b HB.out)) Tryz.underlying29 rfl (size_rx D6.out) ?_; (try simp only [Act.put, qA, qB, qC]))
   | ((with_reducible refine atStore 29 6 16 ?_); refine wpList_stBlk rfl 29 _ _ rfl w1.heap.size (f 0) rfl rfl 29 _ L2.out (size_rx D6.out) (by rw [HZL.out, D6.out]) D1.out B2.out (Nat.le_of_lt G12.out) ?_; intro w4 hk4 hb4 hs4 ho4; have K4 := qH hk4; have B4 := qH hb4; have S4 := qH (show Below w.heap.size w2 w4 from ⟨by rw [hb4.os, B2.out.os], by rw [hb4.tape, B2.out.tape], by rw [hb4.output, B2.out.output], by omega, fun k hk => (hb4.block k hk).trans (B2.out.block k hk).symm⟩); clear hk4 hb4 hs4 ho4; (try simp only [Act.put, qA, qB, qC]))
   )
  refine bodyPost_ret (results_blk rfl _ _ w1.heap.size 29 _ _ rfl K4.out Tryz.underlying29 rfl (size_rx D6.out)) rfl ?_
  exact ⟨f 0, rfl, HT.out.keep B4.out HD.out, B4.out⟩
 | t :: u :: r, R, _, h3, h4 =>
  obtain ⟨m, hm⟩ : ∃ m, m = t :: u :: r := ⟨_, rfl⟩
  have HM2 := qH (show 2 ≤ m.length by rw [hm]; simp)
  rw [← hm] at R ⊢
  obtain ⟨c, hc⟩ : ∃ c, c = rxc k zeroS (.slice A m.length cap) := ⟨_, rfl⟩
  have HCB := qH (show Tryz.prog.built 29 [(0, .int .i64 k), (2, .slice A m.length cap)] = some c.toArray by rw [hc]; exact built02 k _ A m.length cap rfl)
  have D6 := qH (show c.length = 6 by rw [hc]; rfl)
  have D1 := qH (show c.all (·.oneCell') = true by rw [hc]; rfl)
  have HC := qH hc
  have m0 : ((m.length : Int) == 0) = false := by rw [beq_eq_false_iff_ne]; have := HM2.out; omega
  have m1 : ((m.length : Int) == 1) = false := by rw [beq_eq_false_iff_ne]; have := HM2.out; omega
  have HM := qH hm
  clear h1 h2 h0 h3 h4 hv hm hc
  go_enter Tryz.func85, Tryz.ntmps85
  go_wp2_with (first
   | ((with_reducible refine atDst 5 ?_); refine wpList_box rfl 29 _ rfl ns rfl (Below.refl w.heap.size w) (Nat.le_refl _) ?_; intro w1 hk1 hb1 hs1 _; have K1 := qH hk1; have B1 := qH hb1; clear hk1 hb1 hs1; (try simp only [Act.put, qA, qB, qC]))
   | ((with_reducible refine atDst 6 ?_); refine wpList_new rfl 29 rfl i0 _ z hi0 HZ0.out rfl B1.out B1.out.size ?_; intro w2 hk2 hb2 hs2 ho2; have L2 := qH hk2; have B2 := qH hb2; have K2 := qH (show Blk w2 w.heap.size 29 ns from (ho2 _ K1.out.lt).trans K1.out); have G12 := qH K1.out.lt; clear hk2 hb2 hs2 ho2; (try simp only [Act.put, qA, qB, qC]))
   | ((with_reducible refine atDst 19 ?_); refine wpList_bld rfl 29 _ rfl c HCB.out ?_; (try simp only [Act.put, qA, qB, qC]))
   | ((with_reducible refine atStore 29 6 19 ?_); refine wpList_stBlk rfl 29 _ _ rfl w1.heap.size c rfl rfl 29 _ L2.out (size_rx D6.out) (by rw [HZL.out, D6.out]) D1.out B2.out (Nat.le_of_lt G12.out) ?_; intro w4 hk4 hb4 hs4 ho4; have K4 := qH hk4; have B4 := qH hb4; have S4 := qH (show Below w.heap.size w2 w4 from ⟨by rw [hb4.os, B2.out.os], by rw [hb4.tape, B2.out.tape], by rw [hb4.output, B2.out.output], by omega, fun k hk => (hb4.block k hk).trans (B2.out.block k hk).symm⟩); clear hk4 hb4 hs4 ho4; (try simp only [Act.put, qA, qB, qC]))
   )
  refine bodyPost_ret (results_blk rfl _ _ w1.heap.size 29 _ _ rfl K4.out Tryz.underlying29 rfl (size_rx D6.out)) rfl ?_
  exact ⟨c, rfl, by rw [wrapT_many k n m HM2.out, HC.out]; exact (R.out.keep B4.out HD.out).rx k zeroS, B4.out⟩
set_option maxHeartbeats 4000000 in
set_option maxRecDepth 100000 in
theorem rxCat0_any (l : List T) (v : Value) (w : World) (hr : RowT w.heap.size w v l) (hn : nodesL l ≤ 549755813888) :
  Calls Tryz.prog 76 #[v] w fun e w' => ∃ ds, e = .returned (.agg ds.toArray) ∧ RxV w'.heap.size w' ds (catT l) ∧ Below w.heap.size w w' := by
 have R := qH hr
 have HN := qH hn
 have HFN := qH (flatT_nodes 4 l)
 have HFL := qH (Nat.le_trans (flatT_len 4 l) hn)
 obtain ⟨i0, hi0, hz0, hz1, hz2⟩ := inf_rx'
 obtain ⟨z, hz⟩ : ∃ z, z = rxc 0 zeroS (.slice none 0 0) := ⟨_, rfl⟩
 have HZL := qH (show z.length = 6 by rw [hz]; rfl)
 have HZ0 := qH (show i0.zero = some (.agg z.toArray) by rw [hz]; exact hz0)
 clear hz hz0
 clear hr hn
 go_enter Tryz.func76, Tryz.ntmps76
 go_wp2_with ((with_reducible refine atDst 2 ?_); refine wpList_new rfl 29 rfl i0 _ z hi0 HZ0.out rfl (Below.refl w.heap.size w) (Nat.le_refl _) ?_; intro w1 hk1 hb1 hs1 _; have K1 := qH hk1; have B1 := qH hb1; have S1 := qH hs1; clear hk1 hb1 hs1; (try simp only [Act.put, qA, qB, qC]))
 refine (rxFlat_any 4 l v w1 (D := fun k => k < w.heap.size) (fun k hk => Nat.lt_of_lt_of_le hk B1.out.size) (R.out.below B1.out).rowD HN.out).mono ?_
 rintro e w2 ⟨v2, rfl, ho2, hb2⟩
 have RF := qH (ho2.rowD.mono (D' := fun k => k ≠ w.heap.size ∧ k < w2.heap.size) fun k hk => ⟨by have := S1.out; omega, hk.2⟩)
 have B2 := qH (B1.out.trans (hb2.mono B1.out.size))
 have K2 := qH (K1.out.below hb2 K1.out.lt)
 clear ho2 hb2
 obtain ⟨fl, hfl⟩ : ∃ fl, fl = flatT 4 l := ⟨_, rfl⟩
 have HC := qH (show catT l = if anyK 1 fl then noneT else wrapT 4 emptyT (withoutT 2 fl) by rw [hfl]; rfl)
 rw [← hfl] at RF HFN HFL
 clear hfl
 go_wp2_with fail
 refine (containsNone_any fl v2 w2 (fun k hk => hk.2) RF.out (by have := HFL.out; omega)).mono ?_
 rintro e w3 ⟨rfl, hb3⟩
 have RF3 := qH ((RF.out.keep hb3 fun k hk => hk.2).mono (D' := fun k => k ≠ w.heap.size ∧ k < w3.heap.size) fun k hk => ⟨hk.1, Nat.lt_of_lt_of_le hk.2 hb3.size⟩)
 have B3 := qH (B2.out.trans (hb3.mono B2.out.size))
 have K3 := qH (K2.out.below hb3 K2.out.lt)
 clear hb3
 cases ha : anyK 1 fl with
 | true =>
  rw [ha] at HC
  clear ha
  go_wp2_with fail
  refine (rxNone_any w3).mono ?_
  rintro e w4 ⟨ds, rfl, hd4, hb4⟩
  have DA := qH (hd4 fun _ => False)
  have D6 := qH (hd4 fun _ => False).length
  have D1 := qH (show ds.all (·.oneCell') = true from List.all_eq_true.2 (hd4 fun _ => False).one)
  have B4 := qH (B3.out.trans (hb4.mono B3.out.size))
  have K4 := qH (K3.out.below hb4 K3.out.lt)
  clear hd4 hb4
  go_wp2_with ((with_reducible refine atStore 29 2 7 ?_); refine wpList_stBlk rfl 29 _ _ rfl w.heap.size ds rfl rfl 29 _ K4.out (size_rx D6.out) (by rw [HZL.out, D6.out]) D1.out B4.out (Nat.le_refl _) ?_; intro w5 hk5 hb5 hs5 ho5; have K5 := qH hk5; have B5 := qH hb5; clear hk5 hb5 hs5 ho5; (try simp only [Act.put, qA, qB, qC]))
  refine bodyPost_ret (results_blk rfl _ _ w.heap.size 29 _ _ rfl K5.out Tryz.underlying29 rfl (size_rx D6.out)) rfl ?_
  exact ⟨ds, rfl, by rw [HC.out]; exact RxD.mono (DA.out.stay fun k hk => absurd hk id) fun k hk => absurd hk id, B5.out⟩
 | false =>
  rw [ha] at HC
  clear ha
  go_wp2_with fail
  refine (rxWithout_any 2 fl v2 w3 (fun k hk => hk.2) RF3.out (by have := HFN.out; have := HN.out; omega)).mono ?_
  rintro e w4 ⟨v4, rfl, ho4, hb4⟩
  have B4 := qH (B3.out.trans (hb4.mono B3.out.size))
  have K4 := qH (K3.out.below hb4 K3.out.lt)
  have R4 := qH (ho4.rowD.mono (D' := fun k => k ≠ w.heap.size ∧ k < w4.heap.size) fun k hk => ⟨by have := K3.out.lt; rcases hk.1 with h | h; exact h.1; omega, hk.2⟩)
  clear ho4 hb4
  go_wp2_with fail
  refine (rxEmpty_any w4).mono ?_
  rintro e w5 ⟨ns, rfl, hd5, hb5⟩
  have R5 := qH ((R4.out.keep hb5 fun k hk => hk.2).mono (D' := fun k => k ≠ w.heap.size ∧ k < w5.heap.size) fun k hk => ⟨hk.1, Nat.lt_of_lt_of_le hk.2 hb5.size⟩)
  have V5 := qH (hd5 fun k => k ≠ w.heap.size ∧ k < w5.heap.size)
  have B5 := qH (B4.out.trans (hb5.mono B4.out.size))
  have K5 := qH (K4.out.below hb5 K4.out.lt)
  clear hd5 hb5
  go_wp2_with fail
  refine (rxJoin_any 4 _ emptyT v4 ns w5 (fun k hk => hk.2) R5.out V5.out).mono ?_
  rintro e w6 ⟨ds, rfl, hd6, hb6⟩
  have V6 := qH hd6
  have D6 := qH hd6.length
  have D1 := qH (show ds.all (·.oneCell') = true from List.all_eq_true.2 (RxD.one hd6))
  have B6 := qH (B5.out.trans (hb6.mono B5.out.size))
  have K6 := qH (K5.out.below hb6 K5.out.lt)
  have S6 := qH hb6.size
  clear hd6 hb6
  go_wp2_with ((with_reducible refine atStore 29 2 11 ?_); refine wpList_stBlk rfl 29 _ _ rfl w.heap.size ds rfl rfl 29 _ K6.out (size_rx D6.out) (by rw [HZL.out, D6.out]) D1.out B6.out (Nat.le_refl _) ?_; intro w7 hk7 hb7 hs7 ho7; have K7 := qH hk7; have B7 := qH hb7; have V7 := qH (RxD.mono (V6.out.stay (w' := w7) fun k hk => ho7 k hk.1) (D' := fun k => k < w7.heap.size) fun k hk => by have h1 := hk.2; have h2 := S6.out; omega); clear hk7 hb7 hs7 ho7; (try simp only [Act.put, qA, qB, qC]))
  refine bodyPost_ret (results_blk rfl _ _ w.heap.size 29 _ _ rfl K7.out Tryz.underlying29 rfl (size_rx D6.out)) rfl ?_
  exact ⟨ds, rfl, by rw [HC.out]; exact V7.out, B7.out⟩
section
variable {w : World} {ops : Array Oper} {rest : List Oper} {o : Oper} {a : Act} {Q : Exit → Act → World → Prop}
theorem wpList_growT (hgd : o.guard = none) (s x : Operand)
  (ho : o.op = .call { callee := .builtin .append, args := #[s, x], argTypes := #[27, 3] })
  (hs : a.eval s = .slice none 0 0) (n : Nat) (hx : a.eval x = .int .i64 (n : Int)) (h0 : 0 < n) (hn : n ≤ 1099511627776)
  (h : ∀ cap w', n ≤ cap → cap ≤ maxLen → (∀ D, OwnT D w.heap.size w' (.slice (some ⟨w.heap.size, 0, none⟩) 0 cap) []) → Below w.heap.size w w' → wpList Tryz.prog ops Q rest (a.put o.dst (.slice (some ⟨w.heap.size, 0, none⟩) n cap)) w') : wpList Tryz.prog ops Q (o :: rest) a w := by
 obtain ⟨i, hi, hz, hsz, hby⟩ := inf_rx'
 have hrun := Lib.run_append_nil_zeros (P := Tryz.prog) w 27 3 o.type 29 i _ .i64 .i64 Tryz.underlying27 Tryz.underlying3 hi hz n h0 (by omega) (by omega) (by rw [hby]; omega)
 refine wpList_plain hgd fun K hK => ?_
 unfold Oper.wp execOp
 simp only [ho, resolve, invoke, builtin, Sem.run_bind, Sem.run_pure, Result.andThen_ok, List.map_toArray, List.map_cons, List.map_nil, hs, hx, hrun]
 have hge := grownCap_ge w n 0 29
 have hle := grownCap_le_maxLen w n 0 29 (by unfold maxLen; omega)
 refine hK _ _ (h _ _ hge hle (fun D => ⟨[], rfl, by simp, ⟨by simp, .inr ⟨w.heap.size, _, _, rfl, Nat.le_refl _, heap_alloc_new w.drew _, Nat.zero_le _, hle, ?_, by simp⟩⟩, fun i c t h => by simp at h⟩) (Below.alloc (Below.refl w.heap.size w).drew (Nat.le_refl _) _))
 have hzc : (Value.agg (rxc 0 zeroS (.slice none 0 0)).toArray).cells.size = 6 := by simp [Value.cells, rxc, wds]
 rw [Array.size_append, size_zeroCells, size_zeroCells, hzc]
 omega
end
set_option maxHeartbeats 2000000 in
set_option maxRecDepth 100000 in
theorem growT_any (n : Nat) (hn : n ≤ 1099511627776) (w : World) : Calls Tryz.prog 81 #[.slice none 0 0, .int .i64 (n : Int)] w fun e w' => ∃ v, e = .returned v ∧ (∀ D, OwnT D w.heap.size w' v []) ∧ Below w.heap.size w w' := by
 have HN := qH hn
 have h0 : ¬ ((n : Int) < 0) := by omega
 have e1 : IntKind.i64.wrap (n : Int) = (n : Int) := IntWalk.i64_in _ (by omega)
 have e2 : wrap64 (n : Int) = (n : Int) := IntWalk.wrap64_in _ (by omega)
 clear hn
 rcases Nat.eq_zero_or_pos n with hz | hpos
 ·subst hz
  clear h0 e1 e2
  go_enter Tryz.func81, Tryz.ntmps81
  go_wp2_with fail
  go_ret
  exact ⟨_, rfl, fun D => OwnT.nil D _ _, Below.refl _ _⟩
 ·have h1 : (n : Int) > 0 := by omega
  go_enter Tryz.func81, Tryz.ntmps81
  go_wp2_with ((with_reducible refine atDst 22 ?_); refine wpList_growT rfl (.tmp 20) (.tmp 21) rfl rfl n rfl hpos HN.out ?_; intro cap w1 hc1 hc2 ho1 hb1; have HC1 := qH hc1; have HC2 := qH hc2; have O1 := qH ho1; have B1 := qH hb1; have hc0 : (0 : Int) ≤ (cap : Int) := (by omega); clear hc1 hc2 ho1 hb1; (try simp only [Act.put, qA, qB, qC]))
  go_ret
  exact ⟨_, rfl, O1.out, B1.out⟩
set_option maxHeartbeats 4000000 in
set_option maxRecDepth 100000 in
theorem rxClone_any : ∀ (N : Nat) (t : T), t.nodes ≤ N → t.nodes ≤ 549755813888 → ∀ (cs : List Value) (w : World) (D : Nat → Prop), (∀ k, D k → k < w.heap.size) → RxD D w cs t →
  Calls Tryz.prog 75 #[.agg cs.toArray] w fun e w' => ∃ ds, e = .returned (.agg ds.toArray) ∧ RxD (fun k => w.heap.size ≤ k ∧ k < w'.heap.size) w' ds t ∧ Below w.heap.size w w' := by
 intro N
 induction N with
 | zero => intro t h; have := nodes_pos t; omega
 | succ N ih =>
  rintro ⟨k, s, l⟩ hN hM cs w D hD hv
  have IH := qH ih
  clear ih
  obtain ⟨A, cap, f, rfl, h1, h2, h0, h3, h4⟩ := hv.opened
  have H3 := qH h3
  have H4 := qH h4
  have HD := qH hD
  have HNN := qH (show T.nodes (.node k s l) = 1 + nodesL l by simp only [T.nodes])
  rw [HNN.out] at hN hM
  have HN := qH hN
  have HM := qH hM
  have HLL := qH (len_nodes l)
  obtain ⟨cs, hcs⟩ : ∃ cs, cs = Value.int .i64 k :: (wds s ++ [.slice A l.length cap]) := ⟨_, rfl⟩
  have HCL := qH (show cs.length = 6 by rw [hcs]; rfl)
  have HC5 := qH (show cs[5]? = some (.slice A l.length cap) by rw [hcs]; rfl)
  have HST := qH (show ∀ v, cs.set 5 v = Value.int .i64 k :: (wds s ++ [v]) by rw [hcs]; intro v; rfl)
  rw [← hcs]
  obtain ⟨i0, hi0, hz0, hz1, hz2⟩ := inf_rx'
  obtain ⟨z, hz⟩ : ∃ z, z = rxc 0 zeroS (.slice none 0 0) := ⟨_, rfl⟩
  have HZL := qH (show z.length = 6 by rw [hz]; rfl)
  have HZ0 := qH (show i0.zero = some (.agg z.toArray) by rw [hz]; exact hz0)
  have HZ1 := qH hz0
  clear hv h1 h2 h0 h3 h4 hcs hN hM hz hz0 hD
  go_enter Tryz.func75, Tryz.ntmps75
  go_wp2_with (first
   | ((with_reducible refine atDst 1 ?_); refine wpList_box rfl 29 _ rfl cs rfl (Below.refl w.heap.size w) (Nat.le_refl _) ?_; intro w1 hk1 hb1 hs1 _; have K1 := qH hk1; have B1 := qH hb1; clear hk1 hb1 hs1; (try simp only [Act.put, qA, qB, qC]))
   | ((with_reducible refine atDst 2 ?_); refine wpList_new rfl 29 rfl i0 _ z hi0 HZ0.out rfl (Below.refl w1.heap.size w1) (Nat.le_refl _) ?_; intro w2 hk2 hb2 hs2 _; have M2 := qH hk2; have B2 := qH (B1.out.trans (hb2.mono B1.out.size)); have K2 := qH (K1.out.below hb2 K1.out.lt); have G12 := qH K1.out.lt; have k5 := K2.out.cell 5; rw [HC5.out] at k5; clear hk2 hb2 hs2 K1 B1; (try simp only [Act.put, qA, qB, qC])))
  refine (growT_any l.length (by have := HLL.out; have := HM.out; omega) w2).mono ?_
  rintro e w3 ⟨v3, rfl, ho3, hb3⟩
  have O3 := qH (ho3 fun q => w2.heap.size ≤ q)
  have B3 := qH (B2.out.trans (hb3.mono B2.out.size))
  have C3 := qH hb3
  have K3 := qH (K2.out.below hb3 K2.out.lt)
  have q5 := K3.out.cell 5
  rw [HC5.out] at q5
  clear ho3 hb3 k5
  go_wp2_with fail
  go_loopw [3, 13] (fun v i wl => ∃ (v1 : Value) (j : Nat), v1 = v ∧ j ≤ l.length ∧ i = .int .i64 (j : Int) ∧ OwnT (fun q => w2.heap.size ≤ q) w2.heap.size wl v1 (l.take j) ∧ Below w2.heap.size w2 wl) (fun _ i _ => l.length - (intOf i).toNat)
  case atStart => exact ⟨_, 0, rfl, by omega, by simp, by simpa using O3.out, C3.out⟩
  case round =>
   obtain ⟨v1, j, rfl, hj, rfl, ho, hb⟩ := hrel
   have HO := qH ho
   have HB := qH hb
   clear ho hb
   have KR := qH (K2.out.below HB.out K2.out.lt)
   by_cases hjl : j < l.length
   ·have j1 : (j : Int) < (l.length : Int) := Int.ofNat_lt.2 hjl
    obtain ⟨b, off, rfl, hb, hrng⟩ := H3.out (by rintro rfl; simp at hjl)
    have BW := qH (B2.out.trans (HB.out.mono B2.out.size))
    obtain ⟨u, hu⟩ : ∃ u, l[j]? = some u := ⟨_, List.getElem?_eq_getElem hjl⟩
    have HV := qH ((H4.out j u hu).keep BW.out HD.out)
    have HV6 := qH HV.out.length
    have HV1 := qH (show (f j).all (·.oneCell') = true from List.all_eq_true.2 HV.out.one)
    have HRG := qH (range_below (hrng j hjl) BW.out (HD.out b hb))
    have hmem := nodes_mem (List.mem_of_getElem? hu)
    have HTK := qH (show l.take (j + 1) = l.take j ++ [u] by
     obtain ⟨hi, rfl⟩ := List.getElem?_eq_some_iff.1 hu
     exact List.take_succ_eq_append_getElem hi)
    have HUN := qH (show u.nodes ≤ N by have := HN.out; omega)
    have HUM := qH (show u.nodes ≤ 549755813888 by have := HM.out; omega)
    have HU := qH hu
    have hj62 : j ≤ 4611686018427387904 := by have := HM.out; have := HLL.out; omega
    have e3 := wrap_one j hj62
    have e4 := wrap_one' j hj62
    have HLE := qH (show (l.take j).length + 1 ≤ 1099511627776 by rw [List.length_take]; have := HM.out; have := HLL.out; omega)
    have HSW := qH HB.out.size
    clear hrng hu hmem hj62 hb
    go_wp2_with (first
     | ((with_reducible refine atDst 16 ?_); refine wpList_load_mid rfl 29 _ rfl b (off + j * 6) rfl (f j) _ HRG.out Tryz.underlying29 rfl (size_rx HV6.out) ?_; (try simp only [Act.put, qA, qB, qC]))
     | ((with_reducible refine atDst 5 ?_); refine wpList_new rfl 29 rfl i0 _ z hi0 HZ0.out rfl (Below.refl wr.heap.size wr) (Nat.le_refl _) ?_; intro w4 hk4 hb4 hs4 _; have K4 := qH hk4; have B4 := qH hb4; clear hk4 hb4 hs4; (try simp only [Act.put, qA, qB, qC]))
     | ((with_reducible refine atStore 29 5 16 ?_); refine wpList_stBlk rfl 29 _ _ rfl wr.heap.size (f j) rfl rfl 29 _ K4.out (size_rx HV6.out) (by rw [HZL.out, HV6.out]) HV1.out B4.out (Nat.le_refl _) ?_; intro w5 hk5 hb5 hs5 _; have K5 := qH hk5; have B5 := qH hb5; have O5 := qH (HO.out.stay hb5); clear hk5 hb5 hs5; (try simp only [Act.put, qA, qB, qC]))
     | ((with_reducible refine atDst 18 ?_); refine wpList_ldArr rfl 29 _ rfl wr.heap.size rfl 29 _ _ K5.out Tryz.underlying29 rfl (size_rx HV6.out) ?_; (try simp only [Act.put, qA, qB, qC])))
    have BW5 := qH (BW.out.trans (B5.out.mono BW.out.size))
    refine (IH.out u HUN.out HUM.out (f j) w5 D (fun k hk => Nat.lt_of_lt_of_le (HD.out k hk) BW5.out.size) ((H4.out j u HU.out).keep BW5.out HD.out)).mono ?_
    rintro e w6 ⟨ds, rfl, hds, hb6⟩
    have HDS := qH hds
    have HD6 := qH hds.length
    have O6 := qH (O5.out.stay hb6)
    have B6 := qH (HB.out.trans ((B5.out.mono HB.out.size).trans (hb6.mono (Nat.le_trans HB.out.size B5.out.size))))
    have S56 := qH (Nat.le_trans HB.out.size B5.out.size)
    have HLT := qH (fun q (hq : v1.ownBlock = some q) => Nat.lt_of_lt_of_le (HO.out.lt q hq) B5.out.size)
    clear hds hb6
    go_wp2_with (first
     | ((with_reducible refine atDst 20 ?_); refine wpList_bldT1 rfl 27 29 (.tmp 19) rfl i0 Tryz.underlying27 hi0 HZ1.out hz1 ds HD6.out rfl ?_; intro w7 hk7 hb7 hs7; have K7 := qH hk7; have O7 := qH (O6.out.stay hb7); have B7 := qH (B6.out.trans (hb7.mono B6.out.size)); have D7 := qH (RxD.mono (HDS.out.stay (w' := w7) fun q hq => hb7.block q hq.2) (D' := fun q => w2.heap.size ≤ q ∧ q < w7.heap.size ∧ some q ≠ v1.ownBlock) fun q hq => ⟨Nat.le_trans S56.out hq.1, Nat.lt_of_lt_of_le hq.2 hb7.size, fun he => by have h1 := HLT.out q he.symm; have h2 := hq.1; omega⟩); clear hk7 hb7 hs7; (try simp only [Act.put, qA, qB, qC]))
     | ((with_reducible refine atDst 21 ?_); refine wpList_appT (D := fun q => w2.heap.size ≤ q) (base := w2.heap.size) rfl (.tmp 17) (.tmp 20) rfl i0 hi0 HZ1.out hz1 hz2 v1 (l.take j) rfl O7.out w6.heap.size 1 29 ds u rfl K7.out D7.out HLE.out B7.out.size ?_; intro v8 w8 ho8 hg8; have O8 := qH ho8; have B8 := qH (B7.out.grown hg8 B7.out.size (fun q hq => O7.out.ge q hq)); clear ho8 hg8; (try simp only [Act.put, qA, qB, qC])))
    refine ⟨⟨_, j + 1, rfl, by omega, by congr 1, by rw [HTK.out]; exact O8.out, B8.out⟩, by simp [intOf] <;> omega⟩
   ·obtain rfl : j = l.length := by omega
    have j1 : ¬ ((l.length : Int) < (l.length : Int)) := by omega
    have ho := HO.out
    rw [List.take_length] at ho
    have O9 := qH ho
    have c5 := KR.out.cell 5
    rw [HC5.out] at c5
    have hfz := KR.out.frozen 5
    have MR := qH (M2.out.below HB.out M2.out.lt)
    have B9 := qH (B2.out.trans (HB.out.mono B2.out.size))
    obtain ⟨A3, cap3, rfl⟩ := O9.out.slice
    have KS := qH (show Blk (wr.setCell ⟨w.heap.size, 5, none⟩ (.slice A3 l.length cap3)) w.heap.size 29 (Value.int .i64 k :: (wds s ++ [.slice A3 l.length cap3])) by
     have := KR.out.set 5 (.slice A3 l.length cap3)
     rw [HST.out] at this
     exact this)
    obtain ⟨ds, hds⟩ : ∃ ds, ds = Value.int .i64 k :: (wds s ++ [.slice A3 l.length cap3]) := ⟨_, rfl⟩
    have HD6 := qH (show ds.length = 6 by rw [hds]; rfl)
    have KS' := qH (show Blk (wr.setCell ⟨w.heap.size, 5, none⟩ (.slice A3 l.length cap3)) w.heap.size 29 ds by rw [hds]; exact KS.out)
    have MS := qH (show Blk (wr.setCell ⟨w.heap.size, 5, none⟩ (.slice A3 l.length cap3)) w1.heap.size 29 z from MR.out.far (by have := G12.out; show w1.heap.size ≠ w.heap.size; omega) _)
    have BS := qH (show Below w.heap.size w (wr.setCell ⟨w.heap.size, 5, none⟩ (.slice A3 l.length cap3)) from B9.out.setCell (Nat.le_refl _) _)
    have GM := qH M2.out.lt
    have DS := qH (show RxD (fun b => w2.heap.size ≤ b ∧ b < wr.heap.size) (wr.setCell ⟨w.heap.size, 5, none⟩ (.slice A3 l.length cap3)) ds (.node k s l) by
     rw [hds]
     refine ((O9.out.rx k s).mono (D' := fun b => w2.heap.size ≤ b ∧ b < wr.heap.size) fun q hq => ⟨hq.1.elim id id, hq.2⟩).stay fun q hq => Below.heap_setCell wr ⟨w.heap.size, 5, none⟩ _ q ?_
     have h1 := hq.1
     have h2 := GM.out
     have h3 := G12.out
     show q ≠ w.heap.size
     omega)
    have HO1 := qH (show ds.all (·.oneCell') = true from List.all_eq_true.2 DS.out.one)
    have SZ9 := qH (show (wr.setCell ⟨w.heap.size, 5, none⟩ (.slice A3 l.length cap3)).heap.size = wr.heap.size by simp)
    clear ho HO hds KS
    go_wp2_with (first
     | ((with_reducible refine atDst 25 ?_); refine wpList_ldArr rfl 29 _ rfl w.heap.size rfl 29 _ _ KS'.out Tryz.underlying29 rfl (size_rx HD6.out) ?_; (try simp only [Act.put, qA, qB, qC]))
     | ((with_reducible refine atStore 29 2 25 ?_); refine wpList_stBlk rfl 29 _ _ rfl w1.heap.size ds rfl rfl 29 _ MS.out (size_rx HD6.out) (by rw [HZL.out, HD6.out]) HO1.out BS.out (Nat.le_of_lt G12.out) ?_; intro w6 hk6 hb6 hs6 ho6; have K6 := qH hk6; have B6 := qH hb6; have D6 := qH ((DS.out.stay (w' := w6) fun q hq => ho6 q (by have h1 := hq.1; have h2 := GM.out; omega)).mono (D' := fun q => w.heap.size ≤ q ∧ q < w6.heap.size) fun q hq => ⟨by have h1 := hq.1; have h2 := GM.out; have h3 := G12.out; omega, by have h1 := hq.2; have h2 := SZ9.out; omega⟩); clear hk6 hb6 hs6 ho6; (try simp only [Act.put, qA, qB, qC])))
    refine bodyPost_ret (results_blk rfl _ _ w1.heap.size 29 _ _ rfl K6.out Tryz.underlying29 rfl (size_rx HD6.out)) rfl ?_
    exact ⟨ds, rfl, D6.out, B6.out⟩
set_option maxHeartbeats 2000000 in
set_option maxRecDepth 100000 in
theorem rxCat_any (l : List T) (v : Value) (w : World) (hr : RowT w.heap.size w v l) (hn : nodesL l ≤ 274877906944) :
  Calls Tryz.prog 64 #[v] w fun e w' => ∃ ds, e = .returned (.agg ds.toArray) ∧ RxD (fun k => w.heap.size ≤ k ∧ k < w'.heap.size) w' ds (catT l) ∧ Below w.heap.size w w' := by
 have R := qH hr
 have HN := qH hn
 have HNC := qH (catT_nodes l)
 obtain ⟨i0, hi0, hz0, hz1, hz2⟩ := inf_rx'
 obtain ⟨z, hz⟩ : ∃ z, z = rxc 0 zeroS (.slice none 0 0) := ⟨_, rfl⟩
 have HZL := qH (show z.length = 6 by rw [hz]; rfl)
 have HZ0 := qH (show i0.zero = some (.agg z.toArray) by rw [hz]; exact hz0)
 clear hr hn hz hz0
 go_enter Tryz.func64, Tryz.ntmps64
 go_wp2_with ((with_reducible refine atDst 2 ?_); refine wpList_new rfl 29 rfl i0 _ z hi0 HZ0.out rfl (Below.refl w.heap.size w) (Nat.le_refl _) ?_; intro w1 hk1 hb1 hs1 _; have K1 := qH hk1; have B1 := qH hb1; clear hk1 hb1 hs1; (try simp only [Act.put, qA, qB, qC]))
 refine (rxCat0_any l v w1 ((R.out.below B1.out).monoB B1.out.size) (by have := HN.out; omega)).mono ?_
 rintro e w2 ⟨cs, rfl, hv2, hb2⟩
 have V2 := qH hv2
 have B2 := qH (B1.out.trans (hb2.mono B1.out.size))
 have K2 := qH (K1.out.below hb2 K1.out.lt)
 clear hv2 hb2
 go_wp2_with fail
 refine (rxClone_any _ (catT l) (Nat.le_refl _) (by have h1 := HNC.out; have h2 := HN.out; omega) cs w2 (fun k => k < w2.heap.size) (fun k hk => hk) V2.out).mono ?_
 rintro e w3 ⟨ds, rfl, hd3, hb3⟩
 have D3 := qH hd3
 have D6 := qH hd3.length
 have D1 := qH (show ds.all (·.oneCell') = true from List.all_eq_true.2 hd3.one)
 have B3 := qH (B2.out.trans (hb3.mono B2.out.size))
 have K3 := qH (K2.out.below hb3 K2.out.lt)
 have G2 := qH K2.out.lt
 clear hd3 hb3
 go_wp2_with ((with_reducible refine atStore 29 2 5 ?_); refine wpList_stBlk rfl 29 _ _ rfl w.heap.size ds rfl rfl 29 _ K3.out (size_rx D6.out) (by rw [HZL.out, D6.out]) D1.out B3.out (Nat.le_refl _) ?_; intro w4 hk4 hb4 hs4 ho4; have K4 := qH hk4; have B4 := qH hb4; have D4 := qH (RxD.mono (D3.out.stay (w' := w4) fun k hk => ho4 k (by have h1 := G2.out; have h2 := hk.1; omega)) (D' := fun k => w.heap.size ≤ k ∧ k < w4.heap.size) fun k hk => ⟨by have h1 := G2.out; have h2 := hk.1; omega, by have h1 := hk.2; omega⟩); clear hk4 hb4 hs4 ho4; (try simp only [Act.put, qA, qB, qC]))
 refine bodyPost_ret (results_blk rfl _ _ w.heap.size 29 _ _ rfl K4.out Tryz.underlying29 rfl (size_rx D6.out)) rfl ?_
 exact ⟨ds, rfl, D4.out, B4.out⟩
end Go.Proofs.YtopnpdobcagcgaaGreat
